/- Package timer: ticks; a timer is laid; which one is asked; its words. -/
import Derived.Test.YthfckoemldhoaaaNx
namespace Go.Proofs.Ythfckoemldhoaaa.Timer
open Go.RowKit Go.Maps Go.ChangeShapes Go.WideShapes Go.ChangeAt Fifo Orow Word
set_option linter.unusedVariables false

def moreH (h : Int) : Int := if h < 4294967295 then h + 1 else h
/-- What a hit makes of the words. -/
def hitS (s : St) : St := if s.K / 4 = 1 then ⟨0, s.L, s.K, moreH s.H⟩ else ⟨s.C, s.L, s.K - s.K % 2, moreH s.H⟩
theorem moreH_b {h : Int} (h1 : 0 ≤ h ∧ h < 4294967296) : 0 ≤ moreH h ∧ moreH h < 4294967296 := by unfold moreH; split <;> omega
theorem okS_hit {s : St} (h : OkS s) (h8 : s.K < 8) : OkS (hitS s) ∧ (hitS s).K < 8 := by
  have h2 := h.k
  have h3 := moreH_b h.h
  unfold hitS
  split
  · exact ⟨⟨⟨by show (0 : Int) ≤ 0; omega, by show (0 : Int) < _; omega⟩, h.l, h.k, h3⟩, h8⟩
  · exact ⟨⟨h.c, h.l, ⟨by show 0 ≤ s.K - s.K % 2; omega, by show s.K - s.K % 2 < _; omega⟩, h3⟩, by show s.K - s.K % 2 < 8; omega⟩
theorem hasV_4 {K : Int} (h : 0 ≤ K ∧ K < 8) : hasV K 4 = decide (K / 4 = 1) := by
  unfold hasV
  rw [decide_eq_decide]
  omega
/-- Hits is one more, but not above the greatest: its cell. -/
theorem hit_any (b : Nat) (s : St) (x : Value) (w : World) (h : TW w b s x) :
    Calls Try.prog 36 #[.pointer (some ⟨b, 0, none⟩)] w fun e w' => e = .returned (.tuple #[]) ∧ TW w' b (hitS s) x ∧ Only (fun j => j = b) w w' := by
  have hH := h.ok.h
  have hK := h.ok.k
  have h8 := h.k8
  have A := Lib.hid (add_any s.H 1 w hH.1 (by omega) hH.2 (by omega))
  have G := Lib.hid (fun w => has_any s.K 4 w ⟨hK.1, h8⟩ (.inr (.inr rfl)))
  have hm := moreH_b hH
  -- behind the first store (or without it)
  have T1 : ∀ W : World, TW W b ⟨s.C, s.L, s.K, moreH s.H⟩ x → Only (fun j => j = b) w W → s.K / 4 = 1 → TW (W.setCell ⟨b, 0, none⟩ (.int .u32 0)) b (hitS s) x ∧ Only (fun j => j = b) w (W.setCell ⟨b, 0, none⟩ (.int .u32 0)) := fun W hW ho e => by
    have := tw_set hW 0 (.int .u32 0) (s' := hitS s) (by unfold hitS; rw [if_pos e]; rfl) (okS_hit h.ok h.k8).1 (okS_hit h.ok h.k8).2
    exact ⟨this.1, ho.trans this.2⟩
  have T2 : ∀ W : World, TW W b ⟨s.C, s.L, s.K, moreH s.H⟩ x → Only (fun j => j = b) w W → ¬ s.K / 4 = 1 → TW (W.setCell ⟨b, 3, none⟩ (.int .u32 (s.K - s.K % 2))) b (hitS s) x ∧ Only (fun j => j = b) w (W.setCell ⟨b, 3, none⟩ (.int .u32 (s.K - s.K % 2))) := fun W hW ho e => by
    have := tw_set hW 3 (.int .u32 (s.K - s.K % 2)) (s' := hitS s) (by unfold hitS; rw [if_neg e]; rfl) (okS_hit h.ok h.k8).1 (okS_hit h.ok h.k8).2
    exact ⟨this.1, ho.trans this.2⟩
  have HT1 := Lib.hid T1
  have HT2 := Lib.hid T2
  clear T1 T2
  have hnot := and_not_1 ⟨hK.1, h8⟩
  rw [hasV_4 ⟨hK.1, h8⟩] at G
  have S0 := Lib.hid (tw_set h 2 (.int .u32 (moreH s.H)) (s' := ⟨s.C, s.L, s.K, moreH s.H⟩) rfl ⟨h.ok.c, h.ok.l, h.ok.k, hm⟩ h8)
  have c0 := h.c0
  have c2 := h.c2
  have c3 := h.c3
  have f0 := h.blk.frozen 0
  have f2 := h.blk.frozen 2
  have f3 := h.blk.frozen 3
  by_cases hov : s.H < 4294967295
  · have e1 : sumV s.H 1 = s.H + 1 := by unfold sumV; omega
    have e2 : sumB s.H 1 = false := decide_eq_false (by omega)
    have e3 : moreH s.H = s.H + 1 := by unfold moreH; rw [if_pos hov]
    rw [e1, e2] at A
    rw [e3] at HT1 HT2 S0
    obtain ⟨n, hn⟩ : ∃ n, s.H + 1 = n := ⟨_, rfl⟩
    rw [hn] at A HT1 HT2 S0
    clear h hH hm hov e1 e2 e3 hn
    go_enter Try.func36, Try.ntmps36
    go_wp2_with fail
    refine A.out.mono ?_
    rintro e w1 ⟨rfl, rfl⟩
    go_wp2_with fail
    refine calls_letter ?_
    intro W hW
    have S1 := Lib.hid (show TW W b _ x ∧ Only (fun j => j = b) w W by rw [hW.out]; exact S0.out)
    clear hW c0 c2 c3 f0 f2 f3
    have c0 := S1.out.1.c0
    have c3 := S1.out.1.c3
    have f0 := S1.out.1.blk.frozen 0
    have f3 := S1.out.1.blk.frozen 3
    refine (G.out _).mono ?_
    rintro e w1 ⟨rfl, rfl⟩
    by_cases h4 : s.K / 4 = 1
    · have d4 : decide (s.K / 4 = 1) = true := decide_eq_true h4
      have R := Lib.hid (HT1.out _ S1.out.1 S1.out.2 h4)
      clear h4
      go_wp2_with fail
      refine bodyPost_ret (results_none rfl _ _ _) rfl ?_
      exact ⟨rfl, R.out⟩
    · have d4 : decide (s.K / 4 = 1) = false := decide_eq_false h4
      have R := Lib.hid (HT2.out _ S1.out.1 S1.out.2 h4)
      clear h4 hK h8
      obtain ⟨m, hm⟩ : ∃ m, s.K - s.K % 2 = m := ⟨_, rfl⟩
      rw [hm] at R hnot
      clear hm
      go_wp2_with fail
      go_end0
      exact ⟨rfl, by first | exact R.out | (rw [hnot]; exact R.out)⟩
  · have e2 : sumB s.H 1 = true := decide_eq_true (by omega)
    have e3 : moreH s.H = s.H := by unfold moreH; rw [if_neg hov]
    rw [e2] at A
    rw [e3] at HT1 HT2 S0
    obtain ⟨n, hn⟩ : ∃ n, sumV s.H 1 = n := ⟨_, rfl⟩
    rw [hn] at A
    have S1 := Lib.hid h
    clear h hH hm hov e2 e3 hn S0
    go_enter Try.func36, Try.ntmps36
    go_wp2_with fail
    refine A.out.mono ?_
    rintro e w1 ⟨rfl, rfl⟩
    go_wp2_with fail
    refine (G.out _).mono ?_
    rintro e w1 ⟨rfl, rfl⟩
    by_cases h4 : s.K / 4 = 1
    · have d4 : decide (s.K / 4 = 1) = true := decide_eq_true h4
      have R := Lib.hid (HT1.out _ S1.out (Only.refl _ _) h4)
      clear h4
      go_wp2_with fail
      refine bodyPost_ret (results_none rfl _ _ _) rfl ?_
      exact ⟨rfl, R.out⟩
    · have d4 : decide (s.K / 4 = 1) = false := decide_eq_false h4
      have R := Lib.hid (HT2.out _ S1.out (Only.refl _ _) h4)
      clear h4 hK h8
      obtain ⟨m, hm⟩ : ∃ m, s.K - s.K % 2 = m := ⟨_, rfl⟩
      rw [hm] at R hnot
      clear hm
      go_wp2_with fail
      go_end0
      exact ⟨rfl, by first | exact R.out | (rw [hnot]; exact R.out)⟩
theorem tickS_off {s : St} (e : s.K % 2 = 0) : tickS s = s := by unfold tickS; rw [if_pos e]
theorem tickS_no {s : St} (e : ¬ s.K % 2 = 0) (n : incS s ≠ s.L) : tickS s = { s with C := incS s } := by unfold tickS; rw [if_neg e, if_pos n]
theorem tickS_yes {s : St} (e : ¬ s.K % 2 = 0) (n : incS s = s.L) : tickS s = hitS { s with C := incS s } := by
  have e1 : s.K % 2 = 1 := by omega
  unfold tickS hitS moreH
  rw [if_neg e, if_neg (fun h => h n)]
  simp only [e1]
theorem tick_any (b : Nat) (s : St) (x : Value) (w : World) (h : TW w b s x) :
    Calls Try.prog 24 #[.pointer (some ⟨b, 0, none⟩)] w fun e w' => e = .returned (.tuple #[]) ∧ TW w' b (tickS s) x ∧ Only (fun j => j = b) w w' := by
  have hC := h.ok.c
  have hK := h.ok.k
  have h8 := h.k8
  have A := Lib.hid (add_any s.C 1 w hC.1 (by omega) hC.2 (by omega))
  have G := Lib.hid (has_any s.K 1 w ⟨hK.1, h8⟩ (.inl rfl))
  have c0 := h.c0
  have c3 := h.c3
  have f0 := h.blk.frozen 0
  have H := Lib.hid h
  by_cases e : s.K % 2 = 0
  · have d : hasV s.K 1 = false := decide_eq_false (by omega)
    rw [tickS_off e]
    rw [d] at G
    clear h hC hK h8 e d
    go_enter Try.func24, Try.ntmps24
    go_wp2_with fail
    refine G.out.mono ?_
    rintro e w1 ⟨rfl, rfl⟩
    go_wp2_with fail
    refine bodyPost_ret (results_none rfl _ _ _) rfl ?_
    exact ⟨rfl, H.out, Only.refl _ _⟩
  · have d : hasV s.K 1 = true := decide_eq_true (by omega)
    rw [d] at G
    have ei : sumV s.C 1 = incS s := rfl
    rw [ei] at A
    have hi : 0 ≤ incS s ∧ incS s < 4294967296 := by unfold incS; omega
    have S0 := Lib.hid (tw_set h 0 (.int .u32 (incS s)) (s' := { s with C := incS s }) rfl ⟨hi, h.ok.l, h.ok.k, h.ok.h⟩ h8)
    have E1 := Lib.hid (fun n => tickS_no e n)
    have E2 := Lib.hid (fun n => tickS_yes e n)
    obtain ⟨n, hn⟩ : ∃ n, incS s = n := ⟨_, rfl⟩
    rw [hn] at A S0 E1 E2
    clear h hC hK h8 e d ei hi hn
    go_enter Try.func24, Try.ntmps24
    go_wp2_with fail
    refine G.out.mono ?_
    rintro e w1 ⟨rfl, rfl⟩
    go_wp2_with fail
    refine A.out.mono ?_
    rintro e w1 ⟨rfl, rfl⟩
    go_wp2_with fail
    refine code_letter ?_
    intro W hW
    have S1 := Lib.hid (show TW W b _ x ∧ Only (fun j => j = b) w W by rw [hW.out]; exact S0.out)
    clear hW c0 c3 f0
    have c0 := S1.out.1.c0
    have c1 := S1.out.1.c1
    by_cases hl : n = s.L
    · have d : (n == s.L) = true := beq_iff_eq.2 hl
      have HL := Lib.hid (E2.out hl)
      clear hl
      have W1 := Lib.hid (show TW W.drew b _ x from S1.out.1.keep (Below.refl _ _).drew)
      have K := Lib.hid (hit_any b _ x W.drew W1.out)
      have HO := Lib.hid (show Only (fun j => j = b) w W.drew from S1.out.2.trans (Only.of_below (Below.refl _ _).drew))
      go_region
      go_wp2_with fail
      refine K.out.mono ?_
      rintro e w2 ⟨rfl, h1, h2⟩
      have R := Lib.hid (show TW w2 b (tickS s) x ∧ Only (fun j => j = b) w w2 from ⟨by rw [HL.out]; exact h1, HO.out.trans h2⟩)
      clear h1 h2
      go_wp2_with fail
      go_end0
      exact ⟨rfl, R.out⟩
    · have d : (n == s.L) = false := by simpa using hl
      have HL := Lib.hid (E1.out hl)
      clear hl
      go_region
      go_wp2_with fail
      go_end0
      exact ⟨rfl, by rw [HL.out]; exact S1.out.1.keep (Below.refl _ _).drew, S1.out.2.trans (Only.of_below (Below.refl _ _).drew)⟩

theorem timer_info : (Try.prog.info? 45).isSome = true := by kernel_rfl
theorem eq_own (a : Addr) (w : World) : (binOp .eql 27 (.pointer (some a)) (.pointer (some a))).run Try.prog w = .ok (.bool true) w := by
  obtain ⟨j, hj⟩ := Option.isSome_iff_exists.1 timer_info
  exact run_eql_ptr_same w a Try.underlying27 hj
theorem eq_nil (a : Addr) (w : World) : (binOp .eql 27 (.pointer none) (.pointer (some a))).run Try.prog w = .ok (.bool false) w := by
  have h : ∀ d : Nat, (Op.equalIn (d + 1) 27 (.pointer none) (.pointer (some a))).run Try.prog w = .ok false w := fun d => by
    simp [Op.equalIn, run_underlying Try.underlying27]
  simp only [binOp]
  simp [Op.equal, Op.maxDepth, h 9999]
theorem is_yes (b : Nat) (w : World) (h : w.cell? ⟨b, 4, none⟩ = some (.pointer (some ⟨b, 0, none⟩))) :
    Calls Try.prog 29 #[.pointer (some ⟨b, 0, none⟩)] w fun e w' => e = .returned (.bool true) ∧ w = w' := by
  have he := eq_own ⟨b, 0, none⟩ w
  go_enter Try.func29, Try.ntmps29
  go_wp2_with fail
  go_ret
  exact ⟨rfl, rfl⟩
/-- No timer: none at all, or one that was not answered. -/
def zeroCells : Array Value := (cellsT zeroS (.pointer none)).toArray
def ZeroAt (w : World) (b : Nat) : Prop := TW w b zeroS (.pointer none)
theorem okS_zero : OkS zeroS := ⟨by show (0 : Int) ≤ 0 ∧ (0 : Int) < _; omega, by show (0 : Int) ≤ 0 ∧ (0 : Int) < _; omega, by show (0 : Int) ≤ 0 ∧ (0 : Int) < _; omega, by show (0 : Int) ≤ 0 ∧ (0 : Int) < _; omega⟩
theorem zero_new (w : World) : ZeroAt (w.alloc (.cells zeroCells 45)) w.heap.size := ⟨Blk.new w _ _, okS_zero, by show (0 : Int) < 8; omega⟩
theorem ZeroAt.keep {w w' : World} {b : Nat} (h : ZeroAt w b) (hb : Below w.heap.size w w') : ZeroAt w' b := TW.keep h hb
def Non (w : World) (v : Value) : Prop := v = .pointer none ∨ ∃ b, v = .pointer (some ⟨b, 0, none⟩) ∧ ZeroAt w b
theorem Non.keep {w w' : World} {v : Value} (h : Non w v) (hb : Below w.heap.size w w') : Non w' v := by
  rcases h with rfl | ⟨b, rfl, h⟩
  · exact .inl rfl
  · exact .inr ⟨b, rfl, h.keep hb⟩
theorem is_non (v : Value) (w : World) (h : Non w v) :
    Calls Try.prog 29 #[v] w fun e w' => e = .returned (.bool false) ∧ w = w' := by
  rcases h with rfl | ⟨b, rfl, h⟩
  · go_enter Try.func29, Try.ntmps29
    go_wp2_with fail
    go_ret
    exact ⟨rfl, rfl⟩
  · have c1 := TW.c4 h
    have he := eq_nil ⟨b, 0, none⟩ w
    clear h
    go_enter Try.func29, Try.ntmps29
    go_wp2_with fail
    go_ret
    exact ⟨rfl, rfl⟩
theorem timer_yes (b : Nat) (w : World) (h : w.cell? ⟨b, 4, none⟩ = some (.pointer (some ⟨b, 0, none⟩))) :
    Calls Try.prog 22 #[.pointer (some ⟨b, 0, none⟩)] w fun e w' => e = .returned (.pointer (some ⟨b, 0, none⟩)) ∧ w = w' := by
  have H := Lib.hid (is_yes b w h)
  clear h
  go_enter Try.func22, Try.ntmps22
  go_wp2_with fail
  refine H.out.mono ?_
  rintro e w1 ⟨rfl, rfl⟩
  go_wp2_with fail
  go_ret
  exact ⟨rfl, rfl⟩
/-- A fresh one that nobody has: its block is new. -/
theorem timer_non (v : Value) (w : World) (h : Non w v) :
    Calls Try.prog 22 #[v] w fun e w' => (∃ b, e = .returned (.pointer (some ⟨b, 0, none⟩)) ∧ ZeroAt w' b ∧ w.heap.size ≤ b) ∧ Below w.heap.size w w' := by
  have H := Lib.hid (is_non v w h)
  clear h
  go_enter Try.func22, Try.ntmps22
  go_wp2_with fail
  refine H.out.mono ?_
  rintro e w1 ⟨rfl, rfl⟩
  go_wp2_with fail
  go_ret
  exact ⟨⟨_, rfl, zero_new w, Nat.le_refl _⟩, (Below.refl _ _).alloc (Nat.le_refl _) _⟩
end Go.Proofs.Ythfckoemldhoaaa.Timer
