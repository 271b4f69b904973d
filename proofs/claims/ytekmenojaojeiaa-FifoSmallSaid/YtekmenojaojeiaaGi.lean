/- The walk of FifoSmall. -/
import Derived.Test.YtekmenojaojeiaaGh
import Derived.Test.YtekmenojaojeiaaFnS
import Derived.Laws.IdiomStrings
namespace Go.Proofs.Ytekmenojaojeiaa.Fifo5
open Go.RowKit Go.Maps Go.Shelf Fifo FI
set_option linter.unusedVariables false
attribute [local go_sem] Oper.semAt_some

theorem info_d : (Try.prog.info? 32).map (fun i => (i.zero, i.size, i.bytes)) = some (some (.agg #[.int .i64 0, .int .i64 0]), 2, 16) := by kernel_rfl
/-- An own row of deeds. -/
def OwnD (w : World) (B : Nat) (v : Value) (n : Nat) : Prop := ∃ xs : List Value, w.ownsRow B 32 2 v n xs ∧ ∀ i, i < n * 2 → ∃ z, xs[i]? = some (.int .i64 z)
theorem OwnD.rowd {w : World} {B : Nat} {a : Option Addr} {n c : Nat} (h : OwnD w B (.slice a n c) n) : RowD w a n := by
  obtain ⟨xs, h, hx⟩ := h
  intro j hj
  obtain ⟨p, hp⟩ := hx (j * 2) (by omega)
  obtain ⟨x, hx⟩ := hx (j * 2 + 1) (by omega)
  rcases h.2 with ⟨h1, rfl⟩ | ⟨g, cap, cur, h1, _⟩
  · omega
  · simp only [Value.slice.injEq] at h1
    obtain ⟨rfl, _⟩ := h1
    have k0 := h.cells (g := g) rfl _ _ hp
    have k1 := h.cells (g := g) rfl _ _ hx
    rw [add_plain] at k0 k1
    exact ⟨g, 0, p, x, rfl, k0, by rw [Nat.add_assoc]; exact k1⟩
theorem OwnD.nil (w : World) (B : Nat) : OwnD w B (.slice none 0 0) 0 := ⟨[], World.ownsRow_nil _ _ _ _, fun i hi => by omega⟩
theorem OwnD.keep {w w' : World} {B n : Nat} {v : Value} (h : OwnD w B v n) (hb : Below w.heap.size w w') : OwnD w' B v n := by
  obtain ⟨xs, h, hx⟩ := h
  refine ⟨xs, ⟨h.1, ?_⟩, hx⟩
  rcases h.2 with h2 | ⟨g, cap, cur, rfl, hg, hh, r⟩
  · exact .inl h2
  · exact .inr ⟨g, cap, cur, rfl, hg, (hb.block g (Array.getElem?_eq_some_iff.1 hh).1).trans hh, r⟩
theorem OwnD.snoc {w : World} {B n : Nat} {v : Value} {xs : List Value} {p x : Int} (h : w.ownsRow B 32 2 v (n + 1) (xs ++ [.int .i64 p, .int .i64 x])) (hl : xs.length = n * 2) (hx : ∀ i, i < n * 2 → ∃ z, xs[i]? = some (.int .i64 z)) : OwnD w B v (n + 1) := by
  refine ⟨_, h, fun i hi => ?_⟩
  by_cases h1 : i < n * 2
  · rw [List.getElem?_append_left (by omega)]
    exact hx i h1
  · rw [List.getElem?_append_right (by omega), hl]
    have : i - n * 2 = 0 ∨ i - n * 2 = 1 := by omega
    rcases this with e | e
    · rw [e]; exact ⟨p, rfl⟩
    · rw [e]; exact ⟨x, rfl⟩
theorem OwnD.shape {w : World} {B n : Nat} {v : Value} (h : OwnD w B v n) : ∃ a c, v = .slice a n c := by
  obtain ⟨xs, h, _⟩ := h
  rcases h.2 with ⟨rfl, rfl⟩ | ⟨g, cap, cur, rfl, _⟩
  · exact ⟨_, _, rfl⟩
  · exact ⟨_, _, rfl⟩
theorem cells_two (w : World) (p x : Value) (t : TypeId) : ∀ j u, [p, x][j]? = some u → (w.alloc (.cells #[p, x] t)).cell? ((⟨w.heap.size, 0, none⟩ : Addr).add j) = some u := by
  intro j u hj
  rw [add_plain, Nat.zero_add, World.cell?_alloc_at _ _ _ _ rfl]
  simpa using hj

theorem rowd_four (w : World) (t : TypeId) (p0 x0 p1 x1 p2 x2 p3 x3 : Int) : RowD (w.alloc (.cells #[.int .i64 p0, .int .i64 x0, .int .i64 p1, .int .i64 x1, .int .i64 p2, .int .i64 x2, .int .i64 p3, .int .i64 x3] t)) (some ⟨w.heap.size, 0, none⟩) 4 := by
  intro j hj
  have h := fun i => World.cell?_alloc_at (w := w) #[.int .i64 p0, .int .i64 x0, .int .i64 p1, .int .i64 x1, .int .i64 p2, .int .i64 x2, .int .i64 p3, .int .i64 x3] t w.heap.size i rfl
  match j, hj with
  | 0, _ => exact ⟨_, 0, p0, x0, rfl, h 0, h 1⟩
  | 1, _ => exact ⟨_, 0, p1, x1, rfl, h 2, h 3⟩
  | 2, _ => exact ⟨_, 0, p2, x2, rfl, h 4, h 5⟩
  | 3, _ => exact ⟨_, 0, p3, x3, rfl, h 6, h 7⟩
theorem wf_of {v : Int} (h : -9223372036854775808 ≤ v ∧ v ≤ 9223372036854775807) : (Lit.int .i64 v).wf = true := by
  simp only [Lit.wf, Bool.and_eq_true, decide_eq_true_eq]
  have h1 : IntKind.i64.min = -9223372036854775808 := rfl
  have h2 : IntKind.i64.max = 9223372036854775807 := rfl
  omega
theorem conv_one (w : World) (b : UInt8) (n : Int) (hb : (b.toNat : Int) = n) :
    (convert 48 9 (.slice (some ⟨w.heap.size, 0, none⟩) 1 1)).run Try.prog (w.alloc (.cells #[.int .u8 n] 5)) = .ok (.string ⟨#[b]⟩) (w.alloc (.cells #[.int .u8 n] 5)) := by
  have h := run_convert_bytes_back (P := Try.prog) (w.alloc (.cells #[.int .u8 n] 5)) 48 9 5 ⟨w.heap.size, 0, none⟩ 1 [b] Try.underlying48 Try.underlying5 Try.underlying9 (fun j hj => by
    simp only [List.length_cons, List.length_nil] at hj
    obtain rfl : j = 0 := by omega
    rw [add_plain, World.cell?_alloc_at _ _ _ _ rfl]
    simp [hb])
  exact h
theorem callsIn_round {lp n : Nat} {P : Program} {f : FuncId} {args : Array Value} {w : World} {R : Ending → World → Prop} (h : Calls P f args w R) : CallsIn (Fence.wide.inRound lp) n P f args w R := (callsIn_wide (n := n)).2 h
theorem deeds_alloc {w : World} {B n : Nat} {v : Value} {xs : List Value} (h : w.ownsRow B 32 2 v n xs) (o : Obj) : (w.alloc o).ownsRow B 32 2 v n xs := h.alloc o
theorem deed_step {w w1 w5 : World} {c n : Nat} {v v' : Value} {xs : List Value} {p x : Int} {o : Obj} (hr : Blk w1 c 4 [.bool false]) (hl : Below w.heap.size w w1) (hc : w.heap.size ≤ c + 1)
    (hxs : w1.ownsRow (c + 1) 32 2 v n xs) (hxx : ∀ i, i < n * 2 → ∃ z, xs[i]? = some (.int .i64 z)) (h1 : w5.ownsRow (c + 1) 32 2 v' (n + 1) (xs ++ [.int .i64 p, .int .i64 x]))
    (h2 : (w1.alloc o).grownBy w5 v.ownBlock) : ∃ a cp, v' = .slice a (n + 1) cp ∧ OwnD w5 (c + 1) v' (n + 1) ∧ Blk w5 c 4 [.bool false] ∧ Below w.heap.size w w5 := by
  have hd := OwnD.snoc h1 hxs.1 hxx
  obtain ⟨a, cp, hv⟩ := hd.shape
  have ho := app_only h2
  exact ⟨a, cp, hv, hd, hr.only ho (fun hp => by have := (hxs.lt _ hp).1; omega), hl.trans (ho.below hl.size (fun j hj => Nat.le_trans hc (hxs.lt _ hj).1))⟩

set_option maxRecDepth 100000 in
set_option maxHeartbeats 8000000 in
theorem small_walk (w : World) : Calls Try.prog 4 #[] w fun e w' => e = .returned (.bool true) ∧ Below w.heap.size w w' := by
  obtain ⟨i0, hi, hz0, hz1, hz2⟩ := info_parts info_d
  have Hi := Lib.hid hi
  have Hz0 := Lib.hid hz0
  have Hz1 := Lib.hid hz1
  have Hz2 := Lib.hid hz2
  clear hi hz0 hz1 hz2
  refine (callsIn_wide (n := 4)).1 ?_
  refine callsIn_of_wp_marks Try.func4 rfl trivial ?_ rfl
  simp only [Try.ntmps4, List.size_toArray, List.length_nil, Nat.reduceSub, Array.replicate_succ, Array.replicate_zero, List.push_toArray, List.append_toArray, List.nil_append, List.cons_append]
  refine wpIn_wide.2 ?_
  obtain ⟨c, hc⟩ : ∃ c, w.heap.size = c := ⟨_, rfl⟩
  have hr := Blk.new w 4 [.bool false]
  have hl := (Below.refl w.heap.size w).alloc (Nat.le_refl _) (.cells #[.bool false] 4)
  rw [hc] at hr
  have Hr := Lib.hid hr
  have Hl := Lib.hid hl
  clear hr hl
  go_wp2_with fail
  refine code_letter ?_
  intro W hW
  rw [← hW.out] at Hr Hl
  have Hc := Lib.hid hc
  clear hW hc
  go_loopw [1] (fun p wr => ∃ n : Nat, n ≤ 4096 ∧ p = .int .i64 n ∧ Blk wr c 4 [.bool false] ∧ Below w.heap.size w wr) (fun p _ => 4096 - (intOf p).toNat)
  case atStart => exact ⟨0, by omega, rfl, Hr.out, Hl.out⟩
  case round =>
    obtain ⟨n, hn, rfl, hr, hl⟩ := hrel
    have Hr := Lib.hid hr
    have Hl := Lib.hid hl
    clear hr hl
    by_cases hlt : n < 4096
    · have e1 : decide ((n : Int) < 4096) = true := decide_eq_true (by omega)
      go_wp2_with fail
      go_loopw [2, 3] (fun v p wx => ∃ k : Nat, k ≤ 6 ∧ p = .int .i64 k ∧ OwnD wx (c + 1) v k ∧ Blk wx c 4 [.bool false] ∧ Below w.heap.size w wx) (fun _ p _ => 6 - (intOf p).toNat)
      case atStart => exact ⟨0, by omega, rfl, OwnD.nil _ _, Hr.out, Hl.out⟩
      case round =>
        obtain ⟨k, hk, rfl, ho, hr, hl⟩ := hrel
        have Ho := Lib.hid ho
        have Hr2 := Lib.hid hr
        have Hl2 := Lib.hid hl
        clear ho hr hl
        by_cases hk6 : k < 6
        · have e2 : decide ((k : Int) < 6) = true := decide_eq_true (by omega)
          obtain ⟨a, cp, hv⟩ := Ho.out.shape
          subst hv
          obtain ⟨xs, hxs, hxx⟩ := Ho.out
          have HXS := Lib.hid hxs
          have HXX := Lib.hid hxx
          clear hxs hxx Ho
          go_wp2_with (at_builtin; refine wpList_append_own_at _ rfl _ _ 22 rfl (c + 1) 32 i0 (.agg #[.int .i64 0, .int .i64 0]) 2 16 Try.underlying22 Hi.out Hz0.out Hz1.out Hz2.out rfl (by decide) _ _ _ rfl (deeds_alloc HXS.out _) ⟨wr.heap.size, 0, none⟩ 1 1 _ rfl rfl (cells_two _ _ _ _) (by simp [Value.oneCell']) (by unfold maxLen; omega) (by omega) (by have := Hr2.out.lt; simp; omega) ?_; intro v' w5 h1 h2 _ h4; obtain ⟨a5, c5, hv5, hd5, hr5, hl5⟩ := deed_step Hr2.out Hl2.out (by rw [Hc.out]; omega) HXS.out HXX.out h1 h2; subst hv5; have HD5 := Lib.hid hd5; have HR5 := Lib.hid hr5; have HL5 := Lib.hid hl5; clear h1 h2 h4 hd5 hr5 hl5)
          exact ⟨⟨k + 1, by omega, by go_num, HD5.out, HR5.out, HL5.out⟩, by simp [intOf]; omega⟩
        · obtain rfl : k = 6 := by omega
          have e2 : decide (((6 : Nat) : Int) < 6) = false := rfl
          obtain ⟨a, cp, hv⟩ := Ho.out.shape
          subst hv
          obtain ⟨xs, hxs, hxx⟩ := Ho.out
          have HXS := Lib.hid hxs
          have HXX := Lib.hid hxx
          clear hxs hxx Ho
          go_wp2_with (at_builtin; refine wpList_append_own_at _ rfl _ _ 22 rfl (c + 1) 32 i0 (.agg #[.int .i64 0, .int .i64 0]) 2 16 Try.underlying22 Hi.out Hz0.out Hz1.out Hz2.out rfl (by decide) _ _ _ rfl (deeds_alloc HXS.out _) ⟨wr.heap.size, 0, none⟩ 1 1 _ rfl rfl (cells_two _ _ _ _) (by simp [Value.oneCell']) (by unfold maxLen; omega) (by omega) (by have := Hr2.out.lt; simp; omega) ?_; intro v' w5 h1 h2 _ h4; obtain ⟨a5, c5, hv5, hd5, hr5, hl5⟩ := deed_step Hr2.out Hl2.out (by rw [Hc.out]; omega) HXS.out HXX.out h1 h2; subst hv5; have HD5 := Lib.hid hd5; have HR5 := Lib.hid hr5; have HL5 := Lib.hid hl5; clear h1 h2 h4 hd5 hr5 hl5)
          refine (does_walk _ _ _ _ _ (wf_of (by omega)) HD5.out.rowd).mono ?_
          rintro e w6 ⟨rfl, hb6⟩
          have HR6 := Lib.hid (HR5.out.keep hb6)
          have HL6 := Lib.hid (HL5.out.trans (hb6.mono HL5.out.size))
          clear hb6 HR5 HL5 HD5
          go_wp2_with fail
          exact ⟨⟨n + 1, by omega, by go_num, HR6.out, HL6.out⟩, by simp [intOf]; omega⟩
    · obtain rfl : n = 4096 := by omega
      have e1 : decide (((4096 : Nat) : Int) < 4096) = false := rfl
      go_wp2_with fail
      refine (does_walk _ _ _ _ _ (wf_of (by omega)) (rowd_four _ _ 0 1 4 2 1 0 3 0)).mono ?_
      rintro e w1 ⟨rfl, hb⟩
      have hb1 : Below wr.heap.size wr w1 := ((Below.refl _ wr).alloc (Nat.le_refl _) _).trans (hb.mono (by simp))
      have HR1 := Lib.hid (Hr.out.keep hb1)
      have HL1 := Lib.hid (Hl.out.trans (hb1.mono Hl.out.size))
      clear hb hb1 Hr Hl
      go_wp2_with fail
      refine (does_walk _ _ _ _ _ (wf_of (by omega)) (rowd_nil _ _)).mono ?_
      rintro e w2 ⟨rfl, hb⟩
      have HR2 := Lib.hid (HR1.out.keep hb)
      have HL2 := Lib.hid (HL1.out.trans (hb.mono HL1.out.size))
      clear hb HR1 HL1
      go_wp2_with fail
      refine (does_walk _ _ _ _ _ (wf_of (by omega)) (rowd_nil _ _)).mono ?_
      rintro e w3 ⟨rfl, hb⟩
      have HR3 := Lib.hid (HR2.out.keep hb)
      have HL3 := Lib.hid (HL2.out.trans (hb.mono HL2.out.size))
      clear hb HR2 HL2
      go_wp2_with fail
      refine (FS.New_st 9 _ (by omega)).mono ?_
      rintro e w4 ⟨b, O0, rfl, hS, hO, hb⟩
      obtain ⟨fb, hfb⟩ : ∃ c, w4.heap.size = c := ⟨_, rfl⟩
      have ha := (Below.refl w4.heap.size w4).alloc (Nat.le_refl _) (.cells #[.pointer (some ⟨b, 0, none⟩)] 40)
      have hf := Blk.new w4 40 [.pointer (some ⟨b, 0, none⟩)]
      rw [hfb] at hf
      have hrl := HR3.out.lt
      have hb3 := hb.size
      have HN0 := Lib.hid (show ∀ j, O0 j → j ≠ c ∧ j ≠ fb from fun j hj => by have h1 := hO j hj; have h2 := hS.lt j hj; exact ⟨by omega, by omega⟩)
      have HS0 := Lib.hid (hS.keep ha)
      have HO0 := Lib.hid (show ∀ j, O0 j → w.heap.size ≤ j from fun j hj => Nat.le_trans HL3.out.size (hO j hj))
      have HF0 := Lib.hid hf
      have HR0 := Lib.hid ((HR3.out.keep hb).keep ha)
      have HL0 := Lib.hid ((HL3.out.trans (hb.mono HL3.out.size)).trans (ha.mono (Nat.le_trans HL3.out.size hb.size)))
      have hfc := Lib.hid (show c ≠ fb by omega)
      clear hS hO hb ha hf HR3 HL3 hrl hb3
      go_wp2_with fail
      refine calls_letter ?_
      intro V0 hV
      rw [← hV.out] at HS0 HF0 HR0 HL0
      have qf := HF0.out.at 0 rfl
      clear hV hfb
      refine (FS.Put_st b 9 ([]) ([.string (ByteArray.mk #[97])]) O0 (.string (ByteArray.mk #[97])) true _ HS0.out (by simp) ⟨_, rfl⟩ (by simp) rfl).mono ?_
      rintro e w1 ⟨rfl, O1, h1, h2, h3⟩
      have HS1 := Lib.hid h1
      obtain ⟨hb, hO⟩ := own_step HL0.out (Nat.le_refl _) HO0.out h2 h3
      have hn := HN0.out
      have HR1 := Lib.hid (HR0.out.only h2 (fun hh => (hn c hh).1 rfl))
      have HF1 := Lib.hid (HF0.out.only h2 (fun hh => (hn fb hh).2 rfl))
      have HN1 := Lib.hid (show ∀ j, O1 j → j ≠ c ∧ j ≠ fb from fun j hj => (h3 j hj).elim (hn j) (fun e => by have := HR0.out.lt; have := HF0.out.lt; exact ⟨by omega, by omega⟩))
      have HL1 := Lib.hid hb
      have HO1 := Lib.hid hO
      clear h1 h2 h3 hb hO hn HS0 HO0 HL0 HN0 HR0 HF0 qf
      have qf := HF1.out.at 0 rfl
      go_wp2_with fail
      refine (FS.Put_st b 9 ([.string (ByteArray.mk #[97])]) ([.string (ByteArray.mk #[97]), .string (ByteArray.mk #[98])]) O1 (.string (ByteArray.mk #[98])) true _ HS1.out (by simp) ⟨_, rfl⟩ (by simp) rfl).mono ?_
      rintro e w1 ⟨rfl, O2, h1, h2, h3⟩
      have HS2 := Lib.hid h1
      obtain ⟨hb, hO⟩ := own_step HL1.out (Nat.le_refl _) HO1.out h2 h3
      have hn := HN1.out
      have HR2 := Lib.hid (HR1.out.only h2 (fun hh => (hn c hh).1 rfl))
      have HF2 := Lib.hid (HF1.out.only h2 (fun hh => (hn fb hh).2 rfl))
      have HN2 := Lib.hid (show ∀ j, O2 j → j ≠ c ∧ j ≠ fb from fun j hj => (h3 j hj).elim (hn j) (fun e => by have := HR1.out.lt; have := HF1.out.lt; exact ⟨by omega, by omega⟩))
      have HL2 := Lib.hid hb
      have HO2 := Lib.hid hO
      clear h1 h2 h3 hb hO hn HS1 HO1 HL1 HN1 HR1 HF1 qf
      have qf := HF2.out.at 0 rfl
      go_wp2_with fail
      refine (FS.Put_st b 9 ([.string (ByteArray.mk #[97]), .string (ByteArray.mk #[98])]) ([.string (ByteArray.mk #[97]), .string (ByteArray.mk #[98]), .string (ByteArray.mk #[99])]) O2 (.string (ByteArray.mk #[99])) true _ HS2.out (by simp) ⟨_, rfl⟩ (by simp) rfl).mono ?_
      rintro e w1 ⟨rfl, O3, h1, h2, h3⟩
      have HS3 := Lib.hid h1
      obtain ⟨hb, hO⟩ := own_step HL2.out (Nat.le_refl _) HO2.out h2 h3
      have hn := HN2.out
      have HR3 := Lib.hid (HR2.out.only h2 (fun hh => (hn c hh).1 rfl))
      have HF3 := Lib.hid (HF2.out.only h2 (fun hh => (hn fb hh).2 rfl))
      have HN3 := Lib.hid (show ∀ j, O3 j → j ≠ c ∧ j ≠ fb from fun j hj => (h3 j hj).elim (hn j) (fun e => by have := HR2.out.lt; have := HF2.out.lt; exact ⟨by omega, by omega⟩))
      have HL3 := Lib.hid hb
      have HO3 := Lib.hid hO
      clear h1 h2 h3 hb hO hn HS2 HO2 HL2 HN2 HR2 HF2 qf
      have qf := HF3.out.at 0 rfl
      obtain ⟨ni, hni⟩ : ∃ c, w1.heap.size = c := ⟨_, rfl⟩
      have ha := (Below.refl w1.heap.size w1).alloc (Nat.le_refl _) (.cells #[.int .i64 0] 3)
      have hi0 := Blk.new w1 3 [.int .i64 0]
      rw [hni] at hi0
      have hrl := HR3.out.lt
      have hfl := HF3.out.lt
      have HN4 := Lib.hid (show ∀ j, O3 j → j ≠ c ∧ j ≠ fb ∧ j ≠ ni from fun j hj => ⟨(HN3.out j hj).1, (HN3.out j hj).2, by have := HS3.out.lt j hj; omega⟩)
      have HS4 := Lib.hid (HS3.out.keep ha)
      have HR4 := Lib.hid (HR3.out.keep ha)
      have HF4 := Lib.hid (HF3.out.keep ha)
      have HI4 := Lib.hid hi0
      have HL4 := Lib.hid (HL3.out.trans (ha.mono HL3.out.size))
      have Hne := Lib.hid (show c ≠ ni ∧ fb ≠ ni ∧ w.heap.size ≤ ni by have := HL3.out.size; exact ⟨by omega, by omega, by omega⟩)
      clear ha hi0 hrl hfl HN3 HS3 HR3 HF3 HL3 qf
      have qf := HF4.out.at 0 rfl
      go_wp2_with fail
      refine (FS.All_st b 9 _ O3 _ HS4.out).mono ?_
      rintro e w5 ⟨box, rfl, hbox, hb5, hseq⟩
      have Hseq := Lib.hid hseq
      have HS5 := Lib.hid (HS4.out.keep hb5)
      have HR5 := Lib.hid (HR4.out.keep hb5)
      have HF5 := Lib.hid (HF4.out.keep hb5)
      have HI5 := Lib.hid (HI4.out.keep hb5)
      have HL5 := Lib.hid (HL4.out.trans (hb5.mono HL4.out.size))
      clear hbox hb5 hseq HS4 HR4 HF4 HI4 HL4 hni qf
      go_wp2_with fail
      refine (wpIn_wide (n := 4)).1 ?_
      have hsl := HS5.out.lt
      have hil := HI5.out.lt
      refine range_law rfl (by omega) (gf := 40) (bound := #[]) (lb := #[.pointer (some ⟨box, 0, none⟩)]) rfl trivial (enters_of Try.func40 (by kernel_rfl) rfl)
        (Hseq.out 3 w5 (by omega) (Below.refl _ _)) (fun _ => rfl) (fun _ h => h.elim)
        (fun k T X => k ≤ 1 ∧ ∃ O, (T = fun j => O j ∨ j = ni) ∧ (∀ j, O j → w.heap.size ≤ j ∧ j ≠ c ∧ j ≠ fb ∧ j ≠ ni) ∧ FS.St X b 9 ([.string (ByteArray.mk #[97]), .string (ByteArray.mk #[98]), .string (ByteArray.mk #[99])].drop k) O ∧ Blk X ni 3 [.int .i64 (k : Nat)] ∧ Blk X c 4 [.bool false] ∧ Blk X fb 40 [.pointer (some ⟨b, 0, none⟩)] ∧ Below w.heap.size w X)
        (fun k cd T X => cd = .exit 4 ∧ ∃ O, (T = fun j => O j ∨ j = ni) ∧ (∀ j, O j → w.heap.size ≤ j ∧ j ≠ c ∧ j ≠ fb ∧ j ≠ ni) ∧ FS.St X b 9 [.string (ByteArray.mk #[99])] O ∧ Blk X ni 3 [.int .i64 2] ∧ Blk X c 4 [.bool false] ∧ Blk X fb 40 [.pointer (some ⟨b, 0, none⟩)] ∧ Below w.heap.size w X)
        (fun j => O3 j ∨ j = ni) (fun _ _ h => h) (fun j hj => hj.elim (hsl j) (fun e => e ▸ hil))
        (fun k T W W' h hk => by
          obtain ⟨h0, O, h1, h2, h3, h4, h5, h6, h7⟩ := h
          exact ⟨h0, O, h1, h2, h3.book hk, h4.book hk, h5.book hk, h6.book hk, hk.below h7 HL5.out.size⟩)
        (fun k cd T W W' h hk => by
          obtain ⟨h0, O, h1, h2, h3, h4, h5, h6, h7⟩ := h
          exact ⟨h0, O, h1, h2, h3.book hk, h4.book hk, h5.book hk, h6.book hk, hk.below h7 HL5.out.size⟩)
        (fun k T W j h hj => by
          obtain ⟨h0, O, h1, h2, h3, h4, h5, h6, h7⟩ := h
          rw [h1] at hj
          exact hj.elim (h3.lt j) (fun e => e ▸ h4.lt))
        ⟨by omega, O3, rfl, fun j hj => ⟨HO3.out j hj, HN4.out j hj⟩, HS5.out, HI5.out, HR5.out, HF5.out, HL5.out⟩ ?round ?done ?stop
      case round =>
        intro lp k T W0 hk
        match k, hk with
        | 0, _ =>
          rw [show FS.els [.string (ByteArray.mk #[97]), .string (ByteArray.mk #[98]), .string (ByteArray.mk #[99])] 0 = #[.int .i64 0, .string (ByteArray.mk #[97])] from rfl]
          gi_wp2
          refine ⟨trivial, ?_⟩
          rintro W hsz ⟨_, O, rfl, h2, h3, h4, h5, h6, h7⟩ hT
          have qf := h6.at 0 rfl
          have H2 := Lib.hid h2
          have H3 := Lib.hid h3
          have H4 := Lib.hid h4
          have H5 := Lib.hid h5
          have H6 := Lib.hid h6
          have H7 := Lib.hid h7
          clear h2 h3 h4 h5 h6 h7 hT
          gi_wp2_with fail
          refine ⟨trivial, callsIn_round ((FS.Take_cons b 9 (.string (ByteArray.mk #[97])) [.string (ByteArray.mk #[98]), .string (ByteArray.mk #[99])] O W H3.out).mono ?_)⟩
          rintro e w6 ⟨rfl, k1, k2⟩
          have K3 := Lib.hid k1
          have K4 := Lib.hid (H4.out.only k2 (fun hh => (H2.out ni hh).2.2.2 rfl))
          have K5 := Lib.hid (H5.out.only k2 (fun hh => (H2.out c hh).2.1 rfl))
          have K6 := Lib.hid (H6.out.only k2 (fun hh => (H2.out fb hh).2.2.1 rfl))
          have K7 := Lib.hid (H7.out.trans (k2.below H7.out.size (fun j hj => (H2.out j hj).1)))
          have K2 := Lib.hid k2
          have hcv := conv_one w6 97 97 rfl
          have ha := (Below.refl w6.heap.size w6).alloc (Nat.le_refl _) (.cells #[.int .u8 97] 5)
          have qn := (K4.out.keep ha).at 0 rfl
          have un := (K4.out.keep ha).frozen 0
          have qm := K4.out.at 0 rfl
          have HA := Lib.hid ha
          clear k1 k2 qf H3 H4 H5 H6 H7 ha
          gi_wp2_with fail
          have hset : Only (fun j => j = ni) (w6.alloc (.cells #[.int .u8 97] 5)) ((w6.alloc (.cells #[.int .u8 97] 5)).setCell ⟨ni, 0, none⟩ (.int .i64 1)) := (Only.refl (fun j => j = ni) _).setCell (p := ⟨ni, 0, none⟩) rfl _
          refine ⟨_, fun j h => .inl h, ((K2.out.mono (fun j _ e => .inl e)).trans (Only.of_below HA.out)).trans (hset.mono (fun j _ e => .inr e)), by omega, O, rfl, H2.out, (K3.out.keep HA.out).only hset (fun j hj => (H2.out j hj).2.2.2), (K4.out.keep HA.out).set 0 (.int .i64 1), (K5.out.keep HA.out).other (p := ⟨ni, 0, none⟩) Hne.out.1 _, (K6.out.keep HA.out).other (p := ⟨ni, 0, none⟩) Hne.out.2.1 _, ?_⟩
          exact (K7.out.trans (HA.out.mono K7.out.size)).setCell (p := ⟨ni, 0, none⟩) Hne.out.2.2 _
        | 1, _ =>
          rw [show FS.els [.string (ByteArray.mk #[97]), .string (ByteArray.mk #[98]), .string (ByteArray.mk #[99])] 1 = #[.int .i64 1, .string (ByteArray.mk #[98])] from rfl]
          gi_wp2
          refine ⟨trivial, ?_⟩
          rintro W hsz ⟨_, O, rfl, h2, h3, h4, h5, h6, h7⟩ hT
          have qf := h6.at 0 rfl
          have H2 := Lib.hid h2
          have H3 := Lib.hid h3
          have H4 := Lib.hid h4
          have H5 := Lib.hid h5
          have H6 := Lib.hid h6
          have H7 := Lib.hid h7
          clear h2 h3 h4 h5 h6 h7 hT
          gi_wp2_with fail
          refine ⟨trivial, callsIn_round ((FS.Take_cons b 9 (.string (ByteArray.mk #[98])) [.string (ByteArray.mk #[99])] O W H3.out).mono ?_)⟩
          rintro e w6 ⟨rfl, k1, k2⟩
          have K3 := Lib.hid k1
          have K4 := Lib.hid (H4.out.only k2 (fun hh => (H2.out ni hh).2.2.2 rfl))
          have K5 := Lib.hid (H5.out.only k2 (fun hh => (H2.out c hh).2.1 rfl))
          have K6 := Lib.hid (H6.out.only k2 (fun hh => (H2.out fb hh).2.2.1 rfl))
          have K7 := Lib.hid (H7.out.trans (k2.below H7.out.size (fun j hj => (H2.out j hj).1)))
          have K2 := Lib.hid k2
          have hcv := conv_one w6 98 98 rfl
          have ha := (Below.refl w6.heap.size w6).alloc (Nat.le_refl _) (.cells #[.int .u8 98] 5)
          have qn := (K4.out.keep ha).at 0 rfl
          have un := (K4.out.keep ha).frozen 0
          have qm := K4.out.at 0 rfl
          have HA := Lib.hid ha
          clear k1 k2 qf H3 H4 H5 H6 H7 ha
          gi_wp2_with fail
          have hset : Only (fun j => j = ni) (w6.alloc (.cells #[.int .u8 98] 5)) ((w6.alloc (.cells #[.int .u8 98] 5)).setCell ⟨ni, 0, none⟩ (.int .i64 2)) := (Only.refl (fun j => j = ni) _).setCell (p := ⟨ni, 0, none⟩) rfl _
          refine ⟨_, fun j h => .inl h, ((K2.out.mono (fun j _ e => .inl e)).trans (Only.of_below HA.out)).trans (hset.mono (fun j _ e => .inr e)), rfl, O, rfl, H2.out, (K3.out.keep HA.out).only hset (fun j hj => (H2.out j hj).2.2.2), (K4.out.keep HA.out).set 0 (.int .i64 2), (K5.out.keep HA.out).other (p := ⟨ni, 0, none⟩) Hne.out.1 _, (K6.out.keep HA.out).other (p := ⟨ni, 0, none⟩) Hne.out.2.1 _, ?_⟩
          exact (K7.out.trans (HA.out.mono K7.out.size)).setCell (p := ⟨ni, 0, none⟩) Hne.out.2.2 _
        | k + 2, hk =>
          gi_wp2
          refine ⟨trivial, ?_⟩
          rintro W hsz ⟨h0, _⟩ hT
          exact absurd h0 (by omega)
      case done =>
        rintro T W ⟨h, _⟩ hD
        exact absurd h (by simp)
      case stop =>
        rintro cd k T W _ ⟨rfl, O, rfl, h2, h3, h4, h5, h6, h7⟩ hD
        have y0 := h4.at 0 rfl
        have y1 := h6.at 0 rfl
        have LN := FS.Len_st b 9 _ O W h3
        have HLN := Lib.hid LN
        have H5 := Lib.hid h5
        have H7 := Lib.hid h7
        have HD := Lib.hid hD
        clear h2 h3 h4 h5 h6 h7 hD LN
        refine wpIn_wide.2 ?_
        go_wp2_with fail
        refine HLN.out.mono ?_
        rintro e w6 ⟨rfl, rfl⟩
        clear HLN
        go_wp2_with fail
        refine (none_any _).mono ?_
        rintro e w7 ⟨rfl, hb7⟩
        go_wp2_with fail
        refine (awake_any _).mono ?_
        rintro e w8 ⟨rfl, hb8⟩
        have hb9 : Below W.heap.size W w8 := hb7.trans (hb8.mono hb7.size)
        have Z5 := H5.out.keep hb9
        have r0 := Z5.at 0 rfl
        have u0 := Z5.frozen 0
        have HZ5 := Lib.hid Z5
        have HZ7 := Lib.hid (H7.out.trans (hb9.mono H7.out.size))
        have HZD := Lib.hid (def_keep HD.out hb9)
        clear Z5 hb7 hb8 hb9 H5 H7 HD y0 y1
        go_wp2_with fail
        have hcell := HZ5.out
        have hne : w5.heap.size ≠ c := fun e => by
          have h := HZD.out
          rw [e] at h
          unfold Blk at hcell
          rw [hcell] at h
          cases h
        have g1 : (w8.setCell ⟨c, 0, none⟩ (.bool true)).heap[w5.heap.size]? = some (.deferred (some [])) := (Below.heap_setCell _ ⟨c, 0, none⟩ _ _ hne).trans HZD.out
        have B0 : Below w.heap.size w (w8.setCell ⟨c, 0, none⟩ (.bool true)) := HZ7.out.setCell (p := ⟨c, 0, none⟩) (Nat.le_of_eq Hc.out) _
        have R0 : Blk (w8.setCell ⟨c, 0, none⟩ (.bool true)) c 4 [.bool true] := hcell.set 0 _
        have k1 : Book w.heap.size _ _ := Book.put (o' := .deferred none) HL5.out.size g1 rfl
        have c5 := (R0.book k1).at 0 rfl
        refine ⟨by simp, .inl ⟨_, _, rfl, run_takeDeferred g1, ?_⟩⟩
        refine ⟨.bool true, ?_, rfl, k1.below B0 (Nat.le_refl _)⟩
        simp [results, Try.f4, go_sem, c5]
end Go.Proofs.Ytekmenojaojeiaa.Fifo5
