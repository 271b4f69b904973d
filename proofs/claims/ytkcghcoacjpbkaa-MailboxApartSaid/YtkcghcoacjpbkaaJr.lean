/- The document's mailbox: Line, Write, Read. -/
import Derived.Test.YtkcghcoacjpbkaaJa
import Derived.Test.YtkcghcoacjpbkaaOfL
import Derived.Test.YtkcghcoacjpbkaaGr
namespace Go.Proofs.Ytkcghcoacjpbkaa.Mbox
open Go.RowKit Go.Maps Go.ChangeShapes Go.WideShapes Go.ChangeAt Fifo Orow Word OffL
set_option linter.unusedVariables false

/-- The document's mailbox in block r, its row va. -/
structure RefW (w : World) (r : Nat) (u : Bx) (va : Value) : Prop where
  head : Blk w r 30 [va, .int .u32 u.C, .int .u32 u.L]
  row : Off w va (lv u.W)
  ok : OkX u
def RefO (r : Nat) (va : Value) : Nat → Prop := fun j => j = r ∨ PB va j
def RefB (w : World) (r : Nat) (u : Bx) (O : Nat → Prop) : Prop := ∃ va, RefW w r u va ∧ O = RefO r va
theorem RefB.only {S O : Nat → Prop} {w w' : World} {r : Nat} {u : Bx} (h : RefB w r u O) (ho : Only S w w') (hn : ∀ j, O j → ¬ S j) : RefB w' r u O := by
  obtain ⟨va, h, rfl⟩ := h
  exact ⟨va, ⟨h.head.only ho (hn r (.inl rfl)), h.row.only ho (fun j hj => hn j (.inr hj)), h.ok⟩, rfl⟩
theorem RefB.keep {O : Nat → Prop} {w w' : World} {r : Nat} {u : Bx} (h : RefB w r u O) (hb : Below w.heap.size w w') : RefB w' r u O :=
  h.only (Only.of_below (S := fun _ => False) hb) (fun _ _ h => h)
theorem RefB.lt {O : Nat → Prop} {w : World} {r : Nat} {u : Bx} (h : RefB w r u O) : ∀ j, O j → j < w.heap.size := by
  obtain ⟨va, h, rfl⟩ := h
  intro j hj
  rcases hj with rfl | hj
  · exact h.head.lt
  · exact h.row.lt j hj
theorem RefB.ok {O : Nat → Prop} {w : World} {r : Nat} {u : Bx} (h : RefB w r u O) : OkX u := by
  obtain ⟨va, h, rfl⟩ := h
  exact h.ok
theorem RefB.new (w : World) : RefB (w.alloc (.cells #[.slice none 0 0, .int .u32 0, .int .u32 0] 30)) w.heap.size zeroX (fun j => j = w.heap.size) :=
  ⟨.slice none 0 0, ⟨Blk.new w _ [_, _, _], .inl ⟨rfl, rfl⟩, okX_zero⟩, funext fun j => by simp [RefO, PB, Value.ownBlock]⟩
theorem RefW.ne {w : World} {r : Nat} {u : Bx} {va : Value} (h : RefW w r u va) : ∀ j, PB va j → j ≠ r := h.row.ne h.head (by decide)
/-- A part of the head is stored. -/
theorem RefW.put {w : World} {r : Nat} {u u' : Bx} {va : Value} (h : RefW w r u va) (k : Nat) (x : Value) (h1 : [va, .int .u32 u.C, .int .u32 u.L].set k x = [va, .int .u32 u'.C, .int .u32 u'.L]) (h2 : u'.W = u.W) (hk : OkX u') :
    RefW (w.setCell ⟨r, k, none⟩ x) r u' va ∧ Only (fun j => j = r) w (w.setCell ⟨r, k, none⟩ x) := by
  have ho : Only (fun j => j = r) w (w.setCell ⟨r, k, none⟩ x) := (Only.refl (fun j => j = r) w).setCell (p := ⟨r, k, none⟩) rfl x
  refine ⟨⟨?_, ?_, hk⟩, ho⟩
  · rw [← h1]
    exact h.head.set k x
  · rw [h2]
    exact h.row.only ho h.ne
theorem RefW.row_set {w w4 w5 : World} {r : Nat} {u : Bx} {va v' : Value} {l' : List Int} (h : RefW w r u va) (hb : Below w.heap.size w w4) (h1 : Off w5 v' (lv l')) (h2 : Only (PB va) w4 w5) (h4 : ∀ j, PB v' j → PB va j ∨ w4.heap.size ≤ j) (hk : OkX { u with W := l' }) :
    ∃ O', RefB (w5.setCell ⟨r, 0, none⟩ v') r { u with W := l' } O' ∧ Only (RefO r va) w (w5.setCell ⟨r, 0, none⟩ v') ∧ ∀ j, O' j → RefO r va j ∨ w.heap.size ≤ j := by
  have o5 : Only (PB va) w w5 := (Only.of_below hb).trans h2
  have B5 := h.head.only o5 (fun hp => h.ne r hp rfl)
  have ho : Only (fun j => j = r) w5 (w5.setCell ⟨r, 0, none⟩ v') := (Only.refl (fun j => j = r) w5).setCell (p := ⟨r, 0, none⟩) rfl v'
  have hs := hb.size
  refine ⟨RefO r v', ⟨v', ⟨B5.set 0 v', ?_, hk⟩, rfl⟩, (o5.mono (fun j _ e => .inr e)).trans (ho.mono (fun j _ e => .inl e)), ?_⟩
  · exact h1.only ho (fun j hj => h1.ne B5 (by decide) j hj)
  · exact fun j hj => hj.elim (fun e => .inl (.inl e)) (fun e => (h4 j e).elim (fun e => .inl (.inr e)) (fun e => .inr (by omega)))
theorem beq_no {a b : Int} (h : ¬ a = b) : (a == b) = false := by simpa using h
theorem rLine_any (r : Nat) (u : Bx) (O : Nat → Prop) (w : World) (h : RefB w r u O) :
    Calls Try.prog 27 #[.pointer (some ⟨r, 0, none⟩)] w fun e w' => e = .returned (.bool (lineX u)) ∧ w = w' := by
  obtain ⟨va, h, hO⟩ := h
  obtain ⟨a, c, hv⟩ := h.row.shape
  subst hv
  have q0 := h.head.at 0 rfl
  have q1 := h.head.at 1 rfl
  rw [lvl] at q0
  unfold lineX
  clear hO
  by_cases h1 : u.C = 1
  · have e1 : (u.C == 1) = true := by simpa using h1
    by_cases h2 : 0 < u.W.length
    · have e2 : decide ((0 : Int) < (u.W.length : Int)) = true := decide_eq_true (by omega)
      have e3 : decide (u.C = 1 ∧ 0 < u.W.length) = true := decide_eq_true ⟨h1, h2⟩
      rw [e3]
      clear h h1 e3
      go_enter Try.func27, Try.ntmps27
      go_wp2_with fail
      go_ret
      exact ⟨rfl, rfl⟩
    · have e2 : decide ((0 : Int) < (u.W.length : Int)) = false := decide_eq_false (by omega)
      have e3 : decide (u.C = 1 ∧ 0 < u.W.length) = false := decide_eq_false (fun h => h2 h.2)
      rw [e3]
      clear h h1 e3
      go_enter Try.func27, Try.ntmps27
      go_wp2_with fail
      go_ret
      exact ⟨rfl, rfl⟩
  · have e1 : (u.C == 1) = false := beq_no h1
    have e3 : decide (u.C = 1 ∧ 0 < u.W.length) = false := decide_eq_false (fun h => h1 h.1)
    rw [e3]
    clear h h1 e3
    go_enter Try.func27, Try.ntmps27
    go_wp2_with fail
    go_ret
    exact ⟨rfl, rfl⟩
set_option maxHeartbeats 1000000 in
theorem rWrite_any (r : Nat) (u : Bx) (O : Nat → Prop) (reg v : Int) (w : World) (hv : 0 ≤ v ∧ v < 4294967296) (h : RefB w r u O) :
    Calls Try.prog 13 #[.pointer (some ⟨r, 0, none⟩), .int .i64 reg, .int .u32 v] w fun e w' => e = .returned (.tuple #[]) ∧ ∃ O', RefB w' r (writeX u reg v) O' ∧ Only O w w' ∧ ∀ j, O' j → O j ∨ w.heap.size ≤ j := by
  have h0 := h
  obtain ⟨va, h, hO⟩ := h
  obtain ⟨a, c, hv2⟩ := h.row.shape
  subst hv2
  have HO := Lib.hid hO
  clear hO
  have hok := okX_write h.ok reg hv
  have q0 := h.head.at 0 rfl
  have u0 := h.head.frozen 0
  rw [lvl] at q0
  have hlen := h.ok.w.2
  unfold writeX at hok ⊢
  by_cases z0 : reg = 0
  · subst z0
    rw [if_pos rfl] at hok ⊢
    by_cases h8 : u.W.length < 4
    · rw [if_pos h8] at hok ⊢
      have e8 : decide ((u.W.length : Int) < 4) = true := decide_eq_true (by omega)
      have H := Lib.hid h
      have Hok := Lib.hid hok
      have Hlen := Lib.hid hlen
      clear h hok h8 hlen h0
      go_enter Try.func13, Try.ntmps13
      go_wp2_with (at_builtin; refine wpList_append_off _ rfl _ _ rfl (.slice a (lv u.W).length c) (lv u.W) (by rw [lvl]; rfl) (H.out.row.keep ((Below.refl _ _).alloc (Nat.le_refl _) _)) (by rw [lvl]; have := Hlen.out; omega) ⟨w.heap.size, 0, none⟩ 1 (.int .u32 v) rfl (cell_one_new _ _ _) rfl ?_; intro v' w5 h1 h2 h4; obtain ⟨a5, c5, hv5⟩ := h1.shape; subst hv5; have H1 := Lib.hid h1; have H2 := Lib.hid h2; have H4 := Lib.hid h4; have B5 := (H.out.head.keep ((Below.refl _ _).alloc (Nat.le_refl _) (.cells #[.int .u32 v] 28))).only h2 (fun hp => H.out.ne r hp rfl); have r1 := B5.at 0 rfl; have u1 := B5.frozen 0; have HB5 := Lib.hid B5; clear h1 h2 h4 B5)
      go_end0
      have h1 := H1.out
      have h4 := H4.out
      have e : lv u.W ++ [Value.int .u32 v] = lv (u.W ++ [v]) := by simp [lv]
      have e2 : (lv u.W ++ [Value.int .u32 v]).length = u.W.length + 1 := by simp [lv]
      rw [e2] at h1 h4
      rw [e] at h1
      have hb := H.out.row_set ((Below.refl _ _).alloc (Nat.le_refl _) _) h1 H2.out h4 Hok.out
      rw [HO.out]
      simp only [lvl] at hb ⊢
      exact ⟨trivial, hb⟩
    · rw [if_neg h8] at hok ⊢
      have e8 : decide ((u.W.length : Int) < 4) = false := decide_eq_false (by omega)
      have q2 := h.head.at 2 rfl
      have u2 := h.head.frozen 2
      by_cases h9 : u.L < 4294967295
      · rw [if_pos h9] at hok ⊢
        have e9 : decide (u.L < 4294967295) = true := decide_eq_true h9
        have hL := h.ok.l
        have w9 : IntKind.u32.wrap (u.L + 1) = u.L + 1 := IntWalk.u32_in _ (by omega)
        have P := Lib.hid (h.put (u' := { u with L := u.L + 1 }) 2 (.int .u32 (u.L + 1)) rfl rfl hok)
        have l0 := hL.1
        clear h hok h8 hlen h0 hL
        go_enter Try.func13, Try.ntmps13
        go_wp2_with fail
        go_end0
        rw [HO.out]
        exact ⟨rfl, _, ⟨_, P.out.1, rfl⟩, P.out.2.mono (fun j _ e => .inl e), fun j hj => .inl hj⟩
      · rw [if_neg h9] at hok ⊢
        have e9 : decide (u.L < 4294967295) = false := decide_eq_false h9
        have H0 := Lib.hid h0
        clear h hok h8 hlen h0
        go_enter Try.func13, Try.ntmps13
        go_wp2_with fail
        go_end0
        exact ⟨rfl, O, H0.out, Only.refl _ _, fun j hj => .inl hj⟩
  · rw [if_neg z0] at hok ⊢
    have e0 := beq_no z0
    by_cases z2 : reg = 2
    · subst z2
      rw [if_pos rfl] at hok ⊢
      have q1 := h.head.at 1 rfl
      have u1 := h.head.frozen 1
      have P := Lib.hid (h.put (u' := { u with C := v % 2 }) 1 (.int .u32 (v % 2)) rfl rfl hok)
      clear h hok hlen h0
      go_enter Try.func13, Try.ntmps13
      go_wp2_with fail
      go_end0
      rw [HO.out]
      exact ⟨rfl, _, ⟨_, P.out.1, rfl⟩, P.out.2.mono (fun j _ e => .inl e), fun j hj => .inl hj⟩
    · rw [if_neg z2] at hok ⊢
      have e2 := beq_no z2
      by_cases z3 : reg = 3
      · subst z3
        rw [if_pos rfl] at hok ⊢
        have q2 := h.head.at 2 rfl
        have u2 := h.head.frozen 2
        have P := Lib.hid (h.put (u' := { u with L := 0 }) 2 (.int .u32 0) rfl rfl hok)
        clear h hok hlen h0
        go_enter Try.func13, Try.ntmps13
        go_wp2_with fail
        go_end0
        rw [HO.out]
        exact ⟨rfl, _, ⟨_, P.out.1, rfl⟩, P.out.2.mono (fun j _ e => .inl e), fun j hj => .inl hj⟩
      · rw [if_neg z3] at hok ⊢
        have e3 := beq_no z3
        have H0 := Lib.hid h0
        clear h hok hlen h0
        go_enter Try.func13, Try.ntmps13
        go_wp2_with fail
        go_end0
        exact ⟨rfl, O, H0.out, Only.refl _ _, fun j hj => .inl hj⟩
theorem read_nil {u : Bx} (hg : u.W = []) : readX u 0 = (0, u) := by unfold readX; rw [if_pos rfl, hg]
theorem read_cons {u : Bx} {b : Int} {t : List Int} (hg : u.W = b :: t) : readX u 0 = (b, { u with W := t }) := by unfold readX; rw [if_pos rfl, hg]
theorem read_1 (u : Bx) : readX u 1 = ((u.W.length : Int), u) := by unfold readX; rw [if_neg (by decide), if_pos rfl]
theorem read_2 (u : Bx) : readX u 2 = (u.C, u) := by unfold readX; rw [if_neg (by decide), if_neg (by decide), if_pos rfl]
theorem read_3 (u : Bx) : readX u 3 = (u.L, u) := by unfold readX; rw [if_neg (by decide), if_neg (by decide), if_neg (by decide), if_pos rfl]
theorem read_no (u : Bx) {reg : Int} (h0 : ¬ reg = 0) (h1 : ¬ reg = 1) (h2 : ¬ reg = 2) (h3 : ¬ reg = 3) : readX u reg = (0, u) := by unfold readX; rw [if_neg h0, if_neg h1, if_neg h2, if_neg h3]
theorem rRead_nil (r : Nat) (u : Bx) (O : Nat → Prop) (w : World) (h : RefB w r u O) (hg : u.W = []) :
    Calls Try.prog 11 #[.pointer (some ⟨r, 0, none⟩), .int .i64 0] w fun e w' => e = .returned (.int .u32 0) ∧ w = w' := by
  obtain ⟨va, h, hO⟩ := h
  obtain ⟨a, c, hv2⟩ := h.row.shape
  subst hv2
  have q0 := h.head.at 0 rfl
  rw [lvl, hg, List.length_nil] at q0
  clear h hO hg
  go_enter Try.func11, Try.ntmps11
  go_wp2_with fail
  go_ret
  exact ⟨rfl, rfl⟩
set_option maxHeartbeats 1000000 in
theorem rRead_cons (r : Nat) (u : Bx) (O : Nat → Prop) (b : Int) (t : List Int) (w : World) (h : RefB w r u O) (hg : u.W = b :: t) :
    Calls Try.prog 11 #[.pointer (some ⟨r, 0, none⟩), .int .i64 0] w fun e w' => e = .returned (.int .u32 b) ∧ ∃ O', RefB w' r { u with W := t } O' ∧ Only O w w' ∧ ∀ j, O' j → O j ∨ w.heap.size ≤ j := by
  obtain ⟨va, h, hO⟩ := h
  have hok := okX_read h.ok 0
  rw [read_cons hg] at hok
  have hoff := h.row
  rw [hg] at hoff
  obtain ⟨g, off, cap, rfl, hc0, hc1, hgl, hcell⟩ := hoff.lies (by simp [lv])
  have q0 := h.head.at 0 rfl
  have u0 := h.head.frozen 0
  have k0 := hcell w (Below.refl _ _) 0 (by simp [lv])
  obtain ⟨n, hn⟩ : ∃ n, (lv t).length = n := ⟨_, rfl⟩
  have hbv : lv (b :: t) = .int .u32 b :: lv t := rfl
  rw [hbv] at q0 k0 hc1 hoff
  have P1 := h
  rw [hbv] at P1 hO
  simp only [List.length_cons, hn, Nat.add_zero, List.getElem?_cons_zero] at q0 k0 hc1
  have e1 : ¬ (((n + 1 : Nat) : Int) = 0) := by omega
  have e2 : 1 ≤ n + 1 := by omega
  have e3 : n + 1 ≤ cap := hc1
  have e5 : (((n + 1 : Nat) : Int) == 0) = false := beq_no e1
  have ht := hoff.tail _ rfl
  rw [hn] at ht
  have HT := Lib.hid ht
  have HO := Lib.hid hO
  have Hn := Lib.hid hn
  have P := Lib.hid P1
  have Hok := Lib.hid hok
  clear h hoff hcell ht hn hc1 hO P1 hg hok hbv
  by_cases hcap : cap = 1
  all_goals
    have ht := HT.out
    first
    | rw [if_neg hcap] at ht
    | (rw [if_pos hcap] at ht; subst hcap; obtain rfl : n = 0 := by omega)
    have HT2 := Lib.hid ht
    clear HT ht
    go_enter Try.func11, Try.ntmps11
    go_wp2_with fail
    go_ret
    rw [HO.out]
    have hT := HT2.out
    obtain ⟨O', k1, k2, k3⟩ := P.out.row_set (Below.refl _ _) hT.1 (Only.refl _ _) (fun j hj => .inl (hT.2 j hj)) Hok.out
    exact ⟨rfl, O', k1, k2, k3⟩
theorem rRead_1 (r : Nat) (u : Bx) (O : Nat → Prop) (w : World) (h : RefB w r u O) :
    Calls Try.prog 11 #[.pointer (some ⟨r, 0, none⟩), .int .i64 1] w fun e w' => e = .returned (.int .u32 (u.W.length : Int)) ∧ w = w' := by
  obtain ⟨va, h, hO⟩ := h
  obtain ⟨a, c, hv⟩ := h.row.shape
  subst hv
  have q0 := h.head.at 0 rfl
  rw [lvl] at q0
  have h1 := h.ok.w.2
  have w0 : IntKind.u32.wrap (u.W.length : Int) = u.W.length := IntWalk.u32_in _ (by omega)
  clear h hO
  go_enter Try.func11, Try.ntmps11
  go_wp2_with fail
  go_ret
  exact ⟨rfl, rfl⟩
theorem rRead_2 (r : Nat) (u : Bx) (O : Nat → Prop) (w : World) (h : RefB w r u O) :
    Calls Try.prog 11 #[.pointer (some ⟨r, 0, none⟩), .int .i64 2] w fun e w' => e = .returned (.int .u32 u.C) ∧ w = w' := by
  obtain ⟨va, h, hO⟩ := h
  have q1 := h.head.at 1 rfl
  clear h hO
  go_enter Try.func11, Try.ntmps11
  go_wp2_with fail
  go_ret
  exact ⟨rfl, rfl⟩
theorem rRead_3 (r : Nat) (u : Bx) (O : Nat → Prop) (w : World) (h : RefB w r u O) :
    Calls Try.prog 11 #[.pointer (some ⟨r, 0, none⟩), .int .i64 3] w fun e w' => e = .returned (.int .u32 u.L) ∧ w = w' := by
  obtain ⟨va, h, hO⟩ := h
  have q2 := h.head.at 2 rfl
  clear h hO
  go_enter Try.func11, Try.ntmps11
  go_wp2_with fail
  go_ret
  exact ⟨rfl, rfl⟩
theorem rRead_no (r : Nat) (reg : Int) (w : World) (h0 : ¬ reg = 0) (h1 : ¬ reg = 1) (h2 : ¬ reg = 2) (h3 : ¬ reg = 3) :
    Calls Try.prog 11 #[.pointer (some ⟨r, 0, none⟩), .int .i64 reg] w fun e w' => e = .returned (.int .u32 0) ∧ w = w' := by
  have e0 := beq_no h0
  have e1 := beq_no h1
  have e2 := beq_no h2
  have e3 := beq_no h3
  go_enter Try.func11, Try.ntmps11
  go_wp2_with fail
  go_ret
  exact ⟨rfl, rfl⟩
theorem rRead_any (r : Nat) (u : Bx) (O : Nat → Prop) (reg : Int) (w : World) (h : RefB w r u O) :
    Calls Try.prog 11 #[.pointer (some ⟨r, 0, none⟩), .int .i64 reg] w fun e w' => e = .returned (.int .u32 (readX u reg).1) ∧ ∃ O', RefB w' r (readX u reg).2 O' ∧ Only O w w' ∧ ∀ j, O' j → O j ∨ w.heap.size ≤ j := by
  by_cases h0 : reg = 0
  · subst h0
    cases hg : u.W with
    | nil =>
      rw [read_nil hg]
      refine (rRead_nil r u O w h hg).mono ?_
      rintro e w' ⟨rfl, rfl⟩
      exact ⟨rfl, O, h, Only.refl _ _, fun j hj => .inl hj⟩
    | cons b t => rw [read_cons hg]; exact rRead_cons r u O b t w h hg
  by_cases h1 : reg = 1
  · subst h1
    rw [read_1]
    refine (rRead_1 r u O w h).mono ?_
    rintro e w' ⟨rfl, rfl⟩
    exact ⟨rfl, O, h, Only.refl _ _, fun j hj => .inl hj⟩
  by_cases h2 : reg = 2
  · subst h2
    rw [read_2]
    refine (rRead_2 r u O w h).mono ?_
    rintro e w' ⟨rfl, rfl⟩
    exact ⟨rfl, O, h, Only.refl _ _, fun j hj => .inl hj⟩
  by_cases h3 : reg = 3
  · subst h3
    rw [read_3]
    refine (rRead_3 r u O w h).mono ?_
    rintro e w' ⟨rfl, rfl⟩
    exact ⟨rfl, O, h, Only.refl _ _, fun j hj => .inl hj⟩
  · rw [read_no u h0 h1 h2 h3]
    refine (rRead_no r reg w h0 h1 h2 h3).mono ?_
    rintro e w' ⟨rfl, rfl⟩
    exact ⟨rfl, O, h, Only.refl _ _, fun j hj => .inl hj⟩
end Go.Proofs.Ytkcghcoacjpbkaa.Mbox
