/- Package mailbox: the small functions of its mail. -/
import Derived.Test.YtkcghcoacjpbkaaJu
import Derived.Test.YtkcghcoacjpbkaaBa
import Derived.Deep.RegionHeld3
import Derived.Deep.RegionWith
import Derived.OwnWalk
namespace Go.Proofs.Ytkcghcoacjpbkaa.Mbox
open Go.RowKit Go.Maps Go.ChangeShapes Go.WideShapes Go.ChangeAt Fifo Orow Word
set_option linter.unusedVariables false

theorem next_any (b room : Nat) (t : TypeId) (tl : List Value) (u : Bx) (O : Nat → Prop) (w : World) (h : MW w b room t tl u O) :
    Calls Try.prog 39 #[me b] w fun r w' => r = .returned (.int .u32 (readX u 0).1) ∧ Left w w' b room t tl (readX u 0).2 O := by
  obtain ⟨p, A, h, e⟩ := h
  have c0 : w.cell? ⟨b, 0, none⟩ = some p := h.blk.at 0 rfl
  have T := Lib.hid h.row.take
  have hO : ∀ j, A j → O j := fun j hj => (e j).2 (.inr hj)
  have hok := okX_read h.ok 0
  have R := Lib.hid (fun w' (h1 : Rw w' p room u.W.tail A) (h2 : Only A w w') => show Left w w' b room t tl (readX u 0).2 O from by
    obtain ⟨W, C, L⟩ := u
    cases W with
    | nil => exact ⟨_, ⟨p, A, h.toRow (u' := ⟨[], C, L⟩) h1 h2 (fun j hj => .inl hj) h.ok rfl rfl, fun j => Iff.rfl⟩, h2.mono (fun j _ k => hO j k), own_row e (fun j hj => .inl hj)⟩
    | cons y s => exact ⟨_, ⟨p, A, h.toRow (u' := ⟨s, C, L⟩) h1 h2 (fun j hj => .inl hj) hok rfl rfl, fun j => Iff.rfl⟩, h2.mono (fun j _ k => hO j k), own_row e (fun j hj => .inl hj)⟩)
  have E := Lib.hid (show (readX u 0).1 = fstX u.W by obtain ⟨W, C, L⟩ := u; cases W <;> rfl)
  clear h hok e hO
  go_enter Try.func39, Try.ntmps39
  go_wp2_with fail
  refine T.out.mono ?_
  rintro e w1 ⟨rfl, h1, h2⟩
  have R1 := Lib.hid (R.out w1 h1 h2)
  clear h1 h2 c0
  go_wp2_with fail
  go_ret
  exact ⟨by rw [E.out]; rfl, R1.out⟩
theorem count_any (b room : Nat) (t : TypeId) (tl : List Value) (u : Bx) (O : Nat → Prop) (w : World) (h : MW w b room t tl u O) :
    Calls Try.prog 40 #[me b] w fun r w' => r = .returned (.int .u32 (u.W.length : Nat)) ∧ Below w.heap.size w w' := by
  obtain ⟨p, A, h, e⟩ := h
  have c0 : w.cell? ⟨b, 0, none⟩ = some p := h.blk.at 0 rfl
  have L := Lib.hid h.row.len
  have h4 := h.ok.w.2
  obtain ⟨n, hn⟩ : ∃ n, u.W.length = n := ⟨_, rfl⟩
  rw [hn] at L h4 ⊢
  have hw : IntKind.u32.wrap (n : Int) = n := IntWalk.u32_in _ (by omega)
  clear h e hn h4
  go_enter Try.func40, Try.ntmps40
  go_wp2_with fail
  refine L.out.mono ?_
  rintro e w1 ⟨rfl, hb⟩
  have B1 := Lib.hid hb
  clear hb
  go_wp2_with fail
  go_ret
  exact ⟨rfl, B1.out⟩
theorem ctrlNow_any (b room : Nat) (t : TypeId) (tl : List Value) (u : Bx) (O : Nat → Prop) (w : World) (h : MW w b room t tl u O) :
    Calls Try.prog 41 #[me b] w fun r w' => r = .returned (.int .u32 u.C) ∧ w = w' := by
  obtain ⟨p, A, h, e⟩ := h
  have c1 : w.cell? ⟨b, 1, none⟩ = some (.int .u32 u.C) := h.blk.at 1 rfl
  clear h e
  go_enter Try.func41, Try.ntmps41
  go_wp2_with fail
  go_ret
  exact ⟨rfl, rfl⟩
theorem lostNow_any (b room : Nat) (t : TypeId) (tl : List Value) (u : Bx) (O : Nat → Prop) (w : World) (h : MW w b room t tl u O) :
    Calls Try.prog 42 #[me b] w fun r w' => r = .returned (.int .u32 u.L) ∧ w = w' := by
  obtain ⟨p, A, h, e⟩ := h
  have c2 : w.cell? ⟨b, 2, none⟩ = some (.int .u32 u.L) := h.blk.at 2 rfl
  clear h e
  go_enter Try.func42, Try.ntmps42
  go_wp2_with fail
  go_ret
  exact ⟨rfl, rfl⟩
theorem stay_any (v : Value) (b : Nat) (w : World) :
    Calls Try.prog 44 #[me b, v] w fun r w' => r = .returned (.tuple #[]) ∧ w = w' := by
  go_enter Try.func44, Try.ntmps44
  go_wp2_with fail
  go_end0
  exact ⟨rfl, rfl⟩
theorem and_one {v : Int} (h : 0 ≤ v ∧ v < 4294967296) : bits .and .u32 v 1 = v % 2 := by
  obtain ⟨x, rfl⟩ := Int.eq_ofNat_of_zero_le h.1
  rw [show (1 : Int) = ((1 : Nat) : Int) from rfl, u32_and_nat x 1 (by omega) (by omega), show (1 : Nat) = 2 ^ 1 - 1 from rfl, Nat.and_two_pow_sub_one_eq_mod]
  rfl
theorem setCtrl_any (b room : Nat) (t : TypeId) (tl : List Value) (u : Bx) (O : Nat → Prop) (v : Int) (w : World) (hv : 0 ≤ v ∧ v < 4294967296) (h : MW w b room t tl u O) :
    Calls Try.prog 45 #[me b, .int .u32 v] w fun r w' => r = .returned (.tuple #[]) ∧ Left w w' b room t tl (writeX u 2 v) O := by
  obtain ⟨p, A, h, e⟩ := h
  have f1 := h.blk.frozen 1
  have hv1 := and_one hv
  have T := Lib.hid (show Left w (w.setCell ⟨b, 1, none⟩ (.int .u32 (v % 2))) b room t tl (writeX u 2 v) O from
    ⟨O, ⟨p, A, h.toCell (u' := writeX u 2 v) 1 (.int .u32 (v % 2)) rfl (okX_write h.ok 2 hv) rfl, e⟩, (Only.refl O w).setCell (p := ⟨b, 1, none⟩) ((e b).2 (.inl rfl)) _, fun j hj => .inl hj⟩)
  have c1 : w.cell? ⟨b, 1, none⟩ = some (.int .u32 u.C) := h.blk.at 1 rfl
  clear h e hv
  go_enter Try.func45, Try.ntmps45
  go_wp2_with fail
  go_end0
  exact ⟨rfl, by first | exact T.out | (rw [hv1]; exact T.out)⟩
theorem forgetLost_any (b room : Nat) (t : TypeId) (tl : List Value) (u : Bx) (O : Nat → Prop) (v : Int) (w : World) (hv : 0 ≤ v ∧ v < 4294967296) (h : MW w b room t tl u O) :
    Calls Try.prog 46 #[me b, .int .u32 v] w fun r w' => r = .returned (.tuple #[]) ∧ Left w w' b room t tl (writeX u 3 v) O := by
  obtain ⟨p, A, h, e⟩ := h
  have f2 := h.blk.frozen 2
  have T := Lib.hid (show Left w (w.setCell ⟨b, 2, none⟩ (.int .u32 0)) b room t tl (writeX u 3 v) O from
    ⟨O, ⟨p, A, h.toCell (u' := writeX u 3 v) 2 (.int .u32 0) rfl (okX_write h.ok 3 hv) rfl, e⟩, (Only.refl O w).setCell (p := ⟨b, 2, none⟩) ((e b).2 (.inl rfl)) _, fun j hj => .inl hj⟩)
  have c2 : w.cell? ⟨b, 2, none⟩ = some (.int .u32 u.L) := h.blk.at 2 rfl
  clear h e hv
  go_enter Try.func46, Try.ntmps46
  go_wp2_with fail
  go_end0
  exact ⟨rfl, T.out⟩
/-- The world behind: one more was lost, or not. -/
def asideW (b : Nat) (ok : Bool) (L : Int) (w1 : World) : World := if ok then w1 else if L < 4294967295 then w1.setCell ⟨b, 2, none⟩ (.int .u32 (L + 1)) else w1
theorem aside_core (b : Nat) (p : Value) (v L : Int) (ok : Bool) (R : World → Prop) (w : World) (c0 : w.cell? ⟨b, 0, none⟩ = some p) (hL : 0 ≤ L ∧ L < 4294967296)
    (hp : Calls Try.prog 53 #[p, .int .u32 v] w fun e w' => e = .returned (.bool ok) ∧ R w')
    (hc : ∀ w', R w' → w'.cell? ⟨b, 2, none⟩ = some (.int .u32 L) ∧ w'.frozen? ⟨b, 2, none⟩ = false) :
    Calls Try.prog 43 #[me b, .int .u32 v] w fun e w' => e = .returned (.tuple #[]) ∧ ∃ w1, R w1 ∧ w' = asideW b ok L w1 := by
  have HP := Lib.hid hp
  have HC := Lib.hid hc
  have HL := Lib.hid hL
  clear hp hc hL
  go_enter Try.func43, Try.ntmps43
  go_wp2_with fail
  refine HP.out.mono ?_
  rintro e w1 ⟨rfl, hr⟩
  obtain ⟨c2, f2⟩ := HC.out w1 hr
  have HR := Lib.hid hr
  clear hr HP HC
  cases ok
  · by_cases hlt : L < 4294967295
    · have d : decide (L < 4294967295) = true := decide_eq_true hlt
      have hw : IntKind.u32.wrap (L + 1) = L + 1 := IntWalk.u32_in _ (by have := HL.out; omega)
      have E := Lib.hid (show asideW b false L w1 = w1.setCell ⟨b, 2, none⟩ (.int .u32 (L + 1)) by unfold asideW; rw [if_neg (by simp), if_pos hlt])
      clear hlt
      go_wp2_with fail
      first | go_end0 | refine bodyPost_ret (results_none rfl _ _ _) rfl ?_
      exact ⟨rfl, w1, HR.out, E.out.symm⟩
    · have d : decide (L < 4294967295) = false := decide_eq_false hlt
      have E := Lib.hid (show asideW b false L w1 = w1 by unfold asideW; rw [if_neg (by simp), if_neg hlt])
      clear hlt
      go_wp2_with fail
      first | go_end0 | refine bodyPost_ret (results_none rfl _ _ _) rfl ?_
      exact ⟨rfl, w1, HR.out, E.out.symm⟩
  · go_wp2_with fail
    first | go_end0 | refine bodyPost_ret (results_none rfl _ _ _) rfl ?_
    exact ⟨rfl, w1, HR.out, rfl⟩
/-- What is put, where there are so many places. -/
def asideR (room : Nat) (u : Bx) (v : Int) : Bx := if u.W.length < room then { u with W := u.W ++ [v] } else if u.L < 4294967295 then { u with L := u.L + 1 } else u
theorem aside_any (b room : Nat) (t : TypeId) (tl : List Value) (u : Bx) (O : Nat → Prop) (v : Int) (w : World) (h4 : room ≤ 4) (hv : 0 ≤ v ∧ v < 4294967296) (h : MW w b room t tl u O) :
    Calls Try.prog 43 #[me b, .int .u32 v] w fun r w' => r = .returned (.tuple #[]) ∧ Left w w' b room t tl (asideR room u v) O := by
  obtain ⟨p, A, h, e⟩ := h
  have hl := h.row.le
  have hO : ∀ j, A j → O j := fun j hj => (e j).2 (.inr hj)
  have c0 : w.cell? ⟨b, 0, none⟩ = some p := h.blk.at 0 rfl
  unfold asideR
  by_cases hlt : u.W.length < room
  · rw [if_pos hlt]
    have hok : OkX { u with W := u.W ++ [v] } := ⟨⟨okW_snoc h.ok.w.1 hv, by rw [List.length_append, List.length_singleton]; omega⟩, h.ok.c, h.ok.l⟩
    refine (aside_core b p v u.L true _ w c0 h.ok.l (h.row.put (by omega) v true _ (decide_eq_true hlt) rfl) ?_).mono ?_
    · rintro w' ⟨A', h1, h2, h3⟩
      have hb := h.blk.only h2 h.na
      exact ⟨hb.at 2 rfl, hb.frozen 2⟩
    · rintro r w' ⟨rfl, w1, ⟨A', h1, h2, h3⟩, rfl⟩
      exact ⟨rfl, _, ⟨p, A', h.toRow (u' := { u with W := u.W ++ [v] }) h1 h2 h3 hok rfl rfl, fun j => Iff.rfl⟩, h2.mono (fun j _ k => hO j k), own_row e h3⟩
  · rw [if_neg hlt]
    refine (aside_core b p v u.L false _ w c0 h.ok.l (h.row.put (by omega) v false _ (decide_eq_false hlt) rfl) ?_).mono ?_
    · rintro w' ⟨A', h1, h2, h3⟩
      have hb := h.blk.only h2 h.na
      exact ⟨hb.at 2 rfl, hb.frozen 2⟩
    · rintro r w' ⟨rfl, w1, ⟨A', h1, h2, h3⟩, rfl⟩
      refine ⟨rfl, ?_⟩
      unfold asideW
      rw [if_neg (by simp)]
      have hu := h.toRow (u' := u) h1 h2 h3 h.ok rfl rfl
      by_cases hm : u.L < 4294967295
      · rw [if_pos hm, if_pos hm]
        have := h.ok.l
        exact ⟨_, ⟨p, A', hu.toCell (u' := { u with L := u.L + 1 }) 2 (.int .u32 (u.L + 1)) rfl ⟨h.ok.w, h.ok.c, by show 0 ≤ u.L + 1 ∧ u.L + 1 < 4294967296; omega⟩ rfl, fun j => Iff.rfl⟩, (h2.mono (fun j _ k => hO j k)).setCell (p := ⟨b, 2, none⟩) ((e b).2 (.inl rfl)) _, own_row e h3⟩
      · rw [if_neg hm, if_neg hm]
        exact ⟨_, ⟨p, A', hu, fun j => Iff.rfl⟩, h2.mono (fun j _ k => hO j k), own_row e h3⟩
theorem lineM1 (b room : Nat) (t : TypeId) (tl : List Value) (u : Bx) (O : Nat → Prop) (w : World) (hc : u.C = 1) (h : MW w b room t tl u O) :
    Calls Try.prog 30 #[me b] w fun e w' => e = .returned (.bool (decide (0 < u.W.length))) ∧ Below w.heap.size w w' := by
  obtain ⟨p, A, h, e⟩ := h
  have d1 : (u.C == 1) = true := by simpa using hc
  have c0 : w.cell? ⟨b, 0, none⟩ = some p := h.blk.at 0 rfl
  have c1 : w.cell? ⟨b, 1, none⟩ = some (.int .u32 u.C) := h.blk.at 1 rfl
  have L := Lib.hid h.row.len
  obtain ⟨n, hn⟩ : ∃ n, u.W.length = n := ⟨_, rfl⟩
  rw [hn] at L ⊢
  clear h e hc hn
  go_enter Try.func30, Try.ntmps30
  go_wp2_with fail
  refine L.out.mono ?_
  rintro e w2 ⟨rfl, hb⟩
  have B2 := Lib.hid hb
  clear hb
  go_wp2_with fail
  go_ret
  exact ⟨by first | rfl | exact ret_bool (by simp), B2.out⟩
theorem lineM0 (b room : Nat) (t : TypeId) (tl : List Value) (u : Bx) (O : Nat → Prop) (w : World) (hc : ¬ u.C = 1) (h : MW w b room t tl u O) :
    Calls Try.prog 30 #[me b] w fun e w' => e = .returned (.bool false) ∧ Below w.heap.size w w' := by
  obtain ⟨p, A, h, e⟩ := h
  have d1 : (u.C == 1) = false := by simpa using hc
  have c0 : w.cell? ⟨b, 0, none⟩ = some p := h.blk.at 0 rfl
  have c1 : w.cell? ⟨b, 1, none⟩ = some (.int .u32 u.C) := h.blk.at 1 rfl
  clear h e hc
  go_enter Try.func30, Try.ntmps30
  go_wp2_with fail
  go_ret
  exact ⟨rfl, Below.refl _ _⟩
theorem lineM_any (b room : Nat) (t : TypeId) (tl : List Value) (u : Bx) (O : Nat → Prop) (w : World) (h : MW w b room t tl u O) :
    Calls Try.prog 30 #[me b] w fun e w' => e = .returned (.bool (lineX u)) ∧ Below w.heap.size w w' := by
  by_cases hc : u.C = 1
  · rw [show lineX u = decide (0 < u.W.length) by unfold lineX; simp [hc]]
    exact lineM1 b room t tl u O w hc h
  · rw [show lineX u = false by unfold lineX; simp [hc]]
    exact lineM0 b room t tl u O w hc h
theorem isReg_any (k : Int) (w : World) (hk : I64 k) :
    Calls Try.prog 32 #[.int .i64 k] w fun e w' => e = .returned (.bool (decide (0 ≤ k ∧ k < 4))) ∧ w = w' := by
  by_cases h0 : 0 ≤ k
  · by_cases h1 : k < 4
    · have d0 : decide (0 ≤ k) = true := decide_eq_true h0
      have d1 : decide (k < 4) = true := decide_eq_true h1
      rw [show decide (0 ≤ k ∧ k < 4) = true from decide_eq_true ⟨h0, h1⟩]
      clear h0 h1 hk
      go_enter Try.func32, Try.ntmps32
      go_wp2_with fail
      go_ret
      exact ⟨rfl, rfl⟩
    · have d0 : decide (0 ≤ k) = true := decide_eq_true h0
      have d1 : decide (k < 4) = false := decide_eq_false h1
      rw [show decide (0 ≤ k ∧ k < 4) = false from decide_eq_false (fun h => h1 h.2)]
      clear h0 h1 hk
      go_enter Try.func32, Try.ntmps32
      go_wp2_with fail
      go_ret
      exact ⟨rfl, rfl⟩
  · have d0 : decide (0 ≤ k) = false := decide_eq_false h0
    rw [show decide (0 ≤ k ∧ k < 4) = false from decide_eq_false (fun h => h0 h.1)]
    clear h0 hk
    go_enter Try.func32, Try.ntmps32
    go_wp2_with fail
    go_ret
    exact ⟨rfl, rfl⟩
def mexp (f : Nat) : Value := .func (.func f) #[] #[]
def readA : Value := .agg #[mexp 39, mexp 40, mexp 41, mexp 42]
def writeA : Value := .agg #[mexp 43, mexp 44, mexp 45, mexp 46]
theorem reads_any (w : World) :
    Calls Try.prog 33 #[] w fun e w' => e = .returned readA ∧ Below w.heap.size w w' := by
  have hmf : ∀ w f, (Instr.makeFunc (.func f) #[] #[]).run Try.prog w = .ok (.func (.func f) #[] #[]) w := fun w f => rfl
  go_enter Try.func33, Try.ntmps33
  go_wp2_with (with_reducible refine at_store _ _ _ rfl ?_)
  refine Lib.hid ?_
  refine store_all rfl _ _ _ rfl w.heap.size [mexp 39, mexp 40, mexp 41, mexp 42] rfl rfl _ _ (Blk.new w 59 [.nilFunc, .nilFunc, .nilFunc, .nilFunc]) (by kernel_rfl) rfl (by simp [Value.oneCell', mexp]) ?_
  intro X hX ho
  have r0 := hX.at 0 rfl
  have r1 := hX.at 1 rfl
  have r2 := hX.at 2 rfl
  have r3 := hX.at 3 rfl
  have B := Lib.hid (show Below w.heap.size w X from ((Below.refl w.heap.size w).alloc (Nat.le_refl _) _).trans (ho.below (by simp) (fun k e => Nat.le_of_eq e.symm)))
  clear hX ho
  go_wp2_with fail
  refine bodyPost_ret (v := readA) ?_ rfl ⟨rfl, B.out⟩
  simp [results, Try.results33, go_sem, r0, r1, r2, r3, readA]
theorem writes_any (w : World) :
    Calls Try.prog 34 #[] w fun e w' => e = .returned writeA ∧ Below w.heap.size w w' := by
  have hmf : ∀ w f, (Instr.makeFunc (.func f) #[] #[]).run Try.prog w = .ok (.func (.func f) #[] #[]) w := fun w f => rfl
  go_enter Try.func34, Try.ntmps34
  go_wp2_with (with_reducible refine at_store _ _ _ rfl ?_)
  refine Lib.hid ?_
  refine store_all rfl _ _ _ rfl w.heap.size [mexp 43, mexp 44, mexp 45, mexp 46] rfl rfl _ _ (Blk.new w 62 [.nilFunc, .nilFunc, .nilFunc, .nilFunc]) (by kernel_rfl) rfl (by simp [Value.oneCell', mexp]) ?_
  intro X hX ho
  have r0 := hX.at 0 rfl
  have r1 := hX.at 1 rfl
  have r2 := hX.at 2 rfl
  have r3 := hX.at 3 rfl
  have B := Lib.hid (show Below w.heap.size w X from ((Below.refl w.heap.size w).alloc (Nat.le_refl _) _).trans (ho.below (by simp) (fun k e => Nat.le_of_eq e.symm)))
  clear hX ho
  go_wp2_with fail
  refine bodyPost_ret (v := writeA) ?_ rfl ⟨rfl, B.out⟩
  simp [results, Try.results34, go_sem, r0, r1, r2, r3, writeA]
end Go.Proofs.Ytkcghcoacjpbkaa.Mbox
