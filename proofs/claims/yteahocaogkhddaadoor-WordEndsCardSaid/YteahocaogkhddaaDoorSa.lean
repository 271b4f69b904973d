/- Contracts of the document's answers for sums and bits; SameInts of like rows; the walk of WordSums. -/
import Derived.Test.YteahocaogkhddaaDoorOd
import Derived.Test.YteahocaogkhddaaDoorKeInts
namespace Go.Proofs.YteahocaogkhddaaDoor.Word
open Go.RowKit Go.Maps Go.ChangeShapes Go.WideShapes Go.ChangeAt
set_option linter.unusedVariables false

theorem radd_any (a b : Int) (w : World) (ha : 0 ≤ a) (hb : 0 ≤ b) (ha' : a < 4294967296) (hb' : b < 4294967296) :
    Calls Tryd.prog 14 #[.int .u32 a, .int .u32 b] w fun e w' => e = .returned (.tuple #[.int .u32 (sumV a b), .bool (sumB a b)]) ∧ w = w' := by
  go_enter Tryd.func14, Tryd.ntmps14
  go_wp2
  go_ret2
  exact ⟨ret_int_bool (by unfold sumV; omega) (by unfold sumB; rw [decide_eq_decide]), rfl⟩
theorem rsub_any (a b : Int) (w : World) (ha : 0 ≤ a) (hb : 0 ≤ b) (ha' : a < 4294967296) (hb' : b < 4294967296) :
    Calls Tryd.prog 16 #[.int .u32 a, .int .u32 b] w fun e w' => e = .returned (.tuple #[.int .u32 (subV a b), .bool (subB a b)]) ∧ w = w' := by
  go_enter Tryd.func16, Tryd.ntmps16
  go_wp2
  go_ret2
  exact ⟨ret_int_bool (by unfold subV; omega) rfl, rfl⟩

def onesK (x k : Nat) : List Nat := (List.range k).filter fun i => x.testBit i
theorem onesK_succ (x k : Nat) : onesK x (k + 1) = if x / 2 ^ k % 2 = 1 then onesK x k ++ [k] else onesK x k := by
  unfold onesK
  rw [List.range_succ, List.filter_append]
  by_cases h : x / 2 ^ k % 2 = 1
  · have : x.testBit k = true := by rw [Nat.testBit_eq_decide_div_mod_eq]; simpa using h
    simp [this, h]
  · have : x.testBit k = false := by rw [Nat.testBit_eq_decide_div_mod_eq]; simpa using h
    simp [this, h]
theorem onesK_len (x k : Nat) : (onesK x k).length ≤ k := by
  have := List.length_filter_le (fun i => x.testBit i) (List.range k)
  simpa [onesK] using this
abbrev iv (l : List Nat) : List Value := l.map fun b => Value.int .i64 (b : Nat)

set_option maxRecDepth 8000 in
set_option maxHeartbeats 400000 in
theorem rones_any (x : Nat) (hx : x < 4294967296) (w : World) :
    Calls Tryd.prog 21 #[.int .u32 x] w (OnesPost x w) := by
  obtain ⟨i0, hi, hz0, hz1, hz2⟩ := info_parts info_int
  have Hi := Lib.hid hi
  have Hz0 := Lib.hid hz0
  have Hz1 := Lib.hid hz1
  have Hz2 := Lib.hid hz2
  clear hi hz0 hz1 hz2
  go_enter Tryd.func21, Tryd.ntmps21
  go_wp2
  go_loopw [0, 3, 4] (fun zv s i wr => ∃ (k z : Nat), k ≤ 32 ∧ i = .int .i64 k ∧ zv = .int .u32 z ∧ z < 4294967296 ∧ z = x / 2 ^ k ∧ wr.ownsRow w.heap.size 3 1 s (onesK x k).length (iv (onesK x k)) ∧ Below w.heap.size w wr) (fun _ _ i _ => 32 - (intOf i).toNat)
  case atStart => exact ⟨0, x, by omega, rfl, rfl, hx, by simp, World.ownsRow_nil _ _ _ _, Below.refl _ _⟩
  case round =>
    obtain ⟨k, z, hk, rfl, rfl, hz, hzk, hrow, hb⟩ := hrel
    have Hzk := Lib.hid hzk
    have Hrow := Lib.hid hrow
    have Hb := Lib.hid hb
    have hsz := hb.size
    have hkl := onesK_len x k
    clear hzk hrow hb
    have hdiv : Hid (z / 2 = x / 2 ^ (k + 1)) := by rw [Hzk.out, Nat.div_div_eq_div_mul, Nat.pow_succ]; exact rfl
    by_cases hlt : k < 32
    · by_cases hbit : z % 2 = 1
      · have hs : Hid (onesK x (k + 1) = onesK x k ++ [k]) := by rw [onesK_succ, ← Hzk.out, if_pos hbit]; exact rfl
        have hB : ((z : Int) % 2 == 1) = true := beq_iff_eq.2 (by omega)
        clear hbit
        go_wp2_with (at_builtin; refine wpList_append_own _ rfl _ _ 31 rfl w.heap.size 3 i0 (.int .i64 0) 1 8 Tryd.underlying31 Hi.out Hz0.out Hz1.out Hz2.out rfl (by decide) _ _ _ rfl (Hrow.out.alloc _) ⟨wr.heap.size, 0, none⟩ 1 1 [.int .i64 (k : Nat)] rfl rfl (cell_one_new _ _ _) (by simp [Value.oneCell']) (by unfold maxLen; omega) (by omega) (by simp; omega) ?_; intro v' w1 hown1 hgrow _)
        refine ⟨⟨k + 1, z / 2, by omega, by go_num, by simp, by omega, hdiv.out, ?_, ?_⟩, by simp [intOf]; omega⟩
        · rw [hs.out]
          simpa [iv] using hown1
        · exact (Hb.out.alloc hsz _).grown hgrow (by simp; omega) (fun k h => (Hrow.out.lt k h).1)
      · have hs : Hid (onesK x (k + 1) = onesK x k) := by rw [onesK_succ, ← Hzk.out, if_neg hbit]; exact rfl
        have hB : ((z : Int) % 2 == 1) = false := beq_eq_false_iff_ne.2 (by omega)
        clear hbit
        go_wp2
        refine ⟨⟨k + 1, z / 2, by omega, by go_num, by simp, by omega, hdiv.out, ?_, Hb.out⟩, by simp [intOf]; omega⟩
        rw [hs.out]
        exact Hrow.out
    · obtain rfl : k = 32 := by omega
      go_wp2
      go_ret
      exact ⟨_, rfl, Hrow.out, Hb.out⟩
theorem rones_read (x : Nat) (hx : x < 4294967296) (w : World) : Calls Tryd.prog 21 #[.int .u32 x] w (OnesRead x w) := by
  refine (rones_any x hx w).mono ?_
  rintro e W' ⟨v, rfl, hown, hb⟩
  rcases hown.2 with ⟨rfl, h0⟩ | ⟨g, cap, cur, rfl, hg, _⟩
  · exact ⟨none, 0, by rw [h0], hb, .inl (List.eq_nil_of_length_eq_zero h0)⟩
  · refine ⟨_, cap, rfl, hb, .inr ⟨g, rfl, hg, fun k hk => ?_⟩⟩
    rw [Nat.zero_add, hown.cellAt k (by omega)]
    simp [List.getD_eq_getElem?_getD, hk]
theorem rfirst_any (x f : Nat) (b : Bool) (hx : x < 4294967296) (w : World) (hf : firstV x = f) (hb : firstB x = b) :
    Calls Tryd.prog 18 #[.int .u32 x] w fun e W' => e = .returned (.tuple #[.int .i64 f, .bool b]) ∧ Below w.heap.size w W' := by
  subst hf; subst hb
  have hl32 := onesL_len x
  go_enter Tryd.func18, Tryd.ntmps18
  go_wp2_with fail
  refine (rones_read x hx _).mono ?_
  rintro e w2 ⟨a, cap, rfl, hb2, hread⟩
  have Hb2 := Lib.hid hb2
  clear hb2
  rcases hread with hnil | ⟨g, rfl, hg, hcells⟩
  · have E := Lib.hid (firstV_nil hx hnil)
    have hl0 : (onesL x).length = 0 := by rw [hnil]; rfl
    rw [hl0]
    clear hl0 hnil hl32
    go_wp2_with fail
    go_ret2
    exact ⟨ret_int_bool (by rw [E.out.1]; rfl) E.out.2.symm, Hb2.out⟩
  · cases e : onesL x with
    | nil =>
      have E := Lib.hid (firstV_nil hx e)
      have hl0 : (onesL x).length = 0 := by rw [e]; rfl
      have hl1 : ([] : List Nat).length = 0 := rfl
      rw [hl1]
      clear hl0 hl1 e hl32 hcells
      go_wp2_with fail
      go_ret2
      exact ⟨ret_int_bool (by rw [E.out.1]; rfl) E.out.2.symm, Hb2.out⟩
    | cons y r =>
      have E := Lib.hid (firstV_head hx e)
      have c0 := hcells 0 (by rw [e]; simp)
      rw [e] at c0 hl32
      have c1 : w2.cell? ⟨g, 0, none⟩ = some (.int .i64 (y : Nat)) := c0
      have hlr : (y :: r).length = r.length + 1 := rfl
      rw [hlr] at hl32 ⊢
      have hb0 : (((r.length + 1 : Nat) : Int) == 0) = false := beq_eq_false_iff_ne.2 (by omega)
      clear hlr e hcells c0
      go_wp2_with fail
      all_goals go_ret2
      all_goals exact ⟨ret_int_bool (by rw [E.out.1]) E.out.2.symm, Hb2.out⟩
end Go.Proofs.YteahocaogkhddaaDoor.Word
