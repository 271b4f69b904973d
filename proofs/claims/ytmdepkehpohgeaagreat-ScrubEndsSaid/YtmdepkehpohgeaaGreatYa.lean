/- What sizes a kind may have: a map that a function makes anew each time; whether a device is sized. -/
import Derived.Test.YtmdepkehpohgeaaGreatVa
import Derived.Test.YtmdepkehpohgeaaGreatOw
import Derived.Maps.OwnSet
import Derived.Carry
namespace Go.Proofs.YtmdepkehpohgeaaGreat.Win
open Go.RowKit Go.Maps Fifo Orow
set_option linter.unusedVariables false

/-- The walk stops ahead of an entry of a map's literal. -/
theorem at_insert {P : Program} {ops : Array Oper} {Q : Exit → Act → World → Prop} {rest : List Oper} {op : Oper} {a : Act} {w : World} (ty : TypeId) (m x y : Operand) (ho : op.op = .insert ty m x y) (h : Hid (wpList P ops Q (op :: rest) a w)) : wpList P ops Q (op :: rest) a w := h.out
/-- An entry of a map's literal: as a store into an own map. -/
theorem wpList_insert_own {H : Type} {P : Program} (w : World) {ops : Array Oper} {rest : List Oper} {o : Oper} {a : Act} {Q : Exit → Act → World → Prop}
    (hg : o.guard = none) (m x v : Operand) (t : TypeId) (hop : o.op = Op.insert t m x v)
    (k e : TypeId) (K : Keyed P k) (ht : P.underlying t = some (.map k e)) (R : Value → Option (DataW H × List MemPlace)) (b n : Nat) (D : DataW H)
    (hm : a.eval m = .map (some b)) (hown : w.ownsMap P k R b n D) (hn : n < maxLen) (key val : Value) (kl : Lit) (hx : a.eval x = key) (hv : a.eval v = val) (hkey : keyOf P k key = some kl)
    (d : DataW H) (ps : List MemPlace) (hval : R val = some (d, ps))
    (hK : ∀ w', w'.ownsMap P k R b (n + 1) (D.put kl d) → w.grownBy w' (some b) → wpList P ops Q rest (a.put o.dst undef) w') :
    wpList P ops Q (o :: rest) a w := by
  refine wpList_plain hg fun K' hK' => ?_
  obtain ⟨w', hrun, r1, r2⟩ := hown.update K ht hn hkey hval
  unfold Oper.wp
  simp [execOp, hop, hm, hx, hv, hrun, Result.andThen]
  exact hK' _ _ (hK w' r1 r2)

/-- How two sizes read. -/
def szD (a b : Int) : DataW Unit := .agg [.lit (.int .i64 a), .lit (.int .i64 b)]
def szR : Value → Option (DataW Unit × List MemPlace)
  | .agg cs => match cs.toList with
    | [.int .i64 a, .int .i64 b] => some (szD a b, [])
    | _ => none
  | _ => none
theorem szR_mk (a b : Int) : szR (.agg #[.int .i64 a, .int .i64 b]) = some (szD a b, []) := rfl
theorem szR_inv {v : Value} {a b : Int} {ps : List MemPlace} (h : szR v = some (szD a b, ps)) : v = .agg #[.int .i64 a, .int .i64 b] := by
  unfold szR at h
  split at h
  · rename_i cs
    split at h
    · rename_i x y e
      simp only [szD, Option.some.injEq, Prod.mk.injEq, DataW.agg.injEq, List.cons.injEq, DataW.lit.injEq, Lit.int.injEq, true_and, and_true] at h
      obtain ⟨⟨rfl, rfl⟩, _⟩ := h
      rw [show cs = #[.int .i64 x, .int .i64 y] from Array.toList_inj.1 (by rw [e])]
    · cases h
  · cases h
/-- The six kinds' sizes. -/
def kinds : DataW Unit := ((((((DataW.map []).put (.int .i64 1) (szD 4 4096)).put (.int .i64 2) (szD 32 32)).put (.int .i64 3) (szD 32 32)).put (.int .i64 4) (szD 32 32)).put (.int .i64 5) (szD 32 32)).put (.int .i64 6) (szD 32 32)
theorem has_put (D : DataW Unit) (hD : IsMap D) (n k : Int) (d : DataW Unit) : Maps.has (D.put (.int .i64 n) d) (.int .i64 k) = if k = n then true else Maps.has D (.int .i64 k) := by
  by_cases e : k = n
  · subst e; rw [if_pos rfl]; exact has_put_same hD (k := .int .i64 k) trivial d
  · rw [if_neg e]; exact has_put_other (fun h => e (by simpa using h)) d
theorem at_put (D : DataW Unit) (hD : IsMap D) (n k : Int) (d z : DataW Unit) : (D.put (.int .i64 n) d).atKey (.int .i64 k) z = if k = n then d else D.atKey (.int .i64 k) z := by
  by_cases e : k = n
  · subst e; rw [if_pos rfl]; exact atKey_put_same hD (k := .int .i64 k) trivial d z
  · rw [if_neg e]; exact atKey_put_other (fun h => e (by simpa using h)) d z
def loV (k : Int) : Int := if k = 1 then 4 else if 2 ≤ k ∧ k ≤ 6 then 32 else 0
def hiV (k : Int) : Int := if k = 1 then 4096 else if 2 ≤ k ∧ k ≤ 6 then 32 else 0
def isV (k : Int) : Bool := decide (1 ≤ k ∧ k ≤ 6)
theorem kinds_has (k : Int) : Maps.has kinds (.int .i64 k) = isV k := by
  have m0 : IsMap (.map [] : DataW Unit) := isMap_empty
  unfold kinds
  rw [has_put _ (((((m0.put _ _).put _ _).put _ _).put _ _).put _ _), has_put _ ((((m0.put _ _).put _ _).put _ _).put _ _), has_put _ (((m0.put _ _).put _ _).put _ _), has_put _ ((m0.put _ _).put _ _), has_put _ (m0.put _ _), has_put _ m0]
  unfold isV
  rw [show Maps.has (.map [] : DataW Unit) (.int .i64 k) = false from rfl]
  by_cases h6 : k = 6
  · rw [if_pos h6]; exact (decide_eq_true (by omega)).symm
  rw [if_neg h6]
  by_cases h5 : k = 5
  · rw [if_pos h5]; exact (decide_eq_true (by omega)).symm
  rw [if_neg h5]
  by_cases h4 : k = 4
  · rw [if_pos h4]; exact (decide_eq_true (by omega)).symm
  rw [if_neg h4]
  by_cases h3 : k = 3
  · rw [if_pos h3]; exact (decide_eq_true (by omega)).symm
  rw [if_neg h3]
  by_cases h2 : k = 2
  · rw [if_pos h2]; exact (decide_eq_true (by omega)).symm
  rw [if_neg h2]
  by_cases h1 : k = 1
  · rw [if_pos h1]; exact (decide_eq_true (by omega)).symm
  rw [if_neg h1]
  exact (decide_eq_false (by omega)).symm
theorem kinds_at (k : Int) : kinds.atKey (.int .i64 k) (szD 0 0) = szD (loV k) (hiV k) := by
  have m0 : IsMap (.map [] : DataW Unit) := isMap_empty
  unfold kinds
  rw [at_put _ (((((m0.put _ _).put _ _).put _ _).put _ _).put _ _), at_put _ ((((m0.put _ _).put _ _).put _ _).put _ _), at_put _ (((m0.put _ _).put _ _).put _ _), at_put _ ((m0.put _ _).put _ _), at_put _ (m0.put _ _), at_put _ m0]
  rw [show (DataW.map [] : DataW Unit).atKey (.int .i64 k) (szD 0 0) = szD 0 0 from rfl]
  have e32 : ∀ k : Int, 2 ≤ k ∧ k ≤ 6 → szD (loV k) (hiV k) = szD 32 32 := fun k h => by
    unfold loV hiV
    have h1 : ¬ k = 1 := by omega
    simp [h1, h]
  by_cases h6 : k = 6
  · rw [if_pos h6]; exact (e32 k (by omega)).symm
  rw [if_neg h6]
  by_cases h5 : k = 5
  · rw [if_pos h5]; exact (e32 k (by omega)).symm
  rw [if_neg h5]
  by_cases h4 : k = 4
  · rw [if_pos h4]; exact (e32 k (by omega)).symm
  rw [if_neg h4]
  by_cases h3 : k = 3
  · rw [if_pos h3]; exact (e32 k (by omega)).symm
  rw [if_neg h3]
  by_cases h2 : k = 2
  · rw [if_pos h2]; exact (e32 k (by omega)).symm
  rw [if_neg h2]
  by_cases h1 : k = 1
  · subst h1; rfl
  rw [if_neg h1]
  unfold loV hiV
  have h26 : ¬ (2 ≤ k ∧ k ≤ 6) := by omega
  simp [h1, h26]

theorem keyK : Keyed Tryz.prog 42 := int_keyed Tryz.underlying42
theorem zeroSz (w : World) : (zeroValue 222).run Tryz.prog w = .ok (.agg #[.int .i64 0, .int .i64 0]) w := by kernel_rfl
/-- A map of the six kinds' sizes lies in block g. -/
def Kinds (w : World) (g : Nat) : Prop := w.ownsMap Tryz.prog 42 szR g 6 kinds
theorem Kinds.alloc {w : World} {g : Nat} (h : Kinds w g) (o : Obj) : Kinds (w.alloc o) g := World.ownsMap.alloc h o
theorem Kinds.look {w : World} {g : Nat} (h : Kinds w g) (k : Int) (hk : -9223372036854775808 ≤ k) (hk' : k ≤ 9223372036854775807) :
    (Instr.lookup 224 (.map (some g)) (.int .i64 k) true).run Tryz.prog w = .ok (.tuple #[.agg #[.int .i64 (loV k), .int .i64 (hiV k)], .bool (isV k)]) w := by
  obtain ⟨v, ps, hrun, hv⟩ := World.ownsMap.look_ok h keyK Tryz.underlying224 (zeroSz w) (szR_mk 0 0) (keyOf_int_mk Tryz.underlying42 (WalkArith.wf_i64 ⟨hk, hk'⟩))
  rw [kinds_at] at hv
  rw [szR_inv hv, kinds_has] at hrun
  exact hrun
end Go.Proofs.YtmdepkehpohgeaaGreat.Win
