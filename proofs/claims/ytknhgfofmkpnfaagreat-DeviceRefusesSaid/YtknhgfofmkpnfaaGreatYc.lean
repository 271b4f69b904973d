/- Put together: Va, Vb, Ya, Yb, Yc. -/
import Derived.Test.YtknhgfofmkpnfaaGreatRt
import Derived.Test.YtknhgfofmkpnfaaGreatAc
import Derived.Test.YtknhgfofmkpnfaaGreatOw
import Derived.Maps.OwnSet
import Derived.Carry
/- Plain: devices, their windows, right rows of devices, which one has an access, an address. -/
namespace Go.Proofs.YtknhgfofmkpnfaaGreat.Win
set_option linter.unusedVariables false

/-- A device. -/
structure Dv where
  k : Int
  B : Int
  S : Int
  O : Int
  L : Int
def zeroD : Dv := ⟨0, 0, 0, 0, 0⟩
instance : Inhabited Dv := ⟨zeroD⟩
/-- Its numbers are such as can be read. -/
def okD (d : Dv) : Prop := (-9223372036854775808 ≤ d.k ∧ d.k ≤ 9223372036854775807) ∧ (0 ≤ d.B ∧ d.B < 4294967296) ∧ (-9223372036854775808 ≤ d.S ∧ d.S ≤ 9223372036854775807) ∧ (-9223372036854775808 ≤ d.O ∧ d.O ≤ 9223372036854775807) ∧ (-9223372036854775808 ≤ d.L ∧ d.L ≤ 9223372036854775807)
def sizeB (k S : Int) : Bool := if k = 1 then decide (4 ≤ S ∧ S ≤ 4096 ∧ S % 4 = 0) else decide (S = 32)
def devV (k B S O L : Int) : Bool := decide (1 ≤ k ∧ k ≤ 6) && sizeB k S && decide (B % 4 = 0) && decide (B + S ≤ 4294967296) && decide (-1 ≤ O ∧ O < 8) && decide (-1 ≤ L ∧ L < 8)
def Dv.right (d : Dv) : Bool := devV d.k d.B d.S d.O d.L
/-- The ends of its window. -/
def winF (b : Bool) (B : Int) : Int := if b then B else 0
def winT (b : Bool) (B S : Int) : Int := if b then B + S - 1 else 0
def Dv.F (d : Dv) : Int := winF d.right d.B
def Dv.T (d : Dv) : Int := winT d.right d.B d.S
theorem dev_parts {k B S O L : Int} (h : devV k B S O L = true) : (1 ≤ k ∧ k ≤ 6) ∧ (4 ≤ S ∧ S ≤ 4096 ∧ S % 4 = 0) ∧ (k ≠ 1 → S = 32) ∧ B % 4 = 0 ∧ B + S ≤ 4294967296 ∧ (-1 ≤ O ∧ O < 8) ∧ (-1 ≤ L ∧ L < 8) := by
  unfold devV sizeB at h
  simp only [Bool.and_eq_true, decide_eq_true_eq] at h
  obtain ⟨⟨⟨⟨⟨h1, h2⟩, h3⟩, h4⟩, h5⟩, h6⟩ := h
  by_cases hk : k = 1
  · rw [if_pos hk] at h2
    simp only [decide_eq_true_eq] at h2
    exact ⟨h1, h2, fun h => absurd hk h, h3, h4, h5, h6⟩
  · rw [if_neg hk] at h2
    simp only [decide_eq_true_eq] at h2
    exact ⟨h1, by omega, fun _ => h2, h3, h4, h5, h6⟩
theorem dev_of {k B S O L : Int} (h1 : 1 ≤ k ∧ k ≤ 6) (h2 : 4 ≤ S ∧ S ≤ 4096 ∧ S % 4 = 0) (h3 : k ≠ 1 → S = 32) (h4 : B % 4 = 0) (h5 : B + S ≤ 4294967296) (h6 : -1 ≤ O ∧ O < 8) (h7 : -1 ≤ L ∧ L < 8) : devV k B S O L = true := by
  unfold devV sizeB
  simp only [Bool.and_eq_true, decide_eq_true_eq]
  refine ⟨⟨⟨⟨⟨h1, ?_⟩, h4⟩, h5⟩, h6⟩, h7⟩
  by_cases hk : k = 1
  · rw [if_pos hk]; exact decide_eq_true h2
  · rw [if_neg hk]; exact decide_eq_true (h3 hk)
theorem win_on {d : Dv} (h : d.right = true) : d.F = d.B ∧ d.T = d.B + d.S - 1 := by
  unfold Dv.F Dv.T winF winT
  rw [h]
  exact ⟨rfl, rfl⟩

/-- Do two windows meet? -/
def meet (d e : Dv) : Bool := Reach.meetB d.F d.T e.F e.T
theorem meet_comm (d e : Dv) : meet d e = meet e d := by
  unfold meet Reach.meetB
  rw [decide_eq_decide]
  omega
theorem meet_self {d : Dv} (h : d.right = true) : meet d d = true := by
  have hp := dev_parts h
  have hw := win_on h
  unfold meet Reach.meetB
  rw [decide_eq_true_eq]
  omega
/-- A right row. -/
def rowP (l : List Dv) : Prop := l.length ≤ 16 ∧ ∀ i, i < l.length → l[i]!.right = true ∧ ∀ k, k < i → meet l[i]! l[k]! = false
def rowB (l : List Dv) : Bool := decide (l.length ≤ 16) && (List.range l.length).all fun i => l[i]!.right && (List.range i).all fun k => !meet l[i]! l[k]!
theorem rowB_iff {l : List Dv} : rowB l = true ↔ rowP l := by
  unfold rowB rowP
  simp only [Bool.and_eq_true, decide_eq_true_eq, List.all_eq_true, List.mem_range, Bool.not_eq_true']
theorem row_apart {l : List Dv} (h : rowP l) {i k : Nat} (hi : i < l.length) (hk : k < l.length) (hne : i ≠ k) : meet l[i]! l[k]! = false := by
  rcases Nat.lt_trichotomy i k with e | e | e
  · rw [meet_comm]; exact (h.2 k hk).2 i e
  · exact absurd e hne
  · exact (h.2 i hi).2 k e
theorem row_of {l : List Dv} (h1 : l.length ≤ 16) (h2 : ∀ i, i < l.length → l[i]!.right = true) (h3 : ∀ i k, i < l.length → k < l.length → i ≠ k → meet l[i]! l[k]! = false) : rowP l :=
  ⟨h1, fun i hi => ⟨h2 i hi, fun k hk => h3 i k hi (by omega) (by omega)⟩⟩
theorem row_no_right {l : List Dv} {i : Nat} (hi : i < l.length) (h : l[i]!.right = false) : rowB l = false := by
  cases e : rowB l with
  | false => rfl
  | true => have := ((rowB_iff.1 e).2 i hi).1; rw [h] at this; cases this
theorem row_no_meet {l : List Dv} {i k : Nat} (hi : i < l.length) (hk : k < i) (h : meet l[i]! l[k]! = true) : rowB l = false := by
  cases e : rowB l with
  | false => rfl
  | true => have := ((rowB_iff.1 e).2 i hi).2 k hk; rw [h] at this; cases this
theorem row_no_long {l : List Dv} (h : 16 < l.length) : rowB l = false := by
  cases e : rowB l with
  | false => rfl
  | true => have := (rowB_iff.1 e).1; omega
theorem row_yes {l : List Dv} (h : l.length ≤ 16) (h2 : ∀ i, i < l.length → l[i]!.right = true ∧ ∀ k, k < i → meet l[i]! l[k]! = false) : rowB l = true := rowB_iff.2 ⟨h, h2⟩

/-- The first of the row that is such. -/
def fst (p : Dv → Bool) (l : List Dv) : Option Nat := l.findIdx? p
theorem fst_some {p : Dv → Bool} {l : List Dv} {i : Nat} (h : fst p l = some i) : i < l.length ∧ p l[i]! = true ∧ ∀ j, j < i → p l[j]! = false := by
  unfold fst at h
  rw [List.findIdx?_eq_some_iff_getElem] at h
  obtain ⟨h1, h2, h3⟩ := h
  refine ⟨h1, by rw [getElem!_pos l i h1]; exact h2, fun j hj => ?_⟩
  have := h3 j hj
  rw [getElem!_pos l j (by omega)]
  simpa using this
theorem fst_none {p : Dv → Bool} {l : List Dv} (h : fst p l = none) : ∀ j, j < l.length → p l[j]! = false := by
  unfold fst at h
  rw [List.findIdx?_eq_none_iff] at h
  intro j hj
  rw [getElem!_pos l j hj]
  exact h _ (List.getElem_mem hj)
theorem fst_yes {p : Dv → Bool} {l : List Dv} {i : Nat} (h1 : i < l.length) (h2 : p l[i]! = true) (h3 : ∀ j, j < i → p l[j]! = false) : fst p l = some i := by
  unfold fst
  rw [List.findIdx?_eq_some_iff_getElem]
  refine ⟨h1, by rw [← getElem!_pos l i h1]; exact h2, fun j hj => ?_⟩
  have := h3 j hj
  rw [getElem!_pos l j (by omega)] at this
  simpa using this
theorem fst_no {p : Dv → Bool} {l : List Dv} (h : ∀ j, j < l.length → p l[j]! = false) : fst p l = none := by
  cases e : fst p l with
  | none => rfl
  | some i => have := fst_some e; rw [h i this.1] at this; exact absurd this.2.1 (by simp)
/-- An access. -/
structure Ac where
  W : Int
  wr : Bool
  A : Int
  S : Int
  D : Int
def Ac.right (a : Ac) : Bool := Access.rightB a.W a.wr a.A a.S a.D
/-- Does its window have all of these addresses? -/
def Dv.holds (d : Dv) (f t : Int) : Bool := Reach.inB f t d.F d.T
def Dv.has (d : Dv) (p : Int) : Bool := Reach.hasB d.F d.T p
def dcd (l : List Dv) (a : Ac) : Option Nat := if a.right && rowB l then fst (fun d => d.holds a.A (a.A + a.S - 1)) l else none
def offV (l : List Dv) (a : Ac) : Option Nat → Int
  | none => 0
  | some i => a.A - l[i]!.B
def atV (l : List Dv) (p : Int) : Option Nat := if rowB l then fst (fun d => d.has p) l else none
end Go.Proofs.YtknhgfofmkpnfaaGreat.Win
/- Rows of devices in memory; a device's own contracts by the document. -/
namespace Go.Proofs.YtknhgfofmkpnfaaGreat.Win
open Go.RowKit Go.Maps Fifo Orow
set_option linter.unusedVariables false

/-- A device's value. -/
abbrev dv (k B S O L : Int) : Value := .agg #[.int .i64 k, .int .u32 B, .int .i64 S, .int .i64 O, .int .i64 L]
/-- A device that lies in a block from p on. -/
structure AtD (w : World) (b p : Nat) (d : Dv) : Prop where
  c0 : w.cell? ⟨b, p, none⟩ = some (.int .i64 d.k)
  c1 : w.cell? ⟨b, p + 1, none⟩ = some (.int .u32 d.B)
  c2 : w.cell? ⟨b, p + 2, none⟩ = some (.int .i64 d.S)
  c3 : w.cell? ⟨b, p + 3, none⟩ = some (.int .i64 d.O)
  c4 : w.cell? ⟨b, p + 4, none⟩ = some (.int .i64 d.L)
theorem AtD.keep {w w' : World} {b p : Nat} {d : Dv} (h : AtD w b p d) (hb : Below w.heap.size w w') : AtD w' b p d :=
  ⟨cell_keep hb h.c0, cell_keep hb h.c1, cell_keep hb h.c2, cell_keep hb h.c3, cell_keep hb h.c4⟩
theorem atD_new (w : World) (k B S O L : Int) (t : TypeId) : AtD (w.alloc (.cells #[.int .i64 k, .int .u32 B, .int .i64 S, .int .i64 O, .int .i64 L] t)) w.heap.size 0 ⟨k, B, S, O, L⟩ :=
  ⟨World.cell?_alloc_at _ _ _ 0 rfl, World.cell?_alloc_at _ _ _ 1 rfl, World.cell?_alloc_at _ _ _ 2 rfl, World.cell?_alloc_at _ _ _ 3 rfl, World.cell?_alloc_at _ _ _ 4 rfl⟩
/-- A slice of devices. -/
def RowV (w : World) (a : Option Addr) (n : Nat) (l : List Dv) : Prop :=
  l.length = n ∧ (∀ j, j < n → okD l[j]!) ∧ ∀ j, j < n → ∃ b off, a = some ⟨b, off, none⟩ ∧ AtD w b (off + j * 5) l[j]!
theorem RowV.keep {w w' : World} {a : Option Addr} {n : Nat} {l : List Dv} (h : RowV w a n l) (hb : Below w.heap.size w w') : RowV w' a n l :=
  ⟨h.1, h.2.1, fun j hj => by
    obtain ⟨b, off, e, c⟩ := h.2.2 j hj
    exact ⟨b, off, e, c.keep hb⟩⟩
theorem RowV.nil (w : World) : RowV w none 0 [] := ⟨rfl, fun j hj => by omega, fun j hj => by omega⟩

end Go.Proofs.YtknhgfofmkpnfaaGreat.Win
/- What sizes a kind may have: a map that a function makes anew each time; whether a device is sized. -/
namespace Go.Proofs.YtknhgfofmkpnfaaGreat.Win
open Go.RowKit Go.Maps Fifo Orow
set_option linter.unusedVariables false

/-- The walk stops ahead of an entry of a map's literal. -/
theorem at_insert {P : Program} {ops : Array Oper} {Q : Exit → Act → World → Prop} {rest : List Oper} {op : Oper} {a : Act} {w : World} (ty : TypeId) (m x y : Operand) (ho : op.op = .insert ty m x y) (h : Hid (wpList P ops Q (op :: rest) a w)) : wpList P ops Q (op :: rest) a w := h.out
/-- An entry of a map's literal: as a store into an own map. -/
theorem wpList_insert_own {H : Type} {P : Program} (w : World) {ops : Array Oper} {rest : List Oper} {o : Oper} {a : Act} {Q : Exit → Act → World → Prop}
    (hg : o.guard = none) (m x v : Operand) (t : TypeId) (hop : o.op = Op.insert t m x v)
    (k e : TypeId) (K : Keyed P k) (ht : P.underlying t = some (.map k e)) (R : Value → Option (DataW H × List MemPlace)) (b n : Nat) (D : DataW H)
    (hm : a.eval m = .map (some b)) (hown : w.ownsMap P k R b n D) (hn : n < maxLen) (key val : Value) (kl : Lit) (hx : a.eval x = key) (hv : a.eval v = val) (hkey : keyOf P k key = some kl)
    (d : DataW H) (ps : List MemPlace) (hval : R val = some (d, ps))
    (hK : ∀ w', w'.ownsMap P k R b (n + 1) (D.put kl d) → w.grownBy w' (some b) → wpList P ops Q rest (a.put o.dst undef) w') :
    wpList P ops Q (o :: rest) a w := by
  refine wpList_plain hg fun K' hK' => ?_
  obtain ⟨w', hrun, r1, r2⟩ := hown.update K ht hn hkey hval
  unfold Oper.wp
  simp [execOp, hop, hm, hx, hv, hrun, Result.andThen]
  exact hK' _ _ (hK w' r1 r2)

/-- How two sizes read. -/
def szD (a b : Int) : DataW Unit := .agg [.lit (.int .i64 a), .lit (.int .i64 b)]
def szR : Value → Option (DataW Unit × List MemPlace)
  | .agg cs => match cs.toList with
    | [.int .i64 a, .int .i64 b] => some (szD a b, [])
    | _ => none
  | _ => none
theorem szR_mk (a b : Int) : szR (.agg #[.int .i64 a, .int .i64 b]) = some (szD a b, []) := rfl
theorem szR_inv {v : Value} {a b : Int} {ps : List MemPlace} (h : szR v = some (szD a b, ps)) : v = .agg #[.int .i64 a, .int .i64 b] := by
  unfold szR at h
  split at h
  · rename_i cs
    split at h
    · rename_i x y e
      simp only [szD, Option.some.injEq, Prod.mk.injEq, DataW.agg.injEq, List.cons.injEq, DataW.lit.injEq, Lit.int.injEq, true_and, and_true] at h
      obtain ⟨⟨rfl, rfl⟩, _⟩ := h
      rw [show cs = #[.int .i64 x, .int .i64 y] from Array.toList_inj.1 (by rw [e])]
    · cases h
  · cases h
/-- The six kinds' sizes. -/
def kinds : DataW Unit := ((((((DataW.map []).put (.int .i64 1) (szD 4 4096)).put (.int .i64 2) (szD 32 32)).put (.int .i64 3) (szD 32 32)).put (.int .i64 4) (szD 32 32)).put (.int .i64 5) (szD 32 32)).put (.int .i64 6) (szD 32 32)
theorem has_put (D : DataW Unit) (hD : IsMap D) (n k : Int) (d : DataW Unit) : Maps.has (D.put (.int .i64 n) d) (.int .i64 k) = if k = n then true else Maps.has D (.int .i64 k) := by
  by_cases e : k = n
  · subst e; rw [if_pos rfl]; exact has_put_same hD (k := .int .i64 k) trivial d
  · rw [if_neg e]; exact has_put_other (fun h => e (by simpa using h)) d
theorem at_put (D : DataW Unit) (hD : IsMap D) (n k : Int) (d z : DataW Unit) : (D.put (.int .i64 n) d).atKey (.int .i64 k) z = if k = n then d else D.atKey (.int .i64 k) z := by
  by_cases e : k = n
  · subst e; rw [if_pos rfl]; exact atKey_put_same hD (k := .int .i64 k) trivial d z
  · rw [if_neg e]; exact atKey_put_other (fun h => e (by simpa using h)) d z
def loV (k : Int) : Int := if k = 1 then 4 else if 2 ≤ k ∧ k ≤ 6 then 32 else 0
def hiV (k : Int) : Int := if k = 1 then 4096 else if 2 ≤ k ∧ k ≤ 6 then 32 else 0
def isV (k : Int) : Bool := decide (1 ≤ k ∧ k ≤ 6)
theorem kinds_has (k : Int) : Maps.has kinds (.int .i64 k) = isV k := by
  have m0 : IsMap (.map [] : DataW Unit) := isMap_empty
  unfold kinds
  rw [has_put _ (((((m0.put _ _).put _ _).put _ _).put _ _).put _ _), has_put _ ((((m0.put _ _).put _ _).put _ _).put _ _), has_put _ (((m0.put _ _).put _ _).put _ _), has_put _ ((m0.put _ _).put _ _), has_put _ (m0.put _ _), has_put _ m0]
  unfold isV
  rw [show Maps.has (.map [] : DataW Unit) (.int .i64 k) = false from rfl]
  by_cases h6 : k = 6
  · rw [if_pos h6]; exact (decide_eq_true (by omega)).symm
  rw [if_neg h6]
  by_cases h5 : k = 5
  · rw [if_pos h5]; exact (decide_eq_true (by omega)).symm
  rw [if_neg h5]
  by_cases h4 : k = 4
  · rw [if_pos h4]; exact (decide_eq_true (by omega)).symm
  rw [if_neg h4]
  by_cases h3 : k = 3
  · rw [if_pos h3]; exact (decide_eq_true (by omega)).symm
  rw [if_neg h3]
  by_cases h2 : k = 2
  · rw [if_pos h2]; exact (decide_eq_true (by omega)).symm
  rw [if_neg h2]
  by_cases h1 : k = 1
  · rw [if_pos h1]; exact (decide_eq_true (by omega)).symm
  rw [if_neg h1]
  exact (decide_eq_false (by omega)).symm
theorem kinds_at (k : Int) : kinds.atKey (.int .i64 k) (szD 0 0) = szD (loV k) (hiV k) := by
  have m0 : IsMap (.map [] : DataW Unit) := isMap_empty
  unfold kinds
  rw [at_put _ (((((m0.put _ _).put _ _).put _ _).put _ _).put _ _), at_put _ ((((m0.put _ _).put _ _).put _ _).put _ _), at_put _ (((m0.put _ _).put _ _).put _ _), at_put _ ((m0.put _ _).put _ _), at_put _ (m0.put _ _), at_put _ m0]
  rw [show (DataW.map [] : DataW Unit).atKey (.int .i64 k) (szD 0 0) = szD 0 0 from rfl]
  have e32 : ∀ k : Int, 2 ≤ k ∧ k ≤ 6 → szD (loV k) (hiV k) = szD 32 32 := fun k h => by
    unfold loV hiV
    have h1 : ¬ k = 1 := by omega
    simp [h1, h]
  by_cases h6 : k = 6
  · rw [if_pos h6]; exact (e32 k (by omega)).symm
  rw [if_neg h6]
  by_cases h5 : k = 5
  · rw [if_pos h5]; exact (e32 k (by omega)).symm
  rw [if_neg h5]
  by_cases h4 : k = 4
  · rw [if_pos h4]; exact (e32 k (by omega)).symm
  rw [if_neg h4]
  by_cases h3 : k = 3
  · rw [if_pos h3]; exact (e32 k (by omega)).symm
  rw [if_neg h3]
  by_cases h2 : k = 2
  · rw [if_pos h2]; exact (e32 k (by omega)).symm
  rw [if_neg h2]
  by_cases h1 : k = 1
  · subst h1; rfl
  rw [if_neg h1]
  unfold loV hiV
  have h26 : ¬ (2 ≤ k ∧ k ≤ 6) := by omega
  simp [h1, h26]

theorem keyK : Keyed Tryz.prog 22 := int_keyed Tryz.underlying22
theorem zeroSz (w : World) : (zeroValue 163).run Tryz.prog w = .ok (.agg #[.int .i64 0, .int .i64 0]) w := by kernel_rfl
/-- A map of the six kinds' sizes lies in block g. -/
def Kinds (w : World) (g : Nat) : Prop := w.ownsMap Tryz.prog 22 szR g 6 kinds
theorem Kinds.alloc {w : World} {g : Nat} (h : Kinds w g) (o : Obj) : Kinds (w.alloc o) g := World.ownsMap.alloc h o
theorem Kinds.look {w : World} {g : Nat} (h : Kinds w g) (k : Int) (hk : -9223372036854775808 ≤ k) (hk' : k ≤ 9223372036854775807) :
    (Instr.lookup 165 (.map (some g)) (.int .i64 k) true).run Tryz.prog w = .ok (.tuple #[.agg #[.int .i64 (loV k), .int .i64 (hiV k)], .bool (isV k)]) w := by
  obtain ⟨v, ps, hrun, hv⟩ := World.ownsMap.look_ok h keyK Tryz.underlying165 (zeroSz w) (szR_mk 0 0) (keyOf_int_mk Tryz.underlying22 (WalkArith.wf_i64 ⟨hk, hk'⟩))
  rw [kinds_at] at hv
  rw [szR_inv hv, kinds_has] at hrun
  exact hrun
end Go.Proofs.YtknhgfofmkpnfaaGreat.Win
/- What must hold of a device: the map of sizes is made, and asked. -/
namespace Go.Proofs.YtknhgfofmkpnfaaGreat.Win
open Go.RowKit Go.Maps Fifo Orow
open Go.Proofs.YtknhgfofmkpnfaaGreat.Reach (ret_bool)
set_option linter.unusedVariables false

theorem list_letter {P : Program} {ops : Array Oper} {Q : Exit → Act → World → Prop} {l : List Oper} {a : Act} {w : World} (h : ∀ W, Hid (W = w) → wpList P ops Q l a W) : wpList P ops Q l a w := h w (Lib.hid rfl)
theorem blk_grown {w w' : World} {g b : Nat} {t : TypeId} {vs : List Value} (h : Blk w g t vs) (hg : w.grownBy w' (some b)) (hn : g ≠ b) : Blk w' g t vs := (hg.block g h.lt (by simpa using hn)).trans h
theorem below_grown {B b : Nat} {w w1 w2 : World} (h : Below B w w1) (hg : w1.grownBy w2 (some b)) (hb : B ≤ b) (hB : B ≤ w1.heap.size) : Below B w w2 := h.grown hg hB (fun k e => by injection e with e; omega)
set_option maxHeartbeats 1000000 in
theorem sizesOf_any (w : World) : Calls Tryz.prog 81 #[] w fun e w' => (∃ g, e = .returned (.map (some g)) ∧ Kinds w' g) ∧ Below w.heap.size w w' := by
  have hmm := @run_makeMap Tryz.prog
  go_enter Tryz.func81, Tryz.ntmps81
  go_wp2_with (with_reducible refine at_insert _ _ _ _ rfl ?_)
  refine Lib.hid ?_
  refine list_letter ?_
  intro W hW
  have hsz : W.heap.size = w.heap.size + 2 := by rw [hW.out]; simp
  have B0 := Lib.hid (show Below w.heap.size w W by rw [hW.out]; exact ((Below.refl w.heap.size w).alloc (Nat.le_refl _) _).alloc (by simp) _)
  have K0 := Lib.hid (show Blk W w.heap.size 163 [.int .i64 32, .int .i64 32] by rw [hW.out]; exact (Blk.new w 163 [.int .i64 32, .int .i64 32]).alloc _)
  have H0 := Lib.hid (show W.ownsMap Tryz.prog 22 szR (w.heap.size + 1) 0 (.map []) by
    rw [hW.out]
    have e : ∀ X : World, X.heap.size = w.heap.size + 1 → (X.alloc (.map #[] 0)).ownsMap Tryz.prog 22 szR (w.heap.size + 1) 0 (.map []) := fun X h => by rw [← h]; exact World.ownsMap_made X _ _ _
    exact e _ (by simp))
  have hw0 : W.heap.size = w.heap.size + 2 := hsz
  obtain ⟨g, hg⟩ : ∃ g, w.heap.size = g := ⟨_, rfl⟩
  rw [hg] at B0 K0 H0 hsz
  rw [hg]
  clear hW hmm
  refine wpList_insert_own _ rfl _ _ _ _ rfl 22 163 keyK Tryz.underlying165 szR _ 0 _ rfl H0.out (by unfold maxLen; omega) _ _ _ rfl rfl (keyOf_int_mk Tryz.underlying22 (by decide)) (szD 4 4096) [] (szR_mk _ _) ?_
  intro w1 hown hgr
  have H1 := Lib.hid hown
  have K1 := Lib.hid (blk_grown K0.out hgr (by omega))
  have B1 := Lib.hid (below_grown B0.out hgr (by omega) (by omega))
  have hs1 := hgr.size
  have hw1 : g + 2 ≤ w1.heap.size := by omega
  clear hown hgr hs1
  have c0 := K1.out.at 0 rfl
  have c1 := K1.out.at 1 rfl
  go_wp2_with (with_reducible refine at_insert _ _ _ _ rfl ?_)
  refine Lib.hid ?_
  clear c0 c1
  refine wpList_insert_own _ rfl _ _ _ _ rfl 22 163 keyK Tryz.underlying165 szR _ 1 _ rfl H1.out (by unfold maxLen; omega) _ _ _ rfl rfl (keyOf_int_mk Tryz.underlying22 (by decide)) (szD 32 32) [] (szR_mk _ _) ?_
  intro w2 hown hgr
  have H2 := Lib.hid hown
  have K2 := Lib.hid (blk_grown K1.out hgr (by omega))
  have B2 := Lib.hid (below_grown B1.out hgr (by omega) (by omega))
  have hs2 := hgr.size
  have hw2 : g + 2 ≤ w2.heap.size := by omega
  clear hown hgr hs2
  have c0 := K2.out.at 0 rfl
  have c1 := K2.out.at 1 rfl
  go_wp2_with (with_reducible refine at_insert _ _ _ _ rfl ?_)
  refine Lib.hid ?_
  clear c0 c1
  refine wpList_insert_own _ rfl _ _ _ _ rfl 22 163 keyK Tryz.underlying165 szR _ 2 _ rfl H2.out (by unfold maxLen; omega) _ _ _ rfl rfl (keyOf_int_mk Tryz.underlying22 (by decide)) (szD 32 32) [] (szR_mk _ _) ?_
  intro w3 hown hgr
  have H3 := Lib.hid hown
  have K3 := Lib.hid (blk_grown K2.out hgr (by omega))
  have B3 := Lib.hid (below_grown B2.out hgr (by omega) (by omega))
  have hs3 := hgr.size
  have hw3 : g + 2 ≤ w3.heap.size := by omega
  clear hown hgr hs3
  have c0 := K3.out.at 0 rfl
  have c1 := K3.out.at 1 rfl
  go_wp2_with (with_reducible refine at_insert _ _ _ _ rfl ?_)
  refine Lib.hid ?_
  clear c0 c1
  refine wpList_insert_own _ rfl _ _ _ _ rfl 22 163 keyK Tryz.underlying165 szR _ 3 _ rfl H3.out (by unfold maxLen; omega) _ _ _ rfl rfl (keyOf_int_mk Tryz.underlying22 (by decide)) (szD 32 32) [] (szR_mk _ _) ?_
  intro w4 hown hgr
  have H4 := Lib.hid hown
  have K4 := Lib.hid (blk_grown K3.out hgr (by omega))
  have B4 := Lib.hid (below_grown B3.out hgr (by omega) (by omega))
  have hs4 := hgr.size
  have hw4 : g + 2 ≤ w4.heap.size := by omega
  clear hown hgr hs4
  have c0 := K4.out.at 0 rfl
  have c1 := K4.out.at 1 rfl
  go_wp2_with (with_reducible refine at_insert _ _ _ _ rfl ?_)
  refine Lib.hid ?_
  clear c0 c1
  refine wpList_insert_own _ rfl _ _ _ _ rfl 22 163 keyK Tryz.underlying165 szR _ 4 _ rfl H4.out (by unfold maxLen; omega) _ _ _ rfl rfl (keyOf_int_mk Tryz.underlying22 (by decide)) (szD 32 32) [] (szR_mk _ _) ?_
  intro w5 hown hgr
  have H5 := Lib.hid hown
  have K5 := Lib.hid (blk_grown K4.out hgr (by omega))
  have B5 := Lib.hid (below_grown B4.out hgr (by omega) (by omega))
  have hs5 := hgr.size
  have hw5 : g + 2 ≤ w5.heap.size := by omega
  clear hown hgr hs5
  have c0 := K5.out.at 0 rfl
  have c1 := K5.out.at 1 rfl
  go_wp2_with (with_reducible refine at_insert _ _ _ _ rfl ?_)
  refine Lib.hid ?_
  clear c0 c1
  refine wpList_insert_own _ rfl _ _ _ _ rfl 22 163 keyK Tryz.underlying165 szR _ 5 _ rfl H5.out (by unfold maxLen; omega) _ _ _ rfl rfl (keyOf_int_mk Tryz.underlying22 (by decide)) (szD 32 32) [] (szR_mk _ _) ?_
  intro w6 hown hgr
  have H6 := Lib.hid hown
  have K6 := Lib.hid (blk_grown K5.out hgr (by omega))
  have B6 := Lib.hid (below_grown B5.out hgr (by omega) (by omega))
  have hs6 := hgr.size
  have hw6 : g + 2 ≤ w6.heap.size := by omega
  clear hown hgr hs6
  have c0 := K6.out.at 0 rfl
  have c1 := K6.out.at 1 rfl
  go_wp2_with fail
  go_ret
  exact ⟨⟨g + 1, rfl, H6.out⟩, by rw [hg]; exact B6.out⟩
theorem load_below5 {X : World} {g p : Nat} {d : Dv} (h : AtD X g p d) : (∀ w', Below X.heap.size X w' → w'.cell? ⟨g, p, none⟩ = some (.int .i64 d.k)) := fun w' hb => (h.keep hb).c0
set_option maxHeartbeats 4000000 in
theorem sized_core (k B S O L lo hi : Int) (is b : Bool) (w : World) (hk : -9223372036854775808 ≤ k) (hk' : k ≤ 9223372036854775807) (hlo : loV k = lo) (hhi : hiV k = hi) (his : isV k = is) :
    Calls Tryz.prog 56 #[dv k B S O L] w fun e w' => e = .returned (.bool (is && decide (lo ≤ S) && decide (S ≤ hi))) ∧ Below w.heap.size w w' := by
  have look : ∀ (W : World) (g : Nat), Kinds W g → (Instr.lookup 165 (.map (some g)) (.int .i64 k) true).run Tryz.prog W = .ok (.tuple #[.agg #[.int .i64 lo, .int .i64 hi], .bool is]) W := fun W g h => by rw [← hlo, ← hhi, ← his]; exact h.look k hk hk'
  have Look := Lib.hid look
  clear look hlo hhi his
  obtain ⟨g0, hg0⟩ : ∃ g, w.heap.size = g := ⟨_, rfl⟩
  go_enter Tryz.func56, Tryz.ntmps56
  go_wp2_with fail
  refine code_letter ?_
  intro X hX
  have D := Lib.hid (show AtD X g0 0 ⟨k, B, S, O, L⟩ by rw [hX.out, ← hg0]; exact atD_new w k B S O L _)
  have BX := Lib.hid (show Below g0 w X by rw [hX.out, ← hg0]; exact (Below.refl _ _).alloc (Nat.le_refl _) _)
  have HG := Lib.hid hg0
  clear hg0
  clear hX
  have a0 := load_below5 D.out
  go_region_held3 (fun w' => Below X.heap.size X w')
    (first | assumption | exact (Below.refl _ _).drew | exact Below.alloc (by assumption) (Below.size (by assumption)) _ | (refine Below.setCell (Below.setCell ?_ ?_ _) ?_ _; assumption; exact Nat.le_refl _; exact Nat.le_refl _))
    (first | (go_at_call 81; refine (sizesOf_any _).mono ?_; rintro e w' ⟨⟨g, rfl, hr⟩, hb⟩; have hbS : Below X.heap.size X w' := Below.trans (by assumption) (Below.mono hb (Below.size (by assumption))); have hr0 := Look.out _ _ hr; have hr1 := fun o => Look.out _ _ (hr.alloc o); try (obtain ⟨hc, hf⟩ := Reach.bcell hb; have h0 := hc X.heap.size 0 (by simp); have h1 := hc X.heap.size 1 (by simp); have f0 := hf X.heap.size 0 (by simp); have f1 := hf X.heap.size 1 (by simp); simp [go_sem] at h0 h1 f0 f1; have hlt : X.heap.size < w'.heap.size := by (have hq := hb.size; simp at hq; omega))))
  rotate_left 2
  · refine exit_letter ?_
    intro Z hZ
    have HS : Below X.heap.size X Z := by rw [hZ.out]; assumption
    have l0 := cell_lt D.out.c2
    have z0 : Z.cell? ⟨X.heap.size, 0, none⟩ = some (.int .i64 lo) := by rw [hZ.out]; simp [go_sem, h0]
    have z1 : Z.cell? ⟨X.heap.size, 1, none⟩ = some (.int .i64 hi) := by rw [hZ.out]; simp [go_sem, h1]
    have d2 := (D.out.keep HS).c2
    simp only [Nat.zero_add] at d2
    have HS := Lib.hid HS
    clear a0 hr0 hr1 hr hZ h0 h1 f0 f1 hlt hb hbS
    cases is
    · go_wp2_with fail
      go_ret
      refine ⟨rfl, by rw [HG.out]; exact BX.out.trans (Below.mono HS.out (Nat.le_of_lt l0))⟩
    · by_cases h1 : lo ≤ S
      · have e1 : decide (lo ≤ S) = true := decide_eq_true h1
        by_cases h2 : S ≤ hi
        · have e2 : decide (S ≤ hi) = true := decide_eq_true h2
          go_wp2_with fail
          go_ret
          refine ⟨by first | rfl | exact ret_bool (by simp [h1, h2]), by rw [HG.out]; exact BX.out.trans (Below.mono HS.out (Nat.le_of_lt l0))⟩
        · have e2 : decide (S ≤ hi) = false := decide_eq_false h2
          go_wp2_with fail
          go_ret
          refine ⟨by first | rfl | exact ret_bool (by simp [h1, h2]), by rw [HG.out]; exact BX.out.trans (Below.mono HS.out (Nat.le_of_lt l0))⟩
      · have e1 : decide (lo ≤ S) = false := decide_eq_false h1
        go_wp2_with fail
        go_ret
        refine ⟨by first | rfl | exact ret_bool (by simp [h1]), by rw [HG.out]; exact BX.out.trans (Below.mono HS.out (Nat.le_of_lt l0))⟩
  all_goals (
    have d2 := (D.out.keep hbS).c2
    simp only [Nat.zero_add] at d2
    have l0 := cell_lt D.out.c2
    have l1 := hbS.size
    have n1 : ¬ g0 = X.heap.size := by simp at l0; omega
    have n2 : ¬ g0 = w'.heap.size := by simp at l0; omega
    have l2 : g0 < w'.heap.size := Nat.lt_of_lt_of_le l0 l1
    clear a0 hr0 hr1 hr
    cases is
    · go_wp2_with fail
      go_ret
      refine ⟨rfl, by rw [HG.out]; exact BX.out.trans (Below.mono (by assumption) (Nat.le_of_lt l0))⟩
    · by_cases h1 : lo ≤ S
      · have e1 : decide (lo ≤ S) = true := decide_eq_true h1
        by_cases h2 : S ≤ hi
        · have e2 : decide (S ≤ hi) = true := decide_eq_true h2
          go_wp2_with fail
          go_ret
          refine ⟨by first | rfl | exact ret_bool (by simp [h1, h2]), by rw [HG.out]; exact BX.out.trans (Below.mono (by assumption) (Nat.le_of_lt l0))⟩
        · have e2 : decide (S ≤ hi) = false := decide_eq_false h2
          go_wp2_with fail
          go_ret
          refine ⟨by first | rfl | exact ret_bool (by simp [h1, h2]), by rw [HG.out]; exact BX.out.trans (Below.mono (by assumption) (Nat.le_of_lt l0))⟩
      · have e1 : decide (lo ≤ S) = false := decide_eq_false h1
        go_wp2_with fail
        go_ret
        refine ⟨by first | rfl | exact ret_bool (by simp [h1]), by rw [HG.out]; exact BX.out.trans (Below.mono (by assumption) (Nat.le_of_lt l0))⟩)
end Go.Proofs.YtknhgfofmkpnfaaGreat.Win
/- What must hold of a device, as a row of method values; whether a device is right, its window. -/
namespace Go.Proofs.YtknhgfofmkpnfaaGreat.Win
open Go.RowKit Go.Maps Fifo Orow
open Go.Proofs.YtknhgfofmkpnfaaGreat.Reach (ret_bool bcell)
set_option linter.unusedVariables false

def szB (k S : Int) : Bool := isV k && decide (loV k ≤ S) && decide (S ≤ hiV k)
def whB (B S : Int) : Bool := decide (B % 4 = 0 ∧ S % 4 = 0)
def enB (B S : Int) : Bool := Reach.ofB B S
def owB (O : Int) : Bool := decide (-1 ≤ O ∧ O < 8)
theorem devV_parts (k B S O L : Int) (hB : 0 ≤ B) : devV k B S O L = (szB k S && whB B S && enB B S && owB O && owB L) := by
  unfold devV szB whB enB owB sizeB isV Reach.ofB loV hiV
  rw [Bool.eq_iff_iff]
  simp only [Bool.and_eq_true, decide_eq_true_eq]
  by_cases h1 : k = 1
  · subst h1
    simp
    omega
  · rw [if_neg h1, if_neg h1, if_neg h1]
    by_cases h2 : 2 ≤ k ∧ k ≤ 6
    · rw [if_pos h2]
      simp only [decide_eq_true_eq]
      omega
    · rw [if_neg h2]
      simp only [decide_eq_true_eq]
      omega

theorem sized_any (k B S O L : Int) (b : Bool) (w : World) (hk : -9223372036854775808 ≤ k) (hk' : k ≤ 9223372036854775807) (hb : szB k S = b) :
    Calls Tryz.prog 56 #[dv k B S O L] w fun e w' => e = .returned (.bool b) ∧ Below w.heap.size w w' := by
  subst hb
  exact sized_core k B S O L _ _ _ false w hk hk' rfl rfl rfl
theorem whole_any (k B S O L : Int) (b : Bool) (w : World) (hB : 0 ≤ B) (hb : whB B S = b) :
    Calls Tryz.prog 57 #[dv k B S O L] w fun e w' => e = .returned (.bool b) ∧ Below w.heap.size w w' := by
  have c4 : (Int.tmod B 4 == 0) = (B % 4 == 0) := by rw [Int.tmod_eq_emod_of_nonneg hB]
  by_cases h1 : B % 4 = 0
  · have e1 : (B % 4 == 0) = true := by simpa using h1
    have hb2 : b = decide (Int.tmod S 4 = 0) := by
      rw [← hb]; unfold whB; rw [decide_eq_decide]
      simp only [h1, true_and]
      rw [← Int.dvd_iff_tmod_eq_zero]
      omega
    subst hb2
    clear hb h1
    go_enter Tryz.func57, Tryz.ntmps57
    go_wp2_with fail
    go_ret
    exact ⟨by first | rfl | exact ret_bool (by rw [Bool.eq_iff_iff]; simp), (Below.refl _ _).alloc (Nat.le_refl _) _⟩
  · have e1 : (B % 4 == 0) = false := by simpa using h1
    have hb2 : b = false := by rw [← hb]; unfold whB; exact decide_eq_false (by omega)
    subst hb2
    clear hb h1
    go_enter Tryz.func57, Tryz.ntmps57
    go_wp2_with fail
    go_ret
    exact ⟨rfl, (Below.refl _ _).alloc (Nat.le_refl _) _⟩
theorem owned_any (k B S O L : Int) (b : Bool) (w : World) (hb : owB O = b) :
    Calls Tryz.prog 59 #[dv k B S O L] w fun e w' => e = .returned (.bool b) ∧ Below w.heap.size w w' := by
  by_cases h1 : -1 ≤ O
  · have e1 : decide (-1 ≤ O) = true := decide_eq_true h1
    have hb2 : b = decide (O < 8) := by rw [← hb]; unfold owB; rw [decide_eq_decide]; omega
    subst hb2
    clear hb
    go_enter Tryz.func59, Tryz.ntmps59
    go_wp2_with fail
    go_ret
    exact ⟨rfl, (Below.refl _ _).alloc (Nat.le_refl _) _⟩
  · have e1 : decide (-1 ≤ O) = false := decide_eq_false h1
    have hb2 : b = false := by rw [← hb]; unfold owB; exact decide_eq_false (by omega)
    subst hb2
    clear hb
    go_enter Tryz.func59, Tryz.ntmps59
    go_wp2_with fail
    go_ret
    exact ⟨rfl, (Below.refl _ _).alloc (Nat.le_refl _) _⟩
theorem lined_any (k B S O L : Int) (b : Bool) (w : World) (hb : owB L = b) :
    Calls Tryz.prog 60 #[dv k B S O L] w fun e w' => e = .returned (.bool b) ∧ Below w.heap.size w w' := by
  by_cases h1 : -1 ≤ L
  · have e1 : decide (-1 ≤ L) = true := decide_eq_true h1
    have hb2 : b = decide (L < 8) := by rw [← hb]; unfold owB; rw [decide_eq_decide]; omega
    subst hb2
    clear hb
    go_enter Tryz.func60, Tryz.ntmps60
    go_wp2_with fail
    go_ret
    exact ⟨rfl, (Below.refl _ _).alloc (Nat.le_refl _) _⟩
  · have e1 : decide (-1 ≤ L) = false := decide_eq_false h1
    have hb2 : b = false := by rw [← hb]; unfold owB; exact decide_eq_false (by omega)
    subst hb2
    clear hb
    go_enter Tryz.func60, Tryz.ntmps60
    go_wp2_with fail
    go_ret
    exact ⟨rfl, (Below.refl _ _).alloc (Nat.le_refl _) _⟩
theorem window_core (k B S O L x y : Int) (b : Bool) (w : World)
    (Of : ∀ w, Calls Tryz.prog 97 #[.int .u32 B, .int .i64 S] w fun e w' => e = .returned (.tuple #[.agg #[.int .u32 x, .int .u32 y], .bool b]) ∧ Below w.heap.size w w') :
    Calls Tryz.prog 82 #[dv k B S O L] w fun e w' => e = .returned (.tuple #[.agg #[.int .u32 x, .int .u32 y], .bool b]) ∧ Below w.heap.size w w' := by
  obtain ⟨e0, e1, e2, e3, e4⟩ := (atD_new w k B S O L 77).keep ((Below.refl _ _).alloc (Nat.le_refl _) (.cells #[.int .u32 0, .int .u32 0] 168))
  simp only [Nat.zero_add] at e1 e2
  go_enter Tryz.func82, Tryz.ntmps82
  go_wp2_with fail
  refine (Of _).mono ?_
  rintro e w1 ⟨rfl, hb⟩
  obtain ⟨hc, hf⟩ := bcell hb
  have h0 := hc (w.heap.size + 1) 0 (by simp)
  have h1 := hc (w.heap.size + 1) 1 (by simp)
  have f0 := hf (w.heap.size + 1) 0 (by simp)
  have f1 := hf (w.heap.size + 1) 1 (by simp)
  simp [go_sem] at h0 h1 f0 f1
  have hsz := hb.size
  have Hb := Lib.hid ((((Below.refl w.heap.size w).alloc (Nat.le_refl _) _).alloc (by simp) _).trans (hb.mono (by simp; omega)))
  have hlt : w.heap.size + 1 < w1.heap.size := by simp at hsz; omega
  clear hb hc hf hsz e0 e1 e2 e3 e4
  go_wp2_with fail
  refine bodyPost_ret (v := .tuple #[.agg #[.int .u32 x, .int .u32 y], .bool b]) ?_ rfl ⟨rfl, (Hb.out.setCell (by simp) _).setCell (by simp) _⟩
  simp [results, Tryz.results82, go_sem, h0, h1]
theorem window_any (k B S O L x y : Int) (b : Bool) (w : World) (hB : 0 ≤ B) (hB' : B < 4294967296) (hS : -9223372036854775808 ≤ S) (hS' : S ≤ 9223372036854775807) (hx : Reach.ofF B S = x) (hy : Reach.ofT B S = y) (hb : Reach.ofB B S = b) :
    Calls Tryz.prog 82 #[dv k B S O L] w fun e w' => e = .returned (.tuple #[.agg #[.int .u32 x, .int .u32 y], .bool b]) ∧ Below w.heap.size w w' := by
  subst hx; subst hy; subst hb
  exact window_core k B S O L _ _ _ w (fun w => Reach.Of_any B S w hB hB' hS hS')
theorem ends_core (k B S O L x y : Int) (b : Bool) (w : World)
    (W : ∀ w, Calls Tryz.prog 82 #[dv k B S O L] w fun e w' => e = .returned (.tuple #[.agg #[.int .u32 x, .int .u32 y], .bool b]) ∧ Below w.heap.size w w') :
    Calls Tryz.prog 58 #[dv k B S O L] w fun e w' => e = .returned (.bool b) ∧ Below w.heap.size w w' := by
  obtain ⟨e0, e1, e2, e3, e4⟩ := atD_new w k B S O L 77
  go_enter Tryz.func58, Tryz.ntmps58
  go_wp2_with fail
  refine (W _).mono ?_
  rintro e w1 ⟨rfl, hb⟩
  have Hb := Lib.hid (((Below.refl w.heap.size w).alloc (Nat.le_refl _) _).trans (hb.mono (by simp)))
  clear hb e0 e1 e2 e3 e4
  go_wp2_with fail
  go_ret
  exact ⟨rfl, Hb.out.alloc Hb.out.size _⟩
theorem ends_any (k B S O L : Int) (b : Bool) (w : World) (hB : 0 ≤ B) (hB' : B < 4294967296) (hS : -9223372036854775808 ≤ S) (hS' : S ≤ 9223372036854775807) (hb : enB B S = b) :
    Calls Tryz.prog 58 #[dv k B S O L] w fun e w' => e = .returned (.bool b) ∧ Below w.heap.size w w' :=
  ends_core k B S O L _ _ b w (fun w => window_any k B S O L _ _ b w hB hB' hS hS' rfl rfl hb)

/-- The row of what must hold. -/
structure Asks (w : World) (g : Nat) (v : Value) : Prop where
  c0 : w.cell? ⟨g, 0, none⟩ = some (.func (.func 56) #[v] #[])
  c1 : w.cell? ⟨g, 1, none⟩ = some (.func (.func 57) #[v] #[])
  c2 : w.cell? ⟨g, 2, none⟩ = some (.func (.func 58) #[v] #[])
  c3 : w.cell? ⟨g, 3, none⟩ = some (.func (.func 59) #[v] #[])
  c4 : w.cell? ⟨g, 4, none⟩ = some (.func (.func 60) #[v] #[])
theorem Asks.keep {w w' : World} {g : Nat} {v : Value} (h : Asks w g v) (hb : Below w.heap.size w w') : Asks w' g v := ⟨cell_keep hb h.c0, cell_keep hb h.c1, cell_keep hb h.c2, cell_keep hb h.c3, cell_keep hb h.c4⟩
theorem asks_new (w : World) (v : Value) (o : Obj) (g : Nat) (hg : w.heap.size + 1 = g) (W0 : World)
    (hW : W0 = (w.alloc o).alloc (.cells #[.func (.func 56) #[v] #[], .func (.func 57) #[v] #[], .func (.func 58) #[v] #[], .func (.func 59) #[v] #[], .func (.func 60) #[v] #[]] 27)) :
    Asks W0 g v ∧ Below w.heap.size w W0 := by
  subst hW
  have e : (w.alloc o).heap.size = g := by simpa using hg
  subst e
  exact ⟨⟨World.cell?_alloc_at _ _ _ 0 rfl, World.cell?_alloc_at _ _ _ 1 rfl, World.cell?_alloc_at _ _ _ 2 rfl, World.cell?_alloc_at _ _ _ 3 rfl, World.cell?_alloc_at _ _ _ 4 rfl⟩, ((Below.refl _ _).alloc (Nat.le_refl _) _).alloc (by simp) _⟩
theorem right_1 (k B S O L : Int) (w : World)
    (q0 : ∀ w, Calls Tryz.prog 56 #[dv k B S O L] w fun e w' => e = .returned (.bool false) ∧ Below w.heap.size w w') :
    Calls Tryz.prog 32 #[dv k B S O L] w fun e w' => e = .returned (.bool false) ∧ Below w.heap.size w w' := by
  have hmf : ∀ (fn : Fn) (first cap : Array Value) (w : World), (Instr.makeFunc fn first cap).run Tryz.prog w = .ok (.func fn first cap) w := fun _ _ _ _ => rfl
  go_enter Tryz.func32, Tryz.ntmps32
  go_wp2_with fail
  obtain ⟨v, hv⟩ : ∃ v, v = dv k B S O L := ⟨_, rfl⟩
  obtain ⟨W0, hW0⟩ : ∃ X : World, X = (w.alloc (.cells #[.int .i64 k, .int .u32 B, .int .i64 S, .int .i64 O, .int .i64 L] 77)).alloc (.cells #[.func (.func 56) #[v] #[], .func (.func 57) #[v] #[], .func (.func 58) #[v] #[], .func (.func 59) #[v] #[], .func (.func 60) #[v] #[]] 27) := ⟨_, rfl⟩
  have hA := asks_new w v _ _ rfl W0 hW0
  subst hv
  rw [← hW0]
  obtain ⟨g, hg⟩ : ∃ g, w.heap.size + 1 = g := ⟨_, rfl⟩
  rw [hg] at hA
  rw [hg]
  have HA := Lib.hid hA.1
  have HB := Lib.hid hA.2
  clear hA hg hW0
  refine wp_loop_rounds 6 ?_
  rw [rounds_succ]
  have d0 := HA.out.c0
  go_wp2_with fail
  refine (q0 _).mono ?_
  rintro e w1 ⟨rfl, hb⟩
  have HA1 := Lib.hid (HA.out.keep hb)
  have HB1 := Lib.hid (HB.out.trans (hb.mono HB.out.size))
  clear hb d0
  go_wp2_with fail
  go_ret
  exact ⟨rfl, HB1.out⟩
theorem right_2 (k B S O L : Int) (w : World)
    (q0 : ∀ w, Calls Tryz.prog 56 #[dv k B S O L] w fun e w' => e = .returned (.bool true) ∧ Below w.heap.size w w')
    (q1 : ∀ w, Calls Tryz.prog 57 #[dv k B S O L] w fun e w' => e = .returned (.bool false) ∧ Below w.heap.size w w') :
    Calls Tryz.prog 32 #[dv k B S O L] w fun e w' => e = .returned (.bool false) ∧ Below w.heap.size w w' := by
  have hmf : ∀ (fn : Fn) (first cap : Array Value) (w : World), (Instr.makeFunc fn first cap).run Tryz.prog w = .ok (.func fn first cap) w := fun _ _ _ _ => rfl
  go_enter Tryz.func32, Tryz.ntmps32
  go_wp2_with fail
  obtain ⟨v, hv⟩ : ∃ v, v = dv k B S O L := ⟨_, rfl⟩
  obtain ⟨W0, hW0⟩ : ∃ X : World, X = (w.alloc (.cells #[.int .i64 k, .int .u32 B, .int .i64 S, .int .i64 O, .int .i64 L] 77)).alloc (.cells #[.func (.func 56) #[v] #[], .func (.func 57) #[v] #[], .func (.func 58) #[v] #[], .func (.func 59) #[v] #[], .func (.func 60) #[v] #[]] 27) := ⟨_, rfl⟩
  have hA := asks_new w v _ _ rfl W0 hW0
  subst hv
  rw [← hW0]
  obtain ⟨g, hg⟩ : ∃ g, w.heap.size + 1 = g := ⟨_, rfl⟩
  rw [hg] at hA
  rw [hg]
  have HA := Lib.hid hA.1
  have HB := Lib.hid hA.2
  clear hA hg hW0
  refine wp_loop_rounds 6 ?_
  rw [rounds_succ]
  have d0 := HA.out.c0
  go_wp2_with fail
  refine (q0 _).mono ?_
  rintro e w1 ⟨rfl, hb⟩
  have HA1 := Lib.hid (HA.out.keep hb)
  have HB1 := Lib.hid (HB.out.trans (hb.mono HB.out.size))
  clear hb d0
  go_wp2_with fail
  rw [rounds_succ]
  have d1 := HA1.out.c1
  go_wp2_with fail
  refine (q1 _).mono ?_
  rintro e w2 ⟨rfl, hb⟩
  have HA2 := Lib.hid (HA1.out.keep hb)
  have HB2 := Lib.hid (HB1.out.trans (hb.mono HB1.out.size))
  clear hb d1
  go_wp2_with fail
  go_ret
  exact ⟨rfl, HB2.out⟩
theorem right_3 (k B S O L : Int) (w : World)
    (q0 : ∀ w, Calls Tryz.prog 56 #[dv k B S O L] w fun e w' => e = .returned (.bool true) ∧ Below w.heap.size w w')
    (q1 : ∀ w, Calls Tryz.prog 57 #[dv k B S O L] w fun e w' => e = .returned (.bool true) ∧ Below w.heap.size w w')
    (q2 : ∀ w, Calls Tryz.prog 58 #[dv k B S O L] w fun e w' => e = .returned (.bool false) ∧ Below w.heap.size w w') :
    Calls Tryz.prog 32 #[dv k B S O L] w fun e w' => e = .returned (.bool false) ∧ Below w.heap.size w w' := by
  have hmf : ∀ (fn : Fn) (first cap : Array Value) (w : World), (Instr.makeFunc fn first cap).run Tryz.prog w = .ok (.func fn first cap) w := fun _ _ _ _ => rfl
  go_enter Tryz.func32, Tryz.ntmps32
  go_wp2_with fail
  obtain ⟨v, hv⟩ : ∃ v, v = dv k B S O L := ⟨_, rfl⟩
  obtain ⟨W0, hW0⟩ : ∃ X : World, X = (w.alloc (.cells #[.int .i64 k, .int .u32 B, .int .i64 S, .int .i64 O, .int .i64 L] 77)).alloc (.cells #[.func (.func 56) #[v] #[], .func (.func 57) #[v] #[], .func (.func 58) #[v] #[], .func (.func 59) #[v] #[], .func (.func 60) #[v] #[]] 27) := ⟨_, rfl⟩
  have hA := asks_new w v _ _ rfl W0 hW0
  subst hv
  rw [← hW0]
  obtain ⟨g, hg⟩ : ∃ g, w.heap.size + 1 = g := ⟨_, rfl⟩
  rw [hg] at hA
  rw [hg]
  have HA := Lib.hid hA.1
  have HB := Lib.hid hA.2
  clear hA hg hW0
  refine wp_loop_rounds 6 ?_
  rw [rounds_succ]
  have d0 := HA.out.c0
  go_wp2_with fail
  refine (q0 _).mono ?_
  rintro e w1 ⟨rfl, hb⟩
  have HA1 := Lib.hid (HA.out.keep hb)
  have HB1 := Lib.hid (HB.out.trans (hb.mono HB.out.size))
  clear hb d0
  go_wp2_with fail
  rw [rounds_succ]
  have d1 := HA1.out.c1
  go_wp2_with fail
  refine (q1 _).mono ?_
  rintro e w2 ⟨rfl, hb⟩
  have HA2 := Lib.hid (HA1.out.keep hb)
  have HB2 := Lib.hid (HB1.out.trans (hb.mono HB1.out.size))
  clear hb d1
  go_wp2_with fail
  rw [rounds_succ]
  have d2 := HA2.out.c2
  go_wp2_with fail
  refine (q2 _).mono ?_
  rintro e w3 ⟨rfl, hb⟩
  have HA3 := Lib.hid (HA2.out.keep hb)
  have HB3 := Lib.hid (HB2.out.trans (hb.mono HB2.out.size))
  clear hb d2
  go_wp2_with fail
  go_ret
  exact ⟨rfl, HB3.out⟩
theorem right_4 (k B S O L : Int) (w : World)
    (q0 : ∀ w, Calls Tryz.prog 56 #[dv k B S O L] w fun e w' => e = .returned (.bool true) ∧ Below w.heap.size w w')
    (q1 : ∀ w, Calls Tryz.prog 57 #[dv k B S O L] w fun e w' => e = .returned (.bool true) ∧ Below w.heap.size w w')
    (q2 : ∀ w, Calls Tryz.prog 58 #[dv k B S O L] w fun e w' => e = .returned (.bool true) ∧ Below w.heap.size w w')
    (q3 : ∀ w, Calls Tryz.prog 59 #[dv k B S O L] w fun e w' => e = .returned (.bool false) ∧ Below w.heap.size w w') :
    Calls Tryz.prog 32 #[dv k B S O L] w fun e w' => e = .returned (.bool false) ∧ Below w.heap.size w w' := by
  have hmf : ∀ (fn : Fn) (first cap : Array Value) (w : World), (Instr.makeFunc fn first cap).run Tryz.prog w = .ok (.func fn first cap) w := fun _ _ _ _ => rfl
  go_enter Tryz.func32, Tryz.ntmps32
  go_wp2_with fail
  obtain ⟨v, hv⟩ : ∃ v, v = dv k B S O L := ⟨_, rfl⟩
  obtain ⟨W0, hW0⟩ : ∃ X : World, X = (w.alloc (.cells #[.int .i64 k, .int .u32 B, .int .i64 S, .int .i64 O, .int .i64 L] 77)).alloc (.cells #[.func (.func 56) #[v] #[], .func (.func 57) #[v] #[], .func (.func 58) #[v] #[], .func (.func 59) #[v] #[], .func (.func 60) #[v] #[]] 27) := ⟨_, rfl⟩
  have hA := asks_new w v _ _ rfl W0 hW0
  subst hv
  rw [← hW0]
  obtain ⟨g, hg⟩ : ∃ g, w.heap.size + 1 = g := ⟨_, rfl⟩
  rw [hg] at hA
  rw [hg]
  have HA := Lib.hid hA.1
  have HB := Lib.hid hA.2
  clear hA hg hW0
  refine wp_loop_rounds 6 ?_
  rw [rounds_succ]
  have d0 := HA.out.c0
  go_wp2_with fail
  refine (q0 _).mono ?_
  rintro e w1 ⟨rfl, hb⟩
  have HA1 := Lib.hid (HA.out.keep hb)
  have HB1 := Lib.hid (HB.out.trans (hb.mono HB.out.size))
  clear hb d0
  go_wp2_with fail
  rw [rounds_succ]
  have d1 := HA1.out.c1
  go_wp2_with fail
  refine (q1 _).mono ?_
  rintro e w2 ⟨rfl, hb⟩
  have HA2 := Lib.hid (HA1.out.keep hb)
  have HB2 := Lib.hid (HB1.out.trans (hb.mono HB1.out.size))
  clear hb d1
  go_wp2_with fail
  rw [rounds_succ]
  have d2 := HA2.out.c2
  go_wp2_with fail
  refine (q2 _).mono ?_
  rintro e w3 ⟨rfl, hb⟩
  have HA3 := Lib.hid (HA2.out.keep hb)
  have HB3 := Lib.hid (HB2.out.trans (hb.mono HB2.out.size))
  clear hb d2
  go_wp2_with fail
  rw [rounds_succ]
  have d3 := HA3.out.c3
  go_wp2_with fail
  refine (q3 _).mono ?_
  rintro e w4 ⟨rfl, hb⟩
  have HA4 := Lib.hid (HA3.out.keep hb)
  have HB4 := Lib.hid (HB3.out.trans (hb.mono HB3.out.size))
  clear hb d3
  go_wp2_with fail
  go_ret
  exact ⟨rfl, HB4.out⟩
theorem right_5 (k B S O L : Int) (w : World)
    (q0 : ∀ w, Calls Tryz.prog 56 #[dv k B S O L] w fun e w' => e = .returned (.bool true) ∧ Below w.heap.size w w')
    (q1 : ∀ w, Calls Tryz.prog 57 #[dv k B S O L] w fun e w' => e = .returned (.bool true) ∧ Below w.heap.size w w')
    (q2 : ∀ w, Calls Tryz.prog 58 #[dv k B S O L] w fun e w' => e = .returned (.bool true) ∧ Below w.heap.size w w')
    (q3 : ∀ w, Calls Tryz.prog 59 #[dv k B S O L] w fun e w' => e = .returned (.bool true) ∧ Below w.heap.size w w')
    (q4 : ∀ w, Calls Tryz.prog 60 #[dv k B S O L] w fun e w' => e = .returned (.bool false) ∧ Below w.heap.size w w') :
    Calls Tryz.prog 32 #[dv k B S O L] w fun e w' => e = .returned (.bool false) ∧ Below w.heap.size w w' := by
  have hmf : ∀ (fn : Fn) (first cap : Array Value) (w : World), (Instr.makeFunc fn first cap).run Tryz.prog w = .ok (.func fn first cap) w := fun _ _ _ _ => rfl
  go_enter Tryz.func32, Tryz.ntmps32
  go_wp2_with fail
  obtain ⟨v, hv⟩ : ∃ v, v = dv k B S O L := ⟨_, rfl⟩
  obtain ⟨W0, hW0⟩ : ∃ X : World, X = (w.alloc (.cells #[.int .i64 k, .int .u32 B, .int .i64 S, .int .i64 O, .int .i64 L] 77)).alloc (.cells #[.func (.func 56) #[v] #[], .func (.func 57) #[v] #[], .func (.func 58) #[v] #[], .func (.func 59) #[v] #[], .func (.func 60) #[v] #[]] 27) := ⟨_, rfl⟩
  have hA := asks_new w v _ _ rfl W0 hW0
  subst hv
  rw [← hW0]
  obtain ⟨g, hg⟩ : ∃ g, w.heap.size + 1 = g := ⟨_, rfl⟩
  rw [hg] at hA
  rw [hg]
  have HA := Lib.hid hA.1
  have HB := Lib.hid hA.2
  clear hA hg hW0
  refine wp_loop_rounds 6 ?_
  rw [rounds_succ]
  have d0 := HA.out.c0
  go_wp2_with fail
  refine (q0 _).mono ?_
  rintro e w1 ⟨rfl, hb⟩
  have HA1 := Lib.hid (HA.out.keep hb)
  have HB1 := Lib.hid (HB.out.trans (hb.mono HB.out.size))
  clear hb d0
  go_wp2_with fail
  rw [rounds_succ]
  have d1 := HA1.out.c1
  go_wp2_with fail
  refine (q1 _).mono ?_
  rintro e w2 ⟨rfl, hb⟩
  have HA2 := Lib.hid (HA1.out.keep hb)
  have HB2 := Lib.hid (HB1.out.trans (hb.mono HB1.out.size))
  clear hb d1
  go_wp2_with fail
  rw [rounds_succ]
  have d2 := HA2.out.c2
  go_wp2_with fail
  refine (q2 _).mono ?_
  rintro e w3 ⟨rfl, hb⟩
  have HA3 := Lib.hid (HA2.out.keep hb)
  have HB3 := Lib.hid (HB2.out.trans (hb.mono HB2.out.size))
  clear hb d2
  go_wp2_with fail
  rw [rounds_succ]
  have d3 := HA3.out.c3
  go_wp2_with fail
  refine (q3 _).mono ?_
  rintro e w4 ⟨rfl, hb⟩
  have HA4 := Lib.hid (HA3.out.keep hb)
  have HB4 := Lib.hid (HB3.out.trans (hb.mono HB3.out.size))
  clear hb d3
  go_wp2_with fail
  rw [rounds_succ]
  have d4 := HA4.out.c4
  go_wp2_with fail
  refine (q4 _).mono ?_
  rintro e w5 ⟨rfl, hb⟩
  have HA5 := Lib.hid (HA4.out.keep hb)
  have HB5 := Lib.hid (HB4.out.trans (hb.mono HB4.out.size))
  clear hb d4
  go_wp2_with fail
  go_ret
  exact ⟨rfl, HB5.out⟩
theorem right_6 (k B S O L : Int) (w : World)
    (q0 : ∀ w, Calls Tryz.prog 56 #[dv k B S O L] w fun e w' => e = .returned (.bool true) ∧ Below w.heap.size w w')
    (q1 : ∀ w, Calls Tryz.prog 57 #[dv k B S O L] w fun e w' => e = .returned (.bool true) ∧ Below w.heap.size w w')
    (q2 : ∀ w, Calls Tryz.prog 58 #[dv k B S O L] w fun e w' => e = .returned (.bool true) ∧ Below w.heap.size w w')
    (q3 : ∀ w, Calls Tryz.prog 59 #[dv k B S O L] w fun e w' => e = .returned (.bool true) ∧ Below w.heap.size w w')
    (q4 : ∀ w, Calls Tryz.prog 60 #[dv k B S O L] w fun e w' => e = .returned (.bool true) ∧ Below w.heap.size w w') :
    Calls Tryz.prog 32 #[dv k B S O L] w fun e w' => e = .returned (.bool true) ∧ Below w.heap.size w w' := by
  have hmf : ∀ (fn : Fn) (first cap : Array Value) (w : World), (Instr.makeFunc fn first cap).run Tryz.prog w = .ok (.func fn first cap) w := fun _ _ _ _ => rfl
  go_enter Tryz.func32, Tryz.ntmps32
  go_wp2_with fail
  obtain ⟨v, hv⟩ : ∃ v, v = dv k B S O L := ⟨_, rfl⟩
  obtain ⟨W0, hW0⟩ : ∃ X : World, X = (w.alloc (.cells #[.int .i64 k, .int .u32 B, .int .i64 S, .int .i64 O, .int .i64 L] 77)).alloc (.cells #[.func (.func 56) #[v] #[], .func (.func 57) #[v] #[], .func (.func 58) #[v] #[], .func (.func 59) #[v] #[], .func (.func 60) #[v] #[]] 27) := ⟨_, rfl⟩
  have hA := asks_new w v _ _ rfl W0 hW0
  subst hv
  rw [← hW0]
  obtain ⟨g, hg⟩ : ∃ g, w.heap.size + 1 = g := ⟨_, rfl⟩
  rw [hg] at hA
  rw [hg]
  have HA := Lib.hid hA.1
  have HB := Lib.hid hA.2
  clear hA hg hW0
  refine wp_loop_rounds 6 ?_
  rw [rounds_succ]
  have d0 := HA.out.c0
  go_wp2_with fail
  refine (q0 _).mono ?_
  rintro e w1 ⟨rfl, hb⟩
  have HA1 := Lib.hid (HA.out.keep hb)
  have HB1 := Lib.hid (HB.out.trans (hb.mono HB.out.size))
  clear hb d0
  go_wp2_with fail
  rw [rounds_succ]
  have d1 := HA1.out.c1
  go_wp2_with fail
  refine (q1 _).mono ?_
  rintro e w2 ⟨rfl, hb⟩
  have HA2 := Lib.hid (HA1.out.keep hb)
  have HB2 := Lib.hid (HB1.out.trans (hb.mono HB1.out.size))
  clear hb d1
  go_wp2_with fail
  rw [rounds_succ]
  have d2 := HA2.out.c2
  go_wp2_with fail
  refine (q2 _).mono ?_
  rintro e w3 ⟨rfl, hb⟩
  have HA3 := Lib.hid (HA2.out.keep hb)
  have HB3 := Lib.hid (HB2.out.trans (hb.mono HB2.out.size))
  clear hb d2
  go_wp2_with fail
  rw [rounds_succ]
  have d3 := HA3.out.c3
  go_wp2_with fail
  refine (q3 _).mono ?_
  rintro e w4 ⟨rfl, hb⟩
  have HA4 := Lib.hid (HA3.out.keep hb)
  have HB4 := Lib.hid (HB3.out.trans (hb.mono HB3.out.size))
  clear hb d3
  go_wp2_with fail
  rw [rounds_succ]
  have d4 := HA4.out.c4
  go_wp2_with fail
  refine (q4 _).mono ?_
  rintro e w5 ⟨rfl, hb⟩
  have HA5 := Lib.hid (HA4.out.keep hb)
  have HB5 := Lib.hid (HB4.out.trans (hb.mono HB4.out.size))
  clear hb d4
  go_wp2_with fail
  rw [rounds_succ]
  go_wp2_with fail
  go_ret
  exact ⟨rfl, HB5.out⟩
theorem right_any (k B S O L : Int) (b : Bool) (w : World) (hk : -9223372036854775808 ≤ k) (hk' : k ≤ 9223372036854775807) (hB : 0 ≤ B) (hB' : B < 4294967296) (hS : -9223372036854775808 ≤ S) (hS' : S ≤ 9223372036854775807) (hb : devV k B S O L = b) :
    Calls Tryz.prog 32 #[dv k B S O L] w fun e w' => e = .returned (.bool b) ∧ Below w.heap.size w w' := by
  rw [devV_parts k B S O L hB] at hb
  subst hb
  cases h0 : szB k S
  · exact right_1 k B S O L w (fun w => sized_any k B S O L _ w hk hk' h0)
  cases h1 : whB B S
  · exact right_2 k B S O L w (fun w => sized_any k B S O L _ w hk hk' h0) (fun w => whole_any k B S O L _ w hB h1)
  cases h2 : enB B S
  · exact right_3 k B S O L w (fun w => sized_any k B S O L _ w hk hk' h0) (fun w => whole_any k B S O L _ w hB h1) (fun w => ends_any k B S O L _ w hB hB' hS hS' h2)
  cases h3 : owB O
  · exact right_4 k B S O L w (fun w => sized_any k B S O L _ w hk hk' h0) (fun w => whole_any k B S O L _ w hB h1) (fun w => ends_any k B S O L _ w hB hB' hS hS' h2) (fun w => owned_any k B S O L _ w  h3)
  cases h4 : owB L
  · exact right_5 k B S O L w (fun w => sized_any k B S O L _ w hk hk' h0) (fun w => whole_any k B S O L _ w hB h1) (fun w => ends_any k B S O L _ w hB hB' hS hS' h2) (fun w => owned_any k B S O L _ w  h3) (fun w => lined_any k B S O L _ w  h4)
  · exact right_6 k B S O L w (fun w => sized_any k B S O L _ w hk hk' h0) (fun w => whole_any k B S O L _ w hB h1) (fun w => ends_any k B S O L _ w hB hB' hS hS' h2) (fun w => owned_any k B S O L _ w  h3) (fun w => lined_any k B S O L _ w  h4)
theorem Device_any (k B S O L : Int) (b : Bool) (w : World) (hk : -9223372036854775808 ≤ k) (hk' : k ≤ 9223372036854775807) (hB : 0 ≤ B) (hB' : B < 4294967296) (hS : -9223372036854775808 ≤ S) (hS' : S ≤ 9223372036854775807) (hb : devV k B S O L = b) :
    Calls Tryz.prog 19 #[dv k B S O L] w fun e w' => e = .returned (.bool b) ∧ Below w.heap.size w w' := by
  have C := fun w => right_any k B S O L b w hk hk' hB hB' hS hS' hb
  have HC := Lib.hid C
  clear C hb
  obtain ⟨e0, e1, e2, e3, e4⟩ := atD_new w k B S O L 25
  go_enter Tryz.func19, Tryz.ntmps19
  go_wp2_with fail
  refine (HC.out _).mono ?_
  rintro e w1 ⟨rfl, hb1⟩
  have ha := (Below.refl w.heap.size w).alloc (Nat.le_refl _) (.cells #[.int .i64 k, .int .u32 B, .int .i64 S, .int .i64 O, .int .i64 L] 25)
  have B1 := Lib.hid (ha.trans (hb1.mono ha.size))
  clear hb1 ha e0 e1 e2 e3 e4
  go_wp2_with fail
  go_ret
  exact ⟨rfl, B1.out⟩
end Go.Proofs.YtknhgfofmkpnfaaGreat.Win
