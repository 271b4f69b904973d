/- Plain: devices, their windows, right rows of devices, which one has an access, an address. -/
import Derived.Test.YtmdepkehpohgeaaGreatRt
import Derived.Test.YtmdepkehpohgeaaGreatAc
namespace Go.Proofs.YtmdepkehpohgeaaGreat.Win
set_option linter.unusedVariables false

/-- A device. -/
structure Dv where
  k : Int
  B : Int
  S : Int
  O : Int
  L : Int
def zeroD : Dv := ⟨0, 0, 0, 0, 0⟩
instance : Inhabited Dv := ⟨zeroD⟩
/-- Its numbers are such as can be read. -/
def okD (d : Dv) : Prop := (-9223372036854775808 ≤ d.k ∧ d.k ≤ 9223372036854775807) ∧ (0 ≤ d.B ∧ d.B < 4294967296) ∧ (-9223372036854775808 ≤ d.S ∧ d.S ≤ 9223372036854775807) ∧ (-9223372036854775808 ≤ d.O ∧ d.O ≤ 9223372036854775807) ∧ (-9223372036854775808 ≤ d.L ∧ d.L ≤ 9223372036854775807)
def sizeB (k S : Int) : Bool := if k = 1 then decide (4 ≤ S ∧ S ≤ 4096 ∧ S % 4 = 0) else decide (S = 32)
def devV (k B S O L : Int) : Bool := decide (1 ≤ k ∧ k ≤ 6) && sizeB k S && decide (B % 4 = 0) && decide (B + S ≤ 4294967296) && decide (-1 ≤ O ∧ O < 8) && decide (-1 ≤ L ∧ L < 8)
def Dv.right (d : Dv) : Bool := devV d.k d.B d.S d.O d.L
/-- The ends of its window. -/
def winF (b : Bool) (B : Int) : Int := if b then B else 0
def winT (b : Bool) (B S : Int) : Int := if b then B + S - 1 else 0
def Dv.F (d : Dv) : Int := winF d.right d.B
def Dv.T (d : Dv) : Int := winT d.right d.B d.S
theorem dev_parts {k B S O L : Int} (h : devV k B S O L = true) : (1 ≤ k ∧ k ≤ 6) ∧ (4 ≤ S ∧ S ≤ 4096 ∧ S % 4 = 0) ∧ (k ≠ 1 → S = 32) ∧ B % 4 = 0 ∧ B + S ≤ 4294967296 ∧ (-1 ≤ O ∧ O < 8) ∧ (-1 ≤ L ∧ L < 8) := by
  unfold devV sizeB at h
  simp only [Bool.and_eq_true, decide_eq_true_eq] at h
  obtain ⟨⟨⟨⟨⟨h1, h2⟩, h3⟩, h4⟩, h5⟩, h6⟩ := h
  by_cases hk : k = 1
  · rw [if_pos hk] at h2
    simp only [decide_eq_true_eq] at h2
    exact ⟨h1, h2, fun h => absurd hk h, h3, h4, h5, h6⟩
  · rw [if_neg hk] at h2
    simp only [decide_eq_true_eq] at h2
    exact ⟨h1, by omega, fun _ => h2, h3, h4, h5, h6⟩
theorem dev_of {k B S O L : Int} (h1 : 1 ≤ k ∧ k ≤ 6) (h2 : 4 ≤ S ∧ S ≤ 4096 ∧ S % 4 = 0) (h3 : k ≠ 1 → S = 32) (h4 : B % 4 = 0) (h5 : B + S ≤ 4294967296) (h6 : -1 ≤ O ∧ O < 8) (h7 : -1 ≤ L ∧ L < 8) : devV k B S O L = true := by
  unfold devV sizeB
  simp only [Bool.and_eq_true, decide_eq_true_eq]
  refine ⟨⟨⟨⟨⟨h1, ?_⟩, h4⟩, h5⟩, h6⟩, h7⟩
  by_cases hk : k = 1
  · rw [if_pos hk]; exact decide_eq_true h2
  · rw [if_neg hk]; exact decide_eq_true (h3 hk)
theorem win_on {d : Dv} (h : d.right = true) : d.F = d.B ∧ d.T = d.B + d.S - 1 := by
  unfold Dv.F Dv.T winF winT
  rw [h]
  exact ⟨rfl, rfl⟩

/-- Do two windows meet? -/
def meet (d e : Dv) : Bool := Reach.meetB d.F d.T e.F e.T
theorem meet_comm (d e : Dv) : meet d e = meet e d := by
  unfold meet Reach.meetB
  rw [decide_eq_decide]
  omega
theorem meet_self {d : Dv} (h : d.right = true) : meet d d = true := by
  have hp := dev_parts h
  have hw := win_on h
  unfold meet Reach.meetB
  rw [decide_eq_true_eq]
  omega
/-- A right row. -/
def rowP (l : List Dv) : Prop := l.length ≤ 16 ∧ ∀ i, i < l.length → l[i]!.right = true ∧ ∀ k, k < i → meet l[i]! l[k]! = false
def rowB (l : List Dv) : Bool := decide (l.length ≤ 16) && (List.range l.length).all fun i => l[i]!.right && (List.range i).all fun k => !meet l[i]! l[k]!
theorem rowB_iff {l : List Dv} : rowB l = true ↔ rowP l := by
  unfold rowB rowP
  simp only [Bool.and_eq_true, decide_eq_true_eq, List.all_eq_true, List.mem_range, Bool.not_eq_true']
theorem row_apart {l : List Dv} (h : rowP l) {i k : Nat} (hi : i < l.length) (hk : k < l.length) (hne : i ≠ k) : meet l[i]! l[k]! = false := by
  rcases Nat.lt_trichotomy i k with e | e | e
  · rw [meet_comm]; exact (h.2 k hk).2 i e
  · exact absurd e hne
  · exact (h.2 i hi).2 k e
theorem row_of {l : List Dv} (h1 : l.length ≤ 16) (h2 : ∀ i, i < l.length → l[i]!.right = true) (h3 : ∀ i k, i < l.length → k < l.length → i ≠ k → meet l[i]! l[k]! = false) : rowP l :=
  ⟨h1, fun i hi => ⟨h2 i hi, fun k hk => h3 i k hi (by omega) (by omega)⟩⟩
theorem row_no_right {l : List Dv} {i : Nat} (hi : i < l.length) (h : l[i]!.right = false) : rowB l = false := by
  cases e : rowB l with
  | false => rfl
  | true => have := ((rowB_iff.1 e).2 i hi).1; rw [h] at this; cases this
theorem row_no_meet {l : List Dv} {i k : Nat} (hi : i < l.length) (hk : k < i) (h : meet l[i]! l[k]! = true) : rowB l = false := by
  cases e : rowB l with
  | false => rfl
  | true => have := ((rowB_iff.1 e).2 i hi).2 k hk; rw [h] at this; cases this
theorem row_no_long {l : List Dv} (h : 16 < l.length) : rowB l = false := by
  cases e : rowB l with
  | false => rfl
  | true => have := (rowB_iff.1 e).1; omega
theorem row_yes {l : List Dv} (h : l.length ≤ 16) (h2 : ∀ i, i < l.length → l[i]!.right = true ∧ ∀ k, k < i → meet l[i]! l[k]! = false) : rowB l = true := rowB_iff.2 ⟨h, h2⟩

/-- The first of the row that is such. -/
def fst (p : Dv → Bool) (l : List Dv) : Option Nat := l.findIdx? p
theorem fst_some {p : Dv → Bool} {l : List Dv} {i : Nat} (h : fst p l = some i) : i < l.length ∧ p l[i]! = true ∧ ∀ j, j < i → p l[j]! = false := by
  unfold fst at h
  rw [List.findIdx?_eq_some_iff_getElem] at h
  obtain ⟨h1, h2, h3⟩ := h
  refine ⟨h1, by rw [getElem!_pos l i h1]; exact h2, fun j hj => ?_⟩
  have := h3 j hj
  rw [getElem!_pos l j (by omega)]
  simpa using this
theorem fst_none {p : Dv → Bool} {l : List Dv} (h : fst p l = none) : ∀ j, j < l.length → p l[j]! = false := by
  unfold fst at h
  rw [List.findIdx?_eq_none_iff] at h
  intro j hj
  rw [getElem!_pos l j hj]
  exact h _ (List.getElem_mem hj)
theorem fst_yes {p : Dv → Bool} {l : List Dv} {i : Nat} (h1 : i < l.length) (h2 : p l[i]! = true) (h3 : ∀ j, j < i → p l[j]! = false) : fst p l = some i := by
  unfold fst
  rw [List.findIdx?_eq_some_iff_getElem]
  refine ⟨h1, by rw [← getElem!_pos l i h1]; exact h2, fun j hj => ?_⟩
  have := h3 j hj
  rw [getElem!_pos l j (by omega)] at this
  simpa using this
theorem fst_no {p : Dv → Bool} {l : List Dv} (h : ∀ j, j < l.length → p l[j]! = false) : fst p l = none := by
  cases e : fst p l with
  | none => rfl
  | some i => have := fst_some e; rw [h i this.1] at this; exact absurd this.2.1 (by simp)
/-- An access. -/
structure Ac where
  W : Int
  wr : Bool
  A : Int
  S : Int
  D : Int
def Ac.right (a : Ac) : Bool := Access.rightB a.W a.wr a.A a.S a.D
/-- Does its window have all of these addresses? -/
def Dv.holds (d : Dv) (f t : Int) : Bool := Reach.inB f t d.F d.T
def Dv.has (d : Dv) (p : Int) : Bool := Reach.hasB d.F d.T p
def dcd (l : List Dv) (a : Ac) : Option Nat := if a.right && rowB l then fst (fun d => d.holds a.A (a.A + a.S - 1)) l else none
def offV (l : List Dv) (a : Ac) : Option Nat → Int
  | none => 0
  | some i => a.A - l[i]!.B
def atV (l : List Dv) (p : Int) : Option Nat := if rowB l then fst (fun d => d.has p) l else none
end Go.Proofs.YtmdepkehpohgeaaGreat.Win
