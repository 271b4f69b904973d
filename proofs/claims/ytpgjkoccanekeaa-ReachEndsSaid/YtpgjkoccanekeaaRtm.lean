/- Reaches as pairs: which lists of them are apart, and that neighbours tell it of a list in order. Plain. -/
import Derived.Sort.Statements
namespace Go.Proofs.Ytpgjkoccanekeaa.Reach
open Go.Sort

def rightP (x : Int × Int) : Bool := decide (x.1 ≤ x.2)
def meetsP (x y : Int × Int) : Bool := decide (max x.1 y.1 ≤ min x.2 y.2)
def lessP (x y : Int × Int) : Bool := decide (x.1 < y.1 ∨ x.1 = y.1 ∧ x.2 < y.2)
/-- Are all right, and no two meet? -/
def ApartP (d : List (Int × Int)) : Prop := (∀ i, i < d.length → rightP d[i]! = true) ∧ ∀ i k, k < i → i < d.length → meetsP d[i]! d[k]! = false
noncomputable instance (d : List (Int × Int)) : Decidable (ApartP d) := Classical.propDecidable _
noncomputable def apartB (d : List (Int × Int)) : Bool := decide (ApartP d)
theorem apart_no_right {d : List (Int × Int)} {i : Nat} (hi : i < d.length) (h : rightP d[i]! = false) : apartB d = false :=
  decide_eq_false fun a => by rw [a.1 i hi] at h; cases h
theorem apart_no_meet {d : List (Int × Int)} {i k : Nat} (hk : k < i) (hi : i < d.length) (h : meetsP d[i]! d[k]! = true) : apartB d = false :=
  decide_eq_false fun a => by rw [a.2 i k hk hi] at h; cases h
theorem apart_yes {d : List (Int × Int)} (h1 : ∀ i, i < d.length → rightP d[i]! = true) (h2 : ∀ i k, k < i → i < d.length → meetsP d[i]! d[k]! = false) : apartB d = true :=
  decide_eq_true ⟨h1, h2⟩
theorem meetsP_comm (x y : Int × Int) : meetsP x y = meetsP y x := by
  unfold meetsP; rw [decide_eq_decide]; omega

theorem apartP_iff (d : List (Int × Int)) : ApartP d ↔ (∀ x ∈ d, rightP x = true) ∧ d.Pairwise fun x y => meetsP x y = false := by
  rw [List.pairwise_iff_getElem]
  constructor
  · rintro ⟨h1, h2⟩
    refine ⟨fun x hx => ?_, fun i j hi hj hij => ?_⟩
    · obtain ⟨i, hi, rfl⟩ := List.getElem_of_mem hx
      have := h1 i hi
      rwa [getElem!_pos d i hi] at this
    · have := h2 j i hij hj
      rw [getElem!_pos d i hi, getElem!_pos d j hj] at this
      rw [meetsP_comm]; exact this
  · rintro ⟨h1, h2⟩
    refine ⟨fun i hi => ?_, fun i k hk hi => ?_⟩
    · rw [getElem!_pos d i hi]
      exact h1 _ (List.getElem_mem hi)
    · rw [getElem!_pos d i hi, getElem!_pos d k (by omega), meetsP_comm]
      exact h2 k i (by omega) hi hk
theorem apartP_perm {d e : List (Int × Int)} (h : d.Perm e) : ApartP d ↔ ApartP e := by
  rw [apartP_iff, apartP_iff]
  have hm : ∀ x, x ∈ d ↔ x ∈ e := fun x => h.mem_iff
  have hp := h.pairwise_iff (R := fun x y => meetsP x y = false) (fun {x y} hxy => by rw [meetsP_comm]; exact hxy)
  rw [hp]
  exact ⟨fun ⟨a, b⟩ => ⟨fun x hx => a x ((hm x).2 hx), b⟩, fun ⟨a, b⟩ => ⟨fun x hx => a x ((hm x).1 hx), b⟩⟩

/-- No two side by side meet. -/
def NoNeigh (d : List (Int × Int)) : Prop := ∀ i, i + 1 < d.length → meetsP d[i]! d[i + 1]! = false
noncomputable instance (d : List (Int × Int)) : Decidable (NoNeigh d) := Classical.propDecidable _
noncomputable def neighB (d : List (Int × Int)) : Bool := !decide (NoNeigh d)
theorem neigh_yes {d : List (Int × Int)} {i : Nat} (hi : i + 1 < d.length) (h : meetsP d[i]! d[i + 1]! = true) : neighB d = true := by
  unfold neighB
  rw [decide_eq_false]
  · rfl
  · intro a; rw [a i hi] at h; cases h
theorem neigh_no {d : List (Int × Int)} (h : ∀ i, i + 1 < d.length → meetsP d[i]! d[i + 1]! = false) : neighB d = false := by
  unfold neighB; rw [decide_eq_true (show NoNeigh d from h)]; rfl
/-- In order, neighbours tell. -/
theorem apart_sorted {d : List (Int × Int)} (hr : ∀ x ∈ d, rightP x = true) (hs : ∀ i j, i < j → j < d.length → lessP d[j]! d[i]! = false) : apartB d = !neighB d := by
  unfold neighB
  rw [Bool.not_not]
  unfold apartB
  rw [decide_eq_decide]
  constructor
  · rintro ⟨h1, h2⟩ i hi
    rw [meetsP_comm]
    exact h2 (i + 1) i (by omega) hi
  · intro h
    refine ⟨fun i hi => by rw [getElem!_pos d i hi]; exact hr _ (List.getElem_mem hi), fun i k hk hi => ?_⟩
    have hR : ∀ j, j < d.length → d[j]!.1 ≤ d[j]!.2 := fun j hj => by
      have := hr _ (List.getElem_mem hj)
      rw [getElem!_pos d j hj]
      simpa [rightP] using this
    have hL : ∀ i j, i < j → j < d.length → d[i]!.1 ≤ d[j]!.1 := fun i j hij hj => by
      have := hs i j hij hj
      unfold lessP at this
      have := of_decide_eq_false this
      omega
    have h0 := h k (by omega)
    have a := of_decide_eq_false h0
    refine decide_eq_false fun hm => a ?_
    have b1 := hR (k + 1) (by omega)
    have b2 := hL k (k + 1) (by omega) (by omega)
    have b3 : d[k + 1]!.1 ≤ d[i]!.1 := by
      by_cases e : k + 1 = i
      · rw [e]; exact Int.le_refl _
      · exact hL (k + 1) i (by omega) hi
    omega
end Go.Proofs.Ytpgjkoccanekeaa.Reach
