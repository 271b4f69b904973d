/- Plain: which device has an access; a right row turned, its owners and lines other. -/
import Derived.Test.YtfpammfcchboaaaVk
namespace Go.Proofs.Ytfpammfcchboaaa.Win
open Go.RowKit Fifo Go.Maps Go.ChangeShapes Go.WideShapes Go.ChangeAt Go.Proofs.Ytfpammfcchboaaa.Access
set_option linter.unusedVariables false

theorem holds_two {d e : Dv} {f t : Int} (h1 : d.holds f t = true) (h2 : e.holds f t = true) : meet d e = true := by
  unfold Dv.holds Reach.inB at h1 h2
  simp only [decide_eq_true_eq] at h1 h2
  unfold meet Reach.meetB
  simp only [decide_eq_true_eq]
  omega
theorem dcd_has {l : List Dv} (h : rowB l = true) {a : Ac} (ha : a.right = true) {i : Nat} (hi : i < l.length) : l[i]!.holds a.A (a.A + a.S - 1) = ((dcd l a).isSome && (dcd l a).getD 0 == i) := by
  unfold dcd
  rw [ha, h, Bool.and_self, if_pos rfl]
  cases e : fst (fun d => d.holds a.A (a.A + a.S - 1)) l with
  | none => rw [fst_none e i hi]; rfl
  | some j =>
    obtain ⟨h1, h2, _⟩ := fst_some e
    by_cases hij : j = i
    · subst hij
      rw [h2]
      simp
    · have hne : (j == i) = false := by simpa using hij
      simp only [Option.isSome_some, Option.getD_some, Bool.true_and, hne]
      cases hx : l[i]!.holds a.A (a.A + a.S - 1) with
      | false => rfl
      | true =>
        have := row_apart (rowB_iff.1 h) h1 hi hij
        rw [holds_two h2 hx] at this
        exact absurd this (by simp)
/-- One that is told holds the access. -/
theorem dcd_some {l : List Dv} {a : Ac} (h : (dcd l a).isSome = true) : a.right = true ∧ rowB l = true ∧ (dcd l a).getD 0 < l.length ∧ l[(dcd l a).getD 0]!.holds a.A (a.A + a.S - 1) = true ∧ offV l a (dcd l a) = a.A - l[(dcd l a).getD 0]!.B := by
  unfold dcd at h ⊢
  by_cases hc : (a.right && rowB l) = true
  · rw [if_pos hc] at h ⊢
    simp only [Bool.and_eq_true] at hc
    cases e : fst (fun d => d.holds a.A (a.A + a.S - 1)) l with
    | none => rw [e] at h; cases h
    | some j =>
      obtain ⟨h1, h2, _⟩ := fst_some e
      exact ⟨hc.1, hc.2, h1, h2, rfl⟩
  · rw [if_neg hc] at h
    cases h
theorem dcd_none {l : List Dv} {a : Ac} (h : (dcd l a).isSome = false) : (dcd l a).getD 0 = 0 ∧ offV l a (dcd l a) = 0 := by
  cases e : dcd l a with
  | none => exact ⟨rfl, rfl⟩
  | some j => rw [e] at h; cases h
/-- Its first address is that device's. -/
theorem dcd_at {l : List Dv} {a : Ac} (h : (dcd l a).isSome = true) (hA : a.A ≤ a.A + a.S - 1) : (atV l a.A).isSome = true ∧ (atV l a.A).getD 0 = (dcd l a).getD 0 := by
  obtain ⟨h1, h2, h3, h4, _⟩ := dcd_some h
  have hh := at_has h2 a.A h3
  have : l[(dcd l a).getD 0]!.has a.A = true := by
    unfold Dv.holds Reach.inB at h4
    simp only [decide_eq_true_eq] at h4
    unfold Dv.has Reach.hasB
    simp only [decide_eq_true_eq]
    omega
  rw [this] at hh
  have := hh.symm
  simp only [Bool.and_eq_true, beq_iff_eq] at this
  exact this

/-- Owner and line other. -/
def sw (O L : Int) (d : Dv) : Dv := ⟨d.k, d.B, d.S, O, L⟩
theorem sw_right {O L : Int} {d : Dv} (hO : -1 ≤ O ∧ O < 8) (hL : -1 ≤ L ∧ L < 8) (h : d.right = true) : (sw O L d).right = true := by
  obtain ⟨h1, h2, h3, h4, h5, h6, h7⟩ := dev_parts h
  exact dev_of h1 h2 h3 h4 h5 hO hL
theorem sw_F {O L : Int} {d : Dv} (hO : -1 ≤ O ∧ O < 8) (hL : -1 ≤ L ∧ L < 8) (h : d.right = true) : (sw O L d).F = d.F := by rw [(win_on h).1, (win_on (sw_right hO hL h)).1]; rfl
theorem sw_T {O L : Int} {d : Dv} (hO : -1 ≤ O ∧ O < 8) (hL : -1 ≤ L ∧ L < 8) (h : d.right = true) : (sw O L d).T = d.T := by rw [(win_on h).2, (win_on (sw_right hO hL h)).2]; rfl
/-- The row turned by k. -/
def rot (l : List Dv) (k : Nat) : List Dv := l.drop k ++ l.take k
theorem rot_len {l : List Dv} {k : Nat} : (rot l k).length = l.length := by simp [rot]; omega
def sg (n k i : Nat) : Nat := if i < n - k then i + k else i - (n - k)
theorem sg_lt {n k i : Nat} (hk : k ≤ n) (hi : i < n) : sg n k i < n := by unfold sg; split <;> omega
theorem sg_inj {n k i j : Nat} (hk : k ≤ n) (hi : i < n) (hj : j < n) (h : sg n k i = sg n k j) : i = j := by
  unfold sg at h
  split at h <;> split at h <;> omega
theorem sg_onto {n k j : Nat} (hk : k ≤ n) (hj : j < n) : ∃ i, i < n ∧ sg n k i = j := by
  by_cases h : k ≤ j
  · exact ⟨j - k, by omega, by unfold sg; rw [if_pos (by omega)]; omega⟩
  · exact ⟨j + (n - k), by omega, by unfold sg; rw [if_neg (by omega)]; omega⟩
theorem rot_get {l : List Dv} {k i : Nat} (hk : k ≤ l.length) (hi : i < l.length) : (rot l k)[i]! = l[sg l.length k i]! := by
  unfold rot sg
  by_cases h : i < l.length - k
  · rw [if_pos h, getElem!_pos _ i (by simp; omega), List.getElem_append_left (by simpa using h), ← getElem!_pos (l.drop k) i (by simpa using h), drop_getV, Nat.add_comm]
  · rw [if_neg h, getElem!_pos _ i (by simp; omega), List.getElem_append_right (by simp; omega)]
    simp only [List.length_drop]
    rw [← getElem!_pos (l.take k) (i - (l.length - k)) (by simp; omega), take_getV (by omega)]
/-- All that is told of the row so made. -/
theorem rot_all {l m : List Dv} {a : Ac} {k : Nat} {O L : Int} (h : rowB l = true) (hk : k ≤ l.length) (hO : -1 ≤ O ∧ O < 8) (hL : -1 ≤ L ∧ L < 8)
    (hm : m.length = l.length) (he : ∀ i, i < l.length → m[i]! = sw O L (rot l k)[i]!) :
    rowB m = true ∧ (dcd m a).isSome = (dcd l a).isSome ∧ offV m a (dcd m a) = offV l a (dcd l a) ∧ ((dcd m a).isSome = true → (dcd m a).getD 0 < l.length ∧ m[(dcd m a).getD 0]!.B = l[(dcd l a).getD 0]!.B) := by
  have hp := rowB_iff.1 h
  have hg : ∀ i, i < l.length → m[i]! = sw O L l[sg l.length k i]! := fun i hi => by rw [he i hi, rot_get hk hi]
  have hr : ∀ i, i < l.length → l[sg l.length k i]!.right = true := fun i hi => (hp.2 _ (sg_lt hk hi)).1
  have hrow : rowB m = true := by
    refine rowB_iff.2 (row_of (by rw [hm]; exact hp.1) (fun i hi => ?_) fun i j hi hj hne => ?_)
    · rw [hm] at hi
      rw [hg i hi]; exact sw_right hO hL (hr i hi)
    · rw [hm] at hi hj
      rw [hg i hi, hg j hj]
      unfold meet
      rw [sw_F hO hL (hr i hi), sw_T hO hL (hr i hi), sw_F hO hL (hr j hj), sw_T hO hL (hr j hj)]
      exact row_apart hp (sg_lt hk hi) (sg_lt hk hj) (fun e => hne (sg_inj hk hi hj e))
  have hh : ∀ i, i < l.length → m[i]!.holds a.A (a.A + a.S - 1) = l[sg l.length k i]!.holds a.A (a.A + a.S - 1) := fun i hi => by
    rw [hg i hi]
    unfold Dv.holds
    rw [sw_F hO hL (hr i hi), sw_T hO hL (hr i hi)]
  refine ⟨hrow, ?_⟩
  cases hb : (dcd l a).isSome with
  | true =>
    obtain ⟨h1, h2, h3, h4, h5⟩ := dcd_some hb
    obtain ⟨e, e1, e2⟩ := sg_onto hk h3
    have h6 := hh e e1
    rw [e2, h4] at h6
    have h7 := dcd_has hrow h1 (show e < m.length by rw [hm]; exact e1)
    rw [h6] at h7
    have h8 := h7.symm
    simp only [Bool.and_eq_true, beq_iff_eq] at h8
    have hB : m[e]!.B = l[(dcd l a).getD 0]!.B := by rw [hg e e1, e2]; rfl
    refine ⟨h8.1, ?_, fun _ => ⟨by rw [h8.2]; exact e1, by rw [h8.2]; exact hB⟩⟩
    rw [(dcd_some h8.1).2.2.2.2, h5, h8.2, hB]
  | false =>
    have hn : (dcd m a).isSome = false := by
      cases hc : (dcd m a).isSome with
      | false => rfl
      | true =>
        obtain ⟨h1, h2, h3, h4, h5⟩ := dcd_some hc
        rw [hm] at h3
        rw [hh _ h3] at h4
        have := dcd_has h h1 (sg_lt hk h3)
        rw [h4, hb] at this
        simp at this
    exact ⟨hn, by rw [(dcd_none hn).2, (dcd_none hb).2], fun e => by rw [hn] at e; cases e⟩
end Go.Proofs.Ytfpammfcchboaaa.Win
