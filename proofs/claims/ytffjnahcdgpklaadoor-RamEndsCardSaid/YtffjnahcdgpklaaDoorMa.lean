/- Plain: memories as bytes: places, what is read, what is written. -/
import Derived.Test.YtffjnahcdgpklaaDoorBa
namespace Go.Proofs.YtffjnahcdgpklaaDoor.Ram
set_option linter.unusedVariables false

/-- So many noughts. -/
def zerosB (n : Nat) : List Int := List.replicate n 0
/-- Bytes of a memory. -/
structure OkM (bs : List Int) : Prop where
  four : bs.length % 4 = 0
  lo : 4 ≤ bs.length
  hi : bs.length ≤ 4096
  byte : ∀ i, 0 ≤ bs.getD i 0 ∧ bs.getD i 0 < 256
/-- Is it a size of a memory? -/
def sizeM (n : Int) : Bool := decide (4 ≤ n ∧ n ≤ 4096 ∧ n % 4 = 0)
theorem okM_zeros {n : Nat} (h : sizeM n = true) : OkM (zerosB n) := by
  unfold sizeM at h
  have := of_decide_eq_true h
  unfold zerosB
  refine ⟨by simp; omega, by simp; omega, by simp; omega, fun i => ?_⟩
  rw [List.getD_eq_getElem?_getD, List.getElem?_replicate]
  split <;> simp
/-- Is it a place of a memory of n bytes? -/
def placeB (n : Nat) (off size : Int) : Bool := Word.sizeB size && decide (0 ≤ off ∧ off < (n : Int) ∧ off % size = 0)
theorem place_parts {n : Nat} {off size : Int} (h : placeB n off size = true) (h4 : n % 4 = 0) : ∃ o m : Nat, off = o ∧ size = m ∧ (m = 1 ∨ m = 2 ∨ m = 4) ∧ o % m = 0 ∧ o + m ≤ n := by
  unfold placeB at h
  rw [Bool.and_eq_true] at h
  obtain ⟨h1, h2⟩ := h
  have h2 := of_decide_eq_true h2
  have hs : size = 1 ∨ size = 2 ∨ size = 4 := by
    unfold Word.sizeB at h1
    simpa using h1
  rcases hs with rfl | rfl | rfl
  · exact ⟨off.toNat, 1, by omega, rfl, .inl rfl, by omega, by omega⟩
  · exact ⟨off.toNat, 2, by omega, rfl, .inr (.inl rfl), by omega, by omega⟩
  · exact ⟨off.toNat, 4, by omega, rfl, .inr (.inr rfl), by omega, by omega⟩
theorem place_of {n o m : Nat} (hm : m = 1 ∨ m = 2 ∨ m = 4) (h : o % m = 0) (hn : o < n) : placeB n o m = true := by
  unfold placeB
  rw [Bool.and_eq_true]
  refine ⟨by rcases hm with rfl | rfl | rfl <;> rfl, decide_eq_true ⟨by omega, by omega, ?_⟩⟩
  rcases hm with rfl | rfl | rfl <;> omega
/-- What is read. -/
def readV (bs : List Int) (off size : Int) : Int := if placeB bs.length off size then Word.ofV size.toNat (bs.drop off.toNat) else 0
theorem read_no {bs : List Int} {off size : Int} (h : placeB bs.length off size = false) : readV bs off size = 0 := by unfold readV; rw [if_neg (by rw [h]; simp)]
theorem read_at {bs : List Int} {o m : Nat} (h : placeB bs.length o m = true) : readV bs o m = Word.ofV m (bs.drop o) := by unfold readV; rw [if_pos h]; rfl
/-- The first k bytes of x, put from o on. -/
def putL (bs : List Int) (o k x : Nat) : List Int := (List.range bs.length).map fun i => if o ≤ i ∧ i < o + k then ((x / 256 ^ (i - o) % 256 : Nat) : Int) else bs.getD i 0
theorem putL_length (bs : List Int) (o k x : Nat) : (putL bs o k x).length = bs.length := by simp [putL]
theorem putL_get (bs : List Int) (o k x i : Nat) (hi : i < bs.length) : (putL bs o k x).getD i 0 = if o ≤ i ∧ i < o + k then ((x / 256 ^ (i - o) % 256 : Nat) : Int) else bs.getD i 0 := by
  rw [List.getD_eq_getElem?_getD, List.getElem?_eq_getElem (by rw [putL_length]; exact hi)]
  simp [putL]
theorem getD_out {bs : List Int} {i : Nat} (h : bs.length ≤ i) : bs.getD i 0 = 0 := by
  rw [List.getD_eq_getElem?_getD, List.getElem?_eq_none h]
  rfl
theorem list_same {a b : List Int} (hl : a.length = b.length) (h : ∀ i, i < a.length → a.getD i 0 = b.getD i 0) : a = b := by
  apply List.ext_getElem hl
  intro i h1 h2
  have := h i h1
  rwa [List.getD_eq_getElem?_getD, List.getD_eq_getElem?_getD, List.getElem?_eq_getElem h1, List.getElem?_eq_getElem h2] at this
theorem putL_zero (bs : List Int) (o x : Nat) : putL bs o 0 x = bs :=
  list_same (putL_length ..) fun i hi => by
    rw [putL_length] at hi
    rw [putL_get _ _ _ _ _ hi, if_neg (by omega)]
theorem putL_step (bs : List Int) (o k x : Nat) (h : o + k < bs.length) : (putL bs o k x).set (o + k) ((x / 256 ^ k % 256 : Nat) : Int) = putL bs o (k + 1) x := by
  refine list_same (by rw [List.length_set, putL_length, putL_length]) fun i hi => ?_
  rw [List.length_set, putL_length] at hi
  rw [putL_get _ _ _ _ _ hi, List.getD_eq_getElem?_getD, List.getElem?_set]
  by_cases e : o + k = i
  · subst e
    rw [if_pos rfl, if_pos (by rw [putL_length]; exact h), if_pos (by omega), show o + k - o = k by omega]
    rfl
  · rw [if_neg e, ← List.getD_eq_getElem?_getD, putL_get _ _ _ _ _ hi]
    by_cases h1 : o ≤ i ∧ i < o + k
    · rw [if_pos h1, if_pos (by omega)]
    · rw [if_neg h1, if_neg (by omega)]
theorem putL_ok {bs : List Int} (h : OkM bs) (o k x : Nat) : OkM (putL bs o k x) := by
  refine ⟨by rw [putL_length]; exact h.four, by rw [putL_length]; exact h.lo, by rw [putL_length]; exact h.hi, fun i => ?_⟩
  by_cases hi : i < bs.length
  · rw [putL_get _ _ _ _ _ hi]
    split
    · omega
    · exact h.byte i
  · rw [getD_out (by rw [putL_length]; omega)]
    omega
/-- What is written. -/
def writeV (bs : List Int) (off size : Int) (x : Nat) : List Int := if placeB bs.length off size then putL bs off.toNat size.toNat x else bs
theorem write_no {bs : List Int} {off size : Int} {x : Nat} (h : placeB bs.length off size = false) : writeV bs off size x = bs := by unfold writeV; rw [if_neg (by rw [h]; simp)]
theorem write_at {bs : List Int} {o m x : Nat} (h : placeB bs.length o m = true) : writeV bs o m x = putL bs o m x := by unfold writeV; rw [if_pos h]; rfl
theorem write_length (bs : List Int) (off size : Int) (x : Nat) : (writeV bs off size x).length = bs.length := by
  unfold writeV; split
  · exact putL_length ..
  · rfl
theorem write_ok {bs : List Int} (h : OkM bs) (off size : Int) (x : Nat) : OkM (writeV bs off size x) := by
  unfold writeV; split
  · exact putL_ok h _ _ _
  · exact h
theorem drop_get (bs : List Int) (o i : Nat) : (bs.drop o).getD i 0 = bs.getD (o + i) 0 := by
  rw [List.getD_eq_getElem?_getD, List.getD_eq_getElem?_getD, List.getElem?_drop]
/-- What four bytes make. -/
theorem read_put4 (bs : List Int) (o x : Nat) (h : o + 4 ≤ bs.length) (hx : x < 4294967296) : Word.ofV 4 ((putL bs o 4 x).drop o) = x := by
  unfold Word.ofV
  rw [if_neg (by decide), if_neg (by decide), if_pos rfl]
  rw [drop_get, drop_get, drop_get, drop_get, putL_get _ _ _ _ _ (by omega), putL_get _ _ _ _ _ (by omega), putL_get _ _ _ _ _ (by omega), putL_get _ _ _ _ _ (by omega)]
  rw [if_pos (by omega), if_pos (by omega), if_pos (by omega), if_pos (by omega)]
  simp only [Nat.add_sub_cancel_left, Nat.add_zero, Nat.sub_self]
  omega
theorem read_zeros (n m : Nat) (o : Nat) : Word.ofV m ((zerosB n).drop o) = 0 := by
  have h : ∀ i, ((zerosB n).drop o).getD i 0 = 0 := fun i => by
    rw [drop_get]
    unfold zerosB
    rw [List.getD_eq_getElem?_getD, List.getElem?_replicate]
    split <;> rfl
  unfold Word.ofV
  simp only [h]
  split <;> simp
theorem zeros_length (n : Nat) : (zerosB n).length = n := List.length_replicate ..
theorem sizeM_ok {n : Nat} (h : OkM (zerosB n)) : sizeM n = true := by
  have h1 := h.four
  have h2 := h.lo
  have h3 := h.hi
  rw [zeros_length] at h1 h2 h3
  exact decide_eq_true (by omega)
end Go.Proofs.YtffjnahcdgpklaaDoor.Ram
