/- Plain: a memory's bytes as words, four to each: what is taken from a word, what is put there. -/
import Derived.Test.YtffjnahcdgpklaaDoorMb
import Derived.Test.YtffjnahcdgpklaaDoorLn
namespace Go.Proofs.YtffjnahcdgpklaaDoor.Ram
open Go.RowKit Go.Maps Go.ChangeShapes Go.WideShapes Go.ChangeAt Fifo Orow Word
open Lane (tN pN takeV putV alB)
set_option linter.unusedVariables false

/-- The word of the four bytes from 4 k on; all of them. -/
def wordAt (bs : List Int) (k : Nat) : Int := bs.getD (4 * k) 0 + bs.getD (4 * k + 1) 0 * 256 + bs.getD (4 * k + 2) 0 * 65536 + bs.getD (4 * k + 3) 0 * 16777216
def wv (bs : List Int) : List Value := (List.range (bs.length / 4)).map fun k => .int .u32 (wordAt bs k)
theorem wv_len (bs : List Int) : (wv bs).length = bs.length / 4 := by simp [wv]
theorem wv_get (bs : List Int) {k : Nat} (h : k < bs.length / 4) : (wv bs)[k]? = some (.int .u32 (wordAt bs k)) := by simp [wv, h]
theorem wordAt_bd {bs : List Int} (h : OkM bs) (k : Nat) : 0 ≤ wordAt bs k ∧ wordAt bs k < 4294967296 := by
  have h0 := h.byte (4 * k)
  have h1 := h.byte (4 * k + 1)
  have h2 := h.byte (4 * k + 2)
  have h3 := h.byte (4 * k + 3)
  unfold wordAt
  omega
theorem zeros_get (n i : Nat) : (zerosB n).getD i 0 = 0 := by
  unfold zerosB
  rw [List.getD_eq_getElem?_getD, List.getElem?_replicate]
  split <;> rfl
theorem wv_zeros (n : Nat) : wv (zerosB n) = List.replicate (n / 4) (.int .u32 0) := by
  unfold wv wordAt
  rw [zeros_length]
  apply List.ext_getElem
  · simp
  · intro i h1 h2
    simp only [List.getElem_map, zeros_get, List.getElem_replicate]
    rfl
/-- What is taken from a place's word is what is read there. -/
theorem take_read {bs : List Int} (h : OkM bs) {o m s : Nat} (hp : Lane.Place s m) (hs : o % 4 = s) : tN (wordAt bs (o / 4)) s m = ofV m (bs.drop o) := by
  obtain ⟨q, hq⟩ : ∃ q, o / 4 = q := ⟨_, rfl⟩
  have h0 := h.byte (4 * q)
  have h1 := h.byte (4 * q + 1)
  have h2 := h.byte (4 * q + 2)
  have h3 := h.byte (4 * q + 3)
  have ho : o = 4 * q + s := by omega
  rw [hq]
  unfold tN ofV wordAt
  simp only [drop_get]
  subst ho
  clear hs hq
  obtain ⟨b0, e0⟩ : ∃ x, bs.getD (4 * q) 0 = x := ⟨_, rfl⟩
  obtain ⟨b1, e1⟩ : ∃ x, bs.getD (4 * q + 1) 0 = x := ⟨_, rfl⟩
  obtain ⟨b2, e2⟩ : ∃ x, bs.getD (4 * q + 2) 0 = x := ⟨_, rfl⟩
  obtain ⟨b3, e3⟩ : ∃ x, bs.getD (4 * q + 3) 0 = x := ⟨_, rfl⟩
  rcases hp with ⟨rfl, rfl | rfl | rfl | rfl⟩ | ⟨rfl, rfl | rfl⟩ | ⟨rfl, rfl⟩ <;> simp only [Nat.add_zero, Nat.add_assoc, Nat.reduceAdd, e0, e1, e2, e3] at * <;> simp only [if_true, Nat.reducePow, Nat.reduceEqDiff, if_false] <;> omega
/-- What is put into a place's word, the others stay. -/
theorem put_write {bs : List Int} (h : OkM bs) {o m s x : Nat} (hx : x < 4294967296) (hp : Lane.Place s m) (hs : o % 4 = s) (ho : o < bs.length) (k : Nat) (hk : k < bs.length / 4) :
    wordAt (putL bs o m x) k = if k = o / 4 then pN (wordAt bs (o / 4)) s m x else wordAt bs k := by
  have h4 := h.four
  unfold wordAt
  rw [putL_get _ _ _ _ _ (by omega), putL_get _ _ _ _ _ (by omega), putL_get _ _ _ _ _ (by omega), putL_get _ _ _ _ _ (by omega)]
  by_cases e : k = o / 4
  · rw [if_pos e]
    subst e
    obtain ⟨q, hq⟩ : ∃ q, o / 4 = q := ⟨_, rfl⟩
    have h0 := h.byte (4 * q)
    have h1 := h.byte (4 * q + 1)
    have h2 := h.byte (4 * q + 2)
    have h3 := h.byte (4 * q + 3)
    have ho : o = 4 * q + s := by omega
    rw [hq]
    clear hs hq hk h4
    subst ho
    unfold pN
    obtain ⟨b0, e0⟩ : ∃ x, bs.getD (4 * q) 0 = x := ⟨_, rfl⟩
    obtain ⟨b1, e1⟩ : ∃ x, bs.getD (4 * q + 1) 0 = x := ⟨_, rfl⟩
    obtain ⟨b2, e2⟩ : ∃ x, bs.getD (4 * q + 2) 0 = x := ⟨_, rfl⟩
    obtain ⟨b3, e3⟩ : ∃ x, bs.getD (4 * q + 3) 0 = x := ⟨_, rfl⟩
    rw [e0, e1, e2, e3]
    rw [e0] at h0
    rw [e1] at h1
    rw [e2] at h2
    rw [e3] at h3
    clear e0 e1 e2 e3 h
    rcases hp with ⟨rfl, rfl | rfl | rfl | rfl⟩ | ⟨rfl, rfl | rfl⟩ | ⟨rfl, rfl⟩
    · rw [if_pos (by omega), if_neg (by omega), if_neg (by omega), if_neg (by omega), show 4 * q - (4 * q + 0) = 0 by omega]
      simp only [Nat.reducePow, Nat.reduceAdd]; omega
    · rw [if_neg (by omega), if_pos (by omega), if_neg (by omega), if_neg (by omega), show 4 * q + 1 - (4 * q + 1) = 0 by omega]
      simp only [Nat.reducePow, Nat.reduceAdd]; omega
    · rw [if_neg (by omega), if_neg (by omega), if_pos (by omega), if_neg (by omega), show 4 * q + 2 - (4 * q + 2) = 0 by omega]
      simp only [Nat.reducePow, Nat.reduceAdd]; omega
    · rw [if_neg (by omega), if_neg (by omega), if_neg (by omega), if_pos (by omega), show 4 * q + 3 - (4 * q + 3) = 0 by omega]
      simp only [Nat.reducePow, Nat.reduceAdd]; omega
    · rw [if_pos (by omega), if_pos (by omega), if_neg (by omega), if_neg (by omega), show 4 * q - (4 * q + 0) = 0 by omega, show 4 * q + 1 - (4 * q + 0) = 1 by omega]
      simp only [Nat.reducePow, Nat.reduceAdd]; omega
    · rw [if_neg (by omega), if_neg (by omega), if_pos (by omega), if_pos (by omega), show 4 * q + 2 - (4 * q + 2) = 0 by omega, show 4 * q + 3 - (4 * q + 2) = 1 by omega]
      simp only [Nat.reducePow, Nat.reduceAdd]; omega
    · rw [if_pos (by omega), if_pos (by omega), if_pos (by omega), if_pos (by omega), show 4 * q - (4 * q + 0) = 0 by omega, show 4 * q + 1 - (4 * q + 0) = 1 by omega, show 4 * q + 2 - (4 * q + 0) = 2 by omega, show 4 * q + 3 - (4 * q + 0) = 3 by omega]
      simp only [Nat.reducePow, Nat.reduceAdd]; omega
  · rw [if_neg e]
    have hm : m ≤ 4 - s ∧ s < 4 := by rcases hp with ⟨rfl, rfl | rfl | rfl | rfl⟩ | ⟨rfl, rfl | rfl⟩ | ⟨rfl, rfl⟩ <;> omega
    rw [if_neg (by omega), if_neg (by omega), if_neg (by omega), if_neg (by omega)]
/-- Is there a byte at off? -/
def hasB (n : Nat) (off : Int) : Bool := decide (0 ≤ off ∧ off < (n : Int))
theorem place_has (n : Nat) (off size : Int) : placeB n off size = (hasB n off && alB off size) := by
  unfold placeB hasB alB
  rw [Bool.eq_iff_iff]
  simp only [Bool.and_eq_true, decide_eq_true_eq]
  constructor
  · rintro ⟨a, b, c, d⟩; exact ⟨⟨b, c⟩, a, d⟩
  · rintro ⟨⟨b, c⟩, a, d⟩; exact ⟨a, b, c, d⟩
theorem has_four {bs : List Int} (h : OkM bs) (off : Int) : hasB bs.length off = decide (0 ≤ off ∧ off < 4 * ((bs.length / 4 : Nat) : Int)) := by
  have := h.four
  unfold hasB
  congr 1
  apply propext
  constructor <;> rintro ⟨a, b⟩ <;> constructor <;> omega
theorem take_is {bs : List Int} (h : OkM bs) {o : Nat} {size : Int} (ho : o < bs.length) : takeV (wordAt bs (o / 4)) o size = readV bs o size := by
  have hb := place_has bs.length o size
  have hh : hasB bs.length (o : Int) = true := decide_eq_true (by omega)
  rw [hh, Bool.true_and] at hb
  cases ha : alB (o : Int) size with
  | false => rw [Lane.take_no ha, read_no (hb.trans ha)]
  | true =>
    obtain ⟨s, k, hp, hs, rfl, _⟩ := Lane.place_of ha
    rw [Lane.take_at hp hs rfl, read_at (hb.trans ha)]
    exact take_read h hp (by omega)
theorem put_is {bs : List Int} (h : OkM bs) {o x : Nat} {size : Int} (hx : x < 4294967296) (ho : o < bs.length) (ha : alB (o : Int) size = true) : wv (writeV bs o size x) = (wv bs).set (o / 4) (.int .u32 (putV (wordAt bs (o / 4)) o size x)) := by
  have h4 := h.four
  have hb := place_has bs.length o size
  have hh : hasB bs.length (o : Int) = true := decide_eq_true (by omega)
  rw [hh, Bool.true_and] at hb
  obtain ⟨s, k, hp, hs, rfl, _⟩ := Lane.place_of ha
  rw [Lane.put_at hp hs rfl, write_at (hb.trans ha)]
  apply List.ext_getElem?
  intro i
  by_cases hi : i < bs.length / 4
  · rw [wv_get _ (by rw [putL_length]; exact hi), put_write h hx hp (by omega) ho i hi, List.getElem?_set]
    by_cases e : i = o / 4
    · rw [if_pos e, if_pos e.symm, if_pos (by rw [wv_len]; omega)]
    · rw [if_neg e, if_neg (fun q => e q.symm), wv_get _ hi]
  · rw [List.getElem?_eq_none (by rw [wv_len, putL_length]; omega), List.getElem?_eq_none (by rw [List.length_set, wv_len]; omega)]
/-- The first words' bytes and the next word's. -/
theorem bytes_step {bs : List Int} (h : OkM bs) {k : Nat} (hk : k < bs.length / 4) {x : Nat} (hx : wordAt bs k = x) : bv (bs.take (4 * k)) ++ bv (bK x 4) = bv (bs.take (4 * (k + 1))) := by
  have h0 := h.byte (4 * k)
  have h1 := h.byte (4 * k + 1)
  have h2 := h.byte (4 * k + 2)
  have h3 := h.byte (4 * k + 3)
  have e : ∀ i, i < 4 → bs[4 * k + i]? = some (bs.getD (4 * k + i) 0) := fun i hi => by
    rw [List.getD_eq_getElem?_getD, List.getElem?_eq_getElem (by omega)]; rfl
  have t : bs.take (4 * (k + 1)) = bs.take (4 * k) ++ [bs.getD (4 * k) 0, bs.getD (4 * k + 1) 0, bs.getD (4 * k + 2) 0, bs.getD (4 * k + 3) 0] := by
    rw [show 4 * (k + 1) = 4 * k + 1 + 1 + 1 + 1 by omega, List.take_add_one, List.take_add_one, List.take_add_one, List.take_add_one, e 1 (by omega), e 2 (by omega), show bs[4 * k + 1 + 1 + 1]? = some (bs.getD (4 * k + 3) 0) from e 3 (by omega), show bs[4 * k]? = some (bs.getD (4 * k) 0) from e 0 (by omega)]
    simp
  have b : bK x 4 = [bs.getD (4 * k) 0, bs.getD (4 * k + 1) 0, bs.getD (4 * k + 2) 0, bs.getD (4 * k + 3) 0] := by
    unfold wordAt at hx
    simp only [bK, List.range_succ, List.range_zero, List.nil_append, List.cons_append, List.map_cons, List.map_nil, Nat.reducePow, List.cons.injEq, and_true]
    refine ⟨?_, ?_, ?_, ?_⟩ <;> omega
  rw [t, b]
  simp [bv]
end Go.Proofs.YtffjnahcdgpklaaDoor.Ram
