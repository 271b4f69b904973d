/- Plain mathematics of package word: sizes, low parts, bytes, digits, numerals. It imports nothing of the translation. -/
import Derived.Laws.BitsAllLaws
import Derived.WalkKit
import Derived.PlainAid
namespace Go.Proofs.Ytploggfaihfeeaa.Word

/-- Is n a size? -/
def sizeB (n : Int) : Bool := decide (n = 1 ∨ n = 2 ∨ n = 4)
def lowV (v n : Int) : Int := if n = 1 then v % 256 else if n = 2 then v % 65536 else if n = 4 then v else 0
def sumV (a b : Int) : Int := (a + b) % 4294967296
def sumB (a b : Int) : Bool := decide (4294967296 ≤ a + b)
def subV (a b : Int) : Int := (a - b) % 4294967296
def subB (a b : Int) : Bool := decide (a < b)

theorem sizeB_or (n : Int) : (n == 1 || n == 2 || n == 4) = sizeB n := by
  unfold sizeB; rw [Bool.eq_iff_iff]; simp; omega
theorem sizeB_1 : sizeB 1 = true := rfl
theorem sizeB_2 : sizeB 2 = true := rfl
theorem sizeB_4 : sizeB 4 = true := rfl
theorem sizeB_no {n : Int} (h1 : n ≠ 1) (h2 : n ≠ 2) (h4 : n ≠ 4) : sizeB n = false := by unfold sizeB; simp; omega
theorem sizeB_yes {n : Int} (h : sizeB n = true) : n = 1 ∨ n = 2 ∨ n = 4 := by unfold sizeB at h; simpa using h
theorem sizeB_false {n : Int} (h : sizeB n = false) : n ≠ 1 ∧ n ≠ 2 ∧ n ≠ 4 := by unfold sizeB at h; simp at h; omega

theorem and255 {v : Int} (h0 : 0 ≤ v) (h1 : v < 4294967296) : bits .and .u32 v 255 = v % 256 := by
  rw [u32_and v 255 h0 h1 (by omega) (by omega)]
  obtain ⟨n, rfl⟩ := Int.eq_ofNat_of_zero_le h0
  have := nat_mask8 n
  simp only [Int.toNat_natCast, Int.reduceToNat, this]; omega
theorem and65535 {v : Int} (h0 : 0 ≤ v) (h1 : v < 4294967296) : bits .and .u32 v 65535 = v % 65536 := by
  rw [u32_and v 65535 h0 h1 (by omega) (by omega)]
  obtain ⟨n, rfl⟩ := Int.eq_ofNat_of_zero_le h0
  have := nat_mask16 n
  simp only [Int.toNat_natCast, Int.reduceToNat, this]; omega

/-- 'a | c << k', a below 2^k: their sum. -/
theorem or_join (i : Nat) (a c : Int) (h0 : 0 ≤ a) (h1 : a < ((2 ^ i : Nat) : Int)) (hc : 0 ≤ c) (h2 : c * ((2 ^ i : Nat) : Int) < 4294967296) (h3 : a < 4294967296) :
    bits .or .u32 a (c * ((2 ^ i : Nat) : Int)) = a + c * ((2 ^ i : Nat) : Int) := by
  obtain ⟨x, rfl⟩ := Int.eq_ofNat_of_zero_le h0
  obtain ⟨y, rfl⟩ := Int.eq_ofNat_of_zero_le hc
  rw [← Int.natCast_mul] at h2 ⊢
  have e := u32_or_nat x (y * 2 ^ i) (by omega) (by omega)
  rw [e, Nat.or_comm, nat_join i (y * 2 ^ i) x (Nat.mul_mod_left _ _) (by omega), Int.natCast_add, Int.add_comm]
theorem or_0 (c : Int) (h0 : 0 ≤ c) (h1 : c < 256) : bits .or .u32 0 c = c := by
  rw [u32_or 0 c (by omega) (by omega) h0 (by omega)]
  simp; omega
theorem or_8 (a c : Int) (h0 : 0 ≤ a) (h1 : a < 256) (h2 : 0 ≤ c) (h3 : c < 256) : bits .or .u32 a (c * 256) = a + c * 256 :=
  or_join 8 a c h0 h1 h2 (by show c * 256 < _; omega) (by omega)
theorem or_16 (a c : Int) (h0 : 0 ≤ a) (h1 : a < 65536) (h2 : 0 ≤ c) (h3 : c < 256) : bits .or .u32 a (c * 65536) = a + c * 65536 :=
  or_join 16 a c h0 h1 h2 (by show c * 65536 < _; omega) (by omega)
theorem or_24 (a c : Int) (h0 : 0 ≤ a) (h1 : a < 16777216) (h2 : 0 ≤ c) (h3 : c < 256) : bits .or .u32 a (c * 16777216) = a + c * 16777216 :=
  or_join 24 a c h0 h1 h2 (by show c * 16777216 < _; omega) (by omega)
/-- Two lists, held against each other. -/
def eqB (l m : List Int) : Bool := decide (l = m)
theorem eqB_yes {l m : List Int} (n : Nat) (hl : l.length = n) (hm : m.length = n) (h : ∀ j, j < n → l.getD j 0 = m.getD j 0) : eqB l m = true := by
  unfold eqB
  rw [decide_eq_true_eq]
  refine List.ext_getElem (by omega) fun i h1 h2 => ?_
  have := h i (by omega)
  simpa [List.getD_eq_getElem?_getD, h1, h2] using this
theorem eqB_no {l m : List Int} {j : Nat} (h : l.getD j 0 ≠ m.getD j 0) : eqB l m = false := by
  unfold eqB
  rw [decide_eq_false_iff_not]
  rintro rfl
  exact h rfl
theorem eqB_len {l m : List Int} (h : l.length ≠ m.length) : eqB l m = false := by
  unfold eqB
  rw [decide_eq_false_iff_not]
  rintro rfl
  exact h rfl
theorem eqB_refl (l : List Int) : eqB l l = true := by simp [eqB]
/-! ### Digits and numerals -/
/-- The digit of a number below 16. -/
def dch (i : Nat) : Int := if i < 10 then 48 + i else 87 + i
/-- The number of a digit; below 0: it is none. -/
def dval (c : Int) : Int := if 48 ≤ c ∧ c ≤ 57 then c - 48 else if 97 ≤ c ∧ c ≤ 102 then c - 87 else -1
/-- Is c a digit to base b? -/
def digB (b : Nat) (c : Int) : Bool := decide (0 ≤ dval c ∧ dval c < b)
def digV (b : Nat) (c : Int) : Int := if digB b c then dval c else 0
theorem dch_dval {i : Nat} {c : Int} (hi : i < 16) : dch i = c ↔ dval c = i := by
  unfold dch dval
  split <;> split <;> (try split) <;> omega
theorem dval_lt (c : Int) : dval c < 16 := by unfold dval; split <;> (try split) <;> omega
theorem dval_ge (c : Int) : -1 ≤ dval c := by unfold dval; split <;> (try split) <;> omega
theorem digB_at {b i : Nat} {c : Int} (hb : b ≤ 16) (hi : i < b) (h : dch i = c) : digB b c = true ∧ digV b c = i := by
  have e := (dch_dval (by omega)).1 h
  have h1 : digB b c = true := by unfold digB; simp; omega
  exact ⟨h1, by unfold digV; rw [if_pos h1, e]⟩
theorem digB_no {b : Nat} {c : Int} (hb : b ≤ 16) (h : ∀ i, i < b → dch i ≠ c) : digB b c = false ∧ digV b c = 0 := by
  have h1 : digB b c = false := by
    unfold digB
    rw [decide_eq_false_iff_not]
    rintro ⟨h0, h1⟩
    obtain ⟨i, hi⟩ := Int.eq_ofNat_of_zero_le h0
    exact h i (by omega) ((dch_dval (by omega)).2 hi)
  exact ⟨h1, by unfold digV; rw [h1]; rfl⟩
theorem digV_bd {b : Nat} {c : Int} : 0 ≤ digV b c ∧ digV b c < 16 := by
  unfold digV digB
  have := dval_lt c
  split
  · rename_i h; simp at h; omega
  · omega

/-- The number of some digits to a base, behind n; none: a sign is no digit, or it is above a word. -/
def numGo (b : Nat) : List Int → Int → Option Int
  | [], n => some n
  | c :: r, n => if digB b c = true ∧ n * b + dval c ≤ 4294967295 then numGo b r (n * b + dval c) else none
def numF (b : Nat) (l : List Int) : Option Int := if l = [] then none else numGo b l 0
/-- What Parse answers: of a text with 0x ahead, of others. -/
def parseF : List Int → Option Int
  | 48 :: 120 :: r => if 8 < r.length then none else numF 16 r
  | l => if 1 < l.length ∧ l.getD 0 0 = 48 then none else numF 10 l
def valI (o : Option Int) : Int := o.getD 0
theorem numGo_bd (b : Nat) : ∀ (l : List Int) (n v : Int), 0 ≤ n → n ≤ 4294967295 → numGo b l n = some v → 0 ≤ v ∧ v ≤ 4294967295
  | [], n, v, h0, h1, h => by simp [numGo] at h; omega
  | c :: r, n, v, h0, h1, h => by
    unfold numGo at h
    split at h
    · rename_i hc
      have hd : 0 ≤ dval c := by have := hc.1; unfold digB at this; simp at this; exact this.1
      have : 0 ≤ n * (b : Int) := Int.mul_nonneg h0 (by omega)
      exact numGo_bd b r _ v (by omega) hc.2 h
    · cases h
/-- A text's bytes, as numbers. -/
def bts (s : ByteArray) : List Int := (List.range s.size).map (PlainAid.bt s)
theorem bts_len (s : ByteArray) : (bts s).length = s.size := by simp [bts]
theorem bts_drop (s : ByteArray) {k : Nat} (h : k < s.size) : (bts s).drop k = PlainAid.bt s k :: (bts s).drop (k + 1) := by
  rw [List.drop_eq_getElem_cons (by simpa [bts] using h)]
  simp [bts]
theorem bts_end (s : ByteArray) {k : Nat} (h : s.size ≤ k) : (bts s).drop k = [] := by
  rw [List.drop_eq_nil_iff]; simpa [bts] using h
theorem bts_nil (s : ByteArray) : bts s = [] ↔ s.size = 0 := by
  rw [← List.length_eq_zero_iff, bts_len]
theorem numGo_yes {b : Nat} {c n : Int} {r : List Int} (h1 : digB b c = true) (h2 : n * b + digV b c ≤ 4294967295) : numGo b (c :: r) n = numGo b r (n * b + digV b c) := by
  have e : digV b c = dval c := by unfold digV; rw [if_pos h1]
  rw [e] at h2 ⊢
  conv => lhs; unfold numGo
  rw [if_pos ⟨h1, h2⟩]
theorem numGo_digit {b : Nat} {c n : Int} {r : List Int} (h1 : digB b c = false) : numGo b (c :: r) n = none := by
  unfold numGo
  rw [if_neg (by rw [h1]; simp)]
theorem numGo_high {b : Nat} {c n : Int} {r : List Int} (h2 : ¬ n * b + digV b c ≤ 4294967295) : numGo b (c :: r) n = none := by
  unfold numGo
  rw [if_neg]
  rintro ⟨h1, h3⟩
  unfold digV at h2
  rw [if_pos h1] at h2
  exact h2 h3
theorem isEmpty_yes (s : ByteArray) (h : s.size = 0) : (!s.toList.isEmpty) = false := by
  rw [ByteArray.toList_eq]
  have : s.data.toList.length = 0 := h
  simp [List.length_eq_zero_iff.1 this]
theorem isEmpty_no (s : ByteArray) (h : ¬ s.size = 0) : (!s.toList.isEmpty) = true := by
  rw [ByteArray.toList_eq]
  have : s.data.toList.length ≠ 0 := h
  cases e : s.data.toList with
  | nil => rw [e] at this; exact absurd rfl this
  | cons a l => rfl
theorem bts_eq (s : ByteArray) : bts s = s.data.toList.map (fun c => (c.toNat : Int)) := by
  refine List.ext_getElem (by simp [bts]) fun i h1 h2 => ?_
  have h : i < s.size := by simpa [bts] using h1
  simp only [bts, List.getElem_map, List.getElem_range]
  rw [← PlainAid.get_bt s i h]
  rfl
theorem bts_at (s : ByteArray) {k : Nat} (h : k < s.size) : (bts s).getD k 0 = PlainAid.bt s k := by
  simp [bts, List.getD_eq_getElem?_getD, h]
/-- Has a text 0x ahead? -/
def hexB (s : ByteArray) : Bool := decide (2 ≤ s.size) && ((s.extract 0 2).toList == [48, 120])
theorem bts_extract (s : ByteArray) (a : Nat) : bts (s.extract a s.size) = (bts s).drop a := by
  rw [bts_eq, bts_eq, ← List.map_drop]
  congr 1
  simp only [ByteArray.data_extract, Array.toList_extract, List.extract_eq_take_drop]
  rw [List.take_of_length_le]
  simp
theorem hexB_iff (s : ByteArray) : hexB s = true ↔ 2 ≤ s.size ∧ PlainAid.bt s 0 = 48 ∧ PlainAid.bt s 1 = 120 := by
  unfold hexB
  rw [Bool.and_eq_true, decide_eq_true_eq, beq_iff_eq]
  refine and_congr_right fun h => ?_
  rw [ByteArray.toList_eq]
  have e : (s.extract 0 2).data.toList = [s[0]'(by omega), s[1]'(by omega)] := by
    simp only [ByteArray.data_extract, Array.toList_extract, List.extract_eq_take_drop]
    refine List.ext_getElem (by simp; omega) fun i h1 h2 => ?_
    have : i = 0 ∨ i = 1 := by simp at h2; omega
    rcases this with rfl | rfl <;> simp <;> rfl
  rw [e, ← PlainAid.get_bt s 0 (by omega), ← PlainAid.get_bt s 1 (by omega)]
  constructor
  · intro h; simp at h; rw [h.1, h.2]; exact ⟨rfl, rfl⟩
  · rintro ⟨h0, h1⟩
    have a0 : s[0]'(by omega) = 48 := UInt8.toNat_inj.1 (by show _ = 48; omega)
    have a1 : s[1]'(by omega) = 120 := UInt8.toNat_inj.1 (by show _ = 120; omega)
    rw [a0, a1]
theorem parseF_hex {s : ByteArray} (h : hexB s = true) : parseF (bts s) = if 8 < s.size - 2 then none else numF 16 (bts (s.extract 2 s.size)) := by
  obtain ⟨h2, h0, h1⟩ := (hexB_iff s).1 h
  rw [bts_extract s 2]
  have e : bts s = 48 :: 120 :: (bts s).drop 2 := by
    have a := bts_drop s (k := 0) (by omega)
    have b := bts_drop s (k := 1) (by omega)
    rw [List.drop_zero] at a
    rw [h0] at a
    rw [h1] at b
    rw [← b]; exact a
  have hl : ((bts s).drop 2).length = s.size - 2 := by rw [List.length_drop, bts_len]
  rw [← hl]
  generalize (bts s).drop 2 = r at *
  rw [e]; rfl
theorem parseF_dec {s : ByteArray} (h : hexB s = false) : parseF (bts s) = if 1 < s.size ∧ PlainAid.bt s 0 = 48 then none else numF 10 (bts s) := by
  have hn : ¬ (2 ≤ s.size ∧ PlainAid.bt s 0 = 48 ∧ PlainAid.bt s 1 = 120) := by rw [← hexB_iff, h]; simp
  have e : parseF (bts s) = if 1 < (bts s).length ∧ (bts s).getD 0 0 = 48 then none else numF 10 (bts s) := by
    have h0 : 0 < s.size → (bts s).getD 0 0 = PlainAid.bt s 0 := fun h => bts_at s h
    have h1 : 1 < s.size → (bts s).getD 1 0 = PlainAid.bt s 1 := fun h => bts_at s h
    have hl := bts_len s
    generalize bts s = L at *
    unfold parseF
    split
    · rename_i r
      simp at hl h0 h1
      exact absurd ⟨by omega, (h0 (by omega)).symm, (h1 (by omega)).symm⟩ hn
    · rfl
  rw [e, bts_len]
  by_cases hs : 1 < s.size
  · rw [bts_at s (by omega)]
  · rw [if_neg (by omega), if_neg (by omega)]
/-! ### What a word is shown as -/
theorem and15 {v : Int} (h0 : 0 ≤ v) (h1 : v < 4294967296) : bits .and .u32 v 15 = v % 16 := by
  rw [u32_and v 15 h0 h1 (by omega) (by omega)]
  obtain ⟨n, rfl⟩ := Int.eq_ofNat_of_zero_le h0
  have := nat_mask4 n
  simp only [Int.toNat_natCast, Int.reduceToNat, this]; omega
/-- The digit in place k, of eight, the highest first. -/
def nib (v : Int) (k : Nat) : Nat := (v / (16 ^ (7 - k) : Nat) % 16).toNat
theorem nib_lt (v : Int) (k : Nat) : nib v k < 16 := by unfold nib; omega
theorem nib_0 {v : Int} (h0 : 0 ≤ v) (h1 : v < 4294967296) : bits .and .u32 (v / 268435456) 15 = (nib v 0 : Int) := by
  have e := and15 (v := v / 268435456) (by omega) (by omega)
  rw [e]; unfold nib; show v / 268435456 % 16 = _; omega
theorem nib_1 {v : Int} (h0 : 0 ≤ v) (h1 : v < 4294967296) : bits .and .u32 (v / 16777216) 15 = (nib v 1 : Int) := by
  have e := and15 (v := v / 16777216) (by omega) (by omega)
  rw [e]; unfold nib; show v / 16777216 % 16 = _; omega
theorem nib_2 {v : Int} (h0 : 0 ≤ v) (h1 : v < 4294967296) : bits .and .u32 (v / 1048576) 15 = (nib v 2 : Int) := by
  have e := and15 (v := v / 1048576) (by omega) (by omega)
  rw [e]; unfold nib; show v / 1048576 % 16 = _; omega
theorem nib_3 {v : Int} (h0 : 0 ≤ v) (h1 : v < 4294967296) : bits .and .u32 (v / 65536) 15 = (nib v 3 : Int) := by
  have e := and15 (v := v / 65536) (by omega) (by omega)
  rw [e]; unfold nib; show v / 65536 % 16 = _; omega
theorem nib_4 {v : Int} (h0 : 0 ≤ v) (h1 : v < 4294967296) : bits .and .u32 (v / 4096) 15 = (nib v 4 : Int) := by
  have e := and15 (v := v / 4096) (by omega) (by omega)
  rw [e]; unfold nib; show v / 4096 % 16 = _; omega
theorem nib_5 {v : Int} (h0 : 0 ≤ v) (h1 : v < 4294967296) : bits .and .u32 (v / 256) 15 = (nib v 5 : Int) := by
  have e := and15 (v := v / 256) (by omega) (by omega)
  rw [e]; unfold nib; show v / 256 % 16 = _; omega
theorem nib_6 {v : Int} (h0 : 0 ≤ v) (h1 : v < 4294967296) : bits .and .u32 (v / 16) 15 = (nib v 6 : Int) := by
  have e := and15 (v := v / 16) (by omega) (by omega)
  rw [e]; unfold nib; show v / 16 % 16 = _; omega
theorem nib_7 {v : Int} (h0 : 0 ≤ v) (h1 : v < 4294967296) : bits .and .u32 (v) 15 = (nib v 7 : Int) := by
  have e := and15 (v := v) (by omega) (by omega)
  rw [e]; unfold nib; show v % 16 = ((v / 1 % 16).toNat : Int); omega
def showI (v : Int) : List Int := [48, 120, dch (nib v 0), dch (nib v 1), dch (nib v 2), dch (nib v 3), dch (nib v 4), dch (nib v 5), dch (nib v 6), dch (nib v 7)]
theorem dch_bd {i : Nat} (h : i < 16) : 48 ≤ dch i ∧ dch i ≤ 102 := by unfold dch; split <;> omega
theorem showI_bd (v : Int) : ∀ c ∈ showI v, 48 ≤ c ∧ c ≤ 120 := by
  intro c hc
  have b : ∀ k, 48 ≤ dch (nib v k) ∧ dch (nib v k) ≤ 102 := fun k => dch_bd (nib_lt v k)
  simp only [showI, List.mem_cons, List.not_mem_nil, or_false] at hc
  rcases hc with rfl | rfl | rfl | rfl | rfl | rfl | rfl | rfl | rfl | rfl <;> first | omega | (have := b 0; omega) | (have := b 1; omega) | (have := b 2; omega) | (have := b 3; omega) | (have := b 4; omega) | (have := b 5; omega) | (have := b 6; omega) | (have := b 7; omega)
def showF (v : Int) : List UInt8 := (showI v).map (fun c => UInt8.ofNat c.toNat)
theorem showF_len (v : Int) : (showF v).length = 10 := rfl
theorem showF_at (v : Int) {j : Nat} (hj : j < (showF v).length) : ((showF v)[j].toNat : Int) = (showI v).getD j 0 := by
  have hj' : j < (showI v).length := by simpa [showF] using hj
  have hb := showI_bd v (showI v)[j] (List.getElem_mem hj')
  simp only [showF, List.getElem_map, List.getD_eq_getElem?_getD, List.getElem?_eq_getElem hj', Option.getD_some]
  simp only [UInt8.toNat_ofNat']
  omega
end Go.Proofs.Ytploggfaihfeeaa.Word
