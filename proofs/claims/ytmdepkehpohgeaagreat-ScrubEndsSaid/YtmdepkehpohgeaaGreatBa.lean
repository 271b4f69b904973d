/- Put together: Ws, Wa, Wb, Wc, Wd, We, Wf, Row, Oa, Ob, Oc, Kb, Ko, KcInts, Ext, La, Lb, Lc, Lr. -/
import Derived.Laws.BitsAllLaws
import Derived.WalkKit
import Derived.PlainAid
import Derived.Test.YtmdepkehpohgeaaGreatProg
import Derived.WalkLawsBesides
import Derived.Handy
import Derived.Outline
import Derived.Deep.QuietTactic
import Derived.BigQuiet
import Derived.Lib.Hide
import Derived.Maps.AppendAt
import Derived.Lib.SlBytesConst
import Derived.ArgAppend
import Derived.ProofKit
import Derived.OpenShut
import Derived.Below
import Derived.Lib.TrailingZeros
import Derived.RangeFuncBox
import Derived.RangeFuncLeaves
import Derived.Shelf.Abstract
import Derived.OwnWalkIn
import Derived.TacticsInMore
import Derived.LoopNIn
import Derived.LoopIn
import Derived.RangeFuncNested
import Derived.Deep.RegionWith
/- Plain mathematics of package word: sizes, low parts, bytes, digits, numerals. It imports nothing of the translation. -/
namespace Go.Proofs.YtmdepkehpohgeaaGreat.Word

/-- Is n a size? -/
def sizeB (n : Int) : Bool := decide (n = 1 ∨ n = 2 ∨ n = 4)
def lowV (v n : Int) : Int := if n = 1 then v % 256 else if n = 2 then v % 65536 else if n = 4 then v else 0
def sumV (a b : Int) : Int := (a + b) % 4294967296
def sumB (a b : Int) : Bool := decide (4294967296 ≤ a + b)
def subV (a b : Int) : Int := (a - b) % 4294967296
def subB (a b : Int) : Bool := decide (a < b)

theorem sizeB_or (n : Int) : (n == 1 || n == 2 || n == 4) = sizeB n := by
  unfold sizeB; rw [Bool.eq_iff_iff]; simp; omega
theorem sizeB_1 : sizeB 1 = true := rfl
theorem sizeB_2 : sizeB 2 = true := rfl
theorem sizeB_4 : sizeB 4 = true := rfl
theorem sizeB_no {n : Int} (h1 : n ≠ 1) (h2 : n ≠ 2) (h4 : n ≠ 4) : sizeB n = false := by unfold sizeB; simp; omega
theorem sizeB_yes {n : Int} (h : sizeB n = true) : n = 1 ∨ n = 2 ∨ n = 4 := by unfold sizeB at h; simpa using h
theorem sizeB_false {n : Int} (h : sizeB n = false) : n ≠ 1 ∧ n ≠ 2 ∧ n ≠ 4 := by unfold sizeB at h; simp at h; omega

theorem and255 {v : Int} (h0 : 0 ≤ v) (h1 : v < 4294967296) : bits .and .u32 v 255 = v % 256 := by
  rw [u32_and v 255 h0 h1 (by omega) (by omega)]
  obtain ⟨n, rfl⟩ := Int.eq_ofNat_of_zero_le h0
  have := nat_mask8 n
  simp only [Int.toNat_natCast, Int.reduceToNat, this]; omega
theorem and65535 {v : Int} (h0 : 0 ≤ v) (h1 : v < 4294967296) : bits .and .u32 v 65535 = v % 65536 := by
  rw [u32_and v 65535 h0 h1 (by omega) (by omega)]
  obtain ⟨n, rfl⟩ := Int.eq_ofNat_of_zero_le h0
  have := nat_mask16 n
  simp only [Int.toNat_natCast, Int.reduceToNat, this]; omega

/-- 'a | c << k', a below 2^k: their sum. -/
theorem or_join (i : Nat) (a c : Int) (h0 : 0 ≤ a) (h1 : a < ((2 ^ i : Nat) : Int)) (hc : 0 ≤ c) (h2 : c * ((2 ^ i : Nat) : Int) < 4294967296) (h3 : a < 4294967296) :
    bits .or .u32 a (c * ((2 ^ i : Nat) : Int)) = a + c * ((2 ^ i : Nat) : Int) := by
  obtain ⟨x, rfl⟩ := Int.eq_ofNat_of_zero_le h0
  obtain ⟨y, rfl⟩ := Int.eq_ofNat_of_zero_le hc
  rw [← Int.natCast_mul] at h2 ⊢
  have e := u32_or_nat x (y * 2 ^ i) (by omega) (by omega)
  rw [e, Nat.or_comm, nat_join i (y * 2 ^ i) x (Nat.mul_mod_left _ _) (by omega), Int.natCast_add, Int.add_comm]
theorem or_0 (c : Int) (h0 : 0 ≤ c) (h1 : c < 256) : bits .or .u32 0 c = c := by
  rw [u32_or 0 c (by omega) (by omega) h0 (by omega)]
  simp; omega
theorem or_8 (a c : Int) (h0 : 0 ≤ a) (h1 : a < 256) (h2 : 0 ≤ c) (h3 : c < 256) : bits .or .u32 a (c * 256) = a + c * 256 :=
  or_join 8 a c h0 h1 h2 (by show c * 256 < _; omega) (by omega)
theorem or_16 (a c : Int) (h0 : 0 ≤ a) (h1 : a < 65536) (h2 : 0 ≤ c) (h3 : c < 256) : bits .or .u32 a (c * 65536) = a + c * 65536 :=
  or_join 16 a c h0 h1 h2 (by show c * 65536 < _; omega) (by omega)
theorem or_24 (a c : Int) (h0 : 0 ≤ a) (h1 : a < 16777216) (h2 : 0 ≤ c) (h3 : c < 256) : bits .or .u32 a (c * 16777216) = a + c * 16777216 :=
  or_join 24 a c h0 h1 h2 (by show c * 16777216 < _; omega) (by omega)
/-- Two lists, held against each other. -/
def eqB (l m : List Int) : Bool := decide (l = m)
theorem eqB_yes {l m : List Int} (n : Nat) (hl : l.length = n) (hm : m.length = n) (h : ∀ j, j < n → l.getD j 0 = m.getD j 0) : eqB l m = true := by
  unfold eqB
  rw [decide_eq_true_eq]
  refine List.ext_getElem (by omega) fun i h1 h2 => ?_
  have := h i (by omega)
  simpa [List.getD_eq_getElem?_getD, h1, h2] using this
theorem eqB_no {l m : List Int} {j : Nat} (h : l.getD j 0 ≠ m.getD j 0) : eqB l m = false := by
  unfold eqB
  rw [decide_eq_false_iff_not]
  rintro rfl
  exact h rfl
theorem eqB_len {l m : List Int} (h : l.length ≠ m.length) : eqB l m = false := by
  unfold eqB
  rw [decide_eq_false_iff_not]
  rintro rfl
  exact h rfl
theorem eqB_refl (l : List Int) : eqB l l = true := by simp [eqB]
/-! ### Digits and numerals -/
/-- The digit of a number below 16. -/
def dch (i : Nat) : Int := if i < 10 then 48 + i else 87 + i
/-- The number of a digit; below 0: it is none. -/
def dval (c : Int) : Int := if 48 ≤ c ∧ c ≤ 57 then c - 48 else if 97 ≤ c ∧ c ≤ 102 then c - 87 else -1
/-- Is c a digit to base b? -/
def digB (b : Nat) (c : Int) : Bool := decide (0 ≤ dval c ∧ dval c < b)
def digV (b : Nat) (c : Int) : Int := if digB b c then dval c else 0
theorem dch_dval {i : Nat} {c : Int} (hi : i < 16) : dch i = c ↔ dval c = i := by
  unfold dch dval
  split <;> split <;> (try split) <;> omega
theorem dval_lt (c : Int) : dval c < 16 := by unfold dval; split <;> (try split) <;> omega
theorem dval_ge (c : Int) : -1 ≤ dval c := by unfold dval; split <;> (try split) <;> omega
theorem digB_at {b i : Nat} {c : Int} (hb : b ≤ 16) (hi : i < b) (h : dch i = c) : digB b c = true ∧ digV b c = i := by
  have e := (dch_dval (by omega)).1 h
  have h1 : digB b c = true := by unfold digB; simp; omega
  exact ⟨h1, by unfold digV; rw [if_pos h1, e]⟩
theorem digB_no {b : Nat} {c : Int} (hb : b ≤ 16) (h : ∀ i, i < b → dch i ≠ c) : digB b c = false ∧ digV b c = 0 := by
  have h1 : digB b c = false := by
    unfold digB
    rw [decide_eq_false_iff_not]
    rintro ⟨h0, h1⟩
    obtain ⟨i, hi⟩ := Int.eq_ofNat_of_zero_le h0
    exact h i (by omega) ((dch_dval (by omega)).2 hi)
  exact ⟨h1, by unfold digV; rw [h1]; rfl⟩
theorem digV_bd {b : Nat} {c : Int} : 0 ≤ digV b c ∧ digV b c < 16 := by
  unfold digV digB
  have := dval_lt c
  split
  · rename_i h; simp at h; omega
  · omega

/-- The number of some digits to a base, behind n; none: a sign is no digit, or it is above a word. -/
def numGo (b : Nat) : List Int → Int → Option Int
  | [], n => some n
  | c :: r, n => if digB b c = true ∧ n * b + dval c ≤ 4294967295 then numGo b r (n * b + dval c) else none
def numF (b : Nat) (l : List Int) : Option Int := if l = [] then none else numGo b l 0
/-- What Parse answers: of a text with 0x ahead, of others. -/
def parseF : List Int → Option Int
  | 48 :: 120 :: r => if 8 < r.length then none else numF 16 r
  | l => if 1 < l.length ∧ l.getD 0 0 = 48 then none else numF 10 l
def valI (o : Option Int) : Int := o.getD 0
theorem numGo_bd (b : Nat) : ∀ (l : List Int) (n v : Int), 0 ≤ n → n ≤ 4294967295 → numGo b l n = some v → 0 ≤ v ∧ v ≤ 4294967295
  | [], n, v, h0, h1, h => by simp [numGo] at h; omega
  | c :: r, n, v, h0, h1, h => by
    unfold numGo at h
    split at h
    · rename_i hc
      have hd : 0 ≤ dval c := by have := hc.1; unfold digB at this; simp at this; exact this.1
      have : 0 ≤ n * (b : Int) := Int.mul_nonneg h0 (by omega)
      exact numGo_bd b r _ v (by omega) hc.2 h
    · cases h
/-- A text's bytes, as numbers. -/
def bts (s : ByteArray) : List Int := (List.range s.size).map (PlainAid.bt s)
theorem bts_len (s : ByteArray) : (bts s).length = s.size := by simp [bts]
theorem bts_drop (s : ByteArray) {k : Nat} (h : k < s.size) : (bts s).drop k = PlainAid.bt s k :: (bts s).drop (k + 1) := by
  rw [List.drop_eq_getElem_cons (by simpa [bts] using h)]
  simp [bts]
theorem bts_end (s : ByteArray) {k : Nat} (h : s.size ≤ k) : (bts s).drop k = [] := by
  rw [List.drop_eq_nil_iff]; simpa [bts] using h
theorem bts_nil (s : ByteArray) : bts s = [] ↔ s.size = 0 := by
  rw [← List.length_eq_zero_iff, bts_len]
theorem numGo_yes {b : Nat} {c n : Int} {r : List Int} (h1 : digB b c = true) (h2 : n * b + digV b c ≤ 4294967295) : numGo b (c :: r) n = numGo b r (n * b + digV b c) := by
  have e : digV b c = dval c := by unfold digV; rw [if_pos h1]
  rw [e] at h2 ⊢
  conv => lhs; unfold numGo
  rw [if_pos ⟨h1, h2⟩]
theorem numGo_digit {b : Nat} {c n : Int} {r : List Int} (h1 : digB b c = false) : numGo b (c :: r) n = none := by
  unfold numGo
  rw [if_neg (by rw [h1]; simp)]
theorem numGo_high {b : Nat} {c n : Int} {r : List Int} (h2 : ¬ n * b + digV b c ≤ 4294967295) : numGo b (c :: r) n = none := by
  unfold numGo
  rw [if_neg]
  rintro ⟨h1, h3⟩
  unfold digV at h2
  rw [if_pos h1] at h2
  exact h2 h3
theorem isEmpty_yes (s : ByteArray) (h : s.size = 0) : (!s.toList.isEmpty) = false := by
  rw [ByteArray.toList_eq]
  have : s.data.toList.length = 0 := h
  simp [List.length_eq_zero_iff.1 this]
theorem isEmpty_no (s : ByteArray) (h : ¬ s.size = 0) : (!s.toList.isEmpty) = true := by
  rw [ByteArray.toList_eq]
  have : s.data.toList.length ≠ 0 := h
  cases e : s.data.toList with
  | nil => rw [e] at this; exact absurd rfl this
  | cons a l => rfl
theorem bts_eq (s : ByteArray) : bts s = s.data.toList.map (fun c => (c.toNat : Int)) := by
  refine List.ext_getElem (by simp [bts]) fun i h1 h2 => ?_
  have h : i < s.size := by simpa [bts] using h1
  simp only [bts, List.getElem_map, List.getElem_range]
  rw [← PlainAid.get_bt s i h]
  rfl
theorem bts_at (s : ByteArray) {k : Nat} (h : k < s.size) : (bts s).getD k 0 = PlainAid.bt s k := by
  simp [bts, List.getD_eq_getElem?_getD, h]
/-- Has a text 0x ahead? -/
def hexB (s : ByteArray) : Bool := decide (2 ≤ s.size) && ((s.extract 0 2).toList == [48, 120])
theorem bts_extract (s : ByteArray) (a : Nat) : bts (s.extract a s.size) = (bts s).drop a := by
  rw [bts_eq, bts_eq, ← List.map_drop]
  congr 1
  simp only [ByteArray.data_extract, Array.toList_extract, List.extract_eq_take_drop]
  rw [List.take_of_length_le]
  simp
theorem hexB_iff (s : ByteArray) : hexB s = true ↔ 2 ≤ s.size ∧ PlainAid.bt s 0 = 48 ∧ PlainAid.bt s 1 = 120 := by
  unfold hexB
  rw [Bool.and_eq_true, decide_eq_true_eq, beq_iff_eq]
  refine and_congr_right fun h => ?_
  rw [ByteArray.toList_eq]
  have e : (s.extract 0 2).data.toList = [s[0]'(by omega), s[1]'(by omega)] := by
    simp only [ByteArray.data_extract, Array.toList_extract, List.extract_eq_take_drop]
    refine List.ext_getElem (by simp; omega) fun i h1 h2 => ?_
    have : i = 0 ∨ i = 1 := by simp at h2; omega
    rcases this with rfl | rfl <;> simp <;> rfl
  rw [e, ← PlainAid.get_bt s 0 (by omega), ← PlainAid.get_bt s 1 (by omega)]
  constructor
  · intro h; simp at h; rw [h.1, h.2]; exact ⟨rfl, rfl⟩
  · rintro ⟨h0, h1⟩
    have a0 : s[0]'(by omega) = 48 := UInt8.toNat_inj.1 (by show _ = 48; omega)
    have a1 : s[1]'(by omega) = 120 := UInt8.toNat_inj.1 (by show _ = 120; omega)
    rw [a0, a1]
theorem parseF_hex {s : ByteArray} (h : hexB s = true) : parseF (bts s) = if 8 < s.size - 2 then none else numF 16 (bts (s.extract 2 s.size)) := by
  obtain ⟨h2, h0, h1⟩ := (hexB_iff s).1 h
  rw [bts_extract s 2]
  have e : bts s = 48 :: 120 :: (bts s).drop 2 := by
    have a := bts_drop s (k := 0) (by omega)
    have b := bts_drop s (k := 1) (by omega)
    rw [List.drop_zero] at a
    rw [h0] at a
    rw [h1] at b
    rw [← b]; exact a
  have hl : ((bts s).drop 2).length = s.size - 2 := by rw [List.length_drop, bts_len]
  rw [← hl]
  generalize (bts s).drop 2 = r at *
  rw [e]; rfl
theorem parseF_dec {s : ByteArray} (h : hexB s = false) : parseF (bts s) = if 1 < s.size ∧ PlainAid.bt s 0 = 48 then none else numF 10 (bts s) := by
  have hn : ¬ (2 ≤ s.size ∧ PlainAid.bt s 0 = 48 ∧ PlainAid.bt s 1 = 120) := by rw [← hexB_iff, h]; simp
  have e : parseF (bts s) = if 1 < (bts s).length ∧ (bts s).getD 0 0 = 48 then none else numF 10 (bts s) := by
    have h0 : 0 < s.size → (bts s).getD 0 0 = PlainAid.bt s 0 := fun h => bts_at s h
    have h1 : 1 < s.size → (bts s).getD 1 0 = PlainAid.bt s 1 := fun h => bts_at s h
    have hl := bts_len s
    generalize bts s = L at *
    unfold parseF
    split
    · rename_i r
      simp at hl h0 h1
      exact absurd ⟨by omega, (h0 (by omega)).symm, (h1 (by omega)).symm⟩ hn
    · rfl
  rw [e, bts_len]
  by_cases hs : 1 < s.size
  · rw [bts_at s (by omega)]
  · rw [if_neg (by omega), if_neg (by omega)]
/-! ### What a word is shown as -/
theorem and15 {v : Int} (h0 : 0 ≤ v) (h1 : v < 4294967296) : bits .and .u32 v 15 = v % 16 := by
  rw [u32_and v 15 h0 h1 (by omega) (by omega)]
  obtain ⟨n, rfl⟩ := Int.eq_ofNat_of_zero_le h0
  have := nat_mask4 n
  simp only [Int.toNat_natCast, Int.reduceToNat, this]; omega
/-- The digit in place k, of eight, the highest first. -/
def nib (v : Int) (k : Nat) : Nat := (v / (16 ^ (7 - k) : Nat) % 16).toNat
theorem nib_lt (v : Int) (k : Nat) : nib v k < 16 := by unfold nib; omega
theorem nib_0 {v : Int} (h0 : 0 ≤ v) (h1 : v < 4294967296) : bits .and .u32 (v / 268435456) 15 = (nib v 0 : Int) := by
  have e := and15 (v := v / 268435456) (by omega) (by omega)
  rw [e]; unfold nib; show v / 268435456 % 16 = _; omega
theorem nib_1 {v : Int} (h0 : 0 ≤ v) (h1 : v < 4294967296) : bits .and .u32 (v / 16777216) 15 = (nib v 1 : Int) := by
  have e := and15 (v := v / 16777216) (by omega) (by omega)
  rw [e]; unfold nib; show v / 16777216 % 16 = _; omega
theorem nib_2 {v : Int} (h0 : 0 ≤ v) (h1 : v < 4294967296) : bits .and .u32 (v / 1048576) 15 = (nib v 2 : Int) := by
  have e := and15 (v := v / 1048576) (by omega) (by omega)
  rw [e]; unfold nib; show v / 1048576 % 16 = _; omega
theorem nib_3 {v : Int} (h0 : 0 ≤ v) (h1 : v < 4294967296) : bits .and .u32 (v / 65536) 15 = (nib v 3 : Int) := by
  have e := and15 (v := v / 65536) (by omega) (by omega)
  rw [e]; unfold nib; show v / 65536 % 16 = _; omega
theorem nib_4 {v : Int} (h0 : 0 ≤ v) (h1 : v < 4294967296) : bits .and .u32 (v / 4096) 15 = (nib v 4 : Int) := by
  have e := and15 (v := v / 4096) (by omega) (by omega)
  rw [e]; unfold nib; show v / 4096 % 16 = _; omega
theorem nib_5 {v : Int} (h0 : 0 ≤ v) (h1 : v < 4294967296) : bits .and .u32 (v / 256) 15 = (nib v 5 : Int) := by
  have e := and15 (v := v / 256) (by omega) (by omega)
  rw [e]; unfold nib; show v / 256 % 16 = _; omega
theorem nib_6 {v : Int} (h0 : 0 ≤ v) (h1 : v < 4294967296) : bits .and .u32 (v / 16) 15 = (nib v 6 : Int) := by
  have e := and15 (v := v / 16) (by omega) (by omega)
  rw [e]; unfold nib; show v / 16 % 16 = _; omega
theorem nib_7 {v : Int} (h0 : 0 ≤ v) (h1 : v < 4294967296) : bits .and .u32 (v) 15 = (nib v 7 : Int) := by
  have e := and15 (v := v) (by omega) (by omega)
  rw [e]; unfold nib; show v % 16 = ((v / 1 % 16).toNat : Int); omega
def showI (v : Int) : List Int := [48, 120, dch (nib v 0), dch (nib v 1), dch (nib v 2), dch (nib v 3), dch (nib v 4), dch (nib v 5), dch (nib v 6), dch (nib v 7)]
theorem dch_bd {i : Nat} (h : i < 16) : 48 ≤ dch i ∧ dch i ≤ 102 := by unfold dch; split <;> omega
theorem showI_bd (v : Int) : ∀ c ∈ showI v, 48 ≤ c ∧ c ≤ 120 := by
  intro c hc
  have b : ∀ k, 48 ≤ dch (nib v k) ∧ dch (nib v k) ≤ 102 := fun k => dch_bd (nib_lt v k)
  simp only [showI, List.mem_cons, List.not_mem_nil, or_false] at hc
  rcases hc with rfl | rfl | rfl | rfl | rfl | rfl | rfl | rfl | rfl | rfl <;> first | omega | (have := b 0; omega) | (have := b 1; omega) | (have := b 2; omega) | (have := b 3; omega) | (have := b 4; omega) | (have := b 5; omega) | (have := b 6; omega) | (have := b 7; omega)
def showF (v : Int) : List UInt8 := (showI v).map (fun c => UInt8.ofNat c.toNat)
theorem showF_len (v : Int) : (showF v).length = 10 := rfl
theorem showF_at (v : Int) {j : Nat} (hj : j < (showF v).length) : ((showF v)[j].toNat : Int) = (showI v).getD j 0 := by
  have hj' : j < (showI v).length := by simpa [showF] using hj
  have hb := showI_bd v (showI v)[j] (List.getElem_mem hj')
  simp only [showF, List.getElem_map, List.getD_eq_getElem?_getD, List.getElem?_eq_getElem hj', Option.getD_some]
  simp only [UInt8.toNat_ofNat']
  omega
end Go.Proofs.YtmdepkehpohgeaaGreat.Word
/- Contracts of the small functions of package word: Add, Sub, Size, Low. -/
namespace Go.Proofs.YtmdepkehpohgeaaGreat.Word
open Go.RowKit

theorem ret_one {k : IntKind} {a b : Int} (h : a = b) : Ending.returned (.int k a) = .returned (.int k b) := by rw [h]
theorem ret_int_bool {k : IntKind} {a b : Int} {x y : Bool} (h : a = b) (g : x = y) : Ending.returned (.tuple #[.int k a, .bool x]) = .returned (.tuple #[.int k b, .bool y]) := by rw [h, g]

theorem ret_bool {x y : Bool} (h : x = y) : Ending.returned (.bool x) = .returned (.bool y) := by rw [h]

end Go.Proofs.YtmdepkehpohgeaaGreat.Word
/- Contracts of package word: Bytes, Of; of septumkit: SameBytes. -/
namespace Go.Proofs.YtmdepkehpohgeaaGreat.Word
open Go.RowKit
set_option linter.unusedVariables false

theorem make1 (w : World) : (Instr.makeSlice 166 (.int .i64 1) (.int .i64 1)).run Tryz.prog w = .ok (.slice (some ⟨w.heap.size, 0, none⟩) 1 1) (w.alloc (.cells #[.int .u8 0] 5)) := by kernel_rfl
theorem make2 (w : World) : (Instr.makeSlice 166 (.int .i64 2) (.int .i64 2)).run Tryz.prog w = .ok (.slice (some ⟨w.heap.size, 0, none⟩) 2 2) (w.alloc (.cells #[.int .u8 0, .int .u8 0] 5)) := by kernel_rfl
theorem make4 (w : World) : (Instr.makeSlice 166 (.int .i64 4) (.int .i64 4)).run Tryz.prog w = .ok (.slice (some ⟨w.heap.size, 0, none⟩) 4 4) (w.alloc (.cells #[.int .u8 0, .int .u8 0, .int .u8 0, .int .u8 0] 5)) := by kernel_rfl

/-- A row of integers in memory reads as l (where l is empty nothing is asked). -/
def Reads (w : World) (k : IntKind) (a : Option Addr) (l : List Int) : Prop :=
  l = [] ∨ ∃ b off, a = some ⟨b, off, none⟩ ∧ ∀ i, i < l.length → w.cell? ⟨b, off + i, none⟩ = some (.int k (l.getD i 0))

end Go.Proofs.YtmdepkehpohgeaaGreat.Word
/- Contracts of package word's numerals: the digit's closure, number, Parse. -/
namespace Go.Proofs.YtmdepkehpohgeaaGreat.Word
open Go.RowKit Go.PlainAid
set_option linter.unusedVariables false

theorem cell_old {w : World} {a : Addr} {v : Value} (o : Obj) (h : w.cell? a = some v) : (w.alloc o).cell? a = some v := by
  have hb : a.block < w.heap.size := by
    simp only [World.cell?] at h
    cases hh : w.heap[a.block]? with
    | none => rw [hh] at h; cases h
    | some o => exact (Array.getElem?_eq_some_iff.1 hh).1
  rw [World.cell?_of_block (w := w) (Below.heap_alloc w o a.block hb)]
  exact h
end Go.Proofs.YtmdepkehpohgeaaGreat.Word
/- Contracts of package word's Parse. -/
namespace Go.Proofs.YtmdepkehpohgeaaGreat.Word
open Go.RowKit Go.PlainAid
set_option linter.unusedVariables false

def decF (s : ByteArray) : Option Int := if 1 < s.size ∧ bt s 0 = 48 then none else numF 10 (bts s)
def hexF (s : ByteArray) : Option Int := if 8 < s.size then none else numF 16 (bts s)
end Go.Proofs.YtmdepkehpohgeaaGreat.Word
/- Contracts of package word's Show. -/
namespace Go.Proofs.YtmdepkehpohgeaaGreat.Word
open Go.RowKit Go.PlainAid Go.Maps
set_option linter.unusedVariables false

theorem info_u8 : (Tryz.prog.info? 5).map (fun i => (i.zero, i.size, i.bytes)) = some (some (.int .u8 0), 1, 1) := by kernel_rfl

/-- A row of bytes of the call's own. -/
def Owns (w : World) (base : Nat) (v : Value) (l : List Int) : Prop := w.ownsRow base 5 1 v l.length (l.map (Value.int .u8))

/-- What a round of Show keeps. -/
def ShowRel (v : Int) (w wr : World) (k : Nat) (s : Value) : Prop :=
  Below w.heap.size w wr ∧ w.heap.size + 1 ≤ wr.heap.size ∧
  ((k = 0 ∧ s = .slice (some ⟨w.heap.size, 0, none⟩) 2 2 ∧ wr.cell? ⟨w.heap.size, 0, none⟩ = some (.int .u8 48) ∧ wr.cell? ⟨w.heap.size, 1, none⟩ = some (.int .u8 120)) ∨
   (1 ≤ k ∧ wr.ownsRow (w.heap.size + 1) 5 1 s (2 + k) (((showI v).take (2 + k)).map (Value.int .u8))))

theorem show_start (v : Int) (w : World) : ShowRel v w (w.alloc (.cells #[.int .u8 48, .int .u8 120] 5 (2, 3))) 0 (.slice (some ⟨w.heap.size, 0, none⟩) 2 2) :=
  ⟨(Below.refl _ _).alloc (Nat.le_refl _) _, by simp, .inl ⟨rfl, rfl, World.cell?_alloc_mark _ _ _ _ _, World.cell?_alloc_mark _ _ _ _ _⟩⟩

theorem show_at (v : Int) {k : Nat} (hk : k < 8) : (showI v)[2 + k]? = some (dch (nib v k)) := by
  have hcase : k = 0 ∨ k = 1 ∨ k = 2 ∨ k = 3 ∨ k = 4 ∨ k = 5 ∨ k = 6 ∨ k = 7 := by omega
  rcases hcase with rfl | rfl | rfl | rfl | rfl | rfl | rfl | rfl <;> rfl
theorem show_take (v : Int) {k : Nat} (hk : k < 8) : ((showI v).take (2 + k)).map (Value.int .u8) ++ [Value.int .u8 (dch (nib v k))] = ((showI v).take (2 + (k + 1))).map (Value.int .u8) := by
  rw [show 2 + (k + 1) = (2 + k) + 1 from by omega, List.take_add_one, show_at v hk, List.map_append]
  rfl
theorem show_step0 (v : Int) (w wr w1 : World) (v' : Value) (x : Int) (hb : Below w.heap.size w wr) (hsz : w.heap.size + 1 ≤ wr.heap.size)
    (hown1 : w1.ownsRow (wr.alloc (.cells #[.int .u8 x] 5)).heap.size 5 1 v' (2 + 1) ([Value.int .u8 48, .int .u8 120] ++ [.int .u8 x]))
    (hgrow : (wr.alloc (.cells #[.int .u8 x] 5)).grownBy w1 none) (hx : dch (nib v 0) = x) : ShowRel v w w1 1 v' := by
  subst hx
  have hb2 := (hb.alloc (by omega) (.cells #[.int .u8 (dch (nib v 0))] 5)).grown hgrow (by simp; omega) (fun k h => by cases h)
  have hs := hgrow.size
  simp at hs
  refine ⟨hb2, by omega, .inr ⟨Nat.le_refl _, hown1.1, ?_⟩⟩
  rcases hown1.2 with h | ⟨g, cap, cur, e, hg, r⟩
  · exact .inl h
  · exact .inr ⟨g, cap, cur, e, by simp at hg; omega, r⟩
theorem show_step (v : Int) (w wr w1 : World) (s v' : Value) (x : Int) (k : Nat) (hk : 1 ≤ k) (hk8 : k < 8) (hb : Below w.heap.size w wr) (hsz : w.heap.size + 1 ≤ wr.heap.size)
    (hown : wr.ownsRow (w.heap.size + 1) 5 1 s (2 + k) (((showI v).take (2 + k)).map (Value.int .u8)))
    (hown1 : w1.ownsRow (w.heap.size + 1) 5 1 v' (2 + k + 1) (((showI v).take (2 + k)).map (Value.int .u8) ++ [.int .u8 x]))
    (hgrow : (wr.alloc (.cells #[.int .u8 x] 5)).grownBy w1 s.ownBlock) (hx : dch (nib v k) = x) : ShowRel v w w1 (k + 1) v' := by
  subst hx
  have hb2 := (hb.alloc (by omega) (.cells #[.int .u8 (dch (nib v k))] 5)).grown hgrow (by simp; omega) (fun j h => by have := (hown.lt j h).1; omega)
  have hs := hgrow.size
  simp at hs
  refine ⟨hb2, by omega, .inr ⟨by omega, ?_⟩⟩
  rw [← show_take v hk8]
  exact hown1
theorem show_end (v : Int) (w wr : World) (s : Value) (hown : wr.ownsRow (w.heap.size + 1) 5 1 s (2 + 8) (((showI v).take (2 + 8)).map (Value.int .u8))) :
    ∃ g cap, s = .slice (some ⟨g, 0, none⟩) 10 cap ∧ ∀ j (hj : j < (showF v).length), wr.cell? ((⟨g, 0, none⟩ : Addr).add j) = some (.int .u8 ((showF v)[j].toNat : Int)) := by
  rcases hown.2 with ⟨_, h⟩ | ⟨g, cap, cur, rfl, _⟩
  · omega
  · refine ⟨g, cap, rfl, fun j hj => ?_⟩
    have hj' : j < 10 := hj
    have c := hown.cellAt j (by omega)
    rw [showF_at v hj]
    have e : ((⟨g, 0, none⟩ : Addr).add j) = ⟨g, j, none⟩ := by by_cases h0 : j = 0 <;> simp [Addr.add, h0]
    rw [e, c]
    have hl : (showI v).length = 10 := rfl
    rw [List.getElem?_map, List.take_of_length_le (by omega), List.getElem?_eq_getElem (by omega)]
    simp [List.getD_eq_getElem?_getD, List.getElem?_eq_getElem (show j < (showI v).length by omega)]

end Go.Proofs.YtmdepkehpohgeaaGreat.Word
/- The chapter's examples hold: awake. -/
namespace Go.Proofs.YtmdepkehpohgeaaGreat.Word
open Go.RowKit Go.PlainAid Go.Maps
set_option linter.unusedVariables false

theorem new_cells4 (w : World) (a b c d : Int) (t : TypeId) : ∀ i, i < 4 → (w.alloc (.cells #[.int .u8 a, .int .u8 b, .int .u8 c, .int .u8 d] t)).cell? ⟨w.heap.size, 0 + i, none⟩ = some (.int .u8 ([a, b, c, d].getD i 0)) := by
  intro i hi
  have h : i = 0 ∨ i = 1 ∨ i = 2 ∨ i = 3 := by omega
  rcases h with rfl | rfl | rfl | rfl <;> exact World.cell?_alloc_mark _ _ _ _ _
end Go.Proofs.YtmdepkehpohgeaaGreat.Word
/- What a walk is told of a slice of integers that came in; and how the given form's reading gives it. -/
namespace Go.Proofs.YtmdepkehpohgeaaGreat
open Go.ChangeShapes Go.WideShapes Go.ChangeAt Go.RowKit

/-- The slice (a, len) reads as the numbers l, each fitting its kind. -/
def Row (k : IntKind) (w : World) (a : Option Addr) (len : Nat) (l : List Int) : Prop :=
  l.length = len ∧ len ≤ maxLen ∧ (∀ c ∈ l, (Lit.int k c).wf = true) ∧
  (len = 0 ∨ ∃ b off, a = some ⟨b, off, none⟩ ∧ b < w.heap.size ∧ ∀ i, i < len → w.cell? ⟨b, off + i, none⟩ = some (.int k (l.getD i 0)))

theorem row_nil (k : IntKind) (w : World) : Row k w none 0 [] := ⟨rfl, Nat.zero_le _, (fun _ h => absurd h (by simp)), .inl rfl⟩

theorem row_of_ints {k : IntKind} {w : World} {x : Addr} {len cap : Nat} {zs : List Int} (hl : len ≤ cap) (hm : cap ≤ maxLen) (hz : zs.length = cap)
    (hcell : ∀ i, i < zs.length → w.cell? (x.add i) = some (.int k (zs.getD i 0))) (hwz : ∀ n ∈ zs, (Lit.int k n).wf = true) : Row k w (some x) len (zs.take len) := by
  refine ⟨by rw [List.length_take]; omega, by omega, fun c hc => hwz c (List.mem_of_mem_take hc), ?_⟩
  rcases Nat.eq_zero_or_pos len with h | h
  · exact .inl h
  · obtain ⟨b, off, rfl, hc⟩ := ints_at hcell (by omega)
    refine .inr ⟨b, off, rfl, World.block_lt_of_cell? w _ (hc 0 (by omega)), fun i hi => ?_⟩
    rw [hc i (by omega)]
    simp [List.getD_eq_getElem?_getD, hi]

theorem Row.below {k : IntKind} {w w' : World} {a : Option Addr} {len : Nat} {l : List Int} (h : Row k w a len l) (hb : Below w.heap.size w w') : Row k w' a len l := by
  obtain ⟨h1, h2, h3, h4⟩ := h
  refine ⟨h1, h2, h3, ?_⟩
  rcases h4 with h4 | ⟨b, off, rfl, hlt, hc⟩
  · exact .inl h4
  · exact .inr ⟨b, off, rfl, Nat.lt_of_lt_of_le hlt hb.size, fun i hi => by rw [hb.cell (p := ⟨b, off + i, none⟩) hlt]; exact hc i hi⟩
end Go.Proofs.YtmdepkehpohgeaaGreat
/- Plain mathematics of a word's bits: which are 1, in rising order; the least one. It imports nothing of the translation. -/
namespace Go.Proofs.YtmdepkehpohgeaaGreat.Word

/-- The numbers of the bits that are 1, rising. -/
def onesL (x : Nat) : List Nat := (List.range 32).filter fun i => x.testBit i
theorem onesL_zero : onesL 0 = [] := by decide
theorem onesL_mem {x i : Nat} : i ∈ onesL x ↔ i < 32 ∧ x.testBit i = true := by simp [onesL]
theorem onesL_len (x : Nat) : (onesL x).length ≤ 32 := by
  have := List.length_filter_le (fun i => x.testBit i) (List.range 32)
  simpa [onesL] using this
/-- Filtering a row of numbers: the first that passes, and the others. -/
theorem filter_first {p q : Nat → Bool} {k n : Nat} (hk : k < n) (hp : p k = true) (hlt : ∀ i, i < k → p i = false) (hq : ∀ i, i ≠ k → q i = p i) (hqk : q k = false) :
    (List.range n).filter p = k :: (List.range n).filter q := by
  obtain ⟨m, rfl⟩ : ∃ m, n = k + (1 + m) := ⟨n - k - 1, by omega⟩
  rw [List.range_add, List.range_add]
  have e1 : (List.range k).filter p = [] := by rw [List.filter_eq_nil_iff]; intro a ha; rw [hlt a (by simpa using ha)]; simp
  have e2 : (List.range k).filter q = [] := by
    rw [List.filter_eq_nil_iff]; intro a ha; have := hlt a (by simpa using ha)
    have h2 : a < k := by simpa using ha
    rw [hq a (by omega), this]; simp
  simp only [List.map_append, List.filter_append, e1, e2, List.nil_append]
  have e3 : (List.range 1).map (k + ·) = [k] := rfl
  rw [e3]
  have e4 : [k].filter p = [k] := by simp [hp]
  have e5 : [k].filter q = [] := by simp [hqk]
  rw [e4, e5, List.nil_append, List.singleton_append]
  congr 1
  refine List.filter_congr fun a ha => ?_
  simp only [List.mem_map] at ha
  obtain ⟨b, ⟨c, hc, rfl⟩, rfl⟩ := ha
  exact (hq _ (by omega)).symm
/-- x & (x - 1): all but the least 1. -/
theorem and_pred {x : Nat} (h0 : x ≠ 0) (h : x < 2 ^ 32) : x = 2 ^ Lib.ctz 32 x + (x &&& (x - 1)) ∧ (x &&& (x - 1)) < x ∧ (∀ i, (x &&& (x - 1)).testBit i = (x.testBit i && decide (i ≠ Lib.ctz 32 x))) ∧ x.testBit (Lib.ctz 32 x) = true ∧ ∀ i, i < Lib.ctz 32 x → x.testBit i = false := by
  obtain ⟨m, hm, hk⟩ := Lib.ctzFrom_spec 32 x (by omega) h
  have e : Lib.ctz 32 x = Lib.ctzFrom 32 x := by simp [Lib.ctz, h0]
  rw [e]
  generalize Lib.ctzFrom 32 x = k at *
  have hpos : 0 < 2 ^ k := Nat.pow_pos (by decide)
  have hx : x - 1 = 2 ^ k * (2 * m) + (2 ^ k - 1) := by rw [hm, Nat.mul_add, Nat.mul_one]; omega
  have hbx : ∀ i, x.testBit i = (decide (k ≤ i) && (2 * m + 1).testBit (i - k)) := fun i => by rw [hm, Nat.mul_comm, Nat.testBit_mul_two_pow]
  have hby : ∀ i, (2 ^ k * (2 * m)).testBit i = (decide (k ≤ i) && (2 * m).testBit (i - k)) := fun i => by rw [Nat.mul_comm, Nat.testBit_mul_two_pow]
  have hand : x &&& (x - 1) = 2 ^ k * (2 * m) := by
    apply Nat.eq_of_testBit_eq
    intro i
    rw [Nat.testBit_and, hbx, hby, hx, Nat.testBit_two_pow_mul_add _ (by omega)]
    by_cases hik : i < k
    · have hki : ¬ k ≤ i := by omega
      simp [hki]
    · have hki : k ≤ i := by omega
      simp only [hki, hik, decide_true, Bool.true_and, if_false]
      cases e : i - k with
      | zero => simp [Nat.testBit_zero]
      | succ j =>
        rw [Nat.testBit_succ, Nat.testBit_succ, show (2 * m + 1) / 2 = m by omega, show 2 * m / 2 = m by omega]
        simp
  rw [hand]
  refine ⟨by rw [hm]; rw [Nat.mul_add, Nat.mul_one]; omega, by rw [hm]; exact Nat.mul_lt_mul_of_pos_left (by omega) hpos, fun i => ?_, ?_, fun i hi => ?_⟩
  · rw [hbx, hby]
    by_cases hik : k ≤ i
    · simp only [hik, decide_true, Bool.true_and]
      cases e : i - k with
      | zero =>
        have : i = k := by omega
        simp [Nat.testBit_zero, this]
      | succ j =>
        rw [Nat.testBit_succ, Nat.testBit_succ, show (2 * m + 1) / 2 = m by omega, show 2 * m / 2 = m by omega]
        have : i ≠ k := by omega
        simp [this]
    · simp [hik]
  · rw [hbx]; simp [Nat.testBit_zero]
  · rw [hbx]; simp; omega
theorem onesL_step {x : Nat} (h0 : x ≠ 0) (h : x < 2 ^ 32) : onesL x = Lib.ctz 32 x :: onesL (x &&& (x - 1)) := by
  obtain ⟨_, _, h3, h4, h5⟩ := and_pred h0 h
  have hk := (Lib.lowest_bit 32 x h0 h).2
  exact filter_first hk h4 h5 (fun i hi => by rw [h3]; simp [hi]) (by rw [h3]; simp)
theorem onesL_ne {x : Nat} (h0 : x ≠ 0) (h : x < 2 ^ 32) : onesL x ≠ [] := by rw [onesL_step h0 h]; simp
/-- The sum of its bits is the word. -/
theorem onesL_sum : ∀ (n x : Nat), x < n → x < 2 ^ 32 → ((onesL x).map (2 ^ ·)).sum = x
  | 0, _, h, _ => by omega
  | n + 1, x, hn, h => by
    by_cases h0 : x = 0
    · subst h0; rw [onesL_zero]; rfl
    · obtain ⟨h1, h2, _⟩ := and_pred h0 h
      rw [onesL_step h0 h, List.map_cons, List.sum_cons, onesL_sum n _ (by omega) (by omega)]
      exact h1.symm
theorem onesL_rising (x : Nat) : (onesL x).Pairwise (· < ·) := List.Pairwise.filter _ List.pairwise_lt_range
theorem tz_key (x a : Nat) (hx : x < 4294967296) (hlow : x &&& (4294967296 - x) = a) (h0 : x ≠ 0) :
    bits BinOp.and IntKind.u32 (x : Int) (-(x : Int) % 4294967296) * 125613361 % 4294967296 / 134217728 = ((a * 125613361 % 4294967296 / 134217728 : Nat) : Int) := by
  have e1 : -(x : Int) % 4294967296 = ((4294967296 - x : Nat) : Int) := by omega
  rw [e1, u32_and_nat x _ hx (by omega), hlow]
  omega
theorem pred_and (x : Nat) (hx : x < 4294967296) (h0 : x ≠ 0) : bits BinOp.and IntKind.u32 (x : Int) ((x : Int) - 1) = ((x &&& (x - 1) : Nat) : Int) := by
  rw [show ((x : Int) - 1) = ((x - 1 : Nat) : Int) from by omega, u32_and_nat x _ hx (by omega)]

/-- The sum of the first k bits. -/
def psum (l : List Nat) (k : Nat) : Nat := ((l.take k).map (2 ^ ·)).sum
theorem psum_succ {l : List Nat} {k : Nat} (h : k < l.length) : psum l (k + 1) = psum l k + 2 ^ l.getD k 0 := by
  unfold psum
  rw [List.take_add_one, List.getElem?_eq_getElem h, List.map_append, List.sum_append]
  simp [List.getD_eq_getElem?_getD, h]
theorem psum_all (l : List Nat) {k : Nat} (h : l.length ≤ k) : psum l k = (l.map (2 ^ ·)).sum := by unfold psum; rw [List.take_of_length_le h]
theorem psum_mono (l : List Nat) : ∀ (n k : Nat), psum l k ≤ psum l (k + n)
  | 0, k => Nat.le_refl _
  | n + 1, k => by
    refine Nat.le_trans (psum_mono l n k) ?_
    by_cases h : k + n < l.length
    · rw [← Nat.add_assoc, psum_succ h]; exact Nat.le_add_right _ _
    · rw [psum_all l (k := k + n) (by omega), psum_all l (k := k + (n + 1)) (by omega)]; exact Nat.le_refl _
theorem psum_le (x k : Nat) (hx : x < 4294967296) : psum (onesL x) k ≤ x := by
  have h1 := psum_mono (onesL x) (onesL x).length k
  rw [psum_all (onesL x) (k := k + (onesL x).length) (by omega), onesL_sum (x + 1) x (by omega) (by omega)] at h1
  exact h1
theorem psum_end (x : Nat) (hx : x < 4294967296) : psum (onesL x) (onesL x).length = x := by
  rw [psum_all _ (Nat.le_refl _), onesL_sum (x + 1) x (by omega) (by omega)]
theorem onesL_at (x : Nat) {k : Nat} (h : k < (onesL x).length) : (onesL x).getD k 0 ≤ 31 := by
  have : (onesL x).getD k 0 ∈ onesL x := by simp [List.getD_eq_getElem?_getD, h]
  have := (onesL_mem.1 this).1
  omega
theorem onesL_lt (x : Nat) {k : Nat} (h : k + 1 < (onesL x).length) : (onesL x).getD k 0 < (onesL x).getD (k + 1) 0 := by
  have := (List.pairwise_iff_getElem.1 (onesL_rising x)) k (k + 1) (by omega) h (by omega)
  simpa [List.getD_eq_getElem?_getD, h, show k < (onesL x).length by omega] using this
theorem sum_wrap {sv y : Nat} (h : sv + 2 ^ y < 4294967296) : ((sv : Int) + 2 ^ y % 4294967296) % 4294967296 = ((sv + 2 ^ y : Nat) : Int) := by
  have e : (2 : Int) ^ y = ((2 ^ y : Nat) : Int) := by simp
  rw [e]
  generalize (2 : Nat) ^ y = p at *
  omega
end Go.Proofs.YtmdepkehpohgeaaGreat.Word
/- Contracts of package word's First and Ones: a range over a function. -/
namespace Go.Proofs.YtmdepkehpohgeaaGreat.Word
open Go.RowKit Go.Shelf
set_option linter.unusedVariables false
attribute [local go_sem] Oper.semAt_some

theorem info_int : (Tryz.prog.info? 3).map (fun i => (i.zero, i.size, i.bytes)) = some (some (.int .i64 0), 1, 8) := by kernel_rfl
/-- What Ones answers lies in new memory. -/
def OnesPost (x : Nat) (w : World) (e : Ending) (W' : World) : Prop := ∃ v, e = .returned v ∧ W'.ownsRow w.heap.size 3 1 v (onesL x).length ((onesL x).map (fun b => Value.int .i64 (b : Nat))) ∧ Below w.heap.size w W'

end Go.Proofs.YtmdepkehpohgeaaGreat.Word
/- Contract of package word's First: a range over a function whose body returns. -/
namespace Go.Proofs.YtmdepkehpohgeaaGreat.Word
open Go.RowKit Go.Shelf
set_option linter.unusedVariables false
attribute [local go_sem] Oper.semAt_some

def firstV (x : Nat) : Nat := if x = 0 then 0 else Lib.ctz 32 x
def firstB (x : Nat) : Bool := decide (x ≠ 0)
theorem firstV_head {x b : Nat} {r : List Nat} (hx : x < 4294967296) (h : onesL x = b :: r) : firstV x = b ∧ firstB x = true := by
  by_cases h0 : x = 0
  · subst h0; rw [onesL_zero] at h; cases h
  · rw [onesL_step h0 (by omega)] at h
    simp only [List.cons.injEq] at h
    exact ⟨by unfold firstV; rw [if_neg h0]; exact h.1, by simp [firstB, h0]⟩
theorem firstV_nil {x : Nat} (hx : x < 4294967296) (h : onesL x = []) : firstV x = 0 ∧ firstB x = false := by
  by_cases h0 : x = 0
  · subst h0; exact ⟨rfl, rfl⟩
  · exact absurd h (onesL_ne h0 (by omega))

end Go.Proofs.YtmdepkehpohgeaaGreat.Word
/- The kit's bag: asked whether all lie apart, where one kind alone has lists. -/
namespace Go.Proofs.YtmdepkehpohgeaaGreat.Kit
open Go.RowKit
set_option linter.unusedVariables false

/-- Of what was there nothing has turned but the blocks that S names. -/
structure Only (S : Nat → Prop) (w w' : World) : Prop where
  os : w'.os = w.os
  tape : w'.tape = w.tape
  output : w'.output = w.output
  size : w.heap.size ≤ w'.heap.size
  block : ∀ k, k < w.heap.size → ¬ S k → w'.heap[k]? = w.heap[k]?
theorem Only.refl (S : Nat → Prop) (w : World) : Only S w w := ⟨rfl, rfl, rfl, Nat.le_refl _, fun _ _ _ => rfl⟩
theorem Only.trans {S : Nat → Prop} {a b c : World} (h : Only S a b) (k : Only S b c) : Only S a c :=
  ⟨k.os.trans h.os, k.tape.trans h.tape, k.output.trans h.output, Nat.le_trans h.size k.size, fun i hi hn => (k.block i (Nat.lt_of_lt_of_le hi h.size) hn).trans (h.block i hi hn)⟩
theorem Only.of_below {S : Nat → Prop} {w w' : World} (h : Below w.heap.size w w') : Only S w w' := ⟨h.os, h.tape, h.output, h.size, fun k hk _ => h.block k hk⟩
theorem Only.below {S : Nat → Prop} {B : Nat} {w w' : World} (h : Only S w w') (hB : B ≤ w.heap.size) (hS : ∀ k, S k → B ≤ k) : Below B w w' :=
  ⟨h.os, h.tape, h.output, h.size, fun k hk => h.block k (by omega) (fun hs => by have := hS k hs; omega)⟩
theorem Only.cell {S : Nat → Prop} {w w' : World} (h : Only S w w') {p : Addr} {v : Value} (hn : ¬ S p.block) (hc : w.cell? p = some v) : w'.cell? p = some v := by
  rw [World.cell?_of_block (w := w) (h.block p.block (World.block_lt_of_cell? w _ hc) hn)]
  exact hc
theorem Only.mono {S T : Nat → Prop} {w w' : World} (h : Only S w w') (hs : ∀ k, k < w.heap.size → S k → T k) : Only T w w' :=
  ⟨h.os, h.tape, h.output, h.size, fun k hk hn => h.block k hk (fun hS => hn (hs k hk hS))⟩

end Go.Proofs.YtmdepkehpohgeaaGreat.Kit
/- What a step has turned: more laws. -/
namespace Go.Proofs.YtmdepkehpohgeaaGreat.Kit
open Go.RowKit
/-- The one block of an address. -/
def SA (a : Option Addr) : Nat → Prop := fun k => ∃ b, a = some b ∧ b.block = k
theorem Only.drew {S : Nat → Prop} {w w' : World} (h : Only S w w') : Only S w w'.drew := ⟨h.os, h.tape, h.output, h.size, h.block⟩
theorem Only.drewN {S : Nat → Prop} {w w' : World} (h : Only S w w') (n : Nat) : Only S w (w'.drewN n) := ⟨h.os, h.tape, h.output, h.size, h.block⟩
theorem Only.grown {S : Nat → Prop} {w w' w1 : World} {row : Option Nat} (h : Only S w w') (hg : w'.grownBy w1 row) (hr : ∀ k, row = some k → S k ∨ w.heap.size ≤ k) : Only S w w1 :=
  ⟨hg.os.trans h.os, hg.tape.trans h.tape, hg.output.trans h.output, Nat.le_trans h.size hg.size, fun k hk hn => (hg.block k (Nat.lt_of_lt_of_le hk h.size) (fun e => (hr k e.symm).elim hn (fun hle => by omega))).trans (h.block k hk hn)⟩
theorem Only.heap {S : Nat → Prop} {w w' : World} (h : Only S w w') {k : Nat} {o : Obj} (hk : w.heap[k]? = some o) (hn : ¬ S k) : w'.heap[k]? = some o :=
  (h.block k (Array.getElem?_eq_some_iff.1 hk).1 hn).trans hk
theorem Only.far {S T : Nat → Prop} {w w' w1 : World} (h : Only S w w') (ho : Only T w' w1) (hT : ∀ k, T k → w.heap.size ≤ k) : Only S w w1 :=
  ⟨ho.os.trans h.os, ho.tape.trans h.tape, ho.output.trans h.output, Nat.le_trans h.size ho.size, fun k hk hn => (ho.block k (Nat.lt_of_lt_of_le hk h.size) (fun e => by have := hT k e; omega)).trans (h.block k hk hn)⟩
theorem Only.weak {T : Nat → Prop} {w w' : World} (h : Only T w w') (hT : ∀ k, T k → w.heap.size ≤ k) : Only (fun _ => False) w w' :=
  ⟨h.os, h.tape, h.output, h.size, fun k hk _ => h.block k hk (fun e => by have := hT k e; omega)⟩
end Go.Proofs.YtmdepkehpohgeaaGreat.Kit
/- The kit's apartness of two lists of int: marks, rows, and what each step keeps. -/
namespace Go.Proofs.YtmdepkehpohgeaaGreat.KitInts
open Go.RowKit Go.Maps Go.Proofs.YtmdepkehpohgeaaGreat.Kit
set_option linter.unusedVariables false

/-- The mark of a place. -/
def mk (k i : Int) : Int := 1000003 * (k + 7) + i
theorem mark_any (k i : Int) (w : World) (h0 : 0 ≤ k) (h1 : k ≤ 1000) (h2 : 0 ≤ i) (h3 : i ≤ 4611686018427387904) :
    Calls Tryz.prog 56 #[.int .i64 k, .int .i64 i] w fun e w' => e = .returned (.int .i64 (mk k i)) ∧ w = w' := by
  go_enter Tryz.func56, Tryz.ntmps56
  go_wp2
  go_ret
  exact ⟨rfl, rfl⟩

theorem info_e : (Tryz.prog.info? 3).map (fun i => (i.zero, i.size, i.bytes)) = some (some (.int .i64 0), 1, 8) := by kernel_rfl
theorem make_ll (w : World) : (Instr.makeSlice 106 (.int .i64 2) (.int .i64 2)).run Tryz.prog w = .ok (.slice (some ⟨w.heap.size, 0, none⟩) 2 2) (w.alloc (.cells #[.slice none 0 0, .slice none 0 0] 41)) := by kernel_rfl
def marks (k : Int) (n : Nat) : List Value := (List.range n).map fun j => Value.int .i64 (mk k (j : Nat))
theorem marks_len (k : Int) (n : Nat) : (marks k n).length = n := by simp [marks]
theorem marks_succ (k : Int) (n : Nat) : marks k (n + 1) = marks k n ++ [.int .i64 (mk k (n : Nat))] := by simp [marks, List.range_succ]
theorem marks_at (k : Int) {n j : Nat} (h : j < n) : (marks k n)[j]? = some (.int .i64 (mk k (j : Nat))) := by simp [marks, h]
theorem marks_take (k : Int) {n m : Nat} (h : m ≤ n) : (marks k n).take m = marks k m := by
  unfold marks
  rw [← List.map_take, List.take_range, Nat.min_eq_left h]
theorem marks_plus (k : Int) (n j : Nat) : marks k (n + j) ++ [.int .i64 (mk k ((n : Int) + (j : Int)))] = marks k (n + (j + 1)) := by
  rw [← Nat.add_assoc, marks_succ]; simp
theorem set_mark (k : Int) (i : Nat) (xs : List Value) (h : i < xs.length) : (marks k i ++ xs.drop i).set i (.int .i64 (mk k (i : Nat))) = marks k (i + 1) ++ xs.drop (i + 1) := by
  rw [List.set_append_right _ _ (by rw [marks_len]; exact Nat.le_refl _), marks_len, Nat.sub_self, List.drop_eq_getElem_cons h, List.set_cons_zero, marks_succ, List.append_assoc]
  rfl

abbrev R (w : World) (a : Option Addr) (n c : Nat) (L : List Value) : Prop := w.ownsRow 0 3 1 (.slice a n c) n L
theorem own_only {S : Nat → Prop} {w w' : World} {b : Nat} {v : Value} {n : Nat} {L : List Value} (h : w.ownsRow b 3 1 v n L) (ho : Only S w w') (hn : ∀ k, v.ownBlock = some k → ¬ S k) : w'.ownsRow b 3 1 v n L := by
  refine ⟨h.1, ?_⟩
  rcases h.2 with h2 | ⟨g, cap, cur, rfl, hg, hh, r⟩
  · exact .inl h2
  · exact .inr ⟨g, cap, cur, rfl, hg, ho.heap hh (hn g rfl), r⟩
theorem own_base {w : World} {b b' : Nat} {v : Value} {n : Nat} {L : List Value} (h : w.ownsRow b 3 1 v n L) (hb : b' ≤ b) : w.ownsRow b' 3 1 v n L := by
  refine ⟨h.1, ?_⟩
  rcases h.2 with h2 | ⟨g, cap, cur, rfl, hg, r⟩
  · exact .inl h2
  · exact .inr ⟨g, cap, cur, rfl, by omega, r⟩
/-- A shorter slice over the same row. -/
theorem own_prefix {w : World} {b : Nat} {g n m c : Nat} {L : List Value} (h : w.ownsRow b 3 1 (.slice (some ⟨g, 0, none⟩) m c) m L) (hn : n ≤ m) : w.ownsRow b 3 1 (.slice (some ⟨g, 0, none⟩) n c) n (L.take n) := by
  rcases h.2 with ⟨h2, _⟩ | ⟨g', cap, cur, e, hg, hh, hc, hm, hs, ht⟩
  · cases h2
  · simp only [Value.slice.injEq, Option.some.injEq, Addr.mk.injEq, and_true, true_and] at e
    obtain ⟨rfl, rfl⟩ := e
    refine ⟨by rw [List.length_take, h.1]; omega, .inr ⟨g, c, cur, rfl, hg, hh, by omega, hm, hs, ?_⟩⟩
    rw [← ht, List.take_take]
    congr 1
    omega
theorem r_some {w : World} {b : Nat} {a : Option Addr} {n c : Nat} {L : List Value} (h : w.ownsRow b 3 1 (.slice a n c) n L) (hn : 0 < n ∨ 0 < c) : ∃ g, a = some ⟨g, 0, none⟩ := by
  rcases h.2 with ⟨h2, h0⟩ | ⟨g, cap, cur, h2, _⟩
  · simp only [Value.slice.injEq] at h2; omega
  · exact ⟨g, by injection h2⟩
theorem r_cell {w : World} {b : Nat} {g n c j : Nat} {L : List Value} (h : w.ownsRow b 3 1 (.slice (some ⟨g, 0, none⟩) n c) n L) (hj : j < n) : w.cell? ⟨g, j, none⟩ = L[j]? := h.cellAt j (by omega)
theorem r_le {w : World} {b : Nat} {a : Option Addr} {n c : Nat} {L : List Value} (h : w.ownsRow b 3 1 (.slice a n c) n L) : n ≤ c := by
  rcases h.2 with ⟨h2, h0⟩ | ⟨g, cap, cur, h2, _, _, hc, _⟩
  · omega
  · simp only [Value.slice.injEq] at h2; omega
theorem r_max {w : World} {b : Nat} {a : Option Addr} {n c : Nat} {L : List Value} (h : w.ownsRow b 3 1 (.slice a n c) n L) : c ≤ maxLen := by
  rcases h.2 with ⟨h2, h0⟩ | ⟨g, cap, cur, h2, _, _, hc, hm, _⟩
  · simp only [Value.slice.injEq] at h2; omega
  · simp only [Value.slice.injEq] at h2; omega
theorem r_lt {w : World} {b : Nat} {a : Option Addr} {n c : Nat} {L : List Value} (h : w.ownsRow b 3 1 (.slice a n c) n L) : ∀ k, SA a k → b ≤ k ∧ k < w.heap.size := by
  rintro k ⟨x, rfl, rfl⟩
  rcases h.2 with ⟨h2, _⟩ | ⟨g, cap, cur, h2, hg, hh, _⟩
  · cases h2
  · simp only [Value.slice.injEq, Option.some.injEq] at h2
    obtain ⟨rfl, _⟩ := h2
    exact ⟨hg, (Array.getElem?_eq_some_iff.1 hh).1⟩
theorem r_cells {w : World} {b : Nat} {a : Option Addr} {n c : Nat} {L : List Value} (h : w.ownsRow b 3 1 (.slice a n c) n L) : ∀ x, a = some x → ∀ j u, L[j]? = some u → w.cell? (x.add j) = some u := by
  rintro x rfl j u hu
  rcases h.2 with ⟨h2, _⟩ | ⟨g, cap, cur, h2, hg, hh, _⟩
  · cases h2
  · simp only [Value.slice.injEq, Option.some.injEq] at h2
    obtain ⟨rfl, _⟩ := h2
    exact h.cells rfl j u hu
/-- What the growing slice is: still over the list's row, or an own row from base on. -/
def G2 (base : Nat) (w : World) (a : Option Addr) (n c : Nat) (k : Int) (j : Nat) (gv : Value) : Prop :=
  (gv = .slice a (n + j) c ∧ w.ownsRow 0 3 1 (.slice a (n + j) c) (n + j) (marks k (n + j))) ∨
  (∃ g' c', gv = .slice (some ⟨g', 0, none⟩) (n + j) c' ∧ w.ownsRow base 3 1 (.slice (some ⟨g', 0, none⟩) (n + j) c') (n + j) (marks k (n + j)))
theorem own_sa {a : Option Addr} {n c : Nat} {S : Nat → Prop} (h : ∀ k, SA a k → ¬ S k) : ∀ k, (Value.slice a n c).ownBlock = some k → ¬ S k := by
  intro k hk
  cases a with
  | none => cases hk
  | some b => exact h k ⟨b, rfl, by simpa [Value.ownBlock] using hk⟩
/-- A mark is stored. -/
theorem r_store {w : World} {g n c j : Nat} {L : List Value} (h : R w (some ⟨g, 0, none⟩) n c L) (u : Value) : R (w.setCell ⟨g, j, none⟩ u).drew (some ⟨g, 0, none⟩) n c (L.set j u) ∧ Only (SA (some ⟨g, 0, none⟩)) w (w.setCell ⟨g, j, none⟩ u).drew := by
  obtain ⟨h1, h2⟩ := h.stored j u
  exact ⟨h1, ((Only.refl _ w).grown h2 (fun k e => .inl ⟨⟨g, 0, none⟩, rfl, by cases e; rfl⟩)).drew⟩

theorem r_store0 {w : World} {g n c j : Nat} {L : List Value} (h : R w (some ⟨g, 0, none⟩) n c L) (u : Value) : R (w.setCell ⟨g, j, none⟩ u) (some ⟨g, 0, none⟩) n c (L.set j u) ∧ Only (SA (some ⟨g, 0, none⟩)) w (w.setCell ⟨g, j, none⟩ u) := by
  obtain ⟨h1, h2⟩ := h.stored j u
  exact ⟨h1, (Only.refl _ w).grown h2 (fun k e => .inl ⟨⟨g, 0, none⟩, rfl, by cases e; rfl⟩)⟩
theorem own_pos {w : World} {b m : Nat} {v : Value} {L : List Value} (h : w.ownsRow b 3 1 v m L) (hm : 0 < m) : ∃ g c, v = .slice (some ⟨g, 0, none⟩) m c := by
  rcases h.2 with ⟨_, h0⟩ | ⟨g, cap, _, rfl, _⟩
  · omega
  · exact ⟨g, cap, rfl⟩
/-- append(s, many...), whether it stays or moves: the old slice reads as it did. -/
theorem append_any {ops : Array Oper} {rest : List Oper} {o : Oper} {a : Act} {Q : Exit → Act → World → Prop} (w : World) (hg : o.guard = none) (s x : Operand) (hop : o.op = Op.call { callee := Callee.builtin Builtin.append, args := #[s, x], argTypes := #[41, 41] })
    (aa : Option Addr) (n c : Nat) (olds : List Value) (hs : a.eval s = .slice aa n c) (hR : R w aa n c olds)
    (M m : Nat) (news : List Value) (hx : a.eval x = .slice (some ⟨M, 0, none⟩) m m) (hn : news.length = m) (hc : ∀ j u, news[j]? = some u → w.cell? ((⟨M, 0, none⟩ : Addr).add j) = some u) (h1c : ∀ u ∈ news, u.oneCell' = true)
    (hm : 0 < m) (hb : n + m ≤ 16777216)
    (hK : ∀ g' c' w', w'.ownsRow 0 3 1 (.slice (some ⟨g', 0, none⟩) (n + m) c') (n + m) (olds ++ news) → R w' aa n c olds → Only (SA aa) w w' → (SA aa g' ∨ w.heap.size ≤ g') → wpList Tryz.prog ops Q rest (a.put o.dst (.slice (some ⟨g', 0, none⟩) (n + m) c')) w') :
    wpList Tryz.prog ops Q (o :: rest) a w := by
  obtain ⟨i0, hi, hz0, hz1, hz2⟩ := info_parts info_e
  have hol := hR.1
  by_cases hroom : n + m ≤ c
  · obtain ⟨g, rfl⟩ := r_some hR (.inr (by omega))
    refine wpList_append_fits w hg s x 41 hop 0 3 i0 1 Tryz.underlying41 hi hz1 g n c olds hs hR ⟨M, 0, none⟩ m m news hx (by omega) hc h1c hroom ?_
    intro w' hown hgrow
    refine hK g c w' hown ?_ ?_ (.inl ⟨_, rfl, rfl⟩)
    · have := own_prefix (n := n) hown (by omega)
      rwa [List.take_left' (by omega)] at this
    · exact (Only.refl _ w).grown hgrow (fun k e => .inl ⟨⟨g, 0, none⟩, rfl, by cases e; rfl⟩)
  · refine wpList_append_grows w hg s x 41 hop 3 i0 (.int .i64 0) 1 8 Tryz.underlying41 hi hz0 hz1 hz2 rfl (by decide) aa n c olds hs (fun h => ?_) (by omega) (r_cells hR) ⟨M, 0, none⟩ m m news hx (by omega) hc h1c (by omega) (by unfold maxLen; omega) (by omega) ?_
    · rcases hR.2 with ⟨h2, h0⟩ | ⟨g, cap, cur, h2, _⟩
      · simp only [Value.slice.injEq] at h2; omega
      · rw [h] at h2; cases h2
    · intro v' w' hown hgrow
      obtain ⟨g', c', rfl⟩ := own_pos hown (by omega)
      refine hK g' c' w' (own_base hown (Nat.zero_le _)) (hR.kept hgrow (by cases aa <;> simp [Value.ownBlock])) ((Only.refl _ w).grown hgrow (fun k e => by cases e)) (.inr (r_lt hown g' ⟨_, rfl, rfl⟩).1)
theorem marks_one (k : Int) (n : Nat) : ∀ u ∈ marks k n, u.oneCell' = true := by
  intro u hu
  simp only [marks, List.mem_map] at hu
  obtain ⟨j, _, rfl⟩ := hu
  rfl
/-- Behind draws. -/
theorem quiet_left {P : Program} {f : FuncId} {args : Array Value} {w : World} {n : Nat} {v : Value} (h : Calls P f args (w.drewN n) fun e w' => e = .returned v ∧ w.drewN n = w') : Calls P f args (w.drewN n) fun e w'' => e = .returned v ∧ ∃ m, w'' = w.drewN m :=
  h.mono fun _ _ ⟨he, hm⟩ => ⟨he, n, hm.symm⟩
theorem quiet_add_left {P : Program} {f : FuncId} {args : Array Value} {w : World} {a n : Nat} {v : Value} (h : Calls P f args (w.drewN (a + n)) fun e w' => e = .returned v ∧ w.drewN (a + n) = w') : Calls P f args (w.drewN (a + n)) fun e w'' => e = .returned v ∧ ∃ m, w'' = w.drewN (a + m) :=
  h.mono fun _ _ ⟨he, hm⟩ => ⟨he, n, hm.symm⟩
theorem mark_q (k i : Int) (w : World) (a n : Nat) (h0 : 0 ≤ k) (h1 : k ≤ 1000) (h2 : 0 ≤ i) (h3 : i ≤ 4611686018427387904) :
    Calls Tryz.prog 56 #[.int .i64 k, .int .i64 i] (w.drewN (a + n)) fun e w'' => e = .returned (.int .i64 (mk k i)) ∧ ∃ m, w'' = w.drewN (a + m) := quiet_add_left (mark_any k i _ h0 h1 h2 h3)
/-- An append in the list's own row. -/
theorem step2_fits {W wr w1 : World} {g n c j : Nat} {k : Int} (hO : Only (SA (some ⟨g, 0, none⟩)) W wr)
    (hown1 : w1.ownsRow 0 3 1 (.slice (some ⟨g, 0, none⟩) (n + j + 1) c) (n + j + 1) (marks k (n + j) ++ [.int .i64 (mk k ((n : Int) + (j : Int)))]))
    (hgrow : (wr.alloc (.cells #[.int .i64 (mk k ((n : Int) + (j : Int)))] 3)).grownBy w1 (some g)) :
    G2 W.heap.size w1 (some ⟨g, 0, none⟩) n c k (j + 1) (.slice (some ⟨g, 0, none⟩) (n + j + 1) c) ∧ R w1 (some ⟨g, 0, none⟩) n c (marks k n) ∧ Only (SA (some ⟨g, 0, none⟩)) W w1 := by
  rw [marks_plus] at hown1
  refine ⟨.inl ⟨rfl, hown1⟩, ?_, ?_⟩
  · have := own_prefix (n := n) hown1 (by omega)
    rwa [marks_take k (by omega)] at this
  · exact (hO.grown (World.grownBy_alloc wr _ none) (fun k h => by cases h)).grown hgrow (fun k e => .inl ⟨⟨g, 0, none⟩, rfl, by cases e; rfl⟩)
/-- An append that moves to a new row. -/
theorem step2_grows {W wr w1 : World} {a : Option Addr} {n c j : Nat} {k : Int} {v' : Value} (hO : Only (SA a) W wr) (hR : R wr a n c (marks k n))
    (hown1 : w1.ownsRow (wr.alloc (.cells #[.int .i64 (mk k ((n : Int) + (j : Int)))] 3)).heap.size 3 1 v' (n + j + 1) (marks k (n + j) ++ [.int .i64 (mk k ((n : Int) + (j : Int)))]))
    (hgrow : (wr.alloc (.cells #[.int .i64 (mk k ((n : Int) + (j : Int)))] 3)).grownBy w1 none) :
    G2 W.heap.size w1 a n c k (j + 1) v' ∧ R w1 a n c (marks k n) ∧ Only (SA a) W w1 := by
  rw [marks_plus] at hown1
  obtain ⟨g', c', rfl⟩ := ownsRow_succ hown1
  have hs := hO.size
  refine ⟨.inr ⟨g', c', rfl, own_base hown1 (by simp; omega)⟩, ?_, ?_⟩
  · exact (hR.alloc _).kept hgrow (by cases a <;> simp [Value.ownBlock])
  · exact (hO.grown (World.grownBy_alloc wr _ none) (fun k h => by cases h)).grown hgrow (fun k e => by cases e)
/-- An append to the own row. -/
theorem step2_own {W wr w1 : World} {a : Option Addr} {n c j g c2 : Nat} {k : Int} {v' : Value} (hO : Only (SA a) W wr) (hR : R wr a n c (marks k n)) (hW : ∀ k, SA a k → k < W.heap.size)
    (hown : wr.ownsRow W.heap.size 3 1 (.slice (some ⟨g, 0, none⟩) (n + j) c2) (n + j) (marks k (n + j)))
    (hown1 : w1.ownsRow W.heap.size 3 1 v' (n + j + 1) (marks k (n + j) ++ [.int .i64 (mk k ((n : Int) + (j : Int)))]))
    (hgrow : (wr.alloc (.cells #[.int .i64 (mk k ((n : Int) + (j : Int)))] 3)).grownBy w1 (some g)) :
    G2 W.heap.size w1 a n c k (j + 1) v' ∧ R w1 a n c (marks k n) ∧ Only (SA a) W w1 := by
  rw [marks_plus] at hown1
  obtain ⟨g', c', rfl⟩ := ownsRow_succ hown1
  have hg := (r_lt hown g ⟨⟨g, 0, none⟩, rfl, rfl⟩).1
  refine ⟨.inr ⟨g', c', rfl, hown1⟩, ?_, ?_⟩
  · refine (hR.alloc _).kept hgrow ?_
    cases a with
    | none => exact .inl rfl
    | some b =>
      refine .inr fun e => ?_
      have := hW b.block ⟨b, rfl, rfl⟩
      simp only [Value.ownBlock, Option.some.injEq] at e
      omega
  · exact (hO.grown (World.grownBy_alloc wr _ none) (fun k h => by cases h)).grown hgrow (fun k e => .inr (by cases e; exact hg))
/-- The row of two slices. -/
def Box2 (w : World) (H : Nat) (v0 v1 : Value) : Prop := w.heap[H]? = some (.cells #[v0, v1] 41 (0, 0))
theorem Box2.cell0 {w : World} {H : Nat} {v0 v1 : Value} (h : Box2 w H v0 v1) : w.cell? ⟨H, 0, none⟩ = some v0 := by simp [World.cell?, show w.heap[H]? = _ from h]
theorem Box2.cell1 {w : World} {H : Nat} {v0 v1 : Value} (h : Box2 w H v0 v1) : w.cell? ⟨H, 1, none⟩ = some v1 := by simp [World.cell?, show w.heap[H]? = _ from h]
theorem Box2.free {w : World} {H : Nat} {v0 v1 : Value} (h : Box2 w H v0 v1) (j : Nat) : w.frozen? ⟨H, j, none⟩ = false := by simp [World.frozen?, show w.heap[H]? = _ from h]
theorem Box2.set0 {w : World} {H : Nat} {v0 v1 : Value} (h : Box2 w H v0 v1) (u : Value) : Box2 (w.setCell ⟨H, 0, none⟩ u) H u v1 := by
  obtain ⟨hlt, hk⟩ := Array.getElem?_eq_some_iff.1 h
  show (w.heap.modify H _)[H]? = _
  rw [Array.getElem?_eq_getElem (by rw [Array.size_modify]; exact hlt), Array.getElem_modify_self, hk]
  rfl
theorem Box2.set1 {w : World} {H : Nat} {v0 v1 : Value} (h : Box2 w H v0 v1) (u : Value) : Box2 (w.setCell ⟨H, 1, none⟩ u) H v0 u := by
  obtain ⟨hlt, hk⟩ := Array.getElem?_eq_some_iff.1 h
  show (w.heap.modify H _)[H]? = _
  rw [Array.getElem?_eq_getElem (by rw [Array.size_modify]; exact hlt), Array.getElem_modify_self, hk]
  rfl
theorem only_set (w : World) (H j : Nat) (u : Value) : Only (fun k => k = H) w (w.setCell ⟨H, j, none⟩ u) :=
  ⟨rfl, rfl, rfl, by simp [World.setCell], fun k _ hn => Below.heap_setCell w _ u k hn⟩
/-- What lies in a slice of the row of two: marks; its block is not S. -/
def GC (w : World) (v : Value) (m : Nat) (L : List Value) (S : Nat → Prop) : Prop := ∃ g c, v = .slice (some ⟨g, 0, none⟩) m c ∧ w.ownsRow 0 3 1 (.slice (some ⟨g, 0, none⟩) m c) m L ∧ ¬ S g
theorem GC.only {w w' : World} {v : Value} {m : Nat} {L : List Value} {S T : Nat → Prop} (h : GC w v m L S) (ho : Only T w w') (hs : ∀ k, T k → S k) : GC w' v m L S := by
  obtain ⟨g, c, rfl, h1, h2⟩ := h
  exact ⟨g, c, rfl, own_only h1 ho (fun k e => by cases e; exact fun ht => h2 (hs _ ht)), h2⟩
theorem G2.done {W w : World} {a : Option Addr} {n c : Nat} {k : Int} {gv : Value} {S : Nat → Prop} (h : G2 W.heap.size w a n c k 64 gv) (h1 : ∀ k, SA a k → ¬ S k) (h2 : ∀ k, S k → k < W.heap.size) : GC w gv (n + 64) (marks k (n + 64)) S := by
  rcases h with ⟨rfl, h⟩ | ⟨g, c', rfl, h⟩
  · obtain ⟨g, rfl⟩ := r_some h (.inl (by omega))
    exact ⟨g, c, rfl, h, h1 g ⟨_, rfl, rfl⟩⟩
  · exact ⟨g, c', rfl, own_base h (Nat.zero_le _), fun hs => by have := h2 g hs; have := (r_lt h g ⟨_, rfl, rfl⟩).1; omega⟩
end Go.Proofs.YtmdepkehpohgeaaGreat.KitInts
/- A region that draws its order, whose operations read and whose callees lay blocks of their own and turn nothing that was there: walked once, in the order of the text. -/
namespace Go.Proofs.YtmdepkehpohgeaaGreat
open Go.RowKit

/-- A tape's place, more blocks. -/
structure More where
  d : Nat
  os : Array Obj
instance : Nonempty More := ⟨⟨0, #[]⟩⟩
/-- W with more blocks behind, and the tape somewhere. -/
def ext (W : World) (p : More) : World := { W with heap := W.heap ++ p.os, drawn := p.d }
theorem ext_old (W : World) (p : More) {k : Nat} (h : k < W.heap.size) : (ext W p).heap[k]? = W.heap[k]? := by simp [ext, Array.getElem?_append, h]
theorem ext_below (W : World) (p : More) : Below W.heap.size W (ext W p) :=
  ⟨rfl, rfl, rfl, by simp [ext], fun k hk => ext_old W p hk⟩
theorem below_ext {W w' : World} (h : Below W.heap.size W w') : ∃ p, w' = ext W p := by
  refine ⟨⟨w'.drawn, w'.heap.extract W.heap.size w'.heap.size⟩, ?_⟩
  obtain ⟨h1, h2, h3, h4, h5⟩ := h
  obtain ⟨hp, tp, dr, os, out⟩ := w'
  obtain ⟨hp0, tp0, dr0, os0, out0⟩ := W
  simp only at *
  subst h1
  subst h2
  subst h3
  simp only [ext, World.mk.injEq, and_true]
  apply Array.ext_getElem?
  intro i
  by_cases hi : i < hp0.size
  · rw [h5 i hi, Array.getElem?_append_left hi]
  · rw [Array.getElem?_append_right (by omega), Array.getElem?_extract]
    by_cases hi2 : i < hp.size
    · rw [if_pos (by omega)]
      congr 1
      omega
    · rw [if_neg (by omega), Array.getElem?_eq_none (by omega)]
theorem cell_lt {w : World} {a : Addr} {v : Value} (h : w.cell? a = some v) : a.block < w.heap.size := by
  by_cases hb : a.block < w.heap.size
  · exact hb
  · exfalso
    simp [World.cell?, Array.getElem?_eq_none (Nat.le_of_not_lt hb)] at h
/-- What a call that lays blocks leaves: one cell. -/
theorem cell_keep {w1 w' : World} {a : Addr} {v : Value} (hb : Below w1.heap.size w1 w') (h : w1.cell? a = some v) : w'.cell? a = some v := by
  rw [hb.cell (cell_lt h)]; exact h
theorem ext_cell {W : World} {a : Addr} {v : Value} (h : W.cell? a = some v) (p : More) : (ext W p).cell? a = some v := cell_keep (ext_below W p) h
theorem ext_below2 {W w' : World} {p : More} (h : Below (ext W p).heap.size (ext W p) w') : Below W.heap.size W w' :=
  (ext_below W p).trans (h.mono (ext_below W p).size)
/-- A callee's contract, met behind other callees. -/
theorem ext_of {P : Program} {f : FuncId} {args : Array Value} {W : World} {p : More} {v : Value}
    (h : Calls P f args (ext W p) fun e w' => e = .returned v ∧ Below (ext W p).heap.size (ext W p) w') : Calls P f args (ext W p) fun e w'' => e = .returned v ∧ ∃ p, w'' = ext W p :=
  h.mono fun _ _ ⟨he, hm⟩ => ⟨he, below_ext (ext_below2 hm)⟩
theorem ext_same {P : Program} {f : FuncId} {args : Array Value} {W : World} {p : More} {v : Value}
    (h : Calls P f args (ext W p) fun e w' => e = .returned v ∧ ext W p = w') : Calls P f args (ext W p) fun e w'' => e = .returned v ∧ ∃ p, w'' = ext W p :=
  h.mono fun _ _ ⟨he, hm⟩ => ⟨he, p, hm.symm⟩
/-- The region: W is the world at hand, a letter. -/
theorem wp_region_ext {P : Program} {id : Nat} {Q : Exit → Act → World → Prop} {a : Act} {w : World} {l : List Oper} (hm : P.follows .mixedOrders = true) (hB : Region.lexB .any l.toArray = true)
    (h : ∀ W, Hid (W = w) → wpQuiet P l.toArray (fun w' => ∃ p, w' = ext W p) (fun a' => ∀ w', (∃ p, w' = ext W p) → Q .normal a' w') l a) : (Code.region id l.toArray true).wp P Q a w :=
  wp_region_quiet (C := fun w' => ∃ p, w' = ext w p) hm hB ⟨⟨w.drawn + 1, #[]⟩, by simp [ext]⟩ (by simpa using h w (Lib.hid rfl))
end Go.Proofs.YtmdepkehpohgeaaGreat
/- Plain mathematics of a word's lanes: places, masks, what stands there, what is put there. -/
namespace Go.Proofs.YtmdepkehpohgeaaGreat.Lane
open Go.RowKit

/-- Is a an aligned place of the size n? -/
def alB (a n : Int) : Bool := Word.sizeB n && decide (a % n = 0)
/-- The mask of k lanes from lane s on; wide; what stands there; what is put there. -/
def mN (s k : Nat) : Int := ((2 ^ k - 1) * 2 ^ s : Nat)
def wN (s k : Nat) : Int := ((256 ^ k - 1) * 256 ^ s : Nat)
def tN (v : Int) (s k : Nat) : Int := v / (256 ^ s : Nat) % (256 ^ k : Nat)
def pN (v : Int) (s k : Nat) (d : Int) : Int := v / (256 ^ (s + k) : Nat) * (256 ^ (s + k) : Nat) + d % (256 ^ k : Nat) * (256 ^ s : Nat) + v % (256 ^ s : Nat)
def maskV (a n : Int) : Int := if alB a n then mN (a % 4).toNat n.toNat else 0
def takeV (v a n : Int) : Int := if alB a n then tN v (a % 4).toNat n.toNat else 0
def putV (v a n d : Int) : Int := if alB a n then pN v (a % 4).toNat n.toNat d else 0
/-- All bits of lanes: the first k lanes of a mask, all four. -/
def wS (m : Int) : Nat → Int
  | 0 => 0
  | k + 1 => wS m k + m / (2 ^ k : Nat) % 2 * (255 * 256 ^ k : Nat)
def wideV (m : Int) : Int := wS m 4

/-- The seven places. -/
def Place (s k : Nat) : Prop := (k = 1 ∧ (s = 0 ∨ s = 1 ∨ s = 2 ∨ s = 3)) ∨ (k = 2 ∧ (s = 0 ∨ s = 2)) ∨ (k = 4 ∧ s = 0)
theorem place_of {a n : Int} (h : alB a n = true) : ∃ s k : Nat, Place s k ∧ a % 4 = s ∧ n = k ∧ (a % 4).toNat = s ∧ n.toNat = k := by
  unfold alB at h
  rw [Bool.and_eq_true, decide_eq_true_eq] at h
  obtain ⟨h1, h2⟩ := h
  refine ⟨(a % 4).toNat, n.toNat, ?_, ?_⟩
  · unfold Place
    rcases Word.sizeB_yes h1 with rfl | rfl | rfl <;> omega
  · rcases Word.sizeB_yes h1 with rfl | rfl | rfl <;> omega
theorem al_place {a n : Int} {s k : Nat} (hp : Place s k) (hs : a % 4 = s) (hk : n = k) : alB a n = true := by
  unfold alB
  rw [Bool.and_eq_true, decide_eq_true_eq]
  subst hk
  rcases hp with ⟨rfl, _⟩ | ⟨rfl, _⟩ | ⟨rfl, _⟩
  · exact ⟨rfl, by omega⟩
  · exact ⟨rfl, by omega⟩
  · exact ⟨rfl, by omega⟩
theorem mask_at {a n : Int} {s k : Nat} (hp : Place s k) (hs : a % 4 = s) (hk : n = k) : maskV a n = mN s k := by
  unfold maskV; rw [if_pos (al_place hp hs hk), hs, hk]; rfl
theorem take_at {v a n : Int} {s k : Nat} (hp : Place s k) (hs : a % 4 = s) (hk : n = k) : takeV v a n = tN v s k := by
  unfold takeV; rw [if_pos (al_place hp hs hk), hs, hk]; rfl
theorem put_at {v a n d : Int} {s k : Nat} (hp : Place s k) (hs : a % 4 = s) (hk : n = k) : putV v a n d = pN v s k d := by
  unfold putV; rw [if_pos (al_place hp hs hk), hs, hk]; rfl
theorem mask_no {a n : Int} (h : alB a n = false) : maskV a n = 0 := by unfold maskV; rw [h]; rfl
theorem take_no {v a n : Int} (h : alB a n = false) : takeV v a n = 0 := by unfold takeV; rw [h]; rfl
theorem put_no {v a n d : Int} (h : alB a n = false) : putV v a n d = 0 := by unfold putV; rw [h]; rfl

theorem Place.all {P : Nat → Nat → Prop} (h01 : P 0 1) (h11 : P 1 1) (h21 : P 2 1) (h31 : P 3 1) (h02 : P 0 2) (h22 : P 2 2) (h04 : P 0 4) {s k : Nat} (hp : Place s k) : P s k := by
  rcases hp with ⟨rfl, rfl | rfl | rfl | rfl⟩ | ⟨rfl, rfl | rfl⟩ | ⟨rfl, rfl⟩ <;> assumption
theorem Place.allI {P : Int → Int → Prop} (h01 : P 0 1) (h11 : P 1 1) (h21 : P 2 1) (h31 : P 3 1) (h02 : P 0 2) (h22 : P 2 2) (h04 : P 0 4) {s k : Nat} (hp : Place s k) : P s k := by
  rcases hp with ⟨rfl, rfl | rfl | rfl | rfl⟩ | ⟨rfl, rfl | rfl⟩ | ⟨rfl, rfl⟩ <;> assumption
theorem wide_mask {s k : Nat} (hp : Place s k) : wideV (mN s k) = wN s k := by
  refine Place.all (P := fun s k => wideV (mN s k) = wN s k) ?_ ?_ ?_ ?_ ?_ ?_ ?_ hp <;> decide
theorem mN_bd {s k : Nat} (hp : Place s k) : 1 ≤ mN s k ∧ mN s k ≤ 15 := by
  refine Place.all (P := fun s k => 1 ≤ mN s k ∧ mN s k ≤ 15) ?_ ?_ ?_ ?_ ?_ ?_ ?_ hp <;> decide
theorem wN_bd {s k : Nat} (hp : Place s k) : 0 ≤ wN s k ∧ wN s k < 4294967296 := by
  refine Place.all (P := fun s k => 0 ≤ wN s k ∧ wN s k < 4294967296) ?_ ?_ ?_ ?_ ?_ ?_ ?_ hp <;> decide
theorem maskV_bd (a n : Int) : 0 ≤ maskV a n ∧ maskV a n ≤ 15 := by
  by_cases h : alB a n = true
  · obtain ⟨s, k, hp, hs, hk, _⟩ := place_of h
    rw [mask_at hp hs hk]
    have := mN_bd hp
    omega
  · rw [mask_no (by simpa using h)]; omega

theorem and_one {x : Int} (h0 : 0 ≤ x) (h1 : x < 4294967296) : bits .and .u32 x 1 = x % 2 := by
  rw [u32_and x 1 h0 h1 (by omega) (by omega)]
  obtain ⟨n, rfl⟩ := Int.eq_ofNat_of_zero_le h0
  have := nat_mask1 n
  simp only [Int.toNat_natCast, Int.toNat_one, this]; omega
theorem lane_bit {m : Int} {k : Nat} (h0 : 0 ≤ m) (h1 : m < 4294967296) : bits .and .u32 (m / 2 ^ k) 1 = m / (2 ^ k : Nat) % 2 := by
  have hp : (0 : Int) < 2 ^ k := Int.pow_pos (by decide)
  have e : ((2 ^ k : Nat) : Int) = 2 ^ k := by simp
  have a : 0 ≤ m / 2 ^ k := Int.ediv_nonneg h0 (by omega)
  have b : m / 2 ^ k ≤ m := Int.ediv_le_self _ h0
  rw [and_one a (by omega), e]
theorem wS_yes {m : Int} {k : Nat} (h0 : 0 ≤ m) (h1 : m < 4294967296) (h : (bits .and .u32 (m / 2 ^ k) 1 == 1) = true) (hk : k < 4) (b0 : 0 ≤ wS m k) (b1 : wS m k < (256 ^ k : Nat)) :
    bits .or .u32 (wS m k) (255 * 256 ^ k) = wS m (k + 1) ∧ 0 ≤ wS m (k + 1) ∧ wS m (k + 1) < (256 ^ (k + 1) : Nat) := by
  rw [lane_bit h0 h1, beq_iff_eq] at h
  have e : wS m (k + 1) = wS m k + 255 * (256 ^ k : Nat) := by rw [wS, h]; simp
  rw [e]
  have h3 : k = 0 ∨ k = 1 ∨ k = 2 ∨ k = 3 := by omega
  rcases h3 with rfl | rfl | rfl | rfl
  · refine ⟨?_, by omega, by omega⟩
    have e2 : wS m 0 = 0 := rfl
    rw [e2]; exact Word.or_0 255 (by omega) (by omega)
  · exact ⟨Word.or_8 _ 255 b0 (by omega) (by omega) (by omega), by omega, by omega⟩
  · exact ⟨Word.or_16 _ 255 b0 (by omega) (by omega) (by omega), by omega, by omega⟩
  · exact ⟨Word.or_24 _ 255 b0 (by omega) (by omega) (by omega), by omega, by omega⟩
theorem wS_no {m : Int} {k : Nat} (h0 : 0 ≤ m) (h1 : m < 4294967296) (h : ¬ (bits .and .u32 (m / 2 ^ k) 1 == 1) = true) (b0 : 0 ≤ wS m k) (b1 : wS m k < (256 ^ k : Nat)) :
    wS m k = wS m (k + 1) ∧ 0 ≤ wS m (k + 1) ∧ wS m (k + 1) < (256 ^ (k + 1) : Nat) := by
  rw [lane_bit h0 h1, beq_iff_eq] at h
  have h2 : m / (2 ^ k : Nat) % 2 = 0 := by omega
  have e : wS m (k + 1) = wS m k := by rw [wS, h2]; simp
  rw [e]
  refine ⟨rfl, b0, ?_⟩
  rw [Nat.pow_succ]; omega

/-! ### Bits -/
/-- A run of k ones from s on, and what of x stands there. -/
theorem and_run (x s k : Nat) : x &&& ((2 ^ k - 1) * 2 ^ s) = x / 2 ^ s % 2 ^ k * 2 ^ s := by
  apply Nat.eq_of_testBit_eq
  intro i
  rw [Nat.testBit_and, Nat.testBit_mul_two_pow, Nat.testBit_mul_two_pow, Nat.testBit_two_pow_sub_one, Nat.testBit_mod_two_pow, Nat.testBit_div_two_pow]
  by_cases h : s ≤ i
  · have e : i - s + s = i := by omega
    simp only [h, decide_true, Bool.true_and, e]
    rw [Bool.and_comm]
  · simp [h]
theorem andnot_run (x s k n : Nat) (hn : s + k ≤ n) (hx : x < 2 ^ n) : x &&& (2 ^ n - 1 - (2 ^ k - 1) * 2 ^ s) = x / 2 ^ (s + k) * 2 ^ (s + k) + x % 2 ^ s := by
  have hpos : 0 < 2 ^ s := Nat.pow_pos (by decide)
  have hk : 0 < 2 ^ k := Nat.pow_pos (by decide)
  have hsk : 2 ^ s * 2 ^ k = 2 ^ (s + k) := (Nat.pow_add 2 s k).symm
  have hle : 2 ^ (s + k) ≤ 2 ^ n := Nat.pow_le_pow_right (by decide) hn
  have hlt : (2 ^ k - 1) * 2 ^ s < 2 ^ n := by
    have : (2 ^ k - 1) * 2 ^ s < 2 ^ k * 2 ^ s := Nat.mul_lt_mul_of_pos_right (by omega) hpos
    rw [Nat.mul_comm (2 ^ k)] at this
    omega
  have ej : x / 2 ^ (s + k) * 2 ^ (s + k) + x % 2 ^ s = (x / 2 ^ (s + k) * 2 ^ (s + k)) ||| (x % 2 ^ s) := by
    have : x % 2 ^ s < 2 ^ (s + k) := Nat.lt_of_lt_of_le (Nat.mod_lt _ hpos) (Nat.pow_le_pow_right (by decide) (by omega))
    rw [nat_join (s + k) _ _ (Nat.mul_mod_left _ _) this]
  rw [ej]
  apply Nat.eq_of_testBit_eq
  intro i
  rw [Nat.testBit_and, show 2 ^ n - 1 - (2 ^ k - 1) * 2 ^ s = 2 ^ n - ((2 ^ k - 1) * 2 ^ s + 1) by omega, Nat.testBit_two_pow_sub_succ hlt, Nat.testBit_or, Nat.testBit_mul_two_pow, Nat.testBit_mul_two_pow, Nat.testBit_two_pow_sub_one, Nat.testBit_mod_two_pow, Nat.testBit_div_two_pow]
  by_cases h1 : i < s
  · have a1 : ¬ s ≤ i := by omega
    have a2 : ¬ s + k ≤ i := by omega
    have a3 : i < n := by omega
    simp [h1, a1, a2, a3]
  · by_cases h2 : s + k ≤ i
    · have a1 : s ≤ i := by omega
      have a2 : ¬ i - s < k := by omega
      have a3 : i - (s + k) + (s + k) = i := by omega
      simp only [h1, h2, a1, a2, a3, decide_true, decide_false, Bool.true_and, Bool.and_false, Bool.not_false, Bool.and_true, Bool.false_and, Bool.or_false]
      by_cases h3 : i < n
      · simp [h3]
      · have : x.testBit i = false := Nat.testBit_lt_two_pow (Nat.lt_of_lt_of_le hx (Nat.pow_le_pow_right (by decide) (by omega)))
        simp [this]
    · have a1 : s ≤ i := by omega
      have a2 : i - s < k := by omega
      simp [h1, h2, a1, a2]
theorem or_three (x s k m : Nat) (hm : m < 2 ^ k) : (x / 2 ^ (s + k) * 2 ^ (s + k) + x % 2 ^ s) ||| (m * 2 ^ s) = x / 2 ^ (s + k) * 2 ^ (s + k) + m * 2 ^ s + x % 2 ^ s := by
  have hpos : 0 < 2 ^ s := Nat.pow_pos (by decide)
  have hsk : 2 ^ s * 2 ^ k = 2 ^ (s + k) := (Nat.pow_add 2 s k).symm
  have hl : x % 2 ^ s < 2 ^ s := Nat.mod_lt _ hpos
  have h1 : x % 2 ^ s < 2 ^ (s + k) := Nat.lt_of_lt_of_le hl (Nat.pow_le_pow_right (by decide) (by omega))
  have h2 : m * 2 ^ s + x % 2 ^ s < 2 ^ (s + k) := by
    have : m * 2 ^ s + 2 ^ s ≤ 2 ^ k * 2 ^ s := by rw [← Nat.succ_mul]; exact Nat.mul_le_mul_right _ hm
    rw [Nat.mul_comm (2 ^ k)] at this
    omega
  rw [← nat_join (s + k) _ _ (Nat.mul_mod_left _ _) h1, Nat.or_assoc, Nat.or_comm (x % 2 ^ s), nat_join s _ _ (Nat.mul_mod_left _ _) hl, nat_join (s + k) _ _ (Nat.mul_mod_left _ _) h2]
  omega
theorem p256 (s : Nat) : 256 ^ s = 2 ^ (8 * s) := by rw [Nat.pow_mul]
theorem wN_two (s k : Nat) : wN s k = (((2 ^ (8 * k) - 1) * 2 ^ (8 * s) : Nat) : Int) := by unfold wN; rw [p256, p256]
theorem place_le {s k : Nat} (hp : Place s k) : 8 * s + 8 * k ≤ 32 := by unfold Place at hp; omega
theorem w_lt {s k : Nat} (hp : Place s k) : (2 ^ (8 * k) - 1) * 2 ^ (8 * s) < 4294967296 := by
  have := (wN_bd hp).2
  rw [wN_two] at this
  omega
theorem taken_bits {s k : Nat} (hp : Place s k) {v : Int} (h0 : 0 ≤ v) (h1 : v < 4294967296) : bits .and .u32 v (wN s k) / ((256 ^ s : Nat) : Int) = tN v s k := by
  obtain ⟨x, rfl⟩ := Int.eq_ofNat_of_zero_le h0
  rw [wN_two, u32_and_nat x _ (by omega) (w_lt hp), and_run, tN, p256, p256, ← Int.natCast_ediv, Nat.mul_div_cancel _ (Nat.pow_pos (by decide)), ← Int.natCast_ediv, ← Int.natCast_emod]
theorem shl_mod (x a b : Nat) (h : a + b ≤ 32) : x * 2 ^ a % 4294967296 / 2 ^ a % 2 ^ b = x % 2 ^ b := by
  obtain ⟨c, hc⟩ : ∃ c, 32 = b + c + a := ⟨32 - b - a, by omega⟩
  have e : 4294967296 = 2 ^ (b + c) * 2 ^ a := by rw [← Nat.pow_add, ← hc]
  rw [e, Nat.mul_mod_mul_right, Nat.mul_div_cancel _ (Nat.pow_pos (by decide)), Nat.pow_add, Nat.mod_mul_right_mod]
theorem put_bits {s k : Nat} (hp : Place s k) {v d : Int} (h0 : 0 ≤ v) (h1 : v < 4294967296) (g0 : 0 ≤ d) :
    bits .or .u32 (bits .andNot .u32 v (wN s k)) (bits .and .u32 (d * ((256 ^ s : Nat) : Int) % 4294967296) (wN s k)) = pN v s k d := by
  obtain ⟨x, rfl⟩ := Int.eq_ofNat_of_zero_le h0
  obtain ⟨y, rfl⟩ := Int.eq_ofNat_of_zero_le g0
  have hx : x < 4294967296 := by omega
  have hle := place_le hp
  have hw := w_lt hp
  have e1 : (y : Int) * ((256 ^ s : Nat) : Int) % 4294967296 = ((y * 2 ^ (8 * s) % 4294967296 : Nat) : Int) := by rw [p256, ← Int.natCast_mul]; omega
  rw [wN_two, e1, u32_andNot_nat x _ hx hw, u32_and_nat _ _ (Nat.mod_lt _ (by decide)) hw, and_run, shl_mod _ _ _ hle]
  have e2 := andnot_run x (8 * s) (8 * k) 32 hle hx
  rw [show (2 : Nat) ^ 32 - 1 = 4294967295 from rfl] at e2
  have hand : x &&& (4294967295 - (2 ^ (8 * k) - 1) * 2 ^ (8 * s)) < 2 ^ 32 := Nat.and_lt_two_pow _ (by omega)
  have hm : y % 2 ^ (8 * k) < 2 ^ (8 * k) := Nat.mod_lt _ (Nat.pow_pos (by decide))
  have hmid : y % 2 ^ (8 * k) * 2 ^ (8 * s) < 4294967296 := by
    have : y % 2 ^ (8 * k) * 2 ^ (8 * s) ≤ (2 ^ (8 * k) - 1) * 2 ^ (8 * s) := Nat.mul_le_mul_right _ (by omega)
    omega
  rw [u32_or_nat _ _ hand hmid, e2, or_three _ _ _ _ hm, pN, p256, p256, p256, Nat.mul_add]
  simp only [Int.natCast_add, Int.natCast_mul, Int.natCast_ediv, Int.natCast_emod]
theorem pN_bd {s k : Nat} (hp : Place s k) {v d : Int} (h0 : 0 ≤ v) (h1 : v < 4294967296) : 0 ≤ pN v s k d ∧ pN v s k d < 4294967296 := by
  revert v
  refine Place.all (P := fun s k => ∀ {v : Int}, 0 ≤ v → v < 4294967296 → 0 ≤ pN v s k d ∧ pN v s k d < 4294967296) ?_ ?_ ?_ ?_ ?_ ?_ ?_ hp <;> (intro v h0 h1; simp only [pN, Nat.reduceAdd, Nat.reducePow, Int.cast_ofNat_Int]; omega)
theorem tN_bd {s k : Nat} (hp : Place s k) {v : Int} (h0 : 0 ≤ v) (h1 : v < 4294967296) : 0 ≤ tN v s k ∧ tN v s k < 4294967296 := by
  revert v
  refine Place.all (P := fun s k => ∀ {v : Int}, 0 ≤ v → v < 4294967296 → 0 ≤ tN v s k ∧ tN v s k < 4294967296) ?_ ?_ ?_ ?_ ?_ ?_ ?_ hp <;> (intro v h0 h1; simp only [tN, Nat.reducePow, Int.cast_ofNat_Int]; omega)
/-- What stays: all bits but those of the lanes. -/
theorem stays_bits {s k : Nat} (hp : Place s k) {v d : Int} (h0 : 0 ≤ v) (h1 : v < 4294967296) (g0 : 0 ≤ d) :
    bits .andNot .u32 (bits .xor .u32 (pN v s k d) v) (wN s k) = 0 := by
  rw [← put_bits hp h0 h1 g0]
  obtain ⟨x, rfl⟩ := Int.eq_ofNat_of_zero_le h0
  obtain ⟨y, rfl⟩ := Int.eq_ofNat_of_zero_le g0
  have hx : x < 4294967296 := by omega
  have hw := w_lt hp
  have e1 : (y : Int) * ((256 ^ s : Nat) : Int) % 4294967296 = ((y * 2 ^ (8 * s) % 4294967296 : Nat) : Int) := by rw [p256, ← Int.natCast_mul]; omega
  have hz : y * 2 ^ (8 * s) % 4294967296 < 4294967296 := Nat.mod_lt _ (by decide)
  rw [wN_two, e1]
  generalize y * 2 ^ (8 * s) % 4294967296 = z at *
  generalize (2 ^ (8 * k) - 1) * 2 ^ (8 * s) = W at *
  have hA : x &&& (4294967295 - W) < 2 ^ 32 := Nat.and_lt_two_pow _ (by omega)
  have hB : z &&& W < 2 ^ 32 := Nat.and_lt_two_pow _ (by omega)
  have hC : (x &&& (4294967295 - W)) ||| (z &&& W) < 2 ^ 32 := Nat.or_lt_two_pow hA hB
  have hD : ((x &&& (4294967295 - W)) ||| (z &&& W)) ^^^ x < 2 ^ 32 := Nat.xor_lt_two_pow hC (by omega)
  rw [u32_andNot_nat x _ hx hw, u32_and_nat _ _ hz hw, u32_or_nat _ _ hA hB, u32_xor_nat _ _ hC hx, u32_andNot_nat _ _ hD hw]
  have e : (((x &&& (4294967295 - W)) ||| (z &&& W)) ^^^ x) &&& (4294967295 - W) = 0 := by
    apply Nat.eq_of_testBit_eq
    intro i
    rw [show 4294967295 - W = 2 ^ 32 - (W + 1) by omega]
    simp only [Nat.testBit_and, Nat.testBit_or, Nat.testBit_xor, Nat.testBit_two_pow_sub_succ (show W < 2 ^ 32 from hw), Nat.zero_testBit]
    cases decide (i < 32) <;> cases W.testBit i <;> cases x.testBit i <;> cases z.testBit i <;> rfl
  rw [e]; rfl
end Go.Proofs.YtmdepkehpohgeaaGreat.Lane
/- Contracts of package lane's small functions: lane, shift, multiple, aligned, mask, Wide. -/
namespace Go.Proofs.YtmdepkehpohgeaaGreat.Lane
open Go.RowKit
set_option linter.unusedVariables false

theorem ret_bool {x y : Bool} (h : x = y) : Ending.returned (.bool x) = .returned (.bool y) := by rw [h]
theorem ret_int {k : IntKind} {a b : Int} (h : a = b) : Ending.returned (.int k a) = .returned (.int k b) := by rw [h]

/-- A place in a block. -/
theorem alloc_keep {w : World} {a : Addr} {v : Value} (h : w.cell? a = some v) (o : Obj) : (w.alloc o).cell? a = some v := cell_keep ((Below.refl _ _).alloc (Nat.le_refl _) o) h
theorem place_new (w : World) (a n : Int) (t : TypeId) : (w.alloc (.cells #[.int .u32 a, .int .i64 n] t)).cell? ⟨w.heap.size, 0, none⟩ = some (.int .u32 a) ∧ (w.alloc (.cells #[.int .u32 a, .int .i64 n] t)).cell? ⟨w.heap.size, 1, none⟩ = some (.int .i64 n) :=
  ⟨World.cell?_alloc_at _ _ _ 0 rfl, World.cell?_alloc_at _ _ _ 1 rfl⟩
end Go.Proofs.YtmdepkehpohgeaaGreat.Lane
/- Contracts of package lane: what is asked of a place at work; what is told; Aligned, Mask, Take, Put. -/
namespace Go.Proofs.YtmdepkehpohgeaaGreat.Lane
open Go.RowKit
set_option linter.unusedVariables false

/-- A cell in a block. -/
structure Cl (w : World) (b : Nat) (a n v d : Int) : Prop where
  c0 : w.cell? ⟨b, 0, none⟩ = some (.int .u32 a)
  c1 : w.cell? ⟨b, 1, none⟩ = some (.int .i64 n)
  c2 : w.cell? ⟨b, 2, none⟩ = some (.int .u32 v)
  c3 : w.cell? ⟨b, 3, none⟩ = some (.int .u32 d)
theorem cl_new (w : World) (a n v d : Int) (t : TypeId) : Cl (w.alloc (.cells #[.int .u32 a, .int .i64 n, .int .u32 v, .int .u32 d] t)) w.heap.size a n v d :=
  ⟨World.cell?_alloc_at _ _ _ 0 rfl, World.cell?_alloc_at _ _ _ 1 rfl, World.cell?_alloc_at _ _ _ 2 rfl, World.cell?_alloc_at _ _ _ 3 rfl⟩

end Go.Proofs.YtmdepkehpohgeaaGreat.Lane
/- Contracts of the document's lanes: Aligned, Mask, Wide. -/
namespace Go.Proofs.YtmdepkehpohgeaaGreat.Lane
open Go.RowKit
set_option linter.unusedVariables false

theorem m02 {a : Int} (hs : a % 4 = 0) : (1 + 2 ^ ((a + 1) % 4).toNat % 4294967296) % 4294967296 = mN 0 2 := by
  have e1 : (a + 1) % 4 = 1 := by omega
  simp [e1, mN]
theorem m22 {a : Int} (hs : a % 4 = 2) : (4 + 2 ^ ((a + 1) % 4).toNat % 4294967296) % 4294967296 = mN 2 2 := by
  have e1 : (a + 1) % 4 = 3 := by omega
  simp [e1, mN]
theorem m04 {a : Int} (hs : a % 4 = 0) : ((1 + 2 ^ ((a + 1) % 4).toNat + 2 ^ ((a + 2) % 4).toNat) % 4294967296 + 2 ^ ((a + 3) % 4).toNat % 4294967296) % 4294967296 = mN 0 4 := by
  have e1 : (a + 1) % 4 = 1 := by omega
  have e2 : (a + 2) % 4 = 2 := by omega
  have e3 : (a + 3) % 4 = 3 := by omega
  simp [e1, e2, e3, mN]
theorem rw_yes {m : Int} {k : Nat} (h : (m / 2 ^ k % 2 == 1) = true) (hk : k < 4) (b0 : 0 ≤ wS m k) (b1 : wS m k < (256 ^ k : Nat)) :
    (wS m k + 255 * 2 ^ (8 * k) % 4294967296) % 4294967296 = wS m (k + 1) ∧ 0 ≤ wS m (k + 1) ∧ wS m (k + 1) < (256 ^ (k + 1) : Nat) := by
  rw [beq_iff_eq] at h
  have e0 : ((2 ^ k : Nat) : Int) = 2 ^ k := by simp
  have e : wS m (k + 1) = wS m k + 255 * (256 ^ k : Nat) := by rw [wS, e0, h]; simp
  have e2 : (2 : Int) ^ (8 * k) = ((256 ^ k : Nat) : Int) := by rw [p256]; simp
  rw [e, e2]
  have h3 : k = 0 ∨ k = 1 ∨ k = 2 ∨ k = 3 := by omega
  rcases h3 with rfl | rfl | rfl | rfl <;> exact ⟨by omega, by omega, by omega⟩
theorem rw_no {m : Int} {k : Nat} (h : (m / 2 ^ k % 2 == 1) = false) (b0 : 0 ≤ wS m k) (b1 : wS m k < (256 ^ k : Nat)) :
    wS m k = wS m (k + 1) ∧ 0 ≤ wS m (k + 1) ∧ wS m (k + 1) < (256 ^ (k + 1) : Nat) := by
  rw [beq_eq_false_iff_ne] at h
  have e0 : ((2 ^ k : Nat) : Int) = 2 ^ k := by simp
  have h2 : m / 2 ^ k % 2 = 0 := by omega
  have e : wS m (k + 1) = wS m k := by rw [wS, e0, h2]; simp
  rw [e]
  refine ⟨rfl, b0, ?_⟩
  rw [Nat.pow_succ]; omega
end Go.Proofs.YtmdepkehpohgeaaGreat.Lane
