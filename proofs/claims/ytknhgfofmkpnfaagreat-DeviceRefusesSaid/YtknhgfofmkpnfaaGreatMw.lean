/- Put together: Ma, Mv, Mu, Mp, Mq, Mw. -/
import Derived.Test.YtknhgfofmkpnfaaGreatBa
import Derived.Test.YtknhgfofmkpnfaaGreatLn
import Derived.Test.YtknhgfofmkpnfaaGreatOw
import Derived.Test.YtknhgfofmkpnfaaGreatFa
import Derived.Deep.RegionHeld3
import Derived.Lib.SliceRun
import Derived.LaidEqlPtr
/- Plain: memories as bytes: places, what is read, what is written. -/
namespace Go.Proofs.YtknhgfofmkpnfaaGreat.Ram
set_option linter.unusedSectionVars false
variable [Inhabited Lane.OTab]
set_option linter.unusedVariables false

/-- So many noughts. -/
def zerosB (n : Nat) : List Int := List.replicate n 0
/-- Bytes of a memory. -/
structure OkM (bs : List Int) : Prop where
  four : bs.length % 4 = 0
  lo : 4 ≤ bs.length
  hi : bs.length ≤ 4096
  byte : ∀ i, 0 ≤ bs.getD i 0 ∧ bs.getD i 0 < 256
/-- Is it a size of a memory? -/
def sizeM (n : Int) : Bool := decide (4 ≤ n ∧ n ≤ 4096 ∧ n % 4 = 0)
theorem okM_zeros {n : Nat} (h : sizeM n = true) : OkM (zerosB n) := by
  unfold sizeM at h
  have := of_decide_eq_true h
  unfold zerosB
  refine ⟨by simp; omega, by simp; omega, by simp; omega, fun i => ?_⟩
  rw [List.getD_eq_getElem?_getD, List.getElem?_replicate]
  split <;> simp
/-- Is it a place of a memory of n bytes? -/
def placeB (n : Nat) (off size : Int) : Bool := Word.sizeB size && decide (0 ≤ off ∧ off < (n : Int) ∧ off % size = 0)
theorem place_parts {n : Nat} {off size : Int} (h : placeB n off size = true) (h4 : n % 4 = 0) : ∃ o m : Nat, off = o ∧ size = m ∧ (m = 1 ∨ m = 2 ∨ m = 4) ∧ o % m = 0 ∧ o + m ≤ n := by
  unfold placeB at h
  rw [Bool.and_eq_true] at h
  obtain ⟨h1, h2⟩ := h
  have h2 := of_decide_eq_true h2
  have hs : size = 1 ∨ size = 2 ∨ size = 4 := by
    unfold Word.sizeB at h1
    simpa using h1
  rcases hs with rfl | rfl | rfl
  · exact ⟨off.toNat, 1, by omega, rfl, .inl rfl, by omega, by omega⟩
  · exact ⟨off.toNat, 2, by omega, rfl, .inr (.inl rfl), by omega, by omega⟩
  · exact ⟨off.toNat, 4, by omega, rfl, .inr (.inr rfl), by omega, by omega⟩
theorem place_of {n o m : Nat} (hm : m = 1 ∨ m = 2 ∨ m = 4) (h : o % m = 0) (hn : o < n) : placeB n o m = true := by
  unfold placeB
  rw [Bool.and_eq_true]
  refine ⟨by rcases hm with rfl | rfl | rfl <;> rfl, decide_eq_true ⟨by omega, by omega, ?_⟩⟩
  rcases hm with rfl | rfl | rfl <;> omega
/-- What is read. -/
def wordAt (bs : List Int) (k : Nat) : Int := bs.getD (4 * k) 0 + bs.getD (4 * k + 1) 0 * 256 + bs.getD (4 * k + 2) 0 * 65536 + bs.getD (4 * k + 3) 0 * 16777216
def readV (bs : List Int) (off size : Int) : Int := if placeB bs.length off size then Lane.takeV (wordAt bs (off.toNat / 4)) off size else 0
theorem read_no {bs : List Int} {off size : Int} (h : placeB bs.length off size = false) : readV bs off size = 0 := by unfold readV; rw [if_neg (by rw [h]; simp)]
/-- The first k bytes of x, put from o on. -/
def putL (bs : List Int) (o k x : Nat) : List Int := (List.range bs.length).map fun i => if o ≤ i ∧ i < o + k then ((x / 256 ^ (i - o) % 256 : Nat) : Int) else bs.getD i 0
theorem putL_length (bs : List Int) (o k x : Nat) : (putL bs o k x).length = bs.length := by simp [putL]
theorem putL_get (bs : List Int) (o k x i : Nat) (hi : i < bs.length) : (putL bs o k x).getD i 0 = if o ≤ i ∧ i < o + k then ((x / 256 ^ (i - o) % 256 : Nat) : Int) else bs.getD i 0 := by
  rw [List.getD_eq_getElem?_getD, List.getElem?_eq_getElem (by rw [putL_length]; exact hi)]
  simp [putL]
theorem getD_out {bs : List Int} {i : Nat} (h : bs.length ≤ i) : bs.getD i 0 = 0 := by
  rw [List.getD_eq_getElem?_getD, List.getElem?_eq_none h]
  rfl
theorem list_same {a b : List Int} (hl : a.length = b.length) (h : ∀ i, i < a.length → a.getD i 0 = b.getD i 0) : a = b := by
  apply List.ext_getElem hl
  intro i h1 h2
  have := h i h1
  rwa [List.getD_eq_getElem?_getD, List.getD_eq_getElem?_getD, List.getElem?_eq_getElem h1, List.getElem?_eq_getElem h2] at this
theorem putL_zero (bs : List Int) (o x : Nat) : putL bs o 0 x = bs :=
  list_same (putL_length ..) fun i hi => by
    rw [putL_length] at hi
    rw [putL_get _ _ _ _ _ hi, if_neg (by omega)]
theorem putL_step (bs : List Int) (o k x : Nat) (h : o + k < bs.length) : (putL bs o k x).set (o + k) ((x / 256 ^ k % 256 : Nat) : Int) = putL bs o (k + 1) x := by
  refine list_same (by rw [List.length_set, putL_length, putL_length]) fun i hi => ?_
  rw [List.length_set, putL_length] at hi
  rw [putL_get _ _ _ _ _ hi, List.getD_eq_getElem?_getD, List.getElem?_set]
  by_cases e : o + k = i
  · subst e
    rw [if_pos rfl, if_pos (by rw [putL_length]; exact h), if_pos (by omega), show o + k - o = k by omega]
    rfl
  · rw [if_neg e, ← List.getD_eq_getElem?_getD, putL_get _ _ _ _ _ hi]
    by_cases h1 : o ≤ i ∧ i < o + k
    · rw [if_pos h1, if_pos (by omega)]
    · rw [if_neg h1, if_neg (by omega)]
theorem putL_ok {bs : List Int} (h : OkM bs) (o k x : Nat) : OkM (putL bs o k x) := by
  refine ⟨by rw [putL_length]; exact h.four, by rw [putL_length]; exact h.lo, by rw [putL_length]; exact h.hi, fun i => ?_⟩
  by_cases hi : i < bs.length
  · rw [putL_get _ _ _ _ _ hi]
    split
    · omega
    · exact h.byte i
  · rw [getD_out (by rw [putL_length]; omega)]
    omega
/-- What is written. -/
def writeV (bs : List Int) (off size : Int) (x : Nat) : List Int := if placeB bs.length off size then putL bs (4 * (off.toNat / 4)) 4 (Lane.putV (wordAt bs (off.toNat / 4)) off size x).toNat else bs
theorem write_no {bs : List Int} {off size : Int} {x : Nat} (h : placeB bs.length off size = false) : writeV bs off size x = bs := by unfold writeV; rw [if_neg (by rw [h]; simp)]
theorem write_length (bs : List Int) (off size : Int) (x : Nat) : (writeV bs off size x).length = bs.length := by
  unfold writeV; split
  · exact putL_length ..
  · rfl
theorem write_ok {bs : List Int} (h : OkM bs) (off size : Int) (x : Nat) : OkM (writeV bs off size x) := by
  unfold writeV; split
  · exact putL_ok h _ _ _
  · exact h
theorem drop_get (bs : List Int) (o i : Nat) : (bs.drop o).getD i 0 = bs.getD (o + i) 0 := by
  rw [List.getD_eq_getElem?_getD, List.getD_eq_getElem?_getD, List.getElem?_drop]
theorem zeros_length (n : Nat) : (zerosB n).length = n := List.length_replicate ..
theorem sizeM_ok {n : Nat} (h : OkM (zerosB n)) : sizeM n = true := by
  have h1 := h.four
  have h2 := h.lo
  have h3 := h.hi
  rw [zeros_length] at h1 h2 h3
  exact decide_eq_true (by omega)
end Go.Proofs.YtknhgfofmkpnfaaGreat.Ram
/- Plain: a memory's bytes as words, four to each: what is taken from a word, what is put there. -/
namespace Go.Proofs.YtknhgfofmkpnfaaGreat.Ram
set_option linter.unusedSectionVars false
variable [Inhabited Lane.OTab]
open Go.RowKit Go.Maps Go.ChangeShapes Go.WideShapes Go.ChangeAt Fifo Orow Word
open Lane (tN pN takeV putV alB)
set_option linter.unusedVariables false

theorem only_drew2 {S : Nat → Prop} {w w' : World} (h : Only S w w') : Only S w w'.drew := ⟨h.os, h.tape, h.output, h.size, h.block⟩
def wv (bs : List Int) : List Value := (List.range (bs.length / 4)).map fun k => .int .u32 (wordAt bs k)
theorem wv_len (bs : List Int) : (wv bs).length = bs.length / 4 := by simp [wv]
theorem wv_get (bs : List Int) {k : Nat} (h : k < bs.length / 4) : (wv bs)[k]? = some (.int .u32 (wordAt bs k)) := by simp [wv, h]
theorem wordAt_bd {bs : List Int} (h : OkM bs) (k : Nat) : 0 ≤ wordAt bs k ∧ wordAt bs k < 4294967296 := by
  have h0 := h.byte (4 * k)
  have h1 := h.byte (4 * k + 1)
  have h2 := h.byte (4 * k + 2)
  have h3 := h.byte (4 * k + 3)
  unfold wordAt
  omega
theorem zeros_get (n i : Nat) : (zerosB n).getD i 0 = 0 := by
  unfold zerosB
  rw [List.getD_eq_getElem?_getD, List.getElem?_replicate]
  split <;> rfl
theorem wv_zeros (n : Nat) : wv (zerosB n) = List.replicate (n / 4) (.int .u32 0) := by
  unfold wv wordAt
  rw [zeros_length]
  apply List.ext_getElem
  · simp
  · intro i h1 h2
    simp only [List.getElem_map, zeros_get, List.getElem_replicate]
    rfl
/-- Is there a byte at off? -/
def hasB (n : Nat) (off : Int) : Bool := decide (0 ≤ off ∧ off < (n : Int))
theorem place_has (n : Nat) (off size : Int) : placeB n off size = (hasB n off && alB off size) := by
  unfold placeB hasB alB
  rw [Bool.eq_iff_iff]
  simp only [Bool.and_eq_true, decide_eq_true_eq]
  constructor
  · rintro ⟨a, b, c, d⟩; exact ⟨⟨b, c⟩, a, d⟩
  · rintro ⟨⟨b, c⟩, a, d⟩; exact ⟨a, b, c, d⟩
theorem has_four {bs : List Int} (h : OkM bs) (off : Int) : hasB bs.length off = decide (0 ≤ off ∧ off < 4 * ((bs.length / 4 : Nat) : Int)) := by
  have := h.four
  unfold hasB
  congr 1
  apply propext
  constructor <;> rintro ⟨a, b⟩ <;> constructor <;> omega
theorem word_put {bs : List Int} (h4 : bs.length % 4 = 0) (q : Nat) {x : Nat} (hx : x < 4294967296) (k : Nat) (hk : k < bs.length / 4) :
    wordAt (putL bs (4 * q) 4 x) k = if k = q then (x : Int) else wordAt bs k := by
  unfold wordAt
  rw [putL_get _ _ _ _ _ (by omega), putL_get _ _ _ _ _ (by omega), putL_get _ _ _ _ _ (by omega), putL_get _ _ _ _ _ (by omega)]
  by_cases e : k = q
  · subst e
    rw [if_pos rfl, if_pos (by omega), if_pos (by omega), if_pos (by omega), if_pos (by omega), show 4 * k - 4 * k = 0 by omega, show 4 * k + 1 - 4 * k = 1 by omega, show 4 * k + 2 - 4 * k = 2 by omega, show 4 * k + 3 - 4 * k = 3 by omega]
    simp only [Nat.reducePow]
    omega
  · rw [if_neg e, if_neg (by omega), if_neg (by omega), if_neg (by omega), if_neg (by omega)]
theorem take_is {bs : List Int} (h : OkM bs) {o : Nat} {size : Int} (ho : o < bs.length) : takeV (wordAt bs (o / 4)) o size = readV bs o size := by
  have hb := place_has bs.length o size
  have hh : hasB bs.length (o : Int) = true := decide_eq_true (by omega)
  rw [hh, Bool.true_and] at hb
  cases ha : alB (o : Int) size with
  | false => rw [Lane.take_no ha, read_no (hb.trans ha)]
  | true => unfold readV; rw [if_pos (hb.trans ha)]; rfl
theorem put_bd {bs : List Int} (h : OkM bs) (k : Nat) (off size : Int) (x : Nat) : 0 ≤ putV (wordAt bs k) off size x ∧ putV (wordAt bs k) off size x < 4294967296 := by
  cases ha : alB off size with
  | false => rw [Lane.put_no ha]; omega
  | true =>
    obtain ⟨s, k', hp, hs, rfl, _⟩ := Lane.place_of ha
    rw [Lane.put_at hp hs rfl]
    exact Lane.pN_bd hp (wordAt_bd h k).1 (wordAt_bd h k).2
theorem put_is {bs : List Int} (h : OkM bs) {o x : Nat} {size : Int} (hx : x < 4294967296) (ho : o < bs.length) (ha : alB (o : Int) size = true) : wv (writeV bs o size x) = (wv bs).set (o / 4) (.int .u32 (putV (wordAt bs (o / 4)) o size x)) := by
  have h4 := h.four
  have hb := place_has bs.length o size
  have hh : hasB bs.length (o : Int) = true := decide_eq_true (by omega)
  rw [hh, Bool.true_and] at hb
  have hv := put_bd h (o / 4) o size x
  have ew : writeV bs o size x = putL bs (4 * (o / 4)) 4 (putV (wordAt bs (o / 4)) o size x).toNat := by unfold writeV; rw [if_pos (hb.trans ha)]; rfl
  rw [ew]
  obtain ⟨X, hX⟩ : ∃ X : Nat, putV (wordAt bs (o / 4)) o size x = X := ⟨_, (Int.toNat_of_nonneg hv.1).symm⟩
  rw [hX] at hv ⊢
  rw [Int.toNat_natCast]
  apply List.ext_getElem?
  intro i
  by_cases hi : i < bs.length / 4
  · rw [wv_get _ (by rw [putL_length]; exact hi), word_put h4 (o / 4) (by omega) i hi, List.getElem?_set]
    by_cases e : i = o / 4
    · rw [if_pos e, if_pos e.symm, if_pos (by rw [wv_len]; omega)]
    · rw [if_neg e, if_neg (fun q => e q.symm), wv_get _ hi]
  · rw [List.getElem?_eq_none (by rw [wv_len, putL_length]; omega), List.getElem?_eq_none (by rw [List.length_set, wv_len]; omega)]
end Go.Proofs.YtknhgfofmkpnfaaGreat.Ram
/- Package ram: its small functions. Mem w b bs O: the memory in block b has the bytes bs; O: the blocks that are its own; the lanes' table lies apart from them. -/
namespace Go.Proofs.YtknhgfofmkpnfaaGreat.Ram
set_option linter.unusedSectionVars false
variable [Inhabited Lane.OTab]
open Go.RowKit Go.Maps Go.ChangeShapes Go.WideShapes Go.ChangeAt Fifo Orow Word
open Lane (takeV putV alB)
set_option linter.unusedVariables false

def I64 (x : Int) : Prop := -9223372036854775808 ≤ x ∧ x ≤ 9223372036854775807
/-- The block of the lanes' table. -/
def tabB : Nat := 0
theorem tab_only {S : Nat → Prop} {w w' : World} (h : Lane.Tab w) (ho : Only S w w') (hn : ¬ S tabB) : Lane.Tab w' := fun i hi => only_cell ho hn (h i hi)
theorem tab_lt {w : World} (h : Lane.Tab w) : tabB < w.heap.size := cell_lt (h 0 (by decide))
/-- A memory in block b, its words in block g. -/
structure MemS (w : World) (b g c : Nat) (bs : List Int) : Prop where
  head : Blk w b 184 [.slice (some ⟨g, 0, none⟩) (bs.length / 4) c, .pointer (some ⟨b, 0, none⟩)]
  row : w.ownsRow 0 23 1 (.slice (some ⟨g, 0, none⟩) (bs.length / 4) c) (bs.length / 4) (wv bs)
  tab : Lane.Tab w
  ne : b ≠ g
  nb : b ≠ tabB
  ng : g ≠ tabB
  ok : OkM bs
theorem MemS.only {S : Nat → Prop} {w w' : World} {b g c : Nat} {bs : List Int} (h : MemS w b g c bs) (ho : Only S w w') (hb : ¬ S b) (hg : ¬ S g) (ht : ¬ S tabB) : MemS w' b g c bs :=
  ⟨h.head.only ho hb, own_only h.row ho (fun j hj e => hg (by rw [← ba_some hj]; exact e)), tab_only h.tab ho ht, h.ne, h.nb, h.ng, h.ok⟩
theorem MemS.keep {w w' : World} {b g c : Nat} {bs : List Int} (h : MemS w b g c bs) (hb : Below w.heap.size w w') : MemS w' b g c bs :=
  ⟨h.head.keep hb, own_keep h.row hb, h.tab.below hb, h.ne, h.nb, h.ng, h.ok⟩
theorem MemS.cell {w : World} {b g c : Nat} {bs : List Int} (h : MemS w b g c bs) (k : Nat) (hk : k < bs.length / 4) : w.cell? ⟨g, k, none⟩ = some (.int .u32 (wordAt bs k)) := by
  have := own_cells h.row _ rfl k _ (wv_get bs hk)
  rwa [Go.WideShapes.add_plain, Nat.zero_add] at this
def Mem (w : World) (b : Nat) (bs : List Int) (O : Nat → Prop) : Prop := ∃ g c, MemS w b g c bs ∧ ∀ j, O j ↔ j = b ∨ j = g
theorem Mem.only {S O : Nat → Prop} {w w' : World} {b : Nat} {bs : List Int} (h : Mem w b bs O) (ho : Only S w w') (hn : ∀ j, O j → ¬ S j) (ht : ¬ S tabB) : Mem w' b bs O := by
  obtain ⟨g, c, h1, h2⟩ := h
  exact ⟨g, c, h1.only ho (hn b ((h2 b).2 (.inl rfl))) (hn g ((h2 g).2 (.inr rfl))) ht, h2⟩
theorem Mem.keep {O : Nat → Prop} {w w' : World} {b : Nat} {bs : List Int} (h : Mem w b bs O) (hb : Below w.heap.size w w') : Mem w' b bs O := by
  obtain ⟨g, c, h1, h2⟩ := h
  exact ⟨g, c, h1.keep hb, h2⟩
theorem Mem.lt {O : Nat → Prop} {w : World} {b : Nat} {bs : List Int} (h : Mem w b bs O) : ∀ j, O j → j < w.heap.size := by
  obtain ⟨g, c, h1, h2⟩ := h
  intro j hj
  rcases (h2 j).1 hj with rfl | rfl
  · exact h1.head.lt
  · exact (own_lt h1.row _ (ba_self _ _)).2
theorem Mem.ok {O : Nat → Prop} {w : World} {b : Nat} {bs : List Int} (h : Mem w b bs O) : OkM bs := by
  obtain ⟨g, c, h1, h2⟩ := h
  exact h1.ok
theorem Mem.tab {O : Nat → Prop} {w : World} {b : Nat} {bs : List Int} (h : Mem w b bs O) : Lane.Tab w := by
  obtain ⟨g, c, h1, h2⟩ := h
  exact h1.tab
theorem Mem.off {O : Nat → Prop} {w : World} {b : Nat} {bs : List Int} (h : Mem w b bs O) : ¬ O tabB := by
  obtain ⟨g, c, h1, h2⟩ := h
  intro e
  rcases (h2 _).1 e with e | e
  · exact h1.nb e.symm
  · exact h1.ng e.symm
/-- No memory: none at all, or one that was not answered. -/
def zeroCells : Array Value := #[.slice none 0 0, .pointer none]
def ZeroAt (w : World) (b : Nat) : Prop := Blk w b 184 zeroCells.toList
def Non (w : World) (v : Value) : Prop := v = .pointer none ∨ ∃ b, v = .pointer (some ⟨b, 0, none⟩) ∧ ZeroAt w b
theorem zero_new (w : World) : ZeroAt (w.alloc (.cells zeroCells 184)) w.heap.size := Blk.new w _ _
theorem ZeroAt.keep {w w' : World} {b : Nat} (h : ZeroAt w b) (hb : Below w.heap.size w w') : ZeroAt w' b := Blk.keep h hb
theorem Non.keep {w w' : World} {v : Value} (h : Non w v) (hb : Below w.heap.size w w') : Non w' v := by
  rcases h with rfl | ⟨b, rfl, h⟩
  · exact .inl rfl
  · exact .inr ⟨b, rfl, h.keep hb⟩

theorem ram_info : (Tryz.prog.info? 184).isSome = true := by kernel_rfl
theorem eq_own (a : Addr) (w : World) : (binOp .eql 78 (.pointer (some a)) (.pointer (some a))).run Tryz.prog w = .ok (.bool true) w := by
  obtain ⟨j, hj⟩ := Option.isSome_iff_exists.1 ram_info
  exact run_eql_ptr_same w a Tryz.underlying78 hj
theorem eq_nil (a : Addr) (w : World) : (binOp .eql 78 (.pointer none) (.pointer (some a))).run Tryz.prog w = .ok (.bool false) w := by
  have h : ∀ d : Nat, (Op.equalIn (d + 1) 78 (.pointer none) (.pointer (some a))).run Tryz.prog w = .ok false w := fun d => by
    simp [Op.equalIn, run_underlying Tryz.underlying78]
  simp only [binOp]
  simp [Op.equal, Op.maxDepth, h 9999]
theorem is_yes (b : Nat) (w : World) (h : w.cell? ⟨b, 1, none⟩ = some (.pointer (some ⟨b, 0, none⟩))) :
    Calls Tryz.prog 167 #[.pointer (some ⟨b, 0, none⟩)] w fun e w' => e = .returned (.bool true) ∧ w = w' := by
  have he := eq_own ⟨b, 0, none⟩ w
  go_enter Tryz.func167, Tryz.ntmps167
  go_wp2_with fail
  go_ret
  exact ⟨rfl, rfl⟩
theorem is_non (v : Value) (w : World) (h : Non w v) :
    Calls Tryz.prog 167 #[v] w fun e w' => e = .returned (.bool false) ∧ w = w' := by
  rcases h with rfl | ⟨b, rfl, h⟩
  · go_enter Tryz.func167, Tryz.ntmps167
    go_wp2_with fail
    go_ret
    exact ⟨rfl, rfl⟩
  · have c1 : w.cell? ⟨b, 1, none⟩ = some (.pointer none) := Blk.at h 1 rfl
    have he := eq_nil ⟨b, 0, none⟩ w
    clear h
    go_enter Tryz.func167, Tryz.ntmps167
    go_wp2_with fail
    go_ret
    exact ⟨rfl, rfl⟩
theorem memory_yes (b : Nat) (w : World) (h : w.cell? ⟨b, 1, none⟩ = some (.pointer (some ⟨b, 0, none⟩))) :
    Calls Tryz.prog 162 #[.pointer (some ⟨b, 0, none⟩)] w fun e w' => e = .returned (.pointer (some ⟨b, 0, none⟩)) ∧ w = w' := by
  have H := Lib.hid (is_yes b w h)
  clear h
  go_enter Tryz.func162, Tryz.ntmps162
  go_wp2_with fail
  refine H.out.mono ?_
  rintro e w1 ⟨rfl, rfl⟩
  go_wp2_with fail
  go_ret
  exact ⟨rfl, rfl⟩
theorem memory_non (v : Value) (w : World) (h : Non w v) :
    Calls Tryz.prog 162 #[v] w fun e w' => (∃ b, e = .returned (.pointer (some ⟨b, 0, none⟩)) ∧ ZeroAt w' b) ∧ Below w.heap.size w w' := by
  have H := Lib.hid (is_non v w h)
  clear h
  go_enter Tryz.func162, Tryz.ntmps162
  go_wp2_with fail
  refine H.out.mono ?_
  rintro e w1 ⟨rfl, rfl⟩
  go_wp2_with fail
  go_ret
  exact ⟨⟨_, rfl, zero_new w⟩, (Below.refl _ _).alloc (Nat.le_refl _) _⟩
theorem size_w (a : Option Addr) (n c : Nat) (w : World) (hn : n ≤ 1024) :
    Calls Tryz.prog 172 #[.slice a n c] w fun e w' => e = .returned (.int .i64 (4 * (n : Int))) ∧ w = w' := by
  have h1 : IntKind.i64.wrap (4 * (n : Int)) = 4 * (n : Int) := IntWalk.i64_in _ (by omega)
  go_enter Tryz.func172, Tryz.ntmps172
  go_wp2_with fail
  go_ret
  exact ⟨rfl, rfl⟩
theorem has_w (a : Option Addr) (n c : Nat) (off : Int) (b : Bool) (w : World) (hn : n ≤ 1024) (hb : decide (0 ≤ off ∧ off < 4 * (n : Int)) = b) :
    Calls Tryz.prog 168 #[.slice a n c, .int .i64 off] w fun e w' => e = .returned (.bool b) ∧ w = w' := by
  have H := Lib.hid (fun w => size_w a n c w hn)
  subst hb
  by_cases h0 : 0 ≤ off
  · have d0 : decide (0 ≤ off) = true := decide_eq_true h0
    have d1 : decide (0 ≤ off ∧ off < 4 * (n : Int)) = decide (off < 4 * (n : Int)) := by simp [h0]
    rw [d1]
    go_enter Tryz.func168, Tryz.ntmps168
    go_wp2_with (go_at_call 172; refine (H.out _).mono ?_; rintro e w' ⟨rfl, rfl⟩)
    go_ret
    exact ⟨rfl, rfl⟩
  · have d0 : decide (0 ≤ off) = false := decide_eq_false h0
    have d1 : decide (0 ≤ off ∧ off < 4 * (n : Int)) = false := by simp [h0]
    rw [d1]
    go_enter Tryz.func168, Tryz.ntmps168
    go_wp2_with (go_at_call 172; refine (H.out _).mono ?_; rintro e w' ⟨rfl, rfl⟩)
    go_ret
    exact ⟨rfl, rfl⟩
theorem told_no (a : Option Addr) (n c : Nat) (off : Int) (f : Value) (w : World) (hn : n ≤ 1024) (hb : decide (0 ≤ off ∧ off < 4 * (n : Int)) = false) :
    Calls Tryz.prog 163 #[.slice a n c, .int .i64 off, f] w fun e w' => e = .returned (.tuple #[.int .u32 0, .bool false]) ∧ w = w' := by
  have H := Lib.hid (has_w a n c off false w hn hb)
  clear hb
  go_enter Tryz.func163, Tryz.ntmps163
  go_wp2_with fail
  refine H.out.mono ?_
  rintro e w1 ⟨rfl, rfl⟩
  go_wp2_with fail
  go_ret2
  exact ⟨rfl, rfl⟩
theorem taken_w (o : Nat) (size v x : Int) (is : Bool) (w : World) (ho : o < 4096) (hv : 0 ≤ v) (hv' : v < 4294967296) (ht : Lane.Tab w) (hx : takeV v o size = x) (hb : alB o size = is) :
    Calls Tryz.prog 164 #[.agg #[.int .i64 o, .int .i64 size], .int .u32 v] w fun e w' => e = .returned (.tuple #[.int .u32 x, .bool is]) ∧ Below w.heap.size w w' := by
  have h1 : IntKind.u32.wrap (o : Int) = (o : Int) := IntWalk.u32_in _ (by omega)
  have H := Lib.hid (fun w ht => Lane.Take_any o size v x is w (by omega) (by omega) hv hv' ht hx hb)
  have Ht := Lib.hid ht
  clear hx hb ht hv hv' ho
  go_enter Tryz.func164, Tryz.ntmps164
  go_wp2_with fail
  refine (H.out _ (Ht.out.below ((Below.refl _ _).alloc (Nat.le_refl _) _))).mono ?_
  rintro e w1 ⟨rfl, hb⟩
  have Hb := Lib.hid (((Below.refl w.heap.size w).alloc (Nat.le_refl _) _).trans (hb.mono (by simp)))
  clear hb
  go_wp2_with fail
  go_ret2
  exact ⟨rfl, Hb.out⟩
end Go.Proofs.YtknhgfofmkpnfaaGreat.Ram
/- Package ram's contracts: Len, Reset, Read. -/
namespace Go.Proofs.YtknhgfofmkpnfaaGreat.Ram
set_option linter.unusedSectionVars false
variable [Inhabited Lane.OTab]
open Go.RowKit Go.Maps Go.ChangeShapes Go.WideShapes Go.ChangeAt Fifo Orow Word
open Lane (takeV putV alB)
set_option linter.unusedVariables false

theorem quo_4 (o : Nat) (h : o < 4096) : wrap64 ((o : Int) / 4) = ((o / 4 : Nat) : Int) := by
  rw [IntWalk.wrap64_in _ (by omega)]
  omega
theorem clear_nil (w : World) (ty : TypeId) : (Builtin.clear_ #[172] ty #[.slice none 0 0]).run Tryz.prog w = .ok (.tuple #[]) w := by
  simp [Builtin.clear_, run_underlying Tryz.underlying172, go_sem]
theorem told_take (g n c o : Nat) (size v x : Int) (is : Bool) (w : World) (hn : n ≤ 1024) (ho : o < 4 * n) (hc : w.cell? ⟨g, o / 4, none⟩ = some (.int .u32 v)) (hv : 0 ≤ v) (hv' : v < 4294967296) (ht : Lane.Tab w) (hx : takeV v o size = x) (hb : alB o size = is) :
    Calls Tryz.prog 163 #[.slice (some ⟨g, 0, none⟩) n c, .int .i64 o, .func (.func 164) #[.agg #[.int .i64 o, .int .i64 size]] #[]] w fun e w' => e = .returned (.tuple #[.int .u32 x, .bool is]) ∧ Below w.heap.size w w' := by
  have H := Lib.hid (has_w (some ⟨g, 0, none⟩) n c o true w hn (decide_eq_true (by omega)))
  have T := Lib.hid (taken_w o size v x is w (by omega) hv hv' ht hx hb)
  have hq := quo_4 o (by omega)
  obtain ⟨q, hq0⟩ : ∃ q, o / 4 = q := ⟨_, rfl⟩
  rw [hq0] at hq hc
  have i1 : (0 : Int) ≤ (q : Int) := by omega
  have i2 : (q : Int) < (n : Int) := by omega
  clear hx hb ht hv hv' hq0 ho
  go_enter Tryz.func163, Tryz.ntmps163
  go_wp2_with fail
  refine H.out.mono ?_
  rintro e w1 ⟨rfl, rfl⟩
  go_wp2_with fail
  refine T.out.mono ?_
  rintro e w1 ⟨rfl, hb⟩
  have Hb := Lib.hid hb
  clear hb
  go_wp2_with fail
  go_ret2
  exact ⟨rfl, Hb.out⟩
theorem Len_any (b : Nat) (bs : List Int) (O : Nat → Prop) (w : World) (h : Mem w b bs O) :
    Calls Tryz.prog 191 #[.pointer (some ⟨b, 0, none⟩)] w fun e w' => e = .returned (.int .i64 (bs.length : Nat)) ∧ Below w.heap.size w w' := by
  obtain ⟨g, c, h, _⟩ := h
  have h4 := h.ok.four
  have h5 := h.ok.hi
  have c0 := h.head.at 0 rfl
  have M := Lib.hid (memory_yes b w (h.head.at 1 rfl))
  have S := Lib.hid (size_w (some ⟨g, 0, none⟩) (bs.length / 4) c w (by omega))
  rw [show ((bs.length : Nat) : Int) = 4 * ((bs.length / 4 : Nat) : Int) by omega]
  clear h h4 h5
  go_enter Tryz.func191, Tryz.ntmps191
  go_wp2_with fail
  refine M.out.mono ?_
  rintro e w1 ⟨rfl, rfl⟩
  go_wp2_with fail
  refine S.out.mono ?_
  rintro e w1 ⟨rfl, rfl⟩
  go_wp2_with fail
  go_ret
  exact ⟨rfl, Below.refl _ _⟩
theorem Len_non (v : Value) (w : World) (h : Non w v) :
    Calls Tryz.prog 191 #[v] w fun e w' => e = .returned (.int .i64 0) ∧ Below w.heap.size w w' := by
  have M := Lib.hid (memory_non v w h)
  have S := Lib.hid (fun w => size_w none 0 0 w (by omega))
  clear h
  go_enter Tryz.func191, Tryz.ntmps191
  go_wp2_with fail
  refine M.out.mono ?_
  rintro e w1 ⟨⟨b, rfl, hz⟩, hb⟩
  have c0 := Blk.at hz 0 rfl
  have Hb := Lib.hid hb
  clear hb hz
  go_wp2_with fail
  refine (S.out _).mono ?_
  rintro e w2 ⟨rfl, rfl⟩
  go_wp2_with fail
  go_ret
  exact ⟨rfl, Hb.out⟩
theorem info_w : (Tryz.prog.info? 23).map (fun i => (i.zero, i.size, i.bytes)) = some (some (.int .u32 0), 1, 4) := by kernel_rfl
theorem zero_w (w : World) : (zeroValue 23).run Tryz.prog w = .ok (.int .u32 0) w := by
  obtain ⟨i0, hi, hz0, hz1, hz2⟩ := info_parts info_w
  simp [zeroValue, typeInfo, hi, hz0]
/-- Cells of a block that is known are stored. -/
theorem set_cells {g : Nat} {t : TypeId} : ∀ (vs : List Value) (o : Nat) (w : World) (cur : List Value), Blk w g t cur → o + vs.length ≤ cur.length → Blk (w.setCells g o vs) g t (cur.take o ++ vs ++ cur.drop (o + vs.length)) ∧ Only (fun j => j = g) w (w.setCells g o vs) := by
  intro vs
  induction vs with
  | nil => intro o w cur h _; exact ⟨by simpa [World.setCells] using h, Only.refl _ _⟩
  | cons v r ih =>
    intro o w cur h hl
    simp only [List.length_cons] at hl
    obtain ⟨h1, h2⟩ := ih (o + 1) _ _ (h.set o v) (by rw [List.length_set]; omega)
    rw [World.setCells]
    refine ⟨?_, ((Only.refl (fun j => j = g) w).setCell (p := ⟨g, o, none⟩) rfl v).trans h2⟩
    have e : (cur.set o v).take (o + 1) ++ r ++ (cur.set o v).drop (o + 1 + r.length) = cur.take o ++ v :: r ++ cur.drop (o + (v :: r).length) := by
      rw [List.take_add_one, List.take_set_of_le (Nat.le_refl _), List.getElem?_set_self (by omega), List.drop_set_of_lt (by omega), List.length_cons, show o + 1 + r.length = o + (r.length + 1) by omega]
      simp
    rw [e] at h1
    exact h1
theorem Read_any (b : Nat) (bs : List Int) (O : Nat → Prop) (off size v : Int) (is : Bool) (w : World) (h1 : I64 off) (h2 : I64 size) (h : Mem w b bs O) (hv : readV bs off size = v) (hb : placeB bs.length off size = is) :
    Calls Tryz.prog 159 #[.pointer (some ⟨b, 0, none⟩), .int .i64 off, .int .i64 size] w fun e w' => e = .returned (.tuple #[.int .u32 v, .bool is]) ∧ Below w.heap.size w w' := by
  have hmf : ∀ (fn : Fn) (first cap : Array Value) (w : World), (Instr.makeFunc fn first cap).run Tryz.prog w = .ok (.func fn first cap) w := fun _ _ _ _ => rfl
  obtain ⟨g, c, h, hO⟩ := h
  have h4 := h.ok.four
  have h5 := h.ok.lo
  have h6 := h.ok.hi
  obtain ⟨n, hn⟩ : ∃ n, bs.length / 4 = n := ⟨_, rfl⟩
  have T : ∀ W, Below w.heap.size w W → Calls Tryz.prog 163 #[.slice (some ⟨g, 0, none⟩) n c, .int .i64 off, .func (.func 164) #[.agg #[.int .i64 off, .int .i64 size]] #[]] W fun e w' => e = .returned (.tuple #[.int .u32 v, .bool is]) ∧ Below W.heap.size W w' := by
    intro W hW
    have hp := place_has bs.length off size
    cases hh : hasB bs.length off with
    | false =>
      rw [hh, Bool.false_and] at hp
      rw [hp] at hb
      rw [read_no hp] at hv
      subst hb hv
      rw [has_four h.ok, hn] at hh
      refine (told_no _ n c off _ W (by omega) hh).mono ?_
      rintro e w' ⟨rfl, rfl⟩
      exact ⟨rfl, Below.refl _ _⟩
    | true =>
      obtain ⟨o, rfl⟩ : ∃ o : Nat, off = o := ⟨off.toNat, by have := of_decide_eq_true hh; omega⟩
      have ho : o < bs.length := by have := of_decide_eq_true hh; omega
      rw [hh, Bool.true_and, hb] at hp
      have hbd := wordAt_bd h.ok (o / 4)
      exact told_take g n c o size (wordAt bs (o / 4)) v is W (by omega) (by omega) ((h.keep hW).cell _ (by omega)) hbd.1 hbd.2 ((h.keep hW).tab) ((take_is h.ok ho).trans hv) hp.symm
  have M : ∀ W, Below w.heap.size w W → Calls Tryz.prog 162 #[.pointer (some ⟨b, 0, none⟩)] W fun e w' => e = .returned (.pointer (some ⟨b, 0, none⟩)) ∧ W = w' := fun W hW => memory_yes b W ((h.keep hW).head.at 1 rfl)
  have C0 : ∀ W, Below w.heap.size w W → W.cell? ⟨b, 0, none⟩ = some (.slice (some ⟨g, 0, none⟩) n c) := fun W hW => by rw [← hn]; exact (h.keep hW).head.at 0 rfl
  have HT := Lib.hid T
  have HM := Lib.hid M
  have HC := Lib.hid C0
  clear T M C0 h hO h4 h5 h6 hn hv hb
  go_enter Tryz.func159, Tryz.ntmps159
  go_wp2_with fail
  refine region_letter 2 rfl ?_
  intro X hX
  obtain ⟨k, hk⟩ : ∃ k, w.heap.size = k := ⟨_, rfl⟩
  have B0 : Below w.heap.size w X := by rw [hX.out]; exact (Below.refl _ _).alloc (Nat.le_refl _) _
  have q0 : ∀ w', Below X.heap.size X w' → w'.cell? ⟨k, 0, none⟩ = some (.int .i64 off) := fun w' h => by
    rw [← hk]; exact cell_keep h (by rw [hX.out]; exact World.cell?_alloc_at _ _ _ 0 rfl)
  have q1 : ∀ w', Below X.heap.size X w' → w'.cell? ⟨k, 1, none⟩ = some (.int .i64 size) := fun w' h => by
    rw [← hk]; exact cell_keep h (by rw [hX.out]; exact World.cell?_alloc_at _ _ _ 1 rfl)
  have q2 : ∀ w', Below X.heap.size X w' → w'.cell? ⟨b, 0, none⟩ = some (.slice (some ⟨g, 0, none⟩) n c) := fun w' h => HC.out w' (B0.trans (h.mono B0.size))
  have BX := Lib.hid (fun w' (h : Below X.heap.size X w') => B0.trans (h.mono B0.size))
  have hS0 : Below X.heap.size X X.drew := (Below.refl _ _).drew
  rw [hk]
  clear hX hk B0 HC
  go_region_held3 (fun w' => Below X.heap.size X w')
    (first | assumption)
    (first
      | (go_at_call 162; refine (HM.out _ (BX.out _ (by assumption))).mono ?_; rintro e w' ⟨rfl, rfl⟩)
      | (go_at_call 163; refine (HT.out _ (BX.out _ (by assumption))).mono ?_; rintro e w' ⟨rfl, hb⟩; have hoS : Below X.heap.size X w' := (show Below X.heap.size X _ by assumption).trans (hb.mono (Below.size (by assumption)))))
  all_goals
    go_wp2_with fail
    go_ret2
    exact ⟨rfl, BX.out _ hoS⟩
set_option maxHeartbeats 4000000 in
theorem Read_non (v : Value) (off size : Int) (w : World) (h1 : I64 off) (h2 : I64 size) (h : Non w v) :
    Calls Tryz.prog 159 #[v, .int .i64 off, .int .i64 size] w fun e w' => e = .returned (.tuple #[.int .u32 0, .bool false]) ∧ Below w.heap.size w w' := by
  have hmf : ∀ (fn : Fn) (first cap : Array Value) (w : World), (Instr.makeFunc fn first cap).run Tryz.prog w = .ok (.func fn first cap) w := fun _ _ _ _ => rfl
  have HT := Lib.hid (fun f W => told_no none 0 0 off f W (by omega) (decide_eq_false (by omega)))
  have HM := Lib.hid (fun W (hW : Below w.heap.size w W) => memory_non v W (h.keep hW))
  clear h h1 h2
  go_enter Tryz.func159, Tryz.ntmps159
  go_wp2_with fail
  refine region_letter 2 rfl ?_
  intro X hX
  obtain ⟨k, hk⟩ : ∃ k, w.heap.size = k := ⟨_, rfl⟩
  have B0 : Below w.heap.size w X := by rw [hX.out]; exact (Below.refl _ _).alloc (Nat.le_refl _) _
  have q0 : ∀ w', Below X.heap.size X w' → w'.cell? ⟨k, 0, none⟩ = some (.int .i64 off) := fun w' h => by
    rw [← hk]; exact cell_keep h (by rw [hX.out]; exact World.cell?_alloc_at _ _ _ 0 rfl)
  have q1 : ∀ w', Below X.heap.size X w' → w'.cell? ⟨k, 1, none⟩ = some (.int .i64 size) := fun w' h => by
    rw [← hk]; exact cell_keep h (by rw [hX.out]; exact World.cell?_alloc_at _ _ _ 1 rfl)
  have BX := Lib.hid (fun w' (h : Below X.heap.size X w') => B0.trans (h.mono B0.size))
  have hS0 : Below X.heap.size X X.drew := (Below.refl _ _).drew
  rw [hk]
  clear hX hk B0
  have Q0 := q0 _ hS0
  have Q1 := q1 _ hS0
  have MX := Lib.hid (HM.out _ (BX.out _ hS0))
  have hS1 := Lib.hid (fun w' (h : Below X.heap.size X.drew w') => (show Below X.heap.size X w' from hS0.trans (h.mono hS0.size)))
  go_region_with ((first | (go_at_call 162; refine MX.out.mono ?_; rintro e w' ⟨⟨z, rfl, hz⟩, hb⟩; have hoS := hS1.out w' hb; have c0 := Blk.at hz 0 rfl; have Q0' := q0 _ hoS; have Q1' := q1 _ hoS) | (go_at_call 163; refine (HT.out _ _).mono ?_; rintro e w' ⟨rfl, rfl⟩)))
  all_goals
    go_wp2_with fail
    go_ret2
    exact ⟨rfl, BX.out _ hoS⟩
end Go.Proofs.YtknhgfofmkpnfaaGreat.Ram
/- Package ram's contracts: Write. -/
namespace Go.Proofs.YtknhgfofmkpnfaaGreat.Ram
set_option linter.unusedSectionVars false
variable [Inhabited Lane.OTab]
open Go.RowKit Go.Maps Go.ChangeShapes Go.WideShapes Go.ChangeAt Fifo Orow Word
open Lane (takeV putV alB)
set_option linter.unusedVariables false

theorem putting_w (off size v : Int) (w : World) :
    Calls Tryz.prog 166 #[.agg #[.int .i64 off, .int .i64 size], .int .u32 v] w fun e w' => (∃ p q, e = .returned (.func (.func 170) #[] #[.pointer (some ⟨p, 0, none⟩), .pointer (some ⟨q, 0, none⟩)]) ∧ w'.cell? ⟨p, 0, none⟩ = some (.int .i64 off) ∧ w'.cell? ⟨p, 1, none⟩ = some (.int .i64 size) ∧ w'.cell? ⟨q, 0, none⟩ = some (.int .u32 v)) ∧ Below w.heap.size w w' := by
  have hmf : ∀ (fn : Fn) (first cap : Array Value) (w : World), (Instr.makeFunc fn first cap).run Tryz.prog w = .ok (.func fn first cap) w := fun _ _ _ _ => rfl
  go_enter Tryz.func166, Tryz.ntmps166
  go_wp2_with fail
  go_ret
  refine ⟨⟨_, _, rfl, ?_, ?_, World.cell?_alloc_at _ _ _ 0 (by simp)⟩, ((Below.refl _ _).alloc (Nat.le_refl _) _).alloc (by simp) _⟩
  · exact cell_keep ((Below.refl _ _).alloc (Nat.le_refl _) _) (World.cell?_alloc_at _ _ _ 0 rfl)
  · exact cell_keep ((Below.refl _ _).alloc (Nat.le_refl _) _) (World.cell?_alloc_at _ _ _ 1 rfl)
theorem putting_1 (o p q : Nat) (size d v x : Int) (is : Bool) (w : World) (ho : o < 4096) (hv : 0 ≤ v) (hv' : v < 4294967296) (hd : 0 ≤ d) (p0 : w.cell? ⟨p, 0, none⟩ = some (.int .i64 o)) (p1 : w.cell? ⟨p, 1, none⟩ = some (.int .i64 size)) (q0 : w.cell? ⟨q, 0, none⟩ = some (.int .u32 d)) (ht : Lane.Tab w) (hx : putV v o size d = x) (hb : alB o size = is) :
    Calls Tryz.prog 170 #[.int .u32 v, .pointer (some ⟨p, 0, none⟩), .pointer (some ⟨q, 0, none⟩)] w fun e w' => e = .returned (.tuple #[.int .u32 x, .bool is]) ∧ Below w.heap.size w w' := by
  have h1 : IntKind.u32.wrap (o : Int) = (o : Int) := IntWalk.u32_in _ (by omega)
  have H := Lib.hid (Lane.Put_any o size v d x is w (by omega) (by omega) hv hv' hd ht hx hb)
  clear hx hb ht hv hv' ho hd
  go_enter Tryz.func170, Tryz.ntmps170
  go_wp2_with fail
  refine H.out.mono ?_
  rintro e w1 ⟨rfl, hb⟩
  have Hb := Lib.hid hb
  clear hb
  go_wp2_with fail
  go_ret2
  exact ⟨rfl, Hb.out⟩
theorem told_put (g n c o p q : Nat) (size d v x : Int) (is : Bool) (w : World) (hn : n ≤ 1024) (ho : o < 4 * n) (hc : w.cell? ⟨g, o / 4, none⟩ = some (.int .u32 v)) (hv : 0 ≤ v) (hv' : v < 4294967296) (hd : 0 ≤ d) (p0 : w.cell? ⟨p, 0, none⟩ = some (.int .i64 o)) (p1 : w.cell? ⟨p, 1, none⟩ = some (.int .i64 size)) (q0 : w.cell? ⟨q, 0, none⟩ = some (.int .u32 d)) (ht : Lane.Tab w) (hx : putV v o size d = x) (hb : alB o size = is) :
    Calls Tryz.prog 163 #[.slice (some ⟨g, 0, none⟩) n c, .int .i64 o, .func (.func 170) #[] #[.pointer (some ⟨p, 0, none⟩), .pointer (some ⟨q, 0, none⟩)]] w fun e w' => e = .returned (.tuple #[.int .u32 x, .bool is]) ∧ Below w.heap.size w w' := by
  have H := Lib.hid (has_w (some ⟨g, 0, none⟩) n c o true w hn (decide_eq_true (by omega)))
  have T := Lib.hid (putting_1 o p q size d v x is w (by omega) hv hv' hd p0 p1 q0 ht hx hb)
  have hq := quo_4 o (by omega)
  obtain ⟨q, hq0⟩ : ∃ q, o / 4 = q := ⟨_, rfl⟩
  rw [hq0] at hq hc
  have i1 : (0 : Int) ≤ (q : Int) := by omega
  have i2 : (q : Int) < (n : Int) := by omega
  clear hx hb ht hv hv' hq0 ho p0 p1 q0 hd
  go_enter Tryz.func163, Tryz.ntmps163
  go_wp2_with fail
  refine H.out.mono ?_
  rintro e w1 ⟨rfl, rfl⟩
  go_wp2_with fail
  refine T.out.mono ?_
  rintro e w1 ⟨rfl, hb⟩
  have Hb := Lib.hid hb
  clear hb
  go_wp2_with fail
  go_ret2
  exact ⟨rfl, Hb.out⟩
theorem changed_no (s f : Value) (off x : Int) (w : World) (T : Calls Tryz.prog 163 #[s, .int .i64 off, f] w fun e w' => e = .returned (.tuple #[.int .u32 x, .bool false]) ∧ Below w.heap.size w w') :
    Calls Tryz.prog 165 #[s, .int .i64 off, f] w fun e w' => e = .returned (.bool false) ∧ Below w.heap.size w w' := by
  have T := Lib.hid T
  go_enter Tryz.func165, Tryz.ntmps165
  go_wp2_with fail
  refine T.out.mono ?_
  rintro e w1 ⟨rfl, hb⟩
  have Hb := Lib.hid hb
  clear hb
  go_wp2_with fail
  go_ret
  exact ⟨rfl, Hb.out⟩
theorem changed_yes (g n c o : Nat) (f : Value) (x : Int) (L : List Value) (w : World) (hn : n ≤ 1024) (ho : o < 4 * n) (h : w.ownsRow 0 23 1 (.slice (some ⟨g, 0, none⟩) n c) n L) (T : Calls Tryz.prog 163 #[.slice (some ⟨g, 0, none⟩) n c, .int .i64 o, f] w fun e w' => e = .returned (.tuple #[.int .u32 x, .bool true]) ∧ Below w.heap.size w w') :
    Calls Tryz.prog 165 #[.slice (some ⟨g, 0, none⟩) n c, .int .i64 o, f] w fun e w' => e = .returned (.bool true) ∧ w'.ownsRow 0 23 1 (.slice (some ⟨g, 0, none⟩) n c) n (L.set (o / 4) (.int .u32 x)) ∧ Only (fun j => j = g) w w' := by
  have T := Lib.hid T
  have hq := quo_4 o (by omega)
  obtain ⟨q, hq0⟩ : ∃ q, o / 4 = q := ⟨_, rfl⟩
  rw [hq0] at hq ⊢
  have hqn : q < n := by omega
  have i1 : (0 : Int) ≤ (q : Int) := by omega
  have i2 : (q : Int) < (n : Int) := by omega
  have H := Lib.hid h
  clear hq0 ho h
  go_enter Tryz.func165, Tryz.ntmps165
  go_wp2_with fail
  refine T.out.mono ?_
  rintro e w1 ⟨rfl, hb⟩
  obtain ⟨cur, u1, u2, u3, u4, u5, u6⟩ := own_blk (own_keep H.out hb)
  have Hb := Lib.hid hb
  have hl := (own_keep H.out hb).1
  have fz := u1.frozen q
  obtain ⟨y, hy⟩ : ∃ y, cur[q]? = some y := ⟨_, List.getElem?_eq_getElem (by omega)⟩
  have cq := u1.at q hy
  have U1 := Lib.hid u1
  clear hb hy u1
  go_wp2_with fail
  go_ret
  refine ⟨rfl, blk_own (U1.out.set q (.int .u32 x)) ?_ (by rw [List.length_set]; exact u3) u4 u5 u6, (Only.of_below (S := fun j => j = g) Hb.out).setCell (p := ⟨g, q, none⟩) rfl _⟩
  rw [List.take_set, u2]
set_option maxHeartbeats 1000000 in
theorem Write_any (b : Nat) (bs : List Int) (O : Nat → Prop) (off size v : Int) (is : Bool) (w : World) (h1 : I64 off) (h2 : I64 size) (h3 : 0 ≤ v) (h4 : v < 4294967296) (h : Mem w b bs O) (hb : placeB bs.length off size = is) :
    Calls Tryz.prog 161 #[.pointer (some ⟨b, 0, none⟩), .int .i64 off, .int .i64 size, .int .u32 v] w fun e w' => e = .returned (.bool is) ∧ ∃ O', Mem w' b (writeV bs off size v.toNat) O' ∧ Only O w w' ∧ ∀ j, O' j → O j ∨ w.heap.size ≤ j := by
  obtain ⟨x, rfl⟩ : ∃ x : Nat, v = (x : Int) := ⟨v.toNat, by omega⟩
  rw [Int.toNat_natCast]
  obtain ⟨g, c, h, hO⟩ := h
  have a4 := h.ok.four
  have a5 := h.ok.lo
  have a6 := h.ok.hi
  have hgw : g < w.heap.size := (own_lt h.row _ (ba_self _ _)).2
  obtain ⟨n, hn⟩ : ∃ n, bs.length / 4 = n := ⟨_, rfl⟩
  have HC : ∀ (W : World) (p q : Nat), MemS W b g c bs → W.cell? ⟨p, 0, none⟩ = some (.int .i64 off) → W.cell? ⟨p, 1, none⟩ = some (.int .i64 size) → W.cell? ⟨q, 0, none⟩ = some (.int .u32 x) →
      Calls Tryz.prog 165 #[.slice (some ⟨g, 0, none⟩) n c, .int .i64 off, .func (.func 170) #[] #[.pointer (some ⟨p, 0, none⟩), .pointer (some ⟨q, 0, none⟩)]] W fun e w' => e = .returned (.bool is) ∧ w'.ownsRow 0 23 1 (.slice (some ⟨g, 0, none⟩) n c) n (wv (writeV bs off size x)) ∧ Only (fun j => j = g) W w' := by
    intro W p q hM p0 p1 q0
    have hp := place_has bs.length off size
    have hrow := hM.row
    rw [hn] at hrow
    cases hh : hasB bs.length off with
    | false =>
      rw [hh, Bool.false_and] at hp
      rw [hp] at hb
      subst hb
      rw [has_four h.ok, hn] at hh
      refine (changed_no _ _ off 0 W ((told_no _ n c off _ W (by omega) hh).mono ?_)).mono ?_
      · rintro e w' ⟨rfl, rfl⟩
        exact ⟨rfl, Below.refl _ _⟩
      · rintro e w' ⟨rfl, hb⟩
        rw [write_no hp]
        exact ⟨rfl, own_keep hrow hb, Only.of_below hb⟩
    | true =>
      obtain ⟨o, rfl⟩ : ∃ o : Nat, off = o := ⟨off.toNat, by have := of_decide_eq_true hh; omega⟩
      have ho : o < bs.length := by have := of_decide_eq_true hh; omega
      rw [hh, Bool.true_and, hb] at hp
      have hbd := wordAt_bd h.ok (o / 4)
      have T := told_put g n c o p q size x (wordAt bs (o / 4)) _ is W (by omega) (by omega) (hM.cell _ (by omega)) hbd.1 hbd.2 (by omega) p0 p1 q0 hM.tab rfl hp.symm
      cases is with
      | false =>
        refine (changed_no _ _ _ _ W T).mono ?_
        rintro e w' ⟨rfl, hb2⟩
        rw [write_no hb]
        exact ⟨rfl, own_keep hrow hb2, Only.of_below hb2⟩
      | true =>
        refine (changed_yes g n c o _ _ _ W (by omega) (by omega) hrow T).mono ?_
        rintro e w' ⟨rfl, k1, k2⟩
        rw [put_is h.ok (by omega) ho hp.symm]
        exact ⟨rfl, k1, k2⟩
  have H := Lib.hid h
  have Hn := Lib.hid hn
  have HL : Hid ((writeV bs off size x).length = bs.length) := Lib.hid (write_length ..)
  have HK := Lib.hid (write_ok h.ok off size x)
  have HC := Lib.hid HC
  clear h hb hn h1 h2 h3 h4 a4 a5 a6
  go_enter Tryz.func161, Tryz.ntmps161
  go_wp2_with fail
  refine region_letter 2 rfl ?_
  intro X hX
  obtain ⟨k, hk⟩ : ∃ k, w.heap.size = k := ⟨_, rfl⟩
  have B0 : Below w.heap.size w X := by rw [hX.out]; exact (Below.refl _ _).alloc (Nat.le_refl _) _
  have hkg : k ≠ g := by omega
  have q0 : ∀ w', Only (fun j => j = g) X w' → w'.cell? ⟨k, 0, none⟩ = some (.int .i64 off) := fun w' h => by
    refine only_cell h hkg ?_
    rw [hX.out, ← hk]; exact World.cell?_alloc_at _ _ _ 0 rfl
  have q1 : ∀ w', Only (fun j => j = g) X w' → w'.cell? ⟨k, 1, none⟩ = some (.int .i64 size) := fun w' h => by
    refine only_cell h hkg ?_
    rw [hX.out, ← hk]; exact World.cell?_alloc_at _ _ _ 1 rfl
  have q2 : ∀ w', Only (fun j => j = g) X w' → w'.cell? ⟨b, 0, none⟩ = some (.slice (some ⟨g, 0, none⟩) n c) := fun w' h => by
    refine only_cell h (show ¬ b = g from H.out.ne) ?_
    rw [← Hn.out]
    exact (H.out.keep B0).head.at 0 rfl
  have HM := Lib.hid (fun W (h : Only (fun j => j = g) X W) => memory_yes b W (only_cell h (show ¬ b = g from H.out.ne) ((H.out.keep B0).head.at 1 rfl)))
  have HX := Lib.hid (show MemS X.drew b g c bs from (H.out.keep B0).keep (Below.refl _ _).drew)
  have BX := Lib.hid B0
  have hS0 : Only (fun j => j = g) X X.drew := only_drew2 (Only.refl _ _)
  rw [hk]
  clear hX hk B0 hkg
  go_region_held3 (fun w' => Only (fun j => j = g) X w')
    (first | assumption)
    (first
      | (go_at_call 165; refine (HC.out _ _ _ (hMp) (by assumption) (by assumption) (by assumption)).mono ?_; rintro e w' ⟨rfl, hrow, hoo⟩; have hoS : Only (fun j => j = g) X w' := hoP.trans hoo)
      | (go_at_call 162; refine (HM.out _ (by assumption)).mono ?_; rintro e w' ⟨rfl, rfl⟩)
      | (go_at_call 166; refine (putting_w off size x _).mono ?_; rintro e w' ⟨⟨p, q, rfl, c0, c1, c2⟩, hb⟩; have hMp := HX.out.keep hb; have hoP : Only (fun j => j = g) X w' := (show Only (fun j => j = g) X _ by assumption).trans (Only.of_below hb)))
  go_wp2_with fail
  go_ret
  have hO1 : Only (fun j => j = g) w w' := (Only.of_below BX.out).trans hoS
  refine ⟨rfl, O, ⟨g, c, ⟨?_, ?_, tab_only H.out.tab hO1 (fun e => H.out.ng e.symm), H.out.ne, H.out.nb, H.out.ng, HK.out⟩, hO⟩, hO1.mono (fun j _ e => (hO j).2 (.inr e)), fun j hj => .inl hj⟩
  · rw [HL.out]
    exact H.out.head.only hO1 H.out.ne
  · rw [HL.out, Hn.out]
    exact hrow
set_option maxHeartbeats 8000000 in
theorem Write_non (v : Value) (off size x : Int) (w : World) (h1 : I64 off) (h2 : I64 size) (h3 : 0 ≤ x) (h4 : x < 4294967296) (h : Non w v) :
    Calls Tryz.prog 161 #[v, .int .i64 off, .int .i64 size, .int .u32 x] w fun e w' => e = .returned (.bool false) ∧ Below w.heap.size w w' := by
  have HC : ∀ f W, Calls Tryz.prog 165 #[.slice none 0 0, .int .i64 off, f] W fun e w' => e = .returned (.bool false) ∧ Below W.heap.size W w' := fun f W =>
    changed_no _ f off 0 W ((told_no none 0 0 off f W (by omega) (decide_eq_false (by omega))).mono (by rintro e w' ⟨rfl, rfl⟩; exact ⟨rfl, Below.refl _ _⟩))
  have HC := Lib.hid HC
  have HM := Lib.hid (fun W (hW : Below w.heap.size w W) => memory_non v W (h.keep hW))
  clear h h1 h2 h3 h4
  go_enter Tryz.func161, Tryz.ntmps161
  go_wp2_with fail
  refine region_letter 2 rfl ?_
  intro X hX
  obtain ⟨k, hk⟩ : ∃ k, w.heap.size = k := ⟨_, rfl⟩
  have B0 : Below w.heap.size w X := by rw [hX.out]; exact (Below.refl _ _).alloc (Nat.le_refl _) _
  have q0 : ∀ w', Below X.heap.size X w' → w'.cell? ⟨k, 0, none⟩ = some (.int .i64 off) := fun w' h => by
    rw [← hk]; exact cell_keep h (by rw [hX.out]; exact World.cell?_alloc_at _ _ _ 0 rfl)
  have q1 : ∀ w', Below X.heap.size X w' → w'.cell? ⟨k, 1, none⟩ = some (.int .i64 size) := fun w' h => by
    rw [← hk]; exact cell_keep h (by rw [hX.out]; exact World.cell?_alloc_at _ _ _ 1 rfl)
  have BX := Lib.hid (fun w' (h : Below X.heap.size X w') => B0.trans (h.mono B0.size))
  have hS0 : Below X.heap.size X X.drew := (Below.refl _ _).drew
  rw [hk]
  clear hX hk B0
  have Q0 := q0 _ hS0
  have Q1 := q1 _ hS0
  have hS1 : ∀ {W w' : World}, Below X.heap.size X W → Below W.heap.size W w' → Below X.heap.size X w' := fun h k => h.trans (k.mono h.size)
  go_region_with ((first
    | (go_at_call 165; refine (HC.out _ _).mono ?_; rintro e w' ⟨rfl, hb⟩; have hoS := hS1 (by assumption) hb)
    | (go_at_call 162; refine (HM.out _ (BX.out _ (by assumption))).mono ?_; rintro e w' ⟨⟨z, rfl, hz⟩, hb⟩; have hoM := hS1 (by assumption) hb; have c0 := Blk.at hz 0 rfl; have cM := Lib.hid (fun w2 (h : Below w'.heap.size w' w2) => cell_keep h c0); have Q0' := q0 _ hoM; have Q1' := q1 _ hoM)
    | (go_at_call 166; refine (putting_w off size x _).mono ?_; rintro e w' ⟨⟨p, q, rfl, _⟩, hb⟩; have hoP := hS1 (by assumption) hb; have Q0p := q0 _ hoP; have Q1p := q1 _ hoP; (try have c0p := cM.out _ hb))))
  all_goals
    go_wp2_with fail
    go_ret
    exact ⟨rfl, BX.out _ hoS⟩
end Go.Proofs.YtknhgfofmkpnfaaGreat.Ram
/- Package ram's contracts: New, Bytes, Copy. -/
namespace Go.Proofs.YtknhgfofmkpnfaaGreat.Ram
set_option linter.unusedSectionVars false
variable [Inhabited Lane.OTab]
open Go.RowKit Go.Maps Go.ChangeShapes Go.WideShapes Go.ChangeAt Fifo Orow Word
set_option linter.unusedVariables false

theorem ramOf_any (g c n : Nat) (bs : List Int) (w : World) (hn : bs.length / 4 = n) (ht : Lane.Tab w) (hk : OkM bs) (hg : g ≠ tabB) (h : w.ownsRow 0 23 1 (.slice (some ⟨g, 0, none⟩) n c) n (wv bs)) :
    Calls Tryz.prog 83 #[.slice (some ⟨g, 0, none⟩) n c] w fun e w' => e = .returned (.pointer (some ⟨w.heap.size, 0, none⟩)) ∧ MemS w' w.heap.size g c bs ∧ Below w.heap.size w w' := by
  have hgw := (own_lt h _ (ba_self _ _)).2
  have htw := tab_lt ht
  have Hn := Lib.hid hn
  have Ht := Lib.hid ht
  have Hk := Lib.hid hk
  have H := Lib.hid h
  clear hn ht hk h
  go_enter Tryz.func83, Tryz.ntmps83
  go_wp2_with fail
  go_ret
  have B0 : Below w.heap.size w (w.alloc (.cells #[.slice (some ⟨g, 0, none⟩) n c, .pointer (some ⟨w.heap.size, 0, none⟩)] 184)) := (Below.refl _ _).alloc (Nat.le_refl _) _
  refine ⟨rfl, ⟨?_, ?_, Ht.out.below B0, by omega, by omega, hg, Hk.out⟩, B0⟩
  · rw [Hn.out]
    exact Blk.new w 184 [.slice (some ⟨g, 0, none⟩) n c, .pointer (some ⟨w.heap.size, 0, none⟩)]
  · rw [Hn.out]
    exact own_keep H.out B0
theorem New_no (n : Int) (w : World) (h1 : I64 n) (h : sizeM n = false) :
    Calls Tryz.prog 61 #[.int .i64 n] w fun e w' => e = .returned (.tuple #[.pointer none, .int .i64 2]) ∧ Below w.heap.size w w' := by
  by_cases h1 : n < 4
  · have d1 : decide (n < 4) = true := decide_eq_true h1
    clear h
    go_enter Tryz.func61, Tryz.ntmps61
    go_wp2_with fail
    go_ret2
    exact ⟨rfl, Below.refl _ _⟩
  · have d1 : decide (n < 4) = false := decide_eq_false h1
    by_cases h2 : 4096 < n
    · have d2 : decide (4096 < n) = true := decide_eq_true h2
      clear h
      go_enter Tryz.func61, Tryz.ntmps61
      go_wp2_with fail
      go_ret2
      exact ⟨rfl, Below.refl _ _⟩
    · have d2 : decide (4096 < n) = false := decide_eq_false h2
      have h3 : ¬ n % 4 = 0 := by
        unfold sizeM at h
        have := of_decide_eq_false h
        omega
      have d3 : (n % 4 != 0) = true := by simpa using h3
      have hn : 0 ≤ n := by omega
      obtain ⟨m, rfl⟩ : ∃ m : Nat, n = m := ⟨n.toNat, by omega⟩
      clear h h1 h2 h3 hn
      go_enter Tryz.func61, Tryz.ntmps61
      go_wp2_with fail
      go_ret2
      exact ⟨rfl, Below.refl _ _⟩
theorem made_w (n : Nat) : (madeCells #[Value.int .u32 0] n).toList = List.replicate n (.int .u32 0) := by
  apply List.ext_getElem
  · simp [madeCells]
  · intro i h1 h2
    simp [madeCells, Nat.mod_one]
set_option maxHeartbeats 1000000 in
theorem New_yes (n : Nat) (w : World) (h : sizeM n = true) (ht : Lane.Tab w) :
    Calls Tryz.prog 61 #[.int .i64 n] w fun e w' => (∃ b O, e = .returned (.tuple #[.pointer (some ⟨b, 0, none⟩), .int .i64 0]) ∧ Mem w' b (zerosB n) O ∧ ∀ j, O j → w.heap.size ≤ j) ∧ Below w.heap.size w w' := by
  have hp : 4 ≤ (n : Int) ∧ (n : Int) ≤ 4096 ∧ (n : Int) % 4 = 0 := of_decide_eq_true h
  obtain ⟨i0, hi, hz0, hz1, hz2⟩ := info_parts info_w
  have Hi := Lib.hid hi
  have Hz0 := Lib.hid hz0
  have Hz1 := Lib.hid hz1
  have Hz2 := Lib.hid hz2
  have d1 : decide ((n : Int) < 4) = false := decide_eq_false (by omega)
  have d2 : decide (4096 < (n : Int)) = false := decide_eq_false (by omega)
  have d3 : ((n : Int) % 4 != 0) = false := by have := hp.2.2; simpa using this
  have hq : wrap64 ((n : Int) / 4) = ((n / 4 : Nat) : Int) := by rw [IntWalk.wrap64_in _ (by omega)]; omega
  obtain ⟨m, hm⟩ : ∃ m, n / 4 = m := ⟨_, rfl⟩
  have hm0 : m ≤ 1024 := by omega
  rw [hm] at hq
  have Hm := Lib.hid hm
  have Ht := Lib.hid ht
  have Hk := Lib.hid (okM_zeros h)
  have hw := tab_lt ht
  clear hi hz0 hz1 hz2 h hp ht hm
  go_enter Tryz.func61, Tryz.ntmps61
  go_wp2_with (at_make; refine wpList_make_full w rfl _ _ 172 rfl w.heap.size 23 i0 (.int .u32 0) 1 Tryz.underlying172 Hi.out Hz0.out Hz1.out .i64 .i64 m m m (congrArg (Value.int .i64) hq) (congrArg (Value.int .i64) hq) rfl rfl (by rw [Hz2.out]; omega) (by unfold maxLen; omega) (Nat.le_refl _) ?_; intro wm hown hgrow)
  have hl : (madeCells (Value.int .u32 0).cells (m * 1)).toList = wv (zerosB n) := by rw [Nat.mul_one, wv_zeros, Hm.out]; exact made_w m
  rw [hl] at hown
  have hb := (Below.refl w.heap.size w).grown hgrow (Nat.le_refl _) (fun k h => by cases h)
  have Hb := Lib.hid hb
  have R := Lib.hid (ramOf_any w.heap.size m m (zerosB n) wm (by rw [zeros_length]; exact Hm.out) (Ht.out.below hb) Hk.out (by omega) (own_mono hown (Nat.zero_le _)))
  clear hl hown hgrow hb
  go_wp2_with fail
  refine R.out.mono ?_
  rintro e w2 ⟨rfl, hS, hb2⟩
  have HS := Lib.hid hS
  have Hb2 := Lib.hid (Hb.out.trans (hb2.mono Hb.out.size))
  clear hS hb2
  go_wp2_with fail
  go_ret2
  refine ⟨⟨_, fun j => j = wm.heap.size ∨ j = w.heap.size, rfl, ⟨_, _, HS.out, fun j => Iff.rfl⟩, ?_⟩, Hb2.out⟩
  have := Hb.out.size
  intro j hj
  omega
theorem at_append {P : Program} {ops : Array Oper} {Q : Exit → Act → World → Prop} {rest : List Oper} {op : Oper} {a : Act} {w : World} (x y : Operand) (t u : TypeId) (ho : op.op = .call { callee := .builtin .append, args := #[x, y], argTypes := #[t, u] }) (h : Hid (wpList P ops Q (op :: rest) a w)) : wpList P ops Q (op :: rest) a w := h.out
def sizL : List Value := [.int .i64 (-9223372036854775808), .int .i64 (-4), .int .i64 0, .int .i64 3, .int .i64 4, .int .i64 5, .int .i64 6, .int .i64 8, .int .i64 4092, .int .i64 4096, .int .i64 4100, .int .i64 4294967296, .int .i64 9223372036854775807]
def offL : List Value := [.int .i64 (-9223372036854775808), .int .i64 (-4), .int .i64 (-1), .int .i64 4294967296, .int .i64 4294967300, .int .i64 4611686018427387908, .int .i64 9223372036854775804, .int .i64 9223372036854775807]
def fivL : List Value := [.int .i64 1, .int .i64 2, .int .i64 4, .int .i64 3, .int .i64 8]
theorem Copy_non (v : Value) (w : World) (h : Non w v) :
    Calls Tryz.prog 190 #[v] w fun e w' => e = .returned (.pointer none) ∧ Below w.heap.size w w' := by
  have M := Lib.hid (is_non v w h)
  clear h
  go_enter Tryz.func190, Tryz.ntmps190
  go_wp2_with fail
  refine M.out.mono ?_
  rintro e w1 ⟨rfl, rfl⟩
  go_wp2_with fail
  go_ret
  exact ⟨rfl, Below.refl _ _⟩
theorem clone_w (g c n : Nat) (L : List Value) (w : World) (hn : 0 < n) (hn2 : n ≤ 1024) (h : w.ownsRow 0 23 1 (.slice (some ⟨g, 0, none⟩) n c) n L) (h1 : ∀ u ∈ L, u.oneCell' = true) :
    Calls Tryz.prog 193 #[.slice (some ⟨g, 0, none⟩) n c] w fun e w' => (∃ g' c', e = .returned (.slice (some ⟨g', 0, none⟩) n c') ∧ w'.ownsRow w.heap.size 23 1 (.slice (some ⟨g', 0, none⟩) n c') n L) ∧ Below w.heap.size w w' := by
  obtain ⟨i0, hi, hz0, hz1, hz2⟩ := info_parts info_w
  have Hi := Lib.hid hi
  have Hz0 := Lib.hid hz0
  have Hz1 := Lib.hid hz1
  have Hz2 := Lib.hid hz2
  have H := Lib.hid h
  have H1 := Lib.hid h1
  have he := Lib.run_eql_slice_nil w 172 23 (some ⟨g, 0, none⟩) n c 0 0 Tryz.underlying172
  clear hi hz0 hz1 hz2 h h1
  go_enter Tryz.func193, Tryz.ntmps193
  go_wp2_with (with_reducible refine at_append _ _ _ _ rfl ?_)
  apply Lib.hid
  have ho : (w.alloc (.cells #[] 23)).ownsRow w.heap.size 23 1 (.slice (some ⟨w.heap.size, 0, none⟩) 0 0) 0 [] := blk_own (Blk.new w 23 []) rfl rfl (Nat.le_refl _) (by unfold maxLen; omega) (Nat.le_refl _)
  have hb0 : Below w.heap.size w (w.alloc (.cells #[] 23)) := (Below.refl _ _).alloc (Nat.le_refl _) _
  refine wpList_append_own _ rfl _ _ 172 rfl w.heap.size 23 i0 (.int .u32 0) 1 4 Tryz.underlying172 Hi.out Hz0.out Hz1.out Hz2.out rfl (by decide) (.slice (some ⟨w.heap.size, 0, none⟩) 0 0) 0 [] rfl ho ⟨g, 0, none⟩ n c L rfl (by have := H.out.1; omega) (own_cells (own_keep H.out hb0) _ rfl) H1.out (by unfold maxLen; omega) (by omega) hb0.size ?_
  intro v' w5 r1 r2 _
  rw [Nat.zero_add, List.nil_append] at r1
  obtain ⟨g', c', rfl⟩ := own_pos r1 hn
  have R1 := Lib.hid r1
  have Hb := Lib.hid (hb0.trans ((grown_only r2).below hb0.size (fun j hj => (ho.lt j hj).1)))
  clear r1 r2 ho hb0 he
  go_wp2_with fail
  go_ret
  exact ⟨⟨g', c', rfl, R1.out⟩, Hb.out⟩
theorem apart_w (g c n : Nat) (L : List Value) (w : World) (hn : 0 < n) (hn2 : n ≤ 1024) (h : w.ownsRow 0 23 1 (.slice (some ⟨g, 0, none⟩) n c) n L) (h1 : ∀ u ∈ L, u.oneCell' = true) :
    Calls Tryz.prog 192 #[.slice (some ⟨g, 0, none⟩) n c] w fun e w' => (∃ g' c', e = .returned (.slice (some ⟨g', 0, none⟩) n c') ∧ w'.ownsRow w.heap.size 23 1 (.slice (some ⟨g', 0, none⟩) n c') n L) ∧ Below w.heap.size w w' := by
  have C := Lib.hid (clone_w g c n L w hn hn2 h h1)
  clear h h1
  go_enter Tryz.func192, Tryz.ntmps192
  go_wp2_with fail
  refine C.out.mono ?_
  rintro e w1 ⟨⟨g', c', rfl, ho⟩, hb⟩
  have Ho := Lib.hid ho
  have Hb := Lib.hid hb
  clear ho hb
  go_wp2_with fail
  go_ret
  exact ⟨⟨g', c', rfl, Ho.out⟩, Hb.out⟩
theorem Copy_any (b : Nat) (bs : List Int) (O : Nat → Prop) (w : World) (h : Mem w b bs O) :
    Calls Tryz.prog 190 #[.pointer (some ⟨b, 0, none⟩)] w fun e w' => (∃ c O', e = .returned (.pointer (some ⟨c, 0, none⟩)) ∧ Mem w' c bs O' ∧ ∀ j, O' j → w.heap.size ≤ j) ∧ Below w.heap.size w w' := by
  obtain ⟨g, c, h, _⟩ := h
  have h5 := h.ok.lo
  have h6 := h.ok.hi
  obtain ⟨n, hn⟩ : ∃ n, bs.length / 4 = n := ⟨_, rfl⟩
  have c0 := h.head.at 0 rfl
  have M := Lib.hid (is_yes b w (h.head.at 1 rfl))
  have hr := h.row
  rw [hn] at hr c0
  have A := Lib.hid (apart_w g c n (wv bs) w (by omega) (by omega) hr (by simp [wv, Value.oneCell']))
  have H := Lib.hid h
  have Hn := Lib.hid hn
  have ht := tab_lt h.tab
  clear h hr hn h5 h6
  go_enter Tryz.func190, Tryz.ntmps190
  go_wp2_with fail
  refine M.out.mono ?_
  rintro e w1 ⟨rfl, rfl⟩
  go_wp2_with fail
  refine A.out.mono ?_
  rintro e w1 ⟨⟨g', c', rfl, ho⟩, hb⟩
  have hg := (own_lt ho _ (ba_self _ _)).1
  have Hb := Lib.hid hb
  have R := Lib.hid (ramOf_any g' c' n bs w1 Hn.out (H.out.tab.below hb) H.out.ok (by omega) (own_mono ho (Nat.zero_le _)))
  clear ho hb
  go_wp2_with fail
  refine R.out.mono ?_
  rintro e w2 ⟨rfl, hS, hb2⟩
  have HS := Lib.hid hS
  have Hb2 := Lib.hid (Hb.out.trans (hb2.mono Hb.out.size))
  clear hS hb2
  go_wp2_with fail
  go_ret
  refine ⟨⟨_, fun j => j = w1.heap.size ∨ j = g', rfl, ⟨_, _, HS.out, fun j => Iff.rfl⟩, ?_⟩, Hb2.out⟩
  have := Hb.out.size
  intro j hj
  omega
end Go.Proofs.YtknhgfofmkpnfaaGreat.Ram
