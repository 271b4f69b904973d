/- The ends of words: tables, substrings, new bytes. -/
import Derived.Test.YteahocaogkhddaaDoorSc
import Derived.Test.YteahocaogkhddaaDoorRc
import Derived.Test.YteahocaogkhddaaDoorPi
import Derived.Test.YteahocaogkhddaaDoorExt
namespace Go.Proofs.YteahocaogkhddaaDoor.Word
open Go.RowKit Go.Maps Go.ChangeShapes Go.WideShapes Go.ChangeAt
set_option linter.unusedVariables false

def hdV : Nat → ByteArray
  | 0 => ⟨#[]⟩
  | 1 => ⟨#[48, 120]⟩
  | 2 => ⟨#[52, 50, 57, 52, 57, 54, 55, 50, 57]⟩
  | 3 => ⟨#[48, 120, 102, 102, 102, 102, 102, 102, 102]⟩
  | 4 => ⟨#[48, 120, 48, 48, 48, 48]⟩
  | 5 => ⟨#[52, 50, 57, 52, 57, 54, 55]⟩
  | _ => ⟨#[]⟩
theorem hdV_size (i : Nat) : (hdV i).size ≤ 9 := by
  match i with
  | 0 | 1 | 2 | 3 | 4 | 5 => decide
  | i + 6 => exact Nat.zero_le _
/-- The table of heads. -/
def Heads (w : World) (g : Nat) : Prop := ∀ i, i < 6 → w.cell? ⟨g, i, none⟩ = some (.string (hdV i))
theorem Heads.keep {w w' : World} {g : Nat} (h : Heads w g) (hb : Below w.heap.size w w') : Heads w' g := fun i hi => cell_keep hb (h i hi)
theorem heads_new (w : World) : Heads (w.alloc (.cells #[.string ⟨#[]⟩, .string ⟨#[48, 120]⟩, .string ⟨#[52, 50, 57, 52, 57, 54, 55, 50, 57]⟩, .string ⟨#[48, 120, 102, 102, 102, 102, 102, 102, 102]⟩, .string ⟨#[48, 120, 48, 48, 48, 48]⟩, .string ⟨#[52, 50, 57, 52, 57, 54, 55]⟩] 9)) w.heap.size := by
  intro i hi
  rw [World.cell?_alloc_at _ _ _ _ rfl]
  match i, hi with
  | 0, _ | 1, _ | 2, _ | 3, _ | 4, _ | 5, _ => rfl
  | i + 6, hi => omega

theorem slice_str (s : ByteArray) (l h : Nat) (hl : l ≤ h) (hh : h ≤ s.size) (W : World) :
    (Instr.slice 9 (.string s) (some (.int .i64 (l : Int))) (some (.int .i64 (h : Int))) none).run Tryd.prog W = .ok (.string (s.extract l h)) W := by
  unfold Instr.slice Instr.sliceBounds
  simp [go_sem, hl, hh]
theorem slice_to (s : ByteArray) (h : Nat) (hh : h ≤ s.size) (W : World) :
    (Instr.slice 9 (.string s) none (some (.int .i64 (h : Int))) none).run Tryd.prog W = .ok (.string (s.extract 0 h)) W := by
  unfold Instr.slice Instr.sliceBounds
  simp [go_sem]
  omega
def sg : ByteArray := ⟨#[48, 49, 57, 97, 102, 70, 120, 32, 45, 43, 95]⟩
theorem sg_at (p : Nat) (hp : p < 11) : ∃ A : ByteArray, A.size = 1 ∧ ∀ W : World, (Instr.slice 9 (.string ⟨#[48, 49, 57, 97, 102, 70, 120, 32, 45, 43, 95]⟩) (some (.int .i64 (p : Int))) (some (.int .i64 ((p : Int) + 1))) none).run Tryd.prog W = .ok (.string A) W := by
  refine ⟨sg.extract p (p + 1), ?_, fun W => ?_⟩
  · have : sg.size = 11 := rfl
    simp [ByteArray.size_extract, this]; omega
  · have := slice_str sg p (p + 1) (by omega) (by show p + 1 ≤ 11; omega) W
    exact this

def e10 : Nat → Int
  | 0 => -9223372036854775808
  | 1 => -1
  | 2 => 0
  | 3 => 1
  | 4 => 2
  | 5 => 3
  | 6 => 4
  | 7 => 5
  | 8 => 8
  | _ => 9223372036854775807
def Ten (w : World) (g : Nat) : Prop := ∀ i, i < 10 → w.cell? ⟨g, i, none⟩ = some (.int .i64 (e10 i))
theorem Ten.keep {w w' : World} {g : Nat} (h : Ten w g) (hb : Below w.heap.size w w') : Ten w' g := fun i hi => cell_keep hb (h i hi)
theorem ten_new (w : World) : Ten (w.alloc (.cells #[.int .i64 (-9223372036854775808), .int .i64 (-1), .int .i64 0, .int .i64 1, .int .i64 2, .int .i64 3, .int .i64 4, .int .i64 5, .int .i64 8, .int .i64 9223372036854775807] 3)) w.heap.size := by
  intro i hi
  rw [World.cell?_alloc_at _ _ _ _ rfl]
  match i, hi with
  | 0, _ | 1, _ | 2, _ | 3, _ | 4, _ | 5, _ | 6, _ | 7, _ | 8, _ | 9, _ => rfl
  | i + 10, hi => omega
theorem u8_wf {c : Int} (h0 : 0 ≤ c) (h1 : c < 256) : (Lit.int .u8 c).wf = true := by
  simp [Lit.wf, IntKind.min, IntKind.max, IntKind.signed, IntKind.bits]; omega
theorem u32_wf {c : Int} (h0 : 0 ≤ c) (h1 : c < 4294967296) : (Lit.int .u32 c).wf = true := by
  simp [Lit.wf, IntKind.min, IntKind.max, IntKind.signed, IntKind.bits]; omega
theorem bK_wf (x k : Nat) : ∀ c ∈ bK x k, (Lit.int .u8 c).wf = true := by
  intro c hc
  simp [bK] at hc
  obtain ⟨i, _, rfl⟩ := hc
  exact u8_wf (by omega) (by omega)
theorem zero_wf (n : Nat) : ∀ c ∈ List.replicate n (0 : Int), (Lit.int .u8 c).wf = true := by
  intro c hc
  rw [List.eq_of_mem_replicate hc]
  exact u8_wf (by omega) (by omega)
theorem bK_row {w : World} {b g c x k : Nat} (h : w.ownsRow b 5 1 (.slice (some ⟨g, 0, none⟩) k c) k (bv (bK x k))) : At w g k (bK x k) := fun i hi => by
  have hl : (bK x k).length = k := by simp [bK]
  rw [h.cellAt i (by omega)]
  simp [bv, List.getD_eq_getElem?_getD, hl, hi]
theorem made_one (v : Value) (m : Nat) : (madeCells #[v] m).toList = List.replicate m v := by
  apply List.ext_getElem
  · simp [madeCells]
  · intro i h1 h2
    simp [madeCells, Nat.mod_one]
/-- make([]byte, n): the worlds behind it. -/
theorem make_zero (n : Nat) (hn : n ≤ 1000) : ∃ mk : World → World, ∀ W : World, (Instr.makeSlice 29 (.int .i64 (n : Int)) (.int .i64 (n : Int))).run Tryd.prog W = .ok (.slice (some ⟨W.heap.size, 0, none⟩) n n) (mk W) ∧ At (mk W) W.heap.size n (List.replicate n 0) ∧ W.grownBy (mk W) none := by
  obtain ⟨i0, hi, hz0, hz1, hz2⟩ := info_parts KitBytes.info_e
  have h := fun W : World => run_make_full (P := Tryd.prog) W 0 29 5 i0 (.int .u8 0) 1 Tryd.underlying29 hi hz0 hz1 .i64 .i64 n (by rw [hz2]; omega) (by unfold maxLen; omega) (Nat.zero_le _)
  refine ⟨fun W => Classical.choose (h W), fun W => ?_⟩
  obtain ⟨a, b, c⟩ := Classical.choose_spec (h W)
  refine ⟨a, fun i hi => ?_, c⟩
  rw [b.cellAt i (by omega), show (Value.int .u8 0).cells = #[Value.int .u8 0] from rfl, made_one]
  simp [hi, List.getD_eq_getElem?_getD]
end Go.Proofs.YteahocaogkhddaaDoor.Word
