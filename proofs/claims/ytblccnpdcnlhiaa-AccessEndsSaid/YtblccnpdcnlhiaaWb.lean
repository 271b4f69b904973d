/- Contracts of package word: Bytes, Of; of septumkit: SameBytes. -/
import Derived.Test.YtblccnpdcnlhiaaWa
import Derived.Deep.QuietTactic
import Derived.BigQuiet
import Derived.Lib.Hide
namespace Go.Proofs.Ytblccnpdcnlhiaa.Word
open Go.RowKit
set_option linter.unusedVariables false

theorem make1 (w : World) : (Instr.makeSlice 27 (.int .i64 1) (.int .i64 1)).run Try.prog w = .ok (.slice (some ⟨w.heap.size, 0, none⟩) 1 1) (w.alloc (.cells #[.int .u8 0] 5)) := by kernel_rfl
theorem make2 (w : World) : (Instr.makeSlice 27 (.int .i64 2) (.int .i64 2)).run Try.prog w = .ok (.slice (some ⟨w.heap.size, 0, none⟩) 2 2) (w.alloc (.cells #[.int .u8 0, .int .u8 0] 5)) := by kernel_rfl
theorem make4 (w : World) : (Instr.makeSlice 27 (.int .i64 4) (.int .i64 4)).run Try.prog w = .ok (.slice (some ⟨w.heap.size, 0, none⟩) 4 4) (w.alloc (.cells #[.int .u8 0, .int .u8 0, .int .u8 0, .int .u8 0] 5)) := by kernel_rfl

theorem bytes_no (v n : Int) (w : World) (hn : sizeB n = false) :
    Calls Try.prog 45 #[.int .u32 v, .int .i64 n] w fun e w' => e = .returned (.slice none 0 0) ∧ w = w' := by
  go_enter Try.func45, Try.ntmps45
  go_wp2_with (go_at_call 71; refine (size_any _ _).mono ?_; rintro e w' ⟨rfl, rfl⟩)
  go_ret
  exact ⟨rfl, rfl⟩

theorem bytes_1 (v : Int) (w : World) (h0 : 0 ≤ v) (h1 : v < 4294967296) :
    Calls Try.prog 45 #[.int .u32 v, .int .i64 1] w fun e w' => e = .returned (.slice (some ⟨w.heap.size, 0, none⟩) 1 1) ∧ w.alloc (.cells #[.int .u8 (v % 256)] 5) = w' := by
  have hs := sizeB_1
  have hm := make1
  go_enter Try.func45, Try.ntmps45
  go_wp2_with (go_at_call 71; refine (size_any _ _).mono ?_; rintro e w' ⟨rfl, rfl⟩)
  go_rounds 2
  go_ret
  exact ⟨rfl, rfl⟩

theorem bytes_2 (v : Int) (w : World) (h0 : 0 ≤ v) (h1 : v < 4294967296) :
    Calls Try.prog 45 #[.int .u32 v, .int .i64 2] w fun e w' => e = .returned (.slice (some ⟨w.heap.size, 0, none⟩) 2 2) ∧ w.alloc (.cells #[.int .u8 (v % 256), .int .u8 (v / 256 % 256)] 5) = w' := by
  have hs := sizeB_2
  have hm := make2
  go_enter Try.func45, Try.ntmps45
  go_wp2_with (go_at_call 71; refine (size_any _ _).mono ?_; rintro e w' ⟨rfl, rfl⟩)
  go_rounds 3
  go_ret
  exact ⟨rfl, rfl⟩

theorem bytes_4 (v : Int) (w : World) (h0 : 0 ≤ v) (h1 : v < 4294967296) :
    Calls Try.prog 45 #[.int .u32 v, .int .i64 4] w fun e w' => e = .returned (.slice (some ⟨w.heap.size, 0, none⟩) 4 4) ∧ w.alloc (.cells #[.int .u8 (v % 256), .int .u8 (v / 256 % 256), .int .u8 (v / 65536 % 256), .int .u8 (v / 16777216)] 5) = w' := by
  have hs := sizeB_4
  have hm := make4
  go_enter Try.func45, Try.ntmps45
  go_wp2_with (go_at_call 71; refine (size_any _ _).mono ?_; rintro e w' ⟨rfl, rfl⟩)
  go_rounds 5
  go_ret
  exact ⟨rfl, rfl⟩

theorem of_no (a : Option Addr) (n cap : Nat) (w : World) (hn : sizeB n = false) :
    Calls Try.prog 50 #[.slice a n cap] w fun e w' => e = .returned (.tuple #[.int .u32 0, .bool false]) ∧ w = w' := by
  go_enter Try.func50, Try.ntmps50
  go_wp2_with (go_at_call 71; refine (size_any _ _).mono ?_; rintro e w' ⟨rfl, rfl⟩)
  go_ret2
  exact ⟨rfl, rfl⟩

theorem of_1 (b off cap : Nat) (c0 : Int) (w : World) (h0 : w.cell? ⟨b, off, none⟩ = some (.int .u8 c0)) (l0 : 0 ≤ c0) (g0 : c0 < 256) :
    Calls Try.prog 50 #[.slice (some ⟨b, off, none⟩) 1 cap] w fun e w' => e = .returned (.tuple #[.int .u32 c0, .bool true]) ∧ w = w' := by
  have hs := sizeB_1
  go_enter Try.func50, Try.ntmps50
  go_wp2_with (go_at_call 71; refine (size_any _ _).mono ?_; rintro e w' ⟨rfl, rfl⟩)
  go_rounds 2
  go_ret2
  exact ⟨ret_int_bool (or_0 c0 l0 g0) rfl, rfl⟩
theorem of_2 (b off cap : Nat) (c0 c1 : Int) (w : World) (h0 : w.cell? ⟨b, off, none⟩ = some (.int .u8 c0)) (l0 : 0 ≤ c0) (g0 : c0 < 256) (h1 : w.cell? ⟨b, off + 1, none⟩ = some (.int .u8 c1)) (l1 : 0 ≤ c1) (g1 : c1 < 256) :
    Calls Try.prog 50 #[.slice (some ⟨b, off, none⟩) 2 cap] w fun e w' => e = .returned (.tuple #[.int .u32 (c0 + c1 * 256), .bool true]) ∧ w = w' := by
  have hs := sizeB_2
  go_enter Try.func50, Try.ntmps50
  go_wp2_with (go_at_call 71; refine (size_any _ _).mono ?_; rintro e w' ⟨rfl, rfl⟩)
  go_rounds 3
  go_ret2
  exact ⟨ret_int_bool (by rw [or_0 c0 l0 g0, or_8 c0 c1 l0 g0 l1 g1]) rfl, rfl⟩
theorem of_4 (b off cap : Nat) (c0 c1 c2 c3 : Int) (w : World) (h0 : w.cell? ⟨b, off, none⟩ = some (.int .u8 c0)) (l0 : 0 ≤ c0) (g0 : c0 < 256) (h1 : w.cell? ⟨b, off + 1, none⟩ = some (.int .u8 c1)) (l1 : 0 ≤ c1) (g1 : c1 < 256)
    (h2 : w.cell? ⟨b, off + 2, none⟩ = some (.int .u8 c2)) (l2 : 0 ≤ c2) (g2 : c2 < 256) (h3 : w.cell? ⟨b, off + 3, none⟩ = some (.int .u8 c3)) (l3 : 0 ≤ c3) (g3 : c3 < 256) :
    Calls Try.prog 50 #[.slice (some ⟨b, off, none⟩) 4 cap] w fun e w' => e = .returned (.tuple #[.int .u32 (c0 + c1 * 256 + c2 * 65536 + c3 * 16777216), .bool true]) ∧ w = w' := by
  have hs := sizeB_4
  go_enter Try.func50, Try.ntmps50
  go_wp2_with (go_at_call 71; refine (size_any _ _).mono ?_; rintro e w' ⟨rfl, rfl⟩)
  go_rounds 5
  go_ret2
  exact ⟨ret_int_bool (by rw [or_0 c0 l0 g0, or_8 c0 c1 l0 g0 l1 g1, or_16 _ c2 (by omega) (by omega) l2 g2, or_24 _ c3 (by omega) (by omega) l3 g3]) rfl, rfl⟩

/-- A row of integers in memory reads as l (where l is empty nothing is asked). -/
def Reads (w : World) (k : IntKind) (a : Option Addr) (l : List Int) : Prop :=
  l = [] ∨ ∃ b off, a = some ⟨b, off, none⟩ ∧ ∀ i, i < l.length → w.cell? ⟨b, off + i, none⟩ = some (.int k (l.getD i 0))

/-- SameBytes: two rows of bytes, held against each other. -/
theorem same_bytes_len (a a' : Option Addr) (n m cap cap' : Nat) (w : World) (hne : n ≠ m) :
    Calls Try.prog 18 #[.slice a n cap, .slice a' m cap'] w fun e w' => e = .returned (.bool false) ∧ w = w' := by
  have h : ((n : Int) != (m : Int)) = true := by simp; omega
  go_enter Try.func18, Try.ntmps18
  go_wp2
  go_ret
  exact ⟨rfl, rfl⟩
theorem same_bytes (b off b' off' n cap cap' : Nat) (l m : List Int) (w : World) (hm : n ≤ 9223372036854775807) (hl : l.length = n) (hl' : m.length = n)
    (h : ∀ i, i < n → w.cell? ⟨b, off + i, none⟩ = some (.int .u8 (l.getD i 0))) (h' : ∀ i, i < n → w.cell? ⟨b', off' + i, none⟩ = some (.int .u8 (m.getD i 0))) :
    Calls Try.prog 18 #[.slice (some ⟨b, off, none⟩) n cap, .slice (some ⟨b', off', none⟩) n cap'] w fun e w' => e = .returned (.bool (eqB l m)) ∧ ∃ j, w' = w.drewN j := by
  have H := Lib.hid h
  have H' := Lib.hid h'
  have Hl := Lib.hid hl
  have Hl' := Lib.hid hl'
  clear h h' hl hl'
  go_enter Try.func18, Try.ntmps18
  go_wp2
  go_loopw [5] (fun i wr => ∃ k : Nat, k ≤ n ∧ i = .int .i64 k ∧ (∀ j, j < k → l.getD j 0 = m.getD j 0) ∧ ∃ j, wr = w.drewN j) (fun i _ => n - (intOf i).toNat)
  case atStart => exact ⟨0, Nat.zero_le _, rfl, by omega, 0, rfl⟩
  case round =>
    obtain ⟨k, hk, rfl, heq, j, rfl⟩ := hrel
    have Heq := Lib.hid heq
    clear heq
    by_cases hlt : k < n
    · have c1 := H.out k hlt
      have c2 := H'.out k hlt
      obtain ⟨x, hx⟩ : ∃ x, l.getD k 0 = x := ⟨_, rfl⟩
      obtain ⟨y, hy⟩ : ∃ y, m.getD k 0 = y := ⟨_, rfl⟩
      rw [hx] at c1
      rw [hy] at c2
      have Hx := Lib.hid hx
      have Hy := Lib.hid hy
      clear hx hy
      by_cases hxy : x = y
      · subst hxy
        go_wp2
        go_quiet (fail)
        go_wp2
        refine ⟨⟨k + 1, by omega, by go_num, fun j hj => ?_, _, rfl⟩, by simp [intOf]; omega⟩
        by_cases e : j = k
        · rw [e, Hx.out, Hy.out]
        · exact Heq.out j (by omega)
      · go_wp2
        go_quiet (fail)
        go_wp2
        go_ret
        exact ⟨ret_bool (eqB_no (j := k) (by rw [Hx.out, Hy.out]; exact hxy)).symm, _, World.drewN_drewN _ _ _⟩
    · go_wp2
      go_ret
      exact ⟨ret_bool (eqB_yes n Hl.out Hl'.out (fun j hj => Heq.out j (by omega))).symm, _, rfl⟩
theorem same_bytes_nil (a a' : Option Addr) (cap cap' : Nat) (w : World) :
    Calls Try.prog 18 #[.slice a 0 cap, .slice a' 0 cap'] w fun e w' => e = .returned (.bool true) ∧ w = w' := by
  go_enter Try.func18, Try.ntmps18
  go_wp2
  go_rounds 1
  go_ret
  exact ⟨rfl, rfl⟩
end Go.Proofs.Ytblccnpdcnlhiaa.Word
