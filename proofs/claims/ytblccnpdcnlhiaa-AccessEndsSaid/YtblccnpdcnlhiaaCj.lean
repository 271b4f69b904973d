/- Contracts: bytes.Equal of two rows; the size that flags tell; the record of bytes. -/
import Derived.Test.YtblccnpdcnlhiaaCi
import Derived.Lib.Strings
import Derived.Lib.Slices
import Derived.Lib.Walk
import Derived.Lib.Bytes
namespace Go.Proofs.Ytblccnpdcnlhiaa.Access
open Go.RowKit Go.Maps Go.ChangeShapes Go.WideShapes Go.ChangeAt Kit Word
set_option linter.unusedVariables false

theorem bytes_inj {c d : Int} (hc : 0 ≤ c ∧ c < 256) (hd : 0 ≤ d ∧ d < 256) (h : UInt8.ofNat c.toNat = UInt8.ofNat d.toNat) : c = d := by
  have h2 := congrArg UInt8.toNat h
  simp only [UInt8.toNat_ofNat'] at h2
  omega
theorem bytesOf_eq : ∀ (xs ys : List Int), (∀ c ∈ xs, 0 ≤ c ∧ c < 256) → (∀ c ∈ ys, 0 ≤ c ∧ c < 256) → (Lib.bytesOf xs == Lib.bytesOf ys) = decide (xs = ys) := by
  intro xs ys hx hy
  have h : Lib.bytesOf xs = Lib.bytesOf ys ↔ xs = ys := by
    refine ⟨fun h => ?_, fun h => by rw [h]⟩
    unfold Lib.bytesOf at h
    induction xs generalizing ys with
    | nil =>
      cases ys with
      | nil => rfl
      | cons d ys => simp at h
    | cons c xs ih =>
      cases ys with
      | nil => simp at h
      | cons d ys =>
        simp only [List.map_cons, List.cons.injEq] at h
        rw [bytes_inj (hx c (by simp)) (hy d (by simp)) h.1, ih ys (fun e he => hx e (by simp [he])) (fun e he => hy e (by simp [he])) h.2]
  rw [Bool.eq_iff_iff]
  simp [h]
theorem equal_at (b off cap b' off' cap' n : Nat) (xs ys : List Int) (w : World) (hx : xs.length = n) (hy : ys.length = n) (hbx : ∀ c ∈ xs, 0 ≤ c ∧ c < 256) (hby : ∀ c ∈ ys, 0 ≤ c ∧ c < 256)
    (h : ∀ i, i < n → w.cell? ⟨b, off + i, none⟩ = some (.int .u8 (xs.getD i 0))) (h' : ∀ i, i < n → w.cell? ⟨b', off' + i, none⟩ = some (.int .u8 (ys.getD i 0))) :
    Calls Try.prog 32 #[.slice (some ⟨b, off, none⟩) n cap, .slice (some ⟨b', off', none⟩) n cap'] w fun e w' => e = .returned (.bool (decide (xs = ys))) ∧ w = w' := by
  have h1 := run_convert_bytes_arg (P := Try.prog) w 27 5 Try.underlying27 Try.underlying5 b off n cap xs hx h 9 Try.underlying9
  have h2 := run_convert_bytes_arg (P := Try.prog) w 27 5 Try.underlying27 Try.underlying5 b' off' n cap' ys hy h' 9 Try.underlying9
  rw [← bytesOf_eq xs ys hbx hby, ← Lib.strOfNums_toList, ← Lib.strOfNums_toList]
  clear h h' hx hy hbx hby
  go_enter Try.func32, Try.ntmps32
  go_wp2
  go_ret
  exact ⟨rfl, rfl⟩

theorem flags_bits : (∀ f : Fin 256, bits .andNot .u8 ((f : Nat) : Int) 1 = ((f : Nat) : Int) / 2 * 2) ∧ ∀ f : Fin 256, bits .and .u8 ((f : Nat) : Int) 1 = ((f : Nat) : Int) % 2 := by decide +kernel
theorem andnot1 {f : Int} (h0 : 0 ≤ f) (h1 : f < 256) : bits .andNot .u8 f 1 = f / 2 * 2 := by
  obtain ⟨n, rfl⟩ := Int.eq_ofNat_of_zero_le h0
  exact flags_bits.1 ⟨n, by omega⟩
theorem and1 {f : Int} (h0 : 0 ≤ f) (h1 : f < 256) : bits .and .u8 f 1 = f % 2 := by
  obtain ⟨n, rfl⟩ := Int.eq_ofNat_of_zero_le h0
  exact flags_bits.2 ⟨n, by omega⟩
theorem ret_i64 {a b : Int} (h : a = b) : Ending.returned (.int .i64 a) = .returned (.int .i64 b) := by rw [h]
theorem sizeOf_any (f s : Int) (w : World) (h0 : 0 ≤ f) (h1 : f < 256) (hs : szV f = s) :
    Calls Try.prog 51 #[.int .u8 f] w fun e w' => e = .returned (.int .i64 s) ∧ w = w' := by
  subst hs
  have hx := andnot1 h0 h1
  go_enter Try.func51, Try.ntmps51
  go_wp2
  all_goals
    go_ret
    simp only [beq_iff_eq, beq_eq_false_iff_ne] at *
    refine ⟨ret_i64 ?_, trivial⟩
    unfold szV
    (repeat' split) <;> omega

theorem wrap_i64 {c : Int} (h0 : 0 ≤ c) (h1 : c < 256) : IntKind.i64.wrap c = c := by
  have e : IntKind.i64.bits = 64 := rfl
  have e2 : IntKind.i64.signed = true := rfl
  simp [IntKind.wrap, e, e2]
  omega
theorem recordOf_no (a : Option Addr) (n cap : Nat) (w : World) (hn : n ≠ 12) :
    Calls Try.prog 31 #[.slice a n cap] w fun e w' => e = .returned (.tuple #[acc 0 false 0 0 0, .bool false]) ∧ Below w.heap.size w w' := by
  have d1 : ((n : Int) != 12) = true := by simp; omega
  go_enter Try.func31, Try.ntmps31
  go_wp2_with fail
  refine bodyPost_ret (v := .tuple #[acc 0 false 0 0 0, .bool false]) ?_ rfl ⟨rfl, by repeat (first | exact (Below.refl _ _).alloc (Nat.le_refl _) _ | refine Below.setCell ?_ (by simp) _)⟩
  simp [results, Try.results31, go_sem]
/-- Twelve bytes in memory. -/
def Tw (w : World) (g off : Nat) (l : List Int) : Prop := ∀ i, i < 12 → w.cell? ⟨g, off + i, none⟩ = some (.int .u8 (l.getD i 0))
theorem of_num (g off cap : Nat) (a b c d : Int) (w : World) (k0 : w.cell? ⟨g, off, none⟩ = some (.int .u8 a)) (k1 : w.cell? ⟨g, off + 1, none⟩ = some (.int .u8 b)) (k2 : w.cell? ⟨g, off + 2, none⟩ = some (.int .u8 c)) (k3 : w.cell? ⟨g, off + 3, none⟩ = some (.int .u8 d))
    (h : (0 ≤ a ∧ a < 256) ∧ (0 ≤ b ∧ b < 256) ∧ (0 ≤ c ∧ c < 256) ∧ 0 ≤ d ∧ d < 256) :
    Calls Try.prog 50 #[.slice (some ⟨g, off, none⟩) 4 cap] w fun e w' => e = .returned (.tuple #[.int .u32 (num a b c d), .bool true]) ∧ w = w' :=
  of_4 g off cap a b c d w k0 h.1.1 h.1.2 k1 h.2.1.1 h.2.1.2 k2 h.2.2.1.1 h.2.2.1.2 k3 h.2.2.2.1 h.2.2.2.2
set_option maxHeartbeats 1000000 in
theorem recordOf_core (g off cap : Nat) (c0 c1 x y s : Int) (w : World) (hcap : 12 ≤ cap) (h0 : 0 ≤ c0 ∧ c0 < 256) (h1 : 0 ≤ c1 ∧ c1 < 256) (hg : g < w.heap.size)
    (k0 : w.cell? ⟨g, off, none⟩ = some (.int .u8 c0)) (k1 : w.cell? ⟨g, off + 1, none⟩ = some (.int .u8 c1)) (hs : szV c1 = s)
    (A : ∀ w', Below w.heap.size w w' → Calls Try.prog 50 #[.slice (some ⟨g, off + 4, none⟩) 4 (cap - 4)] w' fun e w'' => e = .returned (.tuple #[.int .u32 x, .bool true]) ∧ w' = w'')
    (D : ∀ w', Below w.heap.size w w' → Calls Try.prog 50 #[.slice (some ⟨g, off + 8, none⟩) 4 (cap - 8)] w' fun e w'' => e = .returned (.tuple #[.int .u32 y, .bool true]) ∧ w' = w'') :
    Calls Try.prog 31 #[.slice (some ⟨g, off, none⟩) 12 cap] w fun e w' => e = .returned (.tuple #[acc c0 (c1 % 2 != 0) x s y, .bool true]) ∧ Below w.heap.size w w' := by
  have hx := and1 h1.1 h1.2
  go_enter Try.func31, Try.ntmps31
  go_wp2_with fail
  refine (A _ ((Below.refl _ _).alloc (Nat.le_refl _) _)).mono ?_
  rintro e w1 ⟨rfl, rfl⟩
  go_wp2_with fail
  refine (D _ ((Below.refl _ _).alloc (Nat.le_refl _) _)).mono ?_
  rintro e w1 ⟨rfl, rfl⟩
  clear A D
  go_wp2_with fail
  go_region_with (go_at_call 51; refine (sizeOf_any c1 s _ h1.1 h1.2 hs).mono ?_; rintro e w' ⟨rfl, rfl⟩)
  all_goals
    go_wp2_with fail
    refine bodyPost_ret (v := .tuple #[acc c0 (c1 % 2 != 0) x s y, .bool true]) ?_ rfl ⟨rfl, ((Below.refl _ _).alloc (Nat.le_refl _) _).drew⟩
    simp [results, Try.results31, go_sem, wrap_i64 h0.1 h0.2]
theorem ne_odd {c : Int} : (c % 2 != 0) = decide (c % 2 = 1) := by
  rw [Bool.eq_iff_iff]; simp; omega
theorem recordOf_yes (g off cap : Nat) (l : List Int) (W : Int) (r : Bool) (A S D : Int) (w : World) (hcap : 12 ≤ cap) (hl : ∀ i, 0 ≤ l.getD i 0 ∧ l.getD i 0 < 256) (ht : Tw w g off l)
    (hW : l.getD 0 0 = W) (hr : decide (l.getD 1 0 % 2 = 1) = r) (hA : num (l.getD 4 0) (l.getD 5 0) (l.getD 6 0) (l.getD 7 0) = A) (hS : szV (l.getD 1 0) = S) (hD : num (l.getD 8 0) (l.getD 9 0) (l.getD 10 0) (l.getD 11 0) = D) :
    Calls Try.prog 31 #[.slice (some ⟨g, off, none⟩) 12 cap] w fun e w' => e = .returned (.tuple #[acc W r A S D, .bool true]) ∧ Below w.heap.size w w' := by
  subst hW hr hA hS hD
  have hg := World.block_lt_of_cell? w _ (ht 0 (by omega))
  rw [← ne_odd]
  refine recordOf_core g off cap _ _ _ _ _ w hcap (hl 0) (hl 1) hg (ht 0 (by omega)) (ht 1 (by omega)) rfl (fun w' hb => ?_) (fun w' hb => ?_)
  · exact of_num g (off + 4) (cap - 4) _ _ _ _ w' (cell_keep hb (ht 4 (by omega))) (cell_keep hb (ht 5 (by omega))) (cell_keep hb (ht 6 (by omega))) (cell_keep hb (ht 7 (by omega))) ⟨hl 4, hl 5, hl 6, hl 7⟩
  · exact of_num g (off + 8) (cap - 8) _ _ _ _ w' (cell_keep hb (ht 8 (by omega))) (cell_keep hb (ht 9 (by omega))) (cell_keep hb (ht 10 (by omega))) (cell_keep hb (ht 11 (by omega))) ⟨hl 8, hl 9, hl 10, hl 11⟩
end Go.Proofs.Ytblccnpdcnlhiaa.Access
