/- Rows of devices in memory; a device's own contracts by the document. -/
import Derived.Test.YtmdepkehpohgeaaGreatVa
import Derived.Test.YtmdepkehpohgeaaGreatOw
namespace Go.Proofs.YtmdepkehpohgeaaGreat.Win
open Go.RowKit Go.Maps Fifo Orow
set_option linter.unusedVariables false

/-- A device's value. -/
abbrev dv (k B S O L : Int) : Value := .agg #[.int .i64 k, .int .u32 B, .int .i64 S, .int .i64 O, .int .i64 L]
/-- A device that lies in a block from p on. -/
structure AtD (w : World) (b p : Nat) (d : Dv) : Prop where
  c0 : w.cell? ⟨b, p, none⟩ = some (.int .i64 d.k)
  c1 : w.cell? ⟨b, p + 1, none⟩ = some (.int .u32 d.B)
  c2 : w.cell? ⟨b, p + 2, none⟩ = some (.int .i64 d.S)
  c3 : w.cell? ⟨b, p + 3, none⟩ = some (.int .i64 d.O)
  c4 : w.cell? ⟨b, p + 4, none⟩ = some (.int .i64 d.L)
theorem AtD.keep {w w' : World} {b p : Nat} {d : Dv} (h : AtD w b p d) (hb : Below w.heap.size w w') : AtD w' b p d :=
  ⟨cell_keep hb h.c0, cell_keep hb h.c1, cell_keep hb h.c2, cell_keep hb h.c3, cell_keep hb h.c4⟩
theorem atD_new (w : World) (k B S O L : Int) (t : TypeId) : AtD (w.alloc (.cells #[.int .i64 k, .int .u32 B, .int .i64 S, .int .i64 O, .int .i64 L] t)) w.heap.size 0 ⟨k, B, S, O, L⟩ :=
  ⟨World.cell?_alloc_at _ _ _ 0 rfl, World.cell?_alloc_at _ _ _ 1 rfl, World.cell?_alloc_at _ _ _ 2 rfl, World.cell?_alloc_at _ _ _ 3 rfl, World.cell?_alloc_at _ _ _ 4 rfl⟩
/-- A slice of devices. -/
def RowV (w : World) (a : Option Addr) (n : Nat) (l : List Dv) : Prop :=
  l.length = n ∧ (∀ j, j < n → okD l[j]!) ∧ ∀ j, j < n → ∃ b off, a = some ⟨b, off, none⟩ ∧ AtD w b (off + j * 5) l[j]!
theorem RowV.keep {w w' : World} {a : Option Addr} {n : Nat} {l : List Dv} (h : RowV w a n l) (hb : Below w.heap.size w w') : RowV w' a n l :=
  ⟨h.1, h.2.1, fun j hj => by
    obtain ⟨b, off, e, c⟩ := h.2.2 j hj
    exact ⟨b, off, e, c.keep hb⟩⟩
theorem RowV.nil (w : World) : RowV w none 0 [] := ⟨rfl, fun j hj => by omega, fun j hj => by omega⟩

set_option maxRecDepth 100000 in
set_option maxHeartbeats 2000000 in
theorem wDevice_any (k B S O L : Int) (b : Bool) (w : World) (hB : 0 ≤ B) (hB' : B < 4294967296) (hb : devV k B S O L = b) :
    Calls Tryz.prog 72 #[dv k B S O L] w fun e w' => e = .returned (.bool b) ∧ Below w.heap.size w w' := by
  by_cases hk : k = 1
  · by_cases ha : 4 ≤ S
    · by_cases hd : S ≤ 4096
      · by_cases he : S % 4 = 0
        · skip
          by_cases hc1 : 1 ≤ k
          · skip
            by_cases hc2 : k ≤ 6
            · skip
              by_cases hc4 : B % 4 = 0
              · skip
                by_cases hc5 : B + S ≤ 4294967296
                · skip
                  by_cases hc6 : -1 ≤ O
                  · skip
                    by_cases hc7 : O < 8
                    · skip
                      by_cases hc8 : -1 ≤ L
                      · skip
                        by_cases hc9 : L < 8
                        · skip
                          have hres : devV k B S O L = true := dev_of (by omega) (by omega) (by omega) (by omega) (by omega) (by omega) (by omega)
                          rw [hres] at hb
                          subst hb
                          have k1 : (k == 1) = true := by simpa using hk
                          have a1 : decide (4 ≤ S) = true := decide_eq_true (by omega)
                          have d1 : decide (S ≤ 4096) = true := decide_eq_true (by omega)
                          have wq : IntKind.i64.wrap (B + S) = B + S := IntWalk.i64_in _ (by omega)
                          have e1 : (Int.tmod S 4 == 0) = true := by rw [Int.tmod_eq_emod_of_nonneg (by omega)]; simpa using he
                          have c1 : decide (1 ≤ k) = true := decide_eq_true (by omega)
                          have c2 : decide (k ≤ 6) = true := decide_eq_true (by omega)
                          have c4 : (B % 4 == 0) = true := by simpa using hc4
                          have c5 : decide (B + S ≤ 4294967296) = true := decide_eq_true (by omega)
                          have c6 : decide (-1 ≤ O) = true := decide_eq_true (by omega)
                          have c7 : decide (O < 8) = true := decide_eq_true (by omega)
                          have c8 : decide (-1 ≤ L) = true := decide_eq_true (by omega)
                          have c9 : decide (L < 8) = true := decide_eq_true (by omega)
                          clear hres hk ha hd he hc1 hc2 hc4 hc5 hc6 hc7 hc8 hc9
                          go_enter Tryz.func72, Tryz.ntmps72
                          go_wp2_with fail
                          go_ret
                          exact ⟨rfl, (Below.refl _ _).alloc (Nat.le_refl _) _⟩
                        · skip
                          have hres : devV k B S O L = false := Bool.eq_false_iff.2 (fun h => by have hp := dev_parts h; omega)
                          rw [hres] at hb
                          subst hb
                          have k1 : (k == 1) = true := by simpa using hk
                          have a1 : decide (4 ≤ S) = true := decide_eq_true (by omega)
                          have d1 : decide (S ≤ 4096) = true := decide_eq_true (by omega)
                          have wq : IntKind.i64.wrap (B + S) = B + S := IntWalk.i64_in _ (by omega)
                          have e1 : (Int.tmod S 4 == 0) = true := by rw [Int.tmod_eq_emod_of_nonneg (by omega)]; simpa using he
                          have c1 : decide (1 ≤ k) = true := decide_eq_true (by omega)
                          have c2 : decide (k ≤ 6) = true := decide_eq_true (by omega)
                          have c4 : (B % 4 == 0) = true := by simpa using hc4
                          have c5 : decide (B + S ≤ 4294967296) = true := decide_eq_true (by omega)
                          have c6 : decide (-1 ≤ O) = true := decide_eq_true (by omega)
                          have c7 : decide (O < 8) = true := decide_eq_true (by omega)
                          have c8 : decide (-1 ≤ L) = true := decide_eq_true (by omega)
                          have c9 : decide (L < 8) = false := decide_eq_false (by omega)
                          clear hres hk ha hd he hc1 hc2 hc4 hc5 hc6 hc7 hc8 hc9
                          go_enter Tryz.func72, Tryz.ntmps72
                          go_wp2_with fail
                          go_ret
                          exact ⟨rfl, (Below.refl _ _).alloc (Nat.le_refl _) _⟩
                      · skip
                        have hres : devV k B S O L = false := Bool.eq_false_iff.2 (fun h => by have hp := dev_parts h; omega)
                        rw [hres] at hb
                        subst hb
                        have k1 : (k == 1) = true := by simpa using hk
                        have a1 : decide (4 ≤ S) = true := decide_eq_true (by omega)
                        have d1 : decide (S ≤ 4096) = true := decide_eq_true (by omega)
                        have wq : IntKind.i64.wrap (B + S) = B + S := IntWalk.i64_in _ (by omega)
                        have e1 : (Int.tmod S 4 == 0) = true := by rw [Int.tmod_eq_emod_of_nonneg (by omega)]; simpa using he
                        have c1 : decide (1 ≤ k) = true := decide_eq_true (by omega)
                        have c2 : decide (k ≤ 6) = true := decide_eq_true (by omega)
                        have c4 : (B % 4 == 0) = true := by simpa using hc4
                        have c5 : decide (B + S ≤ 4294967296) = true := decide_eq_true (by omega)
                        have c6 : decide (-1 ≤ O) = true := decide_eq_true (by omega)
                        have c7 : decide (O < 8) = true := decide_eq_true (by omega)
                        have c8 : decide (-1 ≤ L) = false := decide_eq_false (by omega)
                        clear hres hk ha hd he hc1 hc2 hc4 hc5 hc6 hc7 hc8
                        go_enter Tryz.func72, Tryz.ntmps72
                        go_wp2_with fail
                        go_ret
                        exact ⟨rfl, (Below.refl _ _).alloc (Nat.le_refl _) _⟩
                    · skip
                      have hres : devV k B S O L = false := Bool.eq_false_iff.2 (fun h => by have hp := dev_parts h; omega)
                      rw [hres] at hb
                      subst hb
                      have k1 : (k == 1) = true := by simpa using hk
                      have a1 : decide (4 ≤ S) = true := decide_eq_true (by omega)
                      have d1 : decide (S ≤ 4096) = true := decide_eq_true (by omega)
                      have wq : IntKind.i64.wrap (B + S) = B + S := IntWalk.i64_in _ (by omega)
                      have e1 : (Int.tmod S 4 == 0) = true := by rw [Int.tmod_eq_emod_of_nonneg (by omega)]; simpa using he
                      have c1 : decide (1 ≤ k) = true := decide_eq_true (by omega)
                      have c2 : decide (k ≤ 6) = true := decide_eq_true (by omega)
                      have c4 : (B % 4 == 0) = true := by simpa using hc4
                      have c5 : decide (B + S ≤ 4294967296) = true := decide_eq_true (by omega)
                      have c6 : decide (-1 ≤ O) = true := decide_eq_true (by omega)
                      have c7 : decide (O < 8) = false := decide_eq_false (by omega)
                      clear hres hk ha hd he hc1 hc2 hc4 hc5 hc6 hc7
                      go_enter Tryz.func72, Tryz.ntmps72
                      go_wp2_with fail
                      go_ret
                      exact ⟨rfl, (Below.refl _ _).alloc (Nat.le_refl _) _⟩
                  · skip
                    have hres : devV k B S O L = false := Bool.eq_false_iff.2 (fun h => by have hp := dev_parts h; omega)
                    rw [hres] at hb
                    subst hb
                    have k1 : (k == 1) = true := by simpa using hk
                    have a1 : decide (4 ≤ S) = true := decide_eq_true (by omega)
                    have d1 : decide (S ≤ 4096) = true := decide_eq_true (by omega)
                    have wq : IntKind.i64.wrap (B + S) = B + S := IntWalk.i64_in _ (by omega)
                    have e1 : (Int.tmod S 4 == 0) = true := by rw [Int.tmod_eq_emod_of_nonneg (by omega)]; simpa using he
                    have c1 : decide (1 ≤ k) = true := decide_eq_true (by omega)
                    have c2 : decide (k ≤ 6) = true := decide_eq_true (by omega)
                    have c4 : (B % 4 == 0) = true := by simpa using hc4
                    have c5 : decide (B + S ≤ 4294967296) = true := decide_eq_true (by omega)
                    have c6 : decide (-1 ≤ O) = false := decide_eq_false (by omega)
                    clear hres hk ha hd he hc1 hc2 hc4 hc5 hc6
                    go_enter Tryz.func72, Tryz.ntmps72
                    go_wp2_with fail
                    go_ret
                    exact ⟨rfl, (Below.refl _ _).alloc (Nat.le_refl _) _⟩
                · skip
                  have hres : devV k B S O L = false := Bool.eq_false_iff.2 (fun h => by have hp := dev_parts h; omega)
                  rw [hres] at hb
                  subst hb
                  have k1 : (k == 1) = true := by simpa using hk
                  have a1 : decide (4 ≤ S) = true := decide_eq_true (by omega)
                  have d1 : decide (S ≤ 4096) = true := decide_eq_true (by omega)
                  have wq : IntKind.i64.wrap (B + S) = B + S := IntWalk.i64_in _ (by omega)
                  have e1 : (Int.tmod S 4 == 0) = true := by rw [Int.tmod_eq_emod_of_nonneg (by omega)]; simpa using he
                  have c1 : decide (1 ≤ k) = true := decide_eq_true (by omega)
                  have c2 : decide (k ≤ 6) = true := decide_eq_true (by omega)
                  have c4 : (B % 4 == 0) = true := by simpa using hc4
                  have c5 : decide (B + S ≤ 4294967296) = false := decide_eq_false (by omega)
                  clear hres hk ha hd he hc1 hc2 hc4 hc5
                  go_enter Tryz.func72, Tryz.ntmps72
                  go_wp2_with fail
                  go_ret
                  exact ⟨rfl, (Below.refl _ _).alloc (Nat.le_refl _) _⟩
              · skip
                have hres : devV k B S O L = false := Bool.eq_false_iff.2 (fun h => by have hp := dev_parts h; omega)
                rw [hres] at hb
                subst hb
                have k1 : (k == 1) = true := by simpa using hk
                have a1 : decide (4 ≤ S) = true := decide_eq_true (by omega)
                have d1 : decide (S ≤ 4096) = true := decide_eq_true (by omega)
                have wq : IntKind.i64.wrap (B + S) = B + S := IntWalk.i64_in _ (by omega)
                have e1 : (Int.tmod S 4 == 0) = true := by rw [Int.tmod_eq_emod_of_nonneg (by omega)]; simpa using he
                have c1 : decide (1 ≤ k) = true := decide_eq_true (by omega)
                have c2 : decide (k ≤ 6) = true := decide_eq_true (by omega)
                have c4 : (B % 4 == 0) = false := by simpa using hc4
                clear hres hk ha hd he hc1 hc2 hc4
                go_enter Tryz.func72, Tryz.ntmps72
                go_wp2_with fail
                go_ret
                exact ⟨rfl, (Below.refl _ _).alloc (Nat.le_refl _) _⟩
            · skip
              have hres : devV k B S O L = false := Bool.eq_false_iff.2 (fun h => by have hp := dev_parts h; omega)
              rw [hres] at hb
              subst hb
              have k1 : (k == 1) = true := by simpa using hk
              have a1 : decide (4 ≤ S) = true := decide_eq_true (by omega)
              have d1 : decide (S ≤ 4096) = true := decide_eq_true (by omega)
              have wq : IntKind.i64.wrap (B + S) = B + S := IntWalk.i64_in _ (by omega)
              have e1 : (Int.tmod S 4 == 0) = true := by rw [Int.tmod_eq_emod_of_nonneg (by omega)]; simpa using he
              have c1 : decide (1 ≤ k) = true := decide_eq_true (by omega)
              have c2 : decide (k ≤ 6) = false := decide_eq_false (by omega)
              clear hres hk ha hd he hc1 hc2
              go_enter Tryz.func72, Tryz.ntmps72
              go_wp2_with fail
              go_ret
              exact ⟨rfl, (Below.refl _ _).alloc (Nat.le_refl _) _⟩
          · skip
            have hres : devV k B S O L = false := Bool.eq_false_iff.2 (fun h => by have hp := dev_parts h; omega)
            rw [hres] at hb
            subst hb
            have k1 : (k == 1) = true := by simpa using hk
            have a1 : decide (4 ≤ S) = true := decide_eq_true (by omega)
            have d1 : decide (S ≤ 4096) = true := decide_eq_true (by omega)
            have wq : IntKind.i64.wrap (B + S) = B + S := IntWalk.i64_in _ (by omega)
            have e1 : (Int.tmod S 4 == 0) = true := by rw [Int.tmod_eq_emod_of_nonneg (by omega)]; simpa using he
            have c1 : decide (1 ≤ k) = false := decide_eq_false (by omega)
            clear hres hk ha hd he hc1
            go_enter Tryz.func72, Tryz.ntmps72
            go_wp2_with fail
            go_ret
            exact ⟨rfl, (Below.refl _ _).alloc (Nat.le_refl _) _⟩
        · skip
          by_cases hc1 : 1 ≤ k
          · skip
            by_cases hc2 : k ≤ 6
            · skip
              have hres : devV k B S O L = false := Bool.eq_false_iff.2 (fun h => by have hp := dev_parts h; omega)
              rw [hres] at hb
              subst hb
              have k1 : (k == 1) = true := by simpa using hk
              have a1 : decide (4 ≤ S) = true := decide_eq_true (by omega)
              have d1 : decide (S ≤ 4096) = true := decide_eq_true (by omega)
              have e1 : (Int.tmod S 4 == 0) = false := by rw [Int.tmod_eq_emod_of_nonneg (by omega)]; simpa using he
              have c1 : decide (1 ≤ k) = true := decide_eq_true (by omega)
              have c2 : decide (k ≤ 6) = true := decide_eq_true (by omega)
              clear hres hk ha hd he hc1 hc2
              go_enter Tryz.func72, Tryz.ntmps72
              go_wp2_with fail
              go_ret
              exact ⟨rfl, (Below.refl _ _).alloc (Nat.le_refl _) _⟩
            · skip
              have hres : devV k B S O L = false := Bool.eq_false_iff.2 (fun h => by have hp := dev_parts h; omega)
              rw [hres] at hb
              subst hb
              have k1 : (k == 1) = true := by simpa using hk
              have a1 : decide (4 ≤ S) = true := decide_eq_true (by omega)
              have d1 : decide (S ≤ 4096) = true := decide_eq_true (by omega)
              have e1 : (Int.tmod S 4 == 0) = false := by rw [Int.tmod_eq_emod_of_nonneg (by omega)]; simpa using he
              have c1 : decide (1 ≤ k) = true := decide_eq_true (by omega)
              have c2 : decide (k ≤ 6) = false := decide_eq_false (by omega)
              clear hres hk ha hd he hc1 hc2
              go_enter Tryz.func72, Tryz.ntmps72
              go_wp2_with fail
              go_ret
              exact ⟨rfl, (Below.refl _ _).alloc (Nat.le_refl _) _⟩
          · skip
            have hres : devV k B S O L = false := Bool.eq_false_iff.2 (fun h => by have hp := dev_parts h; omega)
            rw [hres] at hb
            subst hb
            have k1 : (k == 1) = true := by simpa using hk
            have a1 : decide (4 ≤ S) = true := decide_eq_true (by omega)
            have d1 : decide (S ≤ 4096) = true := decide_eq_true (by omega)
            have e1 : (Int.tmod S 4 == 0) = false := by rw [Int.tmod_eq_emod_of_nonneg (by omega)]; simpa using he
            have c1 : decide (1 ≤ k) = false := decide_eq_false (by omega)
            clear hres hk ha hd he hc1
            go_enter Tryz.func72, Tryz.ntmps72
            go_wp2_with fail
            go_ret
            exact ⟨rfl, (Below.refl _ _).alloc (Nat.le_refl _) _⟩
      · skip
        by_cases hc1 : 1 ≤ k
        · skip
          by_cases hc2 : k ≤ 6
          · skip
            have hres : devV k B S O L = false := Bool.eq_false_iff.2 (fun h => by have hp := dev_parts h; omega)
            rw [hres] at hb
            subst hb
            have k1 : (k == 1) = true := by simpa using hk
            have a1 : decide (4 ≤ S) = true := decide_eq_true (by omega)
            have d1 : decide (S ≤ 4096) = false := decide_eq_false (by omega)
            have c1 : decide (1 ≤ k) = true := decide_eq_true (by omega)
            have c2 : decide (k ≤ 6) = true := decide_eq_true (by omega)
            clear hres hk ha hd hc1 hc2
            go_enter Tryz.func72, Tryz.ntmps72
            go_wp2_with fail
            go_ret
            exact ⟨rfl, (Below.refl _ _).alloc (Nat.le_refl _) _⟩
          · skip
            have hres : devV k B S O L = false := Bool.eq_false_iff.2 (fun h => by have hp := dev_parts h; omega)
            rw [hres] at hb
            subst hb
            have k1 : (k == 1) = true := by simpa using hk
            have a1 : decide (4 ≤ S) = true := decide_eq_true (by omega)
            have d1 : decide (S ≤ 4096) = false := decide_eq_false (by omega)
            have c1 : decide (1 ≤ k) = true := decide_eq_true (by omega)
            have c2 : decide (k ≤ 6) = false := decide_eq_false (by omega)
            clear hres hk ha hd hc1 hc2
            go_enter Tryz.func72, Tryz.ntmps72
            go_wp2_with fail
            go_ret
            exact ⟨rfl, (Below.refl _ _).alloc (Nat.le_refl _) _⟩
        · skip
          have hres : devV k B S O L = false := Bool.eq_false_iff.2 (fun h => by have hp := dev_parts h; omega)
          rw [hres] at hb
          subst hb
          have k1 : (k == 1) = true := by simpa using hk
          have a1 : decide (4 ≤ S) = true := decide_eq_true (by omega)
          have d1 : decide (S ≤ 4096) = false := decide_eq_false (by omega)
          have c1 : decide (1 ≤ k) = false := decide_eq_false (by omega)
          clear hres hk ha hd hc1
          go_enter Tryz.func72, Tryz.ntmps72
          go_wp2_with fail
          go_ret
          exact ⟨rfl, (Below.refl _ _).alloc (Nat.le_refl _) _⟩
    · skip
      by_cases hc1 : 1 ≤ k
      · skip
        by_cases hc2 : k ≤ 6
        · skip
          have hres : devV k B S O L = false := Bool.eq_false_iff.2 (fun h => by have hp := dev_parts h; omega)
          rw [hres] at hb
          subst hb
          have k1 : (k == 1) = true := by simpa using hk
          have a1 : decide (4 ≤ S) = false := decide_eq_false (by omega)
          have c1 : decide (1 ≤ k) = true := decide_eq_true (by omega)
          have c2 : decide (k ≤ 6) = true := decide_eq_true (by omega)
          clear hres hk ha hc1 hc2
          go_enter Tryz.func72, Tryz.ntmps72
          go_wp2_with fail
          go_ret
          exact ⟨rfl, (Below.refl _ _).alloc (Nat.le_refl _) _⟩
        · skip
          have hres : devV k B S O L = false := Bool.eq_false_iff.2 (fun h => by have hp := dev_parts h; omega)
          rw [hres] at hb
          subst hb
          have k1 : (k == 1) = true := by simpa using hk
          have a1 : decide (4 ≤ S) = false := decide_eq_false (by omega)
          have c1 : decide (1 ≤ k) = true := decide_eq_true (by omega)
          have c2 : decide (k ≤ 6) = false := decide_eq_false (by omega)
          clear hres hk ha hc1 hc2
          go_enter Tryz.func72, Tryz.ntmps72
          go_wp2_with fail
          go_ret
          exact ⟨rfl, (Below.refl _ _).alloc (Nat.le_refl _) _⟩
      · skip
        have hres : devV k B S O L = false := Bool.eq_false_iff.2 (fun h => by have hp := dev_parts h; omega)
        rw [hres] at hb
        subst hb
        have k1 : (k == 1) = true := by simpa using hk
        have a1 : decide (4 ≤ S) = false := decide_eq_false (by omega)
        have c1 : decide (1 ≤ k) = false := decide_eq_false (by omega)
        clear hres hk ha hc1
        go_enter Tryz.func72, Tryz.ntmps72
        go_wp2_with fail
        go_ret
        exact ⟨rfl, (Below.refl _ _).alloc (Nat.le_refl _) _⟩
  · by_cases hs : S = 32
    · skip
      by_cases hc1 : 1 ≤ k
      · skip
        by_cases hc2 : k ≤ 6
        · skip
          by_cases hc4 : B % 4 = 0
          · skip
            by_cases hc5 : B + S ≤ 4294967296
            · skip
              by_cases hc6 : -1 ≤ O
              · skip
                by_cases hc7 : O < 8
                · skip
                  by_cases hc8 : -1 ≤ L
                  · skip
                    by_cases hc9 : L < 8
                    · skip
                      have hres : devV k B S O L = true := dev_of (by omega) (by omega) (by omega) (by omega) (by omega) (by omega) (by omega)
                      rw [hres] at hb
                      subst hb
                      have k1 : (k == 1) = false := by simpa using hk
                      have wq : IntKind.i64.wrap (B + S) = B + S := IntWalk.i64_in _ (by omega)
                      have s1 : (S == 32) = true := by simpa using hs
                      have c1 : decide (1 ≤ k) = true := decide_eq_true (by omega)
                      have c2 : decide (k ≤ 6) = true := decide_eq_true (by omega)
                      have c4 : (B % 4 == 0) = true := by simpa using hc4
                      have c5 : decide (B + S ≤ 4294967296) = true := decide_eq_true (by omega)
                      have c6 : decide (-1 ≤ O) = true := decide_eq_true (by omega)
                      have c7 : decide (O < 8) = true := decide_eq_true (by omega)
                      have c8 : decide (-1 ≤ L) = true := decide_eq_true (by omega)
                      have c9 : decide (L < 8) = true := decide_eq_true (by omega)
                      clear hres hk hs hc1 hc2 hc4 hc5 hc6 hc7 hc8 hc9
                      go_enter Tryz.func72, Tryz.ntmps72
                      go_wp2_with fail
                      go_ret
                      exact ⟨rfl, (Below.refl _ _).alloc (Nat.le_refl _) _⟩
                    · skip
                      have hres : devV k B S O L = false := Bool.eq_false_iff.2 (fun h => by have hp := dev_parts h; omega)
                      rw [hres] at hb
                      subst hb
                      have k1 : (k == 1) = false := by simpa using hk
                      have wq : IntKind.i64.wrap (B + S) = B + S := IntWalk.i64_in _ (by omega)
                      have s1 : (S == 32) = true := by simpa using hs
                      have c1 : decide (1 ≤ k) = true := decide_eq_true (by omega)
                      have c2 : decide (k ≤ 6) = true := decide_eq_true (by omega)
                      have c4 : (B % 4 == 0) = true := by simpa using hc4
                      have c5 : decide (B + S ≤ 4294967296) = true := decide_eq_true (by omega)
                      have c6 : decide (-1 ≤ O) = true := decide_eq_true (by omega)
                      have c7 : decide (O < 8) = true := decide_eq_true (by omega)
                      have c8 : decide (-1 ≤ L) = true := decide_eq_true (by omega)
                      have c9 : decide (L < 8) = false := decide_eq_false (by omega)
                      clear hres hk hs hc1 hc2 hc4 hc5 hc6 hc7 hc8 hc9
                      go_enter Tryz.func72, Tryz.ntmps72
                      go_wp2_with fail
                      go_ret
                      exact ⟨rfl, (Below.refl _ _).alloc (Nat.le_refl _) _⟩
                  · skip
                    have hres : devV k B S O L = false := Bool.eq_false_iff.2 (fun h => by have hp := dev_parts h; omega)
                    rw [hres] at hb
                    subst hb
                    have k1 : (k == 1) = false := by simpa using hk
                    have wq : IntKind.i64.wrap (B + S) = B + S := IntWalk.i64_in _ (by omega)
                    have s1 : (S == 32) = true := by simpa using hs
                    have c1 : decide (1 ≤ k) = true := decide_eq_true (by omega)
                    have c2 : decide (k ≤ 6) = true := decide_eq_true (by omega)
                    have c4 : (B % 4 == 0) = true := by simpa using hc4
                    have c5 : decide (B + S ≤ 4294967296) = true := decide_eq_true (by omega)
                    have c6 : decide (-1 ≤ O) = true := decide_eq_true (by omega)
                    have c7 : decide (O < 8) = true := decide_eq_true (by omega)
                    have c8 : decide (-1 ≤ L) = false := decide_eq_false (by omega)
                    clear hres hk hs hc1 hc2 hc4 hc5 hc6 hc7 hc8
                    go_enter Tryz.func72, Tryz.ntmps72
                    go_wp2_with fail
                    go_ret
                    exact ⟨rfl, (Below.refl _ _).alloc (Nat.le_refl _) _⟩
                · skip
                  have hres : devV k B S O L = false := Bool.eq_false_iff.2 (fun h => by have hp := dev_parts h; omega)
                  rw [hres] at hb
                  subst hb
                  have k1 : (k == 1) = false := by simpa using hk
                  have wq : IntKind.i64.wrap (B + S) = B + S := IntWalk.i64_in _ (by omega)
                  have s1 : (S == 32) = true := by simpa using hs
                  have c1 : decide (1 ≤ k) = true := decide_eq_true (by omega)
                  have c2 : decide (k ≤ 6) = true := decide_eq_true (by omega)
                  have c4 : (B % 4 == 0) = true := by simpa using hc4
                  have c5 : decide (B + S ≤ 4294967296) = true := decide_eq_true (by omega)
                  have c6 : decide (-1 ≤ O) = true := decide_eq_true (by omega)
                  have c7 : decide (O < 8) = false := decide_eq_false (by omega)
                  clear hres hk hs hc1 hc2 hc4 hc5 hc6 hc7
                  go_enter Tryz.func72, Tryz.ntmps72
                  go_wp2_with fail
                  go_ret
                  exact ⟨rfl, (Below.refl _ _).alloc (Nat.le_refl _) _⟩
              · skip
                have hres : devV k B S O L = false := Bool.eq_false_iff.2 (fun h => by have hp := dev_parts h; omega)
                rw [hres] at hb
                subst hb
                have k1 : (k == 1) = false := by simpa using hk
                have wq : IntKind.i64.wrap (B + S) = B + S := IntWalk.i64_in _ (by omega)
                have s1 : (S == 32) = true := by simpa using hs
                have c1 : decide (1 ≤ k) = true := decide_eq_true (by omega)
                have c2 : decide (k ≤ 6) = true := decide_eq_true (by omega)
                have c4 : (B % 4 == 0) = true := by simpa using hc4
                have c5 : decide (B + S ≤ 4294967296) = true := decide_eq_true (by omega)
                have c6 : decide (-1 ≤ O) = false := decide_eq_false (by omega)
                clear hres hk hs hc1 hc2 hc4 hc5 hc6
                go_enter Tryz.func72, Tryz.ntmps72
                go_wp2_with fail
                go_ret
                exact ⟨rfl, (Below.refl _ _).alloc (Nat.le_refl _) _⟩
            · skip
              have hres : devV k B S O L = false := Bool.eq_false_iff.2 (fun h => by have hp := dev_parts h; omega)
              rw [hres] at hb
              subst hb
              have k1 : (k == 1) = false := by simpa using hk
              have wq : IntKind.i64.wrap (B + S) = B + S := IntWalk.i64_in _ (by omega)
              have s1 : (S == 32) = true := by simpa using hs
              have c1 : decide (1 ≤ k) = true := decide_eq_true (by omega)
              have c2 : decide (k ≤ 6) = true := decide_eq_true (by omega)
              have c4 : (B % 4 == 0) = true := by simpa using hc4
              have c5 : decide (B + S ≤ 4294967296) = false := decide_eq_false (by omega)
              clear hres hk hs hc1 hc2 hc4 hc5
              go_enter Tryz.func72, Tryz.ntmps72
              go_wp2_with fail
              go_ret
              exact ⟨rfl, (Below.refl _ _).alloc (Nat.le_refl _) _⟩
          · skip
            have hres : devV k B S O L = false := Bool.eq_false_iff.2 (fun h => by have hp := dev_parts h; omega)
            rw [hres] at hb
            subst hb
            have k1 : (k == 1) = false := by simpa using hk
            have wq : IntKind.i64.wrap (B + S) = B + S := IntWalk.i64_in _ (by omega)
            have s1 : (S == 32) = true := by simpa using hs
            have c1 : decide (1 ≤ k) = true := decide_eq_true (by omega)
            have c2 : decide (k ≤ 6) = true := decide_eq_true (by omega)
            have c4 : (B % 4 == 0) = false := by simpa using hc4
            clear hres hk hs hc1 hc2 hc4
            go_enter Tryz.func72, Tryz.ntmps72
            go_wp2_with fail
            go_ret
            exact ⟨rfl, (Below.refl _ _).alloc (Nat.le_refl _) _⟩
        · skip
          have hres : devV k B S O L = false := Bool.eq_false_iff.2 (fun h => by have hp := dev_parts h; omega)
          rw [hres] at hb
          subst hb
          have k1 : (k == 1) = false := by simpa using hk
          have wq : IntKind.i64.wrap (B + S) = B + S := IntWalk.i64_in _ (by omega)
          have s1 : (S == 32) = true := by simpa using hs
          have c1 : decide (1 ≤ k) = true := decide_eq_true (by omega)
          have c2 : decide (k ≤ 6) = false := decide_eq_false (by omega)
          clear hres hk hs hc1 hc2
          go_enter Tryz.func72, Tryz.ntmps72
          go_wp2_with fail
          go_ret
          exact ⟨rfl, (Below.refl _ _).alloc (Nat.le_refl _) _⟩
      · skip
        have hres : devV k B S O L = false := Bool.eq_false_iff.2 (fun h => by have hp := dev_parts h; omega)
        rw [hres] at hb
        subst hb
        have k1 : (k == 1) = false := by simpa using hk
        have wq : IntKind.i64.wrap (B + S) = B + S := IntWalk.i64_in _ (by omega)
        have s1 : (S == 32) = true := by simpa using hs
        have c1 : decide (1 ≤ k) = false := decide_eq_false (by omega)
        clear hres hk hs hc1
        go_enter Tryz.func72, Tryz.ntmps72
        go_wp2_with fail
        go_ret
        exact ⟨rfl, (Below.refl _ _).alloc (Nat.le_refl _) _⟩
    · skip
      by_cases hc1 : 1 ≤ k
      · skip
        by_cases hc2 : k ≤ 6
        · skip
          have hres : devV k B S O L = false := Bool.eq_false_iff.2 (fun h => by have hp := dev_parts h; omega)
          rw [hres] at hb
          subst hb
          have k1 : (k == 1) = false := by simpa using hk
          have s1 : (S == 32) = false := by simpa using hs
          have c1 : decide (1 ≤ k) = true := decide_eq_true (by omega)
          have c2 : decide (k ≤ 6) = true := decide_eq_true (by omega)
          clear hres hk hs hc1 hc2
          go_enter Tryz.func72, Tryz.ntmps72
          go_wp2_with fail
          go_ret
          exact ⟨rfl, (Below.refl _ _).alloc (Nat.le_refl _) _⟩
        · skip
          have hres : devV k B S O L = false := Bool.eq_false_iff.2 (fun h => by have hp := dev_parts h; omega)
          rw [hres] at hb
          subst hb
          have k1 : (k == 1) = false := by simpa using hk
          have s1 : (S == 32) = false := by simpa using hs
          have c1 : decide (1 ≤ k) = true := decide_eq_true (by omega)
          have c2 : decide (k ≤ 6) = false := decide_eq_false (by omega)
          clear hres hk hs hc1 hc2
          go_enter Tryz.func72, Tryz.ntmps72
          go_wp2_with fail
          go_ret
          exact ⟨rfl, (Below.refl _ _).alloc (Nat.le_refl _) _⟩
      · skip
        have hres : devV k B S O L = false := Bool.eq_false_iff.2 (fun h => by have hp := dev_parts h; omega)
        rw [hres] at hb
        subst hb
        have k1 : (k == 1) = false := by simpa using hk
        have s1 : (S == 32) = false := by simpa using hs
        have c1 : decide (1 ≤ k) = false := decide_eq_false (by omega)
        clear hres hk hs hc1
        go_enter Tryz.func72, Tryz.ntmps72
        go_wp2_with fail
        go_ret
        exact ⟨rfl, (Below.refl _ _).alloc (Nat.le_refl _) _⟩
end Go.Proofs.YtmdepkehpohgeaaGreat.Win
