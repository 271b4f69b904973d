/- Contracts: Decode. -/
import Derived.Test.YtblccnpdcnlhiaaCj
namespace Go.Proofs.Ytblccnpdcnlhiaa.Access
open Go.RowKit Go.Maps Go.ChangeShapes Go.WideShapes Go.ChangeAt Kit Word
set_option linter.unusedVariables false

/-- A place for an access that may be written. -/
structure Slot5 (w : World) (b : Nat) (W : Int) (r : Bool) (A S D : Int) : Prop where
  five : Five w b W r A S D
  f0 : w.frozen? ⟨b, 0, none⟩ = false
  f1 : w.frozen? ⟨b, 1, none⟩ = false
  f2 : w.frozen? ⟨b, 2, none⟩ = false
  f3 : w.frozen? ⟨b, 3, none⟩ = false
  f4 : w.frozen? ⟨b, 4, none⟩ = false
theorem Slot5.keep {w w' : World} {b : Nat} {W : Int} {r : Bool} {A S D : Int} (h : Slot5 w b W r A S D) (hb : Below w.heap.size w w') : Slot5 w' b W r A S D := by
  have hlt : b < w.heap.size := World.block_lt_of_cell? w _ h.five.c0
  exact ⟨h.five.keep hb, (hb.frozen (p := ⟨b, 0, none⟩) hlt).trans h.f0, (hb.frozen (p := ⟨b, 1, none⟩) hlt).trans h.f1, (hb.frozen (p := ⟨b, 2, none⟩) hlt).trans h.f2, (hb.frozen (p := ⟨b, 3, none⟩) hlt).trans h.f3, (hb.frozen (p := ⟨b, 4, none⟩) hlt).trans h.f4⟩
theorem slot5_new (w : World) (W : Int) (r : Bool) (A S D : Int) (t : TypeId) : Slot5 (w.alloc (.cells #[.int .i64 W, .bool r, .int .u32 A, .int .i64 S, .int .u32 D] t)) w.heap.size W r A S D :=
  ⟨five_new w W r A S D t, by simp [go_sem], by simp [go_sem], by simp [go_sem], by simp [go_sem], by simp [go_sem]⟩
theorem rec_at {w : World} {b g c : Nat} {l : List Int} {n : Nat} (h : w.ownsRow b 5 1 (.slice (some ⟨g, 0, none⟩) n c) n (bv l)) (hl : l.length = n) : ∀ i, i < n → w.cell? ⟨g, 0 + i, none⟩ = some (.int .u8 (l.getD i 0)) := by
  intro i hi
  rw [Nat.zero_add, KitBytes.r_cell h hi]
  simp [bv, List.getD_eq_getElem?_getD, show i < l.length by omega]
theorem recL_bd {W : Int} {r : Bool} {A S D : Int} (hW : 0 ≤ W) (hW' : W < 256) (hA : 0 ≤ A) (hA' : A < 4294967296) (hD : 0 ≤ D) (hD' : D < 4294967296) : ∀ c ∈ recL W r A S D, 0 ≤ c ∧ c < 256 := by
  have hf := flag_bd r S
  intro c hc
  simp only [recL, List.mem_cons, List.not_mem_nil, or_false] at hc
  rcases hc with rfl | rfl | rfl | rfl | rfl | rfl | rfl | rfl | rfl | rfl | rfl | rfl <;> omega

theorem post_letter {P : Program} {F : Func} {Q : Ending → World → Prop} {e : Exit} {a : Act} {w : World} (h : ∀ X, Hid (X = w) → bodyPost P F Q e a X) : bodyPost P F Q e a w := h w (Lib.hid rfl)
theorem Decode_long (a : Option Addr) (n cap : Nat) (w : World) (hn : 12 < n) :
    Calls Try.prog 15 #[.slice a n cap] w fun e w' => e = .returned (.tuple #[acc 0 false 0 0 0, .int .i64 3]) ∧ Below w.heap.size w w' := by
  have d1 : decide ((12 : Int) < (n : Int)) = true := decide_eq_true (by omega)
  have d2 : decide (12 < n) = true := decide_eq_true (by omega)
  go_enter Try.func15, Try.ntmps15
  go_wp2_with fail
  refine bodyPost_ret (v := .tuple #[acc 0 false 0 0 0, .int .i64 3]) ?_ rfl ⟨rfl, by repeat (first | exact (Below.refl _ _).alloc (Nat.le_refl _) _ | refine Below.setCell ?_ (by simp) _)⟩
  simp [results, Try.results15, go_sem]

set_option maxHeartbeats 1000000 in
theorem Decode_none (a : Option Addr) (n cap : Nat) (W : Int) (r : Bool) (A S D : Int) (w : World) (hn : n ≤ 12)
    (RO : ∀ w', Below w.heap.size w w' → Calls Try.prog 31 #[.slice a n cap] w' fun e w'' => e = .returned (.tuple #[acc W r A S D, .bool false]) ∧ Below w'.heap.size w' w'') :
    Calls Try.prog 15 #[.slice a n cap] w fun e w' => e = .returned (.tuple #[acc 0 false 0 0 0, .int .i64 4]) ∧ Below w.heap.size w w' := by
  have d1 : decide ((12 : Int) < (n : Int)) = false := decide_eq_false (by omega)
  have d2 : decide (12 < n) = false := decide_eq_false (by omega)
  go_enter Try.func15, Try.ntmps15
  go_wp2_with fail
  refine (RO _ ((Below.refl _ _).alloc (Nat.le_refl _) _)).mono ?_
  rintro e w1 ⟨rfl, hb⟩
  have S1 := Lib.hid ((slot5_new w 0 false 0 0 0 _).keep hb)
  have B1 := Lib.hid (((Below.refl w.heap.size w).alloc (Nat.le_refl _) _).trans (hb.mono (by simp)))
  obtain ⟨Z, hB⟩ : ∃ Z, w.heap.size = Z := ⟨_, rfl⟩
  rw [hB] at S1
  rw [hB]
  have HB := Lib.hid hB
  clear hb RO hB
  obtain ⟨⟨k0, k1, k2, k3, k4⟩, f0, f1, f2, f3, f4⟩ := S1.out
  have hlt := World.block_lt_of_cell? w1 _ k0
  simp only at hlt
  go_wp2_with fail
  refine post_letter ?_
  intro X hX
  have K : Five X Z 0 false 0 0 0 := by rw [hX.out]; exact Five.alloc (⟨by simp [go_sem, k0], by simp [go_sem, k1], by simp [go_sem, k2], by simp [go_sem, k3], by simp [go_sem, k4]⟩) _
  have HZ : Below w.heap.size w X := by
    rw [hX.out]
    have hZ := B1.out
    have hz := HB.out
    refine Below.alloc ?_ (by simp; have := hZ.size; omega) _
    exact ((((hZ.setCell (by simp; omega) _).setCell (by simp; omega) _).setCell (by simp; omega) _).setCell (by simp; omega) _).setCell (by simp; omega) _
  obtain ⟨x0, x1, x2, x3, x4⟩ := K
  clear hX k0 k1 k2 k3 k4
  refine bodyPost_ret (v := .tuple #[acc 0 false 0 0 0, .int .i64 4]) ?_ rfl ⟨rfl, HZ⟩
  simp [results, Try.results15, go_sem, x0, x1, x2, x3, x4]

set_option maxHeartbeats 1000000 in
theorem Decode_wrong (a : Option Addr) (n cap : Nat) (W : Int) (r : Bool) (A S D : Int) (w : World) (hn : n ≤ 12)
    (RO : ∀ w', Below w.heap.size w w' → Calls Try.prog 31 #[.slice a n cap] w' fun e w'' => e = .returned (.tuple #[acc W r A S D, .bool true]) ∧ Below w'.heap.size w' w'')
    (R : ∀ w, Calls Try.prog 30 #[acc W r A S D] w fun e w' => e = .returned (.bool false) ∧ Below w.heap.size w w') :
    Calls Try.prog 15 #[.slice a n cap] w fun e w' => e = .returned (.tuple #[acc 0 false 0 0 0, .int .i64 4]) ∧ Below w.heap.size w w' := by
  have d1 : decide ((12 : Int) < (n : Int)) = false := decide_eq_false (by omega)
  have d2 : decide (12 < n) = false := decide_eq_false (by omega)
  go_enter Try.func15, Try.ntmps15
  go_wp2_with fail
  refine (RO _ ((Below.refl _ _).alloc (Nat.le_refl _) _)).mono ?_
  rintro e w1 ⟨rfl, hb⟩
  have S1 := Lib.hid ((slot5_new w 0 false 0 0 0 _).keep hb)
  have B1 := Lib.hid (((Below.refl w.heap.size w).alloc (Nat.le_refl _) _).trans (hb.mono (by simp)))
  obtain ⟨Z, hB⟩ : ∃ Z, w.heap.size = Z := ⟨_, rfl⟩
  rw [hB] at S1
  rw [hB]
  have HB := Lib.hid hB
  clear hb RO hB
  go_wp2_with fail
  refine (R _).mono ?_
  rintro e w2 ⟨rfl, hb⟩
  have S2 := Lib.hid (S1.out.keep (((Below.refl w1.heap.size w1).alloc (Nat.le_refl _) _).trans (hb.mono (by simp))))
  have T2 := Lib.hid ((five_new w1 W r A S D _).keep hb)
  have B2 := Lib.hid ((B1.out.alloc B1.out.size _).trans (hb.mono (B1.out.alloc B1.out.size _).size))
  obtain ⟨C, hC⟩ : ∃ C, w1.heap.size = C := ⟨_, rfl⟩
  rw [hC] at T2
  rw [hC]
  clear hb S1 B1 R hC
  obtain ⟨⟨k0, k1, k2, k3, k4⟩, f0, f1, f2, f3, f4⟩ := S2.out
  go_wp2_with fail
  refine post_letter ?_
  intro X hX
  have K : Five X Z 0 false 0 0 0 := by rw [hX.out]; exact ⟨by simp [go_sem, k0], by simp [go_sem, k1], by simp [go_sem, k2], by simp [go_sem, k3], by simp [go_sem, k4]⟩
  have HZ : Below w.heap.size w X := by
    rw [hX.out]
    have hZ := B2.out
    have hz := HB.out
    exact ((((hZ.setCell (by simp; omega) _).setCell (by simp; omega) _).setCell (by simp; omega) _).setCell (by simp; omega) _).setCell (by simp; omega) _
  obtain ⟨x0, x1, x2, x3, x4⟩ := K
  clear hX k0 k1 k2 k3 k4
  refine bodyPost_ret (v := .tuple #[acc 0 false 0 0 0, .int .i64 4]) ?_ rfl ⟨rfl, HZ⟩
  simp [results, Try.results15, go_sem, x0, x1, x2, x3, x4]

set_option maxHeartbeats 1000000 in
theorem Decode_off (a : Option Addr) (n cap : Nat) (W : Int) (r : Bool) (A S D : Int) (w : World) (hn : n ≤ 12)
    (RO : ∀ w', Below w.heap.size w w' → Calls Try.prog 31 #[.slice a n cap] w' fun e w'' => e = .returned (.tuple #[acc W r A S D, .bool true]) ∧ Below w'.heap.size w' w'')
    (R : ∀ w, Calls Try.prog 30 #[acc W r A S D] w fun e w' => e = .returned (.bool true) ∧ Below w.heap.size w w')
    (B : ∀ w, Calls Try.prog 29 #[acc W r A S D] w fun e w' => ∃ g, e = .returned (.slice (some ⟨g, 0, none⟩) 12 12) ∧ w'.ownsRow w.heap.size 5 1 (.slice (some ⟨g, 0, none⟩) 12 12) 12 (bv (recL W r A S D)) ∧ Below w.heap.size w w')
    (E : ∀ w' b g, Below w.heap.size w w' → w'.ownsRow b 5 1 (.slice (some ⟨g, 0, none⟩) 12 12) 12 (bv (recL W r A S D)) → Calls Try.prog 32 #[.slice (some ⟨g, 0, none⟩) 12 12, .slice a n cap] w' fun e w'' => e = .returned (.bool false) ∧ w' = w'') :
    Calls Try.prog 15 #[.slice a n cap] w fun e w' => e = .returned (.tuple #[acc 0 false 0 0 0, .int .i64 4]) ∧ Below w.heap.size w w' := by
  have d1 : decide ((12 : Int) < (n : Int)) = false := decide_eq_false (by omega)
  have d2 : decide (12 < n) = false := decide_eq_false (by omega)
  go_enter Try.func15, Try.ntmps15
  go_wp2_with fail
  refine (RO _ ((Below.refl _ _).alloc (Nat.le_refl _) _)).mono ?_
  rintro e w1 ⟨rfl, hb⟩
  have S1 := Lib.hid ((slot5_new w 0 false 0 0 0 _).keep hb)
  have B1 := Lib.hid (((Below.refl w.heap.size w).alloc (Nat.le_refl _) _).trans (hb.mono (by simp)))
  obtain ⟨Z, hB⟩ : ∃ Z, w.heap.size = Z := ⟨_, rfl⟩
  rw [hB] at S1
  rw [hB]
  have HB := Lib.hid hB
  clear hb RO hB
  go_wp2_with fail
  refine (R _).mono ?_
  rintro e w2 ⟨rfl, hb⟩
  have S2 := Lib.hid (S1.out.keep (((Below.refl w1.heap.size w1).alloc (Nat.le_refl _) _).trans (hb.mono (by simp))))
  have T2 := Lib.hid ((five_new w1 W r A S D _).keep hb)
  have B2 := Lib.hid ((B1.out.alloc B1.out.size _).trans (hb.mono (B1.out.alloc B1.out.size _).size))
  obtain ⟨C, hC⟩ : ∃ C, w1.heap.size = C := ⟨_, rfl⟩
  rw [hC] at T2
  rw [hC]
  clear hb S1 B1 R hC
  obtain ⟨q0, q1, q2, q3, q4⟩ := T2.out
  go_wp2_with fail
  refine (B _).mono ?_
  rintro e w3 ⟨g, rfl, hown, hb⟩
  have S3 := Lib.hid (S2.out.keep hb)
  have T3 := Lib.hid (T2.out.keep hb)
  have B3 := Lib.hid (B2.out.trans (hb.mono B2.out.size))
  have Hown := Lib.hid hown
  clear hb hown S2 T2 B2 q0 q1 q2 q3 q4
  go_wp2_with fail
  refine (E _ _ g B3.out Hown.out).mono ?_
  rintro e w4 ⟨rfl, rfl⟩
  clear E
  obtain ⟨⟨k0, k1, k2, k3, k4⟩, f0, f1, f2, f3, f4⟩ := S3.out
  obtain ⟨q0, q1, q2, q3, q4⟩ := T3.out
  go_wp2_with fail
  refine post_letter ?_
  intro X hX
  have K : Five X Z 0 false 0 0 0 := by rw [hX.out]; exact ⟨by simp [go_sem, k0], by simp [go_sem, k1], by simp [go_sem, k2], by simp [go_sem, k3], by simp [go_sem, k4]⟩
  have HZ : Below w.heap.size w X := by
    rw [hX.out]
    have hZ := B3.out
    have hz := HB.out
    exact ((((hZ.setCell (by simp; omega) _).setCell (by simp; omega) _).setCell (by simp; omega) _).setCell (by simp; omega) _).setCell (by simp; omega) _
  obtain ⟨x0, x1, x2, x3, x4⟩ := K
  clear hX k0 k1 k2 k3 k4
  refine bodyPost_ret (v := .tuple #[acc 0 false 0 0 0, .int .i64 4]) ?_ rfl ⟨rfl, HZ⟩
  simp [results, Try.results15, go_sem, x0, x1, x2, x3, x4]

set_option maxHeartbeats 1000000 in
theorem Decode_ok (a : Option Addr) (n cap : Nat) (W : Int) (r : Bool) (A S D : Int) (w : World) (hn : n ≤ 12)
    (RO : ∀ w', Below w.heap.size w w' → Calls Try.prog 31 #[.slice a n cap] w' fun e w'' => e = .returned (.tuple #[acc W r A S D, .bool true]) ∧ Below w'.heap.size w' w'')
    (R : ∀ w, Calls Try.prog 30 #[acc W r A S D] w fun e w' => e = .returned (.bool true) ∧ Below w.heap.size w w')
    (B : ∀ w, Calls Try.prog 29 #[acc W r A S D] w fun e w' => ∃ g, e = .returned (.slice (some ⟨g, 0, none⟩) 12 12) ∧ w'.ownsRow w.heap.size 5 1 (.slice (some ⟨g, 0, none⟩) 12 12) 12 (bv (recL W r A S D)) ∧ Below w.heap.size w w')
    (E : ∀ w' b g, Below w.heap.size w w' → w'.ownsRow b 5 1 (.slice (some ⟨g, 0, none⟩) 12 12) 12 (bv (recL W r A S D)) → Calls Try.prog 32 #[.slice (some ⟨g, 0, none⟩) 12 12, .slice a n cap] w' fun e w'' => e = .returned (.bool true) ∧ w' = w'') :
    Calls Try.prog 15 #[.slice a n cap] w fun e w' => e = .returned (.tuple #[acc W r A S D, .int .i64 0]) ∧ Below w.heap.size w w' := by
  have d1 : decide ((12 : Int) < (n : Int)) = false := decide_eq_false (by omega)
  have d2 : decide (12 < n) = false := decide_eq_false (by omega)
  go_enter Try.func15, Try.ntmps15
  go_wp2_with fail
  refine (RO _ ((Below.refl _ _).alloc (Nat.le_refl _) _)).mono ?_
  rintro e w1 ⟨rfl, hb⟩
  have S1 := Lib.hid ((slot5_new w 0 false 0 0 0 _).keep hb)
  have B1 := Lib.hid (((Below.refl w.heap.size w).alloc (Nat.le_refl _) _).trans (hb.mono (by simp)))
  obtain ⟨Z, hB⟩ : ∃ Z, w.heap.size = Z := ⟨_, rfl⟩
  rw [hB] at S1
  rw [hB]
  have HB := Lib.hid hB
  clear hb RO hB
  go_wp2_with fail
  refine (R _).mono ?_
  rintro e w2 ⟨rfl, hb⟩
  have S2 := Lib.hid (S1.out.keep (((Below.refl w1.heap.size w1).alloc (Nat.le_refl _) _).trans (hb.mono (by simp))))
  have T2 := Lib.hid ((five_new w1 W r A S D _).keep hb)
  have B2 := Lib.hid ((B1.out.alloc B1.out.size _).trans (hb.mono (B1.out.alloc B1.out.size _).size))
  obtain ⟨C, hC⟩ : ∃ C, w1.heap.size = C := ⟨_, rfl⟩
  rw [hC] at T2
  rw [hC]
  clear hb S1 B1 R hC
  obtain ⟨q0, q1, q2, q3, q4⟩ := T2.out
  go_wp2_with fail
  refine (B _).mono ?_
  rintro e w3 ⟨g, rfl, hown, hb⟩
  have S3 := Lib.hid (S2.out.keep hb)
  have T3 := Lib.hid (T2.out.keep hb)
  have B3 := Lib.hid (B2.out.trans (hb.mono B2.out.size))
  have Hown := Lib.hid hown
  clear hb hown S2 T2 B2 q0 q1 q2 q3 q4
  go_wp2_with fail
  refine (E _ _ g B3.out Hown.out).mono ?_
  rintro e w4 ⟨rfl, rfl⟩
  clear E
  obtain ⟨⟨k0, k1, k2, k3, k4⟩, f0, f1, f2, f3, f4⟩ := S3.out
  obtain ⟨q0, q1, q2, q3, q4⟩ := T3.out
  go_wp2_with fail
  refine post_letter ?_
  intro X hX
  have K : Five X Z W r A S D := by rw [hX.out]; exact ⟨by simp [go_sem, k0], by simp [go_sem, k1], by simp [go_sem, k2], by simp [go_sem, k3], by simp [go_sem, k4]⟩
  have HZ : Below w.heap.size w X := by
    rw [hX.out]
    have hZ := B3.out
    have hz := HB.out
    exact ((((hZ.setCell (by simp; omega) _).setCell (by simp; omega) _).setCell (by simp; omega) _).setCell (by simp; omega) _).setCell (by simp; omega) _
  obtain ⟨x0, x1, x2, x3, x4⟩ := K
  clear hX k0 k1 k2 k3 k4
  refine bodyPost_ret (v := .tuple #[acc W r A S D, .int .i64 0]) ?_ rfl ⟨rfl, HZ⟩
  simp [results, Try.results15, go_sem, x0, x1, x2, x3, x4]

end Go.Proofs.Ytblccnpdcnlhiaa.Access
