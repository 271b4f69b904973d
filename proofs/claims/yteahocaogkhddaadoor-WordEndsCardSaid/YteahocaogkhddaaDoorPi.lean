/- parts, of a slice that is nil. -/
import Derived.Test.YteahocaogkhddaaDoorPh
namespace Go.Proofs.YteahocaogkhddaaDoor.Word
open Go.RowKit Go.Maps Go.ChangeShapes Go.WideShapes Go.ChangeAt
set_option linter.unusedVariables false

set_option maxHeartbeats 1000000 in
theorem parts_yes_nil (x m : Nat) (w : World) (hx : x < 4294967296) (hm : sizeB (m : Int) = true) :
    Calls Tryd.prog 8 #[.int .u32 x, .int .i64 m, .slice none 0 0] w fun e w' => e = .returned (.bool true) ∧ Below w.heap.size w w' := by
  have h4 : m ≤ 4 := by rcases size_cases hm with h | h | h <;> omega
  have hpos : 0 < m := by rcases size_cases hm with h | h | h <;> omega
  obtain ⟨lv, hlv⟩ : ∃ v, lowV x m = v := ⟨_, rfl⟩
  have Hlv := Lib.hid hlv
  clear hlv
  go_enter Tryd.func8, Tryd.ntmps8
  go_wp2_with fail
  refine (low_q x m lv true _ (by omega) (by omega) Hlv.out hm).mono ?_
  rintro e w' ⟨rfl, rfl⟩
  go_wp2_with fail
  refine (rlow_any x m hx hm _).mono ?_
  rintro e w1 ⟨rfl, hb1⟩
  have Hb1 := Lib.hid hb1
  clear hb1
  rw [Hlv.out]
  go_wp2_with fail
  refine (of_no none 0 0 _ rfl).mono ?_
  rintro e w' ⟨rfl, rfl⟩
  go_wp2_with fail
  refine (rof_no none 0 0 _ rfl).mono ?_
  rintro e w' ⟨rfl, rfl⟩
  go_wp2_with fail
  refine (bytes_row x m hx hm _).mono ?_
  rintro e w3 ⟨ax, cx, rfl, hox, hb3⟩
  have Hb3 := Lib.hid (Hb1.out.trans (hb3.mono Hb1.out.size))
  have Hox := Lib.hid hox
  clear hox hb3
  go_wp2_with fail
  refine (bytes_row x m hx hm _).mono ?_
  rintro e w4 ⟨ay, cy, rfl, hoy, hb4⟩
  have Hne : Hid (∀ k, Kit.SA ax k → ¬ Kit.SA ay k) := Lib.hid fun k h1 h2 => by
    have a1 := (KitBytes.r_lt Hox.out k h1).2
    have a2 := (KitBytes.r_lt hoy k h2).1
    omega
  have Hox4 := Lib.hid (bown_below Hox.out hb4)
  have Hoy := Lib.hid hoy
  have Hb4 := Lib.hid (Hb3.out.trans (hb4.mono Hb3.out.size))
  clear hoy hb4
  go_wp2_with (first | (go_at_call 28; refine (size_any _ _).mono ?_; rintro e w' ⟨rfl, rfl⟩) | (go_at_call 29; refine (rsize_any _ _).mono ?_; rintro e w' ⟨rfl, rfl⟩))
  refine (rbytes_any x m hx hm h4 _).mono ?_
  rintro e w5 ⟨az, cz, rfl, hoz, hb5⟩
  have Hox5 := Lib.hid (bown_below Hox4.out hb5)
  have Hoy5 := Lib.hid (bown_below Hoy.out hb5)
  have Hb5 := Lib.hid (Hb4.out.trans (hb5.mono Hb4.out.size))
  obtain ⟨gx, rfl⟩ := KitBytes.r_some Hox5.out (.inl hpos)
  obtain ⟨gz, rfl⟩ := KitBytes.r_some hoz (.inl hpos)
  have Hoz := Lib.hid hoz
  clear hoz hb5 Hox Hox4
  go_wp2_with fail
  refine (same_rows h4 Hox5.out Hoz.out).mono ?_
  rintro e w6 ⟨rfl, j, rfl⟩
  go_wp2_with fail
  have sz1 := Hb1.out.size
  have sz3 := Hb3.out.size
  have sz5 := Hb5.out.size
  refine (KitBytes.apart_two w5.heap.size 2 m cx m cy (some ⟨gx, 0, none⟩) ay (bv (bK x m)) (bv (bK x m)) ((w5.drewN j).alloc (.cells #[.slice (some ⟨gx, 0, none⟩) m cx, .slice ay m cy] 29)) (KitBytes.own_base ((bown_below Hox5.out (below_drewN (Below.refl _ _) j)).alloc _) (Nat.zero_le _)) (KitBytes.own_base ((bown_below Hoy5.out (below_drewN (Below.refl _ _) j)).alloc _) (Nat.zero_le _)) Hne.out (by omega) (by omega) (World.cell?_alloc_at #[.slice (some ⟨gx, 0, none⟩) m cx, .slice ay m cy] _ w5.heap.size 0 rfl) (World.cell?_alloc_at #[.slice (some ⟨gx, 0, none⟩) m cx, .slice ay m cy] _ w5.heap.size 1 rfl)).mono ?_
  rintro e w7 ⟨rfl, ho7⟩
  have Hb7 := Lib.hid (((below_drewN Hb5.out j).alloc (by show w.heap.size ≤ w5.heap.size; omega) _).trans (ho7.below (by rw [World.size_alloc]; show w.heap.size ≤ w5.heap.size + 1; omega) (fun k hk => by
    rcases hk with hk | hk
    · have := (KitBytes.r_lt Hox5.out k hk).1; omega
    · have := (KitBytes.r_lt Hoy5.out k hk).1; omega)))
  clear ho7
  go_wp2_with fail
  go_ret
  exact ⟨rfl, Hb7.out⟩
set_option maxHeartbeats 1000000 in
theorem parts_no_nil (x : Nat) (s : Int) (w : World) (hx : x < 4294967296) (hm : sizeB s = false) :
    Calls Tryd.prog 8 #[.int .u32 x, .int .i64 s, .slice none 0 0] w fun e w' => e = .returned (.bool true) ∧ Below w.heap.size w w' := by
  have hf := sizeB_false hm
  have Hlv : Hid (lowV x s = 0) := Lib.hid (by unfold lowV; rw [if_neg (by omega), if_neg (by omega), if_neg (by omega)])
  clear hf
  go_enter Tryd.func8, Tryd.ntmps8
  go_wp2_with fail
  refine (low_q x s 0 false _ (by omega) (by omega) Hlv.out hm).mono ?_
  rintro e w' ⟨rfl, rfl⟩
  go_wp2_with fail
  refine (rlow_no x s _ hm).mono ?_
  rintro e w1 ⟨rfl, hb1⟩
  have Hb1 := Lib.hid hb1
  clear hb1
  go_wp2_with fail
  refine (of_no none 0 0 _ rfl).mono ?_
  rintro e w' ⟨rfl, rfl⟩
  go_wp2_with fail
  refine (rof_no none 0 0 _ rfl).mono ?_
  rintro e w' ⟨rfl, rfl⟩
  go_wp2_with fail
  refine (bytes_no x s _ hm).mono ?_
  rintro e w' ⟨rfl, rfl⟩
  go_wp2_with fail
  refine (bytes_no x s _ hm).mono ?_
  rintro e w' ⟨rfl, rfl⟩
  go_wp2_with (first | (go_at_call 28; refine (size_any _ _).mono ?_; rintro e w' ⟨rfl, rfl⟩) | (go_at_call 29; refine (rsize_any _ _).mono ?_; rintro e w' ⟨rfl, rfl⟩))
  refine (rbytes_no x s _ hm).mono ?_
  rintro e w' ⟨rfl, rfl⟩
  go_wp2_with fail
  refine (same_bytes_nil none none 0 0 _).mono ?_
  rintro e w' ⟨rfl, rfl⟩
  go_wp2_with fail
  have sz1 := Hb1.out.size
  refine (KitBytes.apart_two w1.heap.size 2 0 0 0 0 none none [] [] (w1.alloc (.cells #[.slice none 0 0, .slice none 0 0] 29)) (World.ownsRow_nil _ _ _ _) (World.ownsRow_nil _ _ _ _) (fun k h => by obtain ⟨_, h, _⟩ := h; cases h) (by omega) (by omega) (World.cell?_alloc_at #[.slice none 0 0, .slice none 0 0] _ w1.heap.size 0 rfl) (World.cell?_alloc_at #[.slice none 0 0, .slice none 0 0] _ w1.heap.size 1 rfl)).mono ?_
  rintro e w7 ⟨rfl, ho7⟩
  have Hb7 := Lib.hid ((Hb1.out.alloc sz1 _).trans (ho7.below (by rw [World.size_alloc]; omega) (fun k hk => by
    rcases hk with ⟨_, h, _⟩ | ⟨_, h, _⟩ <;> cases h)))
  clear ho7
  go_wp2_with fail
  go_ret
  exact ⟨rfl, Hb7.out⟩
theorem parts_nil (x : Nat) (s : Int) (w : World) (hx : x < 4294967296) :
    Calls Tryd.prog 8 #[.int .u32 x, .int .i64 s, .slice none 0 0] w fun e w' => e = .returned (.bool true) ∧ Below w.heap.size w w' := by
  by_cases hs : sizeB s = true
  · obtain ⟨m, rfl⟩ : ∃ m : Nat, s = m := ⟨s.toNat, by have := sizeB_yes hs; omega⟩
    exact parts_yes_nil x m w hx hs
  · exact parts_no_nil x s w hx (by simpa using hs)
end Go.Proofs.YteahocaogkhddaaDoor.Word
