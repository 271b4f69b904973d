/- Contracts: the document's Encode. -/
import Derived.Test.YtblccnpdcnlhiaaCh
namespace Go.Proofs.Ytblccnpdcnlhiaa.Access
open Go.RowKit Go.Maps Go.ChangeShapes Go.WideShapes Go.ChangeAt Kit Word
set_option linter.unusedVariables false

theorem bK_four (x : Nat) (hx : x < 4294967296) : bK x 4 = [(x : Int) % 256, (x : Int) / 256 % 256, (x : Int) / 65536 % 256, (x : Int) / 16777216] := by
  have e : (x : Int) / 16777216 % 256 = (x : Int) / 16777216 := by omega
  simp [bK, List.range_succ, e]
theorem rEncode_no (W : Int) (r : Bool) (A S D : Int) (w : World)
    (R : ∀ w, Calls Try.prog 21 #[acc W r A S D] w fun e w' => e = .returned (.bool false) ∧ Below w.heap.size w w') :
    Calls Try.prog 11 #[acc W r A S D] w (EncRow 0 [] 2 w) := by
  go_enter Try.func11, Try.ntmps11
  go_wp2_with fail
  refine (R _).mono ?_
  rintro e w1 ⟨rfl, hb⟩
  have Hb := Lib.hid (((Below.refl w.heap.size w).alloc (Nat.le_refl _) _).trans (hb.mono (by simp)))
  clear hb
  go_wp2_with fail
  go_ret2
  exact ⟨none, 0, rfl, World.ownsRow_nil _ _ _ _, Hb.out⟩
/-- Behind four bytes that were laid: they are an own row. -/
theorem calls_row {P : Program} {f : FuncId} {args : Array Value} {w : World} {c0 c1 c2 c3 : Value} {Q : Ending → World → Prop}
    (h : ∀ w2, w2.ownsRow w.heap.size 5 1 (.slice (some ⟨w.heap.size, 0, none⟩) 4 4) 4 [c0, c1, c2, c3] → Below w.heap.size w w2 → Calls P f args w2 Q) : Calls P f args (w.alloc (.cells #[c0, c1, c2, c3] 5)) Q :=
  h _ (new_own w 4 #[c0, c1, c2, c3] rfl (by omega)) ((Below.refl _ _).alloc (Nat.le_refl _) _)
set_option maxRecDepth 8000 in
set_option maxHeartbeats 2000000 in
theorem rEncode_yes (W : Int) (r : Bool) (S : Int) (x y : Nat) (w : World) (hW : 0 ≤ W) (hW' : W < 256) (hx : x < 4294967296) (hy : y < 4294967296) (hS : S = 1 ∨ S = 2 ∨ S = 4)
    (R : ∀ w, Calls Try.prog 21 #[acc W r x S y] w fun e w' => e = .returned (.bool true) ∧ Below w.heap.size w w') :
    Calls Try.prog 11 #[acc W r x S y] w (EncRow 12 (recL W r x S y) 0 w) := by
  obtain ⟨i0, hi, hz0, hz1, hz2⟩ := info_parts KitBytes.info_e
  have Hi := Lib.hid hi
  have Hz0 := Lib.hid hz0
  have Hz1 := Lib.hid hz1
  have Hz2 := Lib.hid hz2
  clear hi hz0 hz1 hz2
  rcases hS with rfl | rfl | rfl <;> cases r
  all_goals
    go_enter Try.func11, Try.ntmps11
    go_wp2_with fail
    refine (R _).mono ?_
    rintro e w1 ⟨rfl, hb⟩
    have F1 := Lib.hid ((five_new w _ _ _ _ _ _).keep hb)
    obtain ⟨k0, k1, k2, k3, k4⟩ := F1.out
    have Hb := Lib.hid (((Below.refl w.heap.size w).alloc (Nat.le_refl _) _).trans (hb.mono (by simp)))
    clear hb R
    have hlt := World.block_lt_of_cell? w1 _ k0
    simp only at hlt
    go_wp2_with fail
    refine calls_row fun w2 hown2 hb2 => ?_
    have Hown2 := Lib.hid hown2
    have Hb2 := Lib.hid hb2
    clear hown2 hb2 k0 k1 k2 k3 k4
    refine (rbytes_any x 4 hx rfl (by omega) _).mono ?_
    rintro e w3 ⟨a, c, rfl, hown3, hb3⟩
    obtain ⟨g, rfl⟩ := KitBytes.r_some hown3 (.inl (by omega))
    have Hown3 := Lib.hid hown3
    have Hown2' := Lib.hid (bown_below Hown2.out hb3)
    have Hb3 := Lib.hid (Hb2.out.trans (hb3.mono Hb2.out.size))
    have hsz3 := Hb3.out.size
    clear hown3 hb3 Hown2 Hb2
    go_wp2_with (at_builtin; refine wpList_append_own _ rfl _ _ 27 rfl w1.heap.size 5 i0 (.int .u8 0) 1 1 Try.underlying27 Hi.out Hz0.out Hz1.out Hz2.out rfl (by decide) _ _ _ rfl Hown2'.out ⟨g, 0, none⟩ 4 c (bv (bK x 4)) rfl (by simp [bK, bv]) (KitBytes.r_cells Hown3.out _ rfl) (bv_one _) (by unfold maxLen; omega) (by omega) hsz3 ?_; intro v' w4 hown4 hgrow4 _; have Hb4 := Lib.hid (Hb3.out.grown hgrow4 hsz3 (fun k h => (Hown2'.out.lt k h).1)); obtain ⟨g4, c4, rfl⟩ := KitBytes.own_pos hown4 (by omega); have k4 := (F1.out.keep Hb4.out).c4)
    have Hown4 := Lib.hid hown4
    clear hown4 hgrow4 Hown2' Hown3 Hb3 hsz3
    refine (rbytes_any y 4 hy rfl (by omega) _).mono ?_
    rintro e w5 ⟨a, c, rfl, hown5, hb5⟩
    obtain ⟨g5, rfl⟩ := KitBytes.r_some hown5 (.inl (by omega))
    have Hown5 := Lib.hid hown5
    have Hown4' := Lib.hid (bown_below Hown4.out hb5)
    have Hb5 := Lib.hid (Hb4.out.trans (hb5.mono Hb4.out.size))
    have hsz5 := Hb5.out.size
    clear hown5 hb5 Hown4 Hb4 k4
    go_wp2_with (at_builtin; refine wpList_append_own _ rfl _ _ 27 rfl w1.heap.size 5 i0 (.int .u8 0) 1 1 Try.underlying27 Hi.out Hz0.out Hz1.out Hz2.out rfl (by decide) _ _ _ rfl Hown4'.out ⟨g5, 0, none⟩ 4 c (bv (bK y 4)) rfl (by simp [bK, bv]) (KitBytes.r_cells Hown5.out _ rfl) (bv_one _) (by unfold maxLen; omega) (by omega) hsz5 ?_; intro v' w6 hown6 hgrow6 _; have Hb6 := Lib.hid (Hb5.out.grown hgrow6 hsz5 (fun k h => (Hown4'.out.lt k h).1)); obtain ⟨g6, c6, rfl⟩ := KitBytes.own_pos hown6 (by omega))
    go_ret2
    refine ⟨_, _, rfl, ?_, Hb.out.trans (Hb6.out.mono Hb.out.size)⟩
    have := KitBytes.own_base hown6 Hb.out.size
    rw [bK_four x hx, bK_four y hy] at this
    exact this
theorem rEncode_any (W : Int) (r : Bool) (A S D : Int) (b : Bool) (n : Nat) (l : List Int) (er : Int) (w : World) (hA : 0 ≤ A) (hA' : A < 4294967296) (hD : 0 ≤ D) (hD' : D < 4294967296) (hb : rightB W r A S D = b) (h : Enc b W r A S D n l er) :
    Calls Try.prog 11 #[acc W r A S D] w (EncRow n l er w) := by
  rcases h with ⟨rfl, rfl, rfl, rfl⟩ | ⟨rfl, rfl, rfl, rfl⟩
  · obtain ⟨h0, h8, hS, _⟩ := right_parts hb
    obtain ⟨x, rfl⟩ := Int.eq_ofNat_of_zero_le hA
    obtain ⟨y, rfl⟩ := Int.eq_ofNat_of_zero_le hD
    exact rEncode_yes W r S x y w h0 (by omega) (by omega) (by omega) hS (fun w => rRight_any W r x S y _ w hA hA' hD hD' hb)
  · exact rEncode_no W r A S D w (fun w => rRight_any W r A S D _ w hA hA' hD hD' hb)
end Go.Proofs.Ytblccnpdcnlhiaa.Access
