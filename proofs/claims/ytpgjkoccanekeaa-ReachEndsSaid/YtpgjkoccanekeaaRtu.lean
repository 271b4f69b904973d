/- The ends: all reaches of nine addresses: the walk of ReachEnds. -/
import Derived.Test.YtpgjkoccanekeaaRts
import Derived.Test.YtpgjkoccanekeaaRtq
import Derived.Deep.RegionHeld3
namespace Go.Proofs.Ytpgjkoccanekeaa.Reach
open Go.RowKit Go.Maps Go.ChangeShapes Go.WideShapes Go.ChangeAt
set_option linter.unusedVariables false

def edL : List Int := [0, 1, 2, 7, 8, 2147483648, 4294967293, 4294967294, 4294967295]
def szL : List Int := [-9223372036854775808, -1, 0, 1, 2, 3, 2147483648, 4294967295, 4294967296, 4294967297, 9223372036854775807]
def edV (i : Nat) : Int := edL.getD i 0
def szV (i : Nat) : Int := szL.getD i 0
theorem edV_bounds (i : Nat) : 0 ≤ edV i ∧ edV i < 4294967296 := by
  unfold edV
  match i with
  | 0 | 1 | 2 | 3 | 4 | 5 | 6 | 7 | 8 => decide
  | i + 9 => simp [edL]
theorem szV_bounds (i : Nat) : -9223372036854775808 ≤ szV i ∧ szV i ≤ 9223372036854775807 := by
  unfold szV
  match i with
  | 0 | 1 | 2 | 3 | 4 | 5 | 6 | 7 | 8 | 9 | 10 => decide
  | i + 11 => simp [szL]
/-- The two tables of the law. -/
def Tbl (w : World) (E S : Nat) : Prop := (∀ i, i < 9 → w.cell? ⟨E, i, none⟩ = some (.int .u32 (edV i))) ∧ ∀ i, i < 11 → w.cell? ⟨S, i, none⟩ = some (.int .i64 (szV i))
theorem Tbl.keep {w w' : World} {E S : Nat} (h : Tbl w E S) (hb : Below w.heap.size w w') : Tbl w' E S :=
  ⟨fun i hi => cell_keep hb (h.1 i hi), fun i hi => cell_keep hb (h.2 i hi)⟩
theorem to_letter {K : Exit → Act → World → Prop} {e : Exit} {a : Act} {w : World} (h : ∀ W, Hid (W = w) → K e a W) : K e a w := h w (Lib.hid rfl)
theorem tbl_new (w : World) : Tbl ((w.alloc (.cells #[.int .u32 0, .int .u32 1, .int .u32 2, .int .u32 7, .int .u32 8, .int .u32 2147483648, .int .u32 4294967293, .int .u32 4294967294, .int .u32 4294967295] 22)).alloc (.cells #[.int .i64 (-9223372036854775808), .int .i64 (-1), .int .i64 0, .int .i64 1, .int .i64 2, .int .i64 3, .int .i64 2147483648, .int .i64 4294967295, .int .i64 4294967296, .int .i64 4294967297, .int .i64 9223372036854775807] 3)) w.heap.size (w.heap.size + 1) := by
  refine ⟨fun i hi => alloc_keep ?_ _, fun i hi => ?_⟩
  · rw [World.cell?_alloc_at _ _ _ _ rfl]
    match i, hi with
    | 0, _ | 1, _ | 2, _ | 3, _ | 4, _ | 5, _ | 6, _ | 7, _ | 8, _ => rfl
    | i + 9, hi => omega
  · rw [World.cell?_alloc_at _ _ _ _ (by simp)]
    match i, hi with
    | 0, _ | 1, _ | 2, _ | 3, _ | 4, _ | 5, _ | 6, _ | 7, _ | 8, _ | 9, _ | 10, _ => rfl
    | i + 11, hi => omega

theorem two_set {w : World} {b : Nat} {u v : Value} (h0 : w.cell? ⟨b, 0, none⟩ = some u) (h1 : w.cell? ⟨b, 1, none⟩ = some v) (x y : Int) :
    Two ((w.setCell ⟨b, 0, none⟩ (.int .u32 x)).setCell ⟨b, 1, none⟩ (.int .u32 y)) b x y := by
  have k1 := World.cell?_setCell_same w ⟨b, 0, none⟩ (.int .u32 x) h0
  have k2 := (World.cell?_setCell_other w ⟨b, 0, none⟩ ⟨b, 1, none⟩ (.int .u32 x) (by simp)).trans h1
  exact ⟨(World.cell?_setCell_other _ ⟨b, 1, none⟩ ⟨b, 0, none⟩ _ (by simp)).trans k1, World.cell?_setCell_same _ ⟨b, 1, none⟩ _ k2⟩
theorem pair_cells2 {w : World} {b : Nat} {f t g u : Int} (h0 : w.cell? ⟨b, 0, none⟩ = some (.int .u32 f)) (h1 : w.cell? ⟨b, 1, none⟩ = some (.int .u32 t)) (h2 : w.cell? ⟨b, 2, none⟩ = some (.int .u32 g)) (h3 : w.cell? ⟨b, 3, none⟩ = some (.int .u32 u)) :
    RowR w (some ⟨b, 0, none⟩) 2 [(f, t), (g, u)] := by
  refine ⟨rfl, fun j hj => ⟨b, 0, rfl, ?_, ?_⟩⟩
  · match j, hj with
    | 0, _ => exact h0
    | 1, _ => exact h2
    | j + 2, hj => omega
  · match j, hj with
    | 0, _ => exact h1
    | 1, _ => exact h3
    | j + 2, hj => omega
set_option maxRecDepth 100000 in
set_option maxHeartbeats 8000000 in
theorem ends_walk (w : World) :
    Calls Try.prog 6 #[] w fun e w' => e = .returned (.bool true) ∧ Below w.heap.size w w' := by
  go_enter Try.func6, Try.ntmps6
  go_wp2_with fail
  go_loopw [3] (fun a wr => ∃ k : Nat, k ≤ 81 ∧ a = .int .i64 k ∧ Tbl wr w.heap.size (w.heap.size + 1) ∧ Below w.heap.size w wr) (fun a _ => 81 - (intOf a).toNat)
  case atStart => exact ⟨0, by omega, rfl, tbl_new w, ((Below.refl _ _).alloc (Nat.le_refl _) _).alloc (by simp) _⟩
  case round =>
    obtain ⟨k, hk, rfl, ht, hb⟩ := hrel
    have Ht := Lib.hid ht
    have Hb := Lib.hid hb
    have hsz := hb.size
    clear ht hb
    by_cases hlt : k < 81
    · obtain ⟨p, hp⟩ : ∃ p, k / 9 = p := ⟨_, rfl⟩
      obtain ⟨q, hq⟩ : ∃ q, k % 9 = q := ⟨_, rfl⟩
      have c0 := load_below (B := 0) (Ht.out.1 p (by omega))
      have c1 := load_below (B := 0) (Ht.out.1 q (by omega))
      obtain ⟨x0, x1⟩ := edV_bounds p
      obtain ⟨y0, y1⟩ := edV_bounds q
      generalize edV p = x at c0 x0 x1
      generalize edV q = y at c1 y0 y1
      have j0 : (0 : Int) ≤ (p : Int) := by omega
      have j1 : (p : Int) < 9 := by omega
      have j2 : (0 : Int) ≤ (q : Int) := by omega
      have j3 : (q : Int) < 9 := by omega
      have td : (k : Int).tdiv 9 = (p : Int) := by rw [Int.tdiv_eq_ediv_of_nonneg (by omega)]; omega
      have tm : (k : Int).tmod 9 = (q : Int) := by rw [Int.tmod_eq_emod_of_nonneg (by omega)]; omega
      have wp : IntKind.i64.wrap (p : Int) = (p : Int) := IntWalk.i64_in _ (by omega)
      have wq : IntKind.i64.wrap (q : Int) = (q : Int) := IntWalk.i64_in _ (by omega)
      clear hp hq
      go_wp2_with fail
      go_region_held3 (fun w' => Below wr.heap.size wr w')
        (first | assumption | exact (Below.refl _ _).drew | exact ((Below.refl _ _).alloc (Nat.le_refl _) _).drew | (refine Below.alloc ?_ ?_ _; assumption; exact Below.size (by assumption)))
        (fail)
      refine to_letter ?_
      intro W1 hW1
      have T1 : Two W1 wr.heap.size x y := by rw [hW1.out]; simp [Two, go_sem]
      have b1 : Below wr.heap.size wr W1 := by rw [hW1.out]; first | exact ((Below.refl _ _).alloc (Nat.le_refl _) _).drew | exact ((Below.refl _ _).drew).alloc (Nat.le_refl _) _
      have Ht1 := Lib.hid (Ht.out.keep b1)
      have Hb1 := Lib.hid (Hb.out.trans (b1.mono hsz))
      have HT1 := Lib.hid T1
      clear b1 T1 hW1 c0 c1 td tm wp wq j0 j1 j2 j3
      obtain ⟨R, hR⟩ : ∃ R, wr.heap.size = R := ⟨_, rfl⟩
      rw [hR] at HT1
      rw [hR]
      clear hR Ht
      go_wp2_with fail
      go_loopw [5] (fun b wr => ∃ k : Nat, k ≤ 81 ∧ b = .int .i64 k ∧ Tbl wr w.heap.size (w.heap.size + 1) ∧ Two wr R x y ∧ Below w.heap.size w wr) (fun b _ => 81 - (intOf b).toNat)
      case atStart => exact ⟨0, by omega, rfl, Ht1.out, HT1.out, Hb1.out⟩
      case round =>
        clear Ht1 HT1 Hb1 Hb
        obtain ⟨k2, hk2, rfl, ht, h2, hb⟩ := hrel
        have Ht := Lib.hid ht
        have HT := Lib.hid h2
        have Hb := Lib.hid hb
        have hsz := hb.size
        clear ht hb h2
        by_cases hlt2 : k2 < 81
        · obtain ⟨p2, hp⟩ : ∃ p, k2 / 9 = p := ⟨_, rfl⟩
          obtain ⟨q2, hq⟩ : ∃ q, k2 % 9 = q := ⟨_, rfl⟩
          have c0 := load_below (B := 0) (Ht.out.1 p2 (by omega))
          have c1 := load_below (B := 0) (Ht.out.1 q2 (by omega))
          obtain ⟨g0, g1⟩ := edV_bounds p2
          obtain ⟨u0, u1⟩ := edV_bounds q2
          generalize edV p2 = g at c0 g0 g1
          generalize edV q2 = u at c1 u0 u1
          have j0 : (0 : Int) ≤ (p2 : Int) := by omega
          have j1 : (p2 : Int) < 9 := by omega
          have j2 : (0 : Int) ≤ (q2 : Int) := by omega
          have j3 : (q2 : Int) < 9 := by omega
          have td : (k2 : Int).tdiv 9 = (p2 : Int) := by rw [Int.tdiv_eq_ediv_of_nonneg (by omega)]; omega
          have tm : (k2 : Int).tmod 9 = (q2 : Int) := by rw [Int.tmod_eq_emod_of_nonneg (by omega)]; omega
          have wp : IntKind.i64.wrap (p2 : Int) = (p2 : Int) := IntWalk.i64_in _ (by omega)
          have wq : IntKind.i64.wrap (q2 : Int) = (q2 : Int) := IntWalk.i64_in _ (by omega)
          clear hp hq
          go_wp2_with fail
          go_region_held3 (fun w' => Below wr.heap.size wr w')
            (first | assumption | exact (Below.refl _ _).drew | exact ((Below.refl _ _).alloc (Nat.le_refl _) _).drew | (refine Below.alloc ?_ ?_ _; assumption; exact Below.size (by assumption)))
            (fail)
          refine to_letter ?_
          intro W2 hW2
          have T2 : Two W2 wr.heap.size g u := by rw [hW2.out]; simp [Two, go_sem]
          have b2 : Below wr.heap.size wr W2 := by rw [hW2.out]; first | exact ((Below.refl _ _).alloc (Nat.le_refl _) _).drew | exact ((Below.refl _ _).drew).alloc (Nat.le_refl _) _
          have Ht2 := Lib.hid (Ht.out.keep b2)
          have HT2 := Lib.hid (HT.out.keep b2)
          have Hb2 := Lib.hid (Hb.out.trans (b2.mono hsz))
          have HS2 := Lib.hid T2
          clear b2 T2 hW2 c0 c1 td tm wp wq j0 j1 j2 j3
          obtain ⟨ap, hap⟩ : ∃ ap, apartB [(x, y), (g, u)] = ap := ⟨_, rfl⟩
          have HAP := Lib.hid hap
          clear hap
          have e0 := load_below (B := 0) HT2.out.1
          have e1 := load_below (B := 0) HT2.out.2
          have e2 := load_below (B := 0) HS2.out.1
          have e3 := load_below (B := 0) HS2.out.2
          go_wp2_with fail
          go_region_held3 (fun w' => Below W2.heap.size W2 w')
            (first | assumption | exact (Below.refl _ _).drew | exact ((Below.refl _ _).alloc (Nat.le_refl _) _).drew | (refine Below.alloc ?_ ?_ _; assumption; exact Below.size (by assumption)))
            (first
              | (go_at_call 19; refine (two_any x y g u _).mono ?_; rintro e w' ⟨rfl, hb⟩; have hbS : Below W2.heap.size W2 w' := Below.trans (by assumption) (Below.mono hb (Below.size (by assumption))))
              | (go_at_call 20; refine (apart_any (some ⟨_, 0, none⟩) 2 2 [(x, y), (g, u)] _ (by omega) ?_).mono ?_; (refine pair_cells2 ?_ ?_ ?_ ?_ <;> simp [go_sem, *]); rw [HAP.out]; rintro e w' ⟨rfl, hb⟩; have hbS : Below W2.heap.size W2 w' := Below.trans (by assumption) (Below.mono hb (Below.size (by assumption))); have hk := bcell hb)
              | (go_at_call 21; refine (rapart_any (some ⟨_, 0, none⟩) 2 2 [(x, y), (g, u)] _ (by omega) ?_).mono ?_; (refine pair_cells2 ?_ ?_ ?_ ?_ <;> simp [go_sem, *]); rw [HAP.out]; rintro e w' ⟨rfl, hb⟩; have hbS : Below W2.heap.size W2 w' := Below.trans (by assumption) (Below.mono hb (Below.size (by assumption)))))
          all_goals
            rename_i hH
            have HH := Lib.hid hH
            clear hH
            go_wp2_with fail
            exact ⟨⟨k2 + 1, by omega, by go_num, Ht2.out.keep HH.out, HT2.out.keep HH.out, Hb2.out.trans (HH.out.mono Hb2.out.size)⟩, by simp [intOf]; omega⟩
        · obtain rfl : k2 = 81 := by omega
          go_wp2_with fail
          go_loopw [7] (fun b wr => ∃ k : Nat, k ≤ 11 ∧ b = .int .i64 k ∧ Tbl wr w.heap.size (w.heap.size + 1) ∧ Two wr R x y ∧ Below w.heap.size w wr) (fun b _ => 11 - (intOf b).toNat)
          case atStart => exact ⟨0, by omega, rfl, Ht.out, HT.out, Hb.out⟩
          case round =>
            clear Ht HT Hb
            obtain ⟨k3, hk3, rfl, ht, h2, hb⟩ := hrel
            have Ht := Lib.hid ht
            have HT := Lib.hid h2
            have Hb := Lib.hid hb
            have hsz := hb.size
            clear ht hb h2
            by_cases hlt3 : k3 < 11
            · have e0 := load_below (B := 0) HT.out.1
              have e1 := load_below (B := 0) HT.out.2
              have e2 := load_below (B := 0) (Ht.out.2 k3 hlt3)
              obtain ⟨z0, z1⟩ := szV_bounds k3
              generalize hz : szV k3 = z at e2 z0 z1
              have Hz := Lib.hid hz
              clear hz
              obtain ⟨ox, hox⟩ : ∃ v, ofF x z = v := ⟨_, rfl⟩
              obtain ⟨oy, hoy⟩ : ∃ v, ofT x z = v := ⟨_, rfl⟩
              obtain ⟨ob, hob⟩ : ∃ v, ofB x z = v := ⟨_, rfl⟩
              have Hox := Lib.hid hox
              have Hoy := Lib.hid hoy
              have Hob := Lib.hid hob
              clear hox hoy hob
              have j0 : (0 : Int) ≤ (k3 : Int) := by omega
              have j1 : (k3 : Int) < 11 := by omega
              go_wp2_with fail
              go_region_held3 (fun w' => Below wr.heap.size wr w')
                (first | assumption | exact (Below.refl _ _).drew | exact ((Below.refl _ _).alloc (Nat.le_refl _) _).drew | (refine Below.alloc ?_ ?_ _; assumption; exact Below.size (by assumption)) | (refine Below.setCell (Below.setCell ?_ ?_ _) ?_ _; assumption; exact Nat.le_refl _; exact Nat.le_refl _))
                (first | (go_at_call 9; refine (Of_val x z ox oy ob _ x0 x1 z0 z1 Hox.out Hoy.out Hob.out).mono ?_; rintro e w' ⟨rfl, hb⟩; have hbS : Below wr.heap.size wr w' := Below.trans (by assumption) (Below.mono hb (Below.size (by assumption))); have hk := bcell hb))
              all_goals
                rename_i hH
                have HH := Lib.hid hH
                clear hH
                refine to_letter ?_
                intro W3 hW3
                rw [← hW3.out] at HH
                first
                  | have X3 : Two W3 w'.heap.size ox oy := by rw [hW3.out]; exact two_new _ _ _ _
                  | have X3 : Two W3 wr.heap.size ox oy := by
                      have h0 : w'.cell? ⟨wr.heap.size, 0, none⟩ = some (.int .u32 0) := (hk.1 _ 0 (by simp)).trans (by simp [go_sem])
                      have h1 : w'.cell? ⟨wr.heap.size, 1, none⟩ = some (.int .u32 0) := (hk.1 _ 1 (by simp)).trans (by simp [go_sem])
                      rw [hW3.out]; exact two_set h0 h1 _ _
                have HX3 := Lib.hid X3
                have Ht3 := Lib.hid (Ht.out.keep HH.out)
                have HT3 := Lib.hid (HT.out.keep HH.out)
                have Hb3 := Lib.hid (Hb.out.trans (HH.out.mono hsz))
                clear X3 hW3 HH hb hbS hk e0 e1 e2
                have e0 := load_below (B := 0) HT3.out.1
                have e1 := load_below (B := 0) HT3.out.2
                have e2 := load_below (B := 0) (Ht3.out.2 k3 hlt3)
                rw [Hz.out] at e2
                go_wp2_with fail
                go_region_held3 (fun w' => Below W3.heap.size W3 w')
                  (first | assumption | exact (Below.refl _ _).drew | exact ((Below.refl _ _).alloc (Nat.le_refl _) _).drew | (refine Below.alloc ?_ ?_ _; assumption; exact Below.size (by assumption)) | (refine Below.setCell (Below.setCell ?_ ?_ _) ?_ _; assumption; exact Nat.le_refl _; exact Nat.le_refl _))
                  (first | (go_at_call 10; refine (rOf_val x z ox oy ob _ x0 x1 z0 z1 Hox.out Hoy.out Hob.out).mono ?_; rintro e w' ⟨rfl, hb⟩; have hbS : Below W3.heap.size W3 w' := Below.trans (by assumption) (Below.mono hb (Below.size (by assumption))); have hk := bcell hb))
                all_goals
                  rename_i hH
                  have HH := Lib.hid hH
                  clear hH
                  refine to_letter ?_
                  intro W4 hW4
                  rw [← hW4.out] at HH
                  first
                    | have Y4 : Two W4 w'.heap.size ox oy := by rw [hW4.out]; exact two_new _ _ _ _
                    | have Y4 : Two W4 W3.heap.size ox oy := by
                        have h0 : w'.cell? ⟨W3.heap.size, 0, none⟩ = some (.int .u32 0) := (hk.1 _ 0 (by simp)).trans (by simp [go_sem])
                        have h1 : w'.cell? ⟨W3.heap.size, 1, none⟩ = some (.int .u32 0) := (hk.1 _ 1 (by simp)).trans (by simp [go_sem])
                        rw [hW4.out]; exact two_set h0 h1 _ _
                  have HY4 := Lib.hid Y4
                  have HX4 := Lib.hid (HX3.out.keep HH.out)
                  have Ht4 := Lib.hid (Ht3.out.keep HH.out)
                  have HT4 := Lib.hid (HT3.out.keep HH.out)
                  have Hb4 := Lib.hid (Hb3.out.trans (HH.out.mono Hb3.out.size))
                  clear Y4 hW4 HH hb hbS hk e0 e1 e2
                  obtain ⟨q3, hq⟩ : ∃ q, k3 % 9 = q := ⟨_, rfl⟩
                  obtain ⟨v, hv⟩ : ∃ v, edV q3 = v := ⟨_, rfl⟩
                  obtain ⟨sz, hs⟩ : ∃ s, sizeV x y = s := ⟨_, rfl⟩
                  obtain ⟨hh, hH⟩ : ∃ h, hasB x y v = h := ⟨_, rfl⟩
                  have Hs := Lib.hid hs
                  have HH2 := Lib.hid hH
                  have Hv := Lib.hid hv
                  have j2 : (0 : Int) ≤ (q3 : Int) := by omega
                  have j3 : (q3 : Int) < 9 := by omega
                  have Hq := Lib.hid hq
                  clear hv hs hH hq
                  go_wp2_with fail
                  refine wp_region_ext (by kernel_rfl) (by kernel_rfl) ?_
                  intro W hW
                  have rr := HT4.out
                  have xx := HX4.out
                  have yy := HY4.out
                  have tt := Ht4.out.1 q3 (by omega)
                  rw [Hv.out] at tt
                  rw [← hW.out] at rr xx yy tt
                  have HbW := Lib.hid (show Below W4.heap.size W4 W by rw [hW.out]; exact Below.refl _ _)
                  clear hW
                  have c0 := ext_cell rr.1
                  have c1 := ext_cell rr.2
                  have c2 := ext_cell xx.1
                  have c3 := ext_cell xx.2
                  have c4 := ext_cell yy.1
                  have c5 := ext_cell yy.2
                  have c6 := ext_cell tt
                  clear rr xx yy tt
                  have tm : (k3 : Int).tmod 9 = (q3 : Int) := by have := Hq.out; rw [Int.tmod_eq_emod_of_nonneg (by omega)]; omega
                  have wq : IntKind.i64.wrap (q3 : Int) = (q3 : Int) := IntWalk.i64_in _ (by omega)
                  repeat (go_big_quiet_step ((first
                    | (go_at_call 14; exact ext_of (Size_val x y sz _ x0 x1 y0 y1 Hs.out))
                    | (go_at_call 15; exact ext_of (rSize_val x y sz _ x0 x1 y0 y1 Hs.out))
                    | (go_at_call 16; exact ext_of (Has_val x y v _ _ HH2.out))
                    | (go_at_call 17; exact ext_of (rhas_val x y v _ _ HH2.out)))))
                  refine wpQuiet_nil ?_
                  intro w5 hw5
                  obtain ⟨o, rfl⟩ := hw5
                  have HE := Lib.hid (HbW.out.trans ((ext_below W o).mono HbW.out.size))
                  clear c0 c1 c2 c3 c4 c5 c6 tm wq
                  go_wp2_with fail
                  refine ⟨?_, by simp [intOf]; omega⟩
                  (repeat apply Exists.intro)
                  exact ⟨⟨k3 + 1, by omega, by go_num, Ht4.out.keep HE.out, HT4.out.keep HE.out, Hb4.out.trans (HE.out.mono Hb4.out.size)⟩, rfl⟩
            · obtain rfl : k3 = 11 := by omega
              go_wp2_with fail
              exact ⟨⟨k + 1, by omega, by go_num, Ht.out, Hb.out⟩, by simp [intOf]; omega⟩
    · obtain rfl : k = 81 := by omega
      go_wp2_with fail
      refine (apart_any none 0 0 [] _ (by omega) ⟨rfl, fun j hj => by omega⟩).mono ?_
      rw [show apartB [] = true from apart_yes (fun i hi => by simp at hi) (fun i k _ hi => by simp at hi)]
      rintro e w1 ⟨rfl, hb⟩
      have Hb1 := Lib.hid (Hb.out.trans (hb.mono Hb.out.size))
      clear hb
      go_wp2_with fail
      refine (awake_any _).mono ?_
      rintro e w2 ⟨rfl, hb⟩
      have Hb2 := Lib.hid (Hb1.out.trans (hb.mono Hb1.out.size))
      clear hb
      go_wp2_with fail
      go_ret
      exact ⟨rfl, Hb2.out⟩
end Go.Proofs.Ytpgjkoccanekeaa.Reach
