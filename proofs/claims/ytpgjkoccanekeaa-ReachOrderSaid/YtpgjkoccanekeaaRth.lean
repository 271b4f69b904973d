/- Which stands ahead, which lies in which: orders: the walk of ReachOrder. -/
import Derived.Test.YtpgjkoccanekeaaRtg
import Derived.Test.YtpgjkoccanekeaaRtf
namespace Go.Proofs.Ytpgjkoccanekeaa.Reach
open Go.RowKit
set_option linter.unusedVariables false

theorem less_self (f t : Int) : lessB f t f t = false := by unfold lessB; exact decide_eq_false (by omega)
theorem less_total (f t g u : Int) (h : f ≠ g ∨ t ≠ u) : lessB g u f t = !lessB f t g u := by
  unfold lessB; rw [← decide_not, decide_eq_decide]; omega
theorem less_trans (f t g u h v : Int) (h1 : lessB f t g u = true) (h2 : lessB g u h v = true) : lessB f t h v = true := by
  unfold lessB at *; simp at *; omega
theorem in_trans (f t g u h v : Int) (h1 : inB f t g u = true) (h2 : inB g u h v = true) : inB f t h v = true := by
  unfold inB at *; simp at *; omega
theorem in_size (f t g u : Int) (h1 : inB f t g u = true) : sizeV f t ≤ sizeV g u := by
  unfold inB at *; simp at *; unfold sizeV; rw [if_pos (by omega), if_pos (by omega)]; omega
theorem in_both (f t g u : Int) (h1 : inB f t g u = true) (h2 : inB g u f t = true) : f = g ∧ t = u := by
  unfold inB at *; simp at *; omega

set_option maxHeartbeats 3000000 in
theorem order_same (f t h v sa sb : Int) (lab lba lbc lac iab iba ibc iac : Bool) (w : World) (hf0 : 0 ≤ f) (hf1 : f < 4294967296) (ht0 : 0 ≤ t) (ht1 : t < 4294967296) 
    (Hlab : Hid (lessB f t f t = lab)) (Hlba : Hid (lessB f t f t = lba)) (Hlaa : Hid (lessB f t f t = false)) (Hlbc : Hid (lessB f t h v = lbc)) (Hlac : Hid (lessB f t h v = lac))
    (Hiab : Hid (inB f t f t = iab)) (Hiba : Hid (inB f t f t = iba)) (Hibc : Hid (inB f t h v = ibc)) (Hiac : Hid (inB f t h v = iac)) (Hsa : Hid (sizeV f t = sa)) (Hsb : Hid (sizeV f t = sb))
    (hl : lab = false ∧ lba = false) (hi : iab = false ∧ iba = false ∨ iab = true ∧ iba = true ∧ sa ≤ sb ∧ (ibc = false ∨ ibc = true ∧ iac = true)) :
    Calls Try.prog 8 #[.agg #[.int .u32 f, .int .u32 t], .agg #[.int .u32 f, .int .u32 t], .agg #[.int .u32 h, .int .u32 v]] w fun e w' => e = .returned (.bool true) ∧ Below w.heap.size w w' := by
  rcases hl with ⟨rfl, rfl⟩
  all_goals rcases hi with ⟨rfl, rfl⟩ | ⟨rfl, rfl, hs, rfl | ⟨rfl, rfl⟩⟩
  all_goals
    go_enter Try.func8, Try.ntmps8
    go_wp2_with fail
    refine (awake_any _).mono ?_
    rintro e w1 ⟨rfl, hb⟩
    obtain ⟨r0, r1⟩ := (((two_new w f t 24).alloc (.cells #[.int .u32 f, .int .u32 t] 24)).alloc (.cells #[.int .u32 h, .int .u32 v] 24)).keep hb
    obtain ⟨r2, r3⟩ := ((show Two _ (w.heap.size + 1) f t by have := two_new (w.alloc (.cells #[.int .u32 f, .int .u32 t] 24)) f t 24; simpa using this).alloc (.cells #[.int .u32 h, .int .u32 v] 24)).keep hb
    obtain ⟨r4, r5⟩ := (show Two _ (w.heap.size + 1 + 1) h v by have := two_new ((w.alloc (.cells #[.int .u32 f, .int .u32 t] 24)).alloc (.cells #[.int .u32 f, .int .u32 t] 24)) h v 24; simpa using this).keep hb
    have B := Lib.hid (((((Below.refl w.heap.size w).alloc (Nat.le_refl _) _).alloc (by simp) _).alloc (by simp; omega) _).trans (hb.mono (by simp; omega)))
    clear hb
    go_wp2_with fail
    refine wp_region_ext (by kernel_rfl) (by kernel_rfl) ?_
    intro W hW
    rw [← hW.out] at r0 r1 r2 r3 r4 r5 B
    clear hW
    have q0 := ext_cell r0
    have q1 := ext_cell r1
    have q2 := ext_cell r2
    have q3 := ext_cell r3
    have q4 := ext_cell r4
    have q5 := ext_cell r5
    clear r0 r1 r2 r3 r4 r5
    repeat (go_big_quiet_step ((first
      | (go_at_call 25; with_reducible exact ext_of (Less_val f t f t _ _ Hlab.out))
      | (go_at_call 25; with_reducible exact ext_of (Less_val f t f t _ _ Hlba.out))
      | (go_at_call 25; with_reducible exact ext_of (Less_val f t f t _ _ Hlaa.out))
      | (go_at_call 25; with_reducible exact ext_of (Less_val f t h v _ _ Hlbc.out))
      | (go_at_call 25; with_reducible exact ext_of (Less_val f t h v _ _ Hlac.out)))))
    refine wpQuiet_nil ?_
    intro w' hw'
    obtain ⟨x, rfl⟩ := hw'
    have hb := ext_below W x
    have r0 := q0 x
    have r1 := q1 x
    have r2 := q2 x
    have r3 := q3 x
    have r4 := q4 x
    have r5 := q5 x
    clear q0 q1 q2 q3 q4 q5
    replace B := Lib.hid (B.out.trans (hb.mono B.out.size))
    clear hb
    generalize ext W x = W2 at r0 r1 r2 r3 r4 r5 B ⊢
    go_wp2_with (((go_at_call 24); first
      | ((with_reducible refine (In_val f t f t _ _ Hiab.out).mono ?_); rintro e w3 ⟨rfl, hb⟩; replace r0 := cell_keep hb r0; replace r1 := cell_keep hb r1; replace r2 := cell_keep hb r2; replace r3 := cell_keep hb r3; replace r4 := cell_keep hb r4; replace r5 := cell_keep hb r5; replace B := Lib.hid (B.out.trans (hb.mono B.out.size)); clear hb)
      | ((with_reducible refine (In_val f t h v _ _ Hibc.out).mono ?_); rintro e w3 ⟨rfl, hb⟩; replace r0 := cell_keep hb r0; replace r1 := cell_keep hb r1; replace r2 := cell_keep hb r2; replace r3 := cell_keep hb r3; replace r4 := cell_keep hb r4; replace r5 := cell_keep hb r5; replace B := Lib.hid (B.out.trans (hb.mono B.out.size)); clear hb)
      | ((with_reducible refine (In_val f t h v _ _ Hiac.out).mono ?_); rintro e w3 ⟨rfl, hb⟩; replace r0 := cell_keep hb r0; replace r1 := cell_keep hb r1; replace r2 := cell_keep hb r2; replace r3 := cell_keep hb r3; replace r4 := cell_keep hb r4; replace r5 := cell_keep hb r5; replace B := Lib.hid (B.out.trans (hb.mono B.out.size)); clear hb)))
    refine wp_region_ext (by kernel_rfl) (by kernel_rfl) ?_
    intro W hW
    rw [← hW.out] at r0 r1 r2 r3 r4 r5 B
    clear hW
    have q0 := ext_cell r0
    have q1 := ext_cell r1
    have q2 := ext_cell r2
    have q3 := ext_cell r3
    have q4 := ext_cell r4
    have q5 := ext_cell r5
    clear r0 r1 r2 r3 r4 r5
    repeat (go_big_quiet_step ((first
      | (go_at_call 24; with_reducible exact ext_of (In_val f t f t _ _ Hiab.out))
      | (go_at_call 24; with_reducible exact ext_of (In_val f t f t _ _ Hiba.out))
      | (go_at_call 14; with_reducible exact ext_of (Size_val f t sa _ hf0 hf1 ht0 ht1 Hsa.out))
      | (go_at_call 14; with_reducible exact ext_of (Size_val f t sb _ hf0 hf1 ht0 ht1 Hsb.out)))))
    refine wpQuiet_nil ?_
    intro w' hw'
    obtain ⟨x, rfl⟩ := hw'
    have hb := ext_below W x
    have r0 := q0 x
    have r1 := q1 x
    have r2 := q2 x
    have r3 := q3 x
    have r4 := q4 x
    have r5 := q5 x
    clear q0 q1 q2 q3 q4 q5
    replace B := Lib.hid (B.out.trans (hb.mono B.out.size))
    clear hb
    generalize ext W x = W2 at r0 r1 r2 r3 r4 r5 B ⊢
    go_wp2_with fail
    go_ret
    exact ⟨rfl, B.out⟩
set_option maxHeartbeats 3000000 in
theorem order_from (f t g u h v sa sb : Int) (lab lba lbc lac iab iba ibc iac : Bool) (w : World) (hf0 : 0 ≤ f) (hf1 : f < 4294967296) (ht0 : 0 ≤ t) (ht1 : t < 4294967296) (hg0 : 0 ≤ g) (hg1 : g < 4294967296) (hu0 : 0 ≤ u) (hu1 : u < 4294967296) (hne : f ≠ g)
    (Hlab : Hid (lessB f t g u = lab)) (Hlba : Hid (lessB g u f t = lba)) (Hlaa : Hid (lessB f t f t = false)) (Hlbc : Hid (lessB g u h v = lbc)) (Hlac : Hid (lessB f t h v = lac))
    (Hiab : Hid (inB f t g u = iab)) (Hiba : Hid (inB g u f t = iba)) (Hibc : Hid (inB g u h v = ibc)) (Hiac : Hid (inB f t h v = iac)) (Hsa : Hid (sizeV f t = sa)) (Hsb : Hid (sizeV g u = sb))
    (hl : lab = false ∧ lba = true ∨ lab = true ∧ lba = false ∧ (lbc = false ∨ lbc = true ∧ lac = true)) (hi : iab = false ∨ iab = true ∧ iba = false ∧ sa ≤ sb ∧ (ibc = false ∨ ibc = true ∧ iac = true)) :
    Calls Try.prog 8 #[.agg #[.int .u32 f, .int .u32 t], .agg #[.int .u32 g, .int .u32 u], .agg #[.int .u32 h, .int .u32 v]] w fun e w' => e = .returned (.bool true) ∧ Below w.heap.size w w' := by
  rcases hl with ⟨rfl, rfl⟩ | ⟨rfl, rfl, rfl | ⟨rfl, rfl⟩⟩
  all_goals rcases hi with rfl | ⟨rfl, rfl, hs, rfl | ⟨rfl, rfl⟩⟩
  all_goals
    go_enter Try.func8, Try.ntmps8
    go_wp2_with fail
    refine (awake_any _).mono ?_
    rintro e w1 ⟨rfl, hb⟩
    obtain ⟨r0, r1⟩ := (((two_new w f t 24).alloc (.cells #[.int .u32 g, .int .u32 u] 24)).alloc (.cells #[.int .u32 h, .int .u32 v] 24)).keep hb
    obtain ⟨r2, r3⟩ := ((show Two _ (w.heap.size + 1) g u by have := two_new (w.alloc (.cells #[.int .u32 f, .int .u32 t] 24)) g u 24; simpa using this).alloc (.cells #[.int .u32 h, .int .u32 v] 24)).keep hb
    obtain ⟨r4, r5⟩ := (show Two _ (w.heap.size + 1 + 1) h v by have := two_new ((w.alloc (.cells #[.int .u32 f, .int .u32 t] 24)).alloc (.cells #[.int .u32 g, .int .u32 u] 24)) h v 24; simpa using this).keep hb
    have B := Lib.hid (((((Below.refl w.heap.size w).alloc (Nat.le_refl _) _).alloc (by simp) _).alloc (by simp; omega) _).trans (hb.mono (by simp; omega)))
    clear hb
    go_wp2_with fail
    refine wp_region_ext (by kernel_rfl) (by kernel_rfl) ?_
    intro W hW
    rw [← hW.out] at r0 r1 r2 r3 r4 r5 B
    clear hW
    have q0 := ext_cell r0
    have q1 := ext_cell r1
    have q2 := ext_cell r2
    have q3 := ext_cell r3
    have q4 := ext_cell r4
    have q5 := ext_cell r5
    clear r0 r1 r2 r3 r4 r5
    repeat (go_big_quiet_step ((first
      | (go_at_call 25; with_reducible exact ext_of (Less_val f t g u _ _ Hlab.out))
      | (go_at_call 25; with_reducible exact ext_of (Less_val g u f t _ _ Hlba.out))
      | (go_at_call 25; with_reducible exact ext_of (Less_val f t f t _ _ Hlaa.out))
      | (go_at_call 25; with_reducible exact ext_of (Less_val g u h v _ _ Hlbc.out))
      | (go_at_call 25; with_reducible exact ext_of (Less_val f t h v _ _ Hlac.out)))))
    refine wpQuiet_nil ?_
    intro w' hw'
    obtain ⟨x, rfl⟩ := hw'
    have hb := ext_below W x
    have r0 := q0 x
    have r1 := q1 x
    have r2 := q2 x
    have r3 := q3 x
    have r4 := q4 x
    have r5 := q5 x
    clear q0 q1 q2 q3 q4 q5
    replace B := Lib.hid (B.out.trans (hb.mono B.out.size))
    clear hb
    generalize ext W x = W2 at r0 r1 r2 r3 r4 r5 B ⊢
    go_wp2_with (((go_at_call 24); first
      | ((with_reducible refine (In_val f t g u _ _ Hiab.out).mono ?_); rintro e w3 ⟨rfl, hb⟩; replace r0 := cell_keep hb r0; replace r1 := cell_keep hb r1; replace r2 := cell_keep hb r2; replace r3 := cell_keep hb r3; replace r4 := cell_keep hb r4; replace r5 := cell_keep hb r5; replace B := Lib.hid (B.out.trans (hb.mono B.out.size)); clear hb)
      | ((with_reducible refine (In_val g u h v _ _ Hibc.out).mono ?_); rintro e w3 ⟨rfl, hb⟩; replace r0 := cell_keep hb r0; replace r1 := cell_keep hb r1; replace r2 := cell_keep hb r2; replace r3 := cell_keep hb r3; replace r4 := cell_keep hb r4; replace r5 := cell_keep hb r5; replace B := Lib.hid (B.out.trans (hb.mono B.out.size)); clear hb)
      | ((with_reducible refine (In_val f t h v _ _ Hiac.out).mono ?_); rintro e w3 ⟨rfl, hb⟩; replace r0 := cell_keep hb r0; replace r1 := cell_keep hb r1; replace r2 := cell_keep hb r2; replace r3 := cell_keep hb r3; replace r4 := cell_keep hb r4; replace r5 := cell_keep hb r5; replace B := Lib.hid (B.out.trans (hb.mono B.out.size)); clear hb)))
    refine wp_region_ext (by kernel_rfl) (by kernel_rfl) ?_
    intro W hW
    rw [← hW.out] at r0 r1 r2 r3 r4 r5 B
    clear hW
    have q0 := ext_cell r0
    have q1 := ext_cell r1
    have q2 := ext_cell r2
    have q3 := ext_cell r3
    have q4 := ext_cell r4
    have q5 := ext_cell r5
    clear r0 r1 r2 r3 r4 r5
    repeat (go_big_quiet_step ((first
      | (go_at_call 24; with_reducible exact ext_of (In_val f t g u _ _ Hiab.out))
      | (go_at_call 24; with_reducible exact ext_of (In_val g u f t _ _ Hiba.out))
      | (go_at_call 14; with_reducible exact ext_of (Size_val f t sa _ hf0 hf1 ht0 ht1 Hsa.out))
      | (go_at_call 14; with_reducible exact ext_of (Size_val g u sb _ hg0 hg1 hu0 hu1 Hsb.out)))))
    refine wpQuiet_nil ?_
    intro w' hw'
    obtain ⟨x, rfl⟩ := hw'
    have hb := ext_below W x
    have r0 := q0 x
    have r1 := q1 x
    have r2 := q2 x
    have r3 := q3 x
    have r4 := q4 x
    have r5 := q5 x
    clear q0 q1 q2 q3 q4 q5
    replace B := Lib.hid (B.out.trans (hb.mono B.out.size))
    clear hb
    generalize ext W x = W2 at r0 r1 r2 r3 r4 r5 B ⊢
    go_wp2_with fail
    go_ret
    exact ⟨rfl, B.out⟩
set_option maxHeartbeats 3000000 in
theorem order_to (f t u h v sa sb : Int) (lab lba lbc lac iab iba ibc iac : Bool) (w : World) (hf0 : 0 ≤ f) (hf1 : f < 4294967296) (ht0 : 0 ≤ t) (ht1 : t < 4294967296) (hu0 : 0 ≤ u) (hu1 : u < 4294967296) (hne : t ≠ u)
    (Hlab : Hid (lessB f t f u = lab)) (Hlba : Hid (lessB f u f t = lba)) (Hlaa : Hid (lessB f t f t = false)) (Hlbc : Hid (lessB f u h v = lbc)) (Hlac : Hid (lessB f t h v = lac))
    (Hiab : Hid (inB f t f u = iab)) (Hiba : Hid (inB f u f t = iba)) (Hibc : Hid (inB f u h v = ibc)) (Hiac : Hid (inB f t h v = iac)) (Hsa : Hid (sizeV f t = sa)) (Hsb : Hid (sizeV f u = sb))
    (hl : lab = false ∧ lba = true ∨ lab = true ∧ lba = false ∧ (lbc = false ∨ lbc = true ∧ lac = true)) (hi : iab = false ∨ iab = true ∧ iba = false ∧ sa ≤ sb ∧ (ibc = false ∨ ibc = true ∧ iac = true)) :
    Calls Try.prog 8 #[.agg #[.int .u32 f, .int .u32 t], .agg #[.int .u32 f, .int .u32 u], .agg #[.int .u32 h, .int .u32 v]] w fun e w' => e = .returned (.bool true) ∧ Below w.heap.size w w' := by
  rcases hl with ⟨rfl, rfl⟩ | ⟨rfl, rfl, rfl | ⟨rfl, rfl⟩⟩
  all_goals rcases hi with rfl | ⟨rfl, rfl, hs, rfl | ⟨rfl, rfl⟩⟩
  all_goals
    go_enter Try.func8, Try.ntmps8
    go_wp2_with fail
    refine (awake_any _).mono ?_
    rintro e w1 ⟨rfl, hb⟩
    obtain ⟨r0, r1⟩ := (((two_new w f t 24).alloc (.cells #[.int .u32 f, .int .u32 u] 24)).alloc (.cells #[.int .u32 h, .int .u32 v] 24)).keep hb
    obtain ⟨r2, r3⟩ := ((show Two _ (w.heap.size + 1) f u by have := two_new (w.alloc (.cells #[.int .u32 f, .int .u32 t] 24)) f u 24; simpa using this).alloc (.cells #[.int .u32 h, .int .u32 v] 24)).keep hb
    obtain ⟨r4, r5⟩ := (show Two _ (w.heap.size + 1 + 1) h v by have := two_new ((w.alloc (.cells #[.int .u32 f, .int .u32 t] 24)).alloc (.cells #[.int .u32 f, .int .u32 u] 24)) h v 24; simpa using this).keep hb
    have B := Lib.hid (((((Below.refl w.heap.size w).alloc (Nat.le_refl _) _).alloc (by simp) _).alloc (by simp; omega) _).trans (hb.mono (by simp; omega)))
    clear hb
    go_wp2_with fail
    refine wp_region_ext (by kernel_rfl) (by kernel_rfl) ?_
    intro W hW
    rw [← hW.out] at r0 r1 r2 r3 r4 r5 B
    clear hW
    have q0 := ext_cell r0
    have q1 := ext_cell r1
    have q2 := ext_cell r2
    have q3 := ext_cell r3
    have q4 := ext_cell r4
    have q5 := ext_cell r5
    clear r0 r1 r2 r3 r4 r5
    repeat (go_big_quiet_step ((first
      | (go_at_call 25; with_reducible exact ext_of (Less_val f t f u _ _ Hlab.out))
      | (go_at_call 25; with_reducible exact ext_of (Less_val f u f t _ _ Hlba.out))
      | (go_at_call 25; with_reducible exact ext_of (Less_val f t f t _ _ Hlaa.out))
      | (go_at_call 25; with_reducible exact ext_of (Less_val f u h v _ _ Hlbc.out))
      | (go_at_call 25; with_reducible exact ext_of (Less_val f t h v _ _ Hlac.out)))))
    refine wpQuiet_nil ?_
    intro w' hw'
    obtain ⟨x, rfl⟩ := hw'
    have hb := ext_below W x
    have r0 := q0 x
    have r1 := q1 x
    have r2 := q2 x
    have r3 := q3 x
    have r4 := q4 x
    have r5 := q5 x
    clear q0 q1 q2 q3 q4 q5
    replace B := Lib.hid (B.out.trans (hb.mono B.out.size))
    clear hb
    generalize ext W x = W2 at r0 r1 r2 r3 r4 r5 B ⊢
    go_wp2_with (((go_at_call 24); first
      | ((with_reducible refine (In_val f t f u _ _ Hiab.out).mono ?_); rintro e w3 ⟨rfl, hb⟩; replace r0 := cell_keep hb r0; replace r1 := cell_keep hb r1; replace r2 := cell_keep hb r2; replace r3 := cell_keep hb r3; replace r4 := cell_keep hb r4; replace r5 := cell_keep hb r5; replace B := Lib.hid (B.out.trans (hb.mono B.out.size)); clear hb)
      | ((with_reducible refine (In_val f u h v _ _ Hibc.out).mono ?_); rintro e w3 ⟨rfl, hb⟩; replace r0 := cell_keep hb r0; replace r1 := cell_keep hb r1; replace r2 := cell_keep hb r2; replace r3 := cell_keep hb r3; replace r4 := cell_keep hb r4; replace r5 := cell_keep hb r5; replace B := Lib.hid (B.out.trans (hb.mono B.out.size)); clear hb)
      | ((with_reducible refine (In_val f t h v _ _ Hiac.out).mono ?_); rintro e w3 ⟨rfl, hb⟩; replace r0 := cell_keep hb r0; replace r1 := cell_keep hb r1; replace r2 := cell_keep hb r2; replace r3 := cell_keep hb r3; replace r4 := cell_keep hb r4; replace r5 := cell_keep hb r5; replace B := Lib.hid (B.out.trans (hb.mono B.out.size)); clear hb)))
    refine wp_region_ext (by kernel_rfl) (by kernel_rfl) ?_
    intro W hW
    rw [← hW.out] at r0 r1 r2 r3 r4 r5 B
    clear hW
    have q0 := ext_cell r0
    have q1 := ext_cell r1
    have q2 := ext_cell r2
    have q3 := ext_cell r3
    have q4 := ext_cell r4
    have q5 := ext_cell r5
    clear r0 r1 r2 r3 r4 r5
    repeat (go_big_quiet_step ((first
      | (go_at_call 24; with_reducible exact ext_of (In_val f t f u _ _ Hiab.out))
      | (go_at_call 24; with_reducible exact ext_of (In_val f u f t _ _ Hiba.out))
      | (go_at_call 14; with_reducible exact ext_of (Size_val f t sa _ hf0 hf1 ht0 ht1 Hsa.out))
      | (go_at_call 14; with_reducible exact ext_of (Size_val f u sb _ hf0 hf1 hu0 hu1 Hsb.out)))))
    refine wpQuiet_nil ?_
    intro w' hw'
    obtain ⟨x, rfl⟩ := hw'
    have hb := ext_below W x
    have r0 := q0 x
    have r1 := q1 x
    have r2 := q2 x
    have r3 := q3 x
    have r4 := q4 x
    have r5 := q5 x
    clear q0 q1 q2 q3 q4 q5
    replace B := Lib.hid (B.out.trans (hb.mono B.out.size))
    clear hb
    generalize ext W x = W2 at r0 r1 r2 r3 r4 r5 B ⊢
    go_wp2_with fail
    go_ret
    exact ⟨rfl, B.out⟩
theorem order_walk (f t g u h v : Int) (w : World) (hf : (Lit.int .u32 f).wf = true) (ht : (Lit.int .u32 t).wf = true) (hg : (Lit.int .u32 g).wf = true) (hu : (Lit.int .u32 u).wf = true) (hh : (Lit.int .u32 h).wf = true) (hv : (Lit.int .u32 v).wf = true) :
    Calls Try.prog 8 #[.agg #[.int .u32 f, .int .u32 t], .agg #[.int .u32 g, .int .u32 u], .agg #[.int .u32 h, .int .u32 v]] w fun e w' => e = .returned (.bool true) ∧ Below w.heap.size w w' := by
  obtain ⟨f0, f1⟩ := bounds_u32 hf
  obtain ⟨t0, t1⟩ := bounds_u32 ht
  obtain ⟨g0, g1⟩ := bounds_u32 hg
  obtain ⟨u0, u1⟩ := bounds_u32 hu
  have hI : ∀ (f t g u h v : Int), f ≠ g ∨ t ≠ u → (inB f t g u = false ∨ inB f t g u = true ∧ inB g u f t = false ∧ sizeV f t ≤ sizeV g u ∧ (inB g u h v = false ∨ inB g u h v = true ∧ inB f t h v = true)) := by
    intro f t g u h v hne
    cases h1 : inB f t g u
    · exact .inl rfl
    · refine .inr ⟨rfl, ?_, in_size _ _ _ _ h1, ?_⟩
      · cases h2 : inB g u f t
        · rfl
        · have := in_both _ _ _ _ h1 h2; omega
      · cases h2 : inB g u h v
        · exact .inl rfl
        · exact .inr ⟨rfl, in_trans _ _ _ _ _ _ h1 h2⟩
  have hL : ∀ (f t g u h v : Int), f ≠ g ∨ t ≠ u → (lessB f t g u = false ∧ lessB g u f t = true ∨ lessB f t g u = true ∧ lessB g u f t = false ∧ (lessB g u h v = false ∨ lessB g u h v = true ∧ lessB f t h v = true)) := by
    intro f t g u h v hne
    have := less_total f t g u hne
    cases h1 : lessB f t g u
    · exact .inl ⟨rfl, by rw [this, h1]; rfl⟩
    · refine .inr ⟨rfl, by rw [this, h1]; rfl, ?_⟩
      cases h2 : lessB g u h v
      · exact .inl rfl
      · exact .inr ⟨rfl, less_trans _ _ _ _ _ _ h1 h2⟩
  by_cases e1 : f = g
  · subst e1
    by_cases e2 : t = u
    · subst e2
      refine order_same f t h v _ _ _ _ _ _ _ _ _ _ w (by omega) (by omega) (by omega) (by omega) (Lib.hid rfl) (Lib.hid rfl) (Lib.hid (less_self _ _)) (Lib.hid rfl) (Lib.hid rfl) (Lib.hid rfl) (Lib.hid rfl) (Lib.hid rfl) (Lib.hid rfl) (Lib.hid rfl) (Lib.hid rfl) ⟨less_self _ _, less_self _ _⟩ ?_
      cases h1 : inB f t f t
      · exact .inl ⟨rfl, rfl⟩
      · refine .inr ⟨rfl, rfl, Int.le_refl _, ?_⟩
        cases h2 : inB f t h v
        · exact .inl rfl
        · exact .inr ⟨rfl, rfl⟩
    · exact order_to f t u h v _ _ _ _ _ _ _ _ _ _ w (by omega) (by omega) (by omega) (by omega) (by omega) (by omega) e2 (Lib.hid rfl) (Lib.hid rfl) (Lib.hid (less_self _ _)) (Lib.hid rfl) (Lib.hid rfl) (Lib.hid rfl) (Lib.hid rfl) (Lib.hid rfl) (Lib.hid rfl) (Lib.hid rfl) (Lib.hid rfl) (hL f t f u h v (.inr e2)) (hI f t f u h v (.inr e2))
  · exact order_from f t g u h v _ _ _ _ _ _ _ _ _ _ w (by omega) (by omega) (by omega) (by omega) (by omega) (by omega) (by omega) (by omega) e1 (Lib.hid rfl) (Lib.hid rfl) (Lib.hid (less_self _ _)) (Lib.hid rfl) (Lib.hid rfl) (Lib.hid rfl) (Lib.hid rfl) (Lib.hid rfl) (Lib.hid rfl) (Lib.hid rfl) (Lib.hid rfl) (hL f t g u h v (.inl e1)) (hI f t g u h v (.inl e1))
end Go.Proofs.Ytpgjkoccanekeaa.Reach
