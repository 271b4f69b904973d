/- Worlds that only draw and lay blocks; cmp.Compare, cmp.Or of two; order, less. -/
import Derived.Test.YtploggfaihfeeaaRta
import Derived.Test.YtploggfaihfeeaaExt
import Derived.Sort.Grow
import Derived.Deep.RegionHeld3
import Derived.Deep.QuietTactic
import Derived.BigQuiet
namespace Go.Proofs.Ytploggfaihfeeaa.Reach
open Go.RowKit Go.Sort

/-- Draws and new blocks, no more. -/
def Grew (W w : World) : Prop := ∃ q os, w = grow (W.drewN q) os
theorem Grew.refl (W : World) : Grew W W := ⟨0, #[], (grow_empty W).symm⟩
theorem Grew.alloc {W w : World} (h : Grew W w) (o : Obj) : Grew W (w.alloc o) := by
  obtain ⟨q, os, rfl⟩ := h
  exact ⟨q, os ++ #[o], by rw [alloc_eq_grow, grow_grow]⟩
theorem Grew.drew {W w : World} (h : Grew W w) : Grew W w.drew := by
  obtain ⟨q, os, rfl⟩ := h
  exact ⟨q + 1, os, rfl⟩
theorem drewN_drewN (W : World) (a b : Nat) : (W.drewN a).drewN b = W.drewN (a + b) := by
  induction b with
  | zero => rfl
  | succ b ih => show ((W.drewN a).drewN b).drew = _; rw [ih]; rfl
theorem drewN_grow (w : World) (os : Array Obj) (n : Nat) : (grow w os).drewN n = grow (w.drewN n) os := by
  induction n with
  | zero => rfl
  | succ n ih => show ((grow w os).drewN n).drew = _; rw [ih]; rfl
theorem Grew.drewN {W w : World} (h : Grew W w) (n : Nat) : Grew W (w.drewN n) := by
  obtain ⟨q, os, rfl⟩ := h
  exact ⟨q + n, os, by rw [drewN_grow, drewN_drewN]⟩
theorem Grew.trans {W w v : World} (h : Grew W w) (k : Grew w v) : Grew W v := by
  obtain ⟨q, os, rfl⟩ := h
  obtain ⟨p, us, rfl⟩ := k
  exact ⟨q + p, os ++ us, by rw [drewN_grow, drewN_drewN, grow_grow]⟩
theorem Grew.below {W w : World} (h : Grew W w) : Below W.heap.size W w := by
  obtain ⟨q, os, rfl⟩ := h
  refine ⟨?_, ?_, ?_, ?_, ?_⟩
  all_goals first | (induction q with | zero => rfl | succ q ih => exact ih) | skip
  · rw [size_grow]
    have : (W.drewN q).heap = W.heap := by induction q with | zero => rfl | succ q ih => exact ih
    rw [this]; omega
  · intro k hk
    have : (W.drewN q).heap = W.heap := by induction q with | zero => rfl | succ q ih => exact ih
    rw [heap_grow_old _ _ (by rw [this]; exact hk), this]

/-- cmp.Compare. -/
def cmpV (x y : Int) : Int := if x < y then -1 else if y < x then 1 else 0
/-- The first that is not nought. -/
def orV (a b : Int) : Int := if a = 0 then b else a
def ordV (f t g u : Int) : Int := orV (cmpV f g) (cmpV t u)
/-- Does a reach lie in another one? -/
def inB (f t g u : Int) : Bool := decide (f ≤ t ∧ g ≤ f ∧ t ≤ u)
theorem right_yes (f t : Int) (h : f ≤ t) (w : World) :
    Calls Try.prog 36 #[.agg #[.int .u32 f, .int .u32 t]] w fun e w' => e = .returned (.bool true) ∧ Below w.heap.size w w' :=
  (right_any f t w).mono fun e w' ⟨he, hb⟩ => ⟨by rw [he]; exact ret_bool (decide_eq_true h), hb⟩
theorem right_no (f t : Int) (h : ¬ f ≤ t) (w : World) :
    Calls Try.prog 36 #[.agg #[.int .u32 f, .int .u32 t]] w fun e w' => e = .returned (.bool false) ∧ Below w.heap.size w w' :=
  (right_any f t w).mono fun e w' ⟨he, hb⟩ => ⟨by rw [he]; exact ret_bool (decide_eq_false h), hb⟩
theorem both_val (f t g u m n : Int) (w : World) (hm : max f g = m) (hn : min t u = n) :
    Calls Try.prog 35 #[.agg #[.int .u32 f, .int .u32 t], .agg #[.int .u32 g, .int .u32 u]] w fun e w' => e = .returned (.agg #[.int .u32 m, .int .u32 n]) ∧ Below w.heap.size w w' := by
  rw [← hm, ← hn]; exact both_any f t g u w
set_option maxHeartbeats 1000000 in
theorem in_any0 (f t g u m n : Int) (w : World) (h : f ≤ t) (Hm : Hid (max f g = m)) (Hn : Hid (min t u = n)) :
    Calls Try.prog 30 #[.agg #[.int .u32 f, .int .u32 t], .agg #[.int .u32 g, .int .u32 u]] w fun e w' => e = .returned (.bool (inB f t g u)) ∧ Below w.heap.size w w' := by
  by_cases hm : m = f
  · subst hm
    by_cases hn : n = t
    · subst hn
      go_enter Try.func30, Try.ntmps30
      go_wp2_with fail
      refine wp_region_ext (by kernel_rfl) (by kernel_rfl) ?_
      intro W hW
      have c0 := ext_cell (show W.cell? ⟨w.heap.size, 0, none⟩ = some (.int .u32 m) by rw [hW.out]; simp [go_sem])
      have c1 := ext_cell (show W.cell? ⟨w.heap.size, 1, none⟩ = some (.int .u32 n) by rw [hW.out]; simp [go_sem])
      have c2 := ext_cell (show W.cell? ⟨w.heap.size + 1, 0, none⟩ = some (.int .u32 g) by rw [hW.out]; simp [go_sem])
      have c3 := ext_cell (show W.cell? ⟨w.heap.size + 1, 1, none⟩ = some (.int .u32 u) by rw [hW.out]; simp [go_sem])
      have hb : Below w.heap.size w W := by rw [hW.out]; exact ((Below.refl _ _).alloc (Nat.le_refl _) _).alloc (by simp) _
      have Hb := Lib.hid hb
      clear hb
      repeat (go_big_quiet_step ((first | (go_at_call 36; exact ext_of (right_yes m n h _)) | (go_at_call 35; exact ext_of (both_val m n g u m n _ Hm.out Hn.out)))))
      refine wpQuiet_nil ?_
      intro w' hw'
      obtain ⟨p, rfl⟩ := hw'
      go_wp2_with fail
      go_ret
      exact ⟨ret_bool (by unfold inB; have a := Hm.out; have b := Hn.out; exact (decide_eq_true (by omega)).symm), Hb.out.trans ((ext_below W p).mono Hb.out.size)⟩

    · go_enter Try.func30, Try.ntmps30
      go_wp2_with fail
      refine wp_region_ext (by kernel_rfl) (by kernel_rfl) ?_
      intro W hW
      have c0 := ext_cell (show W.cell? ⟨w.heap.size, 0, none⟩ = some (.int .u32 m) by rw [hW.out]; simp [go_sem])
      have c1 := ext_cell (show W.cell? ⟨w.heap.size, 1, none⟩ = some (.int .u32 t) by rw [hW.out]; simp [go_sem])
      have c2 := ext_cell (show W.cell? ⟨w.heap.size + 1, 0, none⟩ = some (.int .u32 g) by rw [hW.out]; simp [go_sem])
      have c3 := ext_cell (show W.cell? ⟨w.heap.size + 1, 1, none⟩ = some (.int .u32 u) by rw [hW.out]; simp [go_sem])
      have hb : Below w.heap.size w W := by rw [hW.out]; exact ((Below.refl _ _).alloc (Nat.le_refl _) _).alloc (by simp) _
      have Hb := Lib.hid hb
      clear hb
      repeat (go_big_quiet_step ((first | (go_at_call 36; exact ext_of (right_yes m t h _)) | (go_at_call 35; exact ext_of (both_val m t g u m n _ Hm.out Hn.out)))))
      refine wpQuiet_nil ?_
      intro w' hw'
      obtain ⟨p, rfl⟩ := hw'
      go_wp2_with fail
      go_ret
      exact ⟨ret_bool (by unfold inB; have a := Hm.out; have b := Hn.out; exact (decide_eq_false (by omega)).symm), Hb.out.trans ((ext_below W p).mono Hb.out.size)⟩

  · go_enter Try.func30, Try.ntmps30
    go_wp2_with fail
    refine wp_region_ext (by kernel_rfl) (by kernel_rfl) ?_
    intro W hW
    have c0 := ext_cell (show W.cell? ⟨w.heap.size, 0, none⟩ = some (.int .u32 f) by rw [hW.out]; simp [go_sem])
    have c1 := ext_cell (show W.cell? ⟨w.heap.size, 1, none⟩ = some (.int .u32 t) by rw [hW.out]; simp [go_sem])
    have c2 := ext_cell (show W.cell? ⟨w.heap.size + 1, 0, none⟩ = some (.int .u32 g) by rw [hW.out]; simp [go_sem])
    have c3 := ext_cell (show W.cell? ⟨w.heap.size + 1, 1, none⟩ = some (.int .u32 u) by rw [hW.out]; simp [go_sem])
    have hb : Below w.heap.size w W := by rw [hW.out]; exact ((Below.refl _ _).alloc (Nat.le_refl _) _).alloc (by simp) _
    have Hb := Lib.hid hb
    clear hb
    repeat (go_big_quiet_step ((first | (go_at_call 36; exact ext_of (right_yes f t h _)) | (go_at_call 35; exact ext_of (both_val f t g u m n _ Hm.out Hn.out)))))
    refine wpQuiet_nil ?_
    intro w' hw'
    obtain ⟨p, rfl⟩ := hw'
    go_wp2_with fail
    go_ret
    exact ⟨ret_bool (by unfold inB; have a := Hm.out; have b := Hn.out; exact (decide_eq_false (by omega)).symm), Hb.out.trans ((ext_below W p).mono Hb.out.size)⟩

set_option maxHeartbeats 1000000 in
theorem in_any1 (f t g u : Int) (w : World) (h : ¬ f ≤ t) :
    Calls Try.prog 30 #[.agg #[.int .u32 f, .int .u32 t], .agg #[.int .u32 g, .int .u32 u]] w fun e w' => e = .returned (.bool (inB f t g u)) ∧ Below w.heap.size w w' := by
  go_enter Try.func30, Try.ntmps30
  go_wp2_with fail
  refine wp_region_ext (by kernel_rfl) (by kernel_rfl) ?_
  intro W hW
  have c0 := ext_cell (show W.cell? ⟨w.heap.size, 0, none⟩ = some (.int .u32 f) by rw [hW.out]; simp [go_sem])
  have c1 := ext_cell (show W.cell? ⟨w.heap.size, 1, none⟩ = some (.int .u32 t) by rw [hW.out]; simp [go_sem])
  have c2 := ext_cell (show W.cell? ⟨w.heap.size + 1, 0, none⟩ = some (.int .u32 g) by rw [hW.out]; simp [go_sem])
  have c3 := ext_cell (show W.cell? ⟨w.heap.size + 1, 1, none⟩ = some (.int .u32 u) by rw [hW.out]; simp [go_sem])
  have hb : Below w.heap.size w W := by rw [hW.out]; exact ((Below.refl _ _).alloc (Nat.le_refl _) _).alloc (by simp) _
  have Hb := Lib.hid hb
  clear hb
  repeat (go_big_quiet_step ((go_at_call 36; exact ext_of (right_no f t (by omega) _))))
  refine wpQuiet_nil ?_
  intro w' hw'
  obtain ⟨p, rfl⟩ := hw'
  go_wp2_with fail
  go_ret
  exact ⟨ret_bool (by unfold inB; exact (decide_eq_false (by omega)).symm), Hb.out.trans ((ext_below W p).mono Hb.out.size)⟩

theorem in_any (f t g u : Int) (w : World) :
    Calls Try.prog 30 #[.agg #[.int .u32 f, .int .u32 t], .agg #[.int .u32 g, .int .u32 u]] w fun e w' => e = .returned (.bool (inB f t g u)) ∧ Below w.heap.size w w' := by
  by_cases h : f ≤ t
  · exact in_any0 f t g u _ _ w h (Lib.hid rfl) (Lib.hid rfl)
  · exact in_any1 f t g u w h
end Go.Proofs.Ytploggfaihfeeaa.Reach
