/- ofNeighbours, of meets: do any two side by side meet? -/
import Derived.Test.YtpgjkoccanekeaaRtn
namespace Go.Proofs.Ytpgjkoccanekeaa.Reach
open Go.RowKit Go.Maps Go.ChangeShapes Go.WideShapes Go.ChangeAt
set_option linter.unusedVariables false

theorem meets_val (f t g u : Int) (b : Bool) (w : World) (h : meetsP (f, t) (g, u) = b) :
    Calls Try.prog 37 #[.agg #[.int .u32 f, .int .u32 t], .agg #[.int .u32 g, .int .u32 u]] w fun e w' => e = .returned (.bool b) ∧ Below w.heap.size w w' := by
  subst h; exact meets_any f t g u w
set_option maxHeartbeats 1000000 in
theorem neigh_any (g n c : Nat) (d : List (Int × Int)) (w : World) (hn : n ≤ 1000000) (h : RowR w (some ⟨g, 0, none⟩) n d) :
    Calls Try.prog 36 #[.func (.func 37) #[] #[], .slice (some ⟨g, 0, none⟩) n c] w fun e w' => e = .returned (.bool (neighB d)) ∧ Below w.heap.size w w' := by
  have Hr := Lib.hid h
  clear h
  go_enter Try.func36, Try.ntmps36
  go_wp2_with fail
  go_loopw [5] (fun i wr => ∃ k : Nat, k ≤ n ∧ i = .int .i64 ((k : Int) + 1) ∧ Hid (∀ j, j < k → j + 1 < n → meetsP d[j]! d[j + 1]! = false) ∧ Below w.heap.size w wr) (fun i _ => n + 1 - (intOf i).toNat)
  case atStart => exact ⟨0, Nat.zero_le _, rfl, Lib.hid (fun j hj => by omega), Below.refl _ _⟩
  case round =>
    obtain ⟨k, hk, rfl, hno, hb⟩ := hrel
    have Hb := Lib.hid hb
    have hsz := hb.size
    clear hb
    by_cases hlt : k + 1 < n
    · obtain ⟨b, off, hbo, c0, c1⟩ := Hr.out.2 k (by omega)
      obtain ⟨rfl, rfl⟩ : b = g ∧ off = 0 := by simp at hbo; omega
      obtain ⟨b', off', hbo', c2, c3⟩ := Hr.out.2 (k + 1) hlt
      obtain ⟨rfl, rfl⟩ : b' = b ∧ off' = 0 := by simp at hbo'; omega
      clear hbo hbo'
      have e0 := cell_keep Hb.out c0
      have e1 := cell_keep Hb.out c1
      have e2 := cell_keep Hb.out c2
      have e3 := cell_keep Hb.out c3
      clear c0 c1 c2 c3
      rw [Nat.zero_add] at e0 e1 e2 e3
      obtain ⟨x, hx⟩ : ∃ x, d[k]! = x := ⟨_, rfl⟩
      obtain ⟨y, hy⟩ : ∃ y, d[k + 1]! = y := ⟨_, rfl⟩
      rw [hx] at e0 e1
      rw [hy] at e2 e3
      have Hx := Lib.hid hx
      have Hy := Lib.hid hy
      clear hx hy
      obtain ⟨x0, x1⟩ := x
      obtain ⟨y0, y1⟩ := y
      have i1 : (0 : Int) ≤ (k : Int) := by omega
      have i2 : (k : Int) < (n : Int) := by omega
      have i3 : (k : Int) + 1 < (n : Int) := by omega
      have i4 : (0 : Int) ≤ (k : Int) + 1 := by omega
      cases hm : meetsP (x0, x1) (y0, y1)
      all_goals
        have Hm := Lib.hid hm
        clear hm
        go_wp2_with fail
        refine wp_region_ext (by kernel_rfl) (by kernel_rfl) ?_
        intro W hW
        rw [← hW.out] at e0 e1 e2 e3
        have B := Lib.hid (show Below w.heap.size w W by rw [hW.out]; exact Hb.out)
        clear hW
        have q0 := ext_cell e0
        have q1 := ext_cell e1
        have q2 := ext_cell e2
        have q3 := ext_cell e3
        have wq : IntKind.i64.wrap ((k : Int) + 1 - 1) = (k : Int) := by rw [show (k : Int) + 1 - 1 = k by omega]; exact IntWalk.i64_in _ (by omega)
        have tq : ((k : Int) + 1).toNat = k + 1 := by omega
        repeat (go_big_quiet_step ((go_at_call 37; exact ext_of (meets_val _ _ _ _ _ _ Hm.out))))
        refine wpQuiet_nil ?_
        intro w' hw'
        obtain ⟨p, rfl⟩ := hw'
        have Hp := Lib.hid (B.out.trans ((ext_below W p).mono B.out.size))
        clear q0 q1 q2 q3 wq tq
        go_wp2_with fail
      · refine ⟨⟨k + 1, by omega, by go_num, ?_, Hp.out⟩, by simp [intOf]; omega⟩
        refine Lib.hid fun j hj hj2 => ?_
        by_cases e : j = k
        · subst e; rw [Hx.out, Hy.out]; exact Hm.out
        · exact hno.out j (by omega) hj2
      · go_ret
        refine ⟨ret_bool ?_, Hp.out⟩
        exact (neigh_yes (i := k) (by rw [Hr.out.1]; omega) (by rw [Hx.out, Hy.out]; exact Hm.out)).symm
    · go_wp2_with fail
      go_ret
      refine ⟨ret_bool ?_, Hb.out⟩
      exact (neigh_no fun i hi => hno.out i (by rw [Hr.out.1] at hi; omega) (by rw [Hr.out.1] at hi; omega)).symm
end Go.Proofs.Ytpgjkoccanekeaa.Reach
