/- Package device's Time: a map of a kind's time, made and asked. -/
import Derived.Test.YtmdepkehpohgeaaGreatS6a
import Derived.Test.YtmdepkehpohgeaaGreatZa
import Derived.Test.YtmdepkehpohgeaaGreatFa
import Derived.Handy
import Derived.WalkLawsBesides
namespace Go.Proofs.YtmdepkehpohgeaaGreat.Scr
open Go.RowKit Go.Maps Go.ChangeShapes Go.WideShapes Go.ChangeAt Fifo Fmap
set_option linter.unusedVariables false

/-- An entry is asked for, without 'ok'. -/
theorem look1 {P : Program} {kt et mt : TypeId} {q : IntKind} {w : World} {g : Nat} {l : List (Int × Value)} (h : FM P kt q w g l) (K : Keyed P kt) (ht : P.underlying mt = some (.map kt et)) {z : Value} (hz : (zeroValue et).run P w = .ok z w) (k : Int) (hk : keyOf P kt (.int q k) = some (.int q k)) :
    (Instr.lookup mt (.map (some g)) (.int q k) false).run P w = .ok ((atR l k).getD z) w := by
  obtain ⟨v, ps, hrun, hv⟩ := World.ownsMap.lookup h K ht hz (show fR z = some (.held z, []) from rfl) hk
  rw [at_dR] at hv
  have e : v = (atR l k).getD z := by
    unfold fR at hv
    simp only [Option.some.injEq, Prod.mk.injEq, DataW.held.injEq] at hv
    exact hv.1
  rw [← e]
  exact hrun
theorem keyKd : Keyed Tryz.prog 42 := int_keyed Tryz.underlying42
theorem keyd_mk (k : Int) (hk : I64 k) : keyOf Tryz.prog 42 (.int .i64 k) = some (.int .i64 k) := keyOf_int_mk Tryz.underlying42 (WalkArith.wf_i64 ⟨hk.1, hk.2⟩)
theorem int0 (w : World) : (zeroValue 3).run Tryz.prog w = .ok (.int .i64 0) w := by kernel_rfl
def timesL : List (Int × Value) := [(6, .int .i64 5), (5, .int .i64 2), (4, .int .i64 3), (3, .int .i64 4), (2, .int .i64 2), (1, .int .i64 16)]
theorem times_at (k : Int) : (atR timesL k).getD (.int .i64 0) = .int .i64 (timeV k) := by
  unfold timesL timeV
  simp only [atR]
  split
  · rename_i e; subst e; rfl
  split
  · rename_i e; subst e; rfl
  split
  · rename_i e; subst e; rfl
  split
  · rename_i e; subst e; rfl
  split
  · rename_i e; subst e; rfl
  split
  · rename_i e; subst e; rfl
  · rfl
set_option maxHeartbeats 1000000 in
theorem times_any (w : World) :
    Calls Tryz.prog 113 #[] w fun e w' => (∃ g, e = .returned (.map (some g)) ∧ FM Tryz.prog 42 .i64 w' g timesL) ∧ Below w.heap.size w w' := by
  have hmm := @run_makeMap Tryz.prog
  go_enter Tryz.func113, Tryz.ntmps113
  go_wp2_with (with_reducible refine at_insert _ _ _ _ rfl ?_)
  refine Lib.hid ?_
  refine list_letter ?_
  intro W hW
  have B0 := Lib.hid (show Below w.heap.size w W by rw [hW.out]; exact (Below.refl w.heap.size w).alloc (Nat.le_refl _) _)
  have H0 := Lib.hid (show FM Tryz.prog 42 .i64 W w.heap.size [] by rw [hW.out]; exact FM.made _ _ _ w)
  clear hW
  obtain ⟨g, hg⟩ : ∃ g, w.heap.size = g := ⟨_, rfl⟩
  rw [hg] at B0 H0
  rw [hg]
  refine wpList_insert_fm _ rfl _ _ _ _ rfl 42 3 .i64 keyKd Tryz.underlying201 g _ rfl H0.out (by simp [maxLen]) 1 (.int .i64 16) rfl rfl (keyd_mk 1 ⟨by decide, by decide⟩) ?_
  intro w1 hown hon
  have H1 := Lib.hid hown
  have B1 := Lib.hid (B0.out.trans (hon.below (by have := H0.out.lt; omega) (fun q e => by have : q = g := e; omega)))
  clear hown hon
  go_wp2_with (with_reducible refine at_insert _ _ _ _ rfl ?_)
  refine Lib.hid ?_
  refine wpList_insert_fm _ rfl _ _ _ _ rfl 42 3 .i64 keyKd Tryz.underlying201 g _ rfl H1.out (by simp [maxLen]) 2 (.int .i64 2) rfl rfl (keyd_mk 2 ⟨by decide, by decide⟩) ?_
  intro w2 hown hon
  have H2 := Lib.hid hown
  have B2 := Lib.hid (B1.out.trans (hon.below (by have := H1.out.lt; omega) (fun q e => by have : q = g := e; omega)))
  clear hown hon
  go_wp2_with (with_reducible refine at_insert _ _ _ _ rfl ?_)
  refine Lib.hid ?_
  refine wpList_insert_fm _ rfl _ _ _ _ rfl 42 3 .i64 keyKd Tryz.underlying201 g _ rfl H2.out (by simp [maxLen]) 3 (.int .i64 4) rfl rfl (keyd_mk 3 ⟨by decide, by decide⟩) ?_
  intro w3 hown hon
  have H3 := Lib.hid hown
  have B3 := Lib.hid (B2.out.trans (hon.below (by have := H2.out.lt; omega) (fun q e => by have : q = g := e; omega)))
  clear hown hon
  go_wp2_with (with_reducible refine at_insert _ _ _ _ rfl ?_)
  refine Lib.hid ?_
  refine wpList_insert_fm _ rfl _ _ _ _ rfl 42 3 .i64 keyKd Tryz.underlying201 g _ rfl H3.out (by simp [maxLen]) 4 (.int .i64 3) rfl rfl (keyd_mk 4 ⟨by decide, by decide⟩) ?_
  intro w4 hown hon
  have H4 := Lib.hid hown
  have B4 := Lib.hid (B3.out.trans (hon.below (by have := H3.out.lt; omega) (fun q e => by have : q = g := e; omega)))
  clear hown hon
  go_wp2_with (with_reducible refine at_insert _ _ _ _ rfl ?_)
  refine Lib.hid ?_
  refine wpList_insert_fm _ rfl _ _ _ _ rfl 42 3 .i64 keyKd Tryz.underlying201 g _ rfl H4.out (by simp [maxLen]) 5 (.int .i64 2) rfl rfl (keyd_mk 5 ⟨by decide, by decide⟩) ?_
  intro w5 hown hon
  have H5 := Lib.hid hown
  have B5 := Lib.hid (B4.out.trans (hon.below (by have := H4.out.lt; omega) (fun q e => by have : q = g := e; omega)))
  clear hown hon
  go_wp2_with (with_reducible refine at_insert _ _ _ _ rfl ?_)
  refine Lib.hid ?_
  refine wpList_insert_fm _ rfl _ _ _ _ rfl 42 3 .i64 keyKd Tryz.underlying201 g _ rfl H5.out (by simp [maxLen]) 6 (.int .i64 5) rfl rfl (keyd_mk 6 ⟨by decide, by decide⟩) ?_
  intro w6 hown hon
  have H6 := Lib.hid hown
  have B6 := Lib.hid (B5.out.trans (hon.below (by have := H5.out.lt; omega) (fun q e => by have : q = g := e; omega)))
  clear hown hon
  go_wp2_with fail
  go_ret
  exact ⟨⟨g, rfl, H6.out⟩, by rw [hg]; exact B6.out⟩
theorem Time_any (k : Int) (w : World) (h1 : I64 k) :
    Calls Tryz.prog 93 #[.int .i64 k] w fun e w' => e = .returned (.int .i64 (timeV k)) ∧ Below w.heap.size w w' := by
  have Hk := Lib.hid h1
  clear h1
  go_enter Tryz.func93, Tryz.ntmps93
  go_wp2_with fail
  refine (times_any w).mono ?_
  rintro e w1 ⟨⟨g, rfl, hm⟩, hb⟩
  have Hb := Lib.hid hb
  have lk := look1 hm keyKd Tryz.underlying201 (int0 w1) k (keyd_mk k Hk.out)
  rw [times_at] at lk
  clear hm hb
  go_wp2_with fail
  go_ret
  exact ⟨rfl, Hb.out⟩
end Go.Proofs.YtmdepkehpohgeaaGreat.Scr
