/- Package device: what each kind begins with, its time; New, Time. -/
import Derived.Test.YtknhgfofmkpnfaaGreatS5wa
import Derived.Test.YtknhgfofmkpnfaaGreatYc
import Derived.Test.YtknhgfofmkpnfaaGreatZa
import Derived.Handy
import Derived.WalkLawsBesides
namespace Go.Proofs.YtknhgfofmkpnfaaGreat.Devs
set_option linter.unusedSectionVars false
variable [Inhabited Lane.OTab]
open Go.RowKit Go.Maps Go.ChangeShapes Go.WideShapes Go.ChangeAt Fifo Orow Word Fmap
set_option linter.unusedVariables false

/-- An entry is asked for, without 'ok'. -/
theorem look1 {P : Program} {kt et mt : TypeId} {q : IntKind} {w : World} {g : Nat} {l : List (Int × Value)} (h : FM P kt q w g l) (K : Keyed P kt) (ht : P.underlying mt = some (.map kt et)) {z : Value} (hz : (zeroValue et).run P w = .ok z w) (k : Int) (hk : keyOf P kt (.int q k) = some (.int q k)) :
    (Instr.lookup mt (.map (some g)) (.int q k) false).run P w = .ok ((atR l k).getD z) w := by
  obtain ⟨v, ps, hrun, hv⟩ := World.ownsMap.lookup h K ht hz (show fR z = some (.held z, []) from rfl) hk
  rw [at_dR] at hv
  have e : v = (atR l k).getD z := by
    unfold fR at hv
    simp only [Option.some.injEq, Prod.mk.injEq, DataW.held.injEq] at hv
    exact hv.1
  rw [← e]
  exact hrun
theorem keyKd : Keyed Tryz.prog 22 := int_keyed Tryz.underlying22
theorem keyd_mk (k : Int) (hk : I64 k) : keyOf Tryz.prog 22 (.int .i64 k) = some (.int .i64 k) := keyOf_int_mk Tryz.underlying22 (WalkArith.wf_i64 ⟨hk.1, hk.2⟩)
theorem int0 (w : World) : (zeroValue 3).run Tryz.prog w = .ok (.int .i64 0) w := by kernel_rfl
theorem fun0 (w : World) : (zeroValue 46).run Tryz.prog w = .ok .nilFunc w := by kernel_rfl
def timesL : List (Int × Value) := [(6, .int .i64 5), (5, .int .i64 2), (4, .int .i64 3), (3, .int .i64 4), (2, .int .i64 2), (1, .int .i64 16)]
theorem times_at (k : Int) : (atR timesL k).getD (.int .i64 0) = .int .i64 (timeV k) := by
  unfold timesL timeV
  simp only [atR]
  split
  · rename_i e; subst e; rfl
  split
  · rename_i e; subst e; rfl
  split
  · rename_i e; subst e; rfl
  split
  · rename_i e; subst e; rfl
  split
  · rename_i e; subst e; rfl
  split
  · rename_i e; subst e; rfl
  · rfl
set_option maxHeartbeats 1000000 in
theorem times_any (w : World) :
    Calls Tryz.prog 31 #[] w fun e w' => (∃ g, e = .returned (.map (some g)) ∧ FM Tryz.prog 22 .i64 w' g timesL) ∧ Below w.heap.size w w' := by
  have hmm := @run_makeMap Tryz.prog
  go_enter Tryz.func31, Tryz.ntmps31
  go_wp2_with (with_reducible refine at_insert _ _ _ _ rfl ?_)
  refine Lib.hid ?_
  refine list_letter ?_
  intro W hW
  have B0 := Lib.hid (show Below w.heap.size w W by rw [hW.out]; exact (Below.refl w.heap.size w).alloc (Nat.le_refl _) _)
  have H0 := Lib.hid (show FM Tryz.prog 22 .i64 W w.heap.size [] by rw [hW.out]; exact FM.made _ _ _ w)
  clear hW
  obtain ⟨g, hg⟩ : ∃ g, w.heap.size = g := ⟨_, rfl⟩
  rw [hg] at B0 H0
  rw [hg]
  refine wpList_insert_fm _ rfl _ _ _ _ rfl 22 3 .i64 keyKd Tryz.underlying74 g _ rfl H0.out (by simp [maxLen]) 1 (.int .i64 16) rfl rfl (keyd_mk 1 ⟨by decide, by decide⟩) ?_
  intro w1 hown hon
  have H1 := Lib.hid hown
  have B1 := Lib.hid (B0.out.trans (hon.below (by have := H0.out.lt; omega) (fun q e => by have : q = g := e; omega)))
  clear hown hon
  go_wp2_with (with_reducible refine at_insert _ _ _ _ rfl ?_)
  refine Lib.hid ?_
  refine wpList_insert_fm _ rfl _ _ _ _ rfl 22 3 .i64 keyKd Tryz.underlying74 g _ rfl H1.out (by simp [maxLen]) 2 (.int .i64 2) rfl rfl (keyd_mk 2 ⟨by decide, by decide⟩) ?_
  intro w2 hown hon
  have H2 := Lib.hid hown
  have B2 := Lib.hid (B1.out.trans (hon.below (by have := H1.out.lt; omega) (fun q e => by have : q = g := e; omega)))
  clear hown hon
  go_wp2_with (with_reducible refine at_insert _ _ _ _ rfl ?_)
  refine Lib.hid ?_
  refine wpList_insert_fm _ rfl _ _ _ _ rfl 22 3 .i64 keyKd Tryz.underlying74 g _ rfl H2.out (by simp [maxLen]) 3 (.int .i64 4) rfl rfl (keyd_mk 3 ⟨by decide, by decide⟩) ?_
  intro w3 hown hon
  have H3 := Lib.hid hown
  have B3 := Lib.hid (B2.out.trans (hon.below (by have := H2.out.lt; omega) (fun q e => by have : q = g := e; omega)))
  clear hown hon
  go_wp2_with (with_reducible refine at_insert _ _ _ _ rfl ?_)
  refine Lib.hid ?_
  refine wpList_insert_fm _ rfl _ _ _ _ rfl 22 3 .i64 keyKd Tryz.underlying74 g _ rfl H3.out (by simp [maxLen]) 4 (.int .i64 3) rfl rfl (keyd_mk 4 ⟨by decide, by decide⟩) ?_
  intro w4 hown hon
  have H4 := Lib.hid hown
  have B4 := Lib.hid (B3.out.trans (hon.below (by have := H3.out.lt; omega) (fun q e => by have : q = g := e; omega)))
  clear hown hon
  go_wp2_with (with_reducible refine at_insert _ _ _ _ rfl ?_)
  refine Lib.hid ?_
  refine wpList_insert_fm _ rfl _ _ _ _ rfl 22 3 .i64 keyKd Tryz.underlying74 g _ rfl H4.out (by simp [maxLen]) 5 (.int .i64 2) rfl rfl (keyd_mk 5 ⟨by decide, by decide⟩) ?_
  intro w5 hown hon
  have H5 := Lib.hid hown
  have B5 := Lib.hid (B4.out.trans (hon.below (by have := H4.out.lt; omega) (fun q e => by have : q = g := e; omega)))
  clear hown hon
  go_wp2_with (with_reducible refine at_insert _ _ _ _ rfl ?_)
  refine Lib.hid ?_
  refine wpList_insert_fm _ rfl _ _ _ _ rfl 22 3 .i64 keyKd Tryz.underlying74 g _ rfl H5.out (by simp [maxLen]) 6 (.int .i64 5) rfl rfl (keyd_mk 6 ⟨by decide, by decide⟩) ?_
  intro w6 hown hon
  have H6 := Lib.hid hown
  have B6 := Lib.hid (B5.out.trans (hon.below (by have := H5.out.lt; omega) (fun q e => by have : q = g := e; omega)))
  clear hown hon
  go_wp2_with fail
  go_ret
  exact ⟨⟨g, rfl, H6.out⟩, by rw [hg]; exact B6.out⟩
theorem Time_any (k : Int) (w : World) (h1 : I64 k) :
    Calls Tryz.prog 18 #[.int .i64 k] w fun e w' => e = .returned (.int .i64 (timeV k)) ∧ Below w.heap.size w w' := by
  have Hk := Lib.hid h1
  clear h1
  go_enter Tryz.func18, Tryz.ntmps18
  go_wp2_with fail
  refine (times_any w).mono ?_
  rintro e w1 ⟨⟨g, rfl, hm⟩, hb⟩
  have Hb := Lib.hid hb
  have lk := look1 hm keyKd Tryz.underlying74 (int0 w1) k (keyd_mk k Hk.out)
  rw [times_at] at lk
  clear hm hb
  go_wp2_with fail
  go_ret
  exact ⟨rfl, Hb.out⟩
/-- What each kind begins with; k: where the size lies. -/
def begL (k : Nat) : List (Int × Value) := [(6, begV (.eng Dma.zeroE) k), (5, begV (.rot Rotor.zeroR) k), (4, begV (.box Mbox.zeroX) k), (3, begV (.uar Uart.zeroU) k), (2, begV (.tim Timer.zeroS) k), (1, begV (.ram []) k)]
theorem beg_at {k : Nat} {n S : Int} (hn : 1 ≤ n ∧ n ≤ 6) : (atR (begL k) n).getD .nilFunc = begV (newD n S) k := by
  have : n = 1 ∨ n = 2 ∨ n = 3 ∨ n = 4 ∨ n = 5 ∨ n = 6 := by omega
  rcases this with rfl | rfl | rfl | rfl | rfl | rfl <;> rfl
set_option maxHeartbeats 1000000 in
theorem begins_any (S : Int) (w : World) :
    Calls Tryz.prog 20 #[.int .i64 S] w fun e w' => (∃ g k, e = .returned (.map (some g)) ∧ FM Tryz.prog 22 .i64 w' g (begL k) ∧ Blk w' k 3 [.int .i64 S] ∧ w.heap.size ≤ k ∧ g ≠ k) ∧ Below w.heap.size w w' := by
  have hmm := @run_makeMap Tryz.prog
  have hmf : ∀ w f c, (Instr.makeFunc (.func f) #[] c).run Tryz.prog w = .ok (.func (.func f) #[] c) w := fun w f c => rfl
  go_enter Tryz.func20, Tryz.ntmps20
  go_wp2_with (with_reducible refine at_insert _ _ _ _ rfl ?_)
  refine Lib.hid ?_
  refine list_letter ?_
  intro W hW
  have B0 := Lib.hid (show Below w.heap.size w W by rw [hW.out]; exact ((Below.refl w.heap.size w).alloc (Nat.le_refl _) _).alloc (by simp) _)
  have K0 := Lib.hid (show Blk W w.heap.size 3 [.int .i64 S] by rw [hW.out]; exact (Blk.new w 3 [.int .i64 S]).alloc _)
  have H0 := Lib.hid (show FM Tryz.prog 22 .i64 W (w.heap.size + 1) [] by
    rw [hW.out]
    have e : ∀ X : World, X.heap.size = w.heap.size + 1 → FM Tryz.prog 22 .i64 (X.alloc (.map #[] 0)) (w.heap.size + 1) [] := fun X h => by rw [← h]; exact FM.made _ _ _ X
    exact e _ (by simp))
  clear hW hmf
  obtain ⟨k, hk⟩ : ∃ k, w.heap.size = k := ⟨_, rfl⟩
  rw [hk] at B0 H0 K0
  rw [hk]
  refine wpList_insert_fm _ rfl _ _ _ _ rfl 22 46 .i64 keyKd Tryz.underlying47 (k + 1) _ rfl H0.out (by simp [maxLen]) 1 (begV (.ram []) k) rfl rfl (keyd_mk 1 ⟨by decide, by decide⟩) ?_
  intro w1 hown hon
  have H1 := Lib.hid hown
  have B1 := Lib.hid (B0.out.trans (hon.below (by have := H0.out.lt; omega) (fun q e => by have : q = (k + 1) := e; omega)))
  have K1 := Lib.hid (K0.out.only hon (by omega))
  clear hown hon
  go_wp2_with (with_reducible refine at_insert _ _ _ _ rfl ?_)
  refine Lib.hid ?_
  refine wpList_insert_fm _ rfl _ _ _ _ rfl 22 46 .i64 keyKd Tryz.underlying47 (k + 1) _ rfl H1.out (by simp [maxLen]) 2 (begV (.tim Timer.zeroS) k) rfl rfl (keyd_mk 2 ⟨by decide, by decide⟩) ?_
  intro w2 hown hon
  have H2 := Lib.hid hown
  have B2 := Lib.hid (B1.out.trans (hon.below (by have := H1.out.lt; omega) (fun q e => by have : q = (k + 1) := e; omega)))
  have K2 := Lib.hid (K1.out.only hon (by omega))
  clear hown hon
  go_wp2_with (with_reducible refine at_insert _ _ _ _ rfl ?_)
  refine Lib.hid ?_
  refine wpList_insert_fm _ rfl _ _ _ _ rfl 22 46 .i64 keyKd Tryz.underlying47 (k + 1) _ rfl H2.out (by simp [maxLen]) 3 (begV (.uar Uart.zeroU) k) rfl rfl (keyd_mk 3 ⟨by decide, by decide⟩) ?_
  intro w3 hown hon
  have H3 := Lib.hid hown
  have B3 := Lib.hid (B2.out.trans (hon.below (by have := H2.out.lt; omega) (fun q e => by have : q = (k + 1) := e; omega)))
  have K3 := Lib.hid (K2.out.only hon (by omega))
  clear hown hon
  go_wp2_with (with_reducible refine at_insert _ _ _ _ rfl ?_)
  refine Lib.hid ?_
  refine wpList_insert_fm _ rfl _ _ _ _ rfl 22 46 .i64 keyKd Tryz.underlying47 (k + 1) _ rfl H3.out (by simp [maxLen]) 4 (begV (.box Mbox.zeroX) k) rfl rfl (keyd_mk 4 ⟨by decide, by decide⟩) ?_
  intro w4 hown hon
  have H4 := Lib.hid hown
  have B4 := Lib.hid (B3.out.trans (hon.below (by have := H3.out.lt; omega) (fun q e => by have : q = (k + 1) := e; omega)))
  have K4 := Lib.hid (K3.out.only hon (by omega))
  clear hown hon
  go_wp2_with (with_reducible refine at_insert _ _ _ _ rfl ?_)
  refine Lib.hid ?_
  refine wpList_insert_fm _ rfl _ _ _ _ rfl 22 46 .i64 keyKd Tryz.underlying47 (k + 1) _ rfl H4.out (by simp [maxLen]) 5 (begV (.rot Rotor.zeroR) k) rfl rfl (keyd_mk 5 ⟨by decide, by decide⟩) ?_
  intro w5 hown hon
  have H5 := Lib.hid hown
  have B5 := Lib.hid (B4.out.trans (hon.below (by have := H4.out.lt; omega) (fun q e => by have : q = (k + 1) := e; omega)))
  have K5 := Lib.hid (K4.out.only hon (by omega))
  clear hown hon
  go_wp2_with (with_reducible refine at_insert _ _ _ _ rfl ?_)
  refine Lib.hid ?_
  refine wpList_insert_fm _ rfl _ _ _ _ rfl 22 46 .i64 keyKd Tryz.underlying47 (k + 1) _ rfl H5.out (by simp [maxLen]) 6 (begV (.eng Dma.zeroE) k) rfl rfl (keyd_mk 6 ⟨by decide, by decide⟩) ?_
  intro w6 hown hon
  have H6 := Lib.hid hown
  have B6 := Lib.hid (B5.out.trans (hon.below (by have := H5.out.lt; omega) (fun q e => by have : q = (k + 1) := e; omega)))
  have K6 := Lib.hid (K5.out.only hon (by omega))
  clear hown hon
  go_wp2_with fail
  go_ret
  exact ⟨⟨k + 1, k, rfl, H6.out, K6.out, Nat.le_of_eq hk, by omega⟩, by rw [hk]; exact B6.out⟩
/-- What turns of a part's object; what it leaves. -/
def ObjLeft (w w' : World) (m : Nat) (d : Dv) (Q : Nat → Prop) : Prop := ∃ Q', ObjAt w' m d Q' ∧ Only Q w w' ∧ ∀ j, Q' j → Q j ∨ w.heap.size ≤ j
theorem ObjAt.still {w w' : World} {m : Nat} {d : Dv} {Q : Nat → Prop} (h : ObjAt w m d Q) (hb : Below w.heap.size w w') : ObjLeft w w' m d Q := ⟨Q, h.keep hb, Only.of_below hb, fun j hj => .inl hj⟩
theorem ObjLeft.behind {w w1 w' : World} {m : Nat} {d : Dv} {Q : Nat → Prop} (hb : Below w.heap.size w w1) (h : ObjLeft w1 w' m d Q) : ObjLeft w w' m d Q := by
  obtain ⟨Q', h1, h2, h3⟩ := h
  exact ⟨Q', h1, (Only.of_below hb).trans h2, fun j hj => (h3 j hj).imp id (fun e => by have := hb.size; omega)⟩
/-- An object that is new. -/
def NewObj (w w' : World) (e : Ending) (d : Dv) : Prop := ∃ m Q, e = .returned (partV d m) ∧ ObjAt w' m d Q ∧ ∀ j, Q j → w.heap.size ≤ j
theorem regs_tim (b : Nat) (w : World) :
    Calls Tryz.prog 36 #[ptr b] w fun e w' => e = .returned (.agg #[ptr b]) ∧ Below w.heap.size w w' := by
  go_enter Tryz.func36, Tryz.ntmps36
  go_wp2_with fail
  refine bodyPost_ret (v := .agg #[ptr b]) ?_ rfl ⟨rfl, ?_⟩
  · simp [results, Tryz.results36, go_sem]
  · go_grown
theorem beg_tim (w : World) :
    Calls Tryz.prog 35 #[] w fun e w' => NewObj w w' e (.tim Timer.zeroS) ∧ Below w.heap.size w w' := by
  go_enter Tryz.func35, Tryz.ntmps35
  go_wp2_with fail
  refine (Timer.New_any w).mono ?_
  rintro e w1 ⟨⟨b, Q, rfl, h, hn⟩, hb⟩
  have H := Lib.hid h
  have B := Lib.hid hb
  have N := Lib.hid hn
  clear h hb hn
  go_wp2_with fail
  refine (regs_tim b w1).mono ?_
  rintro e w2 ⟨rfl, hb⟩
  have H2 := Lib.hid (H.out.keep hb)
  have B2 := Lib.hid (B.out.trans (hb.mono B.out.size))
  clear hb
  go_wp2_with fail
  go_ret
  exact ⟨⟨b, Q, rfl, H2.out, N.out⟩, B2.out⟩
theorem regs_uar (b : Nat) (w : World) :
    Calls Tryz.prog 39 #[ptr b] w fun e w' => e = .returned (.agg #[ptr b]) ∧ Below w.heap.size w w' := by
  go_enter Tryz.func39, Tryz.ntmps39
  go_wp2_with fail
  refine bodyPost_ret (v := .agg #[ptr b]) ?_ rfl ⟨rfl, ?_⟩
  · simp [results, Tryz.results39, go_sem]
  · go_grown
theorem beg_uar (w : World) :
    Calls Tryz.prog 38 #[] w fun e w' => NewObj w w' e (.uar Uart.zeroU) ∧ Below w.heap.size w w' := by
  go_enter Tryz.func38, Tryz.ntmps38
  go_wp2_with fail
  refine (Uart.New_any w).mono ?_
  rintro e w1 ⟨⟨b, Q, rfl, h, hn⟩, hb⟩
  have H := Lib.hid h
  have B := Lib.hid hb
  have N := Lib.hid hn
  clear h hb hn
  go_wp2_with fail
  refine (regs_uar b w1).mono ?_
  rintro e w2 ⟨rfl, hb⟩
  have H2 := Lib.hid (H.out.keep hb)
  have B2 := Lib.hid (B.out.trans (hb.mono B.out.size))
  clear hb
  go_wp2_with fail
  go_ret
  exact ⟨⟨b, Q, rfl, H2.out, N.out⟩, B2.out⟩
theorem regs_box (b : Nat) (w : World) :
    Calls Tryz.prog 42 #[ptr b] w fun e w' => e = .returned (.agg #[ptr b]) ∧ Below w.heap.size w w' := by
  go_enter Tryz.func42, Tryz.ntmps42
  go_wp2_with fail
  refine bodyPost_ret (v := .agg #[ptr b]) ?_ rfl ⟨rfl, ?_⟩
  · simp [results, Tryz.results42, go_sem]
  · go_grown
theorem beg_box (w : World) :
    Calls Tryz.prog 41 #[] w fun e w' => NewObj w w' e (.box Mbox.zeroX) ∧ Below w.heap.size w w' := by
  go_enter Tryz.func41, Tryz.ntmps41
  go_wp2_with fail
  refine (Mbox.New_any w).mono ?_
  rintro e w1 ⟨⟨b, Q, rfl, h, hn⟩, hb⟩
  have H := Lib.hid h
  have B := Lib.hid hb
  have N := Lib.hid hn
  clear h hb hn
  go_wp2_with fail
  refine (regs_box b w1).mono ?_
  rintro e w2 ⟨rfl, hb⟩
  have H2 := Lib.hid (H.out.keep hb)
  have B2 := Lib.hid (B.out.trans (hb.mono B.out.size))
  clear hb
  go_wp2_with fail
  go_ret
  exact ⟨⟨b, Q, rfl, H2.out, N.out⟩, B2.out⟩
theorem regs_rot (b : Nat) (w : World) :
    Calls Tryz.prog 45 #[ptr b] w fun e w' => e = .returned (.agg #[ptr b]) ∧ Below w.heap.size w w' := by
  go_enter Tryz.func45, Tryz.ntmps45
  go_wp2_with fail
  refine bodyPost_ret (v := .agg #[ptr b]) ?_ rfl ⟨rfl, ?_⟩
  · simp [results, Tryz.results45, go_sem]
  · go_grown
theorem beg_rot (w : World) :
    Calls Tryz.prog 44 #[] w fun e w' => NewObj w w' e (.rot Rotor.zeroR) ∧ Below w.heap.size w w' := by
  go_enter Tryz.func44, Tryz.ntmps44
  go_wp2_with fail
  refine (Rotor.New_any w).mono ?_
  rintro e w1 ⟨⟨b, Q, rfl, h, hn⟩, hb⟩
  have H := Lib.hid h
  have B := Lib.hid hb
  have N := Lib.hid hn
  clear h hb hn
  go_wp2_with fail
  refine (regs_rot b w1).mono ?_
  rintro e w2 ⟨rfl, hb⟩
  have H2 := Lib.hid (H.out.keep hb)
  have B2 := Lib.hid (B.out.trans (hb.mono B.out.size))
  clear hb
  go_wp2_with fail
  go_ret
  exact ⟨⟨b, Q, rfl, H2.out, N.out⟩, B2.out⟩
theorem regs_eng (b : Nat) (w : World) :
    Calls Tryz.prog 48 #[ptr b] w fun e w' => e = .returned (.agg #[ptr b]) ∧ Below w.heap.size w w' := by
  go_enter Tryz.func48, Tryz.ntmps48
  go_wp2_with fail
  refine bodyPost_ret (v := .agg #[ptr b]) ?_ rfl ⟨rfl, ?_⟩
  · simp [results, Tryz.results48, go_sem]
  · go_grown
theorem beg_eng (w : World) :
    Calls Tryz.prog 47 #[] w fun e w' => NewObj w w' e (.eng Dma.zeroE) ∧ Below w.heap.size w w' := by
  go_enter Tryz.func47, Tryz.ntmps47
  go_wp2_with fail
  refine (Dma.New_any w).mono ?_
  rintro e w1 ⟨⟨b, Q, rfl, h, hn⟩, hb⟩
  have H := Lib.hid h
  have B := Lib.hid hb
  have N := Lib.hid hn
  clear h hb hn
  go_wp2_with fail
  refine (regs_eng b w1).mono ?_
  rintro e w2 ⟨rfl, hb⟩
  have H2 := Lib.hid (H.out.keep hb)
  have B2 := Lib.hid (B.out.trans (hb.mono B.out.size))
  clear hb
  go_wp2_with fail
  go_ret
  exact ⟨⟨b, Q, rfl, H2.out, N.out⟩, B2.out⟩
theorem ramOf_new (n : Nat) (w : World) (h : Ram.sizeM n = true) (ht : Lane.Tab w) :
    Calls Tryz.prog 34 #[.int .i64 n] w fun e w' => (∃ m Q, e = .returned (.agg #[ptr m]) ∧ Ram.Mem w' m (Ram.zerosB n) Q ∧ ∀ j, Q j → w.heap.size ≤ j) ∧ Below w.heap.size w w' := by
  have N := Lib.hid (fun w ht => Ram.New_yes n w h ht)
  have T := Lib.hid ht
  clear h ht
  go_enter Tryz.func34, Tryz.ntmps34
  go_wp2_with fail
  refine (N.out _ (T.out.below ((Below.refl _ _).alloc (Nat.le_refl _) _))).mono ?_
  rintro e w1 ⟨⟨b, Q, rfl, h, hn⟩, hb⟩
  have H := Lib.hid h
  have s0 : w.heap.size ≤ (w.alloc (.cells #[.pointer none] 80)).heap.size := by simp
  have B := Lib.hid (((Below.refl w.heap.size w).alloc (Nat.le_refl _) (.cells #[.pointer none] 80)).trans (hb.mono s0))
  have N2 := Lib.hid (show ∀ j, Q j → w.heap.size < j from fun j hj => by have := hn j hj; simp at this; omega)
  have K := Lib.hid ((Blk.new w 80 [.pointer none]).keep hb)
  have c0 := K.out.at 0 rfl
  have fz := K.out.frozen 0
  have TB := Lib.hid (Ram.tab_lt T.out)
  clear h hb hn N
  go_wp2_with fail
  have K2 := K.out.set 0 (.pointer (some ⟨b, 0, none⟩))
  have r0 := K2.at 0 rfl
  refine bodyPost_ret (v := .agg #[ptr b]) ?_ rfl ⟨⟨b, Q, rfl, H.out.only ((Only.refl (fun j => j = w.heap.size) w1).setCell rfl _) (fun j hj e => by have := N2.out j hj; omega) (fun e => by have := TB.out; omega), fun j hj => Nat.le_of_lt (N2.out j hj)⟩, ?_⟩
  · simp [results, Tryz.results34, go_sem, r0]
  · exact B.out.setCell (Nat.le_refl _) _
theorem beg_ram (k n : Nat) (w : World) (h : Ram.sizeM n = true) (ht : Lane.Tab w) (hk : Blk w k 3 [.int .i64 n]) :
    Calls Tryz.prog 33 #[ptr k] w fun e w' => NewObj w w' e (.ram (Ram.zerosB n)) ∧ Below w.heap.size w w' := by
  have c0 := hk.at 0 rfl
  have R := Lib.hid (ramOf_new n w h ht)
  clear h ht hk
  go_enter Tryz.func33, Tryz.ntmps33
  go_wp2_with fail
  refine R.out.mono ?_
  rintro e w1 ⟨⟨m, Q, rfl, h, hn⟩, hb⟩
  have H := Lib.hid h
  have N := Lib.hid hn
  have B := Lib.hid hb
  clear h hn hb
  go_wp2_with fail
  go_ret
  exact ⟨⟨m, Q, rfl, H.out, N.out⟩, B.out⟩
theorem zero_size {d : Dv} (h : OkD d) (bs : List Int) (e : d = .ram bs) : Ram.sizeM bs.length = true := by
  subst e
  have h : Ram.OkM bs := h
  exact decide_eq_true (by have := h.lo; have := h.hi; have := h.four; omega)
/-- A device's part, laid. -/
theorem laid_any (d : Dv) (m k : Nat) (w : World) :
    Calls Tryz.prog 21 #[partV d m, begV d k] w fun e w' => e = .returned (ptr w.heap.size) ∧ Blk w' w.heap.size 63 [partV d m, begV d k, ptr w.heap.size] ∧ Below w.heap.size w w' := by
  cases d
  all_goals
    simp only [partV, begV]
    go_enter Tryz.func21, Tryz.ntmps21
    go_wp2_with fail
    go_ret
    exact ⟨rfl, Blk.new _ _ _, (Below.refl _ _).alloc (Nat.le_refl _) _⟩
theorem New_no (k B S o l : Int) (w : World) (h1 : I64 k) (h2 : 0 ≤ B ∧ B < 4294967296) (h3 : I64 S) (h4 : I64 o) (h5 : I64 l) (h : Win.devV k B S o l = false) :
    Calls Tryz.prog 7 #[devA k B S o l] w fun e w' => e = .returned (.tuple #[.pointer none, .int .i64 2]) ∧ Below w.heap.size w w' := by
  have D := Lib.hid (fun w => Win.Device_any k B S o l false w h1.1 h1.2 h2.1 h2.2 h3.1 h3.2 h)
  clear h1 h2 h3 h4 h5 h
  go_enter Tryz.func7, Tryz.ntmps7
  go_wp2_with fail
  refine (D.out _).mono ?_
  rintro e w1 ⟨rfl, hb⟩
  have Hb := Lib.hid (((Below.refl w.heap.size w).alloc (Nat.le_refl _) _).trans (hb.mono (by simp)))
  clear hb
  go_wp2_with fail
  go_ret2
  exact ⟨rfl, Hb.out⟩
/-- A device that was laid. -/
theorem dev_made {Bk : Nat} {w w2 w3 w4 : World} {d : Dv} {m k : Nat} {Q X : Nat → Prop} (hL : Laid w Bk) (hB : Bk ≤ w.heap.size) (hb : Below w.heap.size w w2) (hx : BegAt w2 k d X) (h3 : Below w2.heap.size w2 w3) (hq : ObjAt w3 m d Q) (hn : ∀ j, Q j → w2.heap.size ≤ j)
    (h4 : Blk w4 w3.heap.size 63 [partV d m, begV d k, ptr w3.heap.size]) (hb4 : Below w3.heap.size w3 w4) : (∃ O, Dev Bk w4 w3.heap.size d O X ∧ ∀ j, O j → w.heap.size ≤ j) ∧ Below w.heap.size w w4 := by
  have s1 := hb.size
  have s2 := h3.size
  have lq := hq.lt
  have lx := hx.lt
  have B4 : Below w.heap.size w w4 := (hb.trans (h3.mono s1)).trans (hb4.mono (by omega))
  have hO : ∀ j, (j = w3.heap.size ∨ Q j) → w.heap.size ≤ j := fun j hj => hj.elim (fun e => by omega) (fun e => by have := hn j e; omega)
  refine ⟨⟨fun j => j = w3.heap.size ∨ Q j, ⟨m, k, Q, h4, hq.keep hb4, (hx.keep h3).keep hb4, fun j => Iff.rfl, fun e => by have := lq _ e; omega, fun j hj e => ?_, fun j hj => Nat.le_trans hB (hO j hj), hL.keep (B4.mono hB)⟩, hO⟩, B4⟩
  have := lx j hj
  rcases e with e | e
  · omega
  · have := hn j e; omega
set_option maxHeartbeats 1000000 in
theorem New_1 (Bk : Nat) (B : Int) (n : Nat) (o l : Int) (w : World) (h2 : 0 ≤ B ∧ B < 4294967296) (hL : Laid w Bk) (hB : Bk ≤ w.heap.size) (h : Win.devV 1 B (n : Nat) o l = true) :
    Calls Tryz.prog 7 #[devA 1 B (n : Nat) o l] w fun e w' => (∃ b O X, e = .returned (.tuple #[ptr b, .int .i64 0]) ∧ Dev Bk w' b (.ram (Ram.zerosB n)) O X ∧ (∀ j, O j → w.heap.size ≤ j) ∧ ∀ j, X j → w.heap.size ≤ j) ∧ Below w.heap.size w w' := by
  obtain ⟨_, p2, p3, _, _, p6⟩ := Win.dev_parts h
  have h3 : I64 (n : Nat) := by unfold I64; omega
  have D := Lib.hid (fun w => Win.Device_any 1 B (n : Nat) o l true w (by decide) (by decide) h2.1 h2.2 h3.1 h3.2 h)
  have HS := Lib.hid (show Ram.sizeM (n : Nat) = true from decide_eq_true (by omega))
  have HT := Lib.hid hL.1
  have HLd := Lib.hid hL
  have HB := Lib.hid hB
  clear h h3 h2 p2 p3 p6 hL hB
  go_enter Tryz.func7, Tryz.ntmps7
  go_wp2_with fail
  refine (D.out _).mono ?_
  rintro e w1 ⟨rfl, hb⟩
  have s0 : w.heap.size < w1.heap.size := by have := hb.size; simp at this; omega
  have K1 := Lib.hid ((Blk.new w 25 [.int .i64 1, .int .u32 B, .int .i64 (n : Nat), .int .i64 o, .int .i64 l]).keep hb)
  have Hb := Lib.hid (((Below.refl w.heap.size w).alloc (Nat.le_refl _) _).trans (hb.mono (by simp)))
  clear hb
  have c0 : ∀ w', Below w1.heap.size w1 w' → w'.cell? ⟨w.heap.size, 0, none⟩ = some (.int .i64 1) := fun w' h => (K1.out.keep h).at 0 rfl
  have c2 : ∀ w', Below w1.heap.size w1 w' → w'.cell? ⟨w.heap.size, 2, none⟩ = some (.int .i64 (n : Nat)) := fun w' h => (K1.out.keep h).at 2 rfl
  go_wp2_with fail
  go_region_held3 (fun w' => Below w1.heap.size w1 w')
    (first | assumption | exact (Below.refl _ _).drew | exact Below.refl _ _)
    (first | (go_at_call 20; refine (begins_any (n : Nat) _).mono ?_; rintro e w2 ⟨⟨g, k, rfl, hm, hk, hk1, hk2⟩, hb⟩; have hbS : Below w1.heap.size w1 w2 := Below.trans (by assumption) (Below.mono hb (Below.size (by assumption))); have lk := look1 hm keyKd Tryz.underlying47 (fun0 w2) 1 (keyd_mk 1 ⟨by decide, by decide⟩); rw [show (atR (begL k) 1).getD .nilFunc = .func (.func 33) #[] #[ptr k] from rfl] at lk; have Hk1 := Lib.hid (Nat.le_trans (Below.size (by assumption)) hk1)))
  have Hb2 := Lib.hid (Hb.out.trans (hbS.mono (Nat.le_of_lt s0)))
  have Hk := Lib.hid hk
  clear lk hm hk hk1 hk2 hb hbS c0 c2
  go_wp2_with fail
  refine (beg_ram k n _ HS.out (HT.out.below (Below.mono Hb2.out (Nat.le_refl _))) Hk.out).mono ?_
  rintro e w3 ⟨⟨m, Q, rfl, hq, hn⟩, hb⟩
  have H3 := Lib.hid hb
  have HQ := Lib.hid hq
  have HN := Lib.hid hn
  have LD := Lib.hid (laid_any (.ram (Ram.zerosB n)) m k w3)
  simp only [partV, begV] at LD
  clear hb hq hn
  simp only [partV]
  go_wp2_with fail
  refine LD.out.mono ?_
  rintro e w4 ⟨rfl, h4, hb4⟩
  have FIN := Lib.hid (dev_made (k := k) (d := .ram (Ram.zerosB n)) (X := fun j => j = k) HLd.out HB.out Hb2.out ⟨by rw [Ram.zeros_length]; exact Hk.out, fun j => Iff.rfl⟩ H3.out HQ.out HN.out h4 hb4)
  clear h4 hb4
  go_wp2_with fail
  go_ret2
  obtain ⟨⟨O, f1, f2⟩, f3⟩ := FIN.out
  exact ⟨⟨_, O, _, rfl, f1, f2, fun j e => by have : j = k := e; have := Hk1.out; omega⟩, f3⟩
set_option maxHeartbeats 1000000 in
theorem New_2 (Bk : Nat) (B S : Int) (o l : Int) (w : World) (h2 : 0 ≤ B ∧ B < 4294967296) (hL : Laid w Bk) (hB : Bk ≤ w.heap.size) (h : Win.devV 2 B S o l = true) :
    Calls Tryz.prog 7 #[devA 2 B S o l] w fun e w' => (∃ b O X, e = .returned (.tuple #[ptr b, .int .i64 0]) ∧ Dev Bk w' b (.tim Timer.zeroS) O X ∧ (∀ j, O j → w.heap.size ≤ j) ∧ ∀ j, X j → w.heap.size ≤ j) ∧ Below w.heap.size w w' := by
  obtain ⟨_, p2, p3, _, _, p6⟩ := Win.dev_parts h
  have h3 : I64 S := by unfold I64; omega
  have D := Lib.hid (fun w => Win.Device_any 2 B S o l true w (by decide) (by decide) h2.1 h2.2 h3.1 h3.2 h)
  have HT := Lib.hid hL.1
  have HLd := Lib.hid hL
  have HB := Lib.hid hB
  clear h h3 h2 p2 p3 p6 hL hB
  go_enter Tryz.func7, Tryz.ntmps7
  go_wp2_with fail
  refine (D.out _).mono ?_
  rintro e w1 ⟨rfl, hb⟩
  have s0 : w.heap.size < w1.heap.size := by have := hb.size; simp at this; omega
  have K1 := Lib.hid ((Blk.new w 25 [.int .i64 2, .int .u32 B, .int .i64 S, .int .i64 o, .int .i64 l]).keep hb)
  have Hb := Lib.hid (((Below.refl w.heap.size w).alloc (Nat.le_refl _) _).trans (hb.mono (by simp)))
  clear hb
  have c0 : ∀ w', Below w1.heap.size w1 w' → w'.cell? ⟨w.heap.size, 0, none⟩ = some (.int .i64 2) := fun w' h => (K1.out.keep h).at 0 rfl
  have c2 : ∀ w', Below w1.heap.size w1 w' → w'.cell? ⟨w.heap.size, 2, none⟩ = some (.int .i64 S) := fun w' h => (K1.out.keep h).at 2 rfl
  go_wp2_with fail
  go_region_held3 (fun w' => Below w1.heap.size w1 w')
    (first | assumption | exact (Below.refl _ _).drew | exact Below.refl _ _)
    (first | (go_at_call 20; refine (begins_any S _).mono ?_; rintro e w2 ⟨⟨g, k, rfl, hm, hk, hk1, hk2⟩, hb⟩; have hbS : Below w1.heap.size w1 w2 := Below.trans (by assumption) (Below.mono hb (Below.size (by assumption))); have lk := look1 hm keyKd Tryz.underlying47 (fun0 w2) 2 (keyd_mk 2 ⟨by decide, by decide⟩); rw [show (atR (begL k) 2).getD .nilFunc = .func (.func 35) #[] #[] from rfl] at lk; have Hk1 := Lib.hid (Nat.le_trans (Below.size (by assumption)) hk1)))
  have Hb2 := Lib.hid (Hb.out.trans (hbS.mono (Nat.le_of_lt s0)))
  have Hk := Lib.hid hk
  clear lk hm hk hk1 hk2 hb hbS c0 c2
  go_wp2_with fail
  refine (beg_tim _).mono ?_
  rintro e w3 ⟨⟨m, Q, rfl, hq, hn⟩, hb⟩
  have H3 := Lib.hid hb
  have HQ := Lib.hid hq
  have HN := Lib.hid hn
  have LD := Lib.hid (laid_any (.tim Timer.zeroS) m k w3)
  simp only [partV, begV] at LD
  clear hb hq hn
  simp only [partV]
  go_wp2_with fail
  refine LD.out.mono ?_
  rintro e w4 ⟨rfl, h4, hb4⟩
  have FIN := Lib.hid (dev_made (k := k) (d := .tim Timer.zeroS) (X := fun _ => False) HLd.out HB.out Hb2.out (fun j e => e) H3.out HQ.out HN.out h4 hb4)
  clear h4 hb4
  go_wp2_with fail
  go_ret2
  obtain ⟨⟨O, f1, f2⟩, f3⟩ := FIN.out
  exact ⟨⟨_, O, _, rfl, f1, f2, fun j e => e.elim⟩, f3⟩
set_option maxHeartbeats 1000000 in
theorem New_3 (Bk : Nat) (B S : Int) (o l : Int) (w : World) (h2 : 0 ≤ B ∧ B < 4294967296) (hL : Laid w Bk) (hB : Bk ≤ w.heap.size) (h : Win.devV 3 B S o l = true) :
    Calls Tryz.prog 7 #[devA 3 B S o l] w fun e w' => (∃ b O X, e = .returned (.tuple #[ptr b, .int .i64 0]) ∧ Dev Bk w' b (.uar Uart.zeroU) O X ∧ (∀ j, O j → w.heap.size ≤ j) ∧ ∀ j, X j → w.heap.size ≤ j) ∧ Below w.heap.size w w' := by
  obtain ⟨_, p2, p3, _, _, p6⟩ := Win.dev_parts h
  have h3 : I64 S := by unfold I64; omega
  have D := Lib.hid (fun w => Win.Device_any 3 B S o l true w (by decide) (by decide) h2.1 h2.2 h3.1 h3.2 h)
  have HT := Lib.hid hL.1
  have HLd := Lib.hid hL
  have HB := Lib.hid hB
  clear h h3 h2 p2 p3 p6 hL hB
  go_enter Tryz.func7, Tryz.ntmps7
  go_wp2_with fail
  refine (D.out _).mono ?_
  rintro e w1 ⟨rfl, hb⟩
  have s0 : w.heap.size < w1.heap.size := by have := hb.size; simp at this; omega
  have K1 := Lib.hid ((Blk.new w 25 [.int .i64 3, .int .u32 B, .int .i64 S, .int .i64 o, .int .i64 l]).keep hb)
  have Hb := Lib.hid (((Below.refl w.heap.size w).alloc (Nat.le_refl _) _).trans (hb.mono (by simp)))
  clear hb
  have c0 : ∀ w', Below w1.heap.size w1 w' → w'.cell? ⟨w.heap.size, 0, none⟩ = some (.int .i64 3) := fun w' h => (K1.out.keep h).at 0 rfl
  have c2 : ∀ w', Below w1.heap.size w1 w' → w'.cell? ⟨w.heap.size, 2, none⟩ = some (.int .i64 S) := fun w' h => (K1.out.keep h).at 2 rfl
  go_wp2_with fail
  go_region_held3 (fun w' => Below w1.heap.size w1 w')
    (first | assumption | exact (Below.refl _ _).drew | exact Below.refl _ _)
    (first | (go_at_call 20; refine (begins_any S _).mono ?_; rintro e w2 ⟨⟨g, k, rfl, hm, hk, hk1, hk2⟩, hb⟩; have hbS : Below w1.heap.size w1 w2 := Below.trans (by assumption) (Below.mono hb (Below.size (by assumption))); have lk := look1 hm keyKd Tryz.underlying47 (fun0 w2) 3 (keyd_mk 3 ⟨by decide, by decide⟩); rw [show (atR (begL k) 3).getD .nilFunc = .func (.func 38) #[] #[] from rfl] at lk; have Hk1 := Lib.hid (Nat.le_trans (Below.size (by assumption)) hk1)))
  have Hb2 := Lib.hid (Hb.out.trans (hbS.mono (Nat.le_of_lt s0)))
  have Hk := Lib.hid hk
  clear lk hm hk hk1 hk2 hb hbS c0 c2
  go_wp2_with fail
  refine (beg_uar _).mono ?_
  rintro e w3 ⟨⟨m, Q, rfl, hq, hn⟩, hb⟩
  have H3 := Lib.hid hb
  have HQ := Lib.hid hq
  have HN := Lib.hid hn
  have LD := Lib.hid (laid_any (.uar Uart.zeroU) m k w3)
  simp only [partV, begV] at LD
  clear hb hq hn
  simp only [partV]
  go_wp2_with fail
  refine LD.out.mono ?_
  rintro e w4 ⟨rfl, h4, hb4⟩
  have FIN := Lib.hid (dev_made (k := k) (d := .uar Uart.zeroU) (X := fun _ => False) HLd.out HB.out Hb2.out (fun j e => e) H3.out HQ.out HN.out h4 hb4)
  clear h4 hb4
  go_wp2_with fail
  go_ret2
  obtain ⟨⟨O, f1, f2⟩, f3⟩ := FIN.out
  exact ⟨⟨_, O, _, rfl, f1, f2, fun j e => e.elim⟩, f3⟩
set_option maxHeartbeats 1000000 in
theorem New_4 (Bk : Nat) (B S : Int) (o l : Int) (w : World) (h2 : 0 ≤ B ∧ B < 4294967296) (hL : Laid w Bk) (hB : Bk ≤ w.heap.size) (h : Win.devV 4 B S o l = true) :
    Calls Tryz.prog 7 #[devA 4 B S o l] w fun e w' => (∃ b O X, e = .returned (.tuple #[ptr b, .int .i64 0]) ∧ Dev Bk w' b (.box Mbox.zeroX) O X ∧ (∀ j, O j → w.heap.size ≤ j) ∧ ∀ j, X j → w.heap.size ≤ j) ∧ Below w.heap.size w w' := by
  obtain ⟨_, p2, p3, _, _, p6⟩ := Win.dev_parts h
  have h3 : I64 S := by unfold I64; omega
  have D := Lib.hid (fun w => Win.Device_any 4 B S o l true w (by decide) (by decide) h2.1 h2.2 h3.1 h3.2 h)
  have HT := Lib.hid hL.1
  have HLd := Lib.hid hL
  have HB := Lib.hid hB
  clear h h3 h2 p2 p3 p6 hL hB
  go_enter Tryz.func7, Tryz.ntmps7
  go_wp2_with fail
  refine (D.out _).mono ?_
  rintro e w1 ⟨rfl, hb⟩
  have s0 : w.heap.size < w1.heap.size := by have := hb.size; simp at this; omega
  have K1 := Lib.hid ((Blk.new w 25 [.int .i64 4, .int .u32 B, .int .i64 S, .int .i64 o, .int .i64 l]).keep hb)
  have Hb := Lib.hid (((Below.refl w.heap.size w).alloc (Nat.le_refl _) _).trans (hb.mono (by simp)))
  clear hb
  have c0 : ∀ w', Below w1.heap.size w1 w' → w'.cell? ⟨w.heap.size, 0, none⟩ = some (.int .i64 4) := fun w' h => (K1.out.keep h).at 0 rfl
  have c2 : ∀ w', Below w1.heap.size w1 w' → w'.cell? ⟨w.heap.size, 2, none⟩ = some (.int .i64 S) := fun w' h => (K1.out.keep h).at 2 rfl
  go_wp2_with fail
  go_region_held3 (fun w' => Below w1.heap.size w1 w')
    (first | assumption | exact (Below.refl _ _).drew | exact Below.refl _ _)
    (first | (go_at_call 20; refine (begins_any S _).mono ?_; rintro e w2 ⟨⟨g, k, rfl, hm, hk, hk1, hk2⟩, hb⟩; have hbS : Below w1.heap.size w1 w2 := Below.trans (by assumption) (Below.mono hb (Below.size (by assumption))); have lk := look1 hm keyKd Tryz.underlying47 (fun0 w2) 4 (keyd_mk 4 ⟨by decide, by decide⟩); rw [show (atR (begL k) 4).getD .nilFunc = .func (.func 41) #[] #[] from rfl] at lk; have Hk1 := Lib.hid (Nat.le_trans (Below.size (by assumption)) hk1)))
  have Hb2 := Lib.hid (Hb.out.trans (hbS.mono (Nat.le_of_lt s0)))
  have Hk := Lib.hid hk
  clear lk hm hk hk1 hk2 hb hbS c0 c2
  go_wp2_with fail
  refine (beg_box _).mono ?_
  rintro e w3 ⟨⟨m, Q, rfl, hq, hn⟩, hb⟩
  have H3 := Lib.hid hb
  have HQ := Lib.hid hq
  have HN := Lib.hid hn
  have LD := Lib.hid (laid_any (.box Mbox.zeroX) m k w3)
  simp only [partV, begV] at LD
  clear hb hq hn
  simp only [partV]
  go_wp2_with fail
  refine LD.out.mono ?_
  rintro e w4 ⟨rfl, h4, hb4⟩
  have FIN := Lib.hid (dev_made (k := k) (d := .box Mbox.zeroX) (X := fun _ => False) HLd.out HB.out Hb2.out (fun j e => e) H3.out HQ.out HN.out h4 hb4)
  clear h4 hb4
  go_wp2_with fail
  go_ret2
  obtain ⟨⟨O, f1, f2⟩, f3⟩ := FIN.out
  exact ⟨⟨_, O, _, rfl, f1, f2, fun j e => e.elim⟩, f3⟩
set_option maxHeartbeats 1000000 in
theorem New_5 (Bk : Nat) (B S : Int) (o l : Int) (w : World) (h2 : 0 ≤ B ∧ B < 4294967296) (hL : Laid w Bk) (hB : Bk ≤ w.heap.size) (h : Win.devV 5 B S o l = true) :
    Calls Tryz.prog 7 #[devA 5 B S o l] w fun e w' => (∃ b O X, e = .returned (.tuple #[ptr b, .int .i64 0]) ∧ Dev Bk w' b (.rot Rotor.zeroR) O X ∧ (∀ j, O j → w.heap.size ≤ j) ∧ ∀ j, X j → w.heap.size ≤ j) ∧ Below w.heap.size w w' := by
  obtain ⟨_, p2, p3, _, _, p6⟩ := Win.dev_parts h
  have h3 : I64 S := by unfold I64; omega
  have D := Lib.hid (fun w => Win.Device_any 5 B S o l true w (by decide) (by decide) h2.1 h2.2 h3.1 h3.2 h)
  have HT := Lib.hid hL.1
  have HLd := Lib.hid hL
  have HB := Lib.hid hB
  clear h h3 h2 p2 p3 p6 hL hB
  go_enter Tryz.func7, Tryz.ntmps7
  go_wp2_with fail
  refine (D.out _).mono ?_
  rintro e w1 ⟨rfl, hb⟩
  have s0 : w.heap.size < w1.heap.size := by have := hb.size; simp at this; omega
  have K1 := Lib.hid ((Blk.new w 25 [.int .i64 5, .int .u32 B, .int .i64 S, .int .i64 o, .int .i64 l]).keep hb)
  have Hb := Lib.hid (((Below.refl w.heap.size w).alloc (Nat.le_refl _) _).trans (hb.mono (by simp)))
  clear hb
  have c0 : ∀ w', Below w1.heap.size w1 w' → w'.cell? ⟨w.heap.size, 0, none⟩ = some (.int .i64 5) := fun w' h => (K1.out.keep h).at 0 rfl
  have c2 : ∀ w', Below w1.heap.size w1 w' → w'.cell? ⟨w.heap.size, 2, none⟩ = some (.int .i64 S) := fun w' h => (K1.out.keep h).at 2 rfl
  go_wp2_with fail
  go_region_held3 (fun w' => Below w1.heap.size w1 w')
    (first | assumption | exact (Below.refl _ _).drew | exact Below.refl _ _)
    (first | (go_at_call 20; refine (begins_any S _).mono ?_; rintro e w2 ⟨⟨g, k, rfl, hm, hk, hk1, hk2⟩, hb⟩; have hbS : Below w1.heap.size w1 w2 := Below.trans (by assumption) (Below.mono hb (Below.size (by assumption))); have lk := look1 hm keyKd Tryz.underlying47 (fun0 w2) 5 (keyd_mk 5 ⟨by decide, by decide⟩); rw [show (atR (begL k) 5).getD .nilFunc = .func (.func 44) #[] #[] from rfl] at lk; have Hk1 := Lib.hid (Nat.le_trans (Below.size (by assumption)) hk1)))
  have Hb2 := Lib.hid (Hb.out.trans (hbS.mono (Nat.le_of_lt s0)))
  have Hk := Lib.hid hk
  clear lk hm hk hk1 hk2 hb hbS c0 c2
  go_wp2_with fail
  refine (beg_rot _).mono ?_
  rintro e w3 ⟨⟨m, Q, rfl, hq, hn⟩, hb⟩
  have H3 := Lib.hid hb
  have HQ := Lib.hid hq
  have HN := Lib.hid hn
  have LD := Lib.hid (laid_any (.rot Rotor.zeroR) m k w3)
  simp only [partV, begV] at LD
  clear hb hq hn
  simp only [partV]
  go_wp2_with fail
  refine LD.out.mono ?_
  rintro e w4 ⟨rfl, h4, hb4⟩
  have FIN := Lib.hid (dev_made (k := k) (d := .rot Rotor.zeroR) (X := fun _ => False) HLd.out HB.out Hb2.out (fun j e => e) H3.out HQ.out HN.out h4 hb4)
  clear h4 hb4
  go_wp2_with fail
  go_ret2
  obtain ⟨⟨O, f1, f2⟩, f3⟩ := FIN.out
  exact ⟨⟨_, O, _, rfl, f1, f2, fun j e => e.elim⟩, f3⟩
set_option maxHeartbeats 1000000 in
theorem New_6 (Bk : Nat) (B S : Int) (o l : Int) (w : World) (h2 : 0 ≤ B ∧ B < 4294967296) (hL : Laid w Bk) (hB : Bk ≤ w.heap.size) (h : Win.devV 6 B S o l = true) :
    Calls Tryz.prog 7 #[devA 6 B S o l] w fun e w' => (∃ b O X, e = .returned (.tuple #[ptr b, .int .i64 0]) ∧ Dev Bk w' b (.eng Dma.zeroE) O X ∧ (∀ j, O j → w.heap.size ≤ j) ∧ ∀ j, X j → w.heap.size ≤ j) ∧ Below w.heap.size w w' := by
  obtain ⟨_, p2, p3, _, _, p6⟩ := Win.dev_parts h
  have h3 : I64 S := by unfold I64; omega
  have D := Lib.hid (fun w => Win.Device_any 6 B S o l true w (by decide) (by decide) h2.1 h2.2 h3.1 h3.2 h)
  have HT := Lib.hid hL.1
  have HLd := Lib.hid hL
  have HB := Lib.hid hB
  clear h h3 h2 p2 p3 p6 hL hB
  go_enter Tryz.func7, Tryz.ntmps7
  go_wp2_with fail
  refine (D.out _).mono ?_
  rintro e w1 ⟨rfl, hb⟩
  have s0 : w.heap.size < w1.heap.size := by have := hb.size; simp at this; omega
  have K1 := Lib.hid ((Blk.new w 25 [.int .i64 6, .int .u32 B, .int .i64 S, .int .i64 o, .int .i64 l]).keep hb)
  have Hb := Lib.hid (((Below.refl w.heap.size w).alloc (Nat.le_refl _) _).trans (hb.mono (by simp)))
  clear hb
  have c0 : ∀ w', Below w1.heap.size w1 w' → w'.cell? ⟨w.heap.size, 0, none⟩ = some (.int .i64 6) := fun w' h => (K1.out.keep h).at 0 rfl
  have c2 : ∀ w', Below w1.heap.size w1 w' → w'.cell? ⟨w.heap.size, 2, none⟩ = some (.int .i64 S) := fun w' h => (K1.out.keep h).at 2 rfl
  go_wp2_with fail
  go_region_held3 (fun w' => Below w1.heap.size w1 w')
    (first | assumption | exact (Below.refl _ _).drew | exact Below.refl _ _)
    (first | (go_at_call 20; refine (begins_any S _).mono ?_; rintro e w2 ⟨⟨g, k, rfl, hm, hk, hk1, hk2⟩, hb⟩; have hbS : Below w1.heap.size w1 w2 := Below.trans (by assumption) (Below.mono hb (Below.size (by assumption))); have lk := look1 hm keyKd Tryz.underlying47 (fun0 w2) 6 (keyd_mk 6 ⟨by decide, by decide⟩); rw [show (atR (begL k) 6).getD .nilFunc = .func (.func 47) #[] #[] from rfl] at lk; have Hk1 := Lib.hid (Nat.le_trans (Below.size (by assumption)) hk1)))
  have Hb2 := Lib.hid (Hb.out.trans (hbS.mono (Nat.le_of_lt s0)))
  have Hk := Lib.hid hk
  clear lk hm hk hk1 hk2 hb hbS c0 c2
  go_wp2_with fail
  refine (beg_eng _).mono ?_
  rintro e w3 ⟨⟨m, Q, rfl, hq, hn⟩, hb⟩
  have H3 := Lib.hid hb
  have HQ := Lib.hid hq
  have HN := Lib.hid hn
  have LD := Lib.hid (laid_any (.eng Dma.zeroE) m k w3)
  simp only [partV, begV] at LD
  clear hb hq hn
  simp only [partV]
  go_wp2_with fail
  refine LD.out.mono ?_
  rintro e w4 ⟨rfl, h4, hb4⟩
  have FIN := Lib.hid (dev_made (k := k) (d := .eng Dma.zeroE) (X := fun _ => False) HLd.out HB.out Hb2.out (fun j e => e) H3.out HQ.out HN.out h4 hb4)
  clear h4 hb4
  go_wp2_with fail
  go_ret2
  obtain ⟨⟨O, f1, f2⟩, f3⟩ := FIN.out
  exact ⟨⟨_, O, _, rfl, f1, f2, fun j e => e.elim⟩, f3⟩
theorem New_yes (Bk : Nat) (k B S o l : Int) (w : World) (h2 : 0 ≤ B ∧ B < 4294967296) (hL : Laid w Bk) (hB : Bk ≤ w.heap.size) (h : Win.devV k B S o l = true) :
    Calls Tryz.prog 7 #[devA k B S o l] w fun e w' => (∃ b O X, e = .returned (.tuple #[.pointer (some ⟨b, 0, none⟩), .int .i64 0]) ∧ Dev Bk w' b (newD k S) O X ∧ (∀ j, O j → w.heap.size ≤ j) ∧ ∀ j, X j → w.heap.size ≤ j) ∧ Below w.heap.size w w' := by
  obtain ⟨p1, p2, _⟩ := Win.dev_parts h
  have : k = 1 ∨ k = 2 ∨ k = 3 ∨ k = 4 ∨ k = 5 ∨ k = 6 := by omega
  rcases this with rfl | rfl | rfl | rfl | rfl | rfl
  · obtain ⟨n, rfl⟩ : ∃ n : Nat, S = n := ⟨S.toNat, by omega⟩
    exact New_1 Bk B n o l w h2 hL hB h
  · exact New_2 Bk B S o l w h2 hL hB h
  · exact New_3 Bk B S o l w h2 hL hB h
  · exact New_4 Bk B S o l w h2 hL hB h
  · exact New_5 Bk B S o l w h2 hL hB h
  · exact New_6 Bk B S o l w h2 hL hB h
end Go.Proofs.YtknhgfofmkpnfaaGreat.Devs
