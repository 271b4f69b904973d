/- What is told of no row: none. -/
import Derived.Test.YtekmenojaojeiaaFmI
import Derived.Test.YtekmenojaojeiaaGf
import Derived.Test.YtekmenojaojeiaaExt
namespace Go.Proofs.Ytekmenojaojeiaa.Fifo5
open Go.RowKit Go.Maps Go.Shelf Fifo FI
set_option linter.unusedVariables false
attribute [local go_sem] Oper.semAt_some

/-- What none has in memory: its answer, a row that no call made, the list of both. -/
structure NB (w : World) (c : Nat) (W : World) : Prop where
  l : Blk W (c + 1 + 1) 24 [.pointer none, .pointer (some ⟨c + 1, 0, none⟩)]
  r : Blk W c 4 [.bool false]
  z : Ring (.pointer none) W (c + 1) 0 [] (.slice none 0 0) 0 []
  b : Below w.heap.size w W
  b0 : w.heap.size = c
theorem NB.keep {w W W' : World} {c : Nat} (h : NB w c W) (hb : Below W.heap.size W W') : NB w c W' :=
  ⟨h.l.keep hb, h.r.keep hb, h.z.keep hb, h.b.trans (hb.mono h.b.size), h.b0⟩
theorem NB.book {w W W' : World} {c B : Nat} (h : NB w c W) (hk : Book B W W') (hB : w.heap.size ≤ B) : NB w c W' :=
  ⟨h.l.book hk, h.r.book hk, h.z.book hk, hk.below h.b hB, h.b0⟩
theorem NB.non0 {w W : World} {c : Nat} (h : NB w c W) : Non W (.pointer none) := .inl rfl
theorem NB.non1 {w W : World} {c : Nat} (h : NB w c W) : Non W (.pointer (some ⟨c + 1, 0, none⟩)) := .inr ⟨c + 1, rfl, h.z⟩
/-- A block for deferred calls lies as it lay. -/
theorem def_keep {W W' : World} {j : Nat} {o : Obj} (h : W.heap[j]? = some o) (hb : Below W.heap.size W W') : W'.heap[j]? = some o :=
  (hb.block j (Array.getElem?_eq_some_iff.1 h).1).trans h

set_option maxRecDepth 100000 in
set_option maxHeartbeats 4000000 in
theorem none_any (w : World) : Calls Try.prog 22 #[] w fun e w' => e = .returned (.bool true) ∧ Below w.heap.size w w' := by
  refine (callsIn_wide (n := 4)).1 ?_
  refine callsIn_of_wp_marks Try.func22 rfl trivial ?_ rfl
  simp only [Try.ntmps22, List.size_toArray, List.length_nil, Nat.reduceSub, Array.replicate_succ, Array.replicate_zero, List.push_toArray, List.append_toArray, List.nil_append, List.cons_append]
  refine wpIn_wide.2 ?_
  have hz := zero_ring (w.alloc (.cells #[.bool false] 4))
  have hr := (Blk.new w 4 [.bool false])
  have HL := Lib.hid (((Below.refl w.heap.size w).alloc (Nat.le_refl _) (.cells #[.bool false] 4)).alloc (by simp) (.cells #[.int .i64 0, .slice none 0 0, .int .i64 0, .int .i64 0, .pointer none] 59))
  have hl := Blk.new ((w.alloc (.cells #[.bool false] 4)).alloc (.cells #[.int .i64 0, .slice none 0 0, .int .i64 0, .int .i64 0, .pointer none] 59)) 24 [.pointer none, .pointer (some ⟨w.heap.size + 1, 0, none⟩)]
  have hz1 := hz.keep ((Below.refl _ _).alloc (Nat.le_refl _) (.cells #[.pointer none, .pointer (some ⟨w.heap.size + 1, 0, none⟩)] 24))
  have hr1 := (hr.alloc (.cells #[.int .i64 0, .slice none 0 0, .int .i64 0, .int .i64 0, .pointer none] 59)).alloc (.cells #[.pointer none, .pointer (some ⟨w.heap.size + 1, 0, none⟩)] 24)
  have HL1 := Lib.hid (HL.out.alloc (by simp; omega) (.cells #[.pointer none, .pointer (some ⟨w.heap.size + 1, 0, none⟩)] 24))
  simp only [World.size_alloc] at hz1 hl
  have Hz := Lib.hid hz1
  have Hr := Lib.hid hr1
  have Hl := Lib.hid hl
  clear hz hr hl hz1 hr1 HL
  go_wp2_with fail
  refine code_letter ?_
  intro W hW
  rw [← hW.out] at Hz Hr Hl HL1
  obtain ⟨c, hc⟩ : ∃ c, w.heap.size = c := ⟨_, rfl⟩
  rw [hc] at Hz Hr Hl ⊢
  have Hc := Lib.hid hc
  clear hW hc
  have HN := Lib.hid (NB.mk Hl.out Hr.out Hz.out HL1.out Hc.out)
  clear Hl Hr Hz HL1 Hc
  refine wp_loop_rounds 3 ?_
  rw [rounds_succ]
  have q := HN.out.l.at 0 rfl
  go_wp2_with fail
  refine (Take_non _ _ HN.out.non0).mono ?_
  rintro e W1 ⟨rfl, hb⟩
  have HN1 := Lib.hid (HN.out.keep hb)
  clear hb q HN
  have q := HN1.out.l.at 0 rfl
  go_wp2_with fail
  refine (First_non _ _ HN1.out.non0).mono ?_
  rintro e W2 ⟨rfl, hb⟩
  have HN2 := Lib.hid (HN1.out.keep hb)
  clear hb q HN1
  have q := HN2.out.l.at 0 rfl
  go_wp2_with fail
  refine (All_non _ _ HN2.out.non0).mono ?_
  rintro e W3 ⟨box, rfl, hb, hseq⟩
  have HN3 := Lib.hid (HN2.out.keep hb)
  have Hseq := Lib.hid hseq
  clear hb q HN2 hseq
  go_wp2_with fail
  refine (wpIn_wide (n := 4)).1 ?_
  refine range_law rfl (by omega) (gf := 47) (bound := #[]) (lb := #[.pointer (some ⟨box, 0, none⟩)]) rfl trivial (enters_of Try.func47 (by kernel_rfl) rfl)
    (Hseq.out 3 W3 (by omega) (Below.refl _ _)) (fun _ => rfl) (fun _ h => h.elim)
    (fun k T X => (T = fun _ => False) ∧ NB w c X) (fun _ _ _ _ => False) (fun _ => False) (fun _ h => h.elim) (fun _ h => h.elim)
    (fun k T W W' h hk => ⟨h.1, h.2.book hk HN3.out.b.size⟩)
    (fun _ _ _ _ _ h _ => h) (fun k T W j h hj => by rw [h.1] at hj; exact hj.elim) ⟨rfl, HN3.out⟩ ?round0 ?done0 ?stop0
  case round0 =>
    intro lp k T W0 hk
    omega
  case stop0 =>
    intro c k T W _ h
    exact h.elim
  rintro T V0 ⟨_, hn⟩ hD
  have HN4 := Lib.hid hn
  have HD0 := Lib.hid hD
  obtain ⟨D0, hD0⟩ : ∃ D, W3.heap.size = D := ⟨_, rfl⟩
  rw [hD0] at HD0
  have hle0 : w.heap.size ≤ D0 := by have := HN3.out.b.size; omega
  clear hn hD HN3 Hseq
  have q := HN4.out.l.at 0 rfl
  go_wp2_with fail
  refine wp_region_ext (by kernel_rfl) (by kernel_rfl) ?_
  intro U hU
  obtain rfl := hU.out
  have x0 := ext_cell q
  repeat (go_big_quiet_step ((first
    | (go_at_call 10; exact ext_of (Put_non _ _ _ (HN4.out.keep (ext_below _ _)).non0))
    | (go_at_call 23; exact ext_of (Len_non _ _ (HN4.out.keep (ext_below _ _)).non0))
    | (go_at_call 24; exact ext_of (Left_non _ _ (HN4.out.keep (ext_below _ _)).non0))
    | (go_at_call 14; exact ext_of (Clear_non _ _ (HN4.out.keep (ext_below _ _)).non0))
    | (go_at_call 15; exact ext_of (Copy_non _ _ (HN4.out.keep (ext_below _ _)).non0)))))
  refine wpQuiet_nil ?_
  intro w' hw'
  obtain ⟨p, rfl⟩ := hw'
  refine exit_letter ?_
  intro Y0 hY
  have hbY : Below U.heap.size U Y0 := by rw [hY.out]; exact ext_below _ _
  have HN := Lib.hid (HN4.out.keep hbY)
  have HE0 := Lib.hid (def_keep HD0.out hbY)
  clear hbY hY HN4 q x0 HD0
  go_wp2_with fail
  rw [rounds_succ]
  have q := HN.out.l.at 1 rfl
  go_wp2_with fail
  refine (Take_non _ _ HN.out.non1).mono ?_
  rintro e W1 ⟨rfl, hb⟩
  have HN1 := Lib.hid (HN.out.keep hb)
  have HE1 := Lib.hid (def_keep HE0.out hb)
  clear hb q HN
  have q := HN1.out.l.at 1 rfl
  go_wp2_with fail
  refine (First_non _ _ HN1.out.non1).mono ?_
  rintro e W2 ⟨rfl, hb⟩
  have HN2 := Lib.hid (HN1.out.keep hb)
  have HE2 := Lib.hid (def_keep HE1.out hb)
  clear hb q HN1
  have q := HN2.out.l.at 1 rfl
  go_wp2_with fail
  refine (All_non _ _ HN2.out.non1).mono ?_
  rintro e W3 ⟨box, rfl, hb, hseq⟩
  have HN3 := Lib.hid (HN2.out.keep hb)
  have Hseq := Lib.hid hseq
  have HE3 := Lib.hid (def_keep HE2.out hb)
  clear hb q HN2 hseq
  go_wp2_with fail
  refine (wpIn_wide (n := 4)).1 ?_
  refine range_law rfl (by omega) (gf := 47) (bound := #[]) (lb := #[.pointer (some ⟨box, 0, none⟩)]) rfl trivial (enters_of Try.func47 (by kernel_rfl) rfl)
    (Hseq.out 3 W3 (by omega) (Below.refl _ _)) (fun _ => rfl) (fun _ h => h.elim)
    (fun k T X => (T = fun _ => False) ∧ NB w c X ∧ X.heap[D0]? = some (.deferred (some []))) (fun _ _ _ _ => False) (fun _ => False) (fun _ h => h.elim) (fun _ h => h.elim)
    (fun k T W W' h hk => ⟨h.1, h.2.1.book hk HN3.out.b.size, (hk.low D0 (Array.getElem?_eq_some_iff.1 HE3.out).1).trans h.2.2⟩)
    (fun _ _ _ _ _ h _ => h) (fun k T W j h hj => by rw [h.1] at hj; exact hj.elim) ⟨rfl, HN3.out, HE3.out⟩ ?round1 ?done1 ?stop1
  case round1 =>
    intro lp k T W0 hk
    omega
  case stop1 =>
    intro c k T W _ h
    exact h.elim
  rintro T V1 ⟨_, hn, he⟩ hD
  have HN4 := Lib.hid hn
  have HD1 := Lib.hid hD
  obtain ⟨D1, hD1⟩ : ∃ D, W3.heap.size = D := ⟨_, rfl⟩
  rw [hD1] at HD1
  have hle1 : w.heap.size ≤ D1 := by have := HN3.out.b.size; omega
  have HE4 := Lib.hid he
  have hlt01 : D0 < D1 := by have := (Array.getElem?_eq_some_iff.1 HE3.out).1; omega
  clear hn hD HN3 Hseq
  have q := HN4.out.l.at 1 rfl
  go_wp2_with fail
  refine wp_region_ext (by kernel_rfl) (by kernel_rfl) ?_
  intro U hU
  obtain rfl := hU.out
  have x0 := ext_cell q
  repeat (go_big_quiet_step ((first
    | (go_at_call 10; exact ext_of (Put_non _ _ _ (HN4.out.keep (ext_below _ _)).non1))
    | (go_at_call 23; exact ext_of (Len_non _ _ (HN4.out.keep (ext_below _ _)).non1))
    | (go_at_call 24; exact ext_of (Left_non _ _ (HN4.out.keep (ext_below _ _)).non1))
    | (go_at_call 14; exact ext_of (Clear_non _ _ (HN4.out.keep (ext_below _ _)).non1))
    | (go_at_call 15; exact ext_of (Copy_non _ _ (HN4.out.keep (ext_below _ _)).non1)))))
  refine wpQuiet_nil ?_
  intro w' hw'
  obtain ⟨p, rfl⟩ := hw'
  refine exit_letter ?_
  intro Y1 hY
  have hbY : Below U.heap.size U Y1 := by rw [hY.out]; exact ext_below _ _
  have HN := Lib.hid (HN4.out.keep hbY)
  have HEF := Lib.hid (def_keep HD1.out hbY)
  have HE5 := Lib.hid (def_keep HE4.out hbY)
  clear hbY hY HN4 q x0 HD1
  go_wp2_with fail
  rw [rounds_succ]
  have r0 := HN.out.r.at 0 rfl
  have u0 := HN.out.r.frozen 0
  go_wp2_with fail
  have hc0 := HN.out.r.lt
  have hcell := HN.out.r
  have hne : ∀ D, Y1.heap[D]? = some (.deferred (some [])) → D ≠ c := fun D h e => by
    subst e
    unfold Blk at hcell
    rw [hcell] at h
    cases h
  have g1 : (Y1.setCell ⟨c, 0, none⟩ (.bool true)).heap[D1]? = some (.deferred (some [])) := (Below.heap_setCell _ ⟨c, 0, none⟩ _ _ (hne D1 HEF.out)).trans HEF.out
  have g0 : (Y1.setCell ⟨c, 0, none⟩ (.bool true)).heap[D0]? = some (.deferred (some [])) := (Below.heap_setCell _ ⟨c, 0, none⟩ _ _ (hne D0 HE5.out)).trans HE5.out
  have B0 : Below w.heap.size w (Y1.setCell ⟨c, 0, none⟩ (.bool true)) := HN.out.b.setCell (p := ⟨c, 0, none⟩) (by have := HN.out.b0; show w.heap.size ≤ c; omega) _
  have R0 : Blk (Y1.setCell ⟨c, 0, none⟩ (.bool true)) c 4 [.bool true] := hcell.set 0 _
  have k1 : Book w.heap.size _ _ := Book.put (o' := .deferred none) hle1 g1 rfl
  have g00 : ((Y1.setCell ⟨c, 0, none⟩ (.bool true)).putObj D1 (.deferred none)).heap[D0]? = some (.deferred (some [])) := (World.putObj_heap_other (by omega)).trans g0
  have k0 : Book w.heap.size _ _ := Book.put (o' := .deferred none) hle0 g00 rfl
  have c5 := ((R0.book k1).book k0).at 0 rfl
  refine ⟨by simp, .inl ⟨_, _, rfl, run_takeDeferred g1, ?_⟩⟩
  refine ⟨by simp, .inl ⟨_, _, rfl, run_takeDeferred g00, ?_⟩⟩
  refine ⟨.bool true, ?_, rfl, k0.below (k1.below B0 (Nat.le_refl _)) (Nat.le_refl _)⟩
  simp [results, Try.f22, go_sem, c5]
end Go.Proofs.Ytekmenojaojeiaa.Fifo5
