/- Package timer: words made and told; Of, New; the two maps of method values. -/
import Derived.Test.YthfckoemldhoaaaNy
import Derived.Test.YthfckoemldhoaaaZa
import Derived.BigRegion
import Derived.Deep.RegionWith
namespace Go.Proofs.Ythfckoemldhoaaa.Timer
open Go.RowKit Go.Maps Go.ChangeShapes Go.WideShapes Go.ChangeAt Fifo Orow Word Fmap
set_option linter.unusedVariables false

set_option maxHeartbeats 1000000 in
theorem state_any (b : Nat) (s : St) (x : Value) (w : World) (h : TW w b s x) :
    Calls Try.prog 25 #[.pointer (some ⟨b, 0, none⟩)] w fun e w' => e = .returned (stv s) ∧ Below w.heap.size w w' := by
  have H := Lib.hid h
  have hlt := h.blk.lt
  clear h
  go_enter Try.func25, Try.ntmps25
  go_wp2_with fail
  refine code_letter ?_
  intro W hW
  have B := Lib.hid (show Below w.heap.size w W by rw [hW.out]; exact (Below.refl _ _).alloc (Nat.le_refl _) _)
  have T := Lib.hid (H.out.keep B.out)
  have Z := Lib.hid (show Blk W w.heap.size 24 [.int .u32 0, .int .u32 0, .int .u32 0, .int .u32 0] by rw [hW.out]; exact Blk.new w _ _)
  clear hW
  have c0 := T.out.c0
  have c1 := T.out.c1
  have c2 := T.out.c2
  have c3 := T.out.c3
  have z0 := Z.out.at 0 rfl
  have z1 := Z.out.at 1 rfl
  have z2 := Z.out.at 2 rfl
  have z3 := Z.out.at 3 rfl
  have f0 := Z.out.frozen 0
  have f1 := Z.out.frozen 1
  have f2 := Z.out.frozen 2
  have f3 := Z.out.frozen 3
  obtain ⟨g, hg⟩ : ∃ g, w.heap.size = g := ⟨_, rfl⟩
  rw [hg] at B Z hlt z0 z1 z2 z3 f0 f1 f2 f3
  rw [hg]
  go_region
  refine exit_letter ?_
  intro X hX
  have R := Lib.hid (show Blk X g 24 [.int .u32 s.C, .int .u32 s.L, .int .u32 s.K, .int .u32 s.H] by rw [hX.out]; exact ((((Z.out.set 0 _).set 1 _).set 2 _).set 3 _))
  have BX := Lib.hid (show Below g w X by
    rw [hX.out]
    exact (((((B.out.setCell (Nat.le_refl _) _).setCell (Nat.le_refl _) _).setCell (Nat.le_refl _) _).setCell (Nat.le_refl _) _).drew))
  clear hX c0 c1 c2 c3 z0 z1 z2 z3 f0 f1 f2 f3
  have r0 := R.out.at 0 rfl
  have r1 := R.out.at 1 rfl
  have r2 := R.out.at 2 rfl
  have r3 := R.out.at 3 rfl
  go_wp2_with fail
  refine bodyPost_ret (v := stv s) ?_ rfl ⟨rfl, by rw [hg]; exact BX.out⟩
  simp [results, Try.results25, go_sem, stv, r0, r1, r2, r3]
theorem wordsOf_any (s : St) (w : World) (h : OkS s) :
    Calls Try.prog 19 #[stv s] w fun e w' => e = .returned (.agg #[.int .u32 s.C, .int .u32 s.L, .int .u32 s.H, .int .u32 (s.K % 8)]) ∧ Below w.heap.size w w' := by
  have G := Lib.hid (fun w => controlOf_any s.K w h.k)
  clear h
  obtain ⟨m, hm⟩ : ∃ m, s.K % 8 = m := ⟨_, rfl⟩
  rw [hm] at G
  rw [hm]
  clear hm
  go_enter Try.func19, Try.ntmps19
  go_wp2_with fail
  refine code_letter ?_
  intro W hW
  have B := Lib.hid (show Below w.heap.size w W by rw [hW.out]; exact ((Below.refl _ _).alloc (Nat.le_refl _) _).alloc (by simp) _)
  have S := Lib.hid (show Blk W w.heap.size 24 [.int .u32 s.C, .int .u32 s.L, .int .u32 s.K, .int .u32 s.H] by rw [hW.out]; exact (Blk.new w _ _).alloc _)
  have Z := Lib.hid (show Blk W (w.heap.size + 1) 43 [.int .u32 0, .int .u32 0, .int .u32 0, .int .u32 0] by
    rw [hW.out]
    have e : ∀ X : World, X.heap.size = w.heap.size + 1 → Blk (X.alloc (.cells #[.int .u32 0, .int .u32 0, .int .u32 0, .int .u32 0] 43)) (w.heap.size + 1) 43 [.int .u32 0, .int .u32 0, .int .u32 0, .int .u32 0] := fun X h => by rw [← h]; exact Blk.new X _ _
    exact e _ (by simp))
  clear hW
  obtain ⟨g, hg⟩ : ∃ g, w.heap.size = g := ⟨_, rfl⟩
  rw [hg] at B Z S
  rw [hg]
  have L : ∀ k v, ([.int .u32 s.C, .int .u32 s.L, .int .u32 s.K, .int .u32 s.H] : List Value)[k]? = some v → ∀ w', Blk w' g 24 [.int .u32 s.C, .int .u32 s.L, .int .u32 s.K, .int .u32 s.H] → w'.cell? ⟨g, k, none⟩ = some v := fun k v hv w' h => h.at k hv
  have c0 := L 0 _ rfl
  have c1 := L 1 _ rfl
  have c2 := L 2 _ rfl
  have c3 := L 3 _ rfl
  clear L
  have z0 := Z.out.at 0 rfl
  have z1 := Z.out.at 1 rfl
  have z2 := Z.out.at 2 rfl
  have z3 := Z.out.at 3 rfl
  have f0 := Z.out.frozen 0
  have f1 := Z.out.frozen 1
  have f2 := Z.out.frozen 2
  have f3 := Z.out.frozen 3
  have ZZ := Z.out
  clear z0 z1 z2 z3 f0 f1 f2 f3
  refine wp_region_held_drew (S := fun w' => Blk w' g 24 [.int .u32 s.C, .int .u32 s.L, .int .u32 s.K, .int .u32 s.H]) (by kernel_rfl) S.out (fun hHeld => ?_)
  refine wpAnyH_take (i := 0) (v := ?_) rfl (by kernel_rfl) (by kernel_rfl) (by kernel_rfl) (fun _ _ _ h => h) (Or.inl ⟨by rfl, ?_⟩) (by assumption) ?_
  rotate_left
  · (intro w hSw; (try dsimp only at hSw); go_simp; try (with_reducible rfl))
  try simp only [Act.put]
  refine wpAnyH_take (i := 1) (v := ?_) rfl (by kernel_rfl) (by kernel_rfl) (by kernel_rfl) (fun _ _ _ h => h) (Or.inl ⟨by rfl, ?_⟩) (by assumption) ?_
  rotate_left
  · (intro w hSw; (try dsimp only at hSw); go_simp; try (with_reducible rfl))
  try simp only [Act.put]
  refine wpAnyH_take (i := 2) (v := ?_) rfl (by kernel_rfl) (by kernel_rfl) (by kernel_rfl) (fun _ _ _ h => h) (Or.inl ⟨by rfl, ?_⟩) (by assumption) ?_
  rotate_left
  · (intro w hSw; (try dsimp only at hSw); go_simp; try (with_reducible rfl))
  try simp only [Act.put]
  refine wpAnyH_take (i := 3) (v := ?_) rfl (by kernel_rfl) (by kernel_rfl) (by kernel_rfl) (fun _ _ _ h => h) (Or.inl ⟨by rfl, ?_⟩) (by assumption) ?_
  rotate_left
  · (intro w hSw; (try dsimp only at hSw); go_simp; try (with_reducible rfl))
  try simp only [Act.put]
  refine wpAnyH_take (i := 4) (v := ?_) rfl (by kernel_rfl) (by kernel_rfl) (by kernel_rfl) (fun _ _ _ h => h) (Or.inl ⟨by rfl, ?_⟩) (by assumption) ?_
  rotate_left
  · (intro w hSw; (try dsimp only at hSw); go_simp; try (with_reducible rfl))
  try simp only [Act.put]
  refine wpAnyH_take (i := 5) (v := ?_) rfl (by kernel_rfl) (by kernel_rfl) (by kernel_rfl) (fun _ _ _ h => h) (Or.inl ⟨by rfl, ?_⟩) (by assumption) ?_
  rotate_left
  · (intro w hSw; (try dsimp only at hSw); go_simp; try (with_reducible rfl))
  try simp only [Act.put]
  refine wpAnyH_take (i := 6) (v := ?_) rfl (by kernel_rfl) (by kernel_rfl) (by kernel_rfl) (fun _ _ _ h => h) (Or.inl ⟨by rfl, ?_⟩) (by assumption) ?_
  rotate_left
  · (intro w hSw; (try dsimp only at hSw); go_simp; try (with_reducible rfl))
  try simp only [Act.put]
  refine wpAnyH_take (i := 7) (v := ?_) rfl (by kernel_rfl) (by kernel_rfl) (by kernel_rfl) (fun _ _ _ h => h) (Or.inl ⟨by rfl, ?_⟩) (by assumption) ?_
  rotate_left
  · (intro w hSw; (try dsimp only at hSw); go_simp; try (with_reducible rfl))
  try simp only [Act.put]
  refine wpAnyH_ready (rs := [8]) (by kernel_rfl) (by simp) ?_
  refine AllReadyH.cons rfl (fun K0 hK => ?_) AllReadyH.nil
  go_simp
  refine (G.out _).mono ?_
  rintro e w5 ⟨rfl, rfl⟩
  refine hK.out _ _ S.out (fun hHeld => ?_)
  clear hK
  try simp only [Act.put]
  refine wpAnyH_take (i := 9) (v := ?_) rfl (by kernel_rfl) (by kernel_rfl) (by kernel_rfl) (fun _ _ _ h => h) (Or.inl ⟨by rfl, ?_⟩) (by assumption) ?_
  rotate_left
  · (intro w hSw; (try dsimp only at hSw); go_simp; try (with_reducible rfl))
  try simp only [Act.put]
  refine wpAnyH_ready (rs := [10]) (by kernel_rfl) (by simp) ?_
  refine AllReadyH.cons rfl (fun K1 hK => ?_) AllReadyH.nil
  rw [if_pos (by rfl)]
  refine oper_store _ _ _ rfl (g + 1) 0 [.int .u32 s.C, .int .u32 s.L, .int .u32 s.H, .int .u32 m] rfl rfl 43 _ ZZ (by kernel_rfl) (by simp) (by simp [Value.oneCell']) ?_
  intro Y hY hoY
  have hon : Blk Y g 24 [.int .u32 s.C, .int .u32 s.L, .int .u32 s.K, .int .u32 s.H] := Blk.only (w := W.drew) (S := fun j => j = g + 1) S.out hoY (by show ¬ g = g + 1; omega)
  have R := Lib.hid (show Blk Y (g + 1) 43 [.int .u32 s.C, .int .u32 s.L, .int .u32 s.H, .int .u32 m] from hY)
  have O := Lib.hid (show Below g w Y from B.out.trans ((Only.below (Only.far (Only.of_below (Below.refl W.heap.size W).drew) hoY (fun i _ e => e)) (Nat.le_of_lt S.out.lt) (fun k e => by have : k = g + 1 := e; omega))))
  refine hK.out _ _ hon (fun hHeld => ?_)
  clear hK hY hoY hon
  simp only [Act.put, List.getElem_toArray, List.getElem_cons_succ, List.getElem_cons_zero]
  refine wpAnyH_done (by kernel_rfl) ?_ _
  have r0 := R.out.at 0 rfl
  have r1 := R.out.at 1 rfl
  have r2 := R.out.at 2 rfl
  have r3 := R.out.at 3 rfl
  go_wp2_with fail
  refine bodyPost_ret (v := .agg #[.int .u32 s.C, .int .u32 s.L, .int .u32 s.H, .int .u32 m]) ?_ rfl ⟨rfl, by rw [hg]; exact O.out⟩
  simp [results, Try.results19, go_sem, r0, r1, r2, r3]
theorem Of_any0 (s : St) (w : World) (h : OkS s) :
    Calls Try.prog 8 #[stv s] w fun e w' => (∃ b, e = .returned (.pointer (some ⟨b, 0, none⟩)) ∧ TW w' b (ofS s) (.pointer (some ⟨b, 0, none⟩)) ∧ w.heap.size ≤ b) ∧ Below w.heap.size w w' := by
  have G := Lib.hid (fun w => wordsOf_any s w h)
  have H := Lib.hid (okS_of h)
  clear h
  go_enter Try.func8, Try.ntmps8
  go_wp2_with fail
  refine (G.out _).mono ?_
  rintro e w1 ⟨rfl, hb⟩
  have B1 := Lib.hid (show Below w.heap.size w w1 from ((Below.refl _ _).alloc (Nat.le_refl _) _).trans (hb.mono (by simp)))
  have hs := B1.out.size
  clear hb
  go_wp2_with fail
  go_ret
  exact ⟨⟨_, rfl, ⟨Blk.new _ _ _, H.out.1, H.out.2⟩, hs⟩, B1.out.alloc hs _⟩
theorem New_any0 (w : World) :
    Calls Try.prog 15 #[] w fun e w' => (∃ b, e = .returned (.pointer (some ⟨b, 0, none⟩)) ∧ TW w' b zeroS (.pointer (some ⟨b, 0, none⟩)) ∧ w.heap.size ≤ b) ∧ Below w.heap.size w w' := by
  have G := Lib.hid (Of_any0 zeroS w okS_zero)
  rw [show ofS zeroS = zeroS from rfl] at G
  go_enter Try.func15, Try.ntmps15
  go_wp2_with fail
  refine G.out.mono ?_
  rintro e w1 ⟨⟨b, rfl, h1, h2⟩, hb⟩
  have R := Lib.hid (And.intro h1 (And.intro h2 hb))
  clear h1 h2 hb
  go_wp2_with fail
  go_ret
  exact ⟨⟨b, rfl, R.out.1, R.out.2.1⟩, R.out.2.2⟩

theorem keyK : Keyed Try.prog 3 := int_keyed Try.underlying3
theorem key_mk (k : Int) (hk : I64 k) : keyOf Try.prog 3 (.int .i64 k) = some (.int .i64 k) := keyOf_int_mk Try.underlying3 (WalkArith.wf_i64 ⟨hk.1, hk.2⟩)
def meth (f : Nat) (b : Nat) : Value := .func (.func f) #[.pointer (some ⟨b, 0, none⟩)] #[]
def readL (b : Nat) : List (Int × Value) := [(3, meth 40 b), (2, meth 39 b), (1, meth 38 b), (0, meth 37 b)]
def writeL (b : Nat) : List (Int × Value) := [(3, meth 33 b), (2, meth 32 b), (1, meth 31 b), (0, meth 30 b)]
theorem reads_any (b : Nat) (w : World) :
    Calls Try.prog 26 #[.pointer (some ⟨b, 0, none⟩)] w fun e w' => (∃ g, e = .returned (.map (some g)) ∧ FM Try.prog 3 .i64 w' g (readL b)) ∧ Below w.heap.size w w' := by
  have hmm := @run_makeMap Try.prog
  have hmf : ∀ w f r, (Instr.makeFunc (.func f) r #[]).run Try.prog w = .ok (.func (.func f) r #[]) w := fun w f r => rfl
  go_enter Try.func26, Try.ntmps26
  go_wp2_with (with_reducible refine at_insert _ _ _ _ rfl ?_)
  refine Lib.hid ?_
  refine list_letter ?_
  intro W hW
  have B0 := Lib.hid (show Below w.heap.size w W by rw [hW.out]; exact (Below.refl w.heap.size w).alloc (Nat.le_refl _) _)
  have H0 := Lib.hid (show FM Try.prog 3 .i64 W w.heap.size [] by rw [hW.out]; exact FM.made _ _ _ w)
  clear hW
  obtain ⟨g, hg⟩ : ∃ g, w.heap.size = g := ⟨_, rfl⟩
  rw [hg] at B0 H0
  rw [hg]
  refine wpList_insert_fm _ rfl _ _ _ _ rfl 3 55 .i64 keyK Try.underlying57 g _ rfl H0.out (by simp [maxLen]) 0 (meth 37 b) rfl rfl (key_mk 0 ⟨by decide, by decide⟩) ?_
  intro w1 hown hon
  have H1 := Lib.hid hown
  have B1 := Lib.hid (B0.out.trans (hon.below (Nat.le_of_lt H0.out.lt) (fun k e => by have : k = g := e; omega)))
  clear hown hon
  go_wp2_with (with_reducible refine at_insert _ _ _ _ rfl ?_)
  refine Lib.hid ?_
  refine wpList_insert_fm _ rfl _ _ _ _ rfl 3 55 .i64 keyK Try.underlying57 g _ rfl H1.out (by simp [maxLen]) 1 (meth 38 b) rfl rfl (key_mk 1 ⟨by decide, by decide⟩) ?_
  intro w2 hown hon
  have H2 := Lib.hid hown
  have B2 := Lib.hid (B1.out.trans (hon.below (Nat.le_of_lt H1.out.lt) (fun k e => by have : k = g := e; omega)))
  clear hown hon
  go_wp2_with (with_reducible refine at_insert _ _ _ _ rfl ?_)
  refine Lib.hid ?_
  refine wpList_insert_fm _ rfl _ _ _ _ rfl 3 55 .i64 keyK Try.underlying57 g _ rfl H2.out (by simp [maxLen]) 2 (meth 39 b) rfl rfl (key_mk 2 ⟨by decide, by decide⟩) ?_
  intro w3 hown hon
  have H3 := Lib.hid hown
  have B3 := Lib.hid (B2.out.trans (hon.below (Nat.le_of_lt H2.out.lt) (fun k e => by have : k = g := e; omega)))
  clear hown hon
  go_wp2_with (with_reducible refine at_insert _ _ _ _ rfl ?_)
  refine Lib.hid ?_
  refine wpList_insert_fm _ rfl _ _ _ _ rfl 3 55 .i64 keyK Try.underlying57 g _ rfl H3.out (by simp [maxLen]) 3 (meth 40 b) rfl rfl (key_mk 3 ⟨by decide, by decide⟩) ?_
  intro w4 hown hon
  have H4 := Lib.hid hown
  have B4 := Lib.hid (B3.out.trans (hon.below (Nat.le_of_lt H3.out.lt) (fun k e => by have : k = g := e; omega)))
  clear hown hon
  go_wp2_with fail
  go_ret
  exact ⟨⟨g, rfl, H4.out⟩, by rw [hg]; exact B4.out⟩
theorem writes_any (b : Nat) (w : World) :
    Calls Try.prog 23 #[.pointer (some ⟨b, 0, none⟩)] w fun e w' => (∃ g, e = .returned (.map (some g)) ∧ FM Try.prog 3 .i64 w' g (writeL b)) ∧ Below w.heap.size w w' := by
  have hmm := @run_makeMap Try.prog
  have hmf : ∀ w f r, (Instr.makeFunc (.func f) r #[]).run Try.prog w = .ok (.func (.func f) r #[]) w := fun w f r => rfl
  go_enter Try.func23, Try.ntmps23
  go_wp2_with (with_reducible refine at_insert _ _ _ _ rfl ?_)
  refine Lib.hid ?_
  refine list_letter ?_
  intro W hW
  have B0 := Lib.hid (show Below w.heap.size w W by rw [hW.out]; exact (Below.refl w.heap.size w).alloc (Nat.le_refl _) _)
  have H0 := Lib.hid (show FM Try.prog 3 .i64 W w.heap.size [] by rw [hW.out]; exact FM.made _ _ _ w)
  clear hW
  obtain ⟨g, hg⟩ : ∃ g, w.heap.size = g := ⟨_, rfl⟩
  rw [hg] at B0 H0
  rw [hg]
  refine wpList_insert_fm _ rfl _ _ _ _ rfl 3 51 .i64 keyK Try.underlying53 g _ rfl H0.out (by simp [maxLen]) 0 (meth 30 b) rfl rfl (key_mk 0 ⟨by decide, by decide⟩) ?_
  intro w1 hown hon
  have H1 := Lib.hid hown
  have B1 := Lib.hid (B0.out.trans (hon.below (Nat.le_of_lt H0.out.lt) (fun k e => by have : k = g := e; omega)))
  clear hown hon
  go_wp2_with (with_reducible refine at_insert _ _ _ _ rfl ?_)
  refine Lib.hid ?_
  refine wpList_insert_fm _ rfl _ _ _ _ rfl 3 51 .i64 keyK Try.underlying53 g _ rfl H1.out (by simp [maxLen]) 1 (meth 31 b) rfl rfl (key_mk 1 ⟨by decide, by decide⟩) ?_
  intro w2 hown hon
  have H2 := Lib.hid hown
  have B2 := Lib.hid (B1.out.trans (hon.below (Nat.le_of_lt H1.out.lt) (fun k e => by have : k = g := e; omega)))
  clear hown hon
  go_wp2_with (with_reducible refine at_insert _ _ _ _ rfl ?_)
  refine Lib.hid ?_
  refine wpList_insert_fm _ rfl _ _ _ _ rfl 3 51 .i64 keyK Try.underlying53 g _ rfl H2.out (by simp [maxLen]) 2 (meth 32 b) rfl rfl (key_mk 2 ⟨by decide, by decide⟩) ?_
  intro w3 hown hon
  have H3 := Lib.hid hown
  have B3 := Lib.hid (B2.out.trans (hon.below (Nat.le_of_lt H2.out.lt) (fun k e => by have : k = g := e; omega)))
  clear hown hon
  go_wp2_with (with_reducible refine at_insert _ _ _ _ rfl ?_)
  refine Lib.hid ?_
  refine wpList_insert_fm _ rfl _ _ _ _ rfl 3 51 .i64 keyK Try.underlying53 g _ rfl H3.out (by simp [maxLen]) 3 (meth 33 b) rfl rfl (key_mk 3 ⟨by decide, by decide⟩) ?_
  intro w4 hown hon
  have H4 := Lib.hid hown
  have B4 := Lib.hid (B3.out.trans (hon.below (Nat.le_of_lt H3.out.lt) (fun k e => by have : k = g := e; omega)))
  clear hown hon
  go_wp2_with fail
  go_ret
  exact ⟨⟨g, rfl, H4.out⟩, by rw [hg]; exact B4.out⟩
end Go.Proofs.Ythfckoemldhoaaa.Timer
