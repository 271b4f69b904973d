/- Package uart: State, Copy, the two maps of method values. -/
import Derived.Test.YthdcealhhmfgcaaQx
namespace Go.Proofs.Ythdcealhhmfgcaa.Uart
open Go.RowKit Go.Maps Go.ChangeShapes Go.WideShapes Go.ChangeAt Fifo Orow Word Fmap
set_option linter.unusedVariables false

theorem only_drewU {S : Nat → Prop} {w w' : World} (h : Only S w w') : Only S w w'.drew := ⟨h.os, h.tape, h.output, h.size, h.block⟩
set_option maxRecDepth 100000 in
set_option maxHeartbeats 4000000 in
theorem State_q (v : Value) (room : Nat) (u : Un) (x : Value) (w : World) (ht : ∀ W, Below w.heap.size w W → w.heap.size < W.heap.size → Calls Try.prog 27 #[v] W fun r w' => ∃ b p q A B, r = .returned (me b) ∧ UB w' b room u p q x A B ∧ Below W.heap.size W w' ∧ b ≠ w.heap.size ∧ ¬ A w.heap.size ∧ ¬ B w.heap.size) :
    Calls Try.prog 20 #[v] w fun r w' => (∃ a1 c1 a2 c2, r = .returned (.agg #[.slice a1 u.Came.length c1, .slice a2 u.Goes.length c2, .bool u.LI, .bool u.LO, .int .u32 u.C, .int .i64 u.P]) ∧ w'.ownsRow w.heap.size 5 1 (.slice a1 u.Came.length c1) u.Came.length (bv u.Came) ∧ w'.ownsRow w.heap.size 5 1 (.slice a2 u.Goes.length c2) u.Goes.length (bv u.Goes) ∧ ∀ j, PB (.slice a1 u.Came.length c1) j → ¬ PB (.slice a2 u.Goes.length c2) j) ∧ Below w.heap.size w w' := by
  have T := Lib.hid (ht (w.alloc (.cells #[.slice none 0 0, .slice none 0 0, .bool false, .bool false, .int .u32 0, .int .i64 0] 40)) ((Below.refl _ _).alloc (Nat.le_refl _) _) (by simp))
  clear ht
  obtain ⟨Cm, Gs, LI, LO, C, P⟩ := u
  obtain ⟨nc, hnc⟩ : ∃ n, Cm.length = n := ⟨_, rfl⟩
  obtain ⟨ng, hng⟩ : ∃ n, Gs.length = n := ⟨_, rfl⟩
  simp only [hnc, hng]
  have Hnc := Lib.hid hnc
  have Hng := Lib.hid hng
  clear hnc hng
  go_enter Try.func20, Try.ntmps20
  go_wp2_with fail
  refine T.out.mono ?_
  rintro e w1 ⟨b, p, q, A, B, rfl, hu, hb, hbg, hag, hbg2⟩
  have hZ : Blk w1 w.heap.size 40 [.slice none 0 0, .slice none 0 0, .bool false, .bool false, .int .u32 0, .int .i64 0] := (Blk.new w 40 [.slice none 0 0, .slice none 0 0, .bool false, .bool false, .int .u32 0, .int .i64 0]).keep hb
  have hB1 : Below w.heap.size w w1 := ((Below.refl w.heap.size w).alloc (Nat.le_refl _) _).trans (hb.mono (by simp))
  obtain ⟨g, hg⟩ : ∃ g, w.heap.size = g := ⟨_, rfl⟩
  rw [hg] at hbg hag hbg2 hZ
  try rw [hg]
  have hgl := hZ.lt
  have U := Lib.hid hu
  have B1 := Lib.hid hB1
  have HG := Lib.hid hg
  have K := Lib.hid (fun w' (h : Only (fun j => j = g) w1 w') => show UB w' b room ⟨Cm, Gs, LI, LO, C, P⟩ p q x A B from hu.only h hbg (fun j hj e => hag (by have e : j = g := e; rwa [e] at hj)) (fun j hj e => hbg2 (by have e : j = g := e; rwa [e] at hj)))
  obtain ⟨L, hL⟩ : ∃ L, lostU ⟨Cm, Gs, LI, LO, C, P⟩ = L := ⟨_, rfl⟩
  have HL := Lib.hid hL
  have c0 : ∀ w', Only (fun j => j = g) w1 w' → w'.cell? ⟨b, 0, none⟩ = some (.int .u32 (lostU ⟨Cm, Gs, LI, LO, C, P⟩)) := fun w' h => (K.out w' h).blk.at 0 rfl
  have c1 : ∀ w', Only (fun j => j = g) w1 w' → w'.cell? ⟨b, 1, none⟩ = some (.int .u32 C) := fun w' h => (K.out w' h).blk.at 1 rfl
  have c2 : ∀ w', Only (fun j => j = g) w1 w' → w'.cell? ⟨b, 2, none⟩ = some p := fun w' h => (K.out w' h).blk.at 2 rfl
  have c3 : ∀ w', Only (fun j => j = g) w1 w' → w'.cell? ⟨b, 3, none⟩ = some q := fun w' h => (K.out w' h).blk.at 3 rfl
  have c4 : ∀ w', Only (fun j => j = g) w1 w' → w'.cell? ⟨b, 4, none⟩ = some (.int .i64 P) := fun w' h => (K.out w' h).blk.at 4 rfl
  have H1 := Lib.hid (fun w' (h : Only (fun j => j = g) w1 w') => has_in b ⟨Cm, Gs, LI, LO, C, P⟩ w' (c0 w' h))
  have H2 := Lib.hid (fun w' (h : Only (fun j => j = g) w1 w') => has_out b ⟨Cm, Gs, LI, LO, C, P⟩ w' (c0 w' h))
  have ok1 := hu.ok.came.2
  have ok2 := hu.ok.goes.2
  have E1 := Lib.hid (fun w' (h : Only (fun j => j = g) w1 w') => listed_any p room Cm A w' (K.out w' h).came ok1)
  have E2 := Lib.hid (fun w' (h : Only (fun j => j = g) w1 w') => listed_any q room Gs B w' (K.out w' h).goes ok2)
  have S0 : Only (fun j => j = g) w1 w1.drew := Only.of_below (Below.refl _ _).drew
  have Z := Lib.hid (fun w' (h : Below w1.heap.size w1 w') => hZ.keep h)
  simp only [Hnc.out, Hng.out] at E1 E2
  have Z0 := Lib.hid (Below.refl w1.heap.size w1).drew
  clear hu hb hZ hB1 hbg hag hbg2 T c0 hL hg K ok1 ok2
  go_wp2_with fail
  refine wp_region_held_drew (S := fun w' => Only (fun j => j = g) w1 w') (by kernel_rfl) S0 (fun hHeld => ?_)
  refine wpAnyH_take (i := 0) (v := ?_) rfl (by kernel_rfl) (by kernel_rfl) (by kernel_rfl) (fun _ _ _ h => h) (Or.inl ⟨by rfl, ?_⟩) (by assumption) ?_
  rotate_left
  · (intro w hSw; (try dsimp only at hSw); go_simp; try (with_reducible rfl))
  try simp only [Act.put]
  refine wpAnyH_take (i := 1) (v := ?_) rfl (by kernel_rfl) (by kernel_rfl) (by kernel_rfl) (fun _ _ _ h => h) (Or.inl ⟨by rfl, ?_⟩) (by assumption) ?_
  rotate_left
  · (intro w hSw; (try dsimp only at hSw); go_simp; try (with_reducible rfl))
  try simp only [Act.put]
  refine wpAnyH_take (i := 2) (v := ?_) rfl (by kernel_rfl) (by kernel_rfl) (by kernel_rfl) (fun _ _ _ h => h) (Or.inl ⟨by rfl, ?_⟩) (by assumption) ?_
  rotate_left
  · (intro w hSw; (try dsimp only at hSw); go_simp; try (with_reducible rfl))
  try simp only [Act.put]
  refine wpAnyH_take (i := 3) (v := ?_) rfl (by kernel_rfl) (by kernel_rfl) (by kernel_rfl) (fun _ _ _ h => h) (Or.inl ⟨by rfl, ?_⟩) (by assumption) ?_
  rotate_left
  · (intro w hSw; (try dsimp only at hSw); go_simp; try (with_reducible rfl))
  try simp only [Act.put]
  refine wpAnyH_take (i := 5) (v := ?_) rfl (by kernel_rfl) (by kernel_rfl) (by kernel_rfl) (fun _ _ _ h => h) (Or.inl ⟨by rfl, ?_⟩) (by assumption) ?_
  rotate_left
  · (intro w hSw; (try dsimp only at hSw); go_simp; try (with_reducible rfl))
  try simp only [Act.put]
  refine wpAnyH_take (i := 6) (v := ?_) rfl (by kernel_rfl) (by kernel_rfl) (by kernel_rfl) (fun _ _ _ h => h) (Or.inl ⟨by rfl, ?_⟩) (by assumption) ?_
  rotate_left
  · (intro w hSw; (try dsimp only at hSw); go_simp; try (with_reducible rfl))
  try simp only [Act.put]
  refine wpAnyH_take (i := 7) (v := ?_) rfl (by kernel_rfl) (by kernel_rfl) (by kernel_rfl) (fun _ _ _ h => h) (Or.inl ⟨by rfl, ?_⟩) (by assumption) ?_
  rotate_left
  · (intro w hSw; (try dsimp only at hSw); go_simp; try (with_reducible rfl))
  try simp only [Act.put]
  refine wpAnyH_take (i := 8) (v := ?_) rfl (by kernel_rfl) (by kernel_rfl) (by kernel_rfl) (fun _ _ _ h => h) (Or.inl ⟨by rfl, ?_⟩) (by assumption) ?_
  rotate_left
  · (intro w hSw; (try dsimp only at hSw); go_simp; try (with_reducible rfl))
  try simp only [Act.put]
  refine wpAnyH_take (i := 10) (v := ?_) rfl (by kernel_rfl) (by kernel_rfl) (by kernel_rfl) (fun _ _ _ h => h) (Or.inl ⟨by rfl, ?_⟩) (by assumption) ?_
  rotate_left
  · (intro w hSw; (try dsimp only at hSw); go_simp; try (with_reducible rfl))
  try simp only [Act.put]
  refine wpAnyH_take (i := 11) (v := ?_) rfl (by kernel_rfl) (by kernel_rfl) (by kernel_rfl) (fun _ _ _ h => h) (Or.inl ⟨by rfl, ?_⟩) (by assumption) ?_
  rotate_left
  · (intro w hSw; (try dsimp only at hSw); go_simp; try (with_reducible rfl))
  try simp only [Act.put]
  refine wpAnyH_take (i := 12) (v := ?_) rfl (by kernel_rfl) (by kernel_rfl) (by kernel_rfl) (fun _ _ _ h => h) (Or.inl ⟨by rfl, ?_⟩) (by assumption) ?_
  rotate_left
  · (intro w hSw; (try dsimp only at hSw); go_simp; try (with_reducible rfl))
  try simp only [Act.put]
  refine wpAnyH_take (i := 14) (v := ?_) rfl (by kernel_rfl) (by kernel_rfl) (by kernel_rfl) (fun _ _ _ h => h) (Or.inl ⟨by rfl, ?_⟩) (by assumption) ?_
  rotate_left
  · (intro w hSw; (try dsimp only at hSw); go_simp; try (with_reducible rfl))
  try simp only [Act.put]
  refine wpAnyH_take (i := 15) (v := ?_) rfl (by kernel_rfl) (by kernel_rfl) (by kernel_rfl) (fun _ _ _ h => h) (Or.inl ⟨by rfl, ?_⟩) (by assumption) ?_
  rotate_left
  · (intro w hSw; (try dsimp only at hSw); go_simp; try (with_reducible rfl))
  try simp only [Act.put]
  refine wpAnyH_take (i := 16) (v := ?_) rfl (by kernel_rfl) (by kernel_rfl) (by kernel_rfl) (fun _ _ _ h => h) (Or.inl ⟨by rfl, ?_⟩) (by assumption) ?_
  rotate_left
  · (intro w hSw; (try dsimp only at hSw); go_simp; try (with_reducible rfl))
  try simp only [Act.put]
  refine wpAnyH_take (i := 18) (v := ?_) rfl (by kernel_rfl) (by kernel_rfl) (by kernel_rfl) (fun _ _ _ h => h) (Or.inl ⟨by rfl, ?_⟩) (by assumption) ?_
  rotate_left
  · (intro w hSw; (try dsimp only at hSw); go_simp; try (with_reducible rfl))
  try simp only [Act.put]
  refine wpAnyH_take (i := 19) (v := ?_) rfl (by kernel_rfl) (by kernel_rfl) (by kernel_rfl) (fun _ _ _ h => h) (Or.inl ⟨by rfl, ?_⟩) (by assumption) ?_
  rotate_left
  · (intro w hSw; (try dsimp only at hSw); go_simp; try (with_reducible rfl))
  try simp only [Act.put]
  refine wpAnyH_take (i := 20) (v := ?_) rfl (by kernel_rfl) (by kernel_rfl) (by kernel_rfl) (fun _ _ _ h => h) (Or.inl ⟨by rfl, ?_⟩) (by assumption) ?_
  rotate_left
  · (intro w hSw; (try dsimp only at hSw); go_simp; try (with_reducible rfl))
  try simp only [Act.put]
  refine wpAnyH_take (i := 21) (v := ?_) rfl (by kernel_rfl) (by kernel_rfl) (by kernel_rfl) (fun _ _ _ h => h) (Or.inl ⟨by rfl, ?_⟩) (by assumption) ?_
  rotate_left
  · (intro w hSw; (try dsimp only at hSw); go_simp; try (with_reducible rfl))
  try simp only [Act.put]
  refine wpAnyH_take (i := 22) (v := ?_) rfl (by kernel_rfl) (by kernel_rfl) (by kernel_rfl) (fun _ _ _ h => h) (Or.inl ⟨by rfl, ?_⟩) (by assumption) ?_
  rotate_left
  · (intro w hSw; (try dsimp only at hSw); go_simp; try (with_reducible rfl))
  try simp only [Act.put]
  refine wpAnyH_take (i := 23) (v := ?_) rfl (by kernel_rfl) (by kernel_rfl) (by kernel_rfl) (fun _ _ _ h => h) (Or.inl ⟨by rfl, ?_⟩) (by assumption) ?_
  rotate_left
  · (intro w hSw; (try dsimp only at hSw); go_simp; try (with_reducible rfl))
  try simp only [Act.put]
  refine wpAnyH_take (i := 24) (v := ?_) rfl (by kernel_rfl) (by kernel_rfl) (by kernel_rfl) (fun _ _ _ h => h) (Or.inl ⟨by rfl, ?_⟩) (by assumption) ?_
  rotate_left
  · (intro w hSw; (try dsimp only at hSw); go_simp; try (with_reducible rfl))
  try simp only [Act.put]
  refine wpAnyH_take (i := 25) (v := ?_) rfl (by kernel_rfl) (by kernel_rfl) (by kernel_rfl) (fun _ _ _ h => h) (Or.inl ⟨by rfl, ?_⟩) (by assumption) ?_
  rotate_left
  · (intro w hSw; (try dsimp only at hSw); go_simp; try (with_reducible rfl))
  try simp only [Act.put]
  refine wpAnyH_take (i := 26) (v := ?_) rfl (by kernel_rfl) (by kernel_rfl) (by kernel_rfl) (fun _ _ _ h => h) (Or.inl ⟨by rfl, ?_⟩) (by assumption) ?_
  rotate_left
  · (intro w hSw; (try dsimp only at hSw); go_simp; try (with_reducible rfl))
  try simp only [Act.put]
  refine wpAnyH_ready (rs := [4]) (by kernel_rfl) (by simp) ?_
  refine AllReadyH.cons rfl (fun K hK => ?_) AllReadyH.nil
  go_simp
  refine (E1.out _ hHeld).mono ?_
  rintro e w5 ⟨⟨a1, c1', rfl, ho1⟩, hb5⟩
  have R1 := Lib.hid ho1
  have X1 := Lib.hid (Z0.out.trans (hb5.mono Z0.out.size))
  have lt5 := Lib.hid (fun j (hj : PB (.slice a1 nc c1') j) => (ho1.lt j hj).2)
  have hon : Only (fun j => j = g) w1 w5 := Only.of_below X1.out
  clear ho1 hb5
  refine hK.out _ _ hon (fun hHeld => ?_)
  clear hK hon
  try simp only [Act.put]
  refine wpAnyH_ready (rs := [9]) (by kernel_rfl) (by simp) ?_
  refine AllReadyH.cons rfl (fun K hK => ?_) AllReadyH.nil
  go_simp
  refine (E2.out _ hHeld).mono ?_
  rintro e w6 ⟨⟨a2, c2', rfl, ho2⟩, hb6⟩
  have R2 := Lib.hid ho2
  have R3 := Lib.hid (own_keep R1.out hb6)
  have X2 := Lib.hid (X1.out.trans (hb6.mono X1.out.size))
  have hon : Only (fun j => j = g) w1 w6 := Only.of_below X2.out
  clear ho2 hb6
  refine hK.out _ _ hon (fun hHeld => ?_)
  clear hK hon
  try simp only [Act.put]
  refine wpAnyH_ready (rs := [13]) (by kernel_rfl) (by simp) ?_
  refine AllReadyH.cons rfl (fun K hK => ?_) AllReadyH.nil
  go_simp
  refine (H1.out _ hHeld).mono ?_
  rintro e w7 ⟨rfl, rfl⟩
  have hon := hHeld
  refine hK.out _ _ hon (fun hHeld => ?_)
  clear hK hon
  try simp only [Act.put]
  refine wpAnyH_ready (rs := [17]) (by kernel_rfl) (by simp) ?_
  refine AllReadyH.cons rfl (fun K hK => ?_) AllReadyH.nil
  go_simp
  refine (H2.out _ hHeld).mono ?_
  rintro e w8 ⟨rfl, rfl⟩
  have hon := hHeld
  refine hK.out _ _ hon (fun hHeld => ?_)
  clear hK hon
  try simp only [Act.put]
  refine wpAnyH_take (i := 27) (v := ?_) rfl (by kernel_rfl) (by kernel_rfl) (by kernel_rfl) (fun _ _ _ h => h) (Or.inl ⟨by rfl, ?_⟩) (by assumption) ?_
  rotate_left
  · (intro w hSw; (try dsimp only at hSw); go_simp; try (with_reducible rfl))
  try simp only [Act.put]
  refine wpAnyH_ready (rs := [28]) (by kernel_rfl) (by simp) ?_
  refine AllReadyH.cons rfl (fun K hK => ?_) AllReadyH.nil
  rw [if_pos (by rfl)]
  refine oper_store _ _ _ rfl g 0 [.slice a1 nc c1', .slice a2 ng c2', .bool LI, .bool LO, .int .u32 C, .int .i64 P] rfl rfl 40 _ (Z.out _ X2.out) (by kernel_rfl) (by simp) (by simp [Value.oneCell']) ?_
  intro Y hY hoY
  have R := Lib.hid (show Blk Y g 40 [.slice a1 nc c1', .slice a2 ng c2', .bool LI, .bool LO, .int .u32 C, .int .i64 P] from hY)
  have hon : Only (fun j => j = g) w1 Y := (Only.of_below X2.out).trans hoY
  have hd : w1.drew.heap.size = w1.heap.size := rfl
  have hx1 := X1.out.size
  have ROW1 := Lib.hid (own_only R3.out hoY (fun j hj e => by have := (own_lt R3.out j hj).1; have e : j = g := e; omega))
  have ROW2 := Lib.hid (own_only R2.out hoY (fun j hj e => by have := (own_lt R2.out j hj).1; have e : j = g := e; omega))
  have ROW3 := Lib.hid (show ∀ j, PB (.slice a1 nc c1') j → ¬ PB (.slice a2 ng c2') j from fun j h1 h2 => by have := lt5.out j h1; have := (R2.out.lt j h2).1; omega)
  have O := Lib.hid (show Below w.heap.size w Y from B1.out.trans (hon.below (by rw [HG.out]; omega) (fun k e => by have e : k = g := e; rw [HG.out]; omega)))
  clear hY hoY hd hx1
  refine hK.out _ _ hon (fun hHeld => ?_)
  clear hK hon
  simp only [Act.put, List.getElem_toArray, List.getElem_cons_succ, List.getElem_cons_zero]
  refine wpAnyH_done (by kernel_rfl) ?_ _
  have r0 := R.out.at 0 rfl
  have r1 := R.out.at 1 rfl
  have r2 := R.out.at 2 rfl
  have r3 := R.out.at 3 rfl
  have r4 := R.out.at 4 rfl
  have r5 := R.out.at 5 rfl
  go_wp2_with fail
  have hg := HG.out
  have hx1 := X1.out.size
  have hd : w1.drew.heap.size = w1.heap.size := rfl
  have hm1 : w.heap.size ≤ w1.drew.heap.size := by omega
  have hm2 : w.heap.size ≤ w5.heap.size := by omega
  refine bodyPost_ret (v := .agg #[.slice a1 nc c1', .slice a2 ng c2', .bool LI, .bool LO, .int .u32 C, .int .i64 P]) ?_ rfl ⟨⟨a1, c1', a2, c2', rfl, own_mono ROW1.out hm1, own_mono ROW2.out hm2, ROW3.out⟩, O.out⟩
  simp [results, Try.results20, go_sem, r0, r1, r2, r3, r4, r5]
set_option maxHeartbeats 4000000 in
theorem Copy_any0 (b : Nat) (u : Un) (O : Nat → Prop) (w : World) (h : UW w b 8 u (me b) O) :
    Calls Try.prog 18 #[me b] w fun r w' => (∃ c O', r = .returned (me c) ∧ UW w' c 8 u (me c) O' ∧ ∀ j, O' j → w.heap.size ≤ j) ∧ Below w.heap.size w w' := by
  obtain ⟨p, q, A, B, h, e⟩ := h
  have hz : ∀ {p : Value} {l : List Int} {A : Nat → Prop} {w : World}, Rw w p 8 l A → ∃ g, p = .pointer (some ⟨g, 0, none⟩) ∧ FB.St w g 8 (bv l) A := fun h => by
    rcases h with h | ⟨_, h, _⟩
    · exact h
    · cases h
  obtain ⟨g1, rfl, s1⟩ := hz h.came
  obtain ⟨g2, rfl, s2⟩ := hz h.goes
  have I := Lib.hid (is_yes b w (h.blk.at 5 rfl))
  have C1 := Lib.hid (fun w' (hb : Below w.heap.size w w') => FB.Copy_st g1 8 _ A w' (s1.keep hb))
  have C2 := Lib.hid (fun w' (hb : Below w.heap.size w w') => FB.Copy_st g2 8 _ B w' (s2.keep hb))
  have Hok := Lib.hid h.ok
  have ld : ∀ k v, (cellsU u (me g1) (me g2) (me b))[k]? = some v → ∀ w', Below w.heap.size w w' → w'.cell? ⟨b, k, none⟩ = some v := fun k v hv w' hb => (h.blk.keep hb).at k hv
  have c0 := ld 0 _ rfl
  have c1 := ld 1 _ rfl
  have c2 := ld 2 _ rfl
  have c3 := ld 3 _ rfl
  have c4 := ld 4 _ rfl
  have G := Lib.hid (fun p q w' => laid_any u p q (.pointer none) w')
  obtain ⟨L, hL⟩ : ∃ L, lostU u = L := ⟨_, rfl⟩
  rw [hL] at c0 G
  have HL := Lib.hid hL
  have HD := Lib.hid (Below.refl w.heap.size w).drew
  clear h e hz s1 s2 ld hL
  go_enter Try.func18, Try.ntmps18
  go_wp2_with fail
  refine I.out.mono ?_
  rintro e w1 ⟨rfl, rfl⟩
  go_wp2_with fail
  go_region_held3 (fun w' => Below w.heap.size w w')
    (first | assumption | exact HD.out)
    (first
      | (go_at_call 33; with_reducible refine (C1.out _ HD.out).mono ?_; rintro e w2 ⟨d1, A', rfl, h1, n1, k1⟩; have S1 := Lib.hid h1; have N1 := Lib.hid n1; have B1 := Lib.hid (HD.out.trans (k1.mono HD.out.size)); have hB1 : Below w.heap.size w w2 := B1.out)
      | (go_at_call 33; with_reducible refine (C2.out _ B1.out).mono ?_; rintro e w3 ⟨d2, B', rfl, h2, n2, k2⟩; have S2 := Lib.hid h2; have N2 := Lib.hid n2; have T1 := Lib.hid (S1.out.keep k2); have B2 := Lib.hid (B1.out.trans (k2.mono B1.out.size)); have hB2 : Below w.heap.size w w3 := B2.out)
      | (go_at_call 25; with_reducible refine (G.out _ _ _).mono ?_; rintro e w4 ⟨⟨c, rfl, hc, hn⟩, k3⟩; have R := Lib.hid hc; have Hn := Lib.hid hn; have T2 := Lib.hid (S2.out.keep k3); have T3 := Lib.hid (T1.out.keep k3); have B3 := Lib.hid (B2.out.trans (k3.mono B2.out.size)); have hB3 : Below w.heap.size w w4 := B3.out))
  all_goals
    go_wp2_with fail
    go_ret
    have l1 := T1.out.lt
    have l2 := S2.out.lt
    have l3 := S1.out.lt
    have b1 := B1.out.size
    have b2 := B2.out.size
    have n1 := N1.out
    have n2 := N2.out
    have nc := Hn.out
    have hd : w.drew.heap.size = w.heap.size := rfl
    refine ⟨⟨c, fun j => j = c ∨ A' j ∨ B' j, rfl, ⟨me d1, me d2, A', B', ⟨R.out, .inl ⟨d1, rfl, T3.out⟩, .inl ⟨d2, rfl, T2.out⟩, Hok.out, fun e => by have := l1 c e; omega, fun e => by have := l2 c e; omega, fun j e1 e2 => by have := l3 j e1; have := n2 j e2; omega⟩, fun j => Iff.rfl⟩, ?_⟩, B3.out⟩
    rintro j (rfl | hj | hj)
    · omega
    · have := n1 j hj; omega
    · have := n2 j hj; omega
theorem keyK : Keyed Try.prog 3 := int_keyed Try.underlying3
theorem key_mk (k : Int) (hk : I64 k) : keyOf Try.prog 3 (.int .i64 k) = some (.int .i64 k) := keyOf_int_mk Try.underlying3 (WalkArith.wf_i64 ⟨hk.1, hk.2⟩)
def meth (f : Nat) (b : Nat) : Value := .func (.func f) #[.pointer (some ⟨b, 0, none⟩)] #[]
def readL (b : Nat) : List (Int × Value) := [(2, meth 42 b), (1, meth 41 b), (0, meth 40 b)]
def writeL (b : Nat) : List (Int × Value) := [(3, meth 45 b), (2, meth 44 b), (0, meth 43 b)]
theorem reads_any (b : Nat) (w : World) :
    Calls Try.prog 28 #[.pointer (some ⟨b, 0, none⟩)] w fun e w' => (∃ g, e = .returned (.map (some g)) ∧ FM Try.prog 3 .i64 w' g (readL b)) ∧ Below w.heap.size w w' := by
  have hmm := @run_makeMap Try.prog
  have hmf : ∀ w f r, (Instr.makeFunc (.func f) r #[]).run Try.prog w = .ok (.func (.func f) r #[]) w := fun w f r => rfl
  go_enter Try.func28, Try.ntmps28
  go_wp2_with (with_reducible refine at_insert _ _ _ _ rfl ?_)
  refine Lib.hid ?_
  refine list_letter ?_
  intro W hW
  have B0 := Lib.hid (show Below w.heap.size w W by rw [hW.out]; exact (Below.refl w.heap.size w).alloc (Nat.le_refl _) _)
  have H0 := Lib.hid (show FM Try.prog 3 .i64 W w.heap.size [] by rw [hW.out]; exact FM.made _ _ _ w)
  clear hW
  obtain ⟨g, hg⟩ : ∃ g, w.heap.size = g := ⟨_, rfl⟩
  rw [hg] at B0 H0
  rw [hg]
  refine wpList_insert_fm _ rfl _ _ _ _ rfl 3 58 .i64 keyK Try.underlying60 g _ rfl H0.out (by simp [maxLen]) 0 (meth 40 b) rfl rfl (key_mk 0 ⟨by decide, by decide⟩) ?_
  intro w1 hown hon
  have H1 := Lib.hid hown
  have B1 := Lib.hid (B0.out.trans (hon.below (Nat.le_of_lt H0.out.lt) (fun k e => by have : k = g := e; omega)))
  clear hown hon
  go_wp2_with (with_reducible refine at_insert _ _ _ _ rfl ?_)
  refine Lib.hid ?_
  refine wpList_insert_fm _ rfl _ _ _ _ rfl 3 58 .i64 keyK Try.underlying60 g _ rfl H1.out (by simp [maxLen]) 1 (meth 41 b) rfl rfl (key_mk 1 ⟨by decide, by decide⟩) ?_
  intro w2 hown hon
  have H2 := Lib.hid hown
  have B2 := Lib.hid (B1.out.trans (hon.below (Nat.le_of_lt H1.out.lt) (fun k e => by have : k = g := e; omega)))
  clear hown hon
  go_wp2_with (with_reducible refine at_insert _ _ _ _ rfl ?_)
  refine Lib.hid ?_
  refine wpList_insert_fm _ rfl _ _ _ _ rfl 3 58 .i64 keyK Try.underlying60 g _ rfl H2.out (by simp [maxLen]) 2 (meth 42 b) rfl rfl (key_mk 2 ⟨by decide, by decide⟩) ?_
  intro w3 hown hon
  have H3 := Lib.hid hown
  have B3 := Lib.hid (B2.out.trans (hon.below (Nat.le_of_lt H2.out.lt) (fun k e => by have : k = g := e; omega)))
  clear hown hon
  go_wp2_with fail
  go_ret
  exact ⟨⟨g, rfl, H3.out⟩, by rw [hg]; exact B3.out⟩
theorem writes_any (b : Nat) (w : World) :
    Calls Try.prog 29 #[.pointer (some ⟨b, 0, none⟩)] w fun e w' => (∃ g, e = .returned (.map (some g)) ∧ FM Try.prog 3 .i64 w' g (writeL b)) ∧ Below w.heap.size w w' := by
  have hmm := @run_makeMap Try.prog
  have hmf : ∀ w f r, (Instr.makeFunc (.func f) r #[]).run Try.prog w = .ok (.func (.func f) r #[]) w := fun w f r => rfl
  go_enter Try.func29, Try.ntmps29
  go_wp2_with (with_reducible refine at_insert _ _ _ _ rfl ?_)
  refine Lib.hid ?_
  refine list_letter ?_
  intro W hW
  have B0 := Lib.hid (show Below w.heap.size w W by rw [hW.out]; exact (Below.refl w.heap.size w).alloc (Nat.le_refl _) _)
  have H0 := Lib.hid (show FM Try.prog 3 .i64 W w.heap.size [] by rw [hW.out]; exact FM.made _ _ _ w)
  clear hW
  obtain ⟨g, hg⟩ : ∃ g, w.heap.size = g := ⟨_, rfl⟩
  rw [hg] at B0 H0
  rw [hg]
  refine wpList_insert_fm _ rfl _ _ _ _ rfl 3 62 .i64 keyK Try.underlying64 g _ rfl H0.out (by simp [maxLen]) 0 (meth 43 b) rfl rfl (key_mk 0 ⟨by decide, by decide⟩) ?_
  intro w1 hown hon
  have H1 := Lib.hid hown
  have B1 := Lib.hid (B0.out.trans (hon.below (Nat.le_of_lt H0.out.lt) (fun k e => by have : k = g := e; omega)))
  clear hown hon
  go_wp2_with (with_reducible refine at_insert _ _ _ _ rfl ?_)
  refine Lib.hid ?_
  refine wpList_insert_fm _ rfl _ _ _ _ rfl 3 62 .i64 keyK Try.underlying64 g _ rfl H1.out (by simp [maxLen]) 2 (meth 44 b) rfl rfl (key_mk 2 ⟨by decide, by decide⟩) ?_
  intro w2 hown hon
  have H2 := Lib.hid hown
  have B2 := Lib.hid (B1.out.trans (hon.below (Nat.le_of_lt H1.out.lt) (fun k e => by have : k = g := e; omega)))
  clear hown hon
  go_wp2_with (with_reducible refine at_insert _ _ _ _ rfl ?_)
  refine Lib.hid ?_
  refine wpList_insert_fm _ rfl _ _ _ _ rfl 3 62 .i64 keyK Try.underlying64 g _ rfl H2.out (by simp [maxLen]) 3 (meth 45 b) rfl rfl (key_mk 3 ⟨by decide, by decide⟩) ?_
  intro w3 hown hon
  have H3 := Lib.hid hown
  have B3 := Lib.hid (B2.out.trans (hon.below (Nat.le_of_lt H2.out.lt) (fun k e => by have : k = g := e; omega)))
  clear hown hon
  go_wp2_with fail
  go_ret
  exact ⟨⟨g, rfl, H3.out⟩, by rw [hg]; exact B3.out⟩
end Go.Proofs.Ythdcealhhmfgcaa.Uart
