/- Package mailbox: state, apart. -/
import Derived.Test.YtkcghcoacjpbkaaJx
namespace Go.Proofs.Ytkcghcoacjpbkaa.Mbox
open Go.RowKit Go.Maps Go.ChangeShapes Go.WideShapes Go.ChangeAt Fifo Orow Word
set_option linter.unusedVariables false
attribute [local go_sem] Oper.semAt_some

theorem okb_keep {w w' : World} {B n sz : Nat} {e : TypeId} {v : Value} {L : List Value} (h : w.ownsRow B e sz v n L) {C : Nat} (hk : Book C w w') : w'.ownsRow B e sz v n L := by
  refine ⟨h.1, ?_⟩
  rcases h.2 with h2 | ⟨g, cap, cur, h1, h2, h3, r⟩
  · exact .inl h2
  · exact .inr ⟨g, cap, cur, h1, h2, hk.cells g _ h3 rfl, r⟩
/-- A round that appends to a row whose slice lies at the front of a block of its own. -/
theorem step_grow {k : Nat} {w W w5 : World} {t e : TypeId} {v v' : Value} {L L' : List Value} {o : Obj} {C sb : Nat} {tl : List Value} (hC : C ≤ sb) (h1 : Blk W sb t (v :: tl)) (h2 : W.ownsRow (sb + 1) e 1 v k L) (h3 : Below C w W) (r1 : w5.ownsRow (sb + 1) e 1 v' (k + 1) L')
    (r2 : (W.alloc o).grownBy w5 v.ownBlock) (r4 : v'.ownBlock = v.ownBlock ∨ v'.ownBlock = some (W.alloc o).heap.size) :
    ∃ a c, v' = .slice a (k + 1) c ∧ w5.cell? ⟨sb, 0, none⟩ = some v ∧ w5.frozen? ⟨sb, 0, none⟩ = false ∧ Blk (w5.setCell ⟨sb, 0, none⟩ v') sb t (v' :: tl) ∧ (w5.setCell ⟨sb, 0, none⟩ v').ownsRow (sb + 1) e 1 v' (k + 1) L' ∧
      Below C w (w5.setCell ⟨sb, 0, none⟩ v') ∧ (∀ j, (j = sb ∨ PB v' j) → (j = sb ∨ PB v j) ∨ W.heap.size ≤ j) ∧ Only (fun j => j = sb ∨ PB v j) W (w5.setCell ⟨sb, 0, none⟩ v') := by
  obtain ⟨a, c, hv, _⟩ := own_shape r1
  have hpv : ∀ j, PB v j → sb + 1 ≤ j := fun j hj => (h2.lt j hj).1
  have hpv' : ∀ j, PB v' j → sb + 1 ≤ j := fun j hj => (r1.lt j hj).1
  have hg : Only (PB v) (W.alloc o) w5 := ⟨r2.os, r2.tape, r2.output, r2.size, fun k hk hn => r2.block k hk (fun e => hn e.symm)⟩
  have ho1 : Only (PB v) W w5 := (Only.of_below ((Below.refl _ W).alloc (Nat.le_refl _) o)).trans hg
  have hB : Blk w5 sb t (v :: tl) := h1.only ho1 (fun hj => by have := hpv _ hj; omega)
  have hset := (Only.refl (fun j => j = sb) w5).setCell (p := ⟨sb, 0, none⟩) rfl v'
  subst hv
  refine ⟨a, c, rfl, hB.at 0 rfl, hB.frozen 0, hB.set 0 _, own_only r1 hset (fun j hj e => by have := (own_lt r1 j hj).1; omega), ?_, ?_, (ho1.mono (fun j _ h => .inr h)).trans (hset.mono (fun j _ h => .inl h))⟩
  · exact (h3.trans (ho1.below (by have := h1.lt; omega) (fun j hj => by have := hpv j hj; omega))).setCell (p := ⟨sb, 0, none⟩) hC _
  · rintro j (rfl | hj)
    · exact .inl (.inl rfl)
    · unfold PB at hj ⊢
      rcases r4 with h | h
      · exact .inl (.inr (h ▸ hj))
      · rw [h, World.size_alloc] at hj
        simp only [Option.some.injEq] at hj
        exact .inr (by omega)
set_option maxRecDepth 100000 in
set_option maxHeartbeats 2000000 in
theorem stateM_any (b room : Nat) (t : TypeId) (tl : List Value) (u : Bx) (O : Nat → Prop) (w : World) (h : MW w b room t tl u O) :
    Calls Try.prog 28 #[me b] w fun e w' => (∃ a c, e = .returned (.agg #[.slice a u.W.length c, .int .u32 u.C, .int .u32 u.L]) ∧ w'.ownsRow w.heap.size 28 1 (.slice a u.W.length c) u.W.length (lv u.W)) ∧ Below w.heap.size w w' := by
  obtain ⟨p, A, h, e⟩ := h
  obtain ⟨l, C, L⟩ := u
  obtain ⟨i0, hi, hz0, hz1, hz2⟩ := info_parts FL.info_e
  have Hi := Lib.hid hi
  have Hz0 := Lib.hid hz0
  have Hz1 := Lib.hid hz1
  have Hz2 := Lib.hid hz2
  clear hi hz0 hz1 hz2
  have K := Lib.hid (fun W (hb : Below w.heap.size w W) => h.keep hb)
  have c0 : ∀ W, Below w.heap.size w W → W.cell? ⟨b, 0, none⟩ = some p := fun W hb => (K.out W hb).blk.at 0 rfl
  have c1 : ∀ W, Below w.heap.size w W → W.cell? ⟨b, 1, none⟩ = some (.int .u32 C) := fun W hb => (K.out W hb).blk.at 1 rfl
  have c2 : ∀ W, Below w.heap.size w W → W.cell? ⟨b, 2, none⟩ = some (.int .u32 L) := fun W hb => (K.out W hb).blk.at 2 rfl
  have HA := Lib.hid (fun W (hb : Below w.heap.size w W) => (K.out W hb).row.all)
  have Hlen := Lib.hid h.ok.w.2
  clear h e
  refine (callsIn_wide (n := 4)).1 ?_
  refine callsIn_of_wp_marks Try.func28 rfl trivial ?_ rfl
  simp only [Try.ntmps28, List.size_toArray, List.length_cons, List.length_nil, Nat.reduceAdd, Nat.reduceSub, Array.replicate_succ, Array.replicate_zero, List.push_toArray, List.append_toArray, List.nil_append, List.cons_append]
  gi_wp2_with fail
  refine wpIn_wide.2 ?_
  refine code_letter ?_
  intro W hW
  have B0 := Lib.hid (show Below w.heap.size w W by rw [hW.out]; exact (Below.refl w.heap.size w).alloc (Nat.le_refl _) _)
  have Z0 := Lib.hid (show Blk W w.heap.size 37 [.slice none 0 0, .int .u32 0, .int .u32 0] by rw [hW.out]; exact Blk.new w _ [.slice none 0 0, .int .u32 0, .int .u32 0])
  clear hW
  obtain ⟨g, hg⟩ : ∃ g, w.heap.size = g := ⟨_, rfl⟩
  have HG := Lib.hid hg
  rw [hg] at Z0
  rw [hg]
  clear hg
  have e1 := c1 _ B0.out
  have e2 := c2 _ B0.out
  have e3 := c1 _ (B0.out.alloc B0.out.size (.cells #[.slice none 0 0, .int .u32 0, .int .u32 0] 37))
  have e4 := c2 _ (B0.out.alloc B0.out.size (.cells #[.slice none 0 0, .int .u32 0, .int .u32 0] 37))
  go_region
  refine exit_letter ?_
  intro X hX
  obtain ⟨sb, hsb⟩ : ∃ n, W.heap.size = n := ⟨_, rfl⟩
  have Hgs := Lib.hid (show g < sb by have := Z0.out.lt; omega)
  have B1 := Lib.hid (show Below w.heap.size w X by rw [hX.out]; exact (B0.out.alloc B0.out.size _).drew)
  have Z1 := Lib.hid (show Blk X g 37 [.slice none 0 0, .int .u32 0, .int .u32 0] by rw [hX.out]; exact Z0.out.keep ((Below.refl _ _).alloc (Nat.le_refl _) _).drew)
  have S1 := Lib.hid (show Blk X sb 37 [.slice none 0 0, .int .u32 C, .int .u32 L] by rw [hX.out, ← hsb]; exact (Blk.new W _ [.slice none 0 0, .int .u32 C, .int .u32 L]).keep (Below.refl _ _).drew)
  have e0 := c0 _ B1.out
  have HA1 := Lib.hid (HA.out _ B1.out)
  rw [hsb]
  clear hX e1 e2 e3 e4 Z0 B0 hsb c0 c1 c2 HA K
  gi_wp2_with (refine ⟨trivial, ?_⟩; gi_at_call 36; refine (callsIn_wide.2 HA1.out).mono ?_; rintro e w1 ⟨box, rfl, hb1, hs⟩; have Hseq := Lib.hid (hs 3 w1 (by omega) (Below.refl _ _)); have Hb1 := Lib.hid hb1; have Hbx := Lib.hid (S1.out.keep hb1); have Hbz := Lib.hid (Z1.out.keep hb1); clear hs hb1)
  have hs1 := Hb1.out.size
  have hs2 : sb < w1.heap.size := Hbx.out.lt
  have Hbw := Lib.hid (show Below g w w1 by have := B1.out.trans (Hb1.out.mono B1.out.size); rwa [HG.out] at this)
  refine range_law rfl (by omega) (gf := 49) (bound := #[]) (lb := #[.pointer (some ⟨box, 0, none⟩)]) rfl trivial (enters_of Try.func49 (by kernel_rfl) rfl)
    Hseq.out (fun _ => rfl) (fun j hj => hj.elim)
    (fun k T X => ∃ v, (T = fun j => j = sb ∨ PB v j) ∧ Blk X sb 37 [v, .int .u32 C, .int .u32 L] ∧ X.ownsRow (sb + 1) 28 1 v k (lv (l.take k)) ∧ Below g w X ∧ Blk X g 37 [.slice none 0 0, .int .u32 0, .int .u32 0])
    (fun _ _ _ _ => False) (fun j => j = sb ∨ PB (.slice none 0 0) j)
    (fun j hj hk => hk)
    (fun j hj => by
      rcases hj with hj | hj
      · omega
      · simp [PB, Value.ownBlock] at hj)
    (fun k T W W' h hk => by
      obtain ⟨v, hT, h1, h2, h3, h4⟩ := h
      exact ⟨v, hT, h1.book hk, okb_keep h2 hk, hk.below h3 (by have := Hgs.out; omega), h4.book hk⟩)
    (fun _ _ _ _ _ h _ => h)
    (fun k T W j h hj => by
      obtain ⟨v, rfl, h1, h2, h3, h4⟩ := h
      rcases hj with rfl | hj
      · exact h1.lt
      · exact (h2.lt j hj).2)
    ⟨.slice none 0 0, rfl, Hbx.out, World.ownsRow_nil _ _ _ _, Hbw.out, Hbz.out⟩ ?round ?done ?stop
  case round =>
    intro lp k T W0 hk
    obtain ⟨y, hy⟩ : ∃ y, l[k]? = some y := ⟨_, List.getElem?_eq_getElem hk⟩
    rw [show FL.els (lv l) k = #[.int .i64 (k : Nat), .int .u32 y] by simp [FL.els, lv, hy]]
    have Hk := Lib.hid hk
    have Hy := Lib.hid hy
    clear hk hy
    gi_wp2
    refine ⟨trivial, ?_⟩
    rintro W hsz ⟨v, rfl, h1, h2, h3, h4⟩ hT
    have q1 := h1.at 0 rfl
    have H1 := Lib.hid h1
    have H2 := Lib.hid h2
    have H3 := Lib.hid h3
    have H4 := Lib.hid h4
    obtain ⟨av, cv, hv, _⟩ := own_shape h2
    subst hv
    have hk6 : k ≤ 8 := by have := Hk.out; have := Hlen.out; omega
    clear h1 h2 h3 h4 hT
    gi_wp2_with (gi_at_builtin; refine wpListIn_append_own_at _ rfl _ _ 27 rfl (sb + 1) 28 i0 (.int .u32 0) 1 4 Try.underlying27 Hi.out Hz0.out Hz1.out Hz2.out rfl (by decide) _ _ _ rfl (own_keep H2.out ((Below.refl _ _).alloc (Nat.le_refl _) _)) ⟨W.heap.size, 0, none⟩ 1 1 [.int .u32 y] rfl rfl (cell_one_new _ _ _) (by simp [Value.oneCell']) (by unfold maxLen; omega) (by omega) (by simp; omega) ?_; intro v' w5 r1 r2 _ r4; obtain ⟨a5, c5, hv5, q5, f5, g1, g2, g3, g4, g5⟩ := step_grow (Nat.le_of_lt Hgs.out) H1.out H2.out H3.out r1 r2 r4; subst hv5; have G1 := Lib.hid g1; have G2 := Lib.hid g2; have G3 := Lib.hid g3; have G4 := Lib.hid g4; have G5 := Lib.hid g5; clear r1 r2 r4 g1 g2 g3 g4 g5 q1)
    refine ⟨_, G4.out, G5.out, _, rfl, G1.out, ?_, G3.out, H4.out.only G5.out (fun hj => by
      have hx := Hgs.out
      rcases hj with hj | hj
      · omega
      · have := (H2.out.lt g hj).1
        omega)⟩
    have e : l.take (k + 1) = l.take k ++ [y] := by rw [List.take_add_one, Hy.out]; rfl
    have e2 : lv (l.take (k + 1)) = lv (l.take k) ++ [.int .u32 y] := by rw [e]; simp [lv]
    rw [e2]
    exact G2.out
  case done =>
    rintro T W ⟨v, -, h1, h2, h3, h4⟩ hD
    obtain ⟨av, cv, hv, _⟩ := own_shape h2
    subst hv
    rw [List.take_length] at h2
    have q0 := h1.at 0 rfl
    have q1 := h1.at 1 rfl
    have q2 := h1.at 2 rfl
    have z0 := h4.at 0 rfl
    have z1 := h4.at 1 rfl
    have z2 := h4.at 2 rfl
    have f0 := h4.frozen 0
    have f1 := h4.frozen 1
    have f2 := h4.frozen 2
    have H2 := Lib.hid h2
    have H3 := Lib.hid h3
    have H4 := Lib.hid h4
    have HD := Lib.hid hD
    clear h1 h2 h3 h4 hD
    gi_wp2
    obtain ⟨Y, hY⟩ : ∃ Y, ((W.setCell ⟨g, 0, none⟩ (.slice av l.length cv)).setCell ⟨g, 1, none⟩ (.int .u32 C)).setCell ⟨g, 2, none⟩ (.int .u32 L) = Y := ⟨_, rfl⟩
    have YB : Blk Y g 37 [.slice av l.length cv, .int .u32 C, .int .u32 L] := by rw [← hY]; exact ((H4.out.set 0 _).set 1 _).set 2 _
    have YO : Only (fun j => j = g) W Y := by rw [← hY]; exact (((Only.refl (fun j => j = g) W).setCell (p := ⟨g, 0, none⟩) rfl _).setCell (p := ⟨g, 1, none⟩) rfl _).setCell (p := ⟨g, 2, none⟩) rfl _
    rw [hY]
    have hx := Hgs.out
    have YR := own_only H2.out YO (fun j hj e => by have := (own_lt H2.out j hj).1; have e : j = g := e; omega)
    have YD := YO.heap HD.out (fun e => by have e : w1.heap.size = g := e; omega)
    have YH : Below g w Y := H3.out.trans (YO.below (by have := H3.out.size; have := HG.out; omega) (fun k e => by have e : k = g := e; omega))
    have Hk := Book.put (B := w1.heap.size) (o' := .deferred none) (Nat.le_refl _) YD rfl
    have RB := YB.book Hk
    have r0 := RB.at 0 rfl
    have r1 := RB.at 1 rfl
    have r2 := RB.at 2 rfl
    refine ⟨by simp, .inl ⟨_, _, rfl, run_takeDeferred YD, ?_⟩⟩
    refine ⟨.agg #[.slice av l.length cv, .int .u32 C, .int .u32 L], ?_, ⟨av, cv, rfl, own_mono (okb_keep YR Hk) (by have := HG.out; omega)⟩, by rw [HG.out]; exact Hk.below YH (by omega)⟩
    simp [results, Try.results28, go_sem, r0, r1, r2]
  case stop =>
    intro c k T W _ h
    exact h.elim
set_option maxRecDepth 100000 in
theorem apart_any (b : Nat) (t : TypeId) (tl : List Value) (u : Bx) (g1 : Nat) (A : Nat → Prop) (w : World) (h : MB w b 4 t tl u (me g1) A) (hs : FL.St w g1 4 (lv u.W) A) :
    Calls Try.prog 26 #[me b] w fun e w' => ∃ c A', e = .returned (.agg #[me c, .int .u32 u.C, .int .u32 u.L]) ∧ FL.St w' c 4 (lv u.W) A' ∧ (∀ j, A' j → w.heap.size ≤ j) ∧ Below w.heap.size w w' := by
  obtain ⟨l, C, L⟩ := u
  go_enter Try.func26, Try.ntmps26
  go_wp2_with fail
  refine code_letter ?_
  intro W hW
  have B0 := Lib.hid (show Below w.heap.size w W by rw [hW.out]; exact (Below.refl w.heap.size w).alloc (Nat.le_refl _) _)
  have Z0 := Lib.hid (show Blk W w.heap.size 44 [.pointer none, .int .u32 0, .int .u32 0] by rw [hW.out]; exact Blk.new w _ [.pointer none, .int .u32 0, .int .u32 0])
  clear hW
  obtain ⟨g, hg⟩ : ∃ g, w.heap.size = g := ⟨_, rfl⟩
  have HG := Lib.hid hg
  rw [hg] at Z0
  rw [hg]
  clear hg
  have hbg : b < g := by have := h.blk.lt; have := HG.out; omega
  have hag : ∀ j, A j → j < g := fun j hj => by have := h.row.lt j hj; have := HG.out; omega
  have K := Lib.hid (fun W' (ho : Only (fun j => j = g) W W') => show MB W' b 4 t tl ⟨l, C, L⟩ (me g1) A from (h.keep B0.out).only ho (fun e => by have e : b = g := e; omega) (fun j hj e => by have := hag j hj; have e : j = g := e; omega))
  have HC := Lib.hid (fun W' (ho : Only (fun j => j = g) W W') => FL.Copy_st g1 4 _ A W' ((hs.keep B0.out).only ho (fun j hj e => by have := hag j hj; have e : j = g := e; omega)))
  have c0 : ∀ w', Only (fun j => j = g) W w' → w'.cell? ⟨b, 0, none⟩ = some (me g1) := fun w' h => (K.out w' h).blk.at 0 rfl
  have c1 : ∀ w', Only (fun j => j = g) W w' → w'.cell? ⟨b, 1, none⟩ = some (.int .u32 C) := fun w' h => (K.out w' h).blk.at 1 rfl
  have c2 : ∀ w', Only (fun j => j = g) W w' → w'.cell? ⟨b, 2, none⟩ = some (.int .u32 L) := fun w' h => (K.out w' h).blk.at 2 rfl
  have D1 : Below W.heap.size W W.drew := (Below.refl W.heap.size W).drew
  have D0 : Only (fun j => j = g) W W.drew := Only.of_below D1
  clear K h hs hbg hag
  refine wp_region_held_drew (S := fun w' => Only (fun j => j = g) W w') (by kernel_rfl) D0 (fun hHeld => ?_)
  refine wpAnyH_take (i := 0) (v := ?_) rfl (by kernel_rfl) (by kernel_rfl) (by kernel_rfl) (fun _ _ _ h => h) (Or.inl ⟨by rfl, ?_⟩) (by assumption) ?_
  rotate_left
  · (intro w hSw; (try dsimp only at hSw); go_simp; try (with_reducible rfl))
  try simp only [Act.put]
  refine wpAnyH_take (i := 1) (v := ?_) rfl (by kernel_rfl) (by kernel_rfl) (by kernel_rfl) (fun _ _ _ h => h) (Or.inl ⟨by rfl, ?_⟩) (by assumption) ?_
  rotate_left
  · (intro w hSw; (try dsimp only at hSw); go_simp; try (with_reducible rfl))
  try simp only [Act.put]
  refine wpAnyH_take (i := 2) (v := ?_) rfl (by kernel_rfl) (by kernel_rfl) (by kernel_rfl) (fun _ _ _ h => h) (Or.inl ⟨by rfl, ?_⟩) (by assumption) ?_
  rotate_left
  · (intro w hSw; (try dsimp only at hSw); go_simp; try (with_reducible rfl))
  try simp only [Act.put]
  refine wpAnyH_take (i := 3) (v := ?_) rfl (by kernel_rfl) (by kernel_rfl) (by kernel_rfl) (fun _ _ _ h => h) (Or.inl ⟨by rfl, ?_⟩) (by assumption) ?_
  rotate_left
  · (intro w hSw; (try dsimp only at hSw); go_simp; try (with_reducible rfl))
  try simp only [Act.put]
  refine wpAnyH_take (i := 5) (v := ?_) rfl (by kernel_rfl) (by kernel_rfl) (by kernel_rfl) (fun _ _ _ h => h) (Or.inl ⟨by rfl, ?_⟩) (by assumption) ?_
  rotate_left
  · (intro w hSw; (try dsimp only at hSw); go_simp; try (with_reducible rfl))
  try simp only [Act.put]
  refine wpAnyH_take (i := 6) (v := ?_) rfl (by kernel_rfl) (by kernel_rfl) (by kernel_rfl) (fun _ _ _ h => h) (Or.inl ⟨by rfl, ?_⟩) (by assumption) ?_
  rotate_left
  · (intro w hSw; (try dsimp only at hSw); go_simp; try (with_reducible rfl))
  try simp only [Act.put]
  refine wpAnyH_take (i := 7) (v := ?_) rfl (by kernel_rfl) (by kernel_rfl) (by kernel_rfl) (fun _ _ _ h => h) (Or.inl ⟨by rfl, ?_⟩) (by assumption) ?_
  rotate_left
  · (intro w hSw; (try dsimp only at hSw); go_simp; try (with_reducible rfl))
  try simp only [Act.put]
  refine wpAnyH_take (i := 8) (v := ?_) rfl (by kernel_rfl) (by kernel_rfl) (by kernel_rfl) (fun _ _ _ h => h) (Or.inl ⟨by rfl, ?_⟩) (by assumption) ?_
  rotate_left
  · (intro w hSw; (try dsimp only at hSw); go_simp; try (with_reducible rfl))
  try simp only [Act.put]
  refine wpAnyH_take (i := 9) (v := ?_) rfl (by kernel_rfl) (by kernel_rfl) (by kernel_rfl) (fun _ _ _ h => h) (Or.inl ⟨by rfl, ?_⟩) (by assumption) ?_
  rotate_left
  · (intro w hSw; (try dsimp only at hSw); go_simp; try (with_reducible rfl))
  try simp only [Act.put]
  refine wpAnyH_take (i := 10) (v := ?_) rfl (by kernel_rfl) (by kernel_rfl) (by kernel_rfl) (fun _ _ _ h => h) (Or.inl ⟨by rfl, ?_⟩) (by assumption) ?_
  rotate_left
  · (intro w hSw; (try dsimp only at hSw); go_simp; try (with_reducible rfl))
  try simp only [Act.put]
  refine wpAnyH_take (i := 11) (v := ?_) rfl (by kernel_rfl) (by kernel_rfl) (by kernel_rfl) (fun _ _ _ h => h) (Or.inl ⟨by rfl, ?_⟩) (by assumption) ?_
  rotate_left
  · (intro w hSw; (try dsimp only at hSw); go_simp; try (with_reducible rfl))
  try simp only [Act.put]
  refine wpAnyH_take (i := 12) (v := ?_) rfl (by kernel_rfl) (by kernel_rfl) (by kernel_rfl) (fun _ _ _ h => h) (Or.inl ⟨by rfl, ?_⟩) (by assumption) ?_
  rotate_left
  · (intro w hSw; (try dsimp only at hSw); go_simp; try (with_reducible rfl))
  try simp only [Act.put]
  refine wpAnyH_ready (rs := [4]) (by kernel_rfl) (by simp) ?_
  refine AllReadyH.cons rfl (fun K hK => ?_) AllReadyH.nil
  go_simp
  refine (HC.out _ hHeld).mono ?_
  rintro e w5 ⟨c, A', rfl, ho1, hn1, hb5⟩
  have R1 := Lib.hid ho1
  have N1 := Lib.hid hn1
  have X1 := Lib.hid (D1.trans (hb5.mono D1.size))
  have hon : Only (fun j => j = g) W w5 := Only.of_below X1.out
  clear ho1 hb5 hn1
  refine hK.out _ _ hon (fun hHeld => ?_)
  clear hK hon
  try simp only [Act.put]
  refine wpAnyH_take (i := 13) (v := ?_) rfl (by kernel_rfl) (by kernel_rfl) (by kernel_rfl) (fun _ _ _ h => h) (Or.inl ⟨by rfl, ?_⟩) (by assumption) ?_
  rotate_left
  · (intro w hSw; (try dsimp only at hSw); go_simp; try (with_reducible rfl))
  try simp only [Act.put]
  refine wpAnyH_ready (rs := [14]) (by kernel_rfl) (by simp) ?_
  refine AllReadyH.cons rfl (fun K hK => ?_) AllReadyH.nil
  rw [if_pos (by rfl)]
  refine oper_store _ _ _ rfl g 0 [me c, .int .u32 C, .int .u32 L] rfl rfl 44 _ (Z0.out.keep X1.out) (by kernel_rfl) (by simp) (by simp [Value.oneCell']) ?_
  intro Y hY hoY
  have R := Lib.hid (show Blk Y g 44 [me c, .int .u32 C, .int .u32 L] from hY)
  have O := Lib.hid hoY
  clear hY hoY
  have hon : Only (fun j => j = g) W Y := (Only.of_below X1.out).trans O.out
  refine hK.out _ _ hon (fun hHeld => ?_)
  clear hK hon
  simp only [Act.put, List.getElem_toArray, List.getElem_cons_succ, List.getElem_cons_zero]
  refine wpAnyH_done (by kernel_rfl) ?_ _
  have r0 := R.out.at 0 rfl
  have r1 := R.out.at 1 rfl
  have r2 := R.out.at 2 rfl
  go_wp2_with fail
  have hg := HG.out
  have hgW := Z0.out.lt
  have hd : W.drew.heap.size = W.heap.size := rfl
  have n1 := N1.out
  have T1 : FL.St Y c 4 (lv l) A' := R1.out.only O.out (fun j hj e => by have := n1 j hj; have e : j = g := e; omega)
  have T2 : ∀ j, A' j → w.heap.size ≤ j := fun j hj => by have := n1 j hj; omega
  have T3 : Below w.heap.size w Y := (B0.out.trans (X1.out.mono B0.out.size)).trans (O.out.below (by have := (B0.out.trans (X1.out.mono B0.out.size)).size; omega) (fun k e => by have e : k = g := e; omega))
  refine bodyPost_ret (v := .agg #[me c, .int .u32 C, .int .u32 L]) ?_ rfl ⟨c, A', rfl, T1, T2, T3⟩
  simp [results, Try.results26, go_sem, r0, r1, r2]
end Go.Proofs.Ytkcghcoacjpbkaa.Mbox
