/- Package dma: who is asked; a step, from place to place. -/
import Derived.Test.YthpkebcedaakhaaDv
import Derived.Defers
import Derived.Recover
import Derived.WalkMore
import Derived.Scope
namespace Go.Proofs.Ythpkebcedaakhaa.Dma
open Go.RowKit Go.Maps Go.ChangeShapes Go.WideShapes Go.ChangeAt Fifo Orow Word Fmap
set_option linter.unusedVariables false

/-- A scope whose gotos lead ever on: so many at the most. -/
def Jumps (P : Program) (c : Code) (Q : Exit → Act → World → Prop) : Nat → Exit → Act → World → Prop
  | 0, e, a, w => (match e with | .goto _ => False | e => Q e a w)
  | n + 1, e, a, w => (match e with | .goto l => ∃ rest, findLabel c l = some rest ∧ rest.wp P (Jumps P c Q n) a w | e => Q e a w)
theorem jumps_ret {P : Program} {c : Code} {Q : Exit → Act → World → Prop} (n : Nat) {a : Act} {w : World} : Jumps P c Q n .ret a w = Q .ret a w := by cases n <;> rfl
theorem jumps_normal {P : Program} {c : Code} {Q : Exit → Act → World → Prop} (n : Nat) {a : Act} {w : World} : Jumps P c Q n .normal a w = Q .normal a w := by cases n <;> rfl
theorem wp_scope_on {P : Program} {c : Code} {Q : Exit → Act → World → Prop} {a : Act} {w : World} (n : Nat) (h : c.wp P (Jumps P c Q n) a w) : (Code.scope c).wp P Q a w := by
  intro b k cs
  have key : ∀ n e a₁ w₁, Jumps P c Q n e a₁ w₁ → ∀ fr, Arrives P fr b (.inScope c :: k) cs e a₁ w₁ → ∃ e a' w', Q e a' w' ∧ Arrives P fr b k cs e a' w' := by
    intro n
    induction n with
    | zero =>
      intro e a₁ w₁ hq fr harr
      cases e with
      | normal => exact ⟨.normal, a₁, w₁, hq, Steps.trans harr (.one step_inScope)⟩
      | exit id => exact ⟨.exit id, a₁, w₁, hq, fun k' hk => harr k' (by simp [exitTo, hk])⟩
      | goto l' => exact hq.elim
      | ret => exact ⟨_, a₁, w₁, hq, harr⟩
      | panic ch => exact ⟨_, a₁, w₁, hq, harr⟩
      | outgrown => exact ⟨_, a₁, w₁, hq, harr⟩
    | succ n ih =>
      intro e a₁ w₁ hq fr harr
      cases e with
      | normal => exact ⟨.normal, a₁, w₁, hq, Steps.trans harr (.one step_inScope)⟩
      | exit id => exact ⟨.exit id, a₁, w₁, hq, fun k' hk => harr k' (by simp [exitTo, hk])⟩
      | goto l' =>
        obtain ⟨rest, hf, hr⟩ := hq
        have hg : gotoIn l' (.inScope c :: k) = some (.code rest :: .inScope c :: k) := by simp [gotoIn, hf]
        obtain ⟨e₂, a₂, w₂, hq₂, harr₂⟩ := hr b (.inScope c :: k) cs
        obtain ⟨e₃, a₃, w₃, hq₃, harr₃⟩ := ih e₂ a₂ w₂ hq₂ _ harr₂
        exact ⟨e₃, a₃, w₃, hq₃, .of_steps (harr _ hg) harr₃⟩
      | ret => exact ⟨_, a₁, w₁, hq, harr⟩
      | panic ch => exact ⟨_, a₁, w₁, hq, harr⟩
      | outgrown => exact ⟨_, a₁, w₁, hq, harr⟩
  obtain ⟨e, a₁, w₁, hq, harr⟩ := h b (.inScope c :: k) cs
  obtain ⟨e₂, a₂, w₂, hq₂, harr₂⟩ := key n e a₁ w₁ hq _ harr
  exact ⟨e₂, a₂, w₂, hq₂, .of_steps (.one step_scope) harr₂⟩
/-- The mark is taken away; nothing is recovered. -/
theorem marked_back (p b : Nat) (s : En) (x : Value) (w : World) (hp : w.cell? ⟨p, 0, none⟩ = some (.pointer (some ⟨b, 0, none⟩))) (c9 : w.cell? ⟨b, 9, none⟩ = some x) (f9 : w.frozen? ⟨b, 9, none⟩ = false) :
    CallsD Try.prog 54 #[.pointer (some ⟨p, 0, none⟩)] .returning w fun e u' w' => e = .returned (.tuple #[]) ∧ u' = .returning ∧ w' = w.setCell ⟨b, 9, none⟩ (.bool false) := by
  refine callsD_of_wpS Try.func54 rfl fun c₀ cs hu => ?_
  apply wpS_seq
  apply wpS_region
  simp [wpOpsS, go_sem, recoverD, hu, Try.ntmps54, Exit.thenS, hp, c9, f9]
  apply wpS_region
  simp [wpOpsS, go_sem, recoverD, hu, bodyPostS, results, Try.results54]
  cases c₀
  simp_all
/-- A box of one cell. -/
def Box (w : World) (p : Nat) (v : Value) : Prop := ∃ t, Blk w p t [v]
theorem Box.keep {w w' : World} {p : Nat} {v : Value} (h : Box w p v) (hb : Below w.heap.size w w') : Box w' p v := by
  obtain ⟨t, h⟩ := h
  exact ⟨t, h.keep hb⟩
theorem Box.only {S : Nat → Prop} {w w' : World} {p : Nat} {v : Value} (h : Box w p v) (ho : Only S w w') (hn : ¬ S p) : Box w' p v := by
  obtain ⟨t, h⟩ := h
  exact ⟨t, h.only ho hn⟩
theorem Box.lt {w : World} {p : Nat} {v : Value} (h : Box w p v) : p < w.heap.size := by
  obtain ⟨t, h⟩ := h
  exact h.lt
theorem Box.at {w : World} {p : Nat} {v : Value} (h : Box w p v) : w.cell? ⟨p, 0, none⟩ = some v := by
  obtain ⟨t, h⟩ := h
  exact h.at 0 rfl
theorem asker_any (b : Nat) (world : Int) (g : Nat) (rv lb : Array Value) (w : World) :
    Calls Try.prog 36 #[me b, .int .i64 world, .func (.func g) rv lb] w fun e w' => (∃ pe pa pw, e = .returned (.func (.func 53) #[] #[me pe, me pa, me pw]) ∧ Box w' pe (me b) ∧ Box w' pa (.func (.func g) rv lb) ∧ Box w' pw (.int .i64 world) ∧ w.heap.size ≤ pe ∧ w.heap.size ≤ pa ∧ w.heap.size ≤ pw) ∧ Below w.heap.size w w' := by
  have hmf : ∀ (fn : Fn) (first cap : Array Value) (w : World), (Instr.makeFunc fn first cap).run Try.prog w = .ok (.func fn first cap) w := fun _ _ _ _ => rfl
  go_enter Try.func36, Try.ntmps36
  go_wp2_with fail
  go_ret
  refine ⟨⟨w.heap.size, w.heap.size + 2, w.heap.size + 1, by simp, ?_, ?_, ?_, Nat.le_refl _, by omega, by omega⟩, (((Below.refl _ _).alloc (Nat.le_refl _) _).alloc (by simp) _).alloc (by simp; omega) _⟩
  · exact ⟨_, ((Blk.new w _ [me b]).alloc _).alloc _⟩
  · have e := Blk.new ((w.alloc (.cells #[me b] 27)).alloc (.cells #[.int .i64 world] 3)) 54 [.func (.func g) rv lb]
    exact ⟨_, by simpa using e⟩
  · have e := (Blk.new (w.alloc (.cells #[me b] 27)) 3 [.int .i64 world]).alloc (.cells #[.func (.func g) rv lb] 54)
    exact ⟨_, by simpa using e⟩
theorem asks_any (b : Nat) (s : En) (x : Value) (pe pa pw : Nat) (g : Nat) (rv lb : Array Value) (world : Int) (S : Nat → Prop) (T : Int → Int → World → Prop) (wr : Bool) (A D : Int) (w : World)
    (h : EX w b s false x) (he : Box w pe (me b)) (ha : Box w pa (.func (.func g) rv lb)) (hw : Box w pw (.int .i64 world)) (hne : pe ≠ b ∧ pa ≠ b ∧ pw ≠ b) (hS : ∀ j, S j → j ≠ b ∧ j ≠ pe)
    (eg : ∀ args w, (callFunc g args).run Try.prog w = .ok (.enter g args) w)
    (hq : Calls Try.prog g (rv ++ #[accV world wr A 4 D] ++ lb) (w.setCell ⟨b, 9, none⟩ (.bool true)) fun e w' => ∃ v err, e = .returned (.agg #[.int .u32 v, .int .i64 err]) ∧ T v err w' ∧ Only S (w.setCell ⟨b, 9, none⟩ (.bool true)) w') :
    Calls Try.prog 53 #[.bool wr, .int .u32 A, .int .u32 D, me pe, me pa, me pw] w fun e w' => ∃ v err W1, e = .returned (.tuple #[.int .u32 v, .bool (err == 0)]) ∧ T v err W1 ∧ Only S (w.setCell ⟨b, 9, none⟩ (.bool true)) W1 ∧ EX w' b s false x ∧ Only (fun j => j = b) W1 w' := by
  have hmf : ∀ (fn : Fn) (first cap : Array Value) (w : World), (Instr.makeFunc fn first cap).run Try.prog w = .ok (.func fn first cap) w := fun _ _ _ _ => rfl
  have M := Lib.hid (ex_set h 9 (.bool true) (s' := s) (k' := true) rfl h.ok)
  have PE := Lib.hid (he.only M.out.2 hne.1)
  have HS := Lib.hid hS
  have Q := Lib.hid hq
  have c9 := h.c 9 rfl
  have f9 := h.blk.frozen 9
  have ce := he.at
  have ca := ha.at
  have cw := hw.at
  have n1 : ¬ pe = b := hne.1
  have n2 : ¬ pa = b := hne.2.1
  have n3 : ¬ pw = b := hne.2.2
  have n4 : ¬ b = pe := fun e => n1 e.symm
  have n5 : ¬ b = pa := fun e => n2 e.symm
  have n6 : ¬ b = pw := fun e => n3 e.symm
  clear h he ha hw hne hS hq
  go_enter_defers Try.func53, Try.ntmps53
  go_wp2_with fail
  refine Q.out.mono ?_
  rintro e W1 ⟨v, err, rfl, hT, hO⟩
  have R := Lib.hid (And.intro hT hO)
  have M1 := Lib.hid (M.out.1.only hO (fun h => (HS.out b h).1 rfl))
  have PE1 := Lib.hid (PE.out.only hO (fun h => (HS.out pe h).2 rfl))
  clear hT hO Q c9 f9 ce ca cw
  go_wp2_with fail
  refine code_letter ?_
  intro U hU
  have B := Lib.hid (show Below W1.heap.size W1 U by rw [hU.out]; exact (Below.refl _ _).alloc (Nat.le_refl _) _)
  have Z := Lib.hid (show Blk U W1.heap.size 41 [.int .u32 v, .int .i64 err] by rw [hU.out]; exact Blk.new W1 _ _)
  clear hU
  have z0 := Z.out.at 0 rfl
  have z1 := Z.out.at 1 rfl
  go_region
  go_wp2_with fail
  have M2 := Lib.hid (EX.keep (w := U) (w' := U.drew) (M1.out.keep B.out) (Below.refl _ _).drew)
  have PE2 := Lib.hid (Box.keep (w := U) (w' := U.drew) (PE1.out.keep B.out) (Below.refl _ _).drew)
  have BB := Lib.hid (show Below W1.heap.size W1 U.drew from B.out.drew)
  refine leaves_cons (f := 54) (args := #[me pe]) (by simp) (by simp [go_sem]) ?_
  refine (marked_back pe b s _ _ PE2.out.at (M2.out.c 9 rfl) (M2.out.blk.frozen 9)).mono ?_
  rintro e u' w2 ⟨rfl, rfl, rfl⟩
  have F := ex_set M2.out 9 (.bool false) (s' := s) (k' := false) rfl M2.out.ok
  exact ⟨_, results_tmp2 rfl _ _ _, v, err, W1, rfl, R.out.1, R.out.2, F.1, (Only.of_below BB.out).trans F.2⟩
/-- What a step leaves. -/
def Stepped (R : World → Int → Int → World → Prop) (b : Nat) (s : En) (x : Value) (w w' : World) : Prop := ∃ W W1 v err, Below w.heap.size w W ∧ (0 ≤ v ∧ v < 4294967296) ∧ R W v err W1 ∧ EX w' b (toldE s v err) false x ∧ Only (fun j => j = b) W1 w'
theorem plus4_b (x : Int) : 0 ≤ plus4 x ∧ plus4 x < 4294967296 := by unfold plus4; omega
theorem toldX_yes (F T L H : Int) (don den cal : Bool) (v : Int) : toldE ⟨F, T, L, H, false, true, den, don, cal⟩ v 0 = ⟨plus4 F, T, L, v, true, true, den, don, cal⟩ := by simp [toldE]
theorem toldX_no (F T L H : Int) (has busy den don cal : Bool) (v err : Int) (h : err ≠ 0) : toldE ⟨F, T, L, H, has, busy, den, don, cal⟩ v err = ⟨F, T, L, 0, false, false, true, don, cal⟩ := by simp [toldE, h]
theorem toldX_last (F T L H : Int) (den don cal : Bool) (v : Int) (h : L = 1) : toldE ⟨F, T, L, H, true, true, den, don, cal⟩ v 0 = ⟨F, plus4 T, 0, 0, false, false, den, true, cal⟩ := by simp [toldE, h]
theorem toldX_more (F T L H : Int) (den don cal : Bool) (v : Int) (h : L ≠ 1) : toldE ⟨F, T, L, H, true, true, den, don, cal⟩ v 0 = ⟨F, plus4 T, (L - 1) % 4294967296, 0, false, true, den, don, cal⟩ := by simp [toldE, h]
theorem step_read (b : Nat) (F T L H : Int) (den don cal : Bool) (x : Value) (ga : Nat) (la : Array Value) (eg : ∀ args w, (callFunc ga args).run Try.prog w = .ok (.enter ga args) w) (R : World → Int → Int → World → Prop) (w : World)
    (h : EX w b ⟨F, T, L, H, false, true, den, don, cal⟩ false x) (hq : ∀ W, Below w.heap.size w W → Calls Try.prog ga (#[.bool false, .int .u32 F, .int .u32 0] ++ la) W fun e w' => ∃ v err, e = .returned (.tuple #[.int .u32 v, .bool (err == 0)]) ∧ (0 ≤ v ∧ v < 4294967296) ∧ R W v err w' ∧ EX w' b ⟨F, T, L, H, false, true, den, don, cal⟩ false x) :
    Calls Try.prog 35 #[me b, .func (.func ga) #[] la] w fun e w' => e = .returned (.tuple #[]) ∧ Stepped R b ⟨F, T, L, H, false, true, den, don, cal⟩ x w w' := by
  have c4 := h.c 4 rfl
  have c0 := h.c 0 rfl
  have Q := Lib.hid (hq w (Below.refl _ _))
  have ei : IntKind.u32.wrap (F + 4) = plus4 F := IntKind.wrap_u32 _
  have ei2 : (F + 4) % 4294967296 = plus4 F := rfl
  have ty := Lib.hid (fun v => toldX_yes F T L H don den cal v)
  have pb := Lib.hid (plus4_b F)
  obtain ⟨n, hn⟩ : ∃ n, plus4 F = n := ⟨_, rfl⟩
  rw [hn] at ei ei2 ty pb
  clear h hq hn
  go_enter Try.func35, Try.ntmps35
  refine wp_scope_on 3 ?_
  go_wp2_with fail
  refine Q.out.mono ?_
  rintro e w1 ⟨v, err, rfl, hv, hR, h1⟩
  have BW := Lib.hid (Below.refl w.heap.size w)
  obtain ⟨W0, hW0⟩ : ∃ W0, w = W0 := ⟨_, rfl⟩
  have RR := Lib.hid (show R W0 v err w1 by rw [← hW0]; exact hR)
  have BW := Lib.hid (show Below w.heap.size w W0 by rw [← hW0]; exact Below.refl _ _)
  have M := Lib.hid h1
  have V := Lib.hid hv
  clear hR h1 hv Q c4 c0 hW0
  have c5 := M.out.c 5 rfl
  obtain ⟨B, hB⟩ : ∃ B, (err == 0) = B := ⟨_, rfl⟩
  rw [hB]
  cases B
  · have HE := Lib.hid (show err ≠ 0 by simpa using hB)
    clear hB
    go_wp2_with fail
    go_step3
    refine ⟨_, rfl, ?_⟩
    go_wp2_with fail
    go_step3
    refine ⟨_, rfl, ?_⟩
    go_wp2_with fail
    refine (stop_any b ⟨F, T, L, H, false, true, den, don, cal⟩ false x _ M.out).mono ?_
    rintro e w2 ⟨rfl, h1, h2⟩
    have N := Lib.hid (ex_set h1 6 (.bool true) (s' := ⟨F, T, L, 0, false, false, true, don, cal⟩) (k' := false) rfl ⟨h1.ok.f, h1.ok.t, h1.ok.l, h1.ok.h⟩)
    have O2 := Lib.hid h2
    have d6 := h1.c 6 rfl
    have g6 := h1.blk.frozen 6
    clear h1 h2 c5
    go_wp2_with fail
    rw [jumps_normal]
    go_end0
    exact ⟨rfl, W0, w1, v, err, BW.out, V.out, RR.out, by rw [toldX_no F T L H false true den don cal v err HE.out]; exact N.out.1, O2.out.trans N.out.2⟩
  · have HE := Lib.hid (show err = 0 by simpa using hB)
    clear hB
    go_wp2_with fail
    go_step3
    refine ⟨_, rfl, ?_⟩
    go_wp2_with fail
    refine (hold_any b v _ _ w1 (M.out.c 3 rfl) (M.out.c 4 rfl) (M.out.blk.frozen 3) (M.out.blk.frozen 4)).mono ?_
    rintro e w2 ⟨rfl, hw2⟩
    have M2 := Lib.hid (show EX w2 b ⟨F, T, L, v, true, true, den, don, cal⟩ false x ∧ Only (fun j => j = b) w1 w2 by
      rw [hw2]
      exact ex_set2 M.out 3 (.int .u32 v) (s' := ⟨F, T, L, v, false, true, den, don, cal⟩) (k' := false) rfl ⟨M.out.ok.f, M.out.ok.t, M.out.ok.l, V.out⟩ 4 (.bool true) (s'' := ⟨F, T, L, v, true, true, den, don, cal⟩) (k'' := false) rfl ⟨M.out.ok.f, M.out.ok.t, M.out.ok.l, V.out⟩)
    have N := Lib.hid (ex_set M2.out.1 0 (.int .u32 n) (s' := ⟨n, T, L, v, true, true, den, don, cal⟩) (k' := false) rfl ⟨pb.out, M2.out.1.ok.t, M2.out.1.ok.l, M2.out.1.ok.h⟩)
    have d0 := M2.out.1.c 0 rfl
    have g0 := M2.out.1.blk.frozen 0
    clear hw2 c5
    go_wp2_with fail
    rw [jumps_ret]
    refine bodyPost_ret (results_none rfl _ _ _) rfl ?_
    exact ⟨rfl, W0, w1, v, err, BW.out, V.out, RR.out, by rw [HE.out, ty.out v]; exact N.out.1, M2.out.2.trans N.out.2⟩
set_option maxHeartbeats 1000000 in
theorem step_write (b : Nat) (F T L H : Int) (den don cal : Bool) (x : Value) (ga : Nat) (la : Array Value) (eg : ∀ args w, (callFunc ga args).run Try.prog w = .ok (.enter ga args) w) (R : World → Int → Int → World → Prop) (w : World)
    (h : EX w b ⟨F, T, L, H, true, true, den, don, cal⟩ false x) (hq : ∀ W, Below w.heap.size w W → Calls Try.prog ga (#[.bool true, .int .u32 T, .int .u32 H] ++ la) W fun e w' => ∃ v err, e = .returned (.tuple #[.int .u32 v, .bool (err == 0)]) ∧ (0 ≤ v ∧ v < 4294967296) ∧ R W v err w' ∧ EX w' b ⟨F, T, L, H, true, true, den, don, cal⟩ false x) :
    Calls Try.prog 35 #[me b, .func (.func ga) #[] la] w fun e w' => e = .returned (.tuple #[]) ∧ Stepped R b ⟨F, T, L, H, true, true, den, don, cal⟩ x w w' := by
  have c4 := h.c 4 rfl
  have Q := Lib.hid (hq w.drew (Below.refl _ _).drew)
  have HS : EX w.drew b ⟨F, T, L, H, true, true, den, don, cal⟩ false x := h.keep (Below.refl _ _).drew
  have bT := Lib.hid h.ok.t
  have bL := Lib.hid h.ok.l
  have ei : IntKind.u32.wrap (T + 4) = plus4 T := IntKind.wrap_u32 _
  have ei2 : (T + 4) % 4294967296 = plus4 T := rfl
  have tl := Lib.hid (fun v h => toldX_last F T L H den don cal v h)
  have tm := Lib.hid (fun v h => toldX_more F T L H den don cal v h)
  have pb := Lib.hid (plus4_b T)
  obtain ⟨n, hn⟩ : ∃ n, plus4 T = n := ⟨_, rfl⟩
  rw [hn] at ei ei2 tl tm pb
  clear h hq hn
  have l1 : ∀ w', EX w' b ⟨F, T, L, H, true, true, den, don, cal⟩ false x → w'.cell? ⟨b, 1, none⟩ = some (.int .u32 T) := fun w' h => h.c 1 rfl
  have l3 : ∀ w', EX w' b ⟨F, T, L, H, true, true, den, don, cal⟩ false x → w'.cell? ⟨b, 3, none⟩ = some (.int .u32 H) := fun w' h => h.c 3 rfl
  go_enter Try.func35, Try.ntmps35
  refine wp_scope_on 3 ?_
  go_wp2_with fail
  go_step3
  refine ⟨_, rfl, ?_⟩
  go_wp2_with fail
  refine wp_region_held_drew (S := fun w' => EX w' b ⟨F, T, L, H, true, true, den, don, cal⟩ false x) (by kernel_rfl) HS (fun hHeld => ?_)
  refine wpAnyH_take (i := 0) (v := ?_) rfl (by kernel_rfl) (by kernel_rfl) (by kernel_rfl) (fun _ _ _ h => h) (Or.inl ⟨by rfl, ?_⟩) (by assumption) ?_
  rotate_left
  · (intro w hSw; (try dsimp only at hSw); go_simp; try (with_reducible rfl))
  try simp only [Act.put]
  refine wpAnyH_take (i := 1) (v := ?_) rfl (by kernel_rfl) (by kernel_rfl) (by kernel_rfl) (fun _ _ _ h => h) (Or.inl ⟨by rfl, ?_⟩) (by assumption) ?_
  rotate_left
  · (intro w hSw; (try dsimp only at hSw); go_simp; try (with_reducible rfl))
  try simp only [Act.put]
  refine wpAnyH_take (i := 2) (v := ?_) rfl (by kernel_rfl) (by kernel_rfl) (by kernel_rfl) (fun _ _ _ h => h) (Or.inl ⟨by rfl, ?_⟩) (by assumption) ?_
  rotate_left
  · (intro w hSw; (try dsimp only at hSw); go_simp; try (with_reducible rfl))
  try simp only [Act.put]
  refine wpAnyH_take (i := 3) (v := ?_) rfl (by kernel_rfl) (by kernel_rfl) (by kernel_rfl) (fun _ _ _ h => h) (Or.inl ⟨by rfl, ?_⟩) (by assumption) ?_
  rotate_left
  · (intro w hSw; (try dsimp only at hSw); go_simp; try (with_reducible rfl))
  try simp only [Act.put]
  refine wpAnyH_take (i := 4) (v := ?_) rfl (by kernel_rfl) (by kernel_rfl) (by kernel_rfl) (fun _ _ _ h => h) (Or.inl ⟨by rfl, ?_⟩) (by assumption) ?_
  rotate_left
  · (intro w hSw; (try dsimp only at hSw); go_simp; try (with_reducible rfl))
  try simp only [Act.put]
  refine wpAnyH_take (i := 5) (v := ?_) rfl (by kernel_rfl) (by kernel_rfl) (by kernel_rfl) (fun _ _ _ h => h) (Or.inl ⟨by rfl, ?_⟩) (by assumption) ?_
  rotate_left
  · (intro w hSw; (try dsimp only at hSw); go_simp; try (with_reducible rfl))
  try simp only [Act.put]
  refine wpAnyH_take (i := 6) (v := ?_) rfl (by kernel_rfl) (by kernel_rfl) (by kernel_rfl) (fun _ _ _ h => h) (Or.inl ⟨by rfl, ?_⟩) (by assumption) ?_
  rotate_left
  · (intro w hSw; (try dsimp only at hSw); go_simp; try (with_reducible rfl))
  try simp only [Act.put]
  refine wpAnyH_take (i := 7) (v := ?_) rfl (by kernel_rfl) (by kernel_rfl) (by kernel_rfl) (fun _ _ _ h => h) (Or.inl ⟨by rfl, ?_⟩) (by assumption) ?_
  rotate_left
  · (intro w hSw; (try dsimp only at hSw); go_simp; try (with_reducible rfl))
  try simp only [Act.put]
  refine wpAnyH_take (i := 8) (v := ?_) rfl (by kernel_rfl) (by kernel_rfl) (by kernel_rfl) (fun _ _ _ h => h) (Or.inl ⟨by rfl, ?_⟩) (by assumption) ?_
  rotate_left
  · (intro w hSw; (try dsimp only at hSw); go_simp; try (with_reducible rfl))
  try simp only [Act.put]
  refine wpAnyH_take (i := 9) (v := ?_) rfl (by kernel_rfl) (by kernel_rfl) (by kernel_rfl) (fun _ _ _ h => h) (Or.inl ⟨by rfl, ?_⟩) (by assumption) ?_
  rotate_left
  · (intro w hSw; (try dsimp only at hSw); go_simp; try (with_reducible rfl))
  try simp only [Act.put]
  refine wpAnyH_take (i := 10) (v := ?_) rfl (by kernel_rfl) (by kernel_rfl) (by kernel_rfl) (fun _ _ _ h => h) (Or.inl ⟨by rfl, ?_⟩) (by assumption) ?_
  rotate_left
  · (intro w hSw; (try dsimp only at hSw); go_simp; try (with_reducible rfl))
  try simp only [Act.put]
  refine wpAnyH_ready (rs := [11]) (by kernel_rfl) (by simp) ?_
  refine AllReadyH.cons rfl (fun K1 hK => ?_) AllReadyH.nil
  go_simp
  refine Q.out.mono ?_
  rintro e w1 ⟨v, err, rfl, hv, hR, h1⟩
  have BW := Lib.hid (show Below w.heap.size w w.drew from (Below.refl _ _).drew)
  obtain ⟨W0, hW0⟩ : ∃ W0, w.drew = W0 := ⟨_, rfl⟩
  rw [hW0] at BW
  have RR := Lib.hid (show R W0 v err w1 by rw [← hW0]; exact hR)
  have M := Lib.hid h1
  have V := Lib.hid hv
  have hon : EX w1 b ⟨F, T, L, H, true, true, den, don, cal⟩ false x := M.out
  clear hR h1 hv Q c4 hW0 HS
  refine hK.out _ _ hon (fun hHeld => ?_)
  clear hK hon
  try simp only [Act.put]
  refine wpAnyH_take (i := 12) (v := ?_) rfl (by kernel_rfl) (by kernel_rfl) (by kernel_rfl) (fun _ _ _ h => h) (Or.inl ⟨by rfl, ?_⟩) (by assumption) ?_
  rotate_left
  · (intro w hSw; (try dsimp only at hSw); go_simp; try (with_reducible rfl))
  try simp only [Act.put]
  refine wpAnyH_take (i := 13) (v := ?_) rfl (by kernel_rfl) (by kernel_rfl) (by kernel_rfl) (fun _ _ _ h => h) (Or.inl ⟨by rfl, ?_⟩) (by assumption) ?_
  rotate_left
  · (intro w hSw; (try dsimp only at hSw); go_simp; try (with_reducible rfl))
  try simp only [Act.put]
  refine wpAnyH_take (i := 14) (v := ?_) rfl (by kernel_rfl) (by kernel_rfl) (by kernel_rfl) (fun _ _ _ h => h) (Or.inl ⟨by rfl, ?_⟩) (by assumption) ?_
  rotate_left
  · (intro w hSw; (try dsimp only at hSw); go_simp; try (with_reducible rfl))
  try simp only [Act.put]
  refine wpAnyH_take (i := 15) (v := ?_) rfl (by kernel_rfl) (by kernel_rfl) (by kernel_rfl) (fun _ _ _ h => h) (Or.inl ⟨by rfl, ?_⟩) (by assumption) ?_
  rotate_left
  · (intro w hSw; (try dsimp only at hSw); go_simp; try (with_reducible rfl))
  try simp only [Act.put]
  refine wpAnyH_done (by kernel_rfl) ?_ _
  clear l1 l3
  have c5 := M.out.c 5 rfl
  obtain ⟨B, hB⟩ : ∃ B, (err == 0) = B := ⟨_, rfl⟩
  rw [hB]
  cases B
  · have HE := Lib.hid (show err ≠ 0 by simpa using hB)
    clear hB tl tm ei ei2
    go_wp2_with fail
    go_step3
    go_wp2_with fail
    go_step3
    refine ⟨_, rfl, ?_⟩
    go_wp2_with fail
    refine (stop_any b ⟨F, T, L, H, true, true, den, don, cal⟩ false x _ M.out).mono ?_
    rintro e w2 ⟨rfl, h1, h2⟩
    have N := Lib.hid (ex_set h1 6 (.bool true) (s' := ⟨F, T, L, 0, false, false, true, don, cal⟩) (k' := false) rfl ⟨h1.ok.f, h1.ok.t, h1.ok.l, h1.ok.h⟩)
    have O2 := Lib.hid h2
    have d6 := h1.c 6 rfl
    have g6 := h1.blk.frozen 6
    clear h1 h2 c5
    go_wp2_with fail
    rw [jumps_normal]
    go_end0
    exact ⟨rfl, W0, w1, v, err, BW.out, V.out, RR.out, by rw [toldX_no F T L H true true den don cal v err HE.out]; exact N.out.1, O2.out.trans N.out.2⟩
  · have HE := Lib.hid (show err = 0 by simpa using hB)
    clear hB
    go_wp2_with fail
    go_step3
    go_wp2_with fail
    go_step3
    refine ⟨_, rfl, ?_⟩
    go_wp2_with fail
    refine (drop_any b ⟨F, T, L, H, true, true, den, don, cal⟩ false x w1 M.out).mono ?_
    rintro e w2 ⟨rfl, h1, h2⟩
    have N := Lib.hid h1
    have O2 := Lib.hid h2
    clear h1 h2 c5
    have d1 := N.out.c 1 rfl
    have d2 := N.out.c 2 rfl
    have g1 := N.out.blk.frozen 1
    have g2 := N.out.blk.frozen 2
    have em : IntKind.u32.wrap (L - 1) = (L - 1) % 4294967296 := IntKind.wrap_u32 _
    by_cases hl : L = 1
    · have tt := Lib.hid (fun v => tl.out v hl)
      have m0 : (L - 1) % 4294967296 = 0 := by rw [hl]; rfl
      rw [m0] at em
      have X := Lib.hid (ex_set2 N.out 1 (.int .u32 n) (s' := ⟨F, n, L, 0, false, true, den, don, cal⟩) (k' := false) rfl ⟨N.out.ok.f, pb.out, N.out.ok.l, N.out.ok.h⟩ 2 (.int .u32 0) (s'' := ⟨F, n, 0, 0, false, true, den, don, cal⟩) (k'' := false) rfl ⟨N.out.ok.f, pb.out, N.out.ok.h, N.out.ok.h⟩)
      clear hl tl tm
      go_wp2_with fail
      refine calls_letter ?_
      intro U hU
      have Y := Lib.hid (show EX U b ⟨F, n, 0, 0, false, true, den, don, cal⟩ false x ∧ Only (fun j => j = b) w2 U by rw [hU.out]; exact X.out)
      clear hU X d1 d2 g1 g2
      refine (stop_any b _ false x U Y.out.1).mono ?_
      rintro e w3 ⟨rfl, h1, h2⟩
      have Z := Lib.hid (ex_set h1 7 (.bool true) (s' := ⟨F, n, 0, 0, false, false, den, true, cal⟩) (k' := false) rfl ⟨h1.ok.f, h1.ok.t, h1.ok.l, h1.ok.h⟩)
      have O3 := Lib.hid h2
      have d7 := h1.c 7 rfl
      have g7 := h1.blk.frozen 7
      clear h1 h2
      go_wp2_with fail
      rw [jumps_ret]
      refine bodyPost_ret (results_none rfl _ _ _) rfl ?_
      exact ⟨rfl, W0, w1, v, err, BW.out, V.out, RR.out, by rw [HE.out, tt.out v]; exact Z.out.1, O2.out.trans (Y.out.2.trans (O3.out.trans Z.out.2))⟩
    · have tt := Lib.hid (fun v => tm.out v hl)
      have ml : 0 < (L - 1) % 4294967296 ∧ (L - 1) % 4294967296 < 4294967296 := by have := bL.out; omega
      obtain ⟨m, hm⟩ : ∃ m, (L - 1) % 4294967296 = m := ⟨_, rfl⟩
      rw [hm] at em tt ml
      have mb := Lib.hid ml
      have dm : decide (0 < m) = true := decide_eq_true ml.1
      have X := Lib.hid (ex_set2 N.out 1 (.int .u32 n) (s' := ⟨F, n, L, 0, false, true, den, don, cal⟩) (k' := false) rfl ⟨N.out.ok.f, pb.out, N.out.ok.l, N.out.ok.h⟩ 2 (.int .u32 m) (s'' := ⟨F, n, m, 0, false, true, den, don, cal⟩) (k'' := false) rfl ⟨N.out.ok.f, pb.out, ⟨Int.le_of_lt mb.out.1, mb.out.2⟩, N.out.ok.h⟩)
      clear hl tl tm ml
      go_wp2_with fail
      rw [jumps_ret]
      refine bodyPost_ret (results_none rfl _ _ _) rfl ?_
      exact ⟨rfl, W0, w1, v, err, BW.out, V.out, RR.out, by rw [HE.out, tt.out v]; exact X.out.1, O2.out.trans X.out.2⟩
end Go.Proofs.Ythpkebcedaakhaa.Dma
