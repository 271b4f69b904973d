/- A range over a function that passes over some of its elements: the loop goes by the elements' numbers; what the function reads of each element it finds as the loop's own statement says. Good for every stage. -/
import Derived.Test.YtmdepkehpohgeaaGreatFr
namespace Go.Proofs.YtmdepkehpohgeaaGreat.Fifo
open Go.RowKit
set_option linter.unusedVariables false

/-- What such a function does, from W0 on: of the elements 0, 1, .. up to m it hands yield those that are ok; R: what it must find ahead of each; it wants the blocks K kept. -/
def SeqI (F : Fence) (n : Nat) (P : Program) (gf : Nat) (mk : Nat → Array Value) (m : Nat) (ok : Nat → Bool) (xs : Nat → Array Value) (R : Nat → World → Prop) (K : Nat → Prop) (W0 : World) : Prop :=
  ∀ (lp : Nat) (J Jx : Nat → (Nat → Prop) → World → Prop) (T0 : Nat → Prop) (W : World), Below W0.heap.size W0 W → ¬ K lp → lp < W.heap.size →
    (∀ k T X X', J k T X → Below X.heap.size X X' → J k T X') → (∀ k T X X', Jx k T X → Below X.heap.size X X' → Jx k T X') →
    (∀ k T X j, J k T X → T j → j < X.heap.size) → (∀ j, T0 j → ¬ K j) → (∀ k T X, k < m → J k T X → R k X) →
    (∀ k T X, k < m → ok k = false → J k T X → J (k + 1) T X) →
    (∀ k T X, k < m → ok k = true → J k T X → YieldAt F (n - 1) P lp (xs k) X fun e X' => ∃ T', (∀ j, T' j → T j ∨ X.heap.size ≤ j) ∧ Only (fun j => T j ∨ j = lp) X X' ∧
      ((e = .returned (.bool true) ∧ J (k + 1) T' X') ∨ (e = .returned (.bool false) ∧ Jx (k + 1) T' X'))) →
    J 0 T0 W →
    CallsIn F n P gf (mk lp) W fun e W' => (∃ v, e = .returned v) ∧ ∃ T', (J m T' W' ∨ ∃ k, k < m ∧ Jx (k + 1) T' W')

variable {F : Fence} {n : Nat} {P : Program}

theorem range_lawI {g : Operand} {ps : Array Tmp} {assign body : Code} {Q : Exit → Act → World → Prop} {a : Act} {w : World} (hro : F.round = none) (h1 : 1 ≤ n)
    {gf : Nat} {bound lb : Array Value} (hg : a.eval g = .func (.func gf) bound lb) (hFg : F.fn gf) (eg : ∀ args w, (callFunc gf args).run P w = .ok (.enter gf args) w)
    {cnt : Nat} {ok : Nat → Bool} {xs : Nat → Array Value} {R : Nat → World → Prop} {K : Nat → Prop} (hseq : SeqI F (n - 1) P gf (fun lp => bound ++ #[.func (.yield lp) #[] #[]] ++ lb) cnt ok xs R K w) (hps : ∀ k, (xs k).size = ps.size) (hKw : ∀ j, K j → j < w.heap.size)
    (I : Nat → (Nat → Prop) → World → Prop) (Ix : Nat → Code → (Nat → Prop) → World → Prop) (T0 : Nat → Prop) (hK : ∀ j, T0 j → ¬ K j) (hT0 : ∀ j, T0 j → j < w.heap.size)
    (hI : ∀ k T W W', I k T W → Book w.heap.size W W' → I k T W') (hIx : ∀ k c T W W', Ix k c T W → Book w.heap.size W W' → Ix k c T W')
    (hin : ∀ k T W j, I k T W → T j → j < W.heap.size) (h0 : I 0 T0 w)
    (hR : ∀ k T W, k < cnt → I k T W → R k W) (hskip : ∀ k T W, k < cnt → ok k = false → I k T W → I (k + 1) T W)
    (hround : ∀ (lp k : Nat) (T : Nat → Prop) (W : World), k < cnt → ok k = true → assign.wpIn (F.inRound lp) (n - 1 - 1) P (Exit.then (fun a1 w1 => Below W.heap.size W w1 ∧ ∀ W2, Book w.heap.size w1 W2 → w1.heap.size = W2.heap.size → w.heap.size + 2 ≤ W2.heap.size → I k T W2 → (∀ j, T j → j < W2.heap.size ∧ j ≠ w.heap.size ∧ j ≠ w.heap.size + 1) →
      body.wpIn (F.inRound lp) (n - 1 - 1) P (roundOf I Ix k T W2) a1 W2) (fun _ _ _ => False)) { tmps := (ps.zip (xs k)).foldl (fun t (p, v) => t.setIfInBounds p v) a.tmps, defers := [] } W)
    (hdone : ∀ (T : Nat → Prop) (W : World), I cnt T W → W.heap[w.heap.size]? = some (.deferred (some [])) → Q .normal { a with defers := { target := .collected w.heap.size, args := #[] } :: a.defers } W)
    (hstop : ∀ (c : Code) (k : Nat) (T : Nat → Prop) (W : World), k < cnt → Ix (k + 1) c T W → W.heap[w.heap.size]? = some (.deferred (some [])) → c.wpIn F n P Q { a with defers := { target := .collected w.heap.size, args := #[] } :: a.defers } W) :
    (Code.rangeFunc g ps assign body).wpIn F n P Q a w := by
  refine wpIn_rangeFunc fun fn hfn => ?_
  rw [hro]
  obtain ⟨rec, hrec⟩ : ∃ rec : LoopState → Option Code → Loop, rec = fun st pe => { state := st, pending := pe, fn, tmps := a.tmps, params := ps, assign, body, defers := w.heap.size } := ⟨_, rfl⟩
  have hst : ∀ st pe st' pe', ({ rec st pe with state := st', pending := pe' } : Loop) = rec st' pe' := by rw [hrec]; intros; rfl
  obtain ⟨W1, hW1⟩ : ∃ W1, (w.alloc (.deferred (some []))).alloc (.loop (rec .ready none)) = W1 := ⟨_, rfl⟩
  have hs1 : W1.heap.size = w.heap.size + 2 := by rw [← hW1]; simp
  have hb1 : Below w.heap.size w W1 := by rw [← hW1]; exact ((Below.refl _ w).alloc (Nat.le_refl _) _).alloc (by simp) _
  have hL1 : W1.heap[w.heap.size + 1]? = some (.loop (rec .ready none)) := by
    have e := World.alloc_heap_new (w.alloc (.deferred (some []))) (.loop (rec .ready none))
    rw [World.size_alloc, hW1] at e
    exact e
  have hD1 : W1.heap[w.heap.size]? = some (.deferred (some [])) := by
    rw [← hW1]; exact (Below.heap_alloc _ _ _ (by simp)).trans (World.alloc_heap_new w _)
  obtain ⟨J, hJ⟩ : ∃ J : Nat → (Nat → Prop) → World → Prop, J = fun k T X => I k T X ∧ (∀ j, T j → j < X.heap.size ∧ j ≠ w.heap.size ∧ j ≠ w.heap.size + 1) ∧ w.heap.size + 2 ≤ X.heap.size ∧
    X.heap[w.heap.size + 1]? = some (.loop (rec .ready none)) ∧ X.heap[w.heap.size]? = some (.deferred (some [])) := ⟨_, rfl⟩
  obtain ⟨Jx, hJx⟩ : ∃ Jx : Nat → (Nat → Prop) → World → Prop, Jx = fun k T X => ∃ c, Ix k c T X ∧ w.heap.size + 2 ≤ X.heap.size ∧
    X.heap[w.heap.size + 1]? = some (.loop (rec .done (some c))) ∧ X.heap[w.heap.size]? = some (.deferred (some [])) := ⟨_, rfl⟩
  refine ⟨w.heap.size + 1, [{ target := .collected w.heap.size, args := #[] }], W1, { target := .fn (.func gf) lb, args := bound ++ #[.func (.yield (w.heap.size + 1)) #[] #[]] }, W1, gf,
    bound ++ #[.func (.yield (w.heap.size + 1)) #[] #[]] ++ lb, W1, ?_, ?_, ?_, ?_, fun _ => h1, ?_⟩
  · rw [← hW1, hrec]; exact run_enterLoop_outer _ _ _ _ _
  · simp only [resolve, hg]
    simp [go_sem]
  · intro f' hf'; simp [Target.leads] at hf'; subst hf'; exact hFg
  · simp [invoke, go_sem, eg]
  · refine (hseq (w.heap.size + 1) J Jx T0 W1 hb1 (fun h => by have := hKw _ h; omega) (by omega) ?_ ?_ ?_ hK ?_ ?_ ?_ ?_).mono ?_
    · intro k T X X' h hb
      subst hJ
      obtain ⟨i, t, s, l, d⟩ := h
      exact ⟨hI _ _ _ _ i (.of_below (by omega) hb), fun j hj => ⟨Nat.lt_of_lt_of_le (t j hj).1 hb.size, (t j hj).2⟩, Nat.le_trans s hb.size, (hb.block _ (by omega)).trans l, (hb.block _ (by omega)).trans d⟩
    · intro k T X X' h hb
      subst hJx
      obtain ⟨c, i, s, l, d⟩ := h
      exact ⟨c, hIx _ _ _ _ _ i (.of_below (by omega) hb), Nat.le_trans s hb.size, (hb.block _ (by omega)).trans l, (hb.block _ (by omega)).trans d⟩
    · intro k T X j h hj
      subst hJ
      exact (h.2.1 j hj).1
    · intro k T X hk h
      subst hJ
      exact hR k T X hk h.1
    · intro k T X hk hno h
      subst hJ
      exact ⟨hskip k T X hk hno h.1, h.2⟩
    · intro k T X hk hyes h
      subst hJ
      obtain ⟨i, t, s, l, d⟩ := h
      have hy := run_yield (P := P) (args := xs k) l (by rw [hrec]; exact hps k)
      rw [hrec] at hy
      refine ⟨fn, _, assign, body, hy, roundIn_of_wpIn hfn (wpIn_mono (hround _ k T X hk hyes) ?_)⟩
      clear hy
      rintro e0 a1 w1 hp0
      cases e0 with
      | exit id => exact hp0.elim
      | goto t => exact hp0.elim
      | ret => exact hp0.elim
      | panic c => exact hp0.elim
      | outgrown => exact hp0.elim
      | normal =>
      obtain ⟨hbx, hbody⟩ := hp0
      have l := (hbx.block _ (by omega)).trans l
      have d := (hbx.block _ (by omega)).trans d
      have i := hI _ _ _ _ i (.of_below (by omega) hbx)
      have t : ∀ j, T j → j < w1.heap.size ∧ j ≠ w.heap.size ∧ j ≠ w.heap.size + 1 := fun j hj => ⟨Nat.lt_of_lt_of_le (t j hj).1 hbx.size, (t j hj).2⟩
      have s : w.heap.size + 2 ≤ w1.heap.size := Nat.le_trans s hbx.size
      refine ⟨_, run_beginRound l (by rw [hrec]), ?_⟩
      have hbk : Book w.heap.size w1 (w1.putObj (w.heap.size + 1) (.loop { rec .ready none with state := .busy })) := .put (by omega) l rfl
      have l2 : (w1.putObj (w.heap.size + 1) (.loop { rec .ready none with state := .busy })).heap[w.heap.size + 1]? = some (.loop { rec .ready none with state := .busy }) := World.putObj_heap_same (by omega)
      have d2 : (w1.putObj (w.heap.size + 1) (.loop { rec .ready none with state := .busy })).heap[w.heap.size]? = some (.deferred (some [])) := (World.putObj_heap_other (by omega)).trans d
      have fin : ∀ (jump : Option Code) (T' : Nat → Prop) (W3 : World), (∀ j, T' j → T j ∨ (w1.putObj (w.heap.size + 1) (.loop { rec .ready none with state := .busy })).heap.size ≤ j) →
          Only T (w1.putObj (w.heap.size + 1) (.loop { rec .ready none with state := .busy })) W3 →
          ∃ W4, (Instr.endRound (w.heap.size + 1) jump).run P W3 = .ok (.bool jump.isNone) W4 ∧ Book w.heap.size W3 W4 ∧ Only (fun j => T j ∨ j = w.heap.size + 1) w1 W4 ∧ w.heap.size + 2 ≤ W4.heap.size ∧
            W4.heap[w.heap.size + 1]? = some (.loop (rec (if jump.isNone then .ready else .done) jump)) ∧ W4.heap[w.heap.size]? = some (.deferred (some [])) ∧ (∀ j, T' j → j < W3.heap.size → j < W4.heap.size ∧ j ≠ w.heap.size ∧ j ≠ w.heap.size + 1) := by
        intro jump T' W3 hT' ho
        have s2 : w.heap.size + 2 ≤ W3.heap.size := Nat.le_trans (by simpa using s) ho.size
        have l3 := ho.heap l2 (fun hh => (t _ hh).2.2 rfl)
        have d3 := ho.heap d2 (fun hh => (t _ hh).2.1 rfl)
        have hr := run_endRound (P := P) jump l3
        rw [hst] at hr
        refine ⟨_, hr, .put (by omega) l3 rfl, ?_, by simpa using s2, World.putObj_heap_same (by omega), (World.putObj_heap_other (by omega)).trans d3, fun j hj hlt => ⟨by simpa using hlt, ?_⟩⟩
        · exact ((Only.put (S := fun j => T j ∨ j = w.heap.size + 1) _ (.inr rfl)).trans (ho.mono (fun j _ h => .inl h))).trans (Only.put _ (.inr rfl))
        · rcases hT' j hj with h | h
          · exact (t j h).2
          · rw [World.putObj_size] at h
            omega
      refine wpIn_mono (hbody _ hbk (by simp) (by simpa using s) (hI _ _ _ _ i hbk) (fun j hj => by simpa using t j hj)) ?_
      rintro e a3 W3 hp
      cases e with
      | normal =>
        obtain ⟨T', hT', ho, hi⟩ := hp
        obtain ⟨W4, hr, hb, ho4, s4, l4, d4, t4⟩ := fin none T' W3 hT' ho
        exact ⟨_, _, hr, T', fun j hj => (by simpa using hT' j hj : T j ∨ w1.heap.size ≤ j).imp (fun h => h) (fun h => Nat.le_trans hbx.size h), (Only.of_below hbx).trans ho4, .inl ⟨rfl, hI _ _ _ _ hi hb, fun j hj => t4 j hj (hin _ _ _ _ hi hj), s4, l4, d4⟩⟩
      | ret =>
        obtain ⟨T', hT', ho, hi⟩ := hp
        obtain ⟨W4, hr, hb, ho4, s4, l4, d4, t4⟩ := fin (some .ret) T' W3 hT' ho
        subst hJx
        exact ⟨_, _, hr, T', fun j hj => (by simpa using hT' j hj : T j ∨ w1.heap.size ≤ j).imp (fun h => h) (fun h => Nat.le_trans hbx.size h), (Only.of_below hbx).trans ho4, .inr ⟨rfl, _, hIx _ _ _ _ _ hi hb, s4, l4, d4⟩⟩
      | exit id =>
        obtain ⟨T', hT', ho, hi⟩ := hp
        obtain ⟨W4, hr, hb, ho4, s4, l4, d4, t4⟩ := fin (some (.exit id)) T' W3 hT' ho
        subst hJx
        exact ⟨_, _, hr, T', fun j hj => (by simpa using hT' j hj : T j ∨ w1.heap.size ≤ j).imp (fun h => h) (fun h => Nat.le_trans hbx.size h), (Only.of_below hbx).trans ho4, .inr ⟨rfl, _, hIx _ _ _ _ _ hi hb, s4, l4, d4⟩⟩
      | goto t => exact hp.elim
      | panic ch => exact hp.elim
      | outgrown => exact hp.elim
    · subst hJ
      exact ⟨hI _ _ _ _ h0 (.of_below (Nat.le_refl _) hb1), fun j hj => ⟨by have := hT0 j hj; omega, by have := hT0 j hj; omega, by have := hT0 j hj; omega⟩, by omega, hL1, hD1⟩
    · rintro e W2 ⟨⟨v, rfl⟩, T', h | ⟨k, hk, h⟩⟩
      · subst hJ
        obtain ⟨i, t, s, l, d⟩ := h
        have he := run_endLoop (P := P) l (by rw [hrec]; simp)
        rw [hrec] at he
        exact ⟨none, _, he, hdone T' _ (hI _ _ _ _ i (.put (by omega) l rfl)) ((World.putObj_heap_other (by omega)).trans d)⟩
      · subst hJx
        obtain ⟨c, i, s, l, d⟩ := h
        have he := run_endLoop (P := P) l (by rw [hrec]; simp)
        rw [hrec] at he
        exact ⟨some c, _, he, hstop c k T' _ hk (hIx _ _ _ _ _ i (.put (by omega) l rfl)) ((World.putObj_heap_other (by omega)).trans d)⟩
end Go.Proofs.YtmdepkehpohgeaaGreat.Fifo
