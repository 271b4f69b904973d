/- A range over a function whose value may bear a receiver: the body says which blocks it may turn, the function which it wants kept. -/
import Derived.Test.YtmdepkehpohgeaaGreatFa
import Derived.RangeFuncBox
import Derived.RangeFuncSeq
namespace Go.Proofs.YtmdepkehpohgeaaGreat.Fifo
open Go.RowKit
set_option linter.unusedVariables false

/-- The book-keeping of a loop from B on: cells lie as they lay, and all below B. -/
structure Book (B : Nat) (W W' : World) : Prop where
  os : W'.os = W.os
  tape : W'.tape = W.tape
  output : W'.output = W.output
  size : W.heap.size ≤ W'.heap.size
  low : ∀ j, j < B → W'.heap[j]? = W.heap[j]?
  cells : ∀ (j : Nat) (o : Obj), W.heap[j]? = some o → o.isCells = true → W'.heap[j]? = some o
theorem Book.of_below {B : Nat} {W W' : World} (hB : B ≤ W.heap.size) (h : Below W.heap.size W W') : Book B W W' :=
  ⟨h.os, h.tape, h.output, h.size, fun j hj => h.block j (by omega), fun j o ho _ => (h.block j (Array.getElem?_eq_some_iff.1 ho).1).trans ho⟩
theorem Book.put {B : Nat} {W : World} {l : Nat} {o o' : Obj} (hB : B ≤ l) (hl : W.heap[l]? = some o) (ho : o.isCells = false) : Book B W (W.putObj l o') :=
  ⟨rfl, rfl, rfl, by simp, fun j hj => World.putObj_heap_other (by omega), fun j p hp hc => (World.putObj_heap_other (fun e => by subst e; rw [hl] at hp; cases hp; rw [ho] at hc; cases hc)).trans hp⟩
theorem Book.below {B b : Nat} {A W W' : World} (h : Below b A W) (k : Book B W W') (hb : b ≤ B) : Below b A W' :=
  h.trans ⟨k.os, k.tape, k.output, k.size, fun j hj => k.low j (by omega)⟩
theorem Book.only {B : Nat} {S : Nat → Prop} {A W W' : World} (h : Only S A W) (k : Book B W W') (hb : A.heap.size ≤ B) : Only S A W' :=
  ⟨k.os.trans h.os, k.tape.trans h.tape, k.output.trans h.output, Nat.le_trans h.size k.size, fun j hj hn => (k.low j (by omega)).trans (h.block j hj hn)⟩
theorem Blk.book {B b : Nat} {W W' : World} {t : TypeId} {vs : List Value} (h : Blk W b t vs) (k : Book B W W') : Blk W' b t vs := k.cells b _ h rfl
theorem Plc.book {B : Nat} {W W' : World} {e : TypeId} {v : Value} {vs : List Value} (h : Plc W e v vs) (k : Book B W W') : Plc W' e v vs := by
  rcases h with h | ⟨g, rfl, h⟩
  · exact .inl h
  · exact .inr ⟨g, rfl, h.book k⟩
theorem Only.put {S : Nat → Prop} {W : World} {l : Nat} (o : Obj) (hl : S l) : Only S W (W.putObj l o) :=
  ⟨rfl, rfl, rfl, by simp, fun k _ hn => World.putObj_heap_other (fun e => hn (e ▸ hl))⟩

/-- WHAT A FUNCTION THAT IS RANGED OVER DOES, from W0 on: it hands yield the elements xs 0, xs 1, .. up to cnt; between, it lays blocks alone; it wants the blocks K kept. -/
def SeqC (F : Fence) (n : Nat) (P : Program) (gf : Nat) (mk : Nat → Array Value) (cnt : Nat) (xs : Nat → Array Value) (K : Nat → Prop) (W0 : World) : Prop :=
  ∀ (lp : Nat) (J Jx : Nat → (Nat → Prop) → World → Prop) (T0 : Nat → Prop) (W : World), Below W0.heap.size W0 W → ¬ K lp → lp < W.heap.size →
    (∀ k T X X', J k T X → Below X.heap.size X X' → J k T X') → (∀ k T X X', Jx k T X → Below X.heap.size X X' → Jx k T X') →
    (∀ k T X j, J k T X → T j → j < X.heap.size) → (∀ j, T0 j → ¬ K j) →
    (∀ k T X, k < cnt → J k T X → YieldAt F (n - 1) P lp (xs k) X fun e X' => ∃ T', (∀ j, T' j → T j ∨ X.heap.size ≤ j) ∧ Only (fun j => T j ∨ j = lp) X X' ∧
      ((e = .returned (.bool true) ∧ J (k + 1) T' X') ∨ (e = .returned (.bool false) ∧ Jx (k + 1) T' X'))) →
    J 0 T0 W →
    CallsIn F n P gf (mk lp) W fun e W' => (∃ v, e = .returned v) ∧ ∃ T', (J cnt T' W' ∨ ∃ k, k < cnt ∧ Jx (k + 1) T' W')

/-- How a round's body may be left. -/
def roundOf (I : Nat → (Nat → Prop) → World → Prop) (Ix : Nat → Code → (Nat → Prop) → World → Prop) (k : Nat) (T : Nat → Prop) (W : World) : Exit → Act → World → Prop
  | .normal, _, W' => ∃ T', (∀ j, T' j → T j ∨ W.heap.size ≤ j) ∧ Only T W W' ∧ I (k + 1) T' W'
  | .ret, _, W' => ∃ T', (∀ j, T' j → T j ∨ W.heap.size ≤ j) ∧ Only T W W' ∧ Ix (k + 1) .ret T' W'
  | .exit id, _, W' => ∃ T', (∀ j, T' j → T j ∨ W.heap.size ≤ j) ∧ Only T W W' ∧ Ix (k + 1) (.exit id) T' W'
  | _, _, _ => False

variable {F : Fence} {n : Nat} {P : Program}

theorem range_law {g : Operand} {ps : Array Tmp} {assign body : Code} {Q : Exit → Act → World → Prop} {a : Act} {w : World} (hro : F.round = none) (h1 : 1 ≤ n)
    {gf : Nat} {bound lb : Array Value} (hg : a.eval g = .func (.func gf) bound lb) (hFg : F.fn gf) (eg : ∀ args w, (callFunc gf args).run P w = .ok (.enter gf args) w)
    {cnt : Nat} {xs : Nat → Array Value} {K : Nat → Prop} (hseq : SeqC F (n - 1) P gf (fun lp => bound ++ #[.func (.yield lp) #[] #[]] ++ lb) cnt xs K w) (hps : ∀ k, (xs k).size = ps.size) (hKw : ∀ j, K j → j < w.heap.size)
    (I : Nat → (Nat → Prop) → World → Prop) (Ix : Nat → Code → (Nat → Prop) → World → Prop) (T0 : Nat → Prop) (hK : ∀ j, T0 j → ¬ K j) (hT0 : ∀ j, T0 j → j < w.heap.size)
    (hI : ∀ k T W W', I k T W → Book w.heap.size W W' → I k T W') (hIx : ∀ k c T W W', Ix k c T W → Book w.heap.size W W' → Ix k c T W')
    (hin : ∀ k T W j, I k T W → T j → j < W.heap.size) (h0 : I 0 T0 w)
    (hround : ∀ (lp k : Nat) (T : Nat → Prop) (W : World), k < cnt → assign.wpIn (F.inRound lp) (n - 1 - 1) P (Exit.then (fun a1 w1 => w1 = W ∧ ∀ W2, w.heap.size + 2 ≤ W2.heap.size → I k T W2 → (∀ j, T j → j < W2.heap.size ∧ j ≠ w.heap.size ∧ j ≠ w.heap.size + 1) →
      body.wpIn (F.inRound lp) (n - 1 - 1) P (roundOf I Ix k T W2) a1 W2) (fun _ _ _ => False)) { tmps := (ps.zip (xs k)).foldl (fun t (p, v) => t.setIfInBounds p v) a.tmps, defers := [] } W)
    (hdone : ∀ (T : Nat → Prop) (W : World), I cnt T W → W.heap[w.heap.size]? = some (.deferred (some [])) → Q .normal { a with defers := { target := .collected w.heap.size, args := #[] } :: a.defers } W)
    (hstop : ∀ (c : Code) (k : Nat) (T : Nat → Prop) (W : World), k < cnt → Ix (k + 1) c T W → W.heap[w.heap.size]? = some (.deferred (some [])) → c.wpIn F n P Q { a with defers := { target := .collected w.heap.size, args := #[] } :: a.defers } W) :
    (Code.rangeFunc g ps assign body).wpIn F n P Q a w := by
  refine wpIn_rangeFunc fun fn hfn => ?_
  rw [hro]
  obtain ⟨rec, hrec⟩ : ∃ rec : LoopState → Option Code → Loop, rec = fun st pe => { state := st, pending := pe, fn, tmps := a.tmps, params := ps, assign, body, defers := w.heap.size } := ⟨_, rfl⟩
  have hst : ∀ st pe st' pe', ({ rec st pe with state := st', pending := pe' } : Loop) = rec st' pe' := by rw [hrec]; intros; rfl
  obtain ⟨W1, hW1⟩ : ∃ W1, (w.alloc (.deferred (some []))).alloc (.loop (rec .ready none)) = W1 := ⟨_, rfl⟩
  have hs1 : W1.heap.size = w.heap.size + 2 := by rw [← hW1]; simp
  have hb1 : Below w.heap.size w W1 := by rw [← hW1]; exact ((Below.refl _ w).alloc (Nat.le_refl _) _).alloc (by simp) _
  have hL1 : W1.heap[w.heap.size + 1]? = some (.loop (rec .ready none)) := by
    have e := World.alloc_heap_new (w.alloc (.deferred (some []))) (.loop (rec .ready none))
    rw [World.size_alloc, hW1] at e
    exact e
  have hD1 : W1.heap[w.heap.size]? = some (.deferred (some [])) := by
    rw [← hW1]; exact (Below.heap_alloc _ _ _ (by simp)).trans (World.alloc_heap_new w _)
  obtain ⟨J, hJ⟩ : ∃ J : Nat → (Nat → Prop) → World → Prop, J = fun k T X => I k T X ∧ (∀ j, T j → j < X.heap.size ∧ j ≠ w.heap.size ∧ j ≠ w.heap.size + 1) ∧ w.heap.size + 2 ≤ X.heap.size ∧
    X.heap[w.heap.size + 1]? = some (.loop (rec .ready none)) ∧ X.heap[w.heap.size]? = some (.deferred (some [])) := ⟨_, rfl⟩
  obtain ⟨Jx, hJx⟩ : ∃ Jx : Nat → (Nat → Prop) → World → Prop, Jx = fun k T X => ∃ c, Ix k c T X ∧ w.heap.size + 2 ≤ X.heap.size ∧
    X.heap[w.heap.size + 1]? = some (.loop (rec .done (some c))) ∧ X.heap[w.heap.size]? = some (.deferred (some [])) := ⟨_, rfl⟩
  refine ⟨w.heap.size + 1, [{ target := .collected w.heap.size, args := #[] }], W1, { target := .fn (.func gf) lb, args := bound ++ #[.func (.yield (w.heap.size + 1)) #[] #[]] }, W1, gf,
    bound ++ #[.func (.yield (w.heap.size + 1)) #[] #[]] ++ lb, W1, ?_, ?_, ?_, ?_, fun _ => h1, ?_⟩
  · rw [← hW1, hrec]; exact run_enterLoop_outer _ _ _ _ _
  · simp only [resolve, hg]
    simp [go_sem]
  · intro f' hf'; simp [Target.leads] at hf'; subst hf'; exact hFg
  · simp [invoke, go_sem, eg]
  · refine (hseq (w.heap.size + 1) J Jx T0 W1 hb1 (fun h => by have := hKw _ h; omega) (by omega) ?_ ?_ ?_ hK ?_ ?_).mono ?_
    · intro k T X X' h hb
      subst hJ
      obtain ⟨i, t, s, l, d⟩ := h
      exact ⟨hI _ _ _ _ i (.of_below (by omega) hb), fun j hj => ⟨Nat.lt_of_lt_of_le (t j hj).1 hb.size, (t j hj).2⟩, Nat.le_trans s hb.size, (hb.block _ (by omega)).trans l, (hb.block _ (by omega)).trans d⟩
    · intro k T X X' h hb
      subst hJx
      obtain ⟨c, i, s, l, d⟩ := h
      exact ⟨c, hIx _ _ _ _ _ i (.of_below (by omega) hb), Nat.le_trans s hb.size, (hb.block _ (by omega)).trans l, (hb.block _ (by omega)).trans d⟩
    · intro k T X j h hj
      subst hJ
      exact (h.2.1 j hj).1
    · intro k T X hk h
      subst hJ
      obtain ⟨i, t, s, l, d⟩ := h
      have hy := run_yield (P := P) (args := xs k) l (by rw [hrec]; exact hps k)
      rw [hrec] at hy
      refine ⟨fn, _, assign, body, hy, roundIn_of_wpIn hfn (wpIn_mono (hround _ k T X hk) ?_)⟩
      clear hy
      rintro e0 a1 w1 hp0
      cases e0 with
      | exit id => exact hp0.elim
      | goto t => exact hp0.elim
      | ret => exact hp0.elim
      | panic c => exact hp0.elim
      | outgrown => exact hp0.elim
      | normal =>
      obtain ⟨hw1, hbody⟩ := hp0
      have hw2 := hw1.symm
      subst hw2
      refine ⟨_, run_beginRound l (by rw [hrec]), ?_⟩
      have hbk : Book w.heap.size X (X.putObj (w.heap.size + 1) (.loop { rec .ready none with state := .busy })) := .put (by omega) l rfl
      have l2 : (X.putObj (w.heap.size + 1) (.loop { rec .ready none with state := .busy })).heap[w.heap.size + 1]? = some (.loop { rec .ready none with state := .busy }) := World.putObj_heap_same (by omega)
      have d2 : (X.putObj (w.heap.size + 1) (.loop { rec .ready none with state := .busy })).heap[w.heap.size]? = some (.deferred (some [])) := (World.putObj_heap_other (by omega)).trans d
      have fin : ∀ (jump : Option Code) (T' : Nat → Prop) (W3 : World), (∀ j, T' j → T j ∨ (X.putObj (w.heap.size + 1) (.loop { rec .ready none with state := .busy })).heap.size ≤ j) →
          Only T (X.putObj (w.heap.size + 1) (.loop { rec .ready none with state := .busy })) W3 →
          ∃ W4, (Instr.endRound (w.heap.size + 1) jump).run P W3 = .ok (.bool jump.isNone) W4 ∧ Book w.heap.size W3 W4 ∧ Only (fun j => T j ∨ j = w.heap.size + 1) X W4 ∧ w.heap.size + 2 ≤ W4.heap.size ∧
            W4.heap[w.heap.size + 1]? = some (.loop (rec (if jump.isNone then .ready else .done) jump)) ∧ W4.heap[w.heap.size]? = some (.deferred (some [])) ∧ (∀ j, T' j → j < W3.heap.size → j < W4.heap.size ∧ j ≠ w.heap.size ∧ j ≠ w.heap.size + 1) := by
        intro jump T' W3 hT' ho
        have s2 : w.heap.size + 2 ≤ W3.heap.size := Nat.le_trans (by simpa using s) ho.size
        have l3 := ho.heap l2 (fun hh => (t _ hh).2.2 rfl)
        have d3 := ho.heap d2 (fun hh => (t _ hh).2.1 rfl)
        have hr := run_endRound (P := P) jump l3
        rw [hst] at hr
        refine ⟨_, hr, .put (by omega) l3 rfl, ?_, by simpa using s2, World.putObj_heap_same (by omega), (World.putObj_heap_other (by omega)).trans d3, fun j hj hlt => ⟨by simpa using hlt, ?_⟩⟩
        · exact ((Only.put (S := fun j => T j ∨ j = w.heap.size + 1) _ (.inr rfl)).trans (ho.mono (fun j _ h => .inl h))).trans (Only.put _ (.inr rfl))
        · rcases hT' j hj with h | h
          · exact (t j h).2
          · rw [World.putObj_size] at h
            omega
      refine wpIn_mono (hbody _ (by simpa using s) (hI _ _ _ _ i hbk) (fun j hj => by simpa using t j hj)) ?_
      rintro e a3 W3 hp
      cases e with
      | normal =>
        obtain ⟨T', hT', ho, hi⟩ := hp
        obtain ⟨W4, hr, hb, ho4, s4, l4, d4, t4⟩ := fin none T' W3 hT' ho
        exact ⟨_, _, hr, T', fun j hj => by simpa using hT' j hj, ho4, .inl ⟨rfl, hI _ _ _ _ hi hb, fun j hj => t4 j hj (hin _ _ _ _ hi hj), s4, l4, d4⟩⟩
      | ret =>
        obtain ⟨T', hT', ho, hi⟩ := hp
        obtain ⟨W4, hr, hb, ho4, s4, l4, d4, t4⟩ := fin (some .ret) T' W3 hT' ho
        subst hJx
        exact ⟨_, _, hr, T', fun j hj => by simpa using hT' j hj, ho4, .inr ⟨rfl, _, hIx _ _ _ _ _ hi hb, s4, l4, d4⟩⟩
      | exit id =>
        obtain ⟨T', hT', ho, hi⟩ := hp
        obtain ⟨W4, hr, hb, ho4, s4, l4, d4, t4⟩ := fin (some (.exit id)) T' W3 hT' ho
        subst hJx
        exact ⟨_, _, hr, T', fun j hj => by simpa using hT' j hj, ho4, .inr ⟨rfl, _, hIx _ _ _ _ _ hi hb, s4, l4, d4⟩⟩
      | goto t => exact hp.elim
      | panic ch => exact hp.elim
      | outgrown => exact hp.elim
    · subst hJ
      exact ⟨hI _ _ _ _ h0 (.of_below (Nat.le_refl _) hb1), fun j hj => ⟨by have := hT0 j hj; omega, by have := hT0 j hj; omega, by have := hT0 j hj; omega⟩, by omega, hL1, hD1⟩
    · rintro e W2 ⟨⟨v, rfl⟩, T', h | ⟨k, hk, h⟩⟩
      · subst hJ
        obtain ⟨i, t, s, l, d⟩ := h
        have he := run_endLoop (P := P) l (by rw [hrec]; simp)
        rw [hrec] at he
        exact ⟨none, _, he, hdone T' _ (hI _ _ _ _ i (.put (by omega) l rfl)) ((World.putObj_heap_other (by omega)).trans d)⟩
      · subst hJx
        obtain ⟨c, i, s, l, d⟩ := h
        have he := run_endLoop (P := P) l (by rw [hrec]; simp)
        rw [hrec] at he
        exact ⟨some c, _, he, hstop c k T' _ hk (hIx _ _ _ _ _ i (.put (by omega) l rfl)) ((World.putObj_heap_other (by omega)).trans d)⟩
end Go.Proofs.YtmdepkehpohgeaaGreat.Fifo
