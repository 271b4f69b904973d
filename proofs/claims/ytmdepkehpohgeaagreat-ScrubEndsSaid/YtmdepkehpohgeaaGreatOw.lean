/- Own rows of elements of any size: kept, shortened, stored into; whole elements stored into blocks that are known. Good for every stage. -/
import Derived.Test.YtmdepkehpohgeaaGreatFa
import Derived.Laws.OwnMore
import Derived.Laws.CopyOwn
import Derived.Maps.AppendAt
import Derived.ArgAppend
import Derived.OwnWalk
import Derived.WideShapes
import Derived.WalkLawsBesides
import Derived.Deep.RegionHeld3
namespace Go.Proofs.YtmdepkehpohgeaaGreat.Orow
open Go.RowKit Go.Maps Fifo
set_option linter.unusedVariables false
attribute [local go_sem] Oper.semAt_some

/-- The one block of an address. -/
def BA (a : Option Addr) : Nat → Prop := fun j => ∃ b, a = some b ∧ b.block = j
theorem pb_ba {a : Option Addr} {n c j : Nat} : PB (.slice a n c) j ↔ BA a j := by
  unfold PB BA
  cases a <;> simp [Value.ownBlock]
theorem ba_some {g o j : Nat} (h : BA (some ⟨g, o, none⟩) j) : j = g := by
  obtain ⟨b, hb, rfl⟩ := h
  cases hb; rfl
theorem ba_self (g o : Nat) : BA (some ⟨g, o, none⟩) g := ⟨_, rfl, rfl⟩
theorem only_cell {S : Nat → Prop} {w w' : World} (h : Only S w w') {p : Addr} {v : Value} (hn : ¬ S p.block) (hc : w.cell? p = some v) : w'.cell? p = some v := by
  rw [World.cell?_of_block (w := w) (h.block p.block (World.block_lt_of_cell? w _ hc) hn)]
  exact hc
theorem own_keep {w w' : World} {B n sz : Nat} {e : TypeId} {v : Value} {L : List Value} (h : w.ownsRow B e sz v n L) (hb : Below w.heap.size w w') : w'.ownsRow B e sz v n L := by
  refine ⟨h.1, ?_⟩
  rcases h.2 with h2 | ⟨g, cap, cur, h1, h2, h3, r⟩
  · exact .inl h2
  · exact .inr ⟨g, cap, cur, h1, h2, (hb.block g (Array.getElem?_eq_some_iff.1 h3).1).trans h3, r⟩
theorem own_only {S : Nat → Prop} {w w' : World} {B n sz : Nat} {e : TypeId} {a : Option Addr} {c : Nat} {L : List Value} (h : w.ownsRow B e sz (.slice a n c) n L) (ho : Only S w w') (hn : ∀ j, BA a j → ¬ S j) : w'.ownsRow B e sz (.slice a n c) n L := by
  refine ⟨h.1, ?_⟩
  rcases h.2 with h2 | ⟨g, cap, cur, h1, h2, h3, r⟩
  · exact .inl h2
  · refine .inr ⟨g, cap, cur, h1, h2, ho.heap h3 (hn g ?_), r⟩
    cases h1
    exact ba_self _ _
theorem own_mono {w : World} {B B' n sz : Nat} {e : TypeId} {v : Value} {L : List Value} (h : w.ownsRow B e sz v n L) (hb : B' ≤ B) : w.ownsRow B' e sz v n L := by
  refine ⟨h.1, ?_⟩
  rcases h.2 with h2 | ⟨g, cap, cur, h1, h2, r⟩
  · exact .inl h2
  · exact .inr ⟨g, cap, cur, h1, Nat.le_trans hb h2, r⟩
theorem own_shape {w : World} {B n sz : Nat} {e : TypeId} {v : Value} {L : List Value} (h : w.ownsRow B e sz v n L) : ∃ a cap, v = .slice a n cap ∧ n ≤ cap ∧ (a = none → n = 0 ∧ cap = 0) := by
  rcases h.2 with ⟨rfl, rfl⟩ | ⟨g, cap, cur, rfl, _, _, hc, _⟩
  · exact ⟨_, _, rfl, Nat.le_refl _, fun _ => ⟨rfl, rfl⟩⟩
  · exact ⟨_, _, rfl, hc, fun h => by cases h⟩
theorem own_none {w : World} {B n sz c : Nat} {e : TypeId} {a : Option Addr} {L : List Value} (h : w.ownsRow B e sz (.slice a n c) n L) (ha : a = none) : n = 0 ∧ c = 0 := by
  obtain ⟨a', c', e', _, h2⟩ := own_shape h
  cases e'
  exact h2 ha
theorem own_some {w : World} {B n sz c : Nat} {e : TypeId} {a : Option Addr} {L : List Value} (h : w.ownsRow B e sz (.slice a n c) n L) (hn : 0 < n ∨ 0 < c) : ∃ g, a = some ⟨g, 0, none⟩ := by
  rcases h.2 with ⟨h2, h0⟩ | ⟨g, cap, cur, h2, _⟩
  · simp only [Value.slice.injEq] at h2; omega
  · exact ⟨g, by injection h2⟩
theorem own_le {w : World} {B n sz c : Nat} {e : TypeId} {a : Option Addr} {L : List Value} (h : w.ownsRow B e sz (.slice a n c) n L) : n ≤ c := by
  obtain ⟨a', c', e', h1, _⟩ := own_shape h
  cases e'
  exact h1
theorem own_max {w : World} {B n sz c : Nat} {e : TypeId} {a : Option Addr} {L : List Value} (h : w.ownsRow B e sz (.slice a n c) n L) : c ≤ maxLen := by
  rcases h.2 with ⟨h2, h0⟩ | ⟨g, cap, cur, h2, _, _, hc, hm, _⟩
  · simp only [Value.slice.injEq] at h2; omega
  · simp only [Value.slice.injEq] at h2; omega
theorem own_lt {w : World} {B n sz c : Nat} {e : TypeId} {a : Option Addr} {L : List Value} (h : w.ownsRow B e sz (.slice a n c) n L) : ∀ j, BA a j → B ≤ j ∧ j < w.heap.size := by
  rintro j ⟨b, rfl, rfl⟩
  exact h.lt b.block (by simp [Value.ownBlock])
theorem own_cells {w : World} {B n sz c : Nat} {e : TypeId} {a : Option Addr} {L : List Value} (h : w.ownsRow B e sz (.slice a n c) n L) : ∀ x, a = some x → ∀ j u, L[j]? = some u → w.cell? (x.add j) = some u := by
  rintro x rfl j u hu
  rcases h.2 with ⟨h2, _⟩ | ⟨g, cap, cur, h2, hg, hh, _⟩
  · cases h2
  · simp only [Value.slice.injEq, Option.some.injEq] at h2
    obtain ⟨rfl, _⟩ := h2
    exact h.cells rfl j u hu
theorem own_pos {w : World} {B n sz : Nat} {e : TypeId} {v : Value} {L : List Value} (h : w.ownsRow B e sz v n L) (hn : 0 < n) : ∃ g c, v = .slice (some ⟨g, 0, none⟩) n c := by
  rcases h.2 with ⟨_, h0⟩ | ⟨g, cap, _, rfl, _⟩
  · omega
  · exact ⟨g, cap, rfl⟩
/-- The block of an own row. -/
theorem own_blk {w : World} {B n sz c g : Nat} {e : TypeId} {L : List Value} (h : w.ownsRow B e sz (.slice (some ⟨g, 0, none⟩) n c) n L) :
    ∃ cur, Blk w g e cur ∧ cur.take (n * sz) = L ∧ cur.length = c * sz ∧ n ≤ c ∧ c ≤ maxLen ∧ B ≤ g := by
  rcases h.2 with ⟨h2, _⟩ | ⟨g', cap, cur, h2, h3, h4, h5, h6, h7, h8⟩
  · cases h2
  · simp only [Value.slice.injEq, Option.some.injEq, Addr.mk.injEq, and_true, true_and] at h2
    obtain ⟨rfl, rfl⟩ := h2
    exact ⟨cur.toList, by unfold Blk; simpa using h4, h8, by simpa using h7, h5, h6, h3⟩
theorem blk_own {w : World} {B n sz c g : Nat} {e : TypeId} {cur L : List Value} (hb : Blk w g e cur) (h1 : cur.take (n * sz) = L) (h2 : cur.length = c * sz) (h3 : n ≤ c) (h4 : c ≤ maxLen) (h5 : B ≤ g) :
    w.ownsRow B e sz (.slice (some ⟨g, 0, none⟩) n c) n L := by
  refine ⟨?_, .inr ⟨g, c, cur.toArray, rfl, h5, hb, h3, h4, by simpa using h2, by simpa using h1⟩⟩
  rw [← h1, List.length_take, h2, Nat.min_eq_left (Nat.mul_le_mul_right _ h3)]
/-- A shorter slice over the same row. -/
theorem own_prefix {w : World} {B n m sz c g : Nat} {e : TypeId} {L : List Value} (h : w.ownsRow B e sz (.slice (some ⟨g, 0, none⟩) m c) m L) (hn : n ≤ m) : w.ownsRow B e sz (.slice (some ⟨g, 0, none⟩) n c) n (L.take (n * sz)) := by
  obtain ⟨cur, h1, h2, h3, h4, h5, h6⟩ := own_blk h
  refine blk_own h1 ?_ h3 (by omega) h5 h6
  rw [← h2, List.take_take, Nat.min_eq_left (Nat.mul_le_mul_right _ hn)]
theorem grown_only {w w' : World} {v : Value} (h : w.grownBy w' v.ownBlock) : Only (PB v) w w' :=
  ⟨h.os, h.tape, h.output, h.size, fun k hk hn => h.block k hk (fun e => hn e.symm)⟩
theorem cells_new (w : World) (l : List Value) (t : TypeId) : ∀ j u, l[j]? = some u → (w.alloc (.cells l.toArray t)).cell? ((⟨w.heap.size, 0, none⟩ : Addr).add j) = some u := by
  intro j u hj
  rw [Go.WideShapes.add_plain, Nat.zero_add, World.cell?_alloc_at _ _ _ _ rfl]
  simpa using hj

/- Stores of whole elements. -/
theorem at_store {P : Program} {ops : Array Oper} {Q : Exit → Act → World → Prop} {rest : List Oper} {op : Oper} {a : Act} {w : World} (ty : TypeId) (x y : Operand) (ho : op.op = .store ty x y) (h : Hid (wpList P ops Q (op :: rest) a w)) : wpList P ops Q (op :: rest) a w := h.out
theorem set_blk {w : World} {g : Nat} {t : TypeId} {old vs : List Value} (hg : Blk w g t old) : Blk (w.setRow g vs.toArray) g t vs := setRow_heap w g old.toArray vs.toArray t (0, 0) hg
theorem set_only (w : World) (g : Nat) (cs : Array Value) : Only (fun j => j = g) w (w.setRow g cs) := by
  refine ⟨rfl, rfl, rfl, by simp [World.setRow], fun k hk hn => ?_⟩
  have : g ≠ k := fun e => hn e.symm
  simp [World.setRow, Array.getElem?_modify, this]
theorem run_store_at {P : Program} (w : World) (g off : Nat) (t ty : TypeId) (cur : Array Value) (cells : Array Value) (hg : w.heap[g]? = some (.cells cur t (0, 0))) (hi : (P.info? ty).map (·.size) = some cells.size)
    (hfit : off + cells.size ≤ cur.size) (h1 : cells.all (·.oneCell') = true) :
    (storeVar ty ⟨g, off, none⟩ (.agg cells)).run P w = .ok () (w.setRow g (cur.toList.take off ++ cells.toList ++ cur.toList.drop (off + cells.size)).toArray) := by
  have := run_storeCells_at P g off t cells.toList 0 cur w hg (by simpa using hfit) (fun v hv => (Array.all_eq_true_iff_forall_mem.1 h1) v (by simpa using hv))
  cases hq : P.info? ty with
  | none => simp [hq] at hi
  | some i =>
    have hs : cells.size = i.size := by simp [hq] at hi; omega
    simp [storeVar, sizeOf, typeInfo, hq, Value.cells, hs] at this ⊢
    exact this
/-- The store as one operation, wherever it stands. -/
theorem oper_store {P : Program} {op : Oper} {a : Act} {w : World} {K : Act → World → Prop} {Q : Exit → Act → World → Prop} (ty : TypeId) (x y : Operand) (ho : op.op = .store ty x y)
    (g off : Nat) (vs : List Value) (hx : a.eval x = .pointer (some ⟨g, off, none⟩)) (hy : a.eval y = .agg vs.toArray) (t : TypeId) (cur : List Value) (hg : Blk w g t cur) (hi : (P.info? ty).map (·.size) = some vs.length) (hfit : off + vs.length ≤ cur.length) (h1 : vs.toArray.all (·.oneCell') = true)
    (h : ∀ X, Blk X g t (cur.take off ++ vs ++ cur.drop (off + vs.length)) → Only (fun j => j = g) w X → K (a.put op.dst undef) X) : Oper.wp P op a w K Q := by
  have hrun := run_store_at (P := P) w g off t ty cur.toArray vs.toArray hg (by simpa using hi) (by simpa using hfit) h1
  unfold Oper.wp execOp
  simp only [ho, hx, hy, Instr.storeAt, Instr.sureAddr, Sem.run_bind, Sem.run_pure, Result.andThen_ok, hrun]
  exact h _ (by simpa using set_blk hg) (set_only w g _)
theorem store_at {P : Program} {ops : Array Oper} {rest : List Oper} {op : Oper} {a : Act} {w : World} {Q : Exit → Act → World → Prop} (hgd : op.guard = none) (ty : TypeId) (x y : Operand) (ho : op.op = .store ty x y)
    (g off : Nat) (vs : List Value) (hx : a.eval x = .pointer (some ⟨g, off, none⟩)) (hy : a.eval y = .agg vs.toArray) (t : TypeId) (cur : List Value) (hg : Blk w g t cur) (hi : (P.info? ty).map (·.size) = some vs.length) (hfit : off + vs.length ≤ cur.length) (h1 : vs.toArray.all (·.oneCell') = true)
    (h : ∀ X, Blk X g t (cur.take off ++ vs ++ cur.drop (off + vs.length)) → Only (fun j => j = g) w X → wpList P ops Q rest (a.put op.dst undef) X) : wpList P ops Q (op :: rest) a w := by
  refine wpList_plain hgd fun K hK => ?_
  exact oper_store ty x y ho g off vs hx hy t cur hg hi hfit h1 (fun X h1 h2 => hK _ _ (h X h1 h2))
theorem store_all {P : Program} {ops : Array Oper} {rest : List Oper} {op : Oper} {a : Act} {w : World} {Q : Exit → Act → World → Prop} (hgd : op.guard = none) (ty : TypeId) (x y : Operand) (ho : op.op = .store ty x y)
    (g : Nat) (vs : List Value) (hx : a.eval x = .pointer (some ⟨g, 0, none⟩)) (hy : a.eval y = .agg vs.toArray) (t : TypeId) (old : List Value) (hg : Blk w g t old) (hi : (P.info? ty).map (·.size) = some vs.length) (hold : old.length = vs.length) (h1 : vs.toArray.all (·.oneCell') = true)
    (h : ∀ X, Blk X g t vs → Only (fun j => j = g) w X → wpList P ops Q rest (a.put op.dst undef) X) : wpList P ops Q (op :: rest) a w :=
  store_at hgd ty x y ho g 0 vs hx hy t old hg hi (by omega) h1 (fun X h1 h2 => h X (by
    have e : old.drop vs.length = [] := List.drop_eq_nil_of_le (by omega)
    simpa [e] using h1) h2)

/- What a store into a row leaves. -/
theorem take_put (cur cs : List Value) (p q : Nat) (hq : p + cs.length ≤ q) (hl : q ≤ cur.length) : (cur.take p ++ cs ++ cur.drop (p + cs.length)).take q = (cur.take q).take p ++ cs ++ (cur.take q).drop (p + cs.length) := by
  apply List.ext_getElem?
  intro i
  have h1 : (cur.take p).length = p := by rw [List.length_take]; omega
  have h2 : ((cur.take q).take p).length = p := by simp; omega
  by_cases hi : i < q
  · rw [List.getElem?_take_of_lt hi]
    by_cases a : i < p
    · rw [List.getElem?_append_left (by simp; omega), List.getElem?_append_left (by omega), List.getElem?_append_left (by simp; omega), List.getElem?_append_left (by omega), List.getElem?_take_of_lt a, List.getElem?_take_of_lt a, List.getElem?_take_of_lt hi]
    · by_cases b : i < p + cs.length
      · rw [List.getElem?_append_left (by simp; omega), List.getElem?_append_right (by omega), List.getElem?_append_left (by simp; omega), List.getElem?_append_right (by omega), h1, h2]
      · rw [List.getElem?_append_right (by simp; omega), List.getElem?_append_right (by simp; omega)]
        simp only [List.length_append, h1, h2, List.getElem?_drop]
        rw [List.getElem?_take_of_lt (by omega)]
  · rw [List.getElem?_eq_none (by simp; omega), List.getElem?_eq_none (by simp; omega)]
theorem own_put {w X : World} {B n sz c g j : Nat} {e : TypeId} {L cur cs : List Value} (h : w.ownsRow B e sz (.slice (some ⟨g, 0, none⟩) n c) n L) (hw : Blk w g e cur) (hj : j < n) (hc : cs.length = sz)
    (hX : Blk X g e (cur.take (j * sz) ++ cs ++ cur.drop (j * sz + cs.length))) : X.ownsRow B e sz (.slice (some ⟨g, 0, none⟩) n c) n (L.take (j * sz) ++ cs ++ L.drop (j * sz + cs.length)) := by
  obtain ⟨cur', h1, h2, h3, h4, h5, h6⟩ := own_blk h
  have : cur' = cur := by
    unfold Blk at h1 hw
    rw [hw] at h1
    simp at h1
    exact h1.symm
  subst this
  have hjs : j * sz + cs.length ≤ n * sz := by rw [hc, ← Nat.succ_mul]; exact Nat.mul_le_mul_right _ hj
  have hnc : n * sz ≤ c * sz := Nat.mul_le_mul_right _ h4
  refine blk_own hX ?_ ?_ h4 h5 h6
  · rw [take_put _ _ _ _ hjs (by omega), h2]
  · simp only [List.length_append, List.length_take, List.length_drop]
    omega
end Go.Proofs.YtmdepkehpohgeaaGreat.Orow
