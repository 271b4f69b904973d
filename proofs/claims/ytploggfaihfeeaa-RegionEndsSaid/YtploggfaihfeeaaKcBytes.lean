/- The kit's apartness of two lists of uint8: marks, rows, and what each step keeps. -/
import Derived.Test.YtploggfaihfeeaaKo
import Derived.Maps.AppendAt
import Derived.ArgAppend
import Derived.RangeFuncBox
import Derived.Deep.RegionWith
import Derived.Deep.QuietTactic
import Derived.BigQuiet
namespace Go.Proofs.Ytploggfaihfeeaa.KitBytes
open Go.RowKit Go.Maps Go.Proofs.Ytploggfaihfeeaa.Kit
set_option linter.unusedVariables false

/-- The mark of a place. -/
def mk (k i : Int) : Int := IntKind.u64.wrap ((1000003 * (k + 7) + i) * 11400714819323198485) / 72057594037927936 % 256
theorem info_e : (Try.prog.info? 5).map (fun i => (i.zero, i.size, i.bytes)) = some (some (.int .u8 0), 1, 1) := by kernel_rfl
def marks (k : Int) (n : Nat) : List Value := (List.range n).map fun j => Value.int .u8 (mk k (j : Nat))
theorem marks_len (k : Int) (n : Nat) : (marks k n).length = n := by simp [marks]
theorem marks_succ (k : Int) (n : Nat) : marks k (n + 1) = marks k n ++ [.int .u8 (mk k (n : Nat))] := by simp [marks, List.range_succ]
theorem marks_at (k : Int) {n j : Nat} (h : j < n) : (marks k n)[j]? = some (.int .u8 (mk k (j : Nat))) := by simp [marks, h]
theorem marks_take (k : Int) {n m : Nat} (h : m ≤ n) : (marks k n).take m = marks k m := by
  unfold marks
  rw [← List.map_take, List.take_range, Nat.min_eq_left h]
theorem marks_plus (k : Int) (n j : Nat) : marks k (n + j) ++ [.int .u8 (mk k ((n : Int) + (j : Int)))] = marks k (n + (j + 1)) := by
  rw [← Nat.add_assoc, marks_succ]; simp
theorem set_mark (k : Int) (i : Nat) (xs : List Value) (h : i < xs.length) : (marks k i ++ xs.drop i).set i (.int .u8 (mk k (i : Nat))) = marks k (i + 1) ++ xs.drop (i + 1) := by
  rw [List.set_append_right _ _ (by rw [marks_len]; exact Nat.le_refl _), marks_len, Nat.sub_self, List.drop_eq_getElem_cons h, List.set_cons_zero, marks_succ, List.append_assoc]
  rfl

abbrev R (w : World) (a : Option Addr) (n c : Nat) (L : List Value) : Prop := w.ownsRow 0 5 1 (.slice a n c) n L
theorem own_only {S : Nat → Prop} {w w' : World} {b : Nat} {v : Value} {n : Nat} {L : List Value} (h : w.ownsRow b 5 1 v n L) (ho : Only S w w') (hn : ∀ k, v.ownBlock = some k → ¬ S k) : w'.ownsRow b 5 1 v n L := by
  refine ⟨h.1, ?_⟩
  rcases h.2 with h2 | ⟨g, cap, cur, rfl, hg, hh, r⟩
  · exact .inl h2
  · exact .inr ⟨g, cap, cur, rfl, hg, ho.heap hh (hn g rfl), r⟩
theorem own_base {w : World} {b b' : Nat} {v : Value} {n : Nat} {L : List Value} (h : w.ownsRow b 5 1 v n L) (hb : b' ≤ b) : w.ownsRow b' 5 1 v n L := by
  refine ⟨h.1, ?_⟩
  rcases h.2 with h2 | ⟨g, cap, cur, rfl, hg, r⟩
  · exact .inl h2
  · exact .inr ⟨g, cap, cur, rfl, by omega, r⟩
/-- A shorter slice over the same row. -/
theorem own_prefix {w : World} {b : Nat} {g n m c : Nat} {L : List Value} (h : w.ownsRow b 5 1 (.slice (some ⟨g, 0, none⟩) m c) m L) (hn : n ≤ m) : w.ownsRow b 5 1 (.slice (some ⟨g, 0, none⟩) n c) n (L.take n) := by
  rcases h.2 with ⟨h2, _⟩ | ⟨g', cap, cur, e, hg, hh, hc, hm, hs, ht⟩
  · cases h2
  · simp only [Value.slice.injEq, Option.some.injEq, Addr.mk.injEq, and_true, true_and] at e
    obtain ⟨rfl, rfl⟩ := e
    refine ⟨by rw [List.length_take, h.1]; omega, .inr ⟨g, c, cur, rfl, hg, hh, by omega, hm, hs, ?_⟩⟩
    rw [← ht, List.take_take]
    congr 1
    omega
theorem r_some {w : World} {b : Nat} {a : Option Addr} {n c : Nat} {L : List Value} (h : w.ownsRow b 5 1 (.slice a n c) n L) (hn : 0 < n ∨ 0 < c) : ∃ g, a = some ⟨g, 0, none⟩ := by
  rcases h.2 with ⟨h2, h0⟩ | ⟨g, cap, cur, h2, _⟩
  · simp only [Value.slice.injEq] at h2; omega
  · exact ⟨g, by injection h2⟩
theorem r_cell {w : World} {b : Nat} {g n c j : Nat} {L : List Value} (h : w.ownsRow b 5 1 (.slice (some ⟨g, 0, none⟩) n c) n L) (hj : j < n) : w.cell? ⟨g, j, none⟩ = L[j]? := h.cellAt j (by omega)
theorem r_le {w : World} {b : Nat} {a : Option Addr} {n c : Nat} {L : List Value} (h : w.ownsRow b 5 1 (.slice a n c) n L) : n ≤ c := by
  rcases h.2 with ⟨h2, h0⟩ | ⟨g, cap, cur, h2, _, _, hc, _⟩
  · omega
  · simp only [Value.slice.injEq] at h2; omega
theorem r_max {w : World} {b : Nat} {a : Option Addr} {n c : Nat} {L : List Value} (h : w.ownsRow b 5 1 (.slice a n c) n L) : c ≤ maxLen := by
  rcases h.2 with ⟨h2, h0⟩ | ⟨g, cap, cur, h2, _, _, hc, hm, _⟩
  · simp only [Value.slice.injEq] at h2; omega
  · simp only [Value.slice.injEq] at h2; omega
theorem r_lt {w : World} {b : Nat} {a : Option Addr} {n c : Nat} {L : List Value} (h : w.ownsRow b 5 1 (.slice a n c) n L) : ∀ k, SA a k → b ≤ k ∧ k < w.heap.size := by
  rintro k ⟨x, rfl, rfl⟩
  rcases h.2 with ⟨h2, _⟩ | ⟨g, cap, cur, h2, hg, hh, _⟩
  · cases h2
  · simp only [Value.slice.injEq, Option.some.injEq] at h2
    obtain ⟨rfl, _⟩ := h2
    exact ⟨hg, (Array.getElem?_eq_some_iff.1 hh).1⟩
theorem r_cells {w : World} {b : Nat} {a : Option Addr} {n c : Nat} {L : List Value} (h : w.ownsRow b 5 1 (.slice a n c) n L) : ∀ x, a = some x → ∀ j u, L[j]? = some u → w.cell? (x.add j) = some u := by
  rintro x rfl j u hu
  rcases h.2 with ⟨h2, _⟩ | ⟨g, cap, cur, h2, hg, hh, _⟩
  · cases h2
  · simp only [Value.slice.injEq, Option.some.injEq] at h2
    obtain ⟨rfl, _⟩ := h2
    exact h.cells rfl j u hu
/-- What the growing slice is: still over the list's row, or an own row from base on. -/
def G2 (base : Nat) (w : World) (a : Option Addr) (n c : Nat) (k : Int) (j : Nat) (gv : Value) : Prop :=
  (gv = .slice a (n + j) c ∧ w.ownsRow 0 5 1 (.slice a (n + j) c) (n + j) (marks k (n + j))) ∨
  (∃ g' c', gv = .slice (some ⟨g', 0, none⟩) (n + j) c' ∧ w.ownsRow base 5 1 (.slice (some ⟨g', 0, none⟩) (n + j) c') (n + j) (marks k (n + j)))
theorem own_sa {a : Option Addr} {n c : Nat} {S : Nat → Prop} (h : ∀ k, SA a k → ¬ S k) : ∀ k, (Value.slice a n c).ownBlock = some k → ¬ S k := by
  intro k hk
  cases a with
  | none => cases hk
  | some b => exact h k ⟨b, rfl, by simpa [Value.ownBlock] using hk⟩
/-- A mark is stored. -/
theorem r_store {w : World} {g n c j : Nat} {L : List Value} (h : R w (some ⟨g, 0, none⟩) n c L) (u : Value) : R (w.setCell ⟨g, j, none⟩ u).drew (some ⟨g, 0, none⟩) n c (L.set j u) ∧ Only (SA (some ⟨g, 0, none⟩)) w (w.setCell ⟨g, j, none⟩ u).drew := by
  obtain ⟨h1, h2⟩ := h.stored j u
  exact ⟨h1, ((Only.refl _ w).grown h2 (fun k e => .inl ⟨⟨g, 0, none⟩, rfl, by cases e; rfl⟩)).drew⟩

theorem r_store0 {w : World} {g n c j : Nat} {L : List Value} (h : R w (some ⟨g, 0, none⟩) n c L) (u : Value) : R (w.setCell ⟨g, j, none⟩ u) (some ⟨g, 0, none⟩) n c (L.set j u) ∧ Only (SA (some ⟨g, 0, none⟩)) w (w.setCell ⟨g, j, none⟩ u) := by
  obtain ⟨h1, h2⟩ := h.stored j u
  exact ⟨h1, (Only.refl _ w).grown h2 (fun k e => .inl ⟨⟨g, 0, none⟩, rfl, by cases e; rfl⟩)⟩
theorem own_pos {w : World} {b m : Nat} {v : Value} {L : List Value} (h : w.ownsRow b 5 1 v m L) (hm : 0 < m) : ∃ g c, v = .slice (some ⟨g, 0, none⟩) m c := by
  rcases h.2 with ⟨_, h0⟩ | ⟨g, cap, _, rfl, _⟩
  · omega
  · exact ⟨g, cap, rfl⟩
/-- append(s, many...), whether it stays or moves: the old slice reads as it did. -/
theorem append_any {ops : Array Oper} {rest : List Oper} {o : Oper} {a : Act} {Q : Exit → Act → World → Prop} (w : World) (hg : o.guard = none) (s x : Operand) (hop : o.op = Op.call { callee := Callee.builtin Builtin.append, args := #[s, x], argTypes := #[66, 66] })
    (aa : Option Addr) (n c : Nat) (olds : List Value) (hs : a.eval s = .slice aa n c) (hR : R w aa n c olds)
    (M m : Nat) (news : List Value) (hx : a.eval x = .slice (some ⟨M, 0, none⟩) m m) (hn : news.length = m) (hc : ∀ j u, news[j]? = some u → w.cell? ((⟨M, 0, none⟩ : Addr).add j) = some u) (h1c : ∀ u ∈ news, u.oneCell' = true)
    (hm : 0 < m) (hb : n + m ≤ 16777216)
    (hK : ∀ g' c' w', w'.ownsRow 0 5 1 (.slice (some ⟨g', 0, none⟩) (n + m) c') (n + m) (olds ++ news) → R w' aa n c olds → Only (SA aa) w w' → (SA aa g' ∨ w.heap.size ≤ g') → wpList Try.prog ops Q rest (a.put o.dst (.slice (some ⟨g', 0, none⟩) (n + m) c')) w') :
    wpList Try.prog ops Q (o :: rest) a w := by
  obtain ⟨i0, hi, hz0, hz1, hz2⟩ := info_parts info_e
  have hol := hR.1
  by_cases hroom : n + m ≤ c
  · obtain ⟨g, rfl⟩ := r_some hR (.inr (by omega))
    refine wpList_append_fits w hg s x 66 hop 0 5 i0 1 Try.underlying66 hi hz1 g n c olds hs hR ⟨M, 0, none⟩ m m news hx (by omega) hc h1c hroom ?_
    intro w' hown hgrow
    refine hK g c w' hown ?_ ?_ (.inl ⟨_, rfl, rfl⟩)
    · have := own_prefix (n := n) hown (by omega)
      rwa [List.take_left' (by omega)] at this
    · exact (Only.refl _ w).grown hgrow (fun k e => .inl ⟨⟨g, 0, none⟩, rfl, by cases e; rfl⟩)
  · refine wpList_append_grows w hg s x 66 hop 5 i0 (.int .u8 0) 1 1 Try.underlying66 hi hz0 hz1 hz2 rfl (by decide) aa n c olds hs (fun h => ?_) (by omega) (r_cells hR) ⟨M, 0, none⟩ m m news hx (by omega) hc h1c (by omega) (by unfold maxLen; omega) (by omega) ?_
    · rcases hR.2 with ⟨h2, h0⟩ | ⟨g, cap, cur, h2, _⟩
      · simp only [Value.slice.injEq] at h2; omega
      · rw [h] at h2; cases h2
    · intro v' w' hown hgrow
      obtain ⟨g', c', rfl⟩ := own_pos hown (by omega)
      refine hK g' c' w' (own_base hown (Nat.zero_le _)) (hR.kept hgrow (by cases aa <;> simp [Value.ownBlock])) ((Only.refl _ w).grown hgrow (fun k e => by cases e)) (.inr (r_lt hown g' ⟨_, rfl, rfl⟩).1)
theorem marks_one (k : Int) (n : Nat) : ∀ u ∈ marks k n, u.oneCell' = true := by
  intro u hu
  simp only [marks, List.mem_map] at hu
  obtain ⟨j, _, rfl⟩ := hu
  rfl
/-- Behind draws. -/
theorem quiet_left {P : Program} {f : FuncId} {args : Array Value} {w : World} {n : Nat} {v : Value} (h : Calls P f args (w.drewN n) fun e w' => e = .returned v ∧ w.drewN n = w') : Calls P f args (w.drewN n) fun e w'' => e = .returned v ∧ ∃ m, w'' = w.drewN m :=
  h.mono fun _ _ ⟨he, hm⟩ => ⟨he, n, hm.symm⟩
theorem quiet_add_left {P : Program} {f : FuncId} {args : Array Value} {w : World} {a n : Nat} {v : Value} (h : Calls P f args (w.drewN (a + n)) fun e w' => e = .returned v ∧ w.drewN (a + n) = w') : Calls P f args (w.drewN (a + n)) fun e w'' => e = .returned v ∧ ∃ m, w'' = w.drewN (a + m) :=
  h.mono fun _ _ ⟨he, hm⟩ => ⟨he, n, hm.symm⟩
/-- An append in the list's own row. -/
theorem step2_fits {W wr w1 : World} {g n c j : Nat} {k : Int} (hO : Only (SA (some ⟨g, 0, none⟩)) W wr)
    (hown1 : w1.ownsRow 0 5 1 (.slice (some ⟨g, 0, none⟩) (n + j + 1) c) (n + j + 1) (marks k (n + j) ++ [.int .u8 (mk k ((n : Int) + (j : Int)))]))
    (hgrow : (wr.alloc (.cells #[.int .u8 (mk k ((n : Int) + (j : Int)))] 5)).grownBy w1 (some g)) :
    G2 W.heap.size w1 (some ⟨g, 0, none⟩) n c k (j + 1) (.slice (some ⟨g, 0, none⟩) (n + j + 1) c) ∧ R w1 (some ⟨g, 0, none⟩) n c (marks k n) ∧ Only (SA (some ⟨g, 0, none⟩)) W w1 := by
  rw [marks_plus] at hown1
  refine ⟨.inl ⟨rfl, hown1⟩, ?_, ?_⟩
  · have := own_prefix (n := n) hown1 (by omega)
    rwa [marks_take k (by omega)] at this
  · exact (hO.grown (World.grownBy_alloc wr _ none) (fun k h => by cases h)).grown hgrow (fun k e => .inl ⟨⟨g, 0, none⟩, rfl, by cases e; rfl⟩)
/-- An append that moves to a new row. -/
theorem step2_grows {W wr w1 : World} {a : Option Addr} {n c j : Nat} {k : Int} {v' : Value} (hO : Only (SA a) W wr) (hR : R wr a n c (marks k n))
    (hown1 : w1.ownsRow (wr.alloc (.cells #[.int .u8 (mk k ((n : Int) + (j : Int)))] 5)).heap.size 5 1 v' (n + j + 1) (marks k (n + j) ++ [.int .u8 (mk k ((n : Int) + (j : Int)))]))
    (hgrow : (wr.alloc (.cells #[.int .u8 (mk k ((n : Int) + (j : Int)))] 5)).grownBy w1 none) :
    G2 W.heap.size w1 a n c k (j + 1) v' ∧ R w1 a n c (marks k n) ∧ Only (SA a) W w1 := by
  rw [marks_plus] at hown1
  obtain ⟨g', c', rfl⟩ := ownsRow_succ hown1
  have hs := hO.size
  refine ⟨.inr ⟨g', c', rfl, own_base hown1 (by simp; omega)⟩, ?_, ?_⟩
  · exact (hR.alloc _).kept hgrow (by cases a <;> simp [Value.ownBlock])
  · exact (hO.grown (World.grownBy_alloc wr _ none) (fun k h => by cases h)).grown hgrow (fun k e => by cases e)
/-- An append to the own row. -/
theorem step2_own {W wr w1 : World} {a : Option Addr} {n c j g c2 : Nat} {k : Int} {v' : Value} (hO : Only (SA a) W wr) (hR : R wr a n c (marks k n)) (hW : ∀ k, SA a k → k < W.heap.size)
    (hown : wr.ownsRow W.heap.size 5 1 (.slice (some ⟨g, 0, none⟩) (n + j) c2) (n + j) (marks k (n + j)))
    (hown1 : w1.ownsRow W.heap.size 5 1 v' (n + j + 1) (marks k (n + j) ++ [.int .u8 (mk k ((n : Int) + (j : Int)))]))
    (hgrow : (wr.alloc (.cells #[.int .u8 (mk k ((n : Int) + (j : Int)))] 5)).grownBy w1 (some g)) :
    G2 W.heap.size w1 a n c k (j + 1) v' ∧ R w1 a n c (marks k n) ∧ Only (SA a) W w1 := by
  rw [marks_plus] at hown1
  obtain ⟨g', c', rfl⟩ := ownsRow_succ hown1
  have hg := (r_lt hown g ⟨⟨g, 0, none⟩, rfl, rfl⟩).1
  refine ⟨.inr ⟨g', c', rfl, hown1⟩, ?_, ?_⟩
  · refine (hR.alloc _).kept hgrow ?_
    cases a with
    | none => exact .inl rfl
    | some b =>
      refine .inr fun e => ?_
      have := hW b.block ⟨b, rfl, rfl⟩
      simp only [Value.ownBlock, Option.some.injEq] at e
      omega
  · exact (hO.grown (World.grownBy_alloc wr _ none) (fun k h => by cases h)).grown hgrow (fun k e => .inr (by cases e; exact hg))
/-- The row of two slices. -/
def Box2 (w : World) (H : Nat) (v0 v1 : Value) : Prop := w.heap[H]? = some (.cells #[v0, v1] 66 (0, 0))
theorem Box2.cell0 {w : World} {H : Nat} {v0 v1 : Value} (h : Box2 w H v0 v1) : w.cell? ⟨H, 0, none⟩ = some v0 := by simp [World.cell?, show w.heap[H]? = _ from h]
theorem Box2.cell1 {w : World} {H : Nat} {v0 v1 : Value} (h : Box2 w H v0 v1) : w.cell? ⟨H, 1, none⟩ = some v1 := by simp [World.cell?, show w.heap[H]? = _ from h]
theorem Box2.free {w : World} {H : Nat} {v0 v1 : Value} (h : Box2 w H v0 v1) (j : Nat) : w.frozen? ⟨H, j, none⟩ = false := by simp [World.frozen?, show w.heap[H]? = _ from h]
theorem Box2.set0 {w : World} {H : Nat} {v0 v1 : Value} (h : Box2 w H v0 v1) (u : Value) : Box2 (w.setCell ⟨H, 0, none⟩ u) H u v1 := by
  obtain ⟨hlt, hk⟩ := Array.getElem?_eq_some_iff.1 h
  show (w.heap.modify H _)[H]? = _
  rw [Array.getElem?_eq_getElem (by rw [Array.size_modify]; exact hlt), Array.getElem_modify_self, hk]
  rfl
theorem Box2.set1 {w : World} {H : Nat} {v0 v1 : Value} (h : Box2 w H v0 v1) (u : Value) : Box2 (w.setCell ⟨H, 1, none⟩ u) H v0 u := by
  obtain ⟨hlt, hk⟩ := Array.getElem?_eq_some_iff.1 h
  show (w.heap.modify H _)[H]? = _
  rw [Array.getElem?_eq_getElem (by rw [Array.size_modify]; exact hlt), Array.getElem_modify_self, hk]
  rfl
theorem only_set (w : World) (H j : Nat) (u : Value) : Only (fun k => k = H) w (w.setCell ⟨H, j, none⟩ u) :=
  ⟨rfl, rfl, rfl, by simp [World.setCell], fun k _ hn => Below.heap_setCell w _ u k hn⟩
/-- What lies in a slice of the row of two: marks; its block is not S. -/
def GC (w : World) (v : Value) (m : Nat) (L : List Value) (S : Nat → Prop) : Prop := ∃ g c, v = .slice (some ⟨g, 0, none⟩) m c ∧ w.ownsRow 0 5 1 (.slice (some ⟨g, 0, none⟩) m c) m L ∧ ¬ S g
theorem GC.only {w w' : World} {v : Value} {m : Nat} {L : List Value} {S T : Nat → Prop} (h : GC w v m L S) (ho : Only T w w') (hs : ∀ k, T k → S k) : GC w' v m L S := by
  obtain ⟨g, c, rfl, h1, h2⟩ := h
  exact ⟨g, c, rfl, own_only h1 ho (fun k e => by cases e; exact fun ht => h2 (hs _ ht)), h2⟩
theorem G2.done {W w : World} {a : Option Addr} {n c : Nat} {k : Int} {gv : Value} {S : Nat → Prop} (h : G2 W.heap.size w a n c k 64 gv) (h1 : ∀ k, SA a k → ¬ S k) (h2 : ∀ k, S k → k < W.heap.size) : GC w gv (n + 64) (marks k (n + 64)) S := by
  rcases h with ⟨rfl, h⟩ | ⟨g, c', rfl, h⟩
  · obtain ⟨g, rfl⟩ := r_some h (.inl (by omega))
    exact ⟨g, c, rfl, h, h1 g ⟨_, rfl, rfl⟩⟩
  · exact ⟨g, c', rfl, own_base h (Nat.zero_le _), fun hs => by have := h2 g hs; have := (r_lt h g ⟨_, rfl, rfl⟩).1; omega⟩
end Go.Proofs.Ytploggfaihfeeaa.KitBytes
