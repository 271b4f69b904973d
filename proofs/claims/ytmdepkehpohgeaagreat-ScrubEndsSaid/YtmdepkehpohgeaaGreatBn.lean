/- An object and two own rows of one-cell elements, each in blocks of its own. -/
import Derived.Test.YtmdepkehpohgeaaGreatBa
import Derived.Test.YtmdepkehpohgeaaGreatOw
import Derived.Test.YtmdepkehpohgeaaGreatFa
import Derived.Maps.AppendAt
import Derived.Laws.AppendOwnNone
import Derived.OwnWalk
namespace Go.Proofs.YtmdepkehpohgeaaGreat.Bench
open Go.RowKit Go.Maps Go.ChangeShapes Go.WideShapes Go.ChangeAt Fifo Orow
set_option linter.unusedVariables false

abbrev RowO (T : TypeId) (w : World) (B : Nat) (v : Value) (L : List Value) : Prop := w.ownsRow B T 1 v L.length L
theorem RowO.only {T : TypeId} {S : Nat → Prop} {w w' : World} {B : Nat} {v : Value} {l : List Value} (h : RowO T w B v l) (ho : Only S w w') (hn : ∀ j, PB v j → ¬ S j) : RowO T w' B v l := by
  refine ⟨h.1, ?_⟩
  rcases h.2 with h2 | ⟨g, cap, cur, rfl, hg, hh, r⟩
  · exact .inl h2
  · exact .inr ⟨g, cap, cur, rfl, hg, ho.heap hh (hn g rfl), r⟩
theorem RowO.keep {T : TypeId} {w w' : World} {B : Nat} {v : Value} {l : List Value} (h : RowO T w B v l) (hb : Below w.heap.size w w') : RowO T w' B v l :=
  h.only (Only.of_below (S := fun _ => False) hb) (fun _ _ h => h)
theorem RowO.at {T : TypeId} {w : World} {B : Nat} {v : Value} {l : List Value} (h : RowO T w B v l) : ∀ j, PB v j → B ≤ j ∧ j < w.heap.size := fun j hj => World.ownsRow.lt h j hj
theorem RowO.shape {T : TypeId} {w : World} {B : Nat} {v : Value} {l : List Value} (h : RowO T w B v l) : ∃ a c, v = .slice a l.length c := by
  obtain ⟨a, c, h, _⟩ := own_shape h
  exact ⟨a, c, h⟩
theorem RowO.nil (T : TypeId) (w : World) (B : Nat) : RowO T w B (.slice none 0 0) [] := World.ownsRow_nil _ _ _ _
/-- Two rows apart, and an object whose blocks (O) are neither's. -/
structure Two (T : TypeId) (B : Nat) (w0 w : World) (vp vg : Value) (P G : List Value) (O : Nat → Prop) : Prop where
  rp : RowO T w B vp P
  rg : RowO T w B vg G
  ob : ∀ j, O j → B ≤ j ∧ j < w.heap.size ∧ ¬ PB vp j ∧ ¬ PB vg j
  ap : ∀ j, PB vp j → ¬ PB vg j
  bl : Below B w0 w
  b0 : B ≤ w0.heap.size
theorem Two.new {T : TypeId} {B : Nat} {w0 w : World} {O : Nat → Prop} (h1 : ∀ j, O j → B ≤ j ∧ j < w.heap.size) (h2 : Below B w0 w) (h3 : B ≤ w0.heap.size) : Two T B w0 w (.slice none 0 0) (.slice none 0 0) [] [] O :=
  ⟨RowO.nil T w B, RowO.nil T w B, fun j hj => ⟨(h1 j hj).1, (h1 j hj).2, fun e => by simp [PB, Value.ownBlock] at e, fun e => by simp [PB, Value.ownBlock] at e⟩, fun j e => by simp [PB, Value.ownBlock] at e, h2, h3⟩
/-- The object does something to its own. -/
theorem Two.obj {T : TypeId} {B : Nat} {w0 w w' : World} {vp vg : Value} {P G : List Value} {O O' : Nat → Prop} (h : Two T B w0 w vp vg P G O) (ho : Only O w w') (hn : ∀ j, O' j → O j ∨ w.heap.size ≤ j) (hl : ∀ j, O' j → j < w'.heap.size) : Two T B w0 w' vp vg P G O' := by
  have hbw : B ≤ w.heap.size := Nat.le_trans h.b0 h.bl.size
  refine ⟨h.rp.only ho (fun j hj e => (h.ob j e).2.2.1 hj), h.rg.only ho (fun j hj e => (h.ob j e).2.2.2 hj), fun j hj => ?_, h.ap, h.bl.trans (ho.below hbw (fun k hk => (h.ob k hk).1)), h.b0⟩
  rcases hn j hj with e | e
  · exact ⟨(h.ob j e).1, hl j hj, (h.ob j e).2.2⟩
  · exact ⟨Nat.le_trans hbw e, hl j hj, fun k => by have := (h.rp.at j k).2; omega, fun k => by have := (h.rg.at j k).2; omega⟩
theorem Two.keep {T : TypeId} {B : Nat} {w0 w w' : World} {vp vg : Value} {P G : List Value} {O : Nat → Prop} (h : Two T B w0 w vp vg P G O) (hb : Below w.heap.size w w') : Two T B w0 w' vp vg P G O :=
  h.obj (Only.of_below hb) (fun j hj => .inl hj) (fun j hj => Nat.lt_of_lt_of_le (h.ob j hj).2.1 hb.size)
/-- Behind an append of one thing that was laid in a new block. -/
theorem app_only {w w1 : World} {v : Value} {o : Obj} (h : (w.alloc o).grownBy w1 v.ownBlock) : Only (PB v) w w1 :=
  ((Only.refl (PB v) w).alloc o).grown h (fun k e => .inl e)
theorem app_fresh {w : World} {v v' : Value} {o : Obj} (h : v'.ownBlock = v.ownBlock ∨ v'.ownBlock = some (w.alloc o).heap.size) : ∀ j, PB v' j → PB v j ∨ w.heap.size ≤ j := by
  intro j hj
  unfold PB at *
  rcases h with h | h
  · exact .inl (h ▸ hj)
  · rw [h] at hj
    simp at hj
    exact .inr (by omega)
theorem Two.app_p {T t : TypeId} {B n : Nat} {w0 w w5 : World} {vp vg v' : Value} {P G : List Value} {O : Nat → Prop} {x : Value} (h : Two T B w0 w vp vg P G O) (hn : P.length = n)
    (h1 : w5.ownsRow B T 1 v' (n + 1) (P ++ [x])) (h2 : (w.alloc (.cells #[x] t)).grownBy w5 vp.ownBlock) (h4 : v'.ownBlock = vp.ownBlock ∨ v'.ownBlock = some (w.alloc (.cells #[x] t)).heap.size) :
    Two T B w0 w5 v' vg (P ++ [x]) G O ∧ Only (PB vp) w w5 := by
  have ho : Only (PB vp) w w5 := app_only h2
  have hf := app_fresh h4
  have hbw : B ≤ w.heap.size := Nat.le_trans h.b0 h.bl.size
  refine ⟨⟨by show w5.ownsRow B T 1 v' _ _; rw [List.length_append, hn]; exact h1, h.rg.only ho (fun j hj e => h.ap j e hj), fun j hj => ⟨(h.ob j hj).1, Nat.lt_of_lt_of_le (h.ob j hj).2.1 ho.size, fun k => ?_, (h.ob j hj).2.2.2⟩, fun j hj k => ?_, h.bl.trans (ho.below hbw (fun k hk => (h.rp.at k hk).1)), h.b0⟩, ho⟩
  · rcases hf j k with e | e
    · exact (h.ob j hj).2.2.1 e
    · have := (h.ob j hj).2.1; omega
  · rcases hf j hj with e | e
    · exact h.ap j e k
    · have := (h.rg.at j k).2; omega
theorem Two.swap {T : TypeId} {B : Nat} {w0 w : World} {vp vg : Value} {P G : List Value} {O : Nat → Prop} (h : Two T B w0 w vp vg P G O) : Two T B w0 w vg vp G P O :=
  ⟨h.rg, h.rp, fun j hj => ⟨(h.ob j hj).1, (h.ob j hj).2.1, (h.ob j hj).2.2.2, (h.ob j hj).2.2.1⟩, fun j hj k => h.ap j k hj, h.bl, h.b0⟩
theorem Two.app_g {T t : TypeId} {B n : Nat} {w0 w w5 : World} {vp vg v' : Value} {P G : List Value} {O : Nat → Prop} {x : Value} (h : Two T B w0 w vp vg P G O) (hn : G.length = n)
    (h1 : w5.ownsRow B T 1 v' (n + 1) (G ++ [x])) (h2 : (w.alloc (.cells #[x] t)).grownBy w5 vg.ownBlock) (h4 : v'.ownBlock = vg.ownBlock ∨ v'.ownBlock = some (w.alloc (.cells #[x] t)).heap.size) :
    Two T B w0 w5 vp v' P (G ++ [x]) O ∧ Only (PB vg) w w5 := by
  obtain ⟨a, b⟩ := h.swap.app_p hn h1 h2 h4
  exact ⟨a.swap, b⟩
theorem at_append {P : Program} {ops : Array Oper} {Q : Exit → Act → World → Prop} {rest : List Oper} {op : Oper} {a : Act} {w : World} (x y : Operand) (t u : TypeId) (ho : op.op = .call { callee := .builtin .append, args := #[x, y], argTypes := #[t, u] }) (h : Hid (wpList P ops Q (op :: rest) a w)) : wpList P ops Q (op :: rest) a w := h.out
/-- An append onto a row of one's own, of a slice that may be nil. -/
theorem wp_append_any {P : Program} (w : World) {o : Oper} {a : Act} {K : Act → World → Prop} {Q : Exit → Act → World → Prop} (s x : Operand) (t : TypeId)
    (ho : o.op = .call { callee := .builtin .append, args := #[s, x], argTypes := #[t, t] })
    (base : Nat) (e : TypeId) (i : TypeInfo) (z : Value) (size bytes : Nat) (ht : P.underlying t = some (.slice e)) (hi : P.info? e = some i) (hz : i.zero = some z)
    (hsize : i.size = size) (hby : i.bytes = bytes) (hzs : z.cells.size = size) (hsz : 0 < size)
    (v : Value) (n : Nat) (xs : List Value) (hs : a.eval s = v) (hown : w.ownsRow base e size v n xs)
    (ao : Option Addr) (m c : Nat) (news : List Value) (hx : a.eval x = .slice ao m c) (hl : news.length = m * size) (hno : ao = none → m = 0 ∧ c = 0) (hnews : ∀ ad, ao = some ad → ∀ j u, news[j]? = some u → w.cell? (ad.add j) = some u) (h1 : ∀ u ∈ news, u.oneCell' = true)
    (h63 : n + m ≤ maxLen) (hbytes : (n + m) * bytes ≤ 140737488355328) (hbase : base ≤ w.heap.size)
    (h : ∀ v' w', w'.ownsRow base e size v' (n + m) (xs ++ news) → w.grownBy w' v.ownBlock → K (a.put o.dst v') w') : o.wp P a w K Q := by
  cases ao with
  | some ad => exact wp_append_own w s x t ho base e i z size bytes ht hi hz hsize hby hzs hsz v n xs hs hown ad m c news hx hl (hnews ad rfl) h1 h63 hbytes hbase fun v' w' h3 h4 _ => h v' w' h3 h4
  | none =>
    obtain ⟨rfl, rfl⟩ := hno rfl
    have hnn : news = [] := List.eq_nil_of_length_eq_zero (by simpa using hl)
    subst hnn
    have hrun := run_append_owned_none (P := P) w base t o.type e i size ht hi v n xs hown
    unfold Oper.wp
    simp [execOp, ho, resolve, invoke, builtin, hs, hx, hrun, Result.andThen]
    exact h v w (by simpa using hown) (World.grownBy.refl _ _)
theorem wpList_append_any {P : Program} (w : World) {ops : Array Oper} {rest : List Oper} {o : Oper} {a : Act} {Q : Exit → Act → World → Prop} (hgd : o.guard = none) (s x : Operand) (t : TypeId)
    (ho : o.op = .call { callee := .builtin .append, args := #[s, x], argTypes := #[t, t] })
    (base : Nat) (e : TypeId) (i : TypeInfo) (z : Value) (size bytes : Nat) (ht : P.underlying t = some (.slice e)) (hi : P.info? e = some i) (hz : i.zero = some z)
    (hsize : i.size = size) (hby : i.bytes = bytes) (hzs : z.cells.size = size) (hsz : 0 < size)
    (v : Value) (n : Nat) (xs : List Value) (hs : a.eval s = v) (hown : w.ownsRow base e size v n xs)
    (ao : Option Addr) (m c : Nat) (news : List Value) (hx : a.eval x = .slice ao m c) (hl : news.length = m * size) (hno : ao = none → m = 0 ∧ c = 0) (hnews : ∀ ad, ao = some ad → ∀ j u, news[j]? = some u → w.cell? (ad.add j) = some u) (h1 : ∀ u ∈ news, u.oneCell' = true)
    (h63 : n + m ≤ maxLen) (hbytes : (n + m) * bytes ≤ 140737488355328) (hbase : base ≤ w.heap.size)
    (h : ∀ v' w', w'.ownsRow base e size v' (n + m) (xs ++ news) → w.grownBy w' v.ownBlock → wpList P ops Q rest (a.put o.dst v') w') : wpList P ops Q (o :: rest) a w :=
  wpList_plain hgd fun _ hK => wp_append_any w s x t ho base e i z size bytes ht hi hz hsize hby hzs hsz v n xs hs hown ao m c news hx hl hno hnews h1 h63 hbytes hbase fun v' w' h2 h3 => hK _ _ (h v' w' h2 h3)
end Go.Proofs.YtmdepkehpohgeaaGreat.Bench
