/- Rows of package fifo: rings in plain lists; what of memory may have turned; places, rings in memory. -/
import Derived.Test.YtmdepkehpohgeaaGreatProg
import Derived.WalkKit
import Derived.Below
import Derived.Lib.Hide
import Derived.Laws.AppendOwn
import Derived.Laws.OwnMore
import Derived.BigQuiet
namespace Go.Proofs.YtmdepkehpohgeaaGreat.Fifo
open Go.RowKit
set_option linter.unusedVariables false

/-- So many things l stand in the places vs from f on, round the end. -/
def RingL (vs : List Value) (f : Nat) (l : List Value) : Prop :=
  l.length ≤ vs.length ∧ (vs.length = 0 → f = 0) ∧ (0 < vs.length → f < vs.length) ∧ ∀ k, k < l.length → vs[(f + k) % vs.length]? = l[k]?

theorem ringL_wide (l zs : List Value) : RingL (l ++ zs) 0 l :=
  ⟨by simp, fun _ => rfl, fun h => h, fun k hk => by
    rw [Nat.zero_add, Nat.mod_eq_of_lt (by simp; omega), List.getElem?_append_left hk]⟩
theorem ringL_self (l : List Value) : RingL l 0 l := by simpa using ringL_wide l []
theorem mod_ne {f a b n : Nat} (h : a < b) (hb : b - a < n) : (f + a) % n ≠ (f + b) % n := by
  intro e
  have h1 := Nat.sub_mod_eq_zero_of_mod_eq e.symm
  have h2 : f + b - (f + a) = b - a := by omega
  rw [h2, Nat.mod_eq_of_lt hb] at h1
  omega
theorem ringL_put {vs l : List Value} {f : Nat} (h : RingL vs f l) (hl : l.length < vs.length) (x : Value) : RingL (vs.set ((f + l.length) % vs.length) x) f (l ++ [x]) := by
  obtain ⟨h1, h2, h3, h4⟩ := h
  refine ⟨by simp; omega, by simpa using h2, by simpa using h3, fun k hk => ?_⟩
  simp only [List.length_append, List.length_cons, List.length_nil] at hk
  rw [List.length_set]
  by_cases hk2 : k < l.length
  · rw [List.getElem?_set_ne (Ne.symm (mod_ne hk2 (by omega))), h4 k hk2, List.getElem?_append_left hk2]
  · obtain rfl : k = l.length := by omega
    rw [List.getElem?_set_self (Nat.mod_lt _ (by omega))]
    simp
theorem ringL_head {vs t : List Value} {f : Nat} {x : Value} (h : RingL vs f (x :: t)) : vs[f]? = some x ∧ f < vs.length := by
  obtain ⟨h1, h2, h3, h4⟩ := h
  simp only [List.length_cons] at h1
  have := h4 0 (by simp)
  rw [Nat.add_zero, Nat.mod_eq_of_lt (h3 (by omega))] at this
  exact ⟨by simpa using this, h3 (by omega)⟩
theorem ringL_take {vs t : List Value} {f : Nat} {x : Value} (h : RingL vs f (x :: t)) (z : Value) : RingL (vs.set f z) ((f + 1) % vs.length) t := by
  have hf := (ringL_head h).2
  obtain ⟨h1, h2, h3, h4⟩ := h
  simp only [List.length_cons] at h1
  refine ⟨by simp; omega, fun h => by rw [List.length_set] at h; omega, fun _ => by simp; exact Nat.mod_lt _ (by omega), fun k hk => ?_⟩
  rw [List.length_set, Nat.mod_add_mod, Nat.add_assoc, Nat.add_comm 1 k]
  have hne : f ≠ (f + (k + 1)) % vs.length := by
    have := mod_ne (f := f) (a := 0) (b := k + 1) (n := vs.length) (by omega) (by omega)
    rwa [Nat.add_zero, Nat.mod_eq_of_lt hf] at this
  rw [List.getElem?_set_ne hne, h4 (k + 1) (by simp; omega)]
  simp

/-- Of what was there nothing has turned but the blocks that S names. -/
structure Only (S : Nat → Prop) (w w' : World) : Prop where
  os : w'.os = w.os
  tape : w'.tape = w.tape
  output : w'.output = w.output
  size : w.heap.size ≤ w'.heap.size
  block : ∀ k, k < w.heap.size → ¬ S k → w'.heap[k]? = w.heap[k]?
theorem Only.refl (S : Nat → Prop) (w : World) : Only S w w := ⟨rfl, rfl, rfl, Nat.le_refl _, fun _ _ _ => rfl⟩
theorem Only.trans {S : Nat → Prop} {a b c : World} (h : Only S a b) (k : Only S b c) : Only S a c :=
  ⟨k.os.trans h.os, k.tape.trans h.tape, k.output.trans h.output, Nat.le_trans h.size k.size, fun i hi hn => (k.block i (Nat.lt_of_lt_of_le hi h.size) hn).trans (h.block i hi hn)⟩
/-- Then more, of blocks that are in S or that are new. -/
theorem Only.far {S T : Nat → Prop} {a b c : World} (h : Only S a b) (k : Only T b c) (hT : ∀ i, i < a.heap.size → T i → S i) : Only S a c :=
  ⟨k.os.trans h.os, k.tape.trans h.tape, k.output.trans h.output, Nat.le_trans h.size k.size, fun i hi hn => (k.block i (Nat.lt_of_lt_of_le hi h.size) (fun ht => hn (hT i hi ht))).trans (h.block i hi hn)⟩
theorem Only.of_below {S : Nat → Prop} {w w' : World} (h : Below w.heap.size w w') : Only S w w' := ⟨h.os, h.tape, h.output, h.size, fun k hk _ => h.block k hk⟩
theorem Only.below {S : Nat → Prop} {B : Nat} {w w' : World} (h : Only S w w') (hB : B ≤ w.heap.size) (hS : ∀ k, S k → B ≤ k) : Below B w w' :=
  ⟨h.os, h.tape, h.output, h.size, fun k hk => h.block k (by omega) (fun hs => by have := hS k hs; omega)⟩
theorem Only.mono {S T : Nat → Prop} {w w' : World} (h : Only S w w') (hs : ∀ k, k < w.heap.size → S k → T k) : Only T w w' :=
  ⟨h.os, h.tape, h.output, h.size, fun k hk hn => h.block k hk (fun hS => hn (hs k hk hS))⟩
theorem Only.heap {S : Nat → Prop} {w w' : World} (h : Only S w w') {k : Nat} {o : Obj} (hk : w.heap[k]? = some o) (hn : ¬ S k) : w'.heap[k]? = some o :=
  (h.block k (Array.getElem?_eq_some_iff.1 hk).1 hn).trans hk
theorem Only.alloc {S : Nat → Prop} {w w' : World} (h : Only S w w') (o : Obj) : Only S w (w'.alloc o) :=
  h.trans (.of_below ((Below.refl _ _).alloc (Nat.le_refl _) o))
theorem Only.setCell {S : Nat → Prop} {w w' : World} (h : Only S w w') {p : Addr} (hp : S p.block) (u : Value) : Only S w (w'.setCell p u) :=
  h.trans ⟨rfl, rfl, rfl, by simp [World.setCell], fun k hk hn => Below.heap_setCell _ _ _ _ (fun e => hn (e ▸ hp))⟩
theorem Only.setCell_new {S : Nat → Prop} {w w' : World} (h : Only S w w') {p : Addr} (hp : w.heap.size ≤ p.block) (u : Value) : Only S w (w'.setCell p u) :=
  h.far (T := fun k => k = p.block) ⟨rfl, rfl, rfl, by simp [World.setCell], fun k hk hn => Below.heap_setCell _ _ _ _ hn⟩ (fun i hi e => by omega)
theorem Only.grown {S : Nat → Prop} {w w' w1 : World} {row : Option Nat} (h : Only S w w') (hg : w'.grownBy w1 row) (hr : ∀ k, row = some k → S k ∨ w.heap.size ≤ k) : Only S w w1 :=
  ⟨hg.os.trans h.os, hg.tape.trans h.tape, hg.output.trans h.output, Nat.le_trans h.size hg.size, fun k hk hn => (hg.block k (Nat.lt_of_lt_of_le hk h.size) (fun e => (hr k e.symm).elim hn (fun hle => by omega))).trans (h.block k hk hn)⟩

/-- A block of cells, none frozen. -/
def Blk (w : World) (b : Nat) (t : TypeId) (vs : List Value) : Prop := w.heap[b]? = some (.cells vs.toArray t (0, 0))
theorem Blk.lt {w : World} {b : Nat} {t : TypeId} {vs : List Value} (h : Blk w b t vs) : b < w.heap.size := (Array.getElem?_eq_some_iff.1 h).1
theorem Blk.cell {w : World} {b : Nat} {t : TypeId} {vs : List Value} (h : Blk w b t vs) (k : Nat) : w.cell? ⟨b, k, none⟩ = vs[k]? := by
  unfold Blk at h
  simp [World.cell?, h]
theorem Blk.at {w : World} {b : Nat} {t : TypeId} {vs : List Value} (h : Blk w b t vs) (k : Nat) {v : Value} (hv : vs[k]? = some v) : w.cell? ⟨b, k, none⟩ = some v := (h.cell k).trans hv
theorem Blk.frozen {w : World} {b : Nat} {t : TypeId} {vs : List Value} (h : Blk w b t vs) (k : Nat) : w.frozen? ⟨b, k, none⟩ = false := by
  unfold Blk at h
  simp [World.frozen?, h]
theorem Blk.set {w : World} {b : Nat} {t : TypeId} {vs : List Value} (h : Blk w b t vs) (k : Nat) (u : Value) : Blk (w.setCell ⟨b, k, none⟩ u) b t (vs.set k u) := by
  unfold Blk at h ⊢
  simp [World.setCell, Array.getElem?_modify, h]
theorem Blk.other {w : World} {b : Nat} {t : TypeId} {vs : List Value} (h : Blk w b t vs) {p : Addr} (hp : b ≠ p.block) (u : Value) : Blk (w.setCell p u) b t vs :=
  (Below.heap_setCell _ _ _ _ hp).trans h
theorem Blk.only {w w' : World} {b : Nat} {t : TypeId} {vs : List Value} (h : Blk w b t vs) {S : Nat → Prop} (ho : Only S w w') (hn : ¬ S b) : Blk w' b t vs := ho.heap h hn
theorem Blk.keep {w w' : World} {b : Nat} {t : TypeId} {vs : List Value} (h : Blk w b t vs) (hb : Below w.heap.size w w') : Blk w' b t vs := (hb.block b h.lt).trans h
theorem Blk.new (w : World) (t : TypeId) (vs : List Value) : Blk (w.alloc (.cells vs.toArray t)) w.heap.size t vs := by
  show (w.heap.push _)[w.heap.size]? = _
  simp
theorem Blk.alloc {w : World} {b : Nat} {t : TypeId} {vs : List Value} (h : Blk w b t vs) (o : Obj) : Blk (w.alloc o) b t vs := h.keep ((Below.refl _ _).alloc (Nat.le_refl _) o)

/-- Places: a slice that has a block of its own, or none. -/
def Plc (w : World) (e : TypeId) (v : Value) (vs : List Value) : Prop :=
  (v = .slice none 0 0 ∧ vs = []) ∨ ∃ g, v = .slice (some ⟨g, 0, none⟩) vs.length vs.length ∧ Blk w g e vs
/-- The block of places. -/
def PB (v : Value) : Nat → Prop := fun k => v.ownBlock = some k
theorem Plc.only {w w' : World} {e : TypeId} {v : Value} {vs : List Value} (h : Plc w e v vs) {S : Nat → Prop} (ho : Only S w w') (hn : ∀ k, PB v k → ¬ S k) : Plc w' e v vs := by
  rcases h with h | ⟨g, rfl, h⟩
  · exact .inl h
  · exact .inr ⟨g, rfl, h.only ho (hn g rfl)⟩
theorem Plc.keep {w w' : World} {e : TypeId} {v : Value} {vs : List Value} (h : Plc w e v vs) (hb : Below w.heap.size w w') : Plc w' e v vs := by
  rcases h with h | ⟨g, rfl, h⟩
  · exact .inl h
  · exact .inr ⟨g, rfl, h.keep hb⟩
theorem Plc.some {w : World} {e : TypeId} {v : Value} {vs : List Value} (h : Plc w e v vs) (hl : 0 < vs.length) : ∃ g, v = .slice (some ⟨g, 0, none⟩) vs.length vs.length ∧ Blk w g e vs := by
  rcases h with ⟨_, rfl⟩ | h
  · simp at hl
  · exact h
theorem Plc.lt {w : World} {e : TypeId} {v : Value} {vs : List Value} (h : Plc w e v vs) : ∀ k, PB v k → k < w.heap.size := by
  intro k hk
  rcases h with ⟨rfl, _⟩ | ⟨g, rfl, h⟩
  · simp [PB, Value.ownBlock] at hk
  · simp [PB, Value.ownBlock] at hk
    subst hk
    exact h.lt
theorem plc_of_row {w : World} {base : Nat} {e : TypeId} {g n : Nat} {xs : List Value} (h : w.ownsRow base e 1 (.slice (some ⟨g, 0, none⟩) n n) n xs) : Plc w e (.slice (some ⟨g, 0, none⟩) n n) xs := by
  obtain ⟨hl, h⟩ := h
  rcases h with ⟨h, _⟩ | ⟨g', cap, cur, h, hb, hg, h1, h2, h3, h4⟩
  · simp at h
  · simp only [Value.slice.injEq, Option.some.injEq, Addr.mk.injEq, and_true, true_and] at h
    obtain ⟨rfl, rfl⟩ := h
    simp only [Nat.mul_one] at hl h3 h4
    refine .inr ⟨g, by rw [hl], ?_⟩
    rw [List.take_of_length_le (by simp [h3])] at h4
    unfold Blk
    rw [← h4]
    exact hg

theorem code_letter {P : Program} {c : Code} {Q : Exit → Act → World → Prop} {a : Act} {w : World} (h : ∀ W, Hid (W = w) → c.wp P Q a W) : c.wp P Q a w := h w (Lib.hid rfl)
theorem exit_letter {K : Exit → Act → World → Prop} {e : Exit} {a : Act} {w : World} (h : ∀ W, Hid (W = w) → K e a W) : K e a w := h w (Lib.hid rfl)
theorem calls_letter {P : Program} {f : FuncId} {args : Array Value} {w : World} {Q : Ending → World → Prop} (h : ∀ W, Hid (W = w) → Calls P f args W Q) : Calls P f args w Q := h w (Lib.hid rfl)
theorem region_letter {id : Nat} (n : Nat) (hid : id = n) {P : Program} {ops : Array Oper} {b : Bool} {Q : Exit → Act → World → Prop} {a : Act} {w : World} (h : ∀ W, Hid (W = w) → (Code.region id ops b).wp P Q a W) : (Code.region id ops b).wp P Q a w := h w (Lib.hid rfl)
theorem post_letter {P : Program} {F : Func} {Q : Ending → World → Prop} {e : Exit} {a : Act} {w : World} (h : ∀ X, Hid (X = w) → bodyPost P F Q e a X) : bodyPost P F Q e a w := h w (Lib.hid rfl)
theorem cell_keep {w w' : World} {a : Addr} {v : Value} (hb : Below w.heap.size w w') (h : w.cell? a = some v) : w'.cell? a = some v :=
  (World.cell?_of_block (w := w) (hb.block a.block (World.block_lt_of_cell? w _ h))).trans h
theorem below_drewN (w : World) (n : Nat) : Below w.heap.size w (w.drewN n) := ⟨rfl, rfl, rfl, Nat.le_refl _, fun _ _ => rfl⟩
theorem cell_set_off {w : World} {b j k : Nat} {v u : Value} (h : w.cell? ⟨b, k, none⟩ = some u) (hne : k ≠ j) : (w.setCell ⟨b, j, none⟩ v).cell? ⟨b, k, none⟩ = some u := by
  have hlt := World.block_lt_of_cell? w _ h
  rw [← h]
  simp only [World.cell?, World.setCell, Array.getElem?_modify]
  cases e : w.heap[b]? with
  | none => simp
  | some o => cases o <;> simp [Ne.symm hne]
theorem i64w {n : Int} (h : -9223372036854775808 ≤ n ∧ n ≤ 9223372036854775807) : IntKind.i64.wrap n = n := IntWalk.i64_in n h
theorem tmod_at (s n r : Nat) (h : s % n = r) : Int.tmod (s : Int) (n : Int) = (r : Int) := by
  rw [Int.tmod_eq_emod_of_nonneg (by omega), ← h]
  rfl
end Go.Proofs.YtmdepkehpohgeaaGreat.Fifo
