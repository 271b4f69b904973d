/- Put together: KgHolds, KhHolds, KbHolds, KiHolds. -/
import Derived.Test.YtmdepkehpohgeaaGreatOw
import Derived.Test.YtmdepkehpohgeaaGreatBa
import Derived.RangeFuncBox
import Derived.Deep.RegionWith
import Derived.Deep.QuietTactic
import Derived.BigQuiet
import Derived.Test.YtmdepkehpohgeaaGreatKa
/- The kit's marks of Holds; rows of marks. -/
namespace Go.Proofs.YtmdepkehpohgeaaGreat.KitHolds
open Go.RowKit Go.Maps Fifo Orow
set_option linter.unusedVariables false

/-- The mark of a place. -/
def mk (k i : Int) : Int := 1000003 * (k + 7) + i
theorem mark_any (k i : Int) (w : World) (h0 : 0 ≤ k) (h1 : k ≤ 1000) (h2 : 0 ≤ i) (h3 : i ≤ 4611686018427387904) :
    Calls Tryz.prog 56 #[.int .i64 k, .int .i64 i] w fun e w' => e = .returned (.int .i64 (mk k i)) ∧ w = w' := by
  go_enter Tryz.func56, Tryz.ntmps56
  go_wp2
  go_ret
  exact ⟨rfl, rfl⟩
/-- The cells of a marked element. -/
def mE (k i : Int) : List Value := [.int .i64 0, .int .i64 (mk k i), .int .i64 0]
theorem mE_len (k i : Int) : (mE k i).length = 3 := rfl
theorem mE_one (k i : Int) : ∀ u ∈ mE k i, u.oneCell' = true := by
  intro u hu
  simp [mE] at hu
  rcases hu with rfl | rfl | rfl <;> rfl
set_option maxRecDepth 100000 in
theorem markE_any (k i : Int) (w : World) (h0 : 0 ≤ k) (h1 : k ≤ 1000) (h2 : 0 ≤ i) (h3 : i ≤ 4611686018427387904) :
    Calls Tryz.prog 62 #[.int .i64 k, .int .i64 i] w fun e w' => e = .returned (.agg #[.int .i64 0, .int .i64 (mk k i), .int .i64 0]) ∧ Below w.heap.size w w' := by
  obtain ⟨g, hg⟩ : ∃ g, w.heap.size = g := ⟨_, rfl⟩
  have B0 := Blk.new w 52 [.int .i64 0, .int .i64 0, .int .i64 0]
  rw [hg] at B0
  have H0 := Lib.hid B0
  have HB := Lib.hid ((Below.refl w.heap.size w).alloc (Nat.le_refl _) (.cells #[.int .i64 0, .int .i64 0, .int .i64 0] 52))
  have Hg := Lib.hid hg
  clear B0
  go_enter Tryz.func62, Tryz.ntmps62
  go_wp2_with fail
  refine (mark_any k i _ h0 h1 h2 h3).mono ?_
  rintro e w1 ⟨rfl, rfl⟩
  go_wp2_with (with_reducible refine at_store _ _ _ rfl ?_)
  apply Lib.hid
  refine store_all rfl _ _ _ rfl g [.int .i64 0, .int .i64 (mk k i), .int .i64 0] rfl rfl 52 _ H0.out (by kernel_rfl) rfl (by simp [Value.oneCell']) ?_
  intro X hX hoX
  have hbX : Below w.heap.size w X := HB.out.trans (hoX.below HB.out.size (fun j hj => by rw [hj, Hg.out]; exact Nat.le_refl _))
  have e0 := hX.at 0 rfl
  have e1 := hX.at 1 rfl
  have e2 := hX.at 2 rfl
  clear hX hoX H0 HB hg Hg
  go_wp2_with fail
  refine bodyPost_ret (v := .agg #[.int .i64 0, .int .i64 (mk k i), .int .i64 0]) ?_ rfl ⟨rfl, hbX⟩
  simp [results, Tryz.results62, go_sem, e0, e1, e2]

theorem info_e : (Tryz.prog.info? 52).map (fun i => (i.zero, i.size, i.bytes)) = some (some (.agg #[.int .i64 0, .int .i64 0, .int .i64 0]), 3, 24) := by kernel_rfl
theorem info_s : (Tryz.prog.info? 62).map (fun i => (i.zero, i.size, i.bytes)) = some (some (.slice none 0 0), 1, 24) := by kernel_rfl
def marks (k : Int) (n : Nat) : List Value := (List.range n).flatMap fun j => mE k (j : Nat)
theorem marks_len (k : Int) (n : Nat) : (marks k n).length = n * 3 := by
  unfold marks
  induction n with
  | zero => rfl
  | succ n ih => rw [List.range_succ, List.flatMap_append, List.length_append, ih]; simp [mE_len]; omega
theorem marks_succ (k : Int) (n : Nat) : marks k (n + 1) = marks k n ++ mE k (n : Nat) := by unfold marks; rw [List.range_succ, List.flatMap_append]; simp
theorem marks_at (k : Int) {n j c : Nat} (h : j < n) (hc : c < 3) : (marks k n)[j * 3 + c]? = (mE k (j : Nat))[c]? := by
  induction n with
  | zero => omega
  | succ n ih =>
    rw [marks_succ]
    by_cases hj : j < n
    · rw [List.getElem?_append_left (by rw [marks_len]; omega), ih hj]
    · obtain rfl : j = n := by omega
      rw [List.getElem?_append_right (by rw [marks_len]; omega), marks_len]
      congr 1
      omega
theorem marks_more (k : Int) (n m : Nat) : ∃ r, marks k (n + m) = marks k n ++ r := by
  induction m with
  | zero => exact ⟨[], by simp⟩
  | succ m ih =>
    obtain ⟨r, hr⟩ := ih
    exact ⟨r ++ mE k ((n + m : Nat) : Int), by rw [← Nat.add_assoc, marks_succ, hr, List.append_assoc]⟩
theorem marks_take (k : Int) {n m : Nat} (h : m ≤ n) : (marks k n).take (m * 3) = marks k m := by
  obtain ⟨r, hr⟩ := marks_more k m (n - m)
  rw [show m + (n - m) = n by omega] at hr
  rw [hr, List.take_left' (marks_len k m)]
theorem marks_one (k : Int) (n : Nat) : ∀ u ∈ marks k n, u.oneCell' = true := by
  intro u hu
  simp only [marks, List.mem_flatMap] at hu
  obtain ⟨j, _, hj⟩ := hu
  exact mE_one _ _ u hj
theorem marks_plus (k : Int) (n j : Nat) : marks k (n + j) ++ mE k ((n : Int) + (j : Int)) = marks k (n + (j + 1)) := by
  rw [← Nat.add_assoc, marks_succ]; simp
theorem set_mark (k : Int) (j : Nat) (xs : List Value) (h : j * 3 + 3 ≤ xs.length) : (marks k j ++ xs.drop (j * 3)).take (j * 3) ++ mE k (j : Nat) ++ (marks k j ++ xs.drop (j * 3)).drop (j * 3 + (mE k (j : Nat)).length) = marks k (j + 1) ++ xs.drop ((j + 1) * 3) := by
  rw [List.take_left' (marks_len k j), mE_len, ← List.drop_drop, List.drop_left' (marks_len k j), List.drop_drop, marks_succ, Nat.succ_mul]

abbrev R (w : World) (a : Option Addr) (n c : Nat) (L : List Value) : Prop := w.ownsRow 0 52 3 (.slice a n c) n L
/-- An element that bears a mark. -/
structure AtM (w : World) (b p : Nat) (k i : Int) : Prop where
  c0 : w.cell? ⟨b, p, none⟩ = some (.int .i64 0)
  c1 : w.cell? ⟨b, p + 1, none⟩ = some (.int .i64 (mk k i))
  c2 : w.cell? ⟨b, p + 2, none⟩ = some (.int .i64 0)
theorem AtM.keep {w w' : World} {b p : Nat} {k i : Int} (h : AtM w b p k i) (hb : Below w.heap.size w w') : AtM w' b p k i :=
  ⟨cell_keep hb h.c0, cell_keep hb h.c1, cell_keep hb h.c2⟩
/-- The first n elements of a slice bear marks. -/
def RowM (w : World) (a : Option Addr) (n : Nat) (k : Int) : Prop := ∀ j, j < n → ∃ b off, a = some ⟨b, off, none⟩ ∧ AtM w b (off + j * 3) k (j : Nat)
theorem RowM.keep {w w' : World} {a : Option Addr} {n : Nat} {k : Int} (h : RowM w a n k) (hb : Below w.heap.size w w') : RowM w' a n k := fun j hj => by
  obtain ⟨b, off, e, h1⟩ := h j hj
  exact ⟨b, off, e, h1.keep hb⟩
/-- Of an own row that begins with marks. -/
theorem rowM_of {w : World} {a : Option Addr} {N n c B : Nat} {k : Int} {L r : List Value} (h : w.ownsRow B 52 3 (.slice a N c) N L) (hL : L = marks k n ++ r) (hn : n ≤ N) : RowM w a n k := by
  intro j hj
  obtain ⟨g, rfl⟩ := own_some h (.inl (by omega))
  refine ⟨g, 0, rfl, ?_⟩
  have q : ∀ q v, q < 3 → (mE k (j : Nat))[q]? = some v → w.cell? ⟨g, 0 + j * 3 + q, none⟩ = some v := fun q v hq hv => by
    rw [Nat.zero_add, h.cellAt (j * 3 + q) (by omega), hL, List.getElem?_append_left (by rw [marks_len]; omega), marks_at k hj hq, hv]
  exact ⟨q 0 _ (by omega) rfl, q 1 _ (by omega) rfl, q 2 _ (by omega) rfl⟩

/- Many lists: those whose addresses are A, lengths N, capacities C. -/
def Rows (w : World) (m : Nat) (A : Nat → Option Addr) (N C : Nat → Nat) (L : Nat → List Value) : Prop := ∀ q, q < m → R w (A q) (N q) (C q) (L q)
def Dis (m : Nat) (A : Nat → Option Addr) : Prop := ∀ q p, q < m → p < m → q ≠ p → ∀ j, BA (A q) j → ¬ BA (A p) j
def UU (m : Nat) (A : Nat → Option Addr) : Nat → Prop := fun j => ∃ q, q < m ∧ BA (A q) j
theorem Rows.step {w w' : World} {m : Nat} {A : Nat → Option Addr} {N C : Nat → Nat} {L L' : Nat → List Value} (h : Rows w m A N C L) (hd : Dis m A) {k : Nat} (hk : k < m) (ho : Only (BA (A k)) w w') (h1 : R w' (A k) (N k) (C k) (L' k)) (hL : ∀ q, q < m → q ≠ k → L' q = L q) : Rows w' m A N C L' := fun q hq => by
  by_cases e : q = k
  · subst e; exact h1
  · rw [hL q hq e]; exact own_only (h q hq) ho (hd q k hq hk e)
theorem Rows.only {S : Nat → Prop} {w w' : World} {m : Nat} {A : Nat → Option Addr} {N C : Nat → Nat} {L : Nat → List Value} (h : Rows w m A N C L) (ho : Only S w w') (hS : ∀ j, UU m A j → ¬ S j) : Rows w' m A N C L := fun q hq => own_only (h q hq) ho (fun j hj => hS j ⟨q, hq, hj⟩)
theorem Rows.keep {w w' : World} {m : Nat} {A : Nat → Option Addr} {N C : Nat → Nat} {L : Nat → List Value} (h : Rows w m A N C L) (hb : Below w.heap.size w w') : Rows w' m A N C L := fun q hq => own_keep (h q hq) hb
theorem Rows.lt {w : World} {m : Nat} {A : Nat → Option Addr} {N C : Nat → Nat} {L : Nat → List Value} (h : Rows w m A N C L) : ∀ j, UU m A j → j < w.heap.size := by
  rintro j ⟨q, hq, hj⟩
  exact (own_lt (h q hq) j hj).2
theorem only_drew {S : Nat → Prop} (w : World) : Only S w w.drew := ⟨rfl, rfl, rfl, Nat.le_refl _, fun _ _ _ => rfl⟩
theorem below_drew {w w' : World} (h : Below w.drew.heap.size w.drew w') : Below w.heap.size w w' := ⟨h.os, h.tape, h.output, h.size, h.block⟩
theorem uu_of {m : Nat} {A : Nat → Option Addr} {k : Nat} (hk : k < m) {w w' : World} (h : Only (BA (A k)) w w') : Only (UU m A) w w' := h.mono (fun j _ hj => ⟨k, hk, hj⟩)

/-- What the growing slice is: still over the list's row, or an own row from base on. -/
def G2 (base : Nat) (w : World) (a : Option Addr) (n c : Nat) (k : Int) (j : Nat) (gv : Value) : Prop :=
  (gv = .slice a (n + j) c ∧ R w a (n + j) c (marks k (n + j))) ∨
  (∃ g' c', gv = .slice (some ⟨g', 0, none⟩) (n + j) c' ∧ w.ownsRow base 52 3 (.slice (some ⟨g', 0, none⟩) (n + j) c') (n + j) (marks k (n + j)))
theorem step_only {S : Nat → Prop} {W wr w5 w1 : World} {o : Obj} {row : Option Nat} (hO : Only S W wr) (hb : Below wr.heap.size wr w5) (hg : (w5.alloc o).grownBy w1 row) (hr : ∀ j, row = some j → S j ∨ W.heap.size ≤ j) : Only S W w1 :=
  (((hO.trans (.of_below hb)).alloc o)).grown hg hr
/-- An append in the list's own row. -/
theorem step2_fits {W wr w5 w1 : World} {g n c j : Nat} {k : Int} {o : Obj} (hO : Only (BA (some ⟨g, 0, none⟩)) W wr) (hb : Below wr.heap.size wr w5)
    (hown1 : w1.ownsRow 0 52 3 (.slice (some ⟨g, 0, none⟩) (n + j + 1) c) (n + j + 1) (marks k (n + j) ++ mE k ((n : Int) + (j : Int))))
    (hgrow : (w5.alloc o).grownBy w1 (some g)) :
    G2 W.heap.size w1 (some ⟨g, 0, none⟩) n c k (j + 1) (.slice (some ⟨g, 0, none⟩) (n + j + 1) c) ∧ R w1 (some ⟨g, 0, none⟩) n c (marks k n) ∧ Only (BA (some ⟨g, 0, none⟩)) W w1 := by
  rw [marks_plus] at hown1
  refine ⟨.inl ⟨rfl, hown1⟩, ?_, step_only hO hb hgrow (fun j e => .inl ⟨⟨g, 0, none⟩, rfl, by cases e; rfl⟩)⟩
  have := own_prefix (n := n) hown1 (by omega)
  rwa [marks_take k (by omega)] at this
/-- An append that moves to a new row. -/
theorem step2_grows {W wr w5 w1 : World} {a : Option Addr} {n c j : Nat} {k : Int} {v' : Value} {o : Obj} (hO : Only (BA a) W wr) (hb : Below wr.heap.size wr w5) (hR : R wr a n c (marks k n))
    (hown1 : w1.ownsRow (w5.alloc o).heap.size 52 3 v' (n + j + 1) (marks k (n + j) ++ mE k ((n : Int) + (j : Int))))
    (hgrow : (w5.alloc o).grownBy w1 none) :
    G2 W.heap.size w1 a n c k (j + 1) v' ∧ R w1 a n c (marks k n) ∧ Only (BA a) W w1 := by
  rw [marks_plus] at hown1
  obtain ⟨g', c', rfl⟩ := own_pos hown1 (by omega)
  have hs := hO.size
  have hs2 := hb.size
  refine ⟨.inr ⟨g', c', rfl, own_mono hown1 (by simp; omega)⟩, ((own_keep hR hb).alloc _).kept hgrow (by cases a <;> simp [Value.ownBlock]), step_only hO hb hgrow (fun j e => by cases e)⟩
/-- An append to the own row. -/
theorem step2_own {W wr w5 w1 : World} {a : Option Addr} {n c j g c2 : Nat} {k : Int} {v' : Value} {o : Obj} (hO : Only (BA a) W wr) (hb : Below wr.heap.size wr w5) (hR : R wr a n c (marks k n)) (hW : ∀ j, BA a j → j < W.heap.size)
    (hown : wr.ownsRow W.heap.size 52 3 (.slice (some ⟨g, 0, none⟩) (n + j) c2) (n + j) (marks k (n + j)))
    (hown1 : w1.ownsRow W.heap.size 52 3 v' (n + j + 1) (marks k (n + j) ++ mE k ((n : Int) + (j : Int))))
    (hgrow : (w5.alloc o).grownBy w1 (some g)) :
    G2 W.heap.size w1 a n c k (j + 1) v' ∧ R w1 a n c (marks k n) ∧ Only (BA a) W w1 := by
  rw [marks_plus] at hown1
  obtain ⟨g', c', rfl⟩ := own_pos hown1 (by omega)
  have hg := (own_lt hown g (ba_self _ _)).1
  refine ⟨.inr ⟨g', c', rfl, hown1⟩, ?_, step_only hO hb hgrow (fun j e => .inr (by cases e; exact hg))⟩
  refine ((own_keep hR hb).alloc _).kept hgrow ?_
  cases a with
  | none => exact .inl rfl
  | some b =>
    refine .inr fun e => ?_
    have := hW b.block ⟨b, rfl, rfl⟩
    simp only [Value.ownBlock, Option.some.injEq] at e
    omega
/-- What lies in place q of the new list of lists: an own row, apart from the block H of places and from all other lists. -/
def GC (w : World) (m : Nat) (A : Nat → Option Addr) (H q : Nat) (o : Option Value) (n : Nat) (L : List Value) : Prop :=
  ∃ g c, o = some (.slice (some ⟨g, 0, none⟩) n c) ∧ w.ownsRow 0 52 3 (.slice (some ⟨g, 0, none⟩) n c) n L ∧ g ≠ H ∧ ∀ p, p < m → p ≠ q → ¬ BA (A p) g
theorem GC.only {S : Nat → Prop} {w w' : World} {m : Nat} {A : Nat → Option Addr} {H q : Nat} {o : Option Value} {n : Nat} {L : List Value} (h : GC w m A H q o n L) (ho : Only S w w') (hS : ∀ j, S j → j = H ∨ ∃ p, p < m ∧ p ≠ q ∧ BA (A p) j) : GC w' m A H q o n L := by
  obtain ⟨g, c, e, h1, h2, h3⟩ := h
  refine ⟨g, c, e, own_only h1 ho (fun j hj hs => ?_), h2, h3⟩
  obtain rfl := ba_some hj
  rcases hS _ hs with h | ⟨p, hp, hpq, hb⟩
  · exact h2 h
  · exact h3 p hp hpq hb
theorem GC.keep {w w' : World} {m : Nat} {A : Nat → Option Addr} {H q : Nat} {o : Option Value} {n : Nat} {L : List Value} (h : GC w m A H q o n L) (hb : Below w.heap.size w w') : GC w' m A H q o n L := h.only (S := fun _ => False) (.of_below hb) (fun j hj => hj.elim)
theorem GC.row {w : World} {m : Nat} {A : Nat → Option Addr} {H q : Nat} {o : Option Value} {n k : Nat} {t : Int} {L r : List Value} (h : GC w m A H q o n L) (hL : L = marks t k ++ r) (hk : k ≤ n) : ∃ ga gc, o = some (.slice ga n gc) ∧ RowM w ga k t := by
  obtain ⟨g, c, e, h1, _⟩ := h
  exact ⟨_, c, e, rowM_of h1 hL hk⟩
theorem G2.done {W w : World} {m : Nat} {A : Nat → Option Addr} {H q : Nat} {a : Option Addr} {n c : Nat} {k : Int} {gv : Value} (h : G2 W.heap.size w a n c k 64 gv) (ha : A q = a) (hq : q < m) (hd : Dis m A) (hH : ∀ j, UU m A j → j < H) (hHW : H < W.heap.size) :
    ∃ g' c', gv = .slice (some ⟨g', 0, none⟩) (n + 64) c' ∧ GC w m A H q (some gv) (n + 64) (marks k (n + 64)) := by
  rcases h with ⟨rfl, h⟩ | ⟨g, c', rfl, h⟩
  · obtain ⟨g, hg⟩ := own_some h (.inl (by omega))
    rw [hg] at h ⊢
    have hb : BA (A q) g := by rw [ha, hg]; exact ba_self _ _
    refine ⟨g, c, rfl, g, c, rfl, h, fun e => ?_, fun p hp hpq hbp => hd q p hq hp (Ne.symm hpq) g hb hbp⟩
    have := hH g ⟨q, hq, hb⟩
    omega
  · have hl := (own_lt h g (ba_self _ _)).1
    refine ⟨g, c', rfl, g, c', rfl, own_mono h (Nat.zero_le _), by omega, fun p hp hpq hbp => ?_⟩
    have := hH g ⟨p, hp, hbp⟩
    omega
/-- append(s, many...), whether it stays or moves: the old slice reads as it did. -/
theorem append_many {ops : Array Oper} {rest : List Oper} {o : Oper} {a : Act} {Q : Exit → Act → World → Prop} (w : World) (hg : o.guard = none) (s x : Operand) (hop : o.op = Op.call { callee := Callee.builtin Builtin.append, args := #[s, x], argTypes := #[62, 62] })
    (aa : Option Addr) (n c : Nat) (olds : List Value) (hs : a.eval s = .slice aa n c) (hR : R w aa n c olds)
    (M m : Nat) (news : List Value) (hx : a.eval x = .slice (some ⟨M, 0, none⟩) m m) (hn : news.length = m * 3) (hc : ∀ j u, news[j]? = some u → w.cell? ((⟨M, 0, none⟩ : Addr).add j) = some u) (h1c : ∀ u ∈ news, u.oneCell' = true)
    (hm : 0 < m) (hb : n + m ≤ 16777216)
    (hK : ∀ g' c' w', w'.ownsRow 0 52 3 (.slice (some ⟨g', 0, none⟩) (n + m) c') (n + m) (olds ++ news) → R w' aa n c olds → Only (BA aa) w w' → (BA aa g' ∨ w.heap.size ≤ g') → wpList Tryz.prog ops Q rest (a.put o.dst (.slice (some ⟨g', 0, none⟩) (n + m) c')) w') :
    wpList Tryz.prog ops Q (o :: rest) a w := by
  obtain ⟨i0, hi, hz0, hz1, hz2⟩ := info_parts info_e
  have hol := hR.1
  by_cases hroom : n + m ≤ c
  · obtain ⟨g, rfl⟩ := own_some hR (.inr (by omega))
    refine wpList_append_fits w hg s x 62 hop 0 52 i0 3 Tryz.underlying62 hi hz1 g n c olds hs hR ⟨M, 0, none⟩ m m news hx (by omega) hc h1c hroom ?_
    intro w' hown hgrow
    refine hK g c w' hown ?_ ?_ (.inl (ba_self _ _))
    · have := own_prefix (n := n) hown (by omega)
      rwa [List.take_left' (by omega)] at this
    · exact (Only.refl _ w).grown hgrow (fun k e => .inl ⟨⟨g, 0, none⟩, rfl, by cases e; rfl⟩)
  · refine wpList_append_grows w hg s x 62 hop 52 i0 (.agg #[.int .i64 0, .int .i64 0, .int .i64 0]) 3 24 Tryz.underlying62 hi hz0 hz1 hz2 rfl (by decide) aa n c olds hs (own_none hR) (by omega) (own_cells hR) ⟨M, 0, none⟩ m m news hx (by omega) hc h1c (by omega) (by unfold maxLen; omega) (by omega) ?_
    intro v' w' hown hgrow
    obtain ⟨g', c', rfl⟩ := own_pos hown (by omega)
    refine hK g' c' w' (own_mono hown (Nat.zero_le _)) (hR.kept hgrow (by cases aa <;> simp [Value.ownBlock])) ((Only.refl _ w).grown hgrow (fun k e => by cases e)) (.inr (own_lt hown g' (ba_self _ _)).1)
end Go.Proofs.YtmdepkehpohgeaaGreat.KitHolds
/- The kit's apartness of many lists of Holds: the walk of flat. -/
namespace Go.Proofs.YtmdepkehpohgeaaGreat.KitHolds
open Go.RowKit Go.Maps Fifo Orow
set_option linter.unusedVariables false
set_option linter.unusedSimpArgs false

set_option maxRecDepth 100000 in
set_option maxHeartbeats 8000000 in
theorem flat_kept (m : Nat) (A : Nat → Option Addr) (N C : Nat → Nat) (X : Nat → List Value) (G capG : Nat) (w : World) (hm : m ≤ 100) (hr : Rows w m A N C X) (hd : Dis m A)
    (hG : ∀ q, q < m → ¬ BA (A q) G) (hN : ∀ q, q < m → N q ≤ 1000000) (hg : ∀ q, q < m → w.cell? ⟨G, q, none⟩ = some (.slice (A q) (N q) (C q))) :
    Calls Tryz.prog 87 #[.slice (some ⟨G, 0, none⟩) m capG] w fun e w' => e = .returned (.bool true) ∧ Only (UU m A) w w' ∧ Rows w' m A N C (fun q => marks q (N q)) := by
  have Hd := Lib.hid hd
  have HG := Lib.hid hG
  have HN := Lib.hid hN
  have Hg := Lib.hid hg
  have Hr := Lib.hid hr
  have HGU : Hid (¬ UU m A G) := fun ⟨q, hq, hb⟩ => hG q hq hb
  obtain ⟨i0, hi, hz0, hz1, hz2⟩ := info_parts info_e
  have Hi := Lib.hid hi
  have Hz0 := Lib.hid hz0
  have Hz1 := Lib.hid hz1
  have Hz2 := Lib.hid hz2
  obtain ⟨s0, si, sz0, sz1, sz2⟩ := info_parts info_s
  have Si := Lib.hid si
  have Sz0 := Lib.hid sz0
  have Sz1 := Lib.hid sz1
  have Sz2 := Lib.hid sz2
  clear hi hz0 hz1 hz2 si sz0 sz1 sz2 hd hG hN hg hr
  go_enter Tryz.func87, Tryz.ntmps87
  go_wp2_with fail
  -- marks are written
  go_loopw [3] (fun i wr => ∃ k : Nat, k ≤ m ∧ i = .int .i64 k ∧ Rows wr m A N C (fun q => if q < k then marks q (N q) else X q) ∧ Only (UU m A) w wr) (fun i _ => m - (intOf i).toNat)
  case atStart => exact ⟨0, Nat.zero_le _, rfl, by simpa using Hr.out, Only.refl _ _⟩
  case round =>
  obtain ⟨k, hk, rfl, hrows, ho⟩ := hrel
  obtain ⟨v1, rfl⟩ : ∃ W : World, W = wr := ⟨_, rfl⟩
  have HO := Lib.hid ho
  have HR := Lib.hid hrows
  clear ho hrows
  by_cases hlt : k < m
  · obtain ⟨a, ha⟩ : ∃ a, A k = a := ⟨_, rfl⟩
    obtain ⟨n, hn⟩ : ∃ n, N k = n := ⟨_, rfl⟩
    obtain ⟨c, hc⟩ : ∃ c, C k = c := ⟨_, rfl⟩
    have hrk : R v1 (A k) (N k) (C k) (X k) := by have := HR.out k hlt; simpa using this
    rw [ha, hn, hc] at hrk
    have hgk := Hg.out k hlt
    rw [ha, hn, hc] at hgk
    have hGk : ¬ BA a G := by rw [← ha]; exact HG.out k hlt
    have HGk := Lib.hid hGk
    have Hrk := Lib.hid hrk
    have g0 := only_cell HO.out HGU.out hgk
    have G0 := Lib.hid g0
    have hn6 : n ≤ 1000000 := by rw [← hn]; exact HN.out k hlt
    have i1 : (0 : Int) ≤ (k : Int) := by omega
    have i2 : (k : Int) < (m : Int) := by omega
    have Ha := Lib.hid ha
    have Hn := Lib.hid hn
    have Hc := Lib.hid hc
    clear hrk hgk hGk ha hn hc
    go_wp2_with fail
    clear g0
    go_loopw [4] (fun i wr => ∃ j : Nat, j ≤ n ∧ i = .int .i64 j ∧ R wr a n c (marks k j ++ (X k).drop (j * 3)) ∧ Only (BA a) v1 wr) (fun i _ => n - (intOf i).toNat)
    case atStart => exact ⟨0, Nat.zero_le _, rfl, by simpa [marks] using Hrk.out, Only.refl _ _⟩
    case round =>
    obtain ⟨j, hj, rfl, hrow, ho⟩ := hrel
    have c0 := only_cell ho HGk.out G0.out
    have hxl : (marks k j ++ (X k).drop (j * 3)).length = n * 3 := hrow.1
    by_cases hlj : j < n
    · have HO2 := Lib.hid ho
      have Hrow := Lib.hid hrow
      obtain ⟨g, rfl⟩ := own_some hrow (.inl (by omega))
      have j1 : (0 : Int) ≤ (j : Int) := by omega
      have j2 : (j : Int) < (n : Int) := by omega
      have C0 := Lib.hid c0
      have Hxl := Lib.hid (show (X k).length = n * 3 from Hrk.out.1)
      clear hrow ho
      go_wp2_with fail
      have gS : ∀ w', Only (BA (some ⟨g, 0, none⟩)) wr w' → w'.cell? ⟨G, k, none⟩ = some (.slice (some ⟨g, 0, none⟩) n c) := fun w' h => only_cell h HGk.out C0.out
      clear c0
      refine wp_region_held_drew (S := fun w' => Only (BA (some ⟨g, 0, none⟩)) wr w') (by kernel_rfl) (only_drew _) (fun hHeld => ?_)
      refine wpAnyH_take (i := 0) (v := ?_) rfl (by kernel_rfl) (by kernel_rfl) (by kernel_rfl) (fun _ _ _ h => h) (Or.inl ⟨by rfl, ?_⟩) (by assumption) ?_
      rotate_left
      · (intro w hSw; (try dsimp only at hSw); go_simp; try (with_reducible rfl))
      try simp only [Act.put]
      refine wpAnyH_take (i := 1) (v := ?_) rfl (by kernel_rfl) (by kernel_rfl) (by kernel_rfl) (fun _ _ _ h => h) (Or.inl ⟨by rfl, ?_⟩) (by assumption) ?_
      rotate_left
      · (intro w hSw; (try dsimp only at hSw); go_simp; try (with_reducible rfl))
      try simp only [Act.put]
      refine wpAnyH_take (i := 2) (v := ?_) rfl (by kernel_rfl) (by kernel_rfl) (by kernel_rfl) (fun _ _ _ h => h) (Or.inl ⟨by rfl, ?_⟩) (by assumption) ?_
      rotate_left
      · (intro w hSw; (try dsimp only at hSw); go_simp; try (with_reducible rfl))
      try simp only [Act.put]
      refine wpAnyH_take (i := 3) (v := ?_) rfl (by kernel_rfl) (by kernel_rfl) (by kernel_rfl) (fun _ _ _ h => h) (Or.inl ⟨by rfl, ?_⟩) (by assumption) ?_
      rotate_left
      · (intro w hSw; (try dsimp only at hSw); go_simp; try (with_reducible rfl))
      try simp only [Act.put]
      refine wpAnyH_take (i := 4) (v := ?_) rfl (by kernel_rfl) (by kernel_rfl) (by kernel_rfl) (fun _ _ _ h => h) (Or.inl ⟨by rfl, ?_⟩) (by assumption) ?_
      rotate_left
      · (intro w hSw; (try dsimp only at hSw); go_simp; try (with_reducible rfl))
      try simp only [Act.put]
      refine wpAnyH_take (i := 5) (v := ?_) rfl (by kernel_rfl) (by kernel_rfl) (by kernel_rfl) (fun _ _ _ h => h) (Or.inl ⟨by rfl, ?_⟩) (by assumption) ?_
      rotate_left
      · (intro w hSw; (try dsimp only at hSw); go_simp; try (with_reducible rfl))
      try simp only [Act.put]
      refine wpAnyH_take (i := 6) (v := ?_) rfl (by kernel_rfl) (by kernel_rfl) (by kernel_rfl) (fun _ _ _ h => h) (Or.inl ⟨by rfl, ?_⟩) (by assumption) ?_
      rotate_left
      · (intro w hSw; (try dsimp only at hSw); go_simp; try (with_reducible rfl))
      try simp only [Act.put]
      refine wpAnyH_ready (rs := [7]) (by kernel_rfl) (by simp) ?_
      refine AllReadyH.cons rfl (fun K0 hK => ?_) AllReadyH.nil
      go_simp
      refine (markE_any (k : Int) (j : Int) _ (by omega) (by omega) (by omega) (by omega)).mono ?_
      rintro e w5 ⟨rfl, hb5⟩
      have hb6 := below_drew hb5
      refine hK.out _ _ (Only.of_below hb6) (fun hHeld => ?_)
      clear hK
      try simp only [Act.put]
      refine wpAnyH_take (i := 8) (v := ?_) rfl (by kernel_rfl) (by kernel_rfl) (by kernel_rfl) (fun _ _ _ h => h) (Or.inl ⟨by rfl, ?_⟩) (by assumption) ?_
      rotate_left
      · (intro w hSw; (try dsimp only at hSw); go_simp; try (with_reducible rfl))
      try simp only [Act.put]
      refine wpAnyH_ready (rs := [9]) (by kernel_rfl) (by simp) ?_
      refine AllReadyH.cons rfl (fun K1 hK => ?_) AllReadyH.nil
      rw [if_pos (by rfl)]
      obtain ⟨cur, u1, u2, u3, u4, u5, u6⟩ := own_blk (own_keep Hrow.out hb6)
      have hfit : j * 3 + 3 ≤ cur.length := by omega
      refine oper_store _ _ _ rfl g (j * 3) [.int .i64 0, .int .i64 (mk k j), .int .i64 0] rfl rfl 52 cur u1 (by kernel_rfl) (by simpa using hfit) (by simp [Value.oneCell']) ?_
      intro Y hY hoY
      have hrow2 := own_put (own_keep Hrow.out hb6) u1 hlj rfl hY
      have hon : Only (BA (some ⟨g, 0, none⟩)) wr Y := (Only.of_below hb6).trans (hoY.mono (fun i _ e => by rw [e]; exact ba_self _ _))
      rw [show [.int .i64 0, .int .i64 (mk k j), .int .i64 0] = mE k (j : Nat) from rfl, set_mark k j (X k) (by rw [Hxl.out]; omega)] at hrow2
      refine hK.out _ _ hon (fun hHeld => ?_)
      clear hK
      try simp only [Act.put]
      refine wpAnyH_done (by kernel_rfl) ?_ _
      have R2 := Lib.hid hrow2
      have O2 := Lib.hid (HO2.out.trans hon)
      clear hY hoY hrow2 hon u1 u2 u3 hb5 hb6 hHeld gS
      go_wp2_with fail
      exact ⟨⟨j + 1, by omega, by go_num, R2.out, O2.out⟩, by simp [intOf]; omega⟩
    · obtain rfl : j = n := by omega
      have hrow1 : R wr a j c (marks k j) := by
        have e : (X k).drop (j * 3) = [] := List.drop_eq_nil_iff.2 (by have := Hrk.out.1; omega)
        rw [e, List.append_nil] at hrow
        exact hrow
      have hrows2 : Rows wr m A N C (fun q => if q < k + 1 then marks q (N q) else X q) := by
        refine HR.out.step Hd.out hlt (by rw [Ha.out]; exact ho) ?_ (fun q hq hqk => ?_)
        · simp only [Nat.lt_succ_self, if_true]
          rw [Ha.out, Hn.out, Hc.out]
          exact hrow1
        · by_cases hqk2 : q < k
          · rw [if_pos (by omega), if_pos hqk2]
          · rw [if_neg (by omega), if_neg hqk2]
      have R2 := Lib.hid hrows2
      have O2 := Lib.hid (HO.out.trans (uu_of hlt (by rw [Ha.out]; exact ho)))
      clear hrow hrow1 hrows2 ho hxl
      go_wp2_with fail
      exact ⟨⟨k + 1, by omega, by go_num, R2.out, O2.out⟩, by simp [intOf]; omega⟩
  obtain rfl : k = m := by omega
  have R1 : Rows v1 k A N C (fun q => marks q (N q)) := fun q hq => by have := HR.out q hq; simpa [hq] using this
  have HR1 := Lib.hid R1
  have HO1 := Lib.hid HO.out
  clear HR HO R1 hlt hk Hr
  -- the new list of lists
  go_wp2_with (at_make; refine wpList_make_full v1 rfl _ _ 76 rfl 0 62 s0 (.slice none 0 0) 1 Tryz.underlying76 Si.out Sz0.out Sz1.out .i64 .i64 k k k rfl rfl rfl rfl (by rw [Sz2.out]; omega) (by unfold maxLen; omega) (Nat.zero_le _) ?_; intro v2 hown hgrow)
  obtain ⟨H, hH⟩ : ∃ H, v1.heap.size = H := ⟨_, rfl⟩
  rw [hH] at hown ⊢
  have hv12 : Only (fun _ => False) v1 v2 := (Only.refl _ _).grown hgrow (fun j e => by cases e)
  obtain ⟨gs0, hgs0, hgs1, hgs2, _, _, _⟩ := own_blk hown
  have HR2 := Lib.hid (HR1.out.only hv12 (fun _ _ h => h))
  have HO2 := Lib.hid (HO1.out.trans (hv12.mono (fun _ _ h => h.elim)))
  have HUH : Hid (∀ j, UU k A j → j < H) := fun j hj => by rw [← hH]; exact HR1.out.lt j hj
  have HwH : Hid (w.heap.size ≤ H) := by rw [← hH]; exact HO1.out.size
  have HG0 := Lib.hid hgs0
  have Hgl : gs0.length = k := by omega
  clear hown hgrow hv12 hgs0 hgs1 hgs2 hH HR1 HO1
  -- each grows
  go_loopw [6] (fun i wr => ∃ q : Nat, q ≤ k ∧ i = .int .i64 q ∧ (∃ gs : List Value, gs.length = k ∧ Blk wr H 62 gs ∧ ∀ p, p < q → GC wr k A H p gs[p]? (N p + 64) (marks p (N p + 64))) ∧ Rows wr k A N C (fun q => marks q (N q)) ∧ Only (UU k A) w wr) (fun i _ => k - (intOf i).toNat)
  case atStart => exact ⟨0, Nat.zero_le _, rfl, ⟨gs0, Hgl, HG0.out, fun p hp => by omega⟩, HR2.out, HO2.out⟩
  case round =>
  obtain ⟨q, hq, rfl, ⟨gs, hgl, hgb, hgc⟩, hrows, ho⟩ := hrel
  obtain ⟨v3, rfl⟩ : ∃ W : World, W = wr := ⟨_, rfl⟩
  have HO := Lib.hid ho
  have HR := Lib.hid hrows
  have HB := Lib.hid hgb
  have HC := Lib.hid hgc
  clear ho hrows hgb hgc
  by_cases hlt : q < k
  · obtain ⟨a, ha⟩ : ∃ a, A q = a := ⟨_, rfl⟩
    obtain ⟨n, hn⟩ : ∃ n, N q = n := ⟨_, rfl⟩
    obtain ⟨c, hc⟩ : ∃ c, C q = c := ⟨_, rfl⟩
    have hrk : R v3 (A q) (N q) (C q) (marks q (N q)) := HR.out q hlt
    rw [ha, hn, hc] at hrk
    have hgk := Hg.out q hlt
    rw [ha, hn, hc] at hgk
    have hGk : ¬ BA a G := by rw [← ha]; exact HG.out q hlt
    have HGk := Lib.hid hGk
    have Hrk := Lib.hid hrk
    have g0 := only_cell HO.out HGU.out hgk
    have G0 := Lib.hid g0
    have hn6 : n ≤ 1000000 := by rw [← hn]; exact HN.out q hlt
    have i1 : (0 : Int) ≤ (q : Int) := by omega
    have i2 : (q : Int) < (k : Int) := by omega
    have hHa : ∀ j, BA a j → j < H := fun j hj => HUH.out j ⟨q, hlt, by rw [ha]; exact hj⟩
    have HHa := Lib.hid hHa
    have HHl : Hid (H < v3.heap.size) := HB.out.lt
    have Ha := Lib.hid ha
    have Hn := Lib.hid hn
    have Hc := Lib.hid hc
    clear hrk hgk hGk ha hn hc hHa
    go_wp2_with fail
    clear g0
    go_loopw [7, 8] (fun gv i wr => ∃ j : Nat, j ≤ 64 ∧ i = .int .i64 j ∧ G2 v3.heap.size wr a n c q j gv ∧ R wr a n c (marks q n) ∧ Only (BA a) v3 wr) (fun _ i _ => 64 - (intOf i).toNat)
    case atStart => exact ⟨0, by omega, rfl, .inl ⟨rfl, Hrk.out⟩, Hrk.out, Only.refl _ _⟩
    case round =>
    obtain ⟨j, hj, rfl, hg2, hrow, ho⟩ := hrel
    have c0 := only_cell ho HGk.out G0.out
    have HO2 := Lib.hid ho
    have HR2 := Lib.hid hrow
    clear ho hrow
    by_cases hlj : j < 64
    · rcases hg2 with ⟨rfl, hown⟩ | ⟨g2, c2, rfl, hown⟩
      · have hle := own_le hown
        have hmax := own_max hown
        have Hown := Lib.hid hown
        clear hown
        go_wp2_with fail
        refine (markE_any (q : Int) ((n : Int) + (j : Int)) _ (by omega) (by omega) (by omega) (by omega)).mono ?_
        rintro e w5 ⟨rfl, hb5⟩
        have Hb5 := Lib.hid hb5
        have Hown5 := Lib.hid (own_keep Hown.out hb5)
        clear hb5 c0
        by_cases hroom : n + j < c
        · obtain ⟨g, rfl⟩ := own_some Hown.out (.inr (by omega))
          go_wp2_with (at_builtin; refine wpList_append_fits (w5.alloc (.cells #[.int .i64 0, .int .i64 (mk q ((n : Int) + (j : Int))), .int .i64 0] 52)) rfl _ _ 62 rfl 0 52 i0 3 Tryz.underlying62 Hi.out Hz1.out g (n + j) c (marks q (n + j)) rfl (Hown5.out.alloc _) ⟨w5.heap.size, 0, none⟩ 1 1 [.int .i64 0, .int .i64 (mk q ((n : Int) + (j : Int))), .int .i64 0] rfl rfl (cells_new _ _ _) (by simp [Value.oneCell']) (by omega) ?_; intro w1' hown1 hgrow)
          obtain ⟨s1, s2, s3⟩ := step2_fits HO2.out Hb5.out hown1 hgrow
          exact ⟨⟨j + 1, by omega, by go_num, s1, s2, s3⟩, by simp [intOf]; omega⟩
        · have Hcells := Lib.hid (own_cells (Hown5.out.alloc (.cells #[.int .i64 0, .int .i64 (mk q ((n : Int) + (j : Int))), .int .i64 0] 52)))
          have Hnone := Lib.hid (own_none Hown5.out)
          go_wp2_with (at_builtin; refine wpList_append_grows (w5.alloc (.cells #[.int .i64 0, .int .i64 (mk q ((n : Int) + (j : Int))), .int .i64 0] 52)) rfl _ _ 62 rfl 52 i0 (.agg #[.int .i64 0, .int .i64 0, .int .i64 0]) 3 24 Tryz.underlying62 Hi.out Hz0.out Hz1.out Hz2.out rfl (by decide) a (n + j) c (marks q (n + j)) rfl Hnone.out (by rw [marks_len]) Hcells.out ⟨w5.heap.size, 0, none⟩ 1 1 [.int .i64 0, .int .i64 (mk q ((n : Int) + (j : Int))), .int .i64 0] rfl rfl (cells_new _ _ _) (by simp [Value.oneCell']) (by omega) (by unfold maxLen; omega) (by omega) ?_; intro v' w1' hown1 hgrow)
          obtain ⟨s1, s2, s3⟩ := step2_grows HO2.out Hb5.out HR2.out hown1 hgrow
          exact ⟨⟨j + 1, by omega, by go_num, s1, s2, s3⟩, by simp [intOf]; omega⟩
      · have Hown := Lib.hid hown
        have HsO := HO2.out.size
        clear hown
        go_wp2_with fail
        refine (markE_any (q : Int) ((n : Int) + (j : Int)) _ (by omega) (by omega) (by omega) (by omega)).mono ?_
        rintro e w5 ⟨rfl, hb5⟩
        have Hb5 := Lib.hid hb5
        have Hown5 := Lib.hid (own_keep Hown.out hb5)
        have hs5 := hb5.size
        clear hb5 c0
        go_wp2_with (at_builtin; refine wpList_append_own _ rfl _ _ 62 rfl v3.heap.size 52 i0 (.agg #[.int .i64 0, .int .i64 0, .int .i64 0]) 3 24 Tryz.underlying62 Hi.out Hz0.out Hz1.out Hz2.out rfl (by decide) (.slice (some ⟨g2, 0, none⟩) (n + j) c2) (n + j) (marks q (n + j)) rfl (Hown5.out.alloc _) ⟨w5.heap.size, 0, none⟩ 1 1 [.int .i64 0, .int .i64 (mk q ((n : Int) + (j : Int))), .int .i64 0] rfl rfl (cells_new _ _ _) (by simp [Value.oneCell']) (by unfold maxLen; omega) (by omega) (by simp; omega) ?_; intro v' w1' hown1 hgrow _)
        obtain ⟨s1, s2, s3⟩ := step2_own HO2.out Hb5.out HR2.out (fun j h => (own_lt Hrk.out j h).2) Hown.out hown1 hgrow
        exact ⟨⟨j + 1, by omega, by go_num, s1, s2, s3⟩, by simp [intOf]; omega⟩
    · obtain rfl : j = 64 := by omega
      obtain ⟨g', c', rfl, hgc⟩ := hg2.done Ha.out hlt Hd.out HUH.out HHl.out
      have hnB : ¬ BA a H := fun h => by have := HHa.out H h; omega
      have hbox := HB.out.only HO2.out hnB
      have e0 := hbox.at q (List.getElem?_eq_getElem (by rw [hgl]; exact hlt))
      have f0 := hbox.frozen q
      have hset := hbox.set q (.slice (some ⟨g', 0, none⟩) (n + 64) c')
      have hso := (Only.refl (fun j => j = H) wr).setCell (p := ⟨H, q, none⟩) rfl (.slice (some ⟨g', 0, none⟩) (n + 64) c')
      have HS := Lib.hid hset
      have HSo := Lib.hid hso
      have HGc := Lib.hid hgc
      clear hset hso hgc hbox c0
      go_wp2_with fail
      refine ⟨⟨q + 1, by omega, by go_num, ⟨_, by rw [List.length_set]; exact hgl, HS.out, fun p hp => ?_⟩, ?_, ?_⟩, by simp [intOf]; omega⟩
      · by_cases e : p = q
        · subst e
          rw [List.getElem?_set_self (by omega), Hn.out]
          exact HGc.out.only HSo.out (fun j hj => .inl hj)
        · rw [List.getElem?_set_ne (by omega)]
          exact ((HC.out p (by omega)).only HO2.out (fun j hj => .inr ⟨q, hlt, fun e2 => e e2.symm, by rw [Ha.out]; exact hj⟩)).only HSo.out (fun j hj => .inl hj)
      · refine Rows.only (HR.out.step Hd.out hlt (by rw [Ha.out]; exact HO2.out) ?_ (fun _ _ _ => rfl)) HSo.out (fun j hj e => ?_)
        · rw [Ha.out, Hn.out, Hc.out]; exact HR2.out
        · have := HUH.out j hj; omega
      · exact (HO.out.trans (uu_of hlt (by rw [Ha.out]; exact HO2.out))).far HSo.out (fun j hj e => by have := HwH.out; omega)
  obtain rfl : q = k := by omega
  have HGC := Lib.hid (show ∀ p, p < q → ∃ ga gc, gs[p]? = some (.slice ga (N p + 64) gc) ∧ RowM v3 ga (N p + 64) p from fun p hp => (HC.out p hp).row (r := []) (by rw [List.append_nil]) (Nat.le_refl _))
  have HRM := Lib.hid (show ∀ p, p < q → RowM v3 (A p) (N p) p from fun p hp => rowM_of (HR.out p hp) (r := []) (by rw [List.append_nil]) (Nat.le_refl _))
  have HG3 := Lib.hid (show ∀ p, p < q → v3.cell? ⟨G, p, none⟩ = some (.slice (A p) (N p) (C p)) from fun p hp => only_cell HO.out HGU.out (Hg.out p hp))
  clear HC hlt hq
  -- all are looked at
  go_wp2_with fail
  go_loopw [9] (fun i wr => ∃ k : Nat, k ≤ q ∧ i = .int .i64 k ∧ Below v3.heap.size v3 wr) (fun i _ => q - (intOf i).toNat)
  case atStart => exact ⟨0, Nat.zero_le _, rfl, Below.refl _ _⟩
  case round =>
  obtain ⟨k, hk, rfl, hb⟩ := hrel
  obtain ⟨v4, rfl⟩ : ∃ W : World, W = wr := ⟨_, rfl⟩
  have HB4 := Lib.hid hb
  clear hb
  by_cases hlt : k < q
  · obtain ⟨a, ha⟩ : ∃ a, A k = a := ⟨_, rfl⟩
    obtain ⟨n, hn⟩ : ∃ n, N k = n := ⟨_, rfl⟩
    obtain ⟨c, hc⟩ : ∃ c, C k = c := ⟨_, rfl⟩
    obtain ⟨ga, gc, hgk, hgm⟩ := HGC.out k hlt
    have hgk2 := HG3.out k hlt
    have hrm := HRM.out k hlt
    rw [ha, hn, hc] at hgk2
    rw [ha, hn] at hrm
    rw [hn] at hgk hgm
    have hn6 : n ≤ 1000000 := by rw [← hn]; exact HN.out k hlt
    have HX1 := Lib.hid (HB.out.at k hgk)
    have HX2 := Lib.hid hgk2
    have HM1 := Lib.hid hgm
    have HM2 := Lib.hid hrm
    have i1 : (0 : Int) ≤ (k : Int) := by omega
    have i2 : (k : Int) < (q : Int) := by omega
    clear ha hn hc hgk hgk2 hgm hrm
    go_wp2_with fail
    go_loopw [10] (fun i wr => ∃ j : Nat, j ≤ n + 64 ∧ i = .int .i64 j ∧ Below v3.heap.size v3 wr) (fun i _ => n + 64 - (intOf i).toNat)
    case atStart => exact ⟨0, Nat.zero_le _, rfl, HB4.out⟩
    case round =>
    obtain ⟨j, hj, rfl, hb⟩ := hrel
    have HB5 := Lib.hid hb
    have x1 := cell_keep hb HX1.out
    have x2 := cell_keep hb HX2.out
    have X1 := Lib.hid x1
    have X2 := Lib.hid x2
    clear hb
    by_cases hlj : j < n + 64
    · have j1 : (0 : Int) ≤ (j : Int) := by omega
      have j2 : (j : Int) < (n : Int) + 64 := by omega
      obtain ⟨b, off, rfl, ce⟩ := HM1.out j hlj
      have Mk := fun w => markE_any (k : Int) (j : Int) w (by omega) (by omega) (by omega) (by omega)
      obtain ⟨mv, hmv⟩ : ∃ v, mk (k : Int) (j : Int) = v := ⟨_, rfl⟩
      rw [hmv] at Mk
      have Hmv := Lib.hid hmv
      have HMk := Lib.hid Mk
      clear hmv Mk
      have ce := ce.keep HB5.out
      by_cases hjn : j < n
      · have j3 : (j : Int) < (n : Int) := by omega
        have d1 : decide ((j : Int) < (n : Int)) = true := decide_eq_true j3
        have d2 : decide (j < n) = true := decide_eq_true hjn
        obtain ⟨b2, off2, rfl, cf⟩ := HM2.out j hjn
        have cf := cf.keep HB5.out
        go_wp2_with fail
        refine wp_region_ext (by kernel_rfl) (by kernel_rfl) ?_
        intro Y hY
        obtain rfl := hY.out
        clear hY
        have z1 := ext_cell X1.out
        have z2 := ext_cell X2.out
        clear x1 x2
        have x0 := ext_cell ce.c0
        have x1 : ∀ p, (ext Y p).cell? ⟨b, off + j * 3 + 1, none⟩ = some (.int .i64 mv) := by rw [← Hmv.out]; exact ext_cell ce.c1
        have x2 := ext_cell ce.c2
        have y0 := ext_cell cf.c0
        have y1 : ∀ p, (ext Y p).cell? ⟨b2, off2 + j * 3 + 1, none⟩ = some (.int .i64 mv) := by rw [← Hmv.out]; exact ext_cell cf.c1
        have y2 := ext_cell cf.c2
        clear ce cf
        repeat (go_big_quiet_step ((go_at_call 62; with_reducible exact ext_of (HMk.out _))))
        refine wpQuiet_nil ?_
        intro w9 hw9
        obtain ⟨p9, rfl⟩ := hw9
        have B9 := Lib.hid (HB5.out.trans ((ext_below Y p9).mono HB5.out.size))
        clear z1 z2 d1 d2 x0 x1 x2 y0 y1 y2
        go_wp2_with fail
        exact ⟨⟨j + 1, by omega, by go_num, B9.out⟩, by simp [intOf]; omega⟩
      · have d1 : decide ((j : Int) < (n : Int)) = false := decide_eq_false (by omega)
        have d2 : decide (j < n) = false := decide_eq_false hjn
        go_wp2_with fail
        refine wp_region_ext (by kernel_rfl) (by kernel_rfl) ?_
        intro Y hY
        obtain rfl := hY.out
        clear hY
        have z1 := ext_cell X1.out
        have z2 := ext_cell X2.out
        clear x1 x2
        have x0 := ext_cell ce.c0
        have x1 : ∀ p, (ext Y p).cell? ⟨b, off + j * 3 + 1, none⟩ = some (.int .i64 mv) := by rw [← Hmv.out]; exact ext_cell ce.c1
        have x2 := ext_cell ce.c2
        clear ce
        repeat (go_big_quiet_step ((go_at_call 62; with_reducible exact ext_of (HMk.out _))))
        refine wpQuiet_nil ?_
        intro w9 hw9
        obtain ⟨p9, rfl⟩ := hw9
        have B9 := Lib.hid (HB5.out.trans ((ext_below Y p9).mono HB5.out.size))
        clear z1 z2 d1 d2 x0 x1 x2
        go_wp2_with fail
        exact ⟨⟨j + 1, by omega, by go_num, B9.out⟩, by simp [intOf]; omega⟩
    · obtain rfl : j = n + 64 := by omega
      go_wp2_with fail
      exact ⟨⟨k + 1, by omega, by go_num, HB5.out⟩, by simp [intOf]; omega⟩
  obtain rfl : k = q := by omega
  have HR4 := Lib.hid (HR.out.keep HB4.out)
  have HO4 := Lib.hid (HO.out.trans (.of_below HB4.out))
  have HBk := Lib.hid (HB.out.keep HB4.out)
  clear HGC HRM HG3 HR HO HB HB4 hlt hk
  go_wp2_with fail
  -- each grows by many
  go_loopw [11] (fun i wr => ∃ q : Nat, q ≤ k ∧ i = .int .i64 q ∧ (∃ gs : List Value, gs.length = k ∧ Blk wr H 62 gs ∧ ∀ p, p < q → GC wr k A H p gs[p]? (N p + 64) (marks p (N p) ++ marks ((p : Int) + (k : Int)) 64)) ∧ Rows wr k A N C (fun q => marks q (N q)) ∧ Only (UU k A) w wr) (fun i _ => k - (intOf i).toNat)
  case atStart => exact ⟨0, Nat.zero_le _, rfl, ⟨gs, hgl, HBk.out, fun p hp => by omega⟩, HR4.out, HO4.out⟩
  case round =>
  clear HBk HR4 HO4 hgl gs
  obtain ⟨q, hq, rfl, ⟨gs, hgl, hgb, hgc⟩, hrows, ho⟩ := hrel
  obtain ⟨v5, rfl⟩ : ∃ W : World, W = wr := ⟨_, rfl⟩
  have HO := Lib.hid ho
  have HR := Lib.hid hrows
  have HB := Lib.hid hgb
  have HC := Lib.hid hgc
  clear ho hrows hgb hgc
  by_cases hlt : q < k
  · obtain ⟨a, ha⟩ : ∃ a, A q = a := ⟨_, rfl⟩
    obtain ⟨n, hn⟩ : ∃ n, N q = n := ⟨_, rfl⟩
    obtain ⟨c, hc⟩ : ∃ c, C q = c := ⟨_, rfl⟩
    have hrk : R v5 (A q) (N q) (C q) (marks q (N q)) := HR.out q hlt
    rw [ha, hn, hc] at hrk
    have hgk := Hg.out q hlt
    rw [ha, hn, hc] at hgk
    have hGk : ¬ BA a G := by rw [← ha]; exact HG.out q hlt
    have HGk := Lib.hid hGk
    have Hrk := Lib.hid hrk
    have G0 := Lib.hid (only_cell HO.out HGU.out hgk)
    have hn6 : n ≤ 1000000 := by rw [← hn]; exact HN.out q hlt
    have i1 : (0 : Int) ≤ (q : Int) := by omega
    have i2 : (q : Int) < (k : Int) := by omega
    have hHa : ∀ j, BA a j → j < H := fun j hj => HUH.out j ⟨q, hlt, by rw [ha]; exact hj⟩
    have HHa := Lib.hid hHa
    have HHl : Hid (H < v5.heap.size) := HB.out.lt
    have Ha := Lib.hid ha
    have Hn := Lib.hid hn
    have Hc := Lib.hid hc
    clear hrk hgk hGk ha hn hc hHa
    go_wp2_with (at_make; refine wpList_make_full v5 rfl _ _ 62 rfl v5.heap.size 52 i0 (.agg #[.int .i64 0, .int .i64 0, .int .i64 0]) 3 Tryz.underlying62 Hi.out Hz0.out Hz1.out .i64 .i64 64 64 64 rfl rfl rfl rfl (by rw [Hz2.out]; omega) (by unfold maxLen; omega) (Nat.le_refl _) ?_; intro v6 hown hgrow)
    have hom : Only (fun _ => False) v5 v6 := (Only.refl _ _).grown hgrow (fun k e => by cases e)
    obtain ⟨zs, hzs⟩ : ∃ zs, (madeCells (Value.cells (.agg #[.int .i64 0, .int .i64 0, .int .i64 0])) (64 * 3)).toList = zs := ⟨_, rfl⟩
    rw [hzs] at hown
    obtain ⟨M, hM⟩ : ∃ M, v5.heap.size = M := ⟨_, rfl⟩
    rw [hM] at hown ⊢
    have HM := Lib.hid hM
    have Hom := Lib.hid hom
    have Rm := Lib.hid (own_mono hown (Nat.zero_le _))
    clear hom hzs hM hown hgrow
    go_loopw [13] (fun i wr => ∃ j : Nat, j ≤ 64 ∧ i = .int .i64 j ∧ R wr (some ⟨M, 0, none⟩) 64 64 (marks ((q : Int) + (k : Int)) j ++ zs.drop (j * 3)) ∧ Only (BA (some ⟨M, 0, none⟩)) v6 wr) (fun i _ => 64 - (intOf i).toNat)
    case atStart => exact ⟨0, by omega, rfl, by simpa [marks] using Rm.out, Only.refl _ _⟩
    case round =>
    obtain ⟨j, hj, rfl, hrow, ho⟩ := hrel
    by_cases hlj : j < 64
    · have HO2 := Lib.hid ho
      have Hrow := Lib.hid hrow
      have Hxl := Lib.hid (show zs.length = 64 * 3 from Rm.out.1)
      have j1 : (0 : Int) ≤ (j : Int) := by omega
      have j2 : (j : Int) < (64 : Int) := by omega
      clear hrow ho
      go_wp2_with fail
      refine (markE_any ((q : Int) + (k : Int)) (j : Int) _ (by omega) (by omega) (by omega) (by omega)).mono ?_
      rintro e w5 ⟨rfl, hb5⟩
      have Hb5 := Lib.hid hb5
      clear hb5
      go_wp2_with (with_reducible refine at_store _ _ _ rfl ?_)
      apply Lib.hid
      obtain ⟨cur, u1, u2, u3, u4, u5, u6⟩ := own_blk (own_keep Hrow.out Hb5.out)
      have hfit : j * 3 + 3 ≤ cur.length := by omega
      refine store_at rfl _ _ _ rfl M (j * 3) [.int .i64 0, .int .i64 (mk ((q : Int) + (k : Int)) j), .int .i64 0] rfl rfl 52 cur u1 (by kernel_rfl) (by simpa using hfit) (by simp [Value.oneCell']) ?_
      intro Y hY hoY
      have hrow2 := own_put (own_keep Hrow.out Hb5.out) u1 hlj rfl hY
      have hon : Only (BA (some ⟨M, 0, none⟩)) wr Y := (Only.of_below Hb5.out).trans (hoY.mono (fun i _ e => by rw [e]; exact ba_self _ _))
      rw [show [.int .i64 0, .int .i64 (mk ((q : Int) + (k : Int)) j), .int .i64 0] = mE ((q : Int) + (k : Int)) (j : Nat) from rfl, set_mark ((q : Int) + (k : Int)) j zs (by rw [Hxl.out]; omega)] at hrow2
      have R2 := Lib.hid hrow2
      have O2 := Lib.hid (HO2.out.trans hon)
      clear hY hoY hrow2 hon u1 u2 u3 Hb5
      go_wp2_with fail
      exact ⟨⟨j + 1, by omega, by go_num, R2.out, O2.out⟩, by simp [intOf]; omega⟩
    · obtain rfl : j = 64 := by omega
      have Rmm : R wr (some ⟨M, 0, none⟩) 64 64 (marks ((q : Int) + (k : Int)) 64) := by
        have e : zs.drop (64 * 3) = [] := List.drop_eq_nil_iff.2 (by have := Rm.out.1; omega)
        rw [e, List.append_nil] at hrow
        exact hrow
      have hvM : v5.heap.size ≤ M := Nat.le_of_eq HM.out
      have hoo : Only (fun _ => False) v5 wr := (Hom.out.mono (fun _ _ h => h.elim)).far ho (fun i hi h => by have := ba_some h; omega)
      have HO6 := Lib.hid (HO.out.trans (hoo.mono (fun _ _ h => h.elim)))
      have HR6 := Lib.hid (HR.out.only hoo (fun _ _ h => h))
      have HB6 := Lib.hid (HB.out.only hoo (fun h => h))
      have HC6 := Lib.hid (show ∀ p, p < q → GC wr k A H p gs[p]? (N p + 64) (marks p (N p) ++ marks ((p : Int) + (k : Int)) 64) from fun p hp => (HC.out p hp).only hoo (fun _ h => h.elim))
      have Hrk6 := own_only Hrk.out hoo (fun _ _ h => h)
      have hG := only_cell hoo (p := ⟨G, q, none⟩) (fun h => h) G0.out
      have Hcm := Lib.hid (own_cells Rmm _ rfl)
      have hbs := HB6.out.lt
      obtain ⟨v7, rfl⟩ : ∃ W : World, W = wr := ⟨_, rfl⟩
      clear hrow ho hoo Rmm HC HB HR HO Hom Rm
      go_wp2_with (at_builtin; refine append_many v7 rfl _ _ rfl a n c (marks q n) rfl Hrk6 M 64 (marks ((q : Int) + (k : Int)) 64) rfl (marks_len _ _) Hcm.out (marks_one _ _) (by omega) (by omega) ?_; intro g' c' w8 hown1 hrow1 ho1 hgor; have hbox := HB6.out.only ho1 (fun h => by have := HHa.out H h; omega); have e0 := hbox.at q (List.getElem?_eq_getElem (by rw [hgl]; exact hlt)); have f0 := hbox.frozen q)
      have HS := Lib.hid (hbox.set q (.slice (some ⟨g', 0, none⟩) (n + 64) c'))
      have HSo := Lib.hid ((Only.refl (fun j => j = H) w8).setCell (p := ⟨H, q, none⟩) rfl (.slice (some ⟨g', 0, none⟩) (n + 64) c'))
      refine ⟨⟨q + 1, by omega, by go_num, ⟨_, by rw [List.length_set]; exact hgl, HS.out, fun p hp => ?_⟩, ?_, ?_⟩, by simp [intOf]; omega⟩
      · by_cases e : p = q
        · subst e
          rw [List.getElem?_set_self (by omega), Hn.out]
          refine GC.only ⟨g', c', rfl, hown1, fun e2 => ?_, fun p2 hp2 hne hb2 => ?_⟩ HSo.out (fun j hj => .inl hj)
          · rcases hgor with h | h
            · have := HHa.out g' h; omega
            · have h3 : H < v7.heap.size := hbs; omega
          · rcases hgor with h | h
            · exact Hd.out p2 p hp2 hlt hne g' hb2 (by rw [Ha.out]; exact h)
            · have := HUH.out g' ⟨p2, hp2, hb2⟩; have h3 : H < v7.heap.size := hbs; omega
        · rw [List.getElem?_set_ne (by omega)]
          exact ((HC6.out p (by omega)).only ho1 (fun j hj => .inr ⟨q, hlt, fun e2 => e e2.symm, by rw [Ha.out]; exact hj⟩)).only HSo.out (fun j hj => .inl hj)
      · refine Rows.only (HR6.out.step Hd.out hlt (by rw [Ha.out]; exact ho1) ?_ (fun _ _ _ => rfl)) HSo.out (fun j hj e => ?_)
        · rw [Ha.out, Hn.out, Hc.out]; exact hrow1
        · have := HUH.out j hj; omega
      · exact (HO6.out.trans (uu_of hlt (by rw [Ha.out]; exact ho1))).far HSo.out (fun j hj e => by have := HwH.out; omega)
  obtain rfl : q = k := by omega
  have HGC := Lib.hid (show ∀ p, p < q → ∃ ga gc, gs[p]? = some (.slice ga (N p + 64) gc) ∧ RowM v5 ga (N p) p from fun p hp => (HC.out p hp).row rfl (by omega))
  have HRM := Lib.hid (show ∀ p, p < q → RowM v5 (A p) (N p) p from fun p hp => rowM_of (HR.out p hp) (r := []) (by rw [List.append_nil]) (Nat.le_refl _))
  have HG3 := Lib.hid (show ∀ p, p < q → v5.cell? ⟨G, p, none⟩ = some (.slice (A p) (N p) (C p)) from fun p hp => only_cell HO.out HGU.out (Hg.out p hp))
  clear HC hlt hq
  -- all are looked at again
  go_wp2_with fail
  go_loopw [14] (fun i wr => ∃ k : Nat, k ≤ q ∧ i = .int .i64 k ∧ Below v5.heap.size v5 wr) (fun i _ => q - (intOf i).toNat)
  case atStart => exact ⟨0, Nat.zero_le _, rfl, Below.refl _ _⟩
  case round =>
  obtain ⟨k, hk, rfl, hb⟩ := hrel
  obtain ⟨v6, rfl⟩ : ∃ W : World, W = wr := ⟨_, rfl⟩
  have HB6 := Lib.hid hb
  clear hb
  by_cases hlt : k < q
  · obtain ⟨a, ha⟩ : ∃ a, A k = a := ⟨_, rfl⟩
    obtain ⟨n, hn⟩ : ∃ n, N k = n := ⟨_, rfl⟩
    obtain ⟨c, hc⟩ : ∃ c, C k = c := ⟨_, rfl⟩
    obtain ⟨ga, gc, hgk, hgm⟩ := HGC.out k hlt
    have hgk2 := HG3.out k hlt
    have hrm := HRM.out k hlt
    rw [ha, hn, hc] at hgk2
    rw [ha, hn] at hrm
    rw [hn] at hgk hgm
    have hn6 : n ≤ 1000000 := by rw [← hn]; exact HN.out k hlt
    have HX1 := Lib.hid (HB.out.at k hgk)
    have HX2 := Lib.hid hgk2
    have HM1 := Lib.hid hgm
    have HM2 := Lib.hid hrm
    have i1 : (0 : Int) ≤ (k : Int) := by omega
    have i2 : (k : Int) < (q : Int) := by omega
    clear ha hn hc hgk hgk2 hgm hrm
    have x2 := cell_keep HB6.out HX2.out
    go_wp2_with fail
    clear x2
    go_loopw [15] (fun i wr => ∃ j : Nat, j ≤ n ∧ i = .int .i64 j ∧ Below v5.heap.size v5 wr) (fun i _ => n - (intOf i).toNat)
    case atStart => exact ⟨0, Nat.zero_le _, rfl, HB6.out⟩
    case round =>
    obtain ⟨j, hj, rfl, hb⟩ := hrel
    have HB7 := Lib.hid hb
    have x1 := cell_keep hb HX1.out
    have x2 := cell_keep hb HX2.out
    have X1 := Lib.hid x1
    have X2 := Lib.hid x2
    clear hb
    by_cases hlj : j < n
    · have j1 : (0 : Int) ≤ (j : Int) := by omega
      have j2 : (j : Int) < (n : Int) := by omega
      have j4 : (j : Int) < (n : Int) + 64 := by omega
      obtain ⟨b, off, rfl, ce⟩ := HM1.out j hlj
      have Mk := fun w => markE_any (k : Int) (j : Int) w (by omega) (by omega) (by omega) (by omega)
      obtain ⟨mv, hmv⟩ : ∃ v, mk (k : Int) (j : Int) = v := ⟨_, rfl⟩
      rw [hmv] at Mk
      have Hmv := Lib.hid hmv
      have HMk := Lib.hid Mk
      clear hmv Mk
      have ce := ce.keep HB7.out
      obtain ⟨b2, off2, rfl, cf⟩ := HM2.out j hlj
      have cf := cf.keep HB7.out
      go_wp2_with fail
      refine wp_region_ext (by kernel_rfl) (by kernel_rfl) ?_
      intro Y hY
      obtain rfl := hY.out
      clear hY
      have z1 := ext_cell X1.out
      have z2 := ext_cell X2.out
      clear x1 x2
      have x0 := ext_cell ce.c0
      have x1 : ∀ p, (ext Y p).cell? ⟨b, off + j * 3 + 1, none⟩ = some (.int .i64 mv) := by rw [← Hmv.out]; exact ext_cell ce.c1
      have x2 := ext_cell ce.c2
      have y0 := ext_cell cf.c0
      have y1 : ∀ p, (ext Y p).cell? ⟨b2, off2 + j * 3 + 1, none⟩ = some (.int .i64 mv) := by rw [← Hmv.out]; exact ext_cell cf.c1
      have y2 := ext_cell cf.c2
      clear ce cf
      repeat (go_big_quiet_step ((go_at_call 62; with_reducible exact ext_of (HMk.out _))))
      refine wpQuiet_nil ?_
      intro w9 hw9
      obtain ⟨p9, rfl⟩ := hw9
      have B9 := Lib.hid (HB7.out.trans ((ext_below Y p9).mono HB7.out.size))
      clear z1 z2 x0 x1 x2 y0 y1 y2
      go_wp2_with fail
      exact ⟨⟨j + 1, by omega, by go_num, B9.out⟩, by simp [intOf]; omega⟩
    · obtain rfl : j = n := by omega
      go_wp2_with fail
      exact ⟨⟨k + 1, by omega, by go_num, HB7.out⟩, by simp [intOf]; omega⟩
  obtain rfl : k = q := by omega
  go_wp2_with fail
  go_ret
  exact ⟨rfl, HO.out.trans (.of_below HB6.out), HR.out.keep HB6.out⟩
theorem flat_many (m : Nat) (A : Nat → Option Addr) (N C : Nat → Nat) (X : Nat → List Value) (G capG : Nat) (w : World) (hm : m ≤ 100) (hr : Rows w m A N C X) (hd : Dis m A)
    (hG : ∀ q, q < m → ¬ BA (A q) G) (hN : ∀ q, q < m → N q ≤ 1000000) (hg : ∀ q, q < m → w.cell? ⟨G, q, none⟩ = some (.slice (A q) (N q) (C q))) :
    Calls Tryz.prog 87 #[.slice (some ⟨G, 0, none⟩) m capG] w fun e w' => e = .returned (.bool true) ∧ Only (UU m A) w w' := by
  refine (flat_kept m A N C X G capG w hm hr hd hG hN hg).mono ?_
  rintro e w' ⟨rfl, h, _⟩
  exact ⟨rfl, h⟩
end Go.Proofs.YtmdepkehpohgeaaGreat.KitHolds
/- The kit's bag: asked whether all lie apart, where the kind Holds alone has lists. -/
namespace Go.Proofs.YtmdepkehpohgeaaGreat.Kit
open Go.RowKit
set_option linter.unusedVariables false

set_option maxRecDepth 100000 in
set_option maxHeartbeats 1000000 in
theorem apartq_Holds (Q : World → Prop) (hQ : ∀ W W', Below W.heap.size W W' → Q W → Q W') (S : Nat → Prop) (B : Nat) (v : Value) (w : World) (hB : ¬ S B)
    (hflat : ∀ W, Below w.heap.size w W → Calls Tryz.prog 87 #[v] W fun e w' => e = .returned (.bool true) ∧ Only S W w' ∧ Q w')
    (hc : ∀ i, i < 17 → w.cell? ⟨B, i, none⟩ = some (if i = 12 then v else .slice none 0 0)) :
    Calls Tryz.prog 61 #[.pointer (some ⟨B, 0, none⟩)] w fun e w' => e = .returned (.bool true) ∧ Only S w w' ∧ Q w' := by
  have HF := Lib.hid hflat
  have HC := Lib.hid hc
  have HB := Lib.hid hB
  clear hflat hc hB
  have HO0 := Lib.hid (Only.refl S w)
  have HL0 := Lib.hid (Below.refl w.heap.size w)
  have c0 : w.cell? ⟨B, 0, none⟩ = some (.slice none 0 0) := HO0.out.cell (p := ⟨B, 0, none⟩) HB.out (HC.out 0 (by omega))
  go_enter Tryz.func61, Tryz.ntmps61
  go_wp2_with fail
  refine (flatLimbs_nil _).mono ?_
  rintro e w1 ⟨rfl, hb⟩
  have HO1 := Lib.hid (HO0.out.trans (Only.of_below hb))
  have HL1 := Lib.hid (HL0.out.trans (hb.mono HL0.out.size))
  clear hb c0
  have c1 : w1.cell? ⟨B, 1, none⟩ = some (.slice none 0 0) := HO1.out.cell (p := ⟨B, 1, none⟩) HB.out (HC.out 1 (by omega))
  go_wp2_with fail
  refine (flatWords_nil _).mono ?_
  rintro e w2 ⟨rfl, hb⟩
  have HO2 := Lib.hid (HO1.out.trans (Only.of_below hb))
  have HL2 := Lib.hid (HL1.out.trans (hb.mono HL1.out.size))
  clear hb c1
  have c2 : w2.cell? ⟨B, 2, none⟩ = some (.slice none 0 0) := HO2.out.cell (p := ⟨B, 2, none⟩) HB.out (HC.out 2 (by omega))
  go_wp2_with fail
  refine (flatInts_nil _).mono ?_
  rintro e w3 ⟨rfl, hb⟩
  have HO3 := Lib.hid (HO2.out.trans (Only.of_below hb))
  have HL3 := Lib.hid (HL2.out.trans (hb.mono HL2.out.size))
  clear hb c2
  have c3 : w3.cell? ⟨B, 3, none⟩ = some (.slice none 0 0) := HO3.out.cell (p := ⟨B, 3, none⟩) HB.out (HC.out 3 (by omega))
  go_wp2_with fail
  refine (flatLongs_nil _).mono ?_
  rintro e w4 ⟨rfl, hb⟩
  have HO4 := Lib.hid (HO3.out.trans (Only.of_below hb))
  have HL4 := Lib.hid (HL3.out.trans (hb.mono HL3.out.size))
  clear hb c3
  have c4 : w4.cell? ⟨B, 4, none⟩ = some (.slice none 0 0) := HO4.out.cell (p := ⟨B, 4, none⟩) HB.out (HC.out 4 (by omega))
  go_wp2_with fail
  refine (flatTexts_nil _).mono ?_
  rintro e w5 ⟨rfl, hb⟩
  have HO5 := Lib.hid (HO4.out.trans (Only.of_below hb))
  have HL5 := Lib.hid (HL4.out.trans (hb.mono HL4.out.size))
  clear hb c4
  have c5 : w5.cell? ⟨B, 5, none⟩ = some (.slice none 0 0) := HO5.out.cell (p := ⟨B, 5, none⟩) HB.out (HC.out 5 (by omega))
  go_wp2_with fail
  refine (flatBytes_nil _).mono ?_
  rintro e w6 ⟨rfl, hb⟩
  have HO6 := Lib.hid (HO5.out.trans (Only.of_below hb))
  have HL6 := Lib.hid (HL5.out.trans (hb.mono HL5.out.size))
  clear hb c5
  have c6 : w6.cell? ⟨B, 6, none⟩ = some (.slice none 0 0) := HO6.out.cell (p := ⟨B, 6, none⟩) HB.out (HC.out 6 (by omega))
  go_wp2_with fail
  refine (flatTruths_nil _).mono ?_
  rintro e w7 ⟨rfl, hb⟩
  have HO7 := Lib.hid (HO6.out.trans (Only.of_below hb))
  have HL7 := Lib.hid (HL6.out.trans (hb.mono HL6.out.size))
  clear hb c6
  have c7 : w7.cell? ⟨B, 7, none⟩ = some (.slice none 0 0) := HO7.out.cell (p := ⟨B, 7, none⟩) HB.out (HC.out 7 (by omega))
  go_wp2_with fail
  refine (flatReaches_nil _).mono ?_
  rintro e w8 ⟨rfl, hb⟩
  have HO8 := Lib.hid (HO7.out.trans (Only.of_below hb))
  have HL8 := Lib.hid (HL7.out.trans (hb.mono HL7.out.size))
  clear hb c7
  have c8 : w8.cell? ⟨B, 8, none⟩ = some (.slice none 0 0) := HO8.out.cell (p := ⟨B, 8, none⟩) HB.out (HC.out 8 (by omega))
  go_wp2_with fail
  refine (flatAccesses_nil _).mono ?_
  rintro e w9 ⟨rfl, hb⟩
  have HO9 := Lib.hid (HO8.out.trans (Only.of_below hb))
  have HL9 := Lib.hid (HL8.out.trans (hb.mono HL8.out.size))
  clear hb c8
  have c9 : w9.cell? ⟨B, 9, none⟩ = some (.slice none 0 0) := HO9.out.cell (p := ⟨B, 9, none⟩) HB.out (HC.out 9 (by omega))
  go_wp2_with fail
  refine (flatReplies_nil _).mono ?_
  rintro e w10 ⟨rfl, hb⟩
  have HO10 := Lib.hid (HO9.out.trans (Only.of_below hb))
  have HL10 := Lib.hid (HL9.out.trans (hb.mono HL9.out.size))
  clear hb c9
  have c10 : w10.cell? ⟨B, 10, none⟩ = some (.slice none 0 0) := HO10.out.cell (p := ⟨B, 10, none⟩) HB.out (HC.out 10 (by omega))
  go_wp2_with fail
  refine (flatRegions_nil _).mono ?_
  rintro e w11 ⟨rfl, hb⟩
  have HO11 := Lib.hid (HO10.out.trans (Only.of_below hb))
  have HL11 := Lib.hid (HL10.out.trans (hb.mono HL10.out.size))
  clear hb c10
  have c11 : w11.cell? ⟨B, 11, none⟩ = some (.slice none 0 0) := HO11.out.cell (p := ⟨B, 11, none⟩) HB.out (HC.out 11 (by omega))
  go_wp2_with fail
  refine (flatDevices_nil _).mono ?_
  rintro e w12 ⟨rfl, hb⟩
  have HO12 := Lib.hid (HO11.out.trans (Only.of_below hb))
  have HL12 := Lib.hid (HL11.out.trans (hb.mono HL11.out.size))
  clear hb c11
  have c12 : w12.cell? ⟨B, 12, none⟩ = some v := HO12.out.cell (p := ⟨B, 12, none⟩) HB.out (HC.out 12 (by omega))
  go_wp2_with fail
  refine (HF.out _ HL12.out).mono ?_
  rintro e w13 ⟨rfl, ho, hq⟩
  have HQ13 := Lib.hid hq
  clear hq
  have HO13 := Lib.hid (HO12.out.trans ho)
  clear ho c12
  have c13 : w13.cell? ⟨B, 13, none⟩ = some (.slice none 0 0) := HO13.out.cell (p := ⟨B, 13, none⟩) HB.out (HC.out 13 (by omega))
  go_wp2_with fail
  refine (flatConfs_nil _).mono ?_
  rintro e w14 ⟨rfl, hb⟩
  have HQ14 := Lib.hid (hQ _ _ hb HQ13.out)
  have HO14 := Lib.hid (HO13.out.trans (Only.of_below hb))
  clear hb c13
  have c14 : w14.cell? ⟨B, 14, none⟩ = some (.slice none 0 0) := HO14.out.cell (p := ⟨B, 14, none⟩) HB.out (HC.out 14 (by omega))
  go_wp2_with fail
  refine (flatProgram_nil _).mono ?_
  rintro e w15 ⟨rfl, hb⟩
  have HQ15 := Lib.hid (hQ _ _ hb HQ14.out)
  have HO15 := Lib.hid (HO14.out.trans (Only.of_below hb))
  clear hb c14
  have c15 : w15.cell? ⟨B, 15, none⟩ = some (.slice none 0 0) := HO15.out.cell (p := ⟨B, 15, none⟩) HB.out (HC.out 15 (by omega))
  go_wp2_with fail
  refine (flatInputs_nil _).mono ?_
  rintro e w16 ⟨rfl, hb⟩
  have HQ16 := Lib.hid (hQ _ _ hb HQ15.out)
  have HO16 := Lib.hid (HO15.out.trans (Only.of_below hb))
  clear hb c15
  have c16 : w16.cell? ⟨B, 16, none⟩ = some (.slice none 0 0) := HO16.out.cell (p := ⟨B, 16, none⟩) HB.out (HC.out 16 (by omega))
  go_wp2_with fail
  refine (flatEvents_nil _).mono ?_
  rintro e w17 ⟨rfl, hb⟩
  have HQ17 := Lib.hid (hQ _ _ hb HQ16.out)
  have HO17 := Lib.hid (HO16.out.trans (Only.of_below hb))
  clear hb c16
  go_wp2_with fail
  go_ret
  exact ⟨rfl, HO17.out, HQ17.out⟩
theorem apart_Holds (S : Nat → Prop) (B : Nat) (v : Value) (w : World) (hB : ¬ S B)
    (hflat : ∀ W, Below w.heap.size w W → Calls Tryz.prog 87 #[v] W fun e w' => e = .returned (.bool true) ∧ Only S W w')
    (hc : ∀ i, i < 17 → w.cell? ⟨B, i, none⟩ = some (if i = 12 then v else .slice none 0 0)) :
    Calls Tryz.prog 61 #[.pointer (some ⟨B, 0, none⟩)] w fun e w' => e = .returned (.bool true) ∧ Only S w w' := by
  refine (apartq_Holds (fun _ => True) (fun _ _ _ _ => trivial) S B v w hB (fun W h => (hflat W h).mono (fun e w' k => ⟨k.1, k.2, trivial⟩)) hc).mono ?_
  rintro e w' ⟨rfl, h, _⟩
  exact ⟨rfl, h⟩
end Go.Proofs.YtmdepkehpohgeaaGreat.Kit
/- The kit's apartness of many lists of Holds: ApartHolds. -/
namespace Go.Proofs.YtmdepkehpohgeaaGreat.KitHolds
open Go.RowKit Go.Maps Fifo Orow
set_option linter.unusedVariables false

theorem toK {S : Nat → Prop} {w w' : World} (h : Only S w w') : Kit.Only S w w' := ⟨h.os, h.tape, h.output, h.size, h.block⟩
theorem ofK {S : Nat → Prop} {w w' : World} (h : Kit.Only S w w') : Only S w w' := ⟨h.os, h.tape, h.output, h.size, h.block⟩
theorem info_ss : (Tryz.prog.info? 62).map (fun i => (i.zero, i.size, i.bytes)) = some (some (.slice none 0 0), 1, 24) := by kernel_rfl
/-- The bag's cells, where this kind's list of lists is v. -/
def bagL (v : Value) : List Value := [.slice none 0 0, .slice none 0 0, .slice none 0 0, .slice none 0 0, .slice none 0 0, .slice none 0 0, .slice none 0 0, .slice none 0 0, .slice none 0 0, .slice none 0 0, .slice none 0 0, .slice none 0 0, v, .slice none 0 0, .slice none 0 0, .slice none 0 0, .slice none 0 0]
def BagIs (w : World) (B : Nat) (v : Value) : Prop := Blk w B 121 (bagL v)
/-- What put leaves: the list of lists has grown by one, in memory from base on. -/
def PutPost (base B m : Nat) (L : List Value) (v : Value) (w : World) (e : Ending) (w' : World) : Prop :=
  (∃ u, e = .returned u) ∧ ∃ g c, BagIs w' B (.slice (some ⟨g, 0, none⟩) (m + 1) c) ∧ w'.ownsRow base 62 1 (.slice (some ⟨g, 0, none⟩) (m + 1) c) (m + 1) (L ++ [v]) ∧ Only (fun k => base ≤ k) w w' ∧ g ≠ B

set_option maxRecDepth 100000 in
theorem put_any (base B m : Nat) (L : List Value) (bv : Value) (a : Option Addr) (n c : Nat) (w : World) (hB : base ≤ B) (hbw : base ≤ w.heap.size) (hm : m ≤ 100) (hbag : BagIs w B bv) (hown : w.ownsRow base 62 1 bv m L) (hBo : ∀ k, bv.ownBlock = some k → k ≠ B) :
    Calls Tryz.prog 60 #[.pointer (some ⟨B, 0, none⟩), .slice a n c] w (PutPost base B m L (.slice a n c) w) := by
  obtain ⟨i0, hi, hz0, hz1, hz2⟩ := info_parts info_ss
  have Hi := Lib.hid hi
  have Hz0 := Lib.hid hz0
  have Hz1 := Lib.hid hz1
  have Hz2 := Lib.hid hz2
  have Hbag := Lib.hid hbag
  have Hown := Lib.hid hown
  have HBo := Lib.hid hBo
  have c0 : w.cell? ⟨B, 12, none⟩ = some bv := Blk.at hbag 12 rfl
  have hBlt := Blk.lt hbag
  clear hi hz0 hz1 hz2 hbag hown hBo
  go_enter Tryz.func60, Tryz.ntmps60
  go_wp2_with (at_builtin; refine wpList_append_own _ rfl _ _ 76 rfl base 62 i0 (.slice none 0 0) 1 24 Tryz.underlying76 Hi.out Hz0.out Hz1.out Hz2.out rfl (by decide) bv m L rfl (Hown.out.alloc _) ⟨w.heap.size, 0, none⟩ 1 1 [.slice a n c] rfl rfl (cell_one_new _ _ _) (by simp [Value.oneCell']) (by unfold maxLen; omega) (by omega) (by simp; omega) ?_; intro v' w1 hown1 hgrow _; obtain ⟨g, c1, rfl⟩ := ownsRow_succ hown1; have hb1 : BagIs w1 B bv := (Hbag.out.alloc _).only (grown_only hgrow) (fun h => HBo.out B h rfl); have e0 : w1.cell? ⟨B, 12, none⟩ = some bv := Blk.at hb1 12 rfl; have f0 := Blk.frozen hb1 12)
  go_end0
  have hgB : g ≠ B := by
    rintro rfl
    obtain ⟨cur, h1, h2, h3, _⟩ := own_blk hown1
    have : bagL bv = cur := by
      have h4 : w1.heap[g]? = _ := h1
      rw [show w1.heap[g]? = _ from hb1] at h4
      simp at h4
    have h4 : w1.heap[g]? = _ := h1
    rw [show w1.heap[g]? = _ from hb1] at h4
    simp at h4
  refine ⟨⟨_, rfl⟩, g, c1, Blk.set hb1 12 _, ?_, ?_, hgB⟩
  · exact own_only hown1 ((Only.refl (fun j => j = B) w1).setCell (p := ⟨B, 12, none⟩) rfl _) (fun k e h => hgB ((ba_some e).symm.trans h))
  · have h1 : Only (fun k => base ≤ k) w w1 := ((Only.refl _ w).alloc _).grown hgrow (fun k e => .inl ((Hown.out.lt k e).1))
    exact h1.setCell (p := ⟨B, 12, none⟩) hB _

set_option maxRecDepth 100000 in
set_option maxHeartbeats 1000000 in
theorem apart_kept (m : Nat) (A : Nat → Option Addr) (N C : Nat → Nat) (X : Nat → List Value) (G capG : Nat) (w : World) (hm0 : 0 < m) (hm : m ≤ 100) (hr : Rows w m A N C X) (hd : Dis m A)
    (hN : ∀ q, q < m → N q ≤ 1000000) (hg : ∀ q, q < m → w.cell? ⟨G, q, none⟩ = some (.slice (A q) (N q) (C q))) :
    Calls Tryz.prog 31 #[.slice (some ⟨G, 0, none⟩) m capG] w fun e w' => e = .returned (.bool true) ∧ Only (UU m A) w w' ∧ Rows w' m A N C (fun q => marks q (N q)) := by
  have Hd := Lib.hid hd
  have HN := Lib.hid hN
  have Hg := Lib.hid hg
  have Hr := Lib.hid hr
  clear hd hN hg hr
  go_enter Tryz.func31, Tryz.ntmps31
  go_wp2_with fail
  obtain ⟨v1, hw⟩ : ∃ W : World, w.alloc (.cells (bagL (.slice none 0 0)).toArray 121) = W := ⟨_, rfl⟩
  have hw' := hw
  unfold bagL at hw'
  obtain ⟨B, hB⟩ : ∃ B, w.heap.size = B := ⟨_, rfl⟩
  rw [hw', hB]
  have HB := Lib.hid hB
  have Hbag1 : Hid (BagIs v1 B (.slice none 0 0)) := by rw [← hw, ← hB]; exact Blk.new w _ _
  have Hb1 : Hid (Below w.heap.size w v1) := by rw [← hw]; exact (Below.refl _ _).alloc (Nat.le_refl _) _
  clear hw hw' hB
  go_loopw [4] (fun i wr => ∃ k : Nat, k ≤ m ∧ i = .int .i64 k ∧ Below w.heap.size w wr ∧ ∃ (bv : Value) (L : List Value), BagIs wr B bv ∧ wr.ownsRow B 62 1 bv k L ∧ (∀ j, bv.ownBlock = some j → j ≠ B) ∧ ∀ q, q < k → L[q]? = some (.slice (A q) (N q) (C q))) (fun i _ => m - (intOf i).toNat)
  case atStart => exact ⟨0, Nat.zero_le _, rfl, Hb1.out, .slice none 0 0, [], Hbag1.out, ⟨rfl, .inl ⟨rfl, rfl⟩⟩, (fun j h => by cases h), fun q hq => by omega⟩
  case round =>
  obtain ⟨k, hk, rfl, hb, bv, L, hbag, hown, hbo, hL⟩ := hrel
  obtain ⟨v2, rfl⟩ : ∃ W : World, W = wr := ⟨_, rfl⟩
  have HB2 := Lib.hid hb
  have HBag := Lib.hid hbag
  have HOwn := Lib.hid hown
  have HBo := Lib.hid hbo
  have HL := Lib.hid hL
  have hlen : L.length = k := by have := hown.1; omega
  clear hb hbag hown hbo hL
  by_cases hlt : k < m
  · have c0 := cell_keep HB2.out (Hg.out k hlt)
    have i1 : (0 : Int) ≤ (k : Int) := by omega
    have i2 : (k : Int) < (m : Int) := by omega
    go_wp2_with fail
    refine (put_any B B k L bv (A k) (N k) (C k) v2 (Nat.le_refl _) (Nat.le_of_lt HBag.out.lt) (by omega) HBag.out HOwn.out HBo.out).mono ?_
    rintro e w2 ⟨⟨u, rfl⟩, g1, c1, hbag2, hown2, ho2, hne2⟩
    have HB3 := Lib.hid (HB2.out.trans (ho2.below HB2.out.size (fun j hj => by have := HB.out; omega)))
    have Hbag2 := Lib.hid hbag2
    have Hown2 := Lib.hid hown2
    clear hbag2 hown2 ho2 c0
    go_wp2_with fail
    refine ⟨⟨k + 1, by omega, by go_num, HB3.out, _, _, Hbag2.out, Hown2.out, (fun j h => by cases h; exact hne2), fun q hq => ?_⟩, by simp [intOf]; omega⟩
    by_cases e : q < k
    · rw [List.getElem?_append_left (by omega)]; exact HL.out q e
    · obtain rfl : q = k := by omega
      rw [List.getElem?_append_right (by omega), hlen, Nat.sub_self]; rfl
  · obtain rfl : k = m := by omega
    go_wp2_with fail
    obtain ⟨g, c, rfl⟩ := own_pos HOwn.out hm0
    have hlt : ∀ j, UU k A j → j < B := fun j hj => by rw [← HB.out]; exact Hr.out.lt j hj
    refine (Kit.apartq_Holds (fun W => Rows W k A N C (fun q => marks q (N q))) (fun _ _ hb h => h.keep hb) (UU k A) B (.slice (some ⟨g, 0, none⟩) k c) v2 (fun h => by have := hlt B h; omega) (fun W hW => ?_) (fun i hi => ?_)).mono ?_
    · have hbW : Below w.heap.size w W := HB2.out.trans (hW.mono HB2.out.size)
      have hgl := HOwn.out.lt g rfl
      refine (flat_kept k A N C X g c W hm (Hr.out.keep hbW) Hd.out (fun q hq h => ?_) HN.out (fun q hq => ?_)).mono (fun e w' h => ⟨h.1, toK h.2.1, h.2.2⟩)
      · have := hlt g ⟨q, hq, h⟩; omega
      · have := HOwn.out.cellAt q (by omega)
        exact cell_keep hW (this.trans (HL.out q hq))
    · have e : i = 0 ∨ i = 1 ∨ i = 2 ∨ i = 3 ∨ i = 4 ∨ i = 5 ∨ i = 6 ∨ i = 7 ∨ i = 8 ∨ i = 9 ∨ i = 10 ∨ i = 11 ∨ i = 12 ∨ i = 13 ∨ i = 14 ∨ i = 15 ∨ i = 16 := by omega
      rcases e with rfl | rfl | rfl | rfl | rfl | rfl | rfl | rfl | rfl | rfl | rfl | rfl | rfl | rfl | rfl | rfl | rfl <;> exact Blk.at HBag.out _ rfl
    · rintro e w4 ⟨rfl, ho4, hr4⟩
      have HR4 := Lib.hid hr4
      have HO := Lib.hid ((Only.of_below (S := UU k A) HB2.out).trans (ofK ho4))
      clear ho4 hr4 hlt
      go_wp2_with fail
      go_ret
      exact ⟨rfl, HO.out, HR4.out⟩
theorem apart_many (m : Nat) (A : Nat → Option Addr) (N C : Nat → Nat) (X : Nat → List Value) (G capG : Nat) (w : World) (hm0 : 0 < m) (hm : m ≤ 100) (hr : Rows w m A N C X) (hd : Dis m A)
    (hN : ∀ q, q < m → N q ≤ 1000000) (hg : ∀ q, q < m → w.cell? ⟨G, q, none⟩ = some (.slice (A q) (N q) (C q))) :
    Calls Tryz.prog 31 #[.slice (some ⟨G, 0, none⟩) m capG] w fun e w' => e = .returned (.bool true) ∧ Only (UU m A) w w' := by
  refine (apart_kept m A N C X G capG w hm0 hm hr hd hN hg).mono ?_
  rintro e w' ⟨rfl, h, _⟩
  exact ⟨rfl, h⟩
end Go.Proofs.YtmdepkehpohgeaaGreat.KitHolds
