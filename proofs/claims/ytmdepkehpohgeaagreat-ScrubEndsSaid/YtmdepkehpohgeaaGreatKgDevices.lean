/- The kit's marks of Devices; rows of marks. -/
import Derived.Test.YtmdepkehpohgeaaGreatOw
import Derived.Test.YtmdepkehpohgeaaGreatBa
import Derived.RangeFuncBox
import Derived.Deep.RegionWith
import Derived.Deep.QuietTactic
import Derived.BigQuiet
namespace Go.Proofs.YtmdepkehpohgeaaGreat.KitDevices
open Go.RowKit Go.Maps Fifo Orow
set_option linter.unusedVariables false

/-- The mark of a place. -/
def mk (k i : Int) : Int := 1000003 * (k + 7) + i
theorem mark_any (k i : Int) (w : World) (h0 : 0 ≤ k) (h1 : k ≤ 1000) (h2 : 0 ≤ i) (h3 : i ≤ 4611686018427387904) :
    Calls Tryz.prog 56 #[.int .i64 k, .int .i64 i] w fun e w' => e = .returned (.int .i64 (mk k i)) ∧ w = w' := by
  go_enter Tryz.func56, Tryz.ntmps56
  go_wp2
  go_ret
  exact ⟨rfl, rfl⟩
/-- The cells of a marked element. -/
def mE (k i : Int) : List Value := [.int .i64 0, .int .u32 0, .int .i64 (mk k i), .int .i64 0, .int .i64 0]
theorem mE_len (k i : Int) : (mE k i).length = 5 := rfl
theorem mE_one (k i : Int) : ∀ u ∈ mE k i, u.oneCell' = true := by
  intro u hu
  simp [mE] at hu
  rcases hu with rfl | rfl | rfl | rfl | rfl <;> rfl
set_option maxRecDepth 100000 in
theorem markE_any (k i : Int) (w : World) (h0 : 0 ≤ k) (h1 : k ≤ 1000) (h2 : 0 ≤ i) (h3 : i ≤ 4611686018427387904) :
    Calls Tryz.prog 24 #[.int .i64 k, .int .i64 i] w fun e w' => e = .returned (.agg #[.int .i64 0, .int .u32 0, .int .i64 (mk k i), .int .i64 0, .int .i64 0]) ∧ Below w.heap.size w w' := by
  obtain ⟨g, hg⟩ : ∃ g, w.heap.size = g := ⟨_, rfl⟩
  have B0 := Blk.new w 45 [.int .i64 0, .int .u32 0, .int .i64 0, .int .i64 0, .int .i64 0]
  rw [hg] at B0
  have H0 := Lib.hid B0
  have HB := Lib.hid ((Below.refl w.heap.size w).alloc (Nat.le_refl _) (.cells #[.int .i64 0, .int .u32 0, .int .i64 0, .int .i64 0, .int .i64 0] 45))
  have Hg := Lib.hid hg
  clear B0
  go_enter Tryz.func24, Tryz.ntmps24
  go_wp2_with fail
  refine (mark_any k i _ h0 h1 h2 h3).mono ?_
  rintro e w1 ⟨rfl, rfl⟩
  go_wp2_with (with_reducible refine at_store _ _ _ rfl ?_)
  apply Lib.hid
  refine store_all rfl _ _ _ rfl g [.int .i64 0, .int .u32 0, .int .i64 (mk k i), .int .i64 0, .int .i64 0] rfl rfl 45 _ H0.out (by kernel_rfl) rfl (by simp [Value.oneCell']) ?_
  intro X hX hoX
  have hbX : Below w.heap.size w X := HB.out.trans (hoX.below HB.out.size (fun j hj => by rw [hj, Hg.out]; exact Nat.le_refl _))
  have e0 := hX.at 0 rfl
  have e1 := hX.at 1 rfl
  have e2 := hX.at 2 rfl
  have e3 := hX.at 3 rfl
  have e4 := hX.at 4 rfl
  clear hX hoX H0 HB hg Hg
  go_wp2_with fail
  refine bodyPost_ret (v := .agg #[.int .i64 0, .int .u32 0, .int .i64 (mk k i), .int .i64 0, .int .i64 0]) ?_ rfl ⟨rfl, hbX⟩
  simp [results, Tryz.results24, go_sem, e0, e1, e2, e3, e4]

theorem info_e : (Tryz.prog.info? 45).map (fun i => (i.zero, i.size, i.bytes)) = some (some (.agg #[.int .i64 0, .int .u32 0, .int .i64 0, .int .i64 0, .int .i64 0]), 5, 40) := by kernel_rfl
theorem info_s : (Tryz.prog.info? 22).map (fun i => (i.zero, i.size, i.bytes)) = some (some (.slice none 0 0), 1, 24) := by kernel_rfl
def marks (k : Int) (n : Nat) : List Value := (List.range n).flatMap fun j => mE k (j : Nat)
theorem marks_len (k : Int) (n : Nat) : (marks k n).length = n * 5 := by
  unfold marks
  induction n with
  | zero => rfl
  | succ n ih => rw [List.range_succ, List.flatMap_append, List.length_append, ih]; simp [mE_len]; omega
theorem marks_succ (k : Int) (n : Nat) : marks k (n + 1) = marks k n ++ mE k (n : Nat) := by unfold marks; rw [List.range_succ, List.flatMap_append]; simp
theorem marks_at (k : Int) {n j c : Nat} (h : j < n) (hc : c < 5) : (marks k n)[j * 5 + c]? = (mE k (j : Nat))[c]? := by
  induction n with
  | zero => omega
  | succ n ih =>
    rw [marks_succ]
    by_cases hj : j < n
    · rw [List.getElem?_append_left (by rw [marks_len]; omega), ih hj]
    · obtain rfl : j = n := by omega
      rw [List.getElem?_append_right (by rw [marks_len]; omega), marks_len]
      congr 1
      omega
theorem marks_more (k : Int) (n m : Nat) : ∃ r, marks k (n + m) = marks k n ++ r := by
  induction m with
  | zero => exact ⟨[], by simp⟩
  | succ m ih =>
    obtain ⟨r, hr⟩ := ih
    exact ⟨r ++ mE k ((n + m : Nat) : Int), by rw [← Nat.add_assoc, marks_succ, hr, List.append_assoc]⟩
theorem marks_take (k : Int) {n m : Nat} (h : m ≤ n) : (marks k n).take (m * 5) = marks k m := by
  obtain ⟨r, hr⟩ := marks_more k m (n - m)
  rw [show m + (n - m) = n by omega] at hr
  rw [hr, List.take_left' (marks_len k m)]
theorem marks_one (k : Int) (n : Nat) : ∀ u ∈ marks k n, u.oneCell' = true := by
  intro u hu
  simp only [marks, List.mem_flatMap] at hu
  obtain ⟨j, _, hj⟩ := hu
  exact mE_one _ _ u hj
theorem marks_plus (k : Int) (n j : Nat) : marks k (n + j) ++ mE k ((n : Int) + (j : Int)) = marks k (n + (j + 1)) := by
  rw [← Nat.add_assoc, marks_succ]; simp
theorem set_mark (k : Int) (j : Nat) (xs : List Value) (h : j * 5 + 5 ≤ xs.length) : (marks k j ++ xs.drop (j * 5)).take (j * 5) ++ mE k (j : Nat) ++ (marks k j ++ xs.drop (j * 5)).drop (j * 5 + (mE k (j : Nat)).length) = marks k (j + 1) ++ xs.drop ((j + 1) * 5) := by
  rw [List.take_left' (marks_len k j), mE_len, ← List.drop_drop, List.drop_left' (marks_len k j), List.drop_drop, marks_succ, Nat.succ_mul]

abbrev R (w : World) (a : Option Addr) (n c : Nat) (L : List Value) : Prop := w.ownsRow 0 45 5 (.slice a n c) n L
/-- An element that bears a mark. -/
structure AtM (w : World) (b p : Nat) (k i : Int) : Prop where
  c0 : w.cell? ⟨b, p, none⟩ = some (.int .i64 0)
  c1 : w.cell? ⟨b, p + 1, none⟩ = some (.int .u32 0)
  c2 : w.cell? ⟨b, p + 2, none⟩ = some (.int .i64 (mk k i))
  c3 : w.cell? ⟨b, p + 3, none⟩ = some (.int .i64 0)
  c4 : w.cell? ⟨b, p + 4, none⟩ = some (.int .i64 0)
theorem AtM.keep {w w' : World} {b p : Nat} {k i : Int} (h : AtM w b p k i) (hb : Below w.heap.size w w') : AtM w' b p k i :=
  ⟨cell_keep hb h.c0, cell_keep hb h.c1, cell_keep hb h.c2, cell_keep hb h.c3, cell_keep hb h.c4⟩
/-- The first n elements of a slice bear marks. -/
def RowM (w : World) (a : Option Addr) (n : Nat) (k : Int) : Prop := ∀ j, j < n → ∃ b off, a = some ⟨b, off, none⟩ ∧ AtM w b (off + j * 5) k (j : Nat)
theorem RowM.keep {w w' : World} {a : Option Addr} {n : Nat} {k : Int} (h : RowM w a n k) (hb : Below w.heap.size w w') : RowM w' a n k := fun j hj => by
  obtain ⟨b, off, e, h1⟩ := h j hj
  exact ⟨b, off, e, h1.keep hb⟩
/-- Of an own row that begins with marks. -/
theorem rowM_of {w : World} {a : Option Addr} {N n c B : Nat} {k : Int} {L r : List Value} (h : w.ownsRow B 45 5 (.slice a N c) N L) (hL : L = marks k n ++ r) (hn : n ≤ N) : RowM w a n k := by
  intro j hj
  obtain ⟨g, rfl⟩ := own_some h (.inl (by omega))
  refine ⟨g, 0, rfl, ?_⟩
  have q : ∀ q v, q < 5 → (mE k (j : Nat))[q]? = some v → w.cell? ⟨g, 0 + j * 5 + q, none⟩ = some v := fun q v hq hv => by
    rw [Nat.zero_add, h.cellAt (j * 5 + q) (by omega), hL, List.getElem?_append_left (by rw [marks_len]; omega), marks_at k hj hq, hv]
  exact ⟨q 0 _ (by omega) rfl, q 1 _ (by omega) rfl, q 2 _ (by omega) rfl, q 3 _ (by omega) rfl, q 4 _ (by omega) rfl⟩

/- Many lists: those whose addresses are A, lengths N, capacities C. -/
def Rows (w : World) (m : Nat) (A : Nat → Option Addr) (N C : Nat → Nat) (L : Nat → List Value) : Prop := ∀ q, q < m → R w (A q) (N q) (C q) (L q)
def Dis (m : Nat) (A : Nat → Option Addr) : Prop := ∀ q p, q < m → p < m → q ≠ p → ∀ j, BA (A q) j → ¬ BA (A p) j
def UU (m : Nat) (A : Nat → Option Addr) : Nat → Prop := fun j => ∃ q, q < m ∧ BA (A q) j
theorem Rows.step {w w' : World} {m : Nat} {A : Nat → Option Addr} {N C : Nat → Nat} {L L' : Nat → List Value} (h : Rows w m A N C L) (hd : Dis m A) {k : Nat} (hk : k < m) (ho : Only (BA (A k)) w w') (h1 : R w' (A k) (N k) (C k) (L' k)) (hL : ∀ q, q < m → q ≠ k → L' q = L q) : Rows w' m A N C L' := fun q hq => by
  by_cases e : q = k
  · subst e; exact h1
  · rw [hL q hq e]; exact own_only (h q hq) ho (hd q k hq hk e)
theorem Rows.only {S : Nat → Prop} {w w' : World} {m : Nat} {A : Nat → Option Addr} {N C : Nat → Nat} {L : Nat → List Value} (h : Rows w m A N C L) (ho : Only S w w') (hS : ∀ j, UU m A j → ¬ S j) : Rows w' m A N C L := fun q hq => own_only (h q hq) ho (fun j hj => hS j ⟨q, hq, hj⟩)
theorem Rows.keep {w w' : World} {m : Nat} {A : Nat → Option Addr} {N C : Nat → Nat} {L : Nat → List Value} (h : Rows w m A N C L) (hb : Below w.heap.size w w') : Rows w' m A N C L := fun q hq => own_keep (h q hq) hb
theorem Rows.lt {w : World} {m : Nat} {A : Nat → Option Addr} {N C : Nat → Nat} {L : Nat → List Value} (h : Rows w m A N C L) : ∀ j, UU m A j → j < w.heap.size := by
  rintro j ⟨q, hq, hj⟩
  exact (own_lt (h q hq) j hj).2
theorem only_drew {S : Nat → Prop} (w : World) : Only S w w.drew := ⟨rfl, rfl, rfl, Nat.le_refl _, fun _ _ _ => rfl⟩
theorem below_drew {w w' : World} (h : Below w.drew.heap.size w.drew w') : Below w.heap.size w w' := ⟨h.os, h.tape, h.output, h.size, h.block⟩
theorem uu_of {m : Nat} {A : Nat → Option Addr} {k : Nat} (hk : k < m) {w w' : World} (h : Only (BA (A k)) w w') : Only (UU m A) w w' := h.mono (fun j _ hj => ⟨k, hk, hj⟩)

/-- What the growing slice is: still over the list's row, or an own row from base on. -/
def G2 (base : Nat) (w : World) (a : Option Addr) (n c : Nat) (k : Int) (j : Nat) (gv : Value) : Prop :=
  (gv = .slice a (n + j) c ∧ R w a (n + j) c (marks k (n + j))) ∨
  (∃ g' c', gv = .slice (some ⟨g', 0, none⟩) (n + j) c' ∧ w.ownsRow base 45 5 (.slice (some ⟨g', 0, none⟩) (n + j) c') (n + j) (marks k (n + j)))
theorem step_only {S : Nat → Prop} {W wr w5 w1 : World} {o : Obj} {row : Option Nat} (hO : Only S W wr) (hb : Below wr.heap.size wr w5) (hg : (w5.alloc o).grownBy w1 row) (hr : ∀ j, row = some j → S j ∨ W.heap.size ≤ j) : Only S W w1 :=
  (((hO.trans (.of_below hb)).alloc o)).grown hg hr
/-- An append in the list's own row. -/
theorem step2_fits {W wr w5 w1 : World} {g n c j : Nat} {k : Int} {o : Obj} (hO : Only (BA (some ⟨g, 0, none⟩)) W wr) (hb : Below wr.heap.size wr w5)
    (hown1 : w1.ownsRow 0 45 5 (.slice (some ⟨g, 0, none⟩) (n + j + 1) c) (n + j + 1) (marks k (n + j) ++ mE k ((n : Int) + (j : Int))))
    (hgrow : (w5.alloc o).grownBy w1 (some g)) :
    G2 W.heap.size w1 (some ⟨g, 0, none⟩) n c k (j + 1) (.slice (some ⟨g, 0, none⟩) (n + j + 1) c) ∧ R w1 (some ⟨g, 0, none⟩) n c (marks k n) ∧ Only (BA (some ⟨g, 0, none⟩)) W w1 := by
  rw [marks_plus] at hown1
  refine ⟨.inl ⟨rfl, hown1⟩, ?_, step_only hO hb hgrow (fun j e => .inl ⟨⟨g, 0, none⟩, rfl, by cases e; rfl⟩)⟩
  have := own_prefix (n := n) hown1 (by omega)
  rwa [marks_take k (by omega)] at this
/-- An append that moves to a new row. -/
theorem step2_grows {W wr w5 w1 : World} {a : Option Addr} {n c j : Nat} {k : Int} {v' : Value} {o : Obj} (hO : Only (BA a) W wr) (hb : Below wr.heap.size wr w5) (hR : R wr a n c (marks k n))
    (hown1 : w1.ownsRow (w5.alloc o).heap.size 45 5 v' (n + j + 1) (marks k (n + j) ++ mE k ((n : Int) + (j : Int))))
    (hgrow : (w5.alloc o).grownBy w1 none) :
    G2 W.heap.size w1 a n c k (j + 1) v' ∧ R w1 a n c (marks k n) ∧ Only (BA a) W w1 := by
  rw [marks_plus] at hown1
  obtain ⟨g', c', rfl⟩ := own_pos hown1 (by omega)
  have hs := hO.size
  have hs2 := hb.size
  refine ⟨.inr ⟨g', c', rfl, own_mono hown1 (by simp; omega)⟩, ((own_keep hR hb).alloc _).kept hgrow (by cases a <;> simp [Value.ownBlock]), step_only hO hb hgrow (fun j e => by cases e)⟩
/-- An append to the own row. -/
theorem step2_own {W wr w5 w1 : World} {a : Option Addr} {n c j g c2 : Nat} {k : Int} {v' : Value} {o : Obj} (hO : Only (BA a) W wr) (hb : Below wr.heap.size wr w5) (hR : R wr a n c (marks k n)) (hW : ∀ j, BA a j → j < W.heap.size)
    (hown : wr.ownsRow W.heap.size 45 5 (.slice (some ⟨g, 0, none⟩) (n + j) c2) (n + j) (marks k (n + j)))
    (hown1 : w1.ownsRow W.heap.size 45 5 v' (n + j + 1) (marks k (n + j) ++ mE k ((n : Int) + (j : Int))))
    (hgrow : (w5.alloc o).grownBy w1 (some g)) :
    G2 W.heap.size w1 a n c k (j + 1) v' ∧ R w1 a n c (marks k n) ∧ Only (BA a) W w1 := by
  rw [marks_plus] at hown1
  obtain ⟨g', c', rfl⟩ := own_pos hown1 (by omega)
  have hg := (own_lt hown g (ba_self _ _)).1
  refine ⟨.inr ⟨g', c', rfl, hown1⟩, ?_, step_only hO hb hgrow (fun j e => .inr (by cases e; exact hg))⟩
  refine ((own_keep hR hb).alloc _).kept hgrow ?_
  cases a with
  | none => exact .inl rfl
  | some b =>
    refine .inr fun e => ?_
    have := hW b.block ⟨b, rfl, rfl⟩
    simp only [Value.ownBlock, Option.some.injEq] at e
    omega
/-- What lies in place q of the new list of lists: an own row, apart from the block H of places and from all other lists. -/
def GC (w : World) (m : Nat) (A : Nat → Option Addr) (H q : Nat) (o : Option Value) (n : Nat) (L : List Value) : Prop :=
  ∃ g c, o = some (.slice (some ⟨g, 0, none⟩) n c) ∧ w.ownsRow 0 45 5 (.slice (some ⟨g, 0, none⟩) n c) n L ∧ g ≠ H ∧ ∀ p, p < m → p ≠ q → ¬ BA (A p) g
theorem GC.only {S : Nat → Prop} {w w' : World} {m : Nat} {A : Nat → Option Addr} {H q : Nat} {o : Option Value} {n : Nat} {L : List Value} (h : GC w m A H q o n L) (ho : Only S w w') (hS : ∀ j, S j → j = H ∨ ∃ p, p < m ∧ p ≠ q ∧ BA (A p) j) : GC w' m A H q o n L := by
  obtain ⟨g, c, e, h1, h2, h3⟩ := h
  refine ⟨g, c, e, own_only h1 ho (fun j hj hs => ?_), h2, h3⟩
  obtain rfl := ba_some hj
  rcases hS _ hs with h | ⟨p, hp, hpq, hb⟩
  · exact h2 h
  · exact h3 p hp hpq hb
theorem GC.keep {w w' : World} {m : Nat} {A : Nat → Option Addr} {H q : Nat} {o : Option Value} {n : Nat} {L : List Value} (h : GC w m A H q o n L) (hb : Below w.heap.size w w') : GC w' m A H q o n L := h.only (S := fun _ => False) (.of_below hb) (fun j hj => hj.elim)
theorem GC.row {w : World} {m : Nat} {A : Nat → Option Addr} {H q : Nat} {o : Option Value} {n k : Nat} {t : Int} {L r : List Value} (h : GC w m A H q o n L) (hL : L = marks t k ++ r) (hk : k ≤ n) : ∃ ga gc, o = some (.slice ga n gc) ∧ RowM w ga k t := by
  obtain ⟨g, c, e, h1, _⟩ := h
  exact ⟨_, c, e, rowM_of h1 hL hk⟩
theorem G2.done {W w : World} {m : Nat} {A : Nat → Option Addr} {H q : Nat} {a : Option Addr} {n c : Nat} {k : Int} {gv : Value} (h : G2 W.heap.size w a n c k 64 gv) (ha : A q = a) (hq : q < m) (hd : Dis m A) (hH : ∀ j, UU m A j → j < H) (hHW : H < W.heap.size) :
    ∃ g' c', gv = .slice (some ⟨g', 0, none⟩) (n + 64) c' ∧ GC w m A H q (some gv) (n + 64) (marks k (n + 64)) := by
  rcases h with ⟨rfl, h⟩ | ⟨g, c', rfl, h⟩
  · obtain ⟨g, hg⟩ := own_some h (.inl (by omega))
    rw [hg] at h ⊢
    have hb : BA (A q) g := by rw [ha, hg]; exact ba_self _ _
    refine ⟨g, c, rfl, g, c, rfl, h, fun e => ?_, fun p hp hpq hbp => hd q p hq hp (Ne.symm hpq) g hb hbp⟩
    have := hH g ⟨q, hq, hb⟩
    omega
  · have hl := (own_lt h g (ba_self _ _)).1
    refine ⟨g, c', rfl, g, c', rfl, own_mono h (Nat.zero_le _), by omega, fun p hp hpq hbp => ?_⟩
    have := hH g ⟨p, hp, hbp⟩
    omega
/-- append(s, many...), whether it stays or moves: the old slice reads as it did. -/
theorem append_many {ops : Array Oper} {rest : List Oper} {o : Oper} {a : Act} {Q : Exit → Act → World → Prop} (w : World) (hg : o.guard = none) (s x : Operand) (hop : o.op = Op.call { callee := Callee.builtin Builtin.append, args := #[s, x], argTypes := #[22, 22] })
    (aa : Option Addr) (n c : Nat) (olds : List Value) (hs : a.eval s = .slice aa n c) (hR : R w aa n c olds)
    (M m : Nat) (news : List Value) (hx : a.eval x = .slice (some ⟨M, 0, none⟩) m m) (hn : news.length = m * 5) (hc : ∀ j u, news[j]? = some u → w.cell? ((⟨M, 0, none⟩ : Addr).add j) = some u) (h1c : ∀ u ∈ news, u.oneCell' = true)
    (hm : 0 < m) (hb : n + m ≤ 16777216)
    (hK : ∀ g' c' w', w'.ownsRow 0 45 5 (.slice (some ⟨g', 0, none⟩) (n + m) c') (n + m) (olds ++ news) → R w' aa n c olds → Only (BA aa) w w' → (BA aa g' ∨ w.heap.size ≤ g') → wpList Tryz.prog ops Q rest (a.put o.dst (.slice (some ⟨g', 0, none⟩) (n + m) c')) w') :
    wpList Tryz.prog ops Q (o :: rest) a w := by
  obtain ⟨i0, hi, hz0, hz1, hz2⟩ := info_parts info_e
  have hol := hR.1
  by_cases hroom : n + m ≤ c
  · obtain ⟨g, rfl⟩ := own_some hR (.inr (by omega))
    refine wpList_append_fits w hg s x 22 hop 0 45 i0 5 Tryz.underlying22 hi hz1 g n c olds hs hR ⟨M, 0, none⟩ m m news hx (by omega) hc h1c hroom ?_
    intro w' hown hgrow
    refine hK g c w' hown ?_ ?_ (.inl (ba_self _ _))
    · have := own_prefix (n := n) hown (by omega)
      rwa [List.take_left' (by omega)] at this
    · exact (Only.refl _ w).grown hgrow (fun k e => .inl ⟨⟨g, 0, none⟩, rfl, by cases e; rfl⟩)
  · refine wpList_append_grows w hg s x 22 hop 45 i0 (.agg #[.int .i64 0, .int .u32 0, .int .i64 0, .int .i64 0, .int .i64 0]) 5 40 Tryz.underlying22 hi hz0 hz1 hz2 rfl (by decide) aa n c olds hs (own_none hR) (by omega) (own_cells hR) ⟨M, 0, none⟩ m m news hx (by omega) hc h1c (by omega) (by unfold maxLen; omega) (by omega) ?_
    intro v' w' hown hgrow
    obtain ⟨g', c', rfl⟩ := own_pos hown (by omega)
    refine hK g' c' w' (own_mono hown (Nat.zero_le _)) (hR.kept hgrow (by cases aa <;> simp [Value.ownBlock])) ((Only.refl _ w).grown hgrow (fun k e => by cases e)) (.inr (own_lt hown g' (ba_self _ _)).1)
end Go.Proofs.YtmdepkehpohgeaaGreat.KitDevices
