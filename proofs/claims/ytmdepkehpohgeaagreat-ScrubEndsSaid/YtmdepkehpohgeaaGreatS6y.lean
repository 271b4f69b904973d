/- Rows of scrub.hold: as they came in, as own rows. -/
import Derived.Test.YtmdepkehpohgeaaGreatOw
import Derived.Test.YtmdepkehpohgeaaGreatBa
namespace Go.Proofs.YtmdepkehpohgeaaGreat.Scr
open Go.RowKit Go.Maps Fifo Orow
set_option linter.unusedVariables false

structure Hk where
  o : Int
  l : Int
  n : Int
  k : Int
def zeroHk : Hk := ⟨0, 0, 0, 0⟩
instance : Inhabited Hk := ⟨zeroHk⟩
/-- Its numbers are such as can be read. -/
def okHk (d : Hk) : Prop := (-9223372036854775808 ≤ d.o ∧ d.o ≤ 9223372036854775807) ∧ (-9223372036854775808 ≤ d.l ∧ d.l ≤ 9223372036854775807) ∧ (-9223372036854775808 ≤ d.n ∧ d.n ≤ 9223372036854775807) ∧ (-9223372036854775808 ≤ d.k ∧ d.k ≤ 9223372036854775807)
def encHk (d : Hk) : List Value := [.int .i64 d.o, .int .i64 d.l, .int .i64 d.n, .int .i64 d.k]
/-- One that lies in a block from p on. -/
structure AtHk (w : World) (b p : Nat) (d : Hk) : Prop where
  c0 : w.cell? ⟨b, p, none⟩ = some (.int .i64 d.o)
  c1 : w.cell? ⟨b, p + 1, none⟩ = some (.int .i64 d.l)
  c2 : w.cell? ⟨b, p + 2, none⟩ = some (.int .i64 d.n)
  c3 : w.cell? ⟨b, p + 3, none⟩ = some (.int .i64 d.k)
theorem AtHk.keep {w w' : World} {b p : Nat} {d : Hk} (h : AtHk w b p d) (hb : Below w.heap.size w w') : AtHk w' b p d := ⟨cell_keep hb h.c0, cell_keep hb h.c1, cell_keep hb h.c2, cell_keep hb h.c3⟩
theorem AtHk.only {S : Nat → Prop} {w w' : World} {b p : Nat} {d : Hk} (h : AtHk w b p d) (ho : Only S w w') (hn : ¬ S b) : AtHk w' b p d := ⟨only_cell ho hn h.c0, only_cell ho hn h.c1, only_cell ho hn h.c2, only_cell ho hn h.c3⟩
theorem atHk_new (w : World) (d : Hk) (t : TypeId) : AtHk (w.alloc (.cells #[.int .i64 d.o, .int .i64 d.l, .int .i64 d.n, .int .i64 d.k] t)) w.heap.size 0 d := ⟨World.cell?_alloc_at _ _ _ 0 rfl, World.cell?_alloc_at _ _ _ 1 rfl, World.cell?_alloc_at _ _ _ 2 rfl, World.cell?_alloc_at _ _ _ 3 rfl⟩
/-- A slice of them. -/
def RowHk (w : World) (a : Option Addr) (n : Nat) (l : List Hk) : Prop :=
  l.length = n ∧ (∀ j, j < n → okHk l[j]!) ∧ ∀ j, j < n → ∃ b off, a = some ⟨b, off, none⟩ ∧ AtHk w b (off + j * 4) l[j]!
theorem RowHk.keep {w w' : World} {a : Option Addr} {n : Nat} {l : List Hk} (h : RowHk w a n l) (hb : Below w.heap.size w w') : RowHk w' a n l :=
  ⟨h.1, h.2.1, fun j hj => by
    obtain ⟨b, off, e, c⟩ := h.2.2 j hj
    exact ⟨b, off, e, c.keep hb⟩⟩
theorem RowHk.only {S : Nat → Prop} {w w' : World} {a : Option Addr} {n : Nat} {l : List Hk} (h : RowHk w a n l) (ho : Only S w w') (hn : ∀ j, BA a j → ¬ S j) : RowHk w' a n l :=
  ⟨h.1, h.2.1, fun j hj => by
    obtain ⟨b, off, e, c⟩ := h.2.2 j hj
    exact ⟨b, off, e, c.only ho (hn b (by rw [e]; exact ba_self b off))⟩⟩
theorem RowHk.nil (w : World) (a : Option Addr) : RowHk w a 0 [] := ⟨rfl, fun j hj => by omega, fun j hj => by omega⟩
theorem RowHk.lt {w : World} {a : Option Addr} {n : Nat} {l : List Hk} (h : RowHk w a n l) (hn : 0 < n) : ∀ j, BA a j → j < w.heap.size := by
  intro j hj
  obtain ⟨b, off, rfl, c⟩ := h.2.2 0 hn
  rw [ba_some hj]
  exact cell_lt c.c0
def flHk (l : List Hk) : List Value := l.flatMap encHk
theorem flHk_len (l : List Hk) : (flHk l).length = l.length * 4 := by
  induction l with
  | nil => rfl
  | cons x l ih => simp [flHk, encHk] at ih ⊢; omega
theorem flHk_snoc (l : List Hk) (x : Hk) : flHk (l ++ [x]) = flHk l ++ encHk x := by simp [flHk]
theorem flHk_get : ∀ (d : List Hk) (j c : Nat), j < d.length → c < 4 → (flHk d)[j * 4 + c]? = (encHk d[j]!)[c]?
  | [], j, c, h, _ => by simp at h
  | x :: d, 0, c, h, hc => by
    show (encHk x ++ flHk d)[0 * 4 + c]? = _
    rw [List.getElem?_append_left (by simp [encHk]; omega)]
    simp
  | x :: d, j + 1, c, h, hc => by
    show (encHk x ++ flHk d)[(j + 1) * 4 + c]? = _
    rw [List.getElem?_append_right (by simp [encHk]; omega)]
    have := flHk_get d j c (by simpa using h) hc
    rw [show (j + 1) * 4 + c - (encHk x).length = j * 4 + c by simp [encHk]; omega, this]
    simp
theorem flHk_cells {d : List Hk} : ∀ v ∈ flHk d, v.oneCell' = true := by
  intro v hv
  obtain ⟨x, _, hx⟩ := List.mem_flatMap.1 hv
  simp [encHk] at hx
  rcases hx with rfl | rfl | rfl | rfl <;> rfl
theorem rowHk_of_own {w : World} {B n : Nat} {a : Option Addr} {cap : Nat} {d : List Hk} (hd : d.length = n) (hok : ∀ j, j < n → okHk d[j]!) (h : w.ownsRow B 81 4 (.slice a n cap) n (flHk d)) : RowHk w a n d := by
  refine ⟨hd, hok, fun j hj => ?_⟩
  obtain ⟨g, rfl⟩ := own_some h (.inl (by omega))
  have hc := own_cells h _ rfl
  have c : ∀ t v, t < 4 → (encHk d[j]!)[t]? = some v → w.cell? ⟨g, 0 + j * 4 + t, none⟩ = some v := fun t v ht hv => by
    have := hc (j * 4 + t) v (by rw [flHk_get d j t (by omega) ht]; exact hv)
    rw [Go.WideShapes.add_plain, Nat.zero_add] at this
    rw [Nat.zero_add]
    exact this
  exact ⟨g, 0, rfl, ⟨c 0 _ (by omega) rfl, c 1 _ (by omega) rfl, c 2 _ (by omega) rfl, c 3 _ (by omega) rfl⟩⟩
theorem rowHk_new (w : World) (d : List Hk) (t : TypeId) (hok : ∀ j, j < d.length → okHk d[j]!) : RowHk (w.alloc (.cells (flHk d).toArray t)) (some ⟨w.heap.size, 0, none⟩) d.length d := by
  refine ⟨rfl, hok, fun j hj => ⟨w.heap.size, 0, rfl, ?_⟩⟩
  have c : ∀ t' v, t' < 4 → (encHk d[j]!)[t']? = some v → (w.alloc (.cells (flHk d).toArray t)).cell? ⟨w.heap.size, 0 + j * 4 + t', none⟩ = some v := fun t' v ht hv => by
    have h := flHk_get d j t' hj ht
    rw [World.cell?_alloc_at _ _ _ _ rfl, Nat.zero_add, List.getElem?_toArray, h]
    exact hv
  exact ⟨c 0 _ (by omega) rfl, c 1 _ (by omega) rfl, c 2 _ (by omega) rfl, c 3 _ (by omega) rfl⟩
theorem okHk_snoc {d : List Hk} {x : Hk} {n : Nat} (hl : d.length = n) (h : ∀ j, j < n → okHk d[j]!) (hx : okHk x) : ∀ j, j < n + 1 → okHk (d ++ [x])[j]! := by
  intro j hj
  by_cases hjn : j < n
  · rw [getElem!_pos (d ++ [x]) j (by simp; omega), List.getElem_append_left (by omega), ← getElem!_pos d j (by omega)]
    exact h j hjn
  · obtain rfl : j = n := by omega
    rw [getElem!_pos (d ++ [x]) j (by simp; omega), List.getElem_append_right (by omega)]
    simpa [hl] using hx
end Go.Proofs.YtmdepkehpohgeaaGreat.Scr
