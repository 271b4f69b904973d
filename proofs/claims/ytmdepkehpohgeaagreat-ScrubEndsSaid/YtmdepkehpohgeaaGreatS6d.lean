/- Rows of septumlaw16.Deed: as they came in, as own rows. -/
import Derived.Test.YtmdepkehpohgeaaGreatOw
import Derived.Test.YtmdepkehpohgeaaGreatBa
namespace Go.Proofs.YtmdepkehpohgeaaGreat.Scr
open Go.RowKit Go.Maps Fifo Orow
set_option linter.unusedVariables false

structure Dd where
  wh : Int
  n : Int
  w : Int
def zeroDd : Dd := ⟨0, 0, 0⟩
instance : Inhabited Dd := ⟨zeroDd⟩
/-- Its numbers are such as can be read. -/
def okDd (d : Dd) : Prop := (-9223372036854775808 ≤ d.wh ∧ d.wh ≤ 9223372036854775807) ∧ (-9223372036854775808 ≤ d.n ∧ d.n ≤ 9223372036854775807) ∧ (-9223372036854775808 ≤ d.w ∧ d.w ≤ 9223372036854775807)
def encDd (d : Dd) : List Value := [.int .i64 d.wh, .int .i64 d.n, .int .i64 d.w]
/-- One that lies in a block from p on. -/
structure AtDd (w : World) (b p : Nat) (d : Dd) : Prop where
  c0 : w.cell? ⟨b, p, none⟩ = some (.int .i64 d.wh)
  c1 : w.cell? ⟨b, p + 1, none⟩ = some (.int .i64 d.n)
  c2 : w.cell? ⟨b, p + 2, none⟩ = some (.int .i64 d.w)
theorem AtDd.keep {w w' : World} {b p : Nat} {d : Dd} (h : AtDd w b p d) (hb : Below w.heap.size w w') : AtDd w' b p d := ⟨cell_keep hb h.c0, cell_keep hb h.c1, cell_keep hb h.c2⟩
theorem AtDd.only {S : Nat → Prop} {w w' : World} {b p : Nat} {d : Dd} (h : AtDd w b p d) (ho : Only S w w') (hn : ¬ S b) : AtDd w' b p d := ⟨only_cell ho hn h.c0, only_cell ho hn h.c1, only_cell ho hn h.c2⟩
theorem atDd_new (w : World) (d : Dd) (t : TypeId) : AtDd (w.alloc (.cells #[.int .i64 d.wh, .int .i64 d.n, .int .i64 d.w] t)) w.heap.size 0 d := ⟨World.cell?_alloc_at _ _ _ 0 rfl, World.cell?_alloc_at _ _ _ 1 rfl, World.cell?_alloc_at _ _ _ 2 rfl⟩
/-- A slice of them. -/
def RowDd (w : World) (a : Option Addr) (n : Nat) (l : List Dd) : Prop :=
  l.length = n ∧ (∀ j, j < n → okDd l[j]!) ∧ ∀ j, j < n → ∃ b off, a = some ⟨b, off, none⟩ ∧ AtDd w b (off + j * 3) l[j]!
theorem RowDd.keep {w w' : World} {a : Option Addr} {n : Nat} {l : List Dd} (h : RowDd w a n l) (hb : Below w.heap.size w w') : RowDd w' a n l :=
  ⟨h.1, h.2.1, fun j hj => by
    obtain ⟨b, off, e, c⟩ := h.2.2 j hj
    exact ⟨b, off, e, c.keep hb⟩⟩
theorem RowDd.only {S : Nat → Prop} {w w' : World} {a : Option Addr} {n : Nat} {l : List Dd} (h : RowDd w a n l) (ho : Only S w w') (hn : ∀ j, BA a j → ¬ S j) : RowDd w' a n l :=
  ⟨h.1, h.2.1, fun j hj => by
    obtain ⟨b, off, e, c⟩ := h.2.2 j hj
    exact ⟨b, off, e, c.only ho (hn b (by rw [e]; exact ba_self b off))⟩⟩
theorem RowDd.nil (w : World) (a : Option Addr) : RowDd w a 0 [] := ⟨rfl, fun j hj => by omega, fun j hj => by omega⟩
theorem RowDd.lt {w : World} {a : Option Addr} {n : Nat} {l : List Dd} (h : RowDd w a n l) (hn : 0 < n) : ∀ j, BA a j → j < w.heap.size := by
  intro j hj
  obtain ⟨b, off, rfl, c⟩ := h.2.2 0 hn
  rw [ba_some hj]
  exact cell_lt c.c0
def flDd (l : List Dd) : List Value := l.flatMap encDd
theorem flDd_len (l : List Dd) : (flDd l).length = l.length * 3 := by
  induction l with
  | nil => rfl
  | cons x l ih => simp [flDd, encDd] at ih ⊢; omega
theorem flDd_snoc (l : List Dd) (x : Dd) : flDd (l ++ [x]) = flDd l ++ encDd x := by simp [flDd]
theorem flDd_get : ∀ (d : List Dd) (j c : Nat), j < d.length → c < 3 → (flDd d)[j * 3 + c]? = (encDd d[j]!)[c]?
  | [], j, c, h, _ => by simp at h
  | x :: d, 0, c, h, hc => by
    show (encDd x ++ flDd d)[0 * 3 + c]? = _
    rw [List.getElem?_append_left (by simp [encDd]; omega)]
    simp
  | x :: d, j + 1, c, h, hc => by
    show (encDd x ++ flDd d)[(j + 1) * 3 + c]? = _
    rw [List.getElem?_append_right (by simp [encDd]; omega)]
    have := flDd_get d j c (by simpa using h) hc
    rw [show (j + 1) * 3 + c - (encDd x).length = j * 3 + c by simp [encDd]; omega, this]
    simp
theorem flDd_cells {d : List Dd} : ∀ v ∈ flDd d, v.oneCell' = true := by
  intro v hv
  obtain ⟨x, _, hx⟩ := List.mem_flatMap.1 hv
  simp [encDd] at hx
  rcases hx with rfl | rfl | rfl <;> rfl
theorem rowDd_of_own {w : World} {B n : Nat} {a : Option Addr} {cap : Nat} {d : List Dd} (hd : d.length = n) (hok : ∀ j, j < n → okDd d[j]!) (h : w.ownsRow B 39 3 (.slice a n cap) n (flDd d)) : RowDd w a n d := by
  refine ⟨hd, hok, fun j hj => ?_⟩
  obtain ⟨g, rfl⟩ := own_some h (.inl (by omega))
  have hc := own_cells h _ rfl
  have c : ∀ t v, t < 3 → (encDd d[j]!)[t]? = some v → w.cell? ⟨g, 0 + j * 3 + t, none⟩ = some v := fun t v ht hv => by
    have := hc (j * 3 + t) v (by rw [flDd_get d j t (by omega) ht]; exact hv)
    rw [Go.WideShapes.add_plain, Nat.zero_add] at this
    rw [Nat.zero_add]
    exact this
  exact ⟨g, 0, rfl, ⟨c 0 _ (by omega) rfl, c 1 _ (by omega) rfl, c 2 _ (by omega) rfl⟩⟩
theorem rowDd_new (w : World) (d : List Dd) (t : TypeId) (hok : ∀ j, j < d.length → okDd d[j]!) : RowDd (w.alloc (.cells (flDd d).toArray t)) (some ⟨w.heap.size, 0, none⟩) d.length d := by
  refine ⟨rfl, hok, fun j hj => ⟨w.heap.size, 0, rfl, ?_⟩⟩
  have c : ∀ t' v, t' < 3 → (encDd d[j]!)[t']? = some v → (w.alloc (.cells (flDd d).toArray t)).cell? ⟨w.heap.size, 0 + j * 3 + t', none⟩ = some v := fun t' v ht hv => by
    have h := flDd_get d j t' hj ht
    rw [World.cell?_alloc_at _ _ _ _ rfl, Nat.zero_add, List.getElem?_toArray, h]
    exact hv
  exact ⟨c 0 _ (by omega) rfl, c 1 _ (by omega) rfl, c 2 _ (by omega) rfl⟩
theorem okDd_snoc {d : List Dd} {x : Dd} {n : Nat} (hl : d.length = n) (h : ∀ j, j < n → okDd d[j]!) (hx : okDd x) : ∀ j, j < n + 1 → okDd (d ++ [x])[j]! := by
  intro j hj
  by_cases hjn : j < n
  · rw [getElem!_pos (d ++ [x]) j (by simp; omega), List.getElem_append_left (by omega), ← getElem!_pos d j (by omega)]
    exact h j hjn
  · obtain rfl : j = n := by omega
    rw [getElem!_pos (d ++ [x]) j (by simp; omega), List.getElem_append_right (by omega)]
    simpa [hl] using hx
end Go.Proofs.YtmdepkehpohgeaaGreat.Scr
