/- Rows of api.Hold: as they came in, as own rows. -/
import Derived.Test.YtmdepkehpohgeaaGreatOw
import Derived.Test.YtmdepkehpohgeaaGreatBa
namespace Go.Proofs.YtmdepkehpohgeaaGreat.Scr
open Go.RowKit Go.Maps Fifo Orow
set_option linter.unusedVariables false

structure Hd where
  o : Int
  l : Int
  n : Int
def zeroHd : Hd := ⟨0, 0, 0⟩
instance : Inhabited Hd := ⟨zeroHd⟩
/-- Its numbers are such as can be read. -/
def okHd (d : Hd) : Prop := (-9223372036854775808 ≤ d.o ∧ d.o ≤ 9223372036854775807) ∧ (-9223372036854775808 ≤ d.l ∧ d.l ≤ 9223372036854775807) ∧ (-9223372036854775808 ≤ d.n ∧ d.n ≤ 9223372036854775807)
def encHd (d : Hd) : List Value := [.int .i64 d.o, .int .i64 d.l, .int .i64 d.n]
/-- One that lies in a block from p on. -/
structure AtHd (w : World) (b p : Nat) (d : Hd) : Prop where
  c0 : w.cell? ⟨b, p, none⟩ = some (.int .i64 d.o)
  c1 : w.cell? ⟨b, p + 1, none⟩ = some (.int .i64 d.l)
  c2 : w.cell? ⟨b, p + 2, none⟩ = some (.int .i64 d.n)
theorem AtHd.keep {w w' : World} {b p : Nat} {d : Hd} (h : AtHd w b p d) (hb : Below w.heap.size w w') : AtHd w' b p d := ⟨cell_keep hb h.c0, cell_keep hb h.c1, cell_keep hb h.c2⟩
theorem AtHd.only {S : Nat → Prop} {w w' : World} {b p : Nat} {d : Hd} (h : AtHd w b p d) (ho : Only S w w') (hn : ¬ S b) : AtHd w' b p d := ⟨only_cell ho hn h.c0, only_cell ho hn h.c1, only_cell ho hn h.c2⟩
theorem atHd_new (w : World) (d : Hd) (t : TypeId) : AtHd (w.alloc (.cells #[.int .i64 d.o, .int .i64 d.l, .int .i64 d.n] t)) w.heap.size 0 d := ⟨World.cell?_alloc_at _ _ _ 0 rfl, World.cell?_alloc_at _ _ _ 1 rfl, World.cell?_alloc_at _ _ _ 2 rfl⟩
/-- A slice of them. -/
def RowHd (w : World) (a : Option Addr) (n : Nat) (l : List Hd) : Prop :=
  l.length = n ∧ (∀ j, j < n → okHd l[j]!) ∧ ∀ j, j < n → ∃ b off, a = some ⟨b, off, none⟩ ∧ AtHd w b (off + j * 3) l[j]!
theorem RowHd.keep {w w' : World} {a : Option Addr} {n : Nat} {l : List Hd} (h : RowHd w a n l) (hb : Below w.heap.size w w') : RowHd w' a n l :=
  ⟨h.1, h.2.1, fun j hj => by
    obtain ⟨b, off, e, c⟩ := h.2.2 j hj
    exact ⟨b, off, e, c.keep hb⟩⟩
theorem RowHd.only {S : Nat → Prop} {w w' : World} {a : Option Addr} {n : Nat} {l : List Hd} (h : RowHd w a n l) (ho : Only S w w') (hn : ∀ j, BA a j → ¬ S j) : RowHd w' a n l :=
  ⟨h.1, h.2.1, fun j hj => by
    obtain ⟨b, off, e, c⟩ := h.2.2 j hj
    exact ⟨b, off, e, c.only ho (hn b (by rw [e]; exact ba_self b off))⟩⟩
theorem RowHd.nil (w : World) (a : Option Addr) : RowHd w a 0 [] := ⟨rfl, fun j hj => by omega, fun j hj => by omega⟩
theorem RowHd.lt {w : World} {a : Option Addr} {n : Nat} {l : List Hd} (h : RowHd w a n l) (hn : 0 < n) : ∀ j, BA a j → j < w.heap.size := by
  intro j hj
  obtain ⟨b, off, rfl, c⟩ := h.2.2 0 hn
  rw [ba_some hj]
  exact cell_lt c.c0
def flHd (l : List Hd) : List Value := l.flatMap encHd
theorem flHd_len (l : List Hd) : (flHd l).length = l.length * 3 := by
  induction l with
  | nil => rfl
  | cons x l ih => simp [flHd, encHd] at ih ⊢; omega
theorem flHd_snoc (l : List Hd) (x : Hd) : flHd (l ++ [x]) = flHd l ++ encHd x := by simp [flHd]
theorem flHd_get : ∀ (d : List Hd) (j c : Nat), j < d.length → c < 3 → (flHd d)[j * 3 + c]? = (encHd d[j]!)[c]?
  | [], j, c, h, _ => by simp at h
  | x :: d, 0, c, h, hc => by
    show (encHd x ++ flHd d)[0 * 3 + c]? = _
    rw [List.getElem?_append_left (by simp [encHd]; omega)]
    simp
  | x :: d, j + 1, c, h, hc => by
    show (encHd x ++ flHd d)[(j + 1) * 3 + c]? = _
    rw [List.getElem?_append_right (by simp [encHd]; omega)]
    have := flHd_get d j c (by simpa using h) hc
    rw [show (j + 1) * 3 + c - (encHd x).length = j * 3 + c by simp [encHd]; omega, this]
    simp
theorem flHd_cells {d : List Hd} : ∀ v ∈ flHd d, v.oneCell' = true := by
  intro v hv
  obtain ⟨x, _, hx⟩ := List.mem_flatMap.1 hv
  simp [encHd] at hx
  rcases hx with rfl | rfl | rfl <;> rfl
theorem rowHd_of_own {w : World} {B n : Nat} {a : Option Addr} {cap : Nat} {d : List Hd} (hd : d.length = n) (hok : ∀ j, j < n → okHd d[j]!) (h : w.ownsRow B 52 3 (.slice a n cap) n (flHd d)) : RowHd w a n d := by
  refine ⟨hd, hok, fun j hj => ?_⟩
  obtain ⟨g, rfl⟩ := own_some h (.inl (by omega))
  have hc := own_cells h _ rfl
  have c : ∀ t v, t < 3 → (encHd d[j]!)[t]? = some v → w.cell? ⟨g, 0 + j * 3 + t, none⟩ = some v := fun t v ht hv => by
    have := hc (j * 3 + t) v (by rw [flHd_get d j t (by omega) ht]; exact hv)
    rw [Go.WideShapes.add_plain, Nat.zero_add] at this
    rw [Nat.zero_add]
    exact this
  exact ⟨g, 0, rfl, ⟨c 0 _ (by omega) rfl, c 1 _ (by omega) rfl, c 2 _ (by omega) rfl⟩⟩
theorem rowHd_new (w : World) (d : List Hd) (t : TypeId) (hok : ∀ j, j < d.length → okHd d[j]!) : RowHd (w.alloc (.cells (flHd d).toArray t)) (some ⟨w.heap.size, 0, none⟩) d.length d := by
  refine ⟨rfl, hok, fun j hj => ⟨w.heap.size, 0, rfl, ?_⟩⟩
  have c : ∀ t' v, t' < 3 → (encHd d[j]!)[t']? = some v → (w.alloc (.cells (flHd d).toArray t)).cell? ⟨w.heap.size, 0 + j * 3 + t', none⟩ = some v := fun t' v ht hv => by
    have h := flHd_get d j t' hj ht
    rw [World.cell?_alloc_at _ _ _ _ rfl, Nat.zero_add, List.getElem?_toArray, h]
    exact hv
  exact ⟨c 0 _ (by omega) rfl, c 1 _ (by omega) rfl, c 2 _ (by omega) rfl⟩
theorem okHd_snoc {d : List Hd} {x : Hd} {n : Nat} (hl : d.length = n) (h : ∀ j, j < n → okHd d[j]!) (hx : okHd x) : ∀ j, j < n + 1 → okHd (d ++ [x])[j]! := by
  intro j hj
  by_cases hjn : j < n
  · rw [getElem!_pos (d ++ [x]) j (by simp; omega), List.getElem_append_left (by omega), ← getElem!_pos d j (by omega)]
    exact h j hjn
  · obtain rfl : j = n := by omega
    rw [getElem!_pos (d ++ [x]) j (by simp; omega), List.getElem_append_right (by omega)]
    simpa [hl] using hx
end Go.Proofs.YtmdepkehpohgeaaGreat.Scr
