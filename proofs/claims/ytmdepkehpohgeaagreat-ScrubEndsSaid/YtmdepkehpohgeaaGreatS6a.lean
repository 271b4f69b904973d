/- Plain: whose each device is; what is given, taken, moved, counted down. -/
import Derived.Test.YtmdepkehpohgeaaGreatS6h
import Derived.Test.YtmdepkehpohgeaaGreatVa
namespace Go.Proofs.YtmdepkehpohgeaaGreat.Scr
set_option linter.unusedVariables false

def I64 (x : Int) : Prop := -9223372036854775808 ≤ x ∧ x ≤ 9223372036854775807
instance (x : Int) : Decidable (I64 x) := inferInstanceAs (Decidable (_ ∧ _))
def freeH : Hd := ⟨-1, 0, -1⟩
deriving instance DecidableEq for Hd
/-- The time of a kind. -/
def timeV (k : Int) : Int := if k = 1 then 16 else if k = 2 then 2 else if k = 3 then 4 else if k = 4 then 3 else if k = 5 then 2 else if k = 6 then 5 else 0
theorem time_b {k : Int} (h : 1 ≤ k ∧ k ≤ 6) : 1 ≤ timeV k ∧ timeV k ≤ 16 := by
  have hc : k = 1 ∨ k = 2 ∨ k = 3 ∨ k = 4 ∨ k = 5 ∨ k = 6 := by omega
  rcases hc with rfl | rfl | rfl | rfl | rfl | rfl <;> decide
/-- Free, a world's, or scrubbed. -/
def OkH (h : Hd) : Prop := (0 ≤ h.l ∧ h.l ≤ 16) ∧ (-1 ≤ h.o ∧ h.o < 8) ∧ (-1 ≤ h.n ∧ h.n < 8) ∧ (0 ≤ h.o → h.l = 0) ∧ (h.l = 0 → h.n = -1)
structure RS where
  K : List Int
  H : List Hd
instance : Inhabited RS := ⟨⟨[], []⟩⟩
structure OkS (s : RS) : Prop where
  len : s.K.length = s.H.length
  few : s.H.length ≤ 16
  kin : ∀ j, j < s.K.length → 1 ≤ s.K[j]! ∧ s.K[j]! ≤ 6
  hol : ∀ j, j < s.H.length → OkH s.H[j]!
theorem ok_free : OkH freeH := ⟨by decide, by decide, by decide, by decide, by decide⟩
/-- As devices begin. -/
def newS (l : List Win.Dv) : RS := ⟨l.map (·.k), l.map fun d => ⟨d.O, 0, -1⟩⟩
/-- Is there such a device? -/
def isN (s : RS) (n : Int) : Bool := decide (0 ≤ n ∧ n < (s.H.length : Int))
def isW (w : Int) : Bool := decide (0 ≤ w ∧ w < 8)
def at' (s : RS) (n : Int) : Hd := s.H[n.toNat]!
def ownerV (s : RS) (n : Int) : Int × Bool := if isN s n && decide (0 ≤ (at' s n).o) then ((at' s n).o, true) else (0, false)
def holdV (s : RS) (n : Int) : Hd × Bool := if isN s n then (at' s n, true) else (zeroHd, false)
def setH (s : RS) (n : Int) (h : Hd) : RS := ⟨s.K, s.H.set n.toNat h⟩
def giveV (s : RS) (n w : Int) : Int × RS :=
  if isN s n && isW w then (if at' s n = freeH then (0, setH s n ⟨w, 0, -1⟩) else (14, s)) else (6, s)
def takenV (s : RS) (n next : Int) : Int × RS :=
  if at' s n = freeH then (5, s) else if 0 < (at' s n).l then (14, s) else (0, setH s n ⟨-1, timeV s.K[n.toNat]!, next⟩)
def takeV (s : RS) (n : Int) : Int × RS := if isN s n then takenV s n (-1) else (6, s)
def moveV (s : RS) (n w : Int) : Int × RS := if isN s n && isW w then takenV s n w else (6, s)
/-- A hold, one tick later; whether it is done. -/
def tickH (h : Hd) : Hd := if h.l = 0 then h else if h.l = 1 then ⟨h.n, 0, -1⟩ else ⟨h.o, h.l - 1, h.n⟩
def doneH (h : Hd) : Bool := decide (h.l = 1)
def tickV (s : RS) : RS := ⟨s.K, s.H.map tickH⟩
/-- The numbers of those of which p is so, rising, from i on. -/
def numsF (p : Hd → Bool) : Nat → List Hd → List Nat
  | _, [] => []
  | i, h :: t => if p h then i :: numsF p (i + 1) t else numsF p (i + 1) t
def doneV (s : RS) : List Nat := numsF doneH 0 s.H
def ofV (s : RS) (w : Int) : List Nat := numsF (fun h => decide (h.o = w ∧ 0 ≤ w)) 0 s.H
theorem nums_app (p : Hd → Bool) (i : Nat) (l : List Hd) (h : Hd) : numsF p i (l ++ [h]) = numsF p i l ++ (if p h then [i + l.length] else []) := by
  induction l generalizing i with
  | nil => simp [numsF]
  | cons x t ih =>
    have e : i + 1 + t.length = i + (t.length + 1) := by omega
    simp only [List.cons_append, numsF, ih, List.length_cons, e]
    cases p x <;> simp
theorem nums_len (p : Hd → Bool) (i : Nat) (l : List Hd) : (numsF p i l).length ≤ l.length := by
  induction l generalizing i with
  | nil => simp [numsF]
  | cons x t ih =>
    simp only [numsF]
    cases p x
    · simp; have := ih (i + 1); omega
    · simp; have := ih (i + 1); omega
theorem nums_b (p : Hd → Bool) (i : Nat) (l : List Hd) : ∀ x ∈ numsF p i l, i ≤ x ∧ x < i + l.length := by
  induction l generalizing i with
  | nil => simp [numsF]
  | cons y t ih =>
    intro x hx
    simp only [numsF] at hx
    have hr : x ∈ numsF p (i + 1) t → i ≤ x ∧ x < i + (y :: t).length := fun h => by
      have := ih (i + 1) x h
      simp only [List.length_cons]
      omega
    cases hp : p y
    · rw [hp] at hx; exact hr (by simpa using hx)
    · rw [hp] at hx
      rcases List.mem_cons.1 (by simpa using hx) with rfl | h
      · simp only [List.length_cons]; omega
      · exact hr h
theorem ok_tickH {h : Hd} (k : OkH h) : OkH (tickH h) := by
  obtain ⟨h1, h2, h3, h4, h5⟩ := k
  unfold tickH
  split
  · exact ⟨h1, h2, h3, h4, h5⟩
  split
  · exact ⟨by show (0 : Int) ≤ 0 ∧ (0 : Int) ≤ 16; omega, h3, by show (-1 : Int) ≤ -1 ∧ (-1 : Int) < 8; omega, fun _ => rfl, fun _ => rfl⟩
  · refine ⟨by show 0 ≤ h.l - 1 ∧ h.l - 1 ≤ 16; omega, h2, h3, fun e => ?_, fun e => ?_⟩
    · have := h4 e; omega
    · have e : h.l - 1 = 0 := e; omega
theorem ok_tick {s : RS} (h : OkS s) : OkS (tickV s) := by
  refine ⟨by simp [tickV, h.len], by simp [tickV, h.few], h.kin, fun j hj => ?_⟩
  have hj : j < s.H.length := by simpa [tickV] using hj
  show OkH (s.H.map tickH)[j]!
  rw [getElem!_pos _ _ (by simpa using hj), List.getElem_map, ← getElem!_pos s.H j hj]
  exact ok_tickH (h.hol j hj)
theorem get_set {l : List Hd} {i j : Nat} {x : Hd} (hj : j < l.length) : (l.set i x)[j]! = if i = j then x else l[j]! := by
  rw [getElem!_pos _ _ (by simpa using hj), List.getElem_set, ← getElem!_pos l j hj]
theorem ok_set {s : RS} (h : OkS s) (n : Int) {x : Hd} (hx : OkH x) : OkS (setH s n x) := by
  refine ⟨by simp [setH, h.len], by simp [setH, h.few], h.kin, fun j hj => ?_⟩
  have hj : j < s.H.length := by simpa [setH] using hj
  show OkH (s.H.set n.toNat x)[j]!
  rw [get_set hj]
  split
  · exact hx
  · exact h.hol j hj
theorem isN_iff {s : RS} {n : Int} : isN s n = true ↔ 0 ≤ n ∧ n < (s.H.length : Int) := by simp [isN]
theorem isW_iff {w : Int} : isW w = true ↔ 0 ≤ w ∧ w < 8 := by simp [isW]
theorem ok_give {s : RS} (h : OkS s) (n w : Int) : OkS (giveV s n w).2 := by
  unfold giveV
  split
  · rename_i c
    rw [Bool.and_eq_true, isN_iff, isW_iff] at c
    split
    · exact ok_set h n ⟨by show (0 : Int) ≤ 0 ∧ (0 : Int) ≤ 16; omega, by show -1 ≤ w ∧ w < 8; omega, by show (-1 : Int) ≤ -1 ∧ (-1 : Int) < 8; omega, fun _ => rfl, fun _ => rfl⟩
    · exact h
  · exact h
theorem ok_taken {s : RS} (h : OkS s) {n next : Int} (hn : 0 ≤ n ∧ n < (s.H.length : Int)) (hw : -1 ≤ next ∧ next < 8) : OkS (takenV s n next).2 := by
  unfold takenV
  split
  · exact h
  split
  · exact h
  · have ht := time_b (h.kin n.toNat (by rw [h.len]; omega))
    exact ok_set h n ⟨by show 0 ≤ timeV _ ∧ timeV _ ≤ 16; omega, by show (-1 : Int) ≤ -1 ∧ (-1 : Int) < 8; omega, hw, fun e => absurd e (by show ¬ (0 : Int) ≤ -1; omega), fun e => by have e : timeV _ = 0 := e; omega⟩
theorem ok_take {s : RS} (h : OkS s) (n : Int) : OkS (takeV s n).2 := by
  unfold takeV
  split
  · rename_i c
    exact ok_taken h (isN_iff.1 c) (by omega)
  · exact h
theorem ok_move {s : RS} (h : OkS s) (n w : Int) : OkS (moveV s n w).2 := by
  unfold moveV
  split
  · rename_i c
    rw [Bool.and_eq_true, isN_iff, isW_iff] at c
    exact ok_taken h c.1 (by omega)
  · exact h
theorem len_give (s : RS) (n w : Int) : (giveV s n w).2.H.length = s.H.length := by
  unfold giveV setH; split
  · split <;> simp
  · rfl
theorem len_taken (s : RS) (n w : Int) : (takenV s n w).2.H.length = s.H.length := by
  unfold takenV setH; split
  · rfl
  split
  · rfl
  · simp
theorem len_take (s : RS) (n : Int) : (takeV s n).2.H.length = s.H.length := by
  unfold takeV; split
  · exact len_taken s n _
  · rfl
theorem len_move (s : RS) (n w : Int) : (moveV s n w).2.H.length = s.H.length := by
  unfold moveV; split
  · exact len_taken s n _
  · rfl
theorem ok_new {l : List Win.Dv} (h : Win.rowB l = true) : OkS (newS l) := by
  have hp := Win.rowB_iff.1 h
  refine ⟨by simp [newS], by simp [newS]; exact hp.1, fun j hj => ?_, fun j hj => ?_⟩
  · have hj : j < l.length := by simpa [newS] using hj
    have hr := (hp.2 j hj).1
    obtain ⟨h1, -⟩ := Win.dev_parts hr
    show 1 ≤ (l.map (·.k))[j]! ∧ (l.map (·.k))[j]! ≤ 6
    rw [getElem!_pos _ _ (by simpa using hj), List.getElem_map, ← getElem!_pos l j hj]
    exact h1
  · have hj : j < l.length := by simpa [newS] using hj
    have hr := (hp.2 j hj).1
    obtain ⟨_, _, _, _, _, h6, -⟩ := Win.dev_parts hr
    show OkH (l.map fun d => (⟨d.O, 0, -1⟩ : Hd))[j]!
    rw [getElem!_pos _ _ (by simpa using hj), List.getElem_map, ← getElem!_pos l j hj]
    exact ⟨by show (0 : Int) ≤ 0 ∧ (0 : Int) ≤ 16; omega, h6, by show (-1 : Int) ≤ -1 ∧ (-1 : Int) < 8; omega, fun _ => rfl, fun _ => rfl⟩
theorem okHd_of {h : Hd} (k : OkH h) : okHd h := by
  obtain ⟨h1, h2, h3, _⟩ := k
  exact ⟨by omega, by omega, by omega⟩
end Go.Proofs.YtmdepkehpohgeaaGreat.Scr
