/- Plain: all devices are some world's or nobody's, each once; what Move and Tick leave. -/
import Derived.Test.YtmdepkehpohgeaaS6a
namespace Go.Proofs.Ytmdepkehpohgeaa.Scr
set_option linter.unusedVariables false

theorem nums_mem (p : Hd → Bool) (i : Nat) (l : List Hd) : ∀ x ∈ numsF p i l, p l[x - i]! = true := by
  induction l generalizing i with
  | nil => simp [numsF]
  | cons y t ih =>
    intro x hx
    simp only [numsF] at hx
    have hr : x ∈ numsF p (i + 1) t → p (y :: t)[x - i]! = true := fun h => by
      have h1 := ih (i + 1) x h
      have h2 := nums_b p (i + 1) t x h
      rw [show x - i = (x - (i + 1)) + 1 by omega]
      simpa using h1
    cases hp : p y
    · rw [hp] at hx; exact hr (by simpa using hx)
    · rw [hp] at hx
      rcases List.mem_cons.1 (by simpa using hx) with rfl | h
      · rw [Nat.sub_self]; simpa using hp
      · exact hr h
theorem nums_up (p : Hd → Bool) (i : Nat) (l : List Hd) : List.Pairwise (· < ·) (numsF p i l) := by
  induction l generalizing i with
  | nil => simp [numsF]
  | cons y t ih =>
    simp only [numsF]
    cases hp : p y
    · simpa using ih (i + 1)
    · rw [if_pos rfl]
      refine List.pairwise_cons.2 ⟨fun x hx => ?_, ih (i + 1)⟩
      have := nums_b p (i + 1) t x hx
      omega
theorem nums_cnt (p : Hd → Bool) (i : Nat) (l : List Hd) : (numsF p i l).length = l.countP p := by
  induction l generalizing i with
  | nil => rfl
  | cons y t ih =>
    simp only [numsF, List.countP_cons]
    cases hp : p y
    · rw [if_neg (by simp), ih, if_neg (by simp)]; omega
    · rw [if_pos rfl, List.length_cons, ih, if_pos rfl]
/-- How many are one of the first v worlds'. -/
def sumL (H : List Hd) : Nat → Nat
  | 0 => 0
  | v + 1 => sumL H v + H.countP (fun h => decide (h.o = ((v : Nat) : Int) ∧ 0 ≤ ((v : Nat) : Int)))
theorem sum_cons (h : Hd) (t : List Hd) (v : Nat) : sumL (h :: t) v = sumL t v + (if 0 ≤ h.o ∧ h.o < (v : Nat) then 1 else 0) := by
  induction v with
  | zero =>
    rw [if_neg (by omega)]; rfl
  | succ v ih =>
    show sumL (h :: t) v + (h :: t).countP _ = sumL t v + t.countP _ + _
    rw [ih, List.countP_cons]
    simp only [decide_eq_true_eq]
    split <;> split <;> split <;> omega
def negH (h : Hd) : Bool := decide (h.o < 0)
theorem sum_all (H : List Hd) (k : ∀ h ∈ H, h.o < 8) : sumL H 8 + H.countP negH = H.length := by
  induction H with
  | nil => rfl
  | cons h t ih =>
    rw [sum_cons, List.countP_cons, List.length_cons, ← ih (fun x hx => k x (List.mem_cons_of_mem _ hx))]
    have hk := k h List.mem_cons_self
    by_cases h1 : h.o < 0
    · rw [if_neg (by omega), if_pos (by simp [negH, h1])]; omega
    · rw [if_pos (by omega), if_neg (by simp [negH, h1])]; omega
theorem mem_get {l : List Hd} {h : Hd} (hm : h ∈ l) : ∃ j, j < l.length ∧ l[j]! = h := by
  obtain ⟨j, hj, e⟩ := List.getElem_of_mem hm
  exact ⟨j, hj, by rw [getElem!_pos l j hj]; exact e⟩
theorem seen_all {s : RS} (h : OkS s) : sumL s.H 8 + s.H.countP negH = s.H.length := by
  refine sum_all s.H (fun x hx => ?_)
  obtain ⟨j, hj, rfl⟩ := mem_get hx
  have := (h.hol j hj).2.1
  omega
theorem sum_step (s : RS) (v : Nat) : sumL s.H (v + 1) = sumL s.H v + (ofV s (v : Nat)).length := by
  show sumL s.H v + s.H.countP _ = _
  unfold ofV
  rw [nums_cnt]
theorem sum_le (H : List Hd) (v : Nat) : sumL H v ≤ H.length := by
  induction H with
  | nil =>
    induction v with
    | zero => exact Nat.le_refl _
    | succ v ih => show sumL [] v + 0 ≤ _; exact ih
  | cons h t ih =>
    rw [sum_cons, List.length_cons]
    split <;> omega
theorem neg_step (H : List Hd) (i : Nat) (hi : i < H.length) : (H.take (i + 1)).countP negH = (H.take i).countP negH + (if H[i]!.o < 0 then 1 else 0) := by
  rw [List.take_succ_eq_append_getElem hi, List.countP_append, List.countP_cons, List.countP_nil, ← getElem!_pos H i hi]
  unfold negH
  simp only [decide_eq_true_eq]
  omega
theorem neg_le (H : List Hd) (i : Nat) : (H.take i).countP negH ≤ i := Nat.le_trans List.countP_le_length (by rw [List.length_take]; omega)
/-- What is told of a world is that world's. -/
theorem of_owner {s : RS} (w : Nat) {i : Nat} (hi : i < (ofV s (w : Nat)).length) : ownerV s (((ofV s (w : Nat))[i]! : Nat) : Int) = (((w : Nat) : Int), true) := by
  have hm : (ofV s (w : Nat))[i]! ∈ ofV s (w : Nat) := by rw [getElem!_pos _ i hi]; exact List.getElem_mem hi
  have h1 := nums_b _ 0 _ _ hm
  have h2 := nums_mem _ 0 _ _ hm
  generalize (ofV s (w : Nat))[i]! = x at h1 h2
  rw [Nat.sub_zero] at h2
  simp only [decide_eq_true_eq] at h2
  unfold ownerV at'
  rw [Int.toNat_natCast, h2.1, isN_iff.2 ⟨by omega, by omega⟩, decide_eq_true (by omega : (0 : Int) ≤ (w : Nat))]
  rfl
theorem of_up {s : RS} (w : Int) {i : Nat} (hi : i + 1 < (ofV s w).length) : (ofV s w)[i]! < (ofV s w)[i + 1]! := by
  have h := List.pairwise_iff_getElem.1 (nums_up (fun h => decide (h.o = w ∧ 0 ≤ w)) 0 s.H) i (i + 1) (by show i < (ofV s w).length; omega) hi (by omega)
  rw [getElem!_pos _ i (by omega), getElem!_pos _ (i + 1) hi]
  exact h
theorem of_few {s : RS} (h : OkS s) (w : Int) : (ofV s w).length ≤ 16 := Nat.le_trans (nums_len _ _ _) h.few
/-- What is not named stays. -/
theorem move_other (s : RS) (n x : Int) (i : Nat) (hi : i < s.H.length) (hn : ¬ (i : Int) = n) : (moveV s n x).2.H[i]! = s.H[i]! := by
  unfold moveV
  split
  · rename_i c
    rw [Bool.and_eq_true, isN_iff] at c
    unfold takenV
    split
    · rfl
    split
    · rfl
    · show (s.H.set n.toNat _)[i]! = _
      rw [get_set hi, if_neg (by omega)]
  · rfl
theorem done_in {s : RS} {j : Nat} (hj : j < (doneV s).length) : (doneV s)[j]! < s.H.length ∧ s.H[(doneV s)[j]!]!.l = 1 ∧ (tickV s).H[(doneV s)[j]!]! = ⟨s.H[(doneV s)[j]!]!.n, 0, -1⟩ := by
  have hm : (doneV s)[j]! ∈ doneV s := by rw [getElem!_pos _ j hj]; exact List.getElem_mem hj
  have h1 := nums_b _ 0 _ _ hm
  have h2 := nums_mem _ 0 _ _ hm
  generalize (doneV s)[j]! = x at h1 h2
  rw [Nat.sub_zero] at h2
  have hx : x < s.H.length := by omega
  have h3 : s.H[x]!.l = 1 := by simpa [doneH] using h2
  refine ⟨hx, h3, ?_⟩
  show (s.H.map tickH)[x]! = _
  rw [getElem!_pos _ _ (by simpa using hx), List.getElem_map, ← getElem!_pos s.H x hx]
  unfold tickH
  rw [if_neg (by omega), if_pos h3]
end Go.Proofs.Ytmdepkehpohgeaa.Scr
