/- Plain: one world an address; what Set and Clear tell is right, and whose map stays. -/
import Derived.Test.YtmkponhhinjpkaaGreatTa
namespace Go.Proofs.YtmkponhhinjpkaaGreat.Table
set_option linter.unusedVariables false

theorem one_world {l : List Rg} (hl : tabP l) {i k : Nat} (hi : i < l.length) (hk : k < l.length) {p : Int} (oi : l[i]!.o = true) (ok : l[k]!.o = true)
    (h1 : Reach.hasB l[i]!.F l[i]!.T p = true) (h2 : Reach.hasB l[k]!.F l[k]!.T p = true) : l[i]!.W = l[k]!.W := by
  have c := tab_apart hl hi hk
  have s1 : Region.standB l[i]!.o l[i]!.W l[i]!.F l[i]!.T l[i]!.K = true := right_on (hl.2 i hi).1 oi
  have s2 : Region.standB l[k]!.o l[k]!.W l[k]!.F l[k]!.T l[k]!.K = true := right_on (hl.2 k hk).1 ok
  unfold clash Region.clashV at c
  unfold Reach.hasB at h1 h2
  rw [decide_eq_true_eq] at h1 h2
  have hm : Reach.meetB l[i]!.F l[i]!.T l[k]!.F l[k]!.T = true := by unfold Reach.meetB; rw [decide_eq_true_eq]; omega
  rw [s1, s2, hm] at c
  simpa using c

/-- Does r clash with one of l, but the one of that number? -/
def clB (l : List Rg) (r : Rg) (n : Int) : Bool := (List.range l.length).any fun k => decide ((k : Int) ≠ n) && clash r l[k]!
theorem clB_false {l : List Rg} {r : Rg} {n : Int} (h : clB l r n = false) {k : Nat} (hk : k < l.length) (hn : (k : Int) ≠ n) : clash r l[k]! = false := by
  unfold clB at h
  rw [List.any_eq_false] at h
  have := h k (by simpa using hk)
  simpa [hn] using this
theorem clB_no {l : List Rg} {r : Rg} {n : Int} (h : ∀ k, k < l.length → (k : Int) ≠ n → clash r l[k]! = false) : clB l r n = false := by
  unfold clB
  rw [List.any_eq_false]
  intro k hk
  by_cases e : (k : Int) = n
  · simp [e]
  · rw [h k (by simpa using hk) e]; simp
theorem clB_yes {l : List Rg} {r : Rg} {n : Int} {k : Nat} (hk : k < l.length) (hn : (k : Int) ≠ n) (h : clash r l[k]! = true) : clB l r n = true := by
  unfold clB
  rw [List.any_eq_true]
  exact ⟨k, by simpa using hk, by rw [h]; simp [hn]⟩
theorem tab_no_right {l : List Rg} {i : Nat} (hi : i < l.length) (h : l[i]!.right = false) : tabB l = false := by
  cases e : tabB l with
  | false => rfl
  | true => have := ((tabB_iff.1 e).2 i hi).1; rw [h] at this; cases this
theorem tab_no_clash {l : List Rg} {i k : Nat} (hi : i < l.length) (hk : k < i) (h : clash l[i]! l[k]! = true) : tabB l = false := by
  cases e : tabB l with
  | false => rfl
  | true => have := ((tabB_iff.1 e).2 i hi).2 k hk; rw [h] at this; cases this
theorem tab_no_long {l : List Rg} (h : 32 < l.length) : tabB l = false := by
  cases e : tabB l with
  | false => rfl
  | true => have := (tabB_iff.1 e).1; omega
theorem tab_yes {l : List Rg} (h : l.length ≤ 32) (h2 : ∀ i, i < l.length → l[i]!.right = true ∧ ∀ k, k < i → clash l[i]! l[k]! = false) : tabB l = true := tabB_iff.2 ⟨h, h2⟩
theorem take_get {l : List Rg} {i k : Nat} (hk : k < i) : (l.take i)[k]! = l[k]! := by
  by_cases h : k < l.length
  · rw [getElem!_pos _ k (by simp; omega), getElem!_pos l k h, List.getElem_take]
  · rw [getElem!_neg _ k (by simp; omega), getElem!_neg l k h]

/-- What Set and Clear tell. -/
def lockB (l : List Rg) (n : Int) : Bool := decide (n < l.length) && l[n.toNat]!.lk
def openE (l : List Rg) (n : Int) : Int := if tabB l then (if n < 0 ∨ 32 ≤ n then 6 else if lockB l n then 15 else 0) else 4
def setL (l : List Rg) (n : Nat) (r : Rg) : List Rg := (l ++ List.replicate (n + 1 - l.length) zero).set n r
def clrL (l : List Rg) (n : Nat) : List Rg := l.set n zero
def setE (l : List Rg) (n : Int) (r : Rg) : Int := if openE l n = 0 then (if r.o && r.right then (if clB l r n then 13 else 0) else 4) else openE l n

theorem open_ok {l : List Rg} {n : Int} (h : openE l n = 0) : tabP l ∧ 0 ≤ n ∧ n < 32 ∧ lockB l n = false := by
  unfold openE at h
  split at h
  · rename_i ht
    split at h
    · cases h
    · rename_i hn
      split at h
      · cases h
      · rename_i hk
        exact ⟨tabB_iff.1 ht, by omega, by omega, by simpa using hk⟩
  · cases h
theorem set_ok {l : List Rg} {n : Int} {r : Rg} (h : setE l n r = 0) : openE l n = 0 ∧ r.stand = true ∧ clB l r n = false := by
  unfold setE at h
  split at h
  · rename_i ho
    split at h
    · rename_i hr
      split at h
      · cases h
      · rename_i hc
        simp only [Bool.and_eq_true] at hr
        exact ⟨ho, right_on hr.2 hr.1, by simpa using hc⟩
    · cases h
  · rename_i ho
    exact absurd h ho
theorem setL_length (l : List Rg) (n : Nat) (r : Rg) : (setL l n r).length = max l.length (n + 1) := by
  unfold setL
  simp
  omega
theorem get_pad (l : List Rg) (m i : Nat) : (l ++ List.replicate m zero)[i]! = l[i]! := by
  by_cases h : i < l.length
  · rw [getElem!_pos _ i (by simp; omega), getElem!_pos l i h, List.getElem_append_left h]
  · rw [getElem!_neg l i h]
    by_cases h2 : i < (l ++ List.replicate m zero).length
    · rw [getElem!_pos _ i h2, List.getElem_append_right (by omega), List.getElem_replicate]
      rfl
    · rw [getElem!_neg _ i h2]
theorem get_set (l : List Rg) (n i : Nat) (r : Rg) (h : n < l.length) : (l.set n r)[i]! = if i = n then r else l[i]! := by
  by_cases e : i = n
  · subst e
    rw [if_pos rfl, getElem!_pos _ i (by simpa using h), List.getElem_set_self]
  · rw [if_neg e]
    by_cases hi : i < l.length
    · rw [getElem!_pos _ i (by simpa using hi), getElem!_pos l i hi, List.getElem_set_ne (by omega)]
    · rw [getElem!_neg _ i (by simpa using hi), getElem!_neg l i hi]
theorem setL_get (l : List Rg) (n i : Nat) (r : Rg) : (setL l n r)[i]! = if i = n then r else l[i]! := by
  unfold setL
  rw [get_set _ _ _ _ (by simp; omega), get_pad]
theorem clrL_get (l : List Rg) (n i : Nat) : (clrL l n)[i]! = if i = n then zero else l[i]! := by
  unfold clrL
  by_cases h : n < l.length
  · exact get_set _ _ _ _ h
  · rw [List.set_eq_of_length_le (by omega)]
    split
    · rename_i e; subst e; rw [getElem!_neg l i h]; rfl
    · rfl
theorem get_out {l : List Rg} {i : Nat} (h : l.length ≤ i) : l[i]! = zero := by rw [getElem!_neg l i (by omega)]; rfl
theorem setL_tab {l : List Rg} {n : Nat} {r : Rg} (hl : tabP l) (hn : n < 32) (hr : r.stand = true) (hc : clB l r n = false) : tabP (setL l n r) := by
  have hrk : ∀ k : Nat, k ≠ n → clash r l[k]! = false := by
    intro k hk
    by_cases h : k < l.length
    · exact clB_false hc h (by omega)
    · rw [get_out (by omega)]; exact clash_zero r
  refine ⟨by rw [setL_length]; have := hl.1; omega, fun i hi => ⟨?_, fun k hk => ?_⟩⟩
  · rw [setL_get]
    split
    · exact stand_right hr
    · by_cases h : i < l.length
      · exact (hl.2 i h).1
      · rw [get_out (by omega)]; rfl
  · rw [setL_get, setL_get]
    split
    · rename_i e
      rw [if_neg (by omega)]
      exact hrk k (by omega)
    · rename_i e
      split
      · rw [clash_comm]; exact hrk i e
      · by_cases h : i < l.length
        · exact (hl.2 i h).2 k hk
        · rw [get_out (i := i) (by omega), clash_comm]; exact clash_zero _
theorem clrL_tab {l : List Rg} {n : Nat} (hl : tabP l) : tabP (clrL l n) := by
  refine ⟨by unfold clrL; simpa using hl.1, fun i hi => ⟨?_, fun k hk => ?_⟩⟩
  · rw [clrL_get]
    split
    · rfl
    · exact (hl.2 i (by unfold clrL at hi; simpa using hi)).1
  · have hi' : i < l.length := by unfold clrL at hi; simpa using hi
    rw [clrL_get, clrL_get]
    split
    · rw [clash_comm]; exact clash_zero _
    · split
      · exact clash_zero _
      · exact (hl.2 i hi').2 k hk

theorem filter_set (p : Rg → Bool) : ∀ (l : List Rg) (n : Nat) (r : Rg), p r = false → (n < l.length → p l[n]! = false) → (l.set n r).filter p = l.filter p
  | [], _, _, _, _ => rfl
  | g :: l, 0, r, hr, hl => by
    have : p g = false := hl (by simp)
    simp [List.set, hr, this]
  | g :: l, n + 1, r, hr, hl => by
    have ih := filter_set p l n r hr (fun h => by
      have := hl (by simp; omega)
      simpa using this)
    rw [List.set_cons_succ, List.filter_cons, List.filter_cons, ih]
theorem filter_pad (p : Rg → Bool) (l : List Rg) (m : Nat) (h : p zero = false) : (l ++ List.replicate m zero).filter p = l.filter p := by
  rw [List.filter_append]
  have : (List.replicate m zero).filter p = [] := by
    rw [List.filter_eq_nil_iff]
    intro g hg
    rw [List.eq_of_mem_replicate hg, h]
    simp
  rw [this, List.append_nil]
theorem rmap_of_filter {l m : List Rg} {w : Int} (h : ∀ p : Rg → Bool, (∀ g, p g = true → g.o = true ∧ g.W = w) → l.filter p = m.filter p) : rmap l w = rmap m w := by
  unfold rmap rmapTo
  congr 1
  funext r
  unfold ofRank
  refine h _ fun g hg => ?_
  simp only [Bool.and_eq_true, decide_eq_true_eq] at hg
  exact hg.1
theorem not_of {p : Rg → Bool} {w : Int} {g : Rg} (hp : ∀ g, p g = true → g.o = true ∧ g.W = w) (h : ¬ (g.o = true ∧ g.W = w)) : p g = false := by
  cases e : p g with
  | false => rfl
  | true => exact absurd (hp g e) h
theorem zero_not (w : Int) : ¬ (zero.o = true ∧ zero.W = w) := fun h => by cases h.1
/-- Of a world that neither had the region nor has it the map stays. -/
theorem rmap_set {l : List Rg} {n : Nat} {r : Rg} {w : Int} (hr : ¬ (r.o = true ∧ r.W = w)) (ho : ¬ (l[n]!.o = true ∧ l[n]!.W = w)) : rmap (setL l n r) w = rmap l w := by
  refine rmap_of_filter fun p hp => ?_
  unfold setL
  rw [filter_set p _ _ _ (not_of hp hr) (fun _ => by rw [get_pad]; exact not_of hp ho), filter_pad p _ _ (not_of hp (zero_not w))]
theorem rmap_clr {l : List Rg} {n : Nat} {w : Int} (ho : ¬ (l[n]!.o = true ∧ l[n]!.W = w)) : rmap (clrL l n) w = rmap l w := by
  refine rmap_of_filter fun p hp => ?_
  unfold clrL
  exact filter_set p _ _ _ (not_of hp (zero_not w)) (fun _ => not_of hp ho)
theorem clr_set (l : List Rg) (n : Nat) (r : Rg) : clrL (setL l n r) n = (l ++ List.replicate (n + 1 - l.length) zero).set n zero := by
  unfold clrL setL
  rw [List.set_set]
/-- What was set is cleared. -/
theorem rmap_clr_set (l : List Rg) (n : Nat) (r : Rg) (w : Int) : rmap (clrL (setL l n r) n) w = rmap (clrL l n) w := by
  rw [clr_set]
  by_cases h : n < l.length
  · refine rmap_of_filter fun p hp => ?_
    unfold clrL
    rw [List.set_append_left _ _ h, filter_pad p _ _ (not_of hp (zero_not w))]
  · refine rmap_of_filter fun p hp => ?_
    unfold clrL
    rw [List.set_eq_of_length_le (l := l) (by omega), filter_set p _ _ _ (not_of hp (zero_not w)) (fun _ => by rw [get_pad, get_out (by omega)]; exact not_of hp (zero_not w)), filter_pad p _ _ (not_of hp (zero_not w))]
end Go.Proofs.YtmkponhhinjpkaaGreat.Table
