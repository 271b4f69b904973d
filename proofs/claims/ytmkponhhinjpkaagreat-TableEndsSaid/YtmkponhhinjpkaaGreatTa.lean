/- Plain: regions, accesses, right tables, which region decides, each world's map; a sorted row of numbered regions is the map. -/
import Derived.Test.YtmkponhhinjpkaaGreatRe
namespace Go.Proofs.YtmkponhhinjpkaaGreat.Table
set_option linter.unusedVariables false

/-- A region. -/
structure Rg where
  o : Bool
  W : Int
  F : Int
  T : Int
  rd : Bool
  wr : Bool
  K : Int
  lk : Bool
def zero : Rg := ⟨false, 0, 0, 0, false, false, 0, false⟩
instance : Inhabited Rg := ⟨zero⟩
theorem Rg.ext8 {g h : Rg} (h0 : g.o = h.o) (h1 : g.W = h.W) (h2 : g.F = h.F) (h3 : g.T = h.T) (h4 : g.rd = h.rd) (h5 : g.wr = h.wr) (h6 : g.K = h.K) (h7 : g.lk = h.lk) : g = h := by
  cases g; cases h; simp at *; exact ⟨h0, h1, h2, h3, h4, h5, h6, h7⟩
instance : DecidableEq Rg := fun g h =>
  if e : (g.o = h.o ∧ g.W = h.W ∧ g.F = h.F ∧ g.T = h.T ∧ g.rd = h.rd ∧ g.wr = h.wr ∧ g.K = h.K ∧ g.lk = h.lk) then
    .isTrue (Rg.ext8 e.1 e.2.1 e.2.2.1 e.2.2.2.1 e.2.2.2.2.1 e.2.2.2.2.2.1 e.2.2.2.2.2.2.1 e.2.2.2.2.2.2.2)
  else .isFalse (fun x => e (by subst x; exact ⟨rfl, rfl, rfl, rfl, rfl, rfl, rfl, rfl⟩))
/-- An access. -/
structure Ac where
  W : Int
  wr : Bool
  A : Int
  S : Int
  D : Int
def Rg.stand (g : Rg) : Bool := Region.standB g.o g.W g.F g.T g.K
def Rg.right (g : Rg) : Bool := Region.regB g.o g.W g.F g.T g.rd g.wr g.K g.lk
def Rg.has (g : Rg) (a : Ac) : Bool := Region.hasV g.o g.W g.F g.T g.K a.W a.wr a.A a.S a.D
def Rg.lets (g : Rg) (a : Ac) : Bool := Region.letsV g.o g.W g.F g.T g.rd g.wr g.K a.W a.wr a.A a.S a.D
def clash (g h : Rg) : Bool := Region.clashV g.o g.W g.F g.T g.K h.o h.W h.F h.T h.K
def above (g h : Rg) : Bool := Region.aboveV g.o g.W g.F g.T g.K h.o h.W h.F h.T h.K

theorem has_stand {g : Rg} {a : Ac} (h : g.has a = true) : g.stand = true ∧ a.W = g.W := by
  unfold Rg.has Region.hasV at h
  simp only [Bool.and_eq_true, decide_eq_true_eq] at h
  exact ⟨h.1.1.2, h.1.2⟩
theorem stand_parts {g : Rg} (h : g.stand = true) : g.o = true ∧ 0 ≤ g.W ∧ g.W < 8 ∧ g.F ≤ g.T ∧ 0 ≤ g.K ∧ g.K ≤ 255 := by
  unfold Rg.stand Region.standB Access.wdB Reach.rightB Region.rankB at h
  simp only [Bool.and_eq_true, decide_eq_true_eq] at h
  exact ⟨h.1.1.1, h.1.1.2.1, h.1.1.2.2, h.1.2, h.2.1, h.2.2⟩
theorem right_on {g : Rg} (h : g.right = true) (ho : g.o = true) : g.stand = true := by
  obtain ⟨o, W, F, T, rd, wr, K, lk⟩ := g
  simp only at ho
  subst ho
  exact h
theorem right_off {g : Rg} (h : g.right = true) (ho : g.o = false) : g = zero := by
  obtain ⟨o, W, F, T, rd, wr, K, lk⟩ := g
  simp only at ho
  subst ho
  simp [Rg.right, Region.regB, Region.zeroB, Region.standB] at h
  obtain ⟨⟨⟨⟨⟨⟨rfl, rfl⟩, rfl⟩, rfl⟩, rfl⟩, rfl⟩, rfl⟩ := h
  rfl
theorem zero_right : zero.right = true := rfl
theorem stand_right {g : Rg} (h : g.stand = true) : g.right = true := by
  unfold Rg.right Region.regB
  rw [show Region.standB g.o g.W g.F g.T g.K = true from h, Bool.or_true]
theorem clash_comm (g h : Rg) : clash g h = clash h g := by
  unfold clash Region.clashV Reach.meetB
  have e : decide (max g.F h.F ≤ min g.T h.T) = decide (max h.F g.F ≤ min h.T g.T) := by
    rw [decide_eq_decide]; omega
  have e2 : decide (g.W ≠ h.W) = decide (h.W ≠ g.W) := by rw [decide_eq_decide]; exact ne_comm
  rw [e, e2, Bool.and_comm (Region.standB g.o g.W g.F g.T g.K)]
theorem clash_same {g h : Rg} (e : g.W = h.W) : clash g h = false := by
  unfold clash Region.clashV
  simp [e]
theorem clash_zero (g : Rg) : clash g zero = false := by
  unfold clash Region.clashV zero Region.standB
  simp
theorem clash_self (g : Rg) : clash g g = false := clash_same rfl
theorem has_zero (a : Ac) : zero.has a = false := by
  unfold Rg.has Region.hasV zero Region.standB
  simp

/-- A right table. -/
def tabP (l : List Rg) : Prop := l.length ≤ 32 ∧ ∀ i, i < l.length → l[i]!.right = true ∧ ∀ k, k < i → clash l[i]! l[k]! = false
def tabB (l : List Rg) : Bool := decide (l.length ≤ 32) && (List.range l.length).all fun i => l[i]!.right && (List.range i).all fun k => !clash l[i]! l[k]!
theorem tabB_iff {l : List Rg} : tabB l = true ↔ tabP l := by
  unfold tabB tabP
  simp only [Bool.and_eq_true, decide_eq_true_eq, List.all_eq_true, List.mem_range, Bool.not_eq_true']
theorem tab_apart {l : List Rg} (h : tabP l) {i k : Nat} (hi : i < l.length) (hk : k < l.length) : clash l[i]! l[k]! = false := by
  rcases Nat.lt_trichotomy i k with e | e | e
  · rw [clash_comm]; exact (h.2 k hk).2 i e
  · subst e; exact clash_self _
  · exact (h.2 i hi).2 k e

/-- Does region k take the place of what decided of those ahead? -/
def better (l : List Rg) (a : Ac) (k : Nat) : Option Nat → Bool
  | none => l[k]!.has a
  | some b => l[k]!.has a && decide (l[b]!.K < l[k]!.K)
/-- Which of the first k decides. -/
def decTo (l : List Rg) (a : Ac) : Nat → Option Nat
  | 0 => none
  | k + 1 => if better l a k (decTo l a k) then some k else decTo l a k
theorem dec_yes {l : List Rg} {a : Ac} {k : Nat} (h : better l a k (decTo l a k) = true) : decTo l a (k + 1) = some k := by
  show (if better l a k (decTo l a k) then some k else decTo l a k) = _
  rw [if_pos h]
theorem dec_no {l : List Rg} {a : Ac} {k : Nat} (h : better l a k (decTo l a k) = false) : decTo l a (k + 1) = decTo l a k := by
  show (if better l a k (decTo l a k) then some k else decTo l a k) = _
  rw [if_neg (by simp [h])]
def dec (l : List Rg) (a : Ac) : Option Nat := if tabB l then decTo l a l.length else none
def letsO (l : List Rg) (a : Ac) : Option Nat → Bool
  | none => false
  | some b => l[b]!.lets a
def may (l : List Rg) (a : Ac) : Bool := letsO l a (dec l a)
def among (m : List Rg) (a : Ac) : Bool := match m.find? (·.has a) with | none => false | some g => g.lets a

theorem dec_none {l : List Rg} {a : Ac} : ∀ {k : Nat}, decTo l a k = none → ∀ i, i < k → l[i]!.has a = false
  | 0, _, i, hi => by omega
  | k + 1, h, i, hi => by
    cases hc : better l a k (decTo l a k) with
    | true => rw [dec_yes hc] at h; cases h
    | false =>
      rw [dec_no hc] at h
      by_cases e : i = k
      · subst e
        rw [h] at hc
        exact hc
      · exact dec_none h i (by omega)
theorem dec_some {l : List Rg} {a : Ac} : ∀ {k b : Nat}, decTo l a k = some b → b < k ∧ l[b]!.has a = true ∧ ∀ i, i < k → l[i]!.has a = true → l[i]!.K ≤ l[b]!.K ∧ (i < b → l[i]!.K < l[b]!.K)
  | 0, _, h => by cases h
  | k + 1, b, h => by
    cases hc : better l a k (decTo l a k) with
    | true =>
      rw [dec_yes hc] at h
      cases h
      cases hd : decTo l a k with
      | none =>
        rw [hd] at hc
        refine ⟨Nat.lt_succ_self k, hc, fun i hi hh => ?_⟩
        by_cases e : i = k
        · subst e; exact ⟨Int.le_refl _, fun h => by omega⟩
        · rw [dec_none hd i (by omega)] at hh; cases hh
      | some c =>
        rw [hd] at hc
        simp only [better, Bool.and_eq_true, decide_eq_true_eq] at hc
        obtain ⟨hc1, hc2, hc3⟩ := dec_some hd
        refine ⟨Nat.lt_succ_self k, hc.1, fun i hi hh => ?_⟩
        by_cases e : i = k
        · subst e; exact ⟨Int.le_refl _, fun h => by omega⟩
        · have := hc3 i (by omega) hh
          exact ⟨by omega, fun _ => by omega⟩
    | false =>
      rw [dec_no hc] at h
      obtain ⟨hc1, hc2, hc3⟩ := dec_some h
      refine ⟨by omega, hc2, fun i hi hh => ?_⟩
      by_cases e : i = k
      · subst e
        rw [h] at hc
        simp only [better, hh, Bool.true_and, decide_eq_false_iff_not] at hc
        exact ⟨by omega, fun h => by omega⟩
      · exact hc3 i (by omega) hh

/-- A world's regions with their numbers. -/
def nums (l : List Rg) (w : Int) : List (Rg × Nat) := l.zipIdx.filter fun x => x.1.o && decide (x.1.W = w)
/-- x decides ahead of y. -/
def ahead (x y : Rg × Nat) : Prop := y.1.K < x.1.K ∨ x.1.K = y.1.K ∧ x.2 < y.2
instance (x y : Rg × Nat) : Decidable (ahead x y) := by unfold ahead; infer_instance
def ofRank (l : List Rg) (w K : Int) : List Rg := l.filter fun g => g.o && decide (g.W = w) && decide (g.K = K)
/-- The map's first: of the ranks from 255 on, j of them. -/
def rmapTo (l : List Rg) (w : Int) (j : Nat) : List Rg := (List.range j).flatMap fun (r : Nat) => ofRank l w (255 - (r : Int))
def rmap (l : List Rg) (w : Int) : List Rg := rmapTo l w 256
def mapL (l : List Rg) (w : Int) : List Rg := if tabB l then rmap l w else []
def rnums (l : List Rg) (w : Int) : List (Rg × Nat) := (List.range 256).flatMap fun (r : Nat) => (nums l w).filter fun x => decide (x.1.K = 255 - (r : Int))

theorem mem_nums {l : List Rg} {w : Int} {x : Rg × Nat} : x ∈ nums l w ↔ x.2 < l.length ∧ l[x.2]! = x.1 ∧ x.1.o = true ∧ x.1.W = w := by
  unfold nums
  rw [List.mem_filter, List.mem_zipIdx_iff_getElem?]
  simp only [Bool.and_eq_true, decide_eq_true_eq]
  constructor
  · rintro ⟨h1, h2, h3⟩
    obtain ⟨hl, he⟩ := List.getElem?_eq_some_iff.1 h1
    exact ⟨hl, by rw [getElem!_pos l x.2 hl]; exact he, h2, h3⟩
  · rintro ⟨h1, h2, h3, h4⟩
    refine ⟨?_, h3, h4⟩
    rw [List.getElem?_eq_getElem h1, ← h2, getElem!_pos l x.2 h1]
theorem nums_fst (l : List Rg) (w : Int) : (nums l w).map Prod.fst = l.filter fun g => g.o && decide (g.W = w) := by
  unfold nums
  rw [show (fun x : Rg × Nat => x.1.o && decide (x.1.W = w)) = (fun g : Rg => g.o && decide (g.W = w)) ∘ Prod.fst from rfl, ← List.filter_map, List.zipIdx_map_fst]
theorem nums_length (l : List Rg) (w : Int) : (nums l w).length ≤ l.length := by
  unfold nums
  exact Nat.le_trans (List.length_filter_le _ _) (by simp)
theorem nums_sorted (l : List Rg) (w : Int) : (nums l w).Pairwise fun x y => x.2 < y.2 := by
  unfold nums
  refine List.Pairwise.filter _ ?_
  rw [List.pairwise_iff_getElem]
  intro i j hi hj hij
  simpa using hij
theorem nums_nodup (l : List Rg) (w : Int) : (nums l w).Nodup := (nums_sorted l w).imp fun {a b} h e => by subst e; omega
theorem rnums_fst (l : List Rg) (w : Int) : (rnums l w).map Prod.fst = rmap l w := by
  unfold rnums rmap rmapTo ofRank
  rw [List.map_flatMap]
  congr 1
  funext r
  rw [show (fun x : Rg × Nat => decide (x.1.K = 255 - (r : Int))) = (fun g : Rg => decide (g.K = 255 - (r : Int))) ∘ Prod.fst from rfl, ← List.filter_map, nums_fst, List.filter_filter]
  congr 1
  funext g
  rw [Bool.and_comm]
theorem mem_rnums {l : List Rg} (hl : tabP l) {w : Int} {x : Rg × Nat} : x ∈ rnums l w ↔ x ∈ nums l w := by
  unfold rnums
  rw [List.mem_flatMap]
  simp only [List.mem_range, List.mem_filter, decide_eq_true_eq]
  constructor
  · rintro ⟨r, _, h, _⟩; exact h
  · intro h
    obtain ⟨h1, h2, h3, h4⟩ := mem_nums.1 h
    have hr := (hl.2 _ h1).1
    rw [h2] at hr
    obtain ⟨_, _, _, _, k1, k2⟩ := stand_parts (right_on hr h3)
    exact ⟨(255 - x.1.K).toNat, by omega, h, by omega⟩
theorem rnums_sorted (l : List Rg) (w : Int) : (rnums l w).Pairwise ahead := by
  unfold rnums
  rw [List.pairwise_flatMap]
  constructor
  · intro r _
    rw [List.pairwise_filter]
    refine (nums_sorted l w).imp fun {x y} h h1 h2 => ?_
    simp only [decide_eq_true_eq] at h1 h2
    exact .inr ⟨by omega, h⟩
  · refine List.pairwise_lt_range.imp fun {r s} h x hx y hy => ?_
    simp only [List.mem_filter, decide_eq_true_eq] at hx hy
    exact .inl (by omega)
/-- Two that are in order, and have the same in them, are one. -/
theorem same_of_sorted : ∀ {l m : List (Rg × Nat)}, l.Pairwise ahead → m.Pairwise ahead → (∀ x, x ∈ l ↔ x ∈ m) → l = m
  | [], [], _, _, _ => rfl
  | [], y :: m, _, _, h => by have := (h y).2 (by simp); simp at this
  | x :: l, [], _, _, h => by have := (h x).1 (by simp); simp at this
  | x :: l, y :: m, hl, hm, h => by
    rw [List.pairwise_cons] at hl hm
    have irr : ∀ z : Rg × Nat, ¬ ahead z z := fun z hz => by rcases hz with hz | hz <;> omega
    have e : x = y := by
      rcases List.mem_cons.1 ((h x).1 (by simp)) with e | e
      · exact e
      · rcases List.mem_cons.1 ((h y).2 (by simp)) with e2 | e2
        · exact e2.symm
        · have a1 := hl.1 _ e2
          have a2 := hm.1 _ e
          unfold ahead at a1 a2
          omega
    subst e
    rw [same_of_sorted hl.2 hm.2 fun z => ?_]
    have hz := h z
    simp only [List.mem_cons] at hz
    constructor
    · intro h1
      rcases hz.1 (.inr h1) with e | e
      · subst e; exact absurd (hl.1 _ h1) (irr _)
      · exact e
    · intro h1
      rcases hz.2 (.inr h1) with e | e
      · subst e; exact absurd (hm.1 _ h1) (irr _)
      · exact e
theorem sorted_eq {l : List Rg} (hl : tabP l) {w : Int} {d : List (Rg × Nat)} (hp : d.Perm (nums l w)) (hs : ∀ i j, i < j → j < d.length → ¬ ahead d[j]! d[i]!) : d = rnums l w := by
  have hn : d.Nodup := hp.nodup_iff.2 (nums_nodup l w)
  refine same_of_sorted ?_ (rnums_sorted l w) fun x => by rw [mem_rnums hl]; exact hp.mem_iff
  rw [List.pairwise_iff_getElem]
  intro i j hi hj hij
  have h := hs i j hij hj
  rw [getElem!_pos d i hi, getElem!_pos d j hj] at h
  have m1 := mem_nums.1 (hp.mem_iff.1 (List.getElem_mem hi))
  have m2 := mem_nums.1 (hp.mem_iff.1 (List.getElem_mem hj))
  have hne : d[i] ≠ d[j] := by
    have := List.pairwise_iff_getElem.1 hn i j hi hj hij
    exact this
  have hne2 : d[i].2 ≠ d[j].2 := fun e => hne (Prod.ext (by rw [← m1.2.1, ← m2.2.1, e]) e)
  unfold ahead at h ⊢
  omega
theorem rnums_length {l : List Rg} (hl : tabP l) (w : Int) : (rnums l w).length = (nums l w).length := by
  have h := sorted_eq (d := (nums l w).mergeSort fun x y => !decide (ahead y x)) hl (List.mergeSort_perm _ _) (by
    have := List.pairwise_mergeSort (le := fun x y => !decide (ahead y x)) (by
      intro x y z h1 h2
      simp only [Bool.not_eq_true', decide_eq_false_iff_not] at *
      unfold ahead at *
      omega) (by
      intro x y
      simp only [Bool.or_eq_true, Bool.not_eq_true', decide_eq_false_iff_not]
      unfold ahead
      omega) (nums l w)
    rw [List.pairwise_iff_getElem] at this
    intro i j hij hj
    have h2 := this i j (by omega) hj hij
    rw [getElem!_pos _ i (by omega), getElem!_pos _ j hj]
    simpa using h2)
  rw [← h, List.length_mergeSort]

theorem mem_rmap {l : List Rg} (hl : tabP l) {w : Int} {g : Rg} : g ∈ rmap l w ↔ g ∈ l ∧ g.o = true ∧ g.W = w := by
  rw [← rnums_fst, List.mem_map]
  constructor
  · rintro ⟨x, hx, rfl⟩
    obtain ⟨h1, h2, h3, h4⟩ := mem_nums.1 ((mem_rnums hl).1 hx)
    exact ⟨by rw [← h2, getElem!_pos l x.2 h1]; exact List.getElem_mem h1, h3, h4⟩
  · rintro ⟨h1, h2, h3⟩
    obtain ⟨i, hi, rfl⟩ := List.getElem_of_mem h1
    exact ⟨(l[i], i), (mem_rnums hl).2 (mem_nums.2 ⟨hi, by rw [getElem!_pos l i hi], h2, h3⟩), rfl⟩
theorem rmap_sorted (l : List Rg) (w : Int) : (rmap l w).Pairwise fun g h => h.K ≤ g.K := by
  rw [← rnums_fst, List.pairwise_map]
  exact (rnums_sorted l w).imp fun {x y} h => by unfold ahead at h; omega
theorem rmap_length {l : List Rg} (hl : tabP l) (w : Int) : (rmap l w).length ≤ l.length := by
  have := rnums_length hl w
  have h2 := nums_length l w
  rw [← rnums_fst, List.length_map]
  omega
theorem rmap_tab {l : List Rg} (hl : tabP l) (w : Int) : tabP (rmap l w) := by
  refine ⟨Nat.le_trans (rmap_length hl w) hl.1, fun i hi => ⟨?_, fun k hk => ?_⟩⟩
  · have hm := (mem_rmap hl (w := w)).1 (List.getElem_mem hi)
    rw [getElem!_pos _ i hi]
    obtain ⟨j, hj, he⟩ := List.getElem_of_mem hm.1
    have := (hl.2 j hj).1
    rw [getElem!_pos _ j hj, he] at this
    exact this
  · have h1 := (mem_rmap hl (w := w)).1 (List.getElem_mem hi)
    have h2 := (mem_rmap hl (w := w)).1 (List.getElem_mem (Nat.lt_trans hk hi))
    rw [getElem!_pos _ i hi, getElem!_pos _ k (by omega)]
    exact clash_same (by rw [h1.2.2, h2.2.2])
/-- The first of the map that has it is the one that decides. -/
theorem map_first {l : List Rg} (hl : tabP l) (a : Ac) : (rmap l a.W).find? (·.has a) = (decTo l a l.length).map fun b => l[b]! := by
  rw [← rnums_fst, List.find?_map]
  cases hd : decTo l a l.length with
  | none =>
    rw [Option.map_none, Option.map_eq_none_iff, List.find?_eq_none]
    intro x hx
    obtain ⟨h1, h2, _⟩ := mem_nums.1 ((mem_rnums hl).1 hx)
    have := dec_none hd x.2 h1
    rw [h2] at this
    simp [this]
  | some b =>
    obtain ⟨h1, h2, h3⟩ := dec_some hd
    obtain ⟨s1, s2⟩ := has_stand h2
    have hy : (l[b]!, b) ∈ rnums l a.W := (mem_rnums hl).2 (mem_nums.2 ⟨h1, rfl, (stand_parts s1).1, s2.symm⟩)
    rw [Option.map_some, Option.map_eq_some_iff]
    refine ⟨(l[b]!, b), ?_, rfl⟩
    cases hf : (rnums l a.W).find? ((·.has a) ∘ Prod.fst) with
    | none =>
      rw [List.find?_eq_none] at hf
      exact absurd h2 (hf _ hy)
    | some x =>
      have hs := rnums_sorted l a.W
      obtain ⟨hx, us, vs, he, has⟩ := List.find?_eq_some_iff_append.1 hf
      have hx' : x.1.has a = true := hx
      have hmx : x ∈ rnums l a.W := by rw [he]; simp
      obtain ⟨x1, x2, _⟩ := mem_nums.1 ((mem_rnums hl).1 hmx)
      rw [he] at hy hs
      rcases List.mem_append.1 hy with hy | hy
      · have := has _ hy
        simp only [Function.comp_apply, h2] at this
        exact absurd this (by simp)
      · rcases List.mem_cons.1 hy with hy | hy
        · rw [hy]
        · exfalso
          rw [List.pairwise_append] at hs
          have ha := (List.pairwise_cons.1 hs.2.1).1 _ hy
          have := h3 x.2 x1 (by rw [x2]; exact hx')
          rw [x2] at this
          unfold ahead at ha
          simp only at ha
          omega
/-- Of a row in order the first that has it decides. -/
theorem first_dec {m : List Rg} (hs : m.Pairwise fun g h => h.K ≤ g.K) (a : Ac) : m.find? (·.has a) = (decTo m a m.length).map fun b => m[b]! := by
  cases hd : decTo m a m.length with
  | none =>
    rw [Option.map_none, List.find?_eq_none]
    intro g hg
    obtain ⟨i, hi, rfl⟩ := List.getElem_of_mem hg
    have := dec_none hd i hi
    rw [getElem!_pos m i hi] at this
    simp [this]
  | some b =>
    obtain ⟨h1, h2, h3⟩ := dec_some hd
    rw [Option.map_some, List.find?_eq_some_iff_getElem]
    refine ⟨h2, b, h1, (getElem!_pos m b h1).symm, fun j hj => ?_⟩
    cases hh : m[j].has a with
    | false => rfl
    | true =>
      have := h3 j (by omega) (by rw [getElem!_pos m j (by omega)]; exact hh)
      rw [getElem!_pos m j (by omega), getElem!_pos m b h1] at this
      have := List.pairwise_iff_getElem.1 hs j b (by omega) h1 hj
      omega
theorem among_dec (m : List Rg) (a : Ac) : among m a = match m.find? (·.has a) with | none => false | some g => g.lets a := rfl
theorem may_among {l : List Rg} (hl : tabP l) (a : Ac) : may l a = among (rmap l a.W) a := by
  rw [among_dec, map_first hl]
  unfold may dec
  rw [if_pos (tabB_iff.2 hl)]
  cases decTo l a l.length <;> rfl
theorem may_map {l : List Rg} (hl : tabP l) (a : Ac) : may (rmap l a.W) a = may l a := by
  rw [may_among hl, among_dec, first_dec (rmap_sorted l a.W)]
  unfold may dec
  rw [if_pos (tabB_iff.2 (rmap_tab hl a.W))]
  cases decTo (rmap l a.W) a (rmap l a.W).length <;> rfl
theorem among_other {l : List Rg} (hl : tabP l) (a : Ac) {other : Int} (h : other ≠ a.W) : among (rmap l other) a = false := by
  have : (rmap l other).find? (·.has a) = none := by
    rw [List.find?_eq_none]
    intro g hg hh
    have := (has_stand hh).2
    have := ((mem_rmap hl).1 hg).2.2
    omega
  rw [among_dec, this]
end Go.Proofs.YtmkponhhinjpkaaGreat.Table
