/- Plain facts of right rows; their parts; Pick. -/
import Derived.Test.YtfpammfcchboaaaVh
namespace Go.Proofs.Ytfpammfcchboaaa.Win
open Go.RowKit Fifo Go.Maps Go.ChangeShapes Go.WideShapes Go.ChangeAt Go.Proofs.Ytfpammfcchboaaa.Access
set_option linter.unusedVariables false

theorem tmod_bound (x : Int) (n : Nat) (hn : 0 < n) : -(n : Int) < Int.tmod x n ∧ Int.tmod x n < n := by
  rcases Int.le_total 0 x with h | h
  · rw [Int.tmod_eq_emod_of_nonneg h]
    have h1 := Int.emod_nonneg x (show (n : Int) ≠ 0 by omega)
    have h2 := Int.emod_lt_of_pos x (show (0 : Int) < n by omega)
    omega
  · have e : Int.tmod x n = -(Int.tmod (-x) n) := by rw [Int.neg_tmod]; omega
    rw [e, Int.tmod_eq_emod_of_nonneg (show 0 ≤ -x by omega)]
    have h1 := Int.emod_nonneg (-x) (show (n : Int) ≠ 0 by omega)
    have h2 := Int.emod_lt_of_pos (-x) (show (0 : Int) < n by omega)
    omega
theorem pick_is (x : Int) (n : Nat) (hn : 0 < n) (hn2 : n < 1000) : ∃ p : Nat, p < n ∧ ∀ w, Calls Try.prog 19 #[.int .i64 x, .int .i64 (n : Nat)] w fun e w' => e = .returned (.int .i64 (p : Nat)) ∧ w = w' := by
  obtain ⟨t1, t2⟩ := tmod_bound x n hn
  obtain ⟨r, hr⟩ : ∃ r, Int.tmod x n = r := ⟨_, rfl⟩
  rw [hr] at t1 t2
  have e0 : decide ((n : Int) < 1) = false := decide_eq_false (by omega)
  have e1 : ¬ ((n : Int) = 0) := by omega
  by_cases hneg : r < 0
  · obtain ⟨p, hp⟩ := Int.eq_ofNat_of_zero_le (show 0 ≤ r + n by omega)
    refine ⟨p, by omega, fun w => ?_⟩
    have d1 : decide (r < 0) = true := decide_eq_true hneg
    have d2 : IntKind.i64.wrap (r + (n : Int)) = (p : Int) := by rw [i64w (by omega)]; exact hp
    clear hneg hp t1 t2 hn hn2
    go_enter Try.func19, Try.ntmps19
    go_wp2_with fail
    go_ret
    exact ⟨rfl, rfl⟩
  · obtain ⟨p, hp⟩ := Int.eq_ofNat_of_zero_le (show 0 ≤ r by omega)
    refine ⟨p, by omega, fun w => ?_⟩
    have d1 : decide (r < 0) = false := decide_eq_false hneg
    rw [← hp]
    clear hneg hp t1 t2 hn hn2
    go_enter Try.func19, Try.ntmps19
    go_wp2_with fail
    go_ret
    exact ⟨rfl, rfl⟩


set_option maxRecDepth 100000 in

/-- What is so of a device of a right row. -/
theorem row_at {l : List Dv} (h : rowB l = true) {i : Nat} (hi : i < l.length) (hok : okD l[i]!) : l[i]!.right = true ∧ l[i]!.F = l[i]!.B ∧ l[i]!.T = l[i]!.B + l[i]!.S - 1 ∧ 0 ≤ l[i]!.F ∧ l[i]!.F ≤ l[i]!.T ∧ l[i]!.T < 4294967296 ∧ l[i]!.F % 4 = 0 ∧ l[i]!.T % 4 = 3 ∧ Reach.sizeV l[i]!.F l[i]!.T = l[i]!.S := by
  have hr := ((rowB_iff.1 h).2 i hi).1
  obtain ⟨h1, h2⟩ := win_on hr
  have hp := dev_parts hr
  have hb := hok.2.1
  rw [h1, h2]
  refine ⟨hr, rfl, rfl, by omega, by omega, by omega, by omega, by omega, ?_⟩
  unfold Reach.sizeV
  rw [if_pos (by omega)]
  omega
theorem has_two {d e : Dv} {p : Int} (h1 : d.has p = true) (h2 : e.has p = true) : meet d e = true := by
  unfold Dv.has Reach.hasB at h1 h2
  simp only [decide_eq_true_eq] at h1 h2
  unfold meet Reach.meetB
  simp only [decide_eq_true_eq]
  omega
/-- An address is that device's which has it. -/
theorem at_has {l : List Dv} (h : rowB l = true) (p : Int) {i : Nat} (hi : i < l.length) : l[i]!.has p = ((atV l p).isSome && (atV l p).getD 0 == i) := by
  unfold atV
  rw [if_pos h]
  cases e : fst (fun d => d.has p) l with
  | none => rw [fst_none e i hi]; rfl
  | some j =>
    obtain ⟨h1, h2, _⟩ := fst_some e
    by_cases hij : j = i
    · subst hij
      rw [h2]
      simp
    · have hne : (j == i) = false := by simpa using hij
      simp only [Option.isSome_some, Option.getD_some, Bool.true_and, hne]
      cases hx : l[i]!.has p with
      | false => rfl
      | true =>
        have := row_apart (rowB_iff.1 h) h1 hi hij
        rw [has_two h2 hx] at this
        exact absurd this (by simp)
theorem take_getV {l : List Dv} {k j : Nat} (h : j < k) : (l.take k)[j]! = l[j]! := by
  by_cases hj : j < l.length
  · rw [getElem!_pos (l.take k) j (by rw [List.length_take]; omega), getElem!_pos l j hj]
    simp
  · rw [getElem!_neg (l.take k) j (by rw [List.length_take]; omega), getElem!_neg l j hj]
theorem drop_getV (l : List Dv) (k j : Nat) : (l.drop k)[j]! = l[k + j]! := by
  by_cases hj : k + j < l.length
  · rw [getElem!_pos (l.drop k) j (by rw [List.length_drop]; omega), getElem!_pos l (k + j) hj]
    simp
  · rw [getElem!_neg (l.drop k) j (by rw [List.length_drop]; omega), getElem!_neg l (k + j) hj]
theorem row_take {l : List Dv} (h : rowB l = true) (k : Nat) : rowB (l.take k) = true := by
  have hp := rowB_iff.1 h
  have hl : (l.take k).length = min k l.length := List.length_take
  refine rowB_iff.2 (row_of (by have := hp.1; omega) (fun i hi => ?_) fun i j hi hj hne => ?_)
  · rw [take_getV (by omega)]; exact (hp.2 i (by omega)).1
  · rw [take_getV (by omega), take_getV (by omega)]; exact row_apart hp (by omega) (by omega) hne
theorem row_drop {l : List Dv} (h : rowB l = true) (k : Nat) : rowB (l.drop k) = true := by
  have hp := rowB_iff.1 h
  have hl : (l.drop k).length = l.length - k := List.length_drop
  refine rowB_iff.2 (row_of (by have := hp.1; omega) (fun i hi => ?_) fun i j hi hj hne => ?_)
  · rw [drop_getV]; exact (hp.2 (k + i) (by omega)).1
  · rw [drop_getV, drop_getV]; exact row_apart hp (by omega) (by omega) (by omega)
theorem RowV.take {w : World} {a : Option Addr} {n : Nat} {l : List Dv} (h : RowV w a n l) {k : Nat} (hk : k ≤ n) : RowV w a k (l.take k) := by
  refine ⟨by rw [List.length_take, h.1]; omega, fun j hj => by rw [take_getV hj]; exact h.2.1 j (by omega), fun j hj => ?_⟩
  obtain ⟨b, off, ha, h1⟩ := h.2.2 j (by omega)
  exact ⟨b, off, ha, by rw [take_getV hj]; exact h1⟩
theorem RowV.drop {w : World} {b off n : Nat} {l : List Dv} (h : RowV w (some ⟨b, off, none⟩) n l) {k : Nat} (hk : k ≤ n) : RowV w (some ⟨b, off + k * 5, none⟩) (n - k) (l.drop k) := by
  refine ⟨by rw [List.length_drop, h.1], fun j hj => by rw [drop_getV]; exact h.2.1 (k + j) (by omega), fun j hj => ?_⟩
  obtain ⟨b2, off2, ha, h1⟩ := h.2.2 (k + j) (by omega)
  cases ha
  exact ⟨b, off + k * 5, rfl, by rw [drop_getV, show off + k * 5 + j * 5 = off + (k + j) * 5 by omega]; exact h1⟩
theorem RowV.tail0 {w : World} {a : Option Addr} {n : Nat} {l : List Dv} (h : RowV w a n l) {k : Nat} (hk : n ≤ k) {a' : Option Addr} : RowV w a' (n - k) (l.drop k) :=
  ⟨by rw [List.length_drop, h.1], fun j hj => by omega, fun j hj => by omega⟩
theorem RowV.tail {w : World} {ad : Addr} {n : Nat} {l : List Dv} (h : RowV w (some ad) n l) {k : Nat} (hk : k ≤ n) : RowV w (some (ad.add (k * 5))) (n - k) (l.drop k) := by
  by_cases hlt : k < n
  · obtain ⟨b, off, e, _⟩ := h.2.2 k hlt
    cases e
    rw [Go.WideShapes.add_plain]; exact h.drop hk
  · exact h.tail0 (by omega)
theorem RowV.empty (w : World) (a : Option Addr) : RowV w a 0 [] := ⟨rfl, fun j hj => by omega, fun j hj => by omega⟩
end Go.Proofs.Ytfpammfcchboaaa.Win
