/- What is told is written over: OverLimbs of any own row of words. -/
import Derived.Test.YtkcghcoacjpbkaaBa
import Derived.Test.YtkcghcoacjpbkaaOw
import Derived.Test.YtkcghcoacjpbkaaFa
import Derived.Test.YtkcghcoacjpbkaaGr
namespace Go.Proofs.Ytkcghcoacjpbkaa.OvL
open Go.RowKit Go.Maps Go.ChangeShapes Go.WideShapes Go.ChangeAt Fifo Orow Word
set_option linter.unusedVariables false

theorem mark_2 (k : Nat) (w : World) (hk : k < 5000) : Calls Try.prog 29 #[.int .i64 2, .int .i64 k] w fun e w' => e = .returned (.int .i64 (9000027 + (k : Int))) ∧ w = w' := by
  have h1 : IntKind.i64.wrap (9000027 + (k : Int)) = 9000027 + (k : Int) := IntWalk.i64_in _ (by omega)
  go_enter Try.func29, Try.ntmps29
  go_wp2_with fail
  go_ret
  exact ⟨rfl, rfl⟩
set_option maxHeartbeats 1000000 in
theorem over_any (B g n c : Nat) (L : List Value) (w : World) (hn : n ≤ 4096) (h : w.ownsRow B 28 1 (.slice (some ⟨g, 0, none⟩) n c) n L) :
    Calls Try.prog 17 #[.slice (some ⟨g, 0, none⟩) n c] w fun e w' => e = .returned (.tuple #[]) ∧ Only (fun j => j = g) w w' := by
  have hnc := own_le h
  have hmx := own_max h
  obtain ⟨cur, u1, u2, u3, u4, u5, u6⟩ := own_blk h
  have hcur : cur.length = c := by omega
  have hU := Lib.hid u1
  have hC := Lib.hid hcur
  unfold maxLen at hmx
  have wq : IntKind.i64.wrap ((n : Int) + 12) = (n : Int) + 12 := IntWalk.i64_in _ (by omega)
  clear h u1 u2 u3 u4 u5 u6 hcur
  by_cases hle : (c : Int) ≤ (n : Int) + 12
  · skip
    go_enter Try.func17, Try.ntmps17
    go_wp2_with fail
    go_loopw [3] (fun i wr => ∃ k : Nat, k ≤ c ∧ i = .int .i64 k ∧ (∃ cur, Blk wr g 28 cur ∧ cur.length = c) ∧ Only (fun j => j = g) w wr) (fun i _ => c - (intOf i).toNat)
    case atStart => exact ⟨0, Nat.zero_le _, rfl, ⟨_, hU.out, hC.out⟩, Only.refl _ _⟩
    case round =>
    clear hU hC
    obtain ⟨k, hk, rfl, ⟨cur2, hu, hc⟩, hon⟩ := hrel
    have HO := Lib.hid hon
    have HU := Lib.hid hu
    have HC := Lib.hid hc
    clear hon hu hc
    by_cases hlt : k < c
    · have d1 : decide ((k : Int) < (c : Int)) = true := decide_eq_true (by omega)
      have i1 : (0 : Int) ≤ (k : Int) := by omega
      have i2 : (k : Int) < (c : Int) := by omega
      obtain ⟨y, hy⟩ : ∃ y, cur2[k]? = some y := ⟨_, List.getElem?_eq_getElem (by rw [HC.out]; omega)⟩
      have q0 := HU.out.at k hy
      have f0 := HU.out.frozen k
      clear hy
      go_wp2_with fail
      refine (mark_2 k _ (by omega)).mono ?_
      rintro e w1 ⟨rfl, rfl⟩
      go_wp2_with fail
      refine ⟨⟨k + 1, by omega, by go_num, ⟨_, HU.out.set k _, by rw [List.length_set]; exact HC.out⟩, HO.out.setCell (p := ⟨g, k, none⟩) rfl _⟩, by simp [intOf]; omega⟩
    · have d1 : decide ((k : Int) < (c : Int)) = false := decide_eq_false (by omega)
      have d2 : decide (k < c) = false := decide_eq_false (by omega)
      go_wp2_with fail
      go_end0
      exact ⟨rfl, HO.out⟩
  · have e1 : ((n : Int) + 12).toNat = n + 12 := by omega
    have hc2 : n + 12 ≤ c := by omega
    go_enter Try.func17, Try.ntmps17
    go_wp2_with fail
    go_loopw [3] (fun i wr => ∃ k : Nat, k ≤ (n + 12) ∧ i = .int .i64 k ∧ (∃ cur, Blk wr g 28 cur ∧ cur.length = c) ∧ Only (fun j => j = g) w wr) (fun i _ => (n + 12) - (intOf i).toNat)
    case atStart => exact ⟨0, Nat.zero_le _, rfl, ⟨_, hU.out, hC.out⟩, Only.refl _ _⟩
    case round =>
    clear hU hC
    obtain ⟨k, hk, rfl, ⟨cur2, hu, hc⟩, hon⟩ := hrel
    have HO := Lib.hid hon
    have HU := Lib.hid hu
    have HC := Lib.hid hc
    clear hon hu hc
    by_cases hlt : k < (n + 12)
    · have d1 : decide ((k : Int) < ((n : Int) + 12)) = true := decide_eq_true (by omega)
      have i1 : (0 : Int) ≤ (k : Int) := by omega
      have i2 : (k : Int) < ((n : Int) + 12) := by omega
      obtain ⟨y, hy⟩ : ∃ y, cur2[k]? = some y := ⟨_, List.getElem?_eq_getElem (by rw [HC.out]; omega)⟩
      have q0 := HU.out.at k hy
      have f0 := HU.out.frozen k
      clear hy
      go_wp2_with fail
      refine (mark_2 k _ (by omega)).mono ?_
      rintro e w1 ⟨rfl, rfl⟩
      go_wp2_with fail
      refine ⟨⟨k + 1, by omega, by go_num, ⟨_, HU.out.set k _, by rw [List.length_set]; exact HC.out⟩, HO.out.setCell (p := ⟨g, k, none⟩) rfl _⟩, by simp [intOf]; omega⟩
    · have d1 : decide ((k : Int) < ((n : Int) + 12)) = false := decide_eq_false (by omega)
      have d2 : decide (k < (n + 12)) = false := decide_eq_false (by omega)
      go_wp2_with fail
      go_end0
      exact ⟨rfl, HO.out⟩
theorem over_none (w : World) :
    Calls Try.prog 17 #[.slice none 0 0] w fun e w' => e = .returned (.tuple #[]) ∧ Below w.heap.size w w' := by
  go_enter Try.func17, Try.ntmps17
  go_wp2
  go_rounds 1
  go_end0
  exact ⟨rfl, Below.refl _ _⟩
theorem over_own (B n c : Nat) (a : Option Addr) (L : List Value) (w : World) (hn : n ≤ 4096) (h : w.ownsRow B 28 1 (.slice a n c) n L) :
    Calls Try.prog 17 #[.slice a n c] w fun e w' => e = .returned (.tuple #[]) ∧ Only (PB (.slice a n c)) w w' := by
  rcases h.2 with ⟨h1, h2⟩ | ⟨g, cap, cur, h1, _⟩
  · simp only [Value.slice.injEq] at h1
    obtain ⟨rfl, rfl, rfl⟩ := h1
    refine (over_none w).mono ?_
    rintro e w' ⟨rfl, hb⟩
    exact ⟨rfl, Only.of_below hb⟩
  · simp only [Value.slice.injEq] at h1
    obtain ⟨rfl, _, rfl⟩ := h1
    refine (over_any B g n c L w hn h).mono ?_
    rintro e w' ⟨rfl, ho⟩
    exact ⟨rfl, ho.mono (fun j _ e => by rw [e]; rfl)⟩
end Go.Proofs.Ytkcghcoacjpbkaa.OvL
