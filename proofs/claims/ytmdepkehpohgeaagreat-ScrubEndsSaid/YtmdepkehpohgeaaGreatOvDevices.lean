/- Put together: OvHolds, OvDevices. -/
import Derived.Test.YtmdepkehpohgeaaGreatKiHolds
import Derived.Test.YtmdepkehpohgeaaGreatBa
import Derived.Test.YtmdepkehpohgeaaGreatOw
import Derived.Test.YtmdepkehpohgeaaGreatFa
import Derived.Test.YtmdepkehpohgeaaGreatKgDevices
/- What is told is written over: OverHolds of any own row. -/
namespace Go.Proofs.YtmdepkehpohgeaaGreat.OvHolds
open Go.RowKit Go.Maps Go.ChangeShapes Go.WideShapes Go.ChangeAt Fifo Orow Word
set_option linter.unusedVariables false

set_option maxHeartbeats 2000000 in
theorem over_any (B g n c : Nat) (L : List Value) (w : World) (hn : n ≤ 4096) (h : w.ownsRow B 52 3 (.slice (some ⟨g, 0, none⟩) n c) n L) :
    Calls Tryz.prog 32 #[.slice (some ⟨g, 0, none⟩) n c] w fun e w' => e = .returned (.tuple #[]) ∧ Only (fun j => j = g) w w' := by
  have hnc := Orow.own_le h
  have hmx := Orow.own_max h
  obtain ⟨cur, u1, u2, u3, u4, u5, u6⟩ := own_blk h
  have hU := Lib.hid u1
  have hC := Lib.hid u3
  unfold maxLen at hmx
  have wq : IntKind.i64.wrap ((n : Int) + 12) = (n : Int) + 12 := IntWalk.i64_in _ (by omega)
  clear h u1 u2 u3 u4 u5 u6
  by_cases hle : (c : Int) ≤ (n : Int) + 12
  · have hc13 : c ≤ 4108 := by omega
    go_enter Tryz.func32, Tryz.ntmps32
    go_wp2_with fail
    go_loopw [3] (fun i wr => ∃ k : Nat, k ≤ c ∧ i = .int .i64 k ∧ (∃ cur, Blk wr g 52 cur ∧ cur.length = c * 3) ∧ Only (fun j => j = g) w wr) (fun i _ => c - (intOf i).toNat)
    case atStart => exact ⟨0, Nat.zero_le _, rfl, ⟨_, hU.out, hC.out⟩, Only.refl _ _⟩
    case round =>
    clear hU hC
    obtain ⟨k, hk, rfl, ⟨cur2, hu, hc⟩, hon⟩ := hrel
    have HO := Lib.hid hon
    have HU := Lib.hid hu
    have HC := Lib.hid hc
    clear hon hu hc
    by_cases hlt : k < c
    · have d1 : decide ((k : Int) < (c : Int)) = true := decide_eq_true (by omega)
      have i1 : (0 : Int) ≤ (k : Int) := by omega
      have i2 : (k : Int) < (c : Int) := by omega
      obtain ⟨mv, hmv⟩ : ∃ v, KitHolds.mk 2 (k : Int) = v := ⟨_, rfl⟩
      have HM := Lib.hid (KitHolds.markE_any 2 (k : Nat) wr (by omega) (by omega) (by omega) (by omega))
      rw [hmv] at HM
      have Hkc := Lib.hid (show k < c by omega)
      have Hlt := Lib.hid hlt
      have wk : IntKind.i64.wrap ((k : Int) + 1) = (k : Int) + 1 := IntWalk.i64_in _ (by omega)
      clear hmv hlt hk
      go_wp2_with fail
      refine HM.out.mono ?_
      rintro e w1 ⟨rfl, hb⟩
      have U1 := Lib.hid (HU.out.keep hb)
      have O1 := Lib.hid (HO.out.trans (Only.of_below hb))
      clear hb HM HU HO
      go_wp2_with (with_reducible refine at_store _ _ _ rfl ?_)
      apply Lib.hid
      refine store_at rfl _ _ _ rfl g (k * 3) [.int .i64 0, .int .i64 mv, .int .i64 0] rfl rfl 52 _ U1.out (by kernel_rfl) (by have := Hkc.out; have := HC.out; simp; omega) (by simp [Value.oneCell']) ?_
      intro X hX ho
      have UX := Lib.hid (show ∃ cur, Blk X g 52 cur ∧ cur.length = c * 3 from ⟨_, hX, by have := Hkc.out; have := HC.out; simp; omega⟩)
      have OX := Lib.hid (O1.out.trans ho)
      clear hX ho U1 O1
      go_wp2_with fail
      exact ⟨⟨k + 1, Hlt.out, by go_num, UX.out, OX.out⟩, by have := Hlt.out; simp [intOf]; omega⟩
    · have d1 : decide ((k : Int) < (c : Int)) = false := decide_eq_false (by omega)
      have d2 : decide (k < c) = false := decide_eq_false (by omega)
      clear hlt hk
      go_wp2_with fail
      go_end0
      exact ⟨rfl, HO.out⟩
  · have e1 : ((n : Int) + 12).toNat = n + 12 := by omega
    have hc2 : n + 12 ≤ c := by omega
    go_enter Tryz.func32, Tryz.ntmps32
    go_wp2_with fail
    go_loopw [3] (fun i wr => ∃ k : Nat, k ≤ (n + 12) ∧ i = .int .i64 k ∧ (∃ cur, Blk wr g 52 cur ∧ cur.length = c * 3) ∧ Only (fun j => j = g) w wr) (fun i _ => (n + 12) - (intOf i).toNat)
    case atStart => exact ⟨0, Nat.zero_le _, rfl, ⟨_, hU.out, hC.out⟩, Only.refl _ _⟩
    case round =>
    clear hU hC
    obtain ⟨k, hk, rfl, ⟨cur2, hu, hc⟩, hon⟩ := hrel
    have HO := Lib.hid hon
    have HU := Lib.hid hu
    have HC := Lib.hid hc
    clear hon hu hc
    by_cases hlt : k < (n + 12)
    · have d1 : decide ((k : Int) < ((n : Int) + 12)) = true := decide_eq_true (by omega)
      have i1 : (0 : Int) ≤ (k : Int) := by omega
      have i2 : (k : Int) < ((n : Int) + 12) := by omega
      obtain ⟨mv, hmv⟩ : ∃ v, KitHolds.mk 2 (k : Int) = v := ⟨_, rfl⟩
      have HM := Lib.hid (KitHolds.markE_any 2 (k : Nat) wr (by omega) (by omega) (by omega) (by omega))
      rw [hmv] at HM
      have Hkc := Lib.hid (show k < c by omega)
      have Hlt := Lib.hid hlt
      have wk : IntKind.i64.wrap ((k : Int) + 1) = (k : Int) + 1 := IntWalk.i64_in _ (by omega)
      clear hmv hlt hk
      go_wp2_with fail
      refine HM.out.mono ?_
      rintro e w1 ⟨rfl, hb⟩
      have U1 := Lib.hid (HU.out.keep hb)
      have O1 := Lib.hid (HO.out.trans (Only.of_below hb))
      clear hb HM HU HO
      go_wp2_with (with_reducible refine at_store _ _ _ rfl ?_)
      apply Lib.hid
      refine store_at rfl _ _ _ rfl g (k * 3) [.int .i64 0, .int .i64 mv, .int .i64 0] rfl rfl 52 _ U1.out (by kernel_rfl) (by have := Hkc.out; have := HC.out; simp; omega) (by simp [Value.oneCell']) ?_
      intro X hX ho
      have UX := Lib.hid (show ∃ cur, Blk X g 52 cur ∧ cur.length = c * 3 from ⟨_, hX, by have := Hkc.out; have := HC.out; simp; omega⟩)
      have OX := Lib.hid (O1.out.trans ho)
      clear hX ho U1 O1
      go_wp2_with fail
      exact ⟨⟨k + 1, Hlt.out, by go_num, UX.out, OX.out⟩, by have := Hlt.out; simp [intOf]; omega⟩
    · have d1 : decide ((k : Int) < ((n : Int) + 12)) = false := decide_eq_false (by omega)
      have d2 : decide (k < (n + 12)) = false := decide_eq_false (by omega)
      clear hlt hk
      go_wp2_with fail
      go_end0
      exact ⟨rfl, HO.out⟩
theorem over_none (w : World) :
    Calls Tryz.prog 32 #[.slice none 0 0] w fun e w' => e = .returned (.tuple #[]) ∧ Below w.heap.size w w' := by
  go_enter Tryz.func32, Tryz.ntmps32
  go_wp2
  go_rounds 1
  go_end0
  exact ⟨rfl, Below.refl _ _⟩
theorem over_own (B n c : Nat) (a : Option Addr) (L : List Value) (w : World) (hn : n ≤ 4096) (h : w.ownsRow B 52 3 (.slice a n c) n L) :
    Calls Tryz.prog 32 #[.slice a n c] w fun e w' => e = .returned (.tuple #[]) ∧ Only (PB (.slice a n c)) w w' := by
  rcases h.2 with ⟨h1, h2⟩ | ⟨g, cap, cur, h1, _⟩
  · simp only [Value.slice.injEq] at h1
    obtain ⟨rfl, rfl, rfl⟩ := h1
    refine (over_none w).mono ?_
    rintro e w' ⟨rfl, hb⟩
    exact ⟨rfl, Only.of_below hb⟩
  · simp only [Value.slice.injEq] at h1
    obtain ⟨rfl, _, rfl⟩ := h1
    refine (over_any B g n c L w hn h).mono ?_
    rintro e w' ⟨rfl, ho⟩
    exact ⟨rfl, ho.mono (fun j _ e => by rw [e]; rfl)⟩
end Go.Proofs.YtmdepkehpohgeaaGreat.OvHolds
/- What is told is written over: OverDevices of any own row. -/
namespace Go.Proofs.YtmdepkehpohgeaaGreat.OvDevices
open Go.RowKit Go.Maps Go.ChangeShapes Go.WideShapes Go.ChangeAt Fifo Orow Word
set_option linter.unusedVariables false

set_option maxHeartbeats 2000000 in
theorem over_any (B g n c : Nat) (L : List Value) (w : World) (hn : n ≤ 4096) (h : w.ownsRow B 45 5 (.slice (some ⟨g, 0, none⟩) n c) n L) :
    Calls Tryz.prog 10 #[.slice (some ⟨g, 0, none⟩) n c] w fun e w' => e = .returned (.tuple #[]) ∧ Only (fun j => j = g) w w' := by
  have hnc := Orow.own_le h
  have hmx := Orow.own_max h
  obtain ⟨cur, u1, u2, u3, u4, u5, u6⟩ := own_blk h
  have hU := Lib.hid u1
  have hC := Lib.hid u3
  unfold maxLen at hmx
  have wq : IntKind.i64.wrap ((n : Int) + 12) = (n : Int) + 12 := IntWalk.i64_in _ (by omega)
  clear h u1 u2 u3 u4 u5 u6
  by_cases hle : (c : Int) ≤ (n : Int) + 12
  · have hc13 : c ≤ 4108 := by omega
    go_enter Tryz.func10, Tryz.ntmps10
    go_wp2_with fail
    go_loopw [3] (fun i wr => ∃ k : Nat, k ≤ c ∧ i = .int .i64 k ∧ (∃ cur, Blk wr g 45 cur ∧ cur.length = c * 5) ∧ Only (fun j => j = g) w wr) (fun i _ => c - (intOf i).toNat)
    case atStart => exact ⟨0, Nat.zero_le _, rfl, ⟨_, hU.out, hC.out⟩, Only.refl _ _⟩
    case round =>
    clear hU hC
    obtain ⟨k, hk, rfl, ⟨cur2, hu, hc⟩, hon⟩ := hrel
    have HO := Lib.hid hon
    have HU := Lib.hid hu
    have HC := Lib.hid hc
    clear hon hu hc
    by_cases hlt : k < c
    · have d1 : decide ((k : Int) < (c : Int)) = true := decide_eq_true (by omega)
      have i1 : (0 : Int) ≤ (k : Int) := by omega
      have i2 : (k : Int) < (c : Int) := by omega
      obtain ⟨mv, hmv⟩ : ∃ v, KitDevices.mk 2 (k : Int) = v := ⟨_, rfl⟩
      have HM := Lib.hid (KitDevices.markE_any 2 (k : Nat) wr (by omega) (by omega) (by omega) (by omega))
      rw [hmv] at HM
      have Hkc := Lib.hid (show k < c by omega)
      have Hlt := Lib.hid hlt
      have wk : IntKind.i64.wrap ((k : Int) + 1) = (k : Int) + 1 := IntWalk.i64_in _ (by omega)
      clear hmv hlt hk
      go_wp2_with fail
      refine HM.out.mono ?_
      rintro e w1 ⟨rfl, hb⟩
      have U1 := Lib.hid (HU.out.keep hb)
      have O1 := Lib.hid (HO.out.trans (Only.of_below hb))
      clear hb HM HU HO
      go_wp2_with (with_reducible refine at_store _ _ _ rfl ?_)
      apply Lib.hid
      refine store_at rfl _ _ _ rfl g (k * 5) [.int .i64 0, .int .u32 0, .int .i64 mv, .int .i64 0, .int .i64 0] rfl rfl 45 _ U1.out (by kernel_rfl) (by have := Hkc.out; have := HC.out; simp; omega) (by simp [Value.oneCell']) ?_
      intro X hX ho
      have UX := Lib.hid (show ∃ cur, Blk X g 45 cur ∧ cur.length = c * 5 from ⟨_, hX, by have := Hkc.out; have := HC.out; simp; omega⟩)
      have OX := Lib.hid (O1.out.trans ho)
      clear hX ho U1 O1
      go_wp2_with fail
      exact ⟨⟨k + 1, Hlt.out, by go_num, UX.out, OX.out⟩, by have := Hlt.out; simp [intOf]; omega⟩
    · have d1 : decide ((k : Int) < (c : Int)) = false := decide_eq_false (by omega)
      have d2 : decide (k < c) = false := decide_eq_false (by omega)
      clear hlt hk
      go_wp2_with fail
      go_end0
      exact ⟨rfl, HO.out⟩
  · have e1 : ((n : Int) + 12).toNat = n + 12 := by omega
    have hc2 : n + 12 ≤ c := by omega
    go_enter Tryz.func10, Tryz.ntmps10
    go_wp2_with fail
    go_loopw [3] (fun i wr => ∃ k : Nat, k ≤ (n + 12) ∧ i = .int .i64 k ∧ (∃ cur, Blk wr g 45 cur ∧ cur.length = c * 5) ∧ Only (fun j => j = g) w wr) (fun i _ => (n + 12) - (intOf i).toNat)
    case atStart => exact ⟨0, Nat.zero_le _, rfl, ⟨_, hU.out, hC.out⟩, Only.refl _ _⟩
    case round =>
    clear hU hC
    obtain ⟨k, hk, rfl, ⟨cur2, hu, hc⟩, hon⟩ := hrel
    have HO := Lib.hid hon
    have HU := Lib.hid hu
    have HC := Lib.hid hc
    clear hon hu hc
    by_cases hlt : k < (n + 12)
    · have d1 : decide ((k : Int) < ((n : Int) + 12)) = true := decide_eq_true (by omega)
      have i1 : (0 : Int) ≤ (k : Int) := by omega
      have i2 : (k : Int) < ((n : Int) + 12) := by omega
      obtain ⟨mv, hmv⟩ : ∃ v, KitDevices.mk 2 (k : Int) = v := ⟨_, rfl⟩
      have HM := Lib.hid (KitDevices.markE_any 2 (k : Nat) wr (by omega) (by omega) (by omega) (by omega))
      rw [hmv] at HM
      have Hkc := Lib.hid (show k < c by omega)
      have Hlt := Lib.hid hlt
      have wk : IntKind.i64.wrap ((k : Int) + 1) = (k : Int) + 1 := IntWalk.i64_in _ (by omega)
      clear hmv hlt hk
      go_wp2_with fail
      refine HM.out.mono ?_
      rintro e w1 ⟨rfl, hb⟩
      have U1 := Lib.hid (HU.out.keep hb)
      have O1 := Lib.hid (HO.out.trans (Only.of_below hb))
      clear hb HM HU HO
      go_wp2_with (with_reducible refine at_store _ _ _ rfl ?_)
      apply Lib.hid
      refine store_at rfl _ _ _ rfl g (k * 5) [.int .i64 0, .int .u32 0, .int .i64 mv, .int .i64 0, .int .i64 0] rfl rfl 45 _ U1.out (by kernel_rfl) (by have := Hkc.out; have := HC.out; simp; omega) (by simp [Value.oneCell']) ?_
      intro X hX ho
      have UX := Lib.hid (show ∃ cur, Blk X g 45 cur ∧ cur.length = c * 5 from ⟨_, hX, by have := Hkc.out; have := HC.out; simp; omega⟩)
      have OX := Lib.hid (O1.out.trans ho)
      clear hX ho U1 O1
      go_wp2_with fail
      exact ⟨⟨k + 1, Hlt.out, by go_num, UX.out, OX.out⟩, by have := Hlt.out; simp [intOf]; omega⟩
    · have d1 : decide ((k : Int) < ((n : Int) + 12)) = false := decide_eq_false (by omega)
      have d2 : decide (k < (n + 12)) = false := decide_eq_false (by omega)
      clear hlt hk
      go_wp2_with fail
      go_end0
      exact ⟨rfl, HO.out⟩
theorem over_none (w : World) :
    Calls Tryz.prog 10 #[.slice none 0 0] w fun e w' => e = .returned (.tuple #[]) ∧ Below w.heap.size w w' := by
  go_enter Tryz.func10, Tryz.ntmps10
  go_wp2
  go_rounds 1
  go_end0
  exact ⟨rfl, Below.refl _ _⟩
theorem over_own (B n c : Nat) (a : Option Addr) (L : List Value) (w : World) (hn : n ≤ 4096) (h : w.ownsRow B 45 5 (.slice a n c) n L) :
    Calls Tryz.prog 10 #[.slice a n c] w fun e w' => e = .returned (.tuple #[]) ∧ Only (PB (.slice a n c)) w w' := by
  rcases h.2 with ⟨h1, h2⟩ | ⟨g, cap, cur, h1, _⟩
  · simp only [Value.slice.injEq] at h1
    obtain ⟨rfl, rfl, rfl⟩ := h1
    refine (over_none w).mono ?_
    rintro e w' ⟨rfl, hb⟩
    exact ⟨rfl, Only.of_below hb⟩
  · simp only [Value.slice.injEq] at h1
    obtain ⟨rfl, _, rfl⟩ := h1
    refine (over_any B g n c L w hn h).mono ?_
    rintro e w' ⟨rfl, ho⟩
    exact ⟨rfl, ho.mono (fun j _ e => by rw [e]; rfl)⟩
end Go.Proofs.YtmdepkehpohgeaaGreat.OvDevices
