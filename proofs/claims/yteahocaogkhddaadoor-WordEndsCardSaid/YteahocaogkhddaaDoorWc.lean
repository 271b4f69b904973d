/- Contracts of package word's numerals: the digit's closure, number, Parse. -/
import Derived.Test.YteahocaogkhddaaDoorWb
import Derived.PlainAid
namespace Go.Proofs.YteahocaogkhddaaDoor.Word
open Go.RowKit Go.PlainAid
set_option linter.unusedVariables false

/-- The package-level table of digits holds them. -/
def Tab (w : World) : Prop := ∀ i : Nat, i < 16 → w.cell? ⟨0, i, none⟩ = some (.int .u8 (dch i))

theorem valuer1_any (b : Nat) (c : Int) (B : Nat) (w : World) (hb : b ≤ 16) (ht : Tab w) (hc : w.cell? ⟨B, 0, none⟩ = some (.int .u64 b)) :
    Calls Tryd.prog 78 #[.int .u8 c, .pointer (some ⟨B, 0, none⟩)] w fun e w' => e = .returned (.tuple #[.int .u64 (digV b c), .bool (digB b c)]) ∧ w = w' := by
  have H := Lib.hid ht
  clear ht
  go_enter Tryd.func78, Tryd.ntmps78
  go_wp2
  go_loop [7] (fun i => ∃ k : Nat, k ≤ b ∧ i = .int .u64 k ∧ (∀ j, j < k → dch j ≠ c)) (fun i => b - (intOf i).toNat)
  case atStart => exact ⟨0, Nat.zero_le _, rfl, by omega⟩
  case round =>
    obtain ⟨k, hk, rfl, heq⟩ := hrel
    have Heq := Lib.hid heq
    clear heq
    by_cases hlt : k < b
    · have c1 := H.out k (by omega)
      obtain ⟨x, hx⟩ : ∃ x, dch k = x := ⟨_, rfl⟩
      rw [hx] at c1
      have Hx := Lib.hid hx
      clear hx
      by_cases hxy : x = c
      · subst hxy
        have e := digB_at hb hlt Hx.out
        have E := Lib.hid e
        clear e
        go_wp2
        go_ret2
        exact ⟨ret_int_bool E.out.2.symm E.out.1.symm, rfl⟩
      · go_wp2
        refine ⟨⟨k + 1, by omega, by go_num, fun j hj => ?_⟩, by simp [intOf]; omega⟩
        by_cases e : j = k
        · rw [e, Hx.out]; exact hxy
        · exact Heq.out j (by omega)
    · have e := digB_no (c := c) hb (fun i hi => Heq.out i (by omega))
      have E := Lib.hid e
      clear e
      go_wp2
      go_ret2
      exact ⟨ret_int_bool E.out.2.symm E.out.1.symm, rfl⟩

theorem cell_old {w : World} {a : Addr} {v : Value} (o : Obj) (h : w.cell? a = some v) : (w.alloc o).cell? a = some v := by
  have hb : a.block < w.heap.size := by
    simp only [World.cell?] at h
    cases hh : w.heap[a.block]? with
    | none => rw [hh] at h; cases h
    | some o => exact (Array.getElem?_eq_some_iff.1 hh).1
  rw [World.cell?_of_block (w := w) (Below.heap_alloc w o a.block hb)]
  exact h
theorem Tab.alloc {w : World} (h : Tab w) (o : Obj) : Tab (w.alloc o) := fun i hi => cell_old o (h i hi)

theorem valuer_any (b : Int) (w : World) :
    Calls Tryd.prog 64 #[.int .u64 b] w fun e w' => e = .returned (.func (.func 78) #[] #[.pointer (some ⟨w.heap.size, 0, none⟩)]) ∧ w.alloc (.cells #[.int .u64 b] 53) = w' := by
  go_enter Tryd.func64, Tryd.ntmps64
  go_wp2
  go_ret
  exact ⟨rfl, rfl⟩

theorem valuer1_10 (c : Int) (B : Nat) (w : World) (ht : Tab w) (hc : w.cell? ⟨B, 0, none⟩ = some (.int .u64 10)) :
    Calls Tryd.prog 78 #[.int .u8 c, .pointer (some ⟨B, 0, none⟩)] w fun e w' => e = .returned (.tuple #[.int .u64 (digV 10 c), .bool (digB 10 c)]) ∧ w = w' := valuer1_any 10 c B w (by omega) ht hc

set_option maxHeartbeats 400000 in
theorem number_10 (s : ByteArray) (w : World) (hs : s.size ≤ maxLen) (ht : Tab w) :
    Calls Tryd.prog 42 #[.string s, .int .u64 10] w fun e w' => e = .returned (.tuple #[.int .u32 (valI (numF 10 (bts s))), .bool (numF 10 (bts s)).isSome]) ∧ w.alloc (.cells #[.int .u64 10] 53) = w' := by
  unfold maxLen at hs
  have hbt := get_bt s
  have Hn := Lib.hid (ht.alloc (.cells #[.int .u64 10] 53))
  have Hnil := Lib.hid (bts_nil s)
  clear ht
  go_enter Tryd.func42, Tryd.ntmps42
  go_wp2_with (go_at_call 64; refine (valuer_any _ _).mono ?_; rintro e w' ⟨rfl, rfl⟩)
  go_loop [7, 15] (fun n i => ∃ (k : Nat) (x : Int), k ≤ s.size ∧ i = .int .i64 k ∧ n = .int .u64 x ∧ 0 ≤ x ∧ x ≤ 4294967295 ∧ numGo 10 (bts s) 0 = numGo 10 ((bts s).drop k) x) (fun _ i => s.size - (intOf i).toNat)
  case atStart => exact ⟨0, 0, Nat.zero_le _, rfl, rfl, by omega, by omega, by simp⟩
  case round =>
    obtain ⟨k, x, hk, rfl, rfl, hx0, hx1, heq⟩ := hrel
    have Heq := Lib.hid heq
    clear heq
    by_cases hlt : k < s.size
    · have Hne := Lib.hid (show bts s ≠ [] by rw [Ne, Hnil.out]; omega)
      have Hd := Lib.hid (bts_drop s hlt)
      obtain ⟨c, hc⟩ : ∃ c, bt s k = c := ⟨_, rfl⟩
      have Hc := Lib.hid hc
      have hq := @digV_bd 10 c
      have hq0 := hq.1
      have hq1 := hq.2
      clear hq
      obtain ⟨q, hq⟩ : ∃ q, digV 10 c = q := ⟨_, rfl⟩
      have Hq := Lib.hid hq
      rw [hq] at hq0 hq1
      clear hq
      by_cases hy : digB 10 c = true
      · have Hy := Lib.hid hy
        clear hy
        by_cases hm : x * 10 + q ≤ 4294967295
        · go_wp2_with (go_at_call 78; refine (valuer1_10 _ _ _ Hn.out (by go_cell)).mono ?_; rintro e w' ⟨rfl, rfl⟩; rw [Hq.out, Hy.out])
          go_round
          case rel => exact ⟨k + 1, x * 10 + q, by omega, by go_num, rfl, by omega, hm, by rw [Heq.out, Hd.out, Hc.out, numGo_yes Hy.out (by rw [Hq.out]; exact hm), Hq.out]; rfl⟩
          case measure => simp [intOf]; omega
        · have Hz := Lib.hid (show numF 10 (bts s) = none by unfold numF; rw [if_neg Hne.out, Heq.out, Hd.out, Hc.out, numGo_high (by rw [Hq.out]; exact hm)])
          go_wp2_with (go_at_call 78; refine (valuer1_10 _ _ _ Hn.out (by go_cell)).mono ?_; rintro e w' ⟨rfl, rfl⟩; rw [Hq.out, Hy.out])
          go_ret2
          exact ⟨by rw [Hz.out]; rfl, rfl⟩
      · have Hy := Lib.hid (show digB 10 c = false by simpa using hy)
        clear hy
        have Hz := Lib.hid (show numF 10 (bts s) = none by unfold numF; rw [if_neg Hne.out, Heq.out, Hd.out, Hc.out, numGo_digit Hy.out])
        go_wp2_with (go_at_call 78; refine (valuer1_10 _ _ _ Hn.out (by go_cell)).mono ?_; rintro e w' ⟨rfl, rfl⟩; rw [Hq.out, Hy.out])
        all_goals go_ret2
        all_goals exact ⟨by rw [Hz.out]; rfl, rfl⟩
    · have Hd := Lib.hid (bts_end s (k := k) (by omega))
      by_cases hz : s.size = 0
      · have Hf := Lib.hid (show numF 10 (bts s) = none by unfold numF; rw [if_pos (Hnil.out.2 hz)])
        have hz' : x = 0 := by have := Heq.out; rw [Hnil.out.2 hz, List.drop_nil] at this; simpa [numGo] using this.symm
        have Hs := Lib.hid (isEmpty_yes s hz)
        have Hz := Lib.hid hz'
        clear hz hz'
        go_wp2
        go_ret2
        exact ⟨ret_int_bool (by rw [Hf.out, Hz.out]; rfl) (by rw [Hf.out, Hs.out]; rfl), rfl⟩
      · have Hf := Lib.hid (show numF 10 (bts s) = some x by unfold numF; rw [if_neg (by rw [Hnil.out]; exact hz), Heq.out, Hd.out]; rfl)
        have Hs := Lib.hid (isEmpty_no s hz)
        clear hz
        go_wp2
        go_ret2
        exact ⟨ret_int_bool (by rw [Hf.out]; rfl) (by rw [Hf.out, Hs.out]; rfl), rfl⟩

theorem valuer1_16 (c : Int) (B : Nat) (w : World) (ht : Tab w) (hc : w.cell? ⟨B, 0, none⟩ = some (.int .u64 16)) :
    Calls Tryd.prog 78 #[.int .u8 c, .pointer (some ⟨B, 0, none⟩)] w fun e w' => e = .returned (.tuple #[.int .u64 (digV 16 c), .bool (digB 16 c)]) ∧ w = w' := valuer1_any 16 c B w (by omega) ht hc

set_option maxHeartbeats 400000 in
theorem number_16 (s : ByteArray) (w : World) (hs : s.size ≤ maxLen) (ht : Tab w) :
    Calls Tryd.prog 42 #[.string s, .int .u64 16] w fun e w' => e = .returned (.tuple #[.int .u32 (valI (numF 16 (bts s))), .bool (numF 16 (bts s)).isSome]) ∧ w.alloc (.cells #[.int .u64 16] 53) = w' := by
  unfold maxLen at hs
  have hbt := get_bt s
  have Hn := Lib.hid (ht.alloc (.cells #[.int .u64 16] 53))
  have Hnil := Lib.hid (bts_nil s)
  clear ht
  go_enter Tryd.func42, Tryd.ntmps42
  go_wp2_with (go_at_call 64; refine (valuer_any _ _).mono ?_; rintro e w' ⟨rfl, rfl⟩)
  go_loop [7, 15] (fun n i => ∃ (k : Nat) (x : Int), k ≤ s.size ∧ i = .int .i64 k ∧ n = .int .u64 x ∧ 0 ≤ x ∧ x ≤ 4294967295 ∧ numGo 16 (bts s) 0 = numGo 16 ((bts s).drop k) x) (fun _ i => s.size - (intOf i).toNat)
  case atStart => exact ⟨0, 0, Nat.zero_le _, rfl, rfl, by omega, by omega, by simp⟩
  case round =>
    obtain ⟨k, x, hk, rfl, rfl, hx0, hx1, heq⟩ := hrel
    have Heq := Lib.hid heq
    clear heq
    by_cases hlt : k < s.size
    · have Hne := Lib.hid (show bts s ≠ [] by rw [Ne, Hnil.out]; omega)
      have Hd := Lib.hid (bts_drop s hlt)
      obtain ⟨c, hc⟩ : ∃ c, bt s k = c := ⟨_, rfl⟩
      have Hc := Lib.hid hc
      have hq := @digV_bd 16 c
      have hq0 := hq.1
      have hq1 := hq.2
      clear hq
      obtain ⟨q, hq⟩ : ∃ q, digV 16 c = q := ⟨_, rfl⟩
      have Hq := Lib.hid hq
      rw [hq] at hq0 hq1
      clear hq
      by_cases hy : digB 16 c = true
      · have Hy := Lib.hid hy
        clear hy
        by_cases hm : x * 16 + q ≤ 4294967295
        · go_wp2_with (go_at_call 78; refine (valuer1_16 _ _ _ Hn.out (by go_cell)).mono ?_; rintro e w' ⟨rfl, rfl⟩; rw [Hq.out, Hy.out])
          go_round
          case rel => exact ⟨k + 1, x * 16 + q, by omega, by go_num, rfl, by omega, hm, by rw [Heq.out, Hd.out, Hc.out, numGo_yes Hy.out (by rw [Hq.out]; exact hm), Hq.out]; rfl⟩
          case measure => simp [intOf]; omega
        · have Hz := Lib.hid (show numF 16 (bts s) = none by unfold numF; rw [if_neg Hne.out, Heq.out, Hd.out, Hc.out, numGo_high (by rw [Hq.out]; exact hm)])
          go_wp2_with (go_at_call 78; refine (valuer1_16 _ _ _ Hn.out (by go_cell)).mono ?_; rintro e w' ⟨rfl, rfl⟩; rw [Hq.out, Hy.out])
          go_ret2
          exact ⟨by rw [Hz.out]; rfl, rfl⟩
      · have Hy := Lib.hid (show digB 16 c = false by simpa using hy)
        clear hy
        have Hz := Lib.hid (show numF 16 (bts s) = none by unfold numF; rw [if_neg Hne.out, Heq.out, Hd.out, Hc.out, numGo_digit Hy.out])
        go_wp2_with (go_at_call 78; refine (valuer1_16 _ _ _ Hn.out (by go_cell)).mono ?_; rintro e w' ⟨rfl, rfl⟩; rw [Hq.out, Hy.out])
        all_goals go_ret2
        all_goals exact ⟨by rw [Hz.out]; rfl, rfl⟩
    · have Hd := Lib.hid (bts_end s (k := k) (by omega))
      by_cases hz : s.size = 0
      · have Hf := Lib.hid (show numF 16 (bts s) = none by unfold numF; rw [if_pos (Hnil.out.2 hz)])
        have hz' : x = 0 := by have := Heq.out; rw [Hnil.out.2 hz, List.drop_nil] at this; simpa [numGo] using this.symm
        have Hs := Lib.hid (isEmpty_yes s hz)
        have Hz := Lib.hid hz'
        clear hz hz'
        go_wp2
        go_ret2
        exact ⟨ret_int_bool (by rw [Hf.out, Hz.out]; rfl) (by rw [Hf.out, Hs.out]; rfl), rfl⟩
      · have Hf := Lib.hid (show numF 16 (bts s) = some x by unfold numF; rw [if_neg (by rw [Hnil.out]; exact hz), Heq.out, Hd.out]; rfl)
        have Hs := Lib.hid (isEmpty_no s hz)
        clear hz
        go_wp2
        go_ret2
        exact ⟨ret_int_bool (by rw [Hf.out]; rfl) (by rw [Hf.out, Hs.out]; rfl), rfl⟩
end Go.Proofs.YteahocaogkhddaaDoor.Word
