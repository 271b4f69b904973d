/- Contracts of the document's answers for numerals: digit, number, Parse. -/
import Derived.Test.YteahocaogkhddaaDoorWe
namespace Go.Proofs.YteahocaogkhddaaDoor.Word
open Go.RowKit Go.PlainAid
set_option linter.unusedVariables false

theorem digs (n : Nat) (h : n < (ByteArray.mk #[48, 49, 50, 51, 52, 53, 54, 55, 56, 57, 97, 98, 99, 100, 101, 102]).size) :
    (((ByteArray.mk #[48, 49, 50, 51, 52, 53, 54, 55, 56, 57, 97, 98, 99, 100, 101, 102])[n]'h).toNat : Int) = dch n := by
  have h16 : n < 16 := h
  have e : n = 0 ∨ n = 1 ∨ n = 2 ∨ n = 3 ∨ n = 4 ∨ n = 5 ∨ n = 6 ∨ n = 7 ∨ n = 8 ∨ n = 9 ∨ n = 10 ∨ n = 11 ∨ n = 12 ∨ n = 13 ∨ n = 14 ∨ n = 15 := by omega
  rcases e with rfl | rfl | rfl | rfl | rfl | rfl | rfl | rfl | rfl | rfl | rfl | rfl | rfl | rfl | rfl | rfl <;> rfl
theorem dval_no {c : Int} (h : ∀ i, i < 16 → dch i ≠ c) : dval c = -1 := by
  have h1 := dval_ge c
  have h2 := dval_lt c
  by_cases h0 : 0 ≤ dval c
  · obtain ⟨i, hi⟩ := Int.eq_ofNat_of_zero_le h0
    exact absurd ((dch_dval (by omega)).2 hi) (h i (by omega))
  · omega

theorem rdigit_any (c : Int) (w : World) :
    Calls Tryd.prog 43 #[.int .u8 c] w fun e w' => e = .returned (.int .i64 (dval c)) ∧ w = w' := by
  have hd := digs
  go_enter Tryd.func43, Tryd.ntmps43
  go_wp2
  go_loop [3] (fun i => ∃ k : Nat, k ≤ 16 ∧ i = .int .i64 k ∧ (∀ j, j < k → dch j ≠ c)) (fun i => 16 - (intOf i).toNat)
  case atStart => exact ⟨0, Nat.zero_le _, rfl, by omega⟩
  case round =>
    obtain ⟨k, hk, rfl, heq⟩ := hrel
    have Heq := Lib.hid heq
    clear heq
    by_cases hlt : k < 16
    · obtain ⟨x, hx⟩ : ∃ x, dch k = x := ⟨_, rfl⟩
      have Hx := Lib.hid hx
      by_cases hxy : x = c
      · subst hxy
        have E := Lib.hid ((dch_dval (c := x) hlt).1 hx)
        go_wp2
        go_ret
        exact ⟨ret_one E.out.symm, rfl⟩
      · go_wp2
        refine ⟨⟨k + 1, by omega, by go_num, fun j hj => ?_⟩, by simp [intOf]; omega⟩
        by_cases e : j = k
        · rw [e, Hx.out]; exact hxy
        · exact Heq.out j (by omega)
    · have E := Lib.hid (dval_no (c := c) (fun i hi => Heq.out i (by omega)))
      go_wp2
      go_ret
      exact ⟨ret_one E.out.symm, rfl⟩
/-- What the reference's loop knows: so far, or that it has gone too far. -/
def NumRel (b : Nat) (l : List Int) (k : Nat) (x : Int) : Prop := 0 ≤ x ∧ x ≤ 68719476751 ∧ (x ≤ 4294967295 → numGo b l 0 = numGo b (l.drop k) x) ∧ (4294967295 < x → numGo b l 0 = none)
theorem numRel_start (b : Nat) (l : List Int) : NumRel b l 0 0 := ⟨by omega, by omega, fun _ => rfl, fun h => by omega⟩
theorem numRel_step {b : Nat} (hb : b ≤ 16) {l : List Int} {k : Nat} {x c q : Int} (h : NumRel b l k x) (hd : l.drop k = c :: l.drop (k + 1)) (hq : dval c = q) (h0 : 0 ≤ q) (h1 : q < b) (hx : x ≤ 4294967295) : NumRel b l (k + 1) (x * b + q) := by
  obtain ⟨a0, a1, a2, a3⟩ := h
  have hdig : digB b c = true := by unfold digB; simp; omega
  have hv : digV b c = q := by unfold digV; rw [if_pos hdig, hq]
  have hmul : x * (b : Int) ≤ 4294967295 * 16 := Int.mul_le_mul hx (by omega) (by omega) (by omega)
  have hpos : 0 ≤ x * (b : Int) := Int.mul_nonneg a0 (by omega)
  refine ⟨by omega, by omega, fun h => ?_, fun h => ?_⟩
  · rw [a2 hx, hd, numGo_yes hdig (by rw [hv]; exact h), hv]
  · rw [a2 hx, hd, numGo_high (by rw [hv]; omega)]
theorem numRel_digit {b : Nat} {l : List Int} {k : Nat} {x c q : Int} (h : NumRel b l k x) (hd : l.drop k = c :: l.drop (k + 1)) (hq : dval c = q) (hn : q < 0 ∨ (b : Int) ≤ q) : numF b l = none := by
  have hdig : digB b c = false := by unfold digB; rw [decide_eq_false_iff_not]; omega
  have hne : l ≠ [] := by rintro rfl; simp at hd
  unfold numF
  rw [if_neg hne]
  by_cases hx : x ≤ 4294967295
  · rw [h.2.2.1 hx, hd, numGo_digit hdig]
  · exact h.2.2.2 (by omega)
theorem numRel_high {b : Nat} {l : List Int} {k : Nat} {x : Int} (h : NumRel b l k x) (hne : l ≠ []) (hx : 4294967296 ≤ x) : numF b l = none := by
  unfold numF
  rw [if_neg hne]
  exact h.2.2.2 (by omega)
theorem numRel_end {b : Nat} {l : List Int} {k : Nat} {x : Int} (h : NumRel b l k x) (hne : l ≠ []) (hk : l.length ≤ k) (hx : x ≤ 4294967295) : numF b l = some x := by
  unfold numF
  rw [if_neg hne, h.2.2.1 hx, List.drop_eq_nil_iff.2 hk]
  rfl

set_option maxHeartbeats 400000 in
theorem rnumber_10 (s : ByteArray) (w : World) (hs : s.size ≤ maxLen) :
    Calls Tryd.prog 36 #[.string s, .int .i64 10] w fun e w' => e = .returned (.tuple #[.int .u32 (valI (numF 10 (bts s))), .bool (numF 10 (bts s)).isSome]) ∧ w = w' := by
  unfold maxLen at hs
  have hbt := get_bt s
  have Hnil := Lib.hid (bts_nil s)
  have Hlen := Lib.hid (bts_len s)
  go_enter Tryd.func36, Tryd.ntmps36
  go_wp2
  go_loop [6, 7] (fun n i => ∃ (k : Nat) (x : Int), k ≤ s.size ∧ i = .int .i64 k ∧ n = .int .i64 x ∧ NumRel 10 (bts s) k x) (fun _ i => s.size - (intOf i).toNat)
  case atStart => exact ⟨0, 0, Nat.zero_le _, rfl, rfl, numRel_start _ _⟩
  case round =>
    obtain ⟨k, x, hk, rfl, rfl, hr⟩ := hrel
    have hx0 := hr.1
    have hx1 := hr.2.1
    have Hr := Lib.hid hr
    clear hr
    by_cases hlt : k < s.size
    · have Hne := Lib.hid (show bts s ≠ [] by rw [Ne, Hnil.out]; omega)
      have Hd := Lib.hid (bts_drop s hlt)
      obtain ⟨c, hc⟩ : ∃ c, bt s k = c := ⟨_, rfl⟩
      have Hd2 : Hid ((bts s).drop k = c :: (bts s).drop (k + 1)) := by rw [← hc]; exact Hd.out
      obtain ⟨q, hq⟩ : ∃ q, dval c = q := ⟨_, rfl⟩
      have hq1 : q < 16 := by rw [← hq]; exact dval_lt c
      have hq2 : -1 ≤ q := by rw [← hq]; exact dval_ge c
      have Hq := Lib.hid hq
      clear hq Hd
      by_cases hneg : q < 0
      · have Hz := Lib.hid (numRel_digit Hr.out Hd2.out Hq.out (.inl hneg))
        go_wp2_with (go_at_call 43; refine (rdigit_any _ _).mono ?_; rintro e w' ⟨rfl, rfl⟩; rw [Hq.out])
        all_goals go_ret2
        all_goals exact ⟨ret_int_bool (by rw [Hz.out]; rfl) (by rw [Hz.out]; rfl), rfl⟩
      · by_cases hbig : 10 ≤ q
        · have Hz := Lib.hid (numRel_digit Hr.out Hd2.out Hq.out (.inr hbig))
          go_wp2_with (go_at_call 43; refine (rdigit_any _ _).mono ?_; rintro e w' ⟨rfl, rfl⟩; rw [Hq.out])
          all_goals go_ret2
          all_goals exact ⟨ret_int_bool (by rw [Hz.out]; rfl) (by rw [Hz.out]; rfl), rfl⟩
        · by_cases hm : 4294967296 ≤ x
          · have Hz := Lib.hid (numRel_high Hr.out Hne.out hm)
            go_wp2_with (go_at_call 43; refine (rdigit_any _ _).mono ?_; rintro e w' ⟨rfl, rfl⟩; rw [Hq.out])
            all_goals go_ret2
            all_goals exact ⟨ret_int_bool (by rw [Hz.out]; rfl) (by rw [Hz.out]; rfl), rfl⟩
          · have Hr2 := Lib.hid (numRel_step (by omega) Hr.out Hd2.out Hq.out (by omega) (by omega) (by omega))
            go_wp2_with (go_at_call 43; refine (rdigit_any _ _).mono ?_; rintro e w' ⟨rfl, rfl⟩; rw [Hq.out])
            go_round
            case rel => exact ⟨k + 1, x * 10 + q, by omega, by go_num, rfl, Hr2.out⟩
            case measure => simp [intOf]; omega
    · by_cases hz : s.size = 0
      · have Hf := Lib.hid (show numF 10 (bts s) = none by unfold numF; rw [if_pos (Hnil.out.2 hz)])
        have hb0 : ((s.size : Int) == 0) = true := beq_iff_eq.2 (by omega)
        clear hz
        go_wp2
        go_ret2
        exact ⟨ret_int_bool (by rw [Hf.out]; rfl) (by rw [Hf.out]; rfl), rfl⟩
      · have Hne := Lib.hid (show bts s ≠ [] by rw [Ne, Hnil.out]; omega)
        have hb0 : ((s.size : Int) == 0) = false := beq_eq_false_iff_ne.2 (by omega)
        by_cases hm : 4294967296 ≤ x
        · have Hz := Lib.hid (numRel_high Hr.out Hne.out hm)
          clear hz
          go_wp2
          go_ret2
          exact ⟨ret_int_bool (by rw [Hz.out]; rfl) (by rw [Hz.out]; rfl), rfl⟩
        · have Hz := Lib.hid (numRel_end Hr.out Hne.out (by rw [Hlen.out]; omega) (by omega))
          clear hz
          go_wp2
          go_ret2
          exact ⟨ret_int_bool (by rw [Hz.out]; rfl) (by rw [Hz.out]; rfl), rfl⟩

set_option maxHeartbeats 400000 in
theorem rnumber_16 (s : ByteArray) (w : World) (hs : s.size ≤ maxLen) :
    Calls Tryd.prog 36 #[.string s, .int .i64 16] w fun e w' => e = .returned (.tuple #[.int .u32 (valI (numF 16 (bts s))), .bool (numF 16 (bts s)).isSome]) ∧ w = w' := by
  unfold maxLen at hs
  have hbt := get_bt s
  have Hnil := Lib.hid (bts_nil s)
  have Hlen := Lib.hid (bts_len s)
  go_enter Tryd.func36, Tryd.ntmps36
  go_wp2
  go_loop [6, 7] (fun n i => ∃ (k : Nat) (x : Int), k ≤ s.size ∧ i = .int .i64 k ∧ n = .int .i64 x ∧ NumRel 16 (bts s) k x) (fun _ i => s.size - (intOf i).toNat)
  case atStart => exact ⟨0, 0, Nat.zero_le _, rfl, rfl, numRel_start _ _⟩
  case round =>
    obtain ⟨k, x, hk, rfl, rfl, hr⟩ := hrel
    have hx0 := hr.1
    have hx1 := hr.2.1
    have Hr := Lib.hid hr
    clear hr
    by_cases hlt : k < s.size
    · have Hne := Lib.hid (show bts s ≠ [] by rw [Ne, Hnil.out]; omega)
      have Hd := Lib.hid (bts_drop s hlt)
      obtain ⟨c, hc⟩ : ∃ c, bt s k = c := ⟨_, rfl⟩
      have Hd2 : Hid ((bts s).drop k = c :: (bts s).drop (k + 1)) := by rw [← hc]; exact Hd.out
      obtain ⟨q, hq⟩ : ∃ q, dval c = q := ⟨_, rfl⟩
      have hq1 : q < 16 := by rw [← hq]; exact dval_lt c
      have hq2 : -1 ≤ q := by rw [← hq]; exact dval_ge c
      have Hq := Lib.hid hq
      clear hq Hd
      by_cases hneg : q < 0
      · have Hz := Lib.hid (numRel_digit Hr.out Hd2.out Hq.out (.inl hneg))
        go_wp2_with (go_at_call 43; refine (rdigit_any _ _).mono ?_; rintro e w' ⟨rfl, rfl⟩; rw [Hq.out])
        all_goals go_ret2
        all_goals exact ⟨ret_int_bool (by rw [Hz.out]; rfl) (by rw [Hz.out]; rfl), rfl⟩
      · by_cases hbig : 16 ≤ q
        · have Hz := Lib.hid (numRel_digit Hr.out Hd2.out Hq.out (.inr hbig))
          go_wp2_with (go_at_call 43; refine (rdigit_any _ _).mono ?_; rintro e w' ⟨rfl, rfl⟩; rw [Hq.out])
          all_goals go_ret2
          all_goals exact ⟨ret_int_bool (by rw [Hz.out]; rfl) (by rw [Hz.out]; rfl), rfl⟩
        · by_cases hm : 4294967296 ≤ x
          · have Hz := Lib.hid (numRel_high Hr.out Hne.out hm)
            go_wp2_with (go_at_call 43; refine (rdigit_any _ _).mono ?_; rintro e w' ⟨rfl, rfl⟩; rw [Hq.out])
            all_goals go_ret2
            all_goals exact ⟨ret_int_bool (by rw [Hz.out]; rfl) (by rw [Hz.out]; rfl), rfl⟩
          · have Hr2 := Lib.hid (numRel_step (by omega) Hr.out Hd2.out Hq.out (by omega) (by omega) (by omega))
            go_wp2_with (go_at_call 43; refine (rdigit_any _ _).mono ?_; rintro e w' ⟨rfl, rfl⟩; rw [Hq.out])
            go_round
            case rel => exact ⟨k + 1, x * 16 + q, by omega, by go_num, rfl, Hr2.out⟩
            case measure => simp [intOf]; omega
    · by_cases hz : s.size = 0
      · have Hf := Lib.hid (show numF 16 (bts s) = none by unfold numF; rw [if_pos (Hnil.out.2 hz)])
        have hb0 : ((s.size : Int) == 0) = true := beq_iff_eq.2 (by omega)
        clear hz
        go_wp2
        go_ret2
        exact ⟨ret_int_bool (by rw [Hf.out]; rfl) (by rw [Hf.out]; rfl), rfl⟩
      · have Hne := Lib.hid (show bts s ≠ [] by rw [Ne, Hnil.out]; omega)
        have hb0 : ((s.size : Int) == 0) = false := beq_eq_false_iff_ne.2 (by omega)
        by_cases hm : 4294967296 ≤ x
        · have Hz := Lib.hid (numRel_high Hr.out Hne.out hm)
          clear hz
          go_wp2
          go_ret2
          exact ⟨ret_int_bool (by rw [Hz.out]; rfl) (by rw [Hz.out]; rfl), rfl⟩
        · have Hz := Lib.hid (numRel_end Hr.out Hne.out (by rw [Hlen.out]; omega) (by omega))
          clear hz
          go_wp2
          go_ret2
          exact ⟨ret_int_bool (by rw [Hz.out]; rfl) (by rw [Hz.out]; rfl), rfl⟩
end Go.Proofs.YteahocaogkhddaaDoor.Word
