/- Contracts of package word's Parse. -/
import Derived.Test.YtijloekggfjaaaaDoorWc
namespace Go.Proofs.YtijloekggfjaaaaDoor.Word
open Go.RowKit Go.PlainAid
set_option linter.unusedVariables false

theorem has_hex (s : ByteArray) (w : World) :
    Calls Tryd.prog 82 #[.string s, .string ⟨#[48, 120]⟩] w fun e w' => e = .returned (.bool (hexB s)) ∧ w = w' := by
  by_cases h : 2 ≤ s.size
  · have e := Lib.hid (show hexB s = ((s.extract 0 2).toList == [48, 120]) by unfold hexB; rw [decide_eq_true h]; rfl)
    go_enter Tryd.func82, Tryd.ntmps82
    go_wp2
    go_ret
    exact ⟨ret_bool e.out.symm, rfl⟩
  · have e := Lib.hid (show hexB s = false by unfold hexB; rw [decide_eq_false h]; rfl)
    go_enter Tryd.func82, Tryd.ntmps82
    go_wp2
    go_ret
    exact ⟨ret_bool e.out.symm, rfl⟩
theorem cut_yes (s : ByteArray) (w : World) (h : hexB s = true) :
    Calls Tryd.prog 68 #[.string s, .string ⟨#[48, 120]⟩] w fun e w' => e = .returned (.tuple #[.string (s.extract 2 s.size), .bool true]) ∧ w = w' := by
  have h2 := ((hexB_iff s).1 h).1
  go_enter Tryd.func68, Tryd.ntmps68
  go_wp2_with (go_at_call 82; refine (has_hex _ _).mono ?_; rintro e w' ⟨rfl, rfl⟩)
  go_ret2
  exact ⟨rfl, rfl⟩
theorem cut_no (s : ByteArray) (w : World) (h : hexB s = false) :
    Calls Tryd.prog 68 #[.string s, .string ⟨#[48, 120]⟩] w fun e w' => e = .returned (.tuple #[.string s, .bool false]) ∧ w = w' := by
  go_enter Tryd.func68, Tryd.ntmps68
  go_wp2_with (go_at_call 82; refine (has_hex _ _).mono ?_; rintro e w' ⟨rfl, rfl⟩)
  go_ret2
  exact ⟨rfl, rfl⟩
theorem scut_yes (s : ByteArray) (w : World) (h : hexB s = true) :
    Calls Tryd.prog 43 #[.string s, .string ⟨#[48, 120]⟩] w fun e w' => e = .returned (.tuple #[.string (s.extract 2 s.size), .bool true]) ∧ w = w' := by
  go_enter Tryd.func43, Tryd.ntmps43
  go_wp2_with (go_at_call 68; refine (cut_yes _ _ h).mono ?_; rintro e w' ⟨rfl, rfl⟩)
  go_ret2
  exact ⟨rfl, rfl⟩
theorem scut_no (s : ByteArray) (w : World) (h : hexB s = false) :
    Calls Tryd.prog 43 #[.string s, .string ⟨#[48, 120]⟩] w fun e w' => e = .returned (.tuple #[.string s, .bool false]) ∧ w = w' := by
  go_enter Tryd.func43, Tryd.ntmps43
  go_wp2_with (go_at_call 68; refine (cut_no _ _ h).mono ?_; rintro e w' ⟨rfl, rfl⟩)
  go_ret2
  exact ⟨rfl, rfl⟩
def decF (s : ByteArray) : Option Int := if 1 < s.size ∧ bt s 0 = 48 then none else numF 10 (bts s)
def hexF (s : ByteArray) : Option Int := if 8 < s.size then none else numF 16 (bts s)
theorem dec_any (s : ByteArray) (w : World) (hs : s.size ≤ maxLen) (ht : Tab w) :
    Calls Tryd.prog 45 #[.string s] w fun e w' => e = .returned (.tuple #[.int .u32 (valI (decF s)), .bool (decF s).isSome]) ∧ Below w.heap.size w w' := by
  have hbt := get_bt s
  have hs' : s.size ≤ 9223372036854775807 := hs
  have Ht := Lib.hid ht
  clear ht
  by_cases h1 : 1 < s.size
  · by_cases h0 : bt s 0 = 48
    · have E := Lib.hid (show decF s = none by unfold decF; rw [if_pos ⟨h1, h0⟩])
      go_enter Tryd.func45, Tryd.ntmps45
      go_wp2
      go_ret2
      exact ⟨ret_int_bool (by rw [E.out]; rfl) (by rw [E.out]; rfl), Below.refl _ _⟩
    · have E := Lib.hid (show decF s = numF 10 (bts s) by unfold decF; rw [if_neg (by omega)])
      go_enter Tryd.func45, Tryd.ntmps45
      go_wp2_with (go_at_call 69; refine (number_10 _ _ hs Ht.out).mono ?_; rintro e w' ⟨rfl, rfl⟩)
      all_goals go_ret2
      all_goals exact ⟨ret_int_bool (by rw [E.out]) (by rw [E.out]), (Below.refl _ _).alloc (Nat.le_refl _) _⟩
  · have E := Lib.hid (show decF s = numF 10 (bts s) by unfold decF; rw [if_neg (by omega)])
    go_enter Tryd.func45, Tryd.ntmps45
    go_wp2_with (go_at_call 69; refine (number_10 _ _ hs Ht.out).mono ?_; rintro e w' ⟨rfl, rfl⟩)
    all_goals go_ret2
    all_goals exact ⟨ret_int_bool (by rw [E.out]) (by rw [E.out]), (Below.refl _ _).alloc (Nat.le_refl _) _⟩
theorem hex_any (s : ByteArray) (w : World) (hs : s.size ≤ maxLen) (ht : Tab w) :
    Calls Tryd.prog 44 #[.string s] w fun e w' => e = .returned (.tuple #[.int .u32 (valI (hexF s)), .bool (hexF s).isSome]) ∧ Below w.heap.size w w' := by
  have hs' : s.size ≤ 9223372036854775807 := hs
  have Ht := Lib.hid ht
  clear ht
  by_cases h1 : 8 < s.size
  · have E := Lib.hid (show hexF s = none by unfold hexF; rw [if_pos h1])
    go_enter Tryd.func44, Tryd.ntmps44
    go_wp2
    go_ret2
    exact ⟨ret_int_bool (by rw [E.out]; rfl) (by rw [E.out]; rfl), Below.refl _ _⟩
  · have E := Lib.hid (show hexF s = numF 16 (bts s) by unfold hexF; rw [if_neg (by omega)])
    go_enter Tryd.func44, Tryd.ntmps44
    go_wp2_with (go_at_call 69; refine (number_16 _ _ hs Ht.out).mono ?_; rintro e w' ⟨rfl, rfl⟩)
    all_goals go_ret2
    all_goals exact ⟨ret_int_bool (by rw [E.out]) (by rw [E.out]), (Below.refl _ _).alloc (Nat.le_refl _) _⟩
theorem parse_any (s : ByteArray) (w : World) (hs : s.size ≤ maxLen) (ht : Tab w) :
    Calls Tryd.prog 31 #[.string s] w fun e w' => e = .returned (.tuple #[.int .u32 (valI (parseF (bts s))), .bool (parseF (bts s)).isSome]) ∧ Below w.heap.size w w' := by
  have hs' : s.size ≤ 9223372036854775807 := hs
  have Ht := Lib.hid ht
  clear ht
  by_cases h : hexB s = true
  · have hz : (s.extract 2 s.size).size ≤ maxLen := by simp; omega
    have hz' : (s.extract 2 s.size).size = s.size - 2 := by simp
    have E := Lib.hid (show parseF (bts s) = hexF (s.extract 2 s.size) by rw [parseF_hex h]; unfold hexF; rw [hz'])
    have Hz := Lib.hid hz
    clear hz hz'
    go_enter Tryd.func31, Tryd.ntmps31
    go_wp2_with (first | (go_at_call 43; refine (scut_yes _ _ h).mono ?_; rintro e w' ⟨rfl, rfl⟩) | (go_at_call 44; refine (hex_any _ _ Hz.out Ht.out).mono ?_; rintro e w' ⟨rfl, hb⟩))
    go_ret2
    exact ⟨ret_int_bool (by rw [E.out]) (by rw [E.out]), hb⟩
  · have h' : hexB s = false := by simpa using h
    clear h
    have E := Lib.hid (show parseF (bts s) = decF s from parseF_dec h')
    go_enter Tryd.func31, Tryd.ntmps31
    go_wp2_with (first | (go_at_call 43; refine (scut_no _ _ h').mono ?_; rintro e w' ⟨rfl, rfl⟩) | (go_at_call 45; refine (dec_any _ _ hs Ht.out).mono ?_; rintro e w' ⟨rfl, hb⟩))
    go_ret2
    exact ⟨ret_int_bool (by rw [E.out]) (by rw [E.out]), hb⟩
end Go.Proofs.YtijloekggfjaaaaDoor.Word
