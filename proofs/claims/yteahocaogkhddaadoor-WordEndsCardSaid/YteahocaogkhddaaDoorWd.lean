/- Contracts of package word's Parse. -/
import Derived.Test.YteahocaogkhddaaDoorWc
namespace Go.Proofs.YteahocaogkhddaaDoor.Word
open Go.RowKit Go.PlainAid
set_option linter.unusedVariables false

theorem has_hex (s : ByteArray) (w : World) :
    Calls Tryd.prog 63 #[.string s, .string ⟨#[48, 120]⟩] w fun e w' => e = .returned (.bool (hexB s)) ∧ w = w' := by
  by_cases h : 2 ≤ s.size
  · have e := Lib.hid (show hexB s = ((s.extract 0 2).toList == [48, 120]) by unfold hexB; rw [decide_eq_true h]; rfl)
    go_enter Tryd.func63, Tryd.ntmps63
    go_wp2
    go_ret
    exact ⟨ret_bool e.out.symm, rfl⟩
  · have e := Lib.hid (show hexB s = false by unfold hexB; rw [decide_eq_false h]; rfl)
    go_enter Tryd.func63, Tryd.ntmps63
    go_wp2
    go_ret
    exact ⟨ret_bool e.out.symm, rfl⟩
theorem cut_yes (s : ByteArray) (w : World) (h : hexB s = true) :
    Calls Tryd.prog 41 #[.string s, .string ⟨#[48, 120]⟩] w fun e w' => e = .returned (.tuple #[.string (s.extract 2 s.size), .bool true]) ∧ w = w' := by
  have h2 := ((hexB_iff s).1 h).1
  go_enter Tryd.func41, Tryd.ntmps41
  go_wp2_with (go_at_call 63; refine (has_hex _ _).mono ?_; rintro e w' ⟨rfl, rfl⟩)
  go_ret2
  exact ⟨rfl, rfl⟩
theorem cut_no (s : ByteArray) (w : World) (h : hexB s = false) :
    Calls Tryd.prog 41 #[.string s, .string ⟨#[48, 120]⟩] w fun e w' => e = .returned (.tuple #[.string s, .bool false]) ∧ w = w' := by
  go_enter Tryd.func41, Tryd.ntmps41
  go_wp2_with (go_at_call 63; refine (has_hex _ _).mono ?_; rintro e w' ⟨rfl, rfl⟩)
  go_ret2
  exact ⟨rfl, rfl⟩
theorem scut_yes (s : ByteArray) (w : World) (h : hexB s = true) :
    Calls Tryd.prog 33 #[.string s, .string ⟨#[48, 120]⟩] w fun e w' => e = .returned (.tuple #[.string (s.extract 2 s.size), .bool true]) ∧ w = w' := by
  go_enter Tryd.func33, Tryd.ntmps33
  go_wp2_with (go_at_call 41; refine (cut_yes _ _ h).mono ?_; rintro e w' ⟨rfl, rfl⟩)
  go_ret2
  exact ⟨rfl, rfl⟩
theorem scut_no (s : ByteArray) (w : World) (h : hexB s = false) :
    Calls Tryd.prog 33 #[.string s, .string ⟨#[48, 120]⟩] w fun e w' => e = .returned (.tuple #[.string s, .bool false]) ∧ w = w' := by
  go_enter Tryd.func33, Tryd.ntmps33
  go_wp2_with (go_at_call 41; refine (cut_no _ _ h).mono ?_; rintro e w' ⟨rfl, rfl⟩)
  go_ret2
  exact ⟨rfl, rfl⟩
def decF (s : ByteArray) : Option Int := if 1 < s.size ∧ bt s 0 = 48 then none else numF 10 (bts s)
def hexF (s : ByteArray) : Option Int := if 8 < s.size then none else numF 16 (bts s)
theorem dec_any (s : ByteArray) (w : World) (hs : s.size ≤ maxLen) (ht : Tab w) :
    Calls Tryd.prog 35 #[.string s] w fun e w' => e = .returned (.tuple #[.int .u32 (valI (decF s)), .bool (decF s).isSome]) ∧ Below w.heap.size w w' := by
  have hbt := get_bt s
  have hs' : s.size ≤ 9223372036854775807 := hs
  have Ht := Lib.hid ht
  clear ht
  by_cases h1 : 1 < s.size
  · by_cases h0 : bt s 0 = 48
    · have E := Lib.hid (show decF s = none by unfold decF; rw [if_pos ⟨h1, h0⟩])
      go_enter Tryd.func35, Tryd.ntmps35
      go_wp2
      go_ret2
      exact ⟨ret_int_bool (by rw [E.out]; rfl) (by rw [E.out]; rfl), Below.refl _ _⟩
    · have E := Lib.hid (show decF s = numF 10 (bts s) by unfold decF; rw [if_neg (by omega)])
      go_enter Tryd.func35, Tryd.ntmps35
      go_wp2_with (go_at_call 42; refine (number_10 _ _ hs Ht.out).mono ?_; rintro e w' ⟨rfl, rfl⟩)
      all_goals go_ret2
      all_goals exact ⟨ret_int_bool (by rw [E.out]) (by rw [E.out]), (Below.refl _ _).alloc (Nat.le_refl _) _⟩
  · have E := Lib.hid (show decF s = numF 10 (bts s) by unfold decF; rw [if_neg (by omega)])
    go_enter Tryd.func35, Tryd.ntmps35
    go_wp2_with (go_at_call 42; refine (number_10 _ _ hs Ht.out).mono ?_; rintro e w' ⟨rfl, rfl⟩)
    all_goals go_ret2
    all_goals exact ⟨ret_int_bool (by rw [E.out]) (by rw [E.out]), (Below.refl _ _).alloc (Nat.le_refl _) _⟩
theorem hex_any (s : ByteArray) (w : World) (hs : s.size ≤ maxLen) (ht : Tab w) :
    Calls Tryd.prog 34 #[.string s] w fun e w' => e = .returned (.tuple #[.int .u32 (valI (hexF s)), .bool (hexF s).isSome]) ∧ Below w.heap.size w w' := by
  have hs' : s.size ≤ 9223372036854775807 := hs
  have Ht := Lib.hid ht
  clear ht
  by_cases h1 : 8 < s.size
  · have E := Lib.hid (show hexF s = none by unfold hexF; rw [if_pos h1])
    go_enter Tryd.func34, Tryd.ntmps34
    go_wp2
    go_ret2
    exact ⟨ret_int_bool (by rw [E.out]; rfl) (by rw [E.out]; rfl), Below.refl _ _⟩
  · have E := Lib.hid (show hexF s = numF 16 (bts s) by unfold hexF; rw [if_neg (by omega)])
    go_enter Tryd.func34, Tryd.ntmps34
    go_wp2_with (go_at_call 42; refine (number_16 _ _ hs Ht.out).mono ?_; rintro e w' ⟨rfl, rfl⟩)
    all_goals go_ret2
    all_goals exact ⟨ret_int_bool (by rw [E.out]) (by rw [E.out]), (Below.refl _ _).alloc (Nat.le_refl _) _⟩
theorem parse_any (s : ByteArray) (w : World) (hs : s.size ≤ maxLen) (ht : Tab w) :
    Calls Tryd.prog 11 #[.string s] w fun e w' => e = .returned (.tuple #[.int .u32 (valI (parseF (bts s))), .bool (parseF (bts s)).isSome]) ∧ Below w.heap.size w w' := by
  have hs' : s.size ≤ 9223372036854775807 := hs
  have Ht := Lib.hid ht
  clear ht
  by_cases h : hexB s = true
  · have hz : (s.extract 2 s.size).size ≤ maxLen := by simp; omega
    have hz' : (s.extract 2 s.size).size = s.size - 2 := by simp
    have E := Lib.hid (show parseF (bts s) = hexF (s.extract 2 s.size) by rw [parseF_hex h]; unfold hexF; rw [hz'])
    have Hz := Lib.hid hz
    clear hz hz'
    go_enter Tryd.func11, Tryd.ntmps11
    go_wp2_with (first | (go_at_call 33; refine (scut_yes _ _ h).mono ?_; rintro e w' ⟨rfl, rfl⟩) | (go_at_call 34; refine (hex_any _ _ Hz.out Ht.out).mono ?_; rintro e w' ⟨rfl, hb⟩))
    go_ret2
    exact ⟨ret_int_bool (by rw [E.out]) (by rw [E.out]), hb⟩
  · have h' : hexB s = false := by simpa using h
    clear h
    have E := Lib.hid (show parseF (bts s) = decF s from parseF_dec h')
    go_enter Tryd.func11, Tryd.ntmps11
    go_wp2_with (first | (go_at_call 33; refine (scut_no _ _ h').mono ?_; rintro e w' ⟨rfl, rfl⟩) | (go_at_call 35; refine (dec_any _ _ hs Ht.out).mono ?_; rintro e w' ⟨rfl, hb⟩))
    go_ret2
    exact ⟨ret_int_bool (by rw [E.out]) (by rw [E.out]), hb⟩
end Go.Proofs.YteahocaogkhddaaDoor.Word
