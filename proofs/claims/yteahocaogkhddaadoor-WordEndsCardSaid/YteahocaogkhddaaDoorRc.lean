/- What any text is parsed to, what any word is shown as: the walk of WordReads. -/
import Derived.Test.YteahocaogkhddaaDoorRb
import Derived.Test.YteahocaogkhddaaDoorRow
namespace Go.Proofs.YteahocaogkhddaaDoor.Word
open Go.RowKit Go.PlainAid Go.ChangeShapes Go.WideShapes Go.ChangeAt
set_option linter.unusedVariables false

theorem reads_any (s : ByteArray) (w : World) (hs : s.size ≤ maxLen) (ht : Tab w) :
    Calls Tryd.prog 4 #[.string s] w fun e w' => e = .returned (.bool true) ∧ Below w.heap.size w w' := by
  have Ht := Lib.hid ht
  clear ht
  go_enter Tryd.func4, Tryd.ntmps4
  go_wp2_with fail
  refine (parse_any s _ hs Ht.out).mono ?_
  rintro e w1 ⟨rfl, hb1⟩
  have Hb1 := Lib.hid hb1
  clear hb1
  obtain ⟨x, hx⟩ : ∃ x, valI (parseF (bts s)) = x := ⟨_, rfl⟩
  obtain ⟨b, hb⟩ : ∃ b, (parseF (bts s)).isSome = b := ⟨_, rfl⟩
  rw [hx, hb]
  have Hx := Lib.hid hx
  have HB := Lib.hid hb
  clear hx hb
  go_wp2_with fail
  refine (rparse_any s _ hs).mono ?_
  rintro e w2 ⟨rfl, rfl⟩
  rw [Hx.out, HB.out]
  go_wp2_with fail
  go_ret
  exact ⟨ret_bool (by simp), Hb1.out⟩

theorem reads_walk (s : ByteArray) (v : Int) (w : World) (hs : s.size ≤ maxLen) (hv : (Lit.int .u32 v).wf = true) (ht : Tab w) :
    Calls Tryd.prog 6 #[.string s, .int .u32 v] w fun e w' => e = .returned (.bool true) ∧ Below w.heap.size w w' := by
  obtain ⟨h0, h1⟩ := bounds_u32 hv
  have hs' : s.size ≤ 9223372036854775807 := hs
  have Ht := Lib.hid ht
  clear ht hv
  by_cases hl : 1000 < s.size
  · go_enter Tryd.func6, Tryd.ntmps6
    go_wp2_with fail
    refine (awake_any _ Ht.out).mono ?_
    rintro e w1 ⟨rfl, hb1⟩
    have Hb1 := Lib.hid hb1
    clear hb1
    go_wp2_with fail
    go_ret
    exact ⟨rfl, Hb1.out⟩
  · go_enter Tryd.func6, Tryd.ntmps6
    go_wp2_with fail
    refine (reads_any s _ hs Ht.out).mono ?_
    rintro e w1 ⟨rfl, hb1⟩
    have Hb1 := Lib.hid hb1
    clear hb1
    go_wp2_with fail
    refine (show_any v _ h0 (by omega) (Ht.out.below Hb1.out)).mono ?_
    rintro e w2 ⟨rfl, hb2⟩
    have Hb2 := Lib.hid (Hb1.out.trans (hb2.mono Hb1.out.size))
    clear hb2
    obtain ⟨t, hT⟩ : ∃ t : ByteArray, ⟨(showF v).toArray⟩ = t := ⟨_, rfl⟩
    rw [hT]
    have HT := Lib.hid hT
    clear hT
    go_wp2_with fail
    refine (rshow_any v _ h0 (by omega)).mono ?_
    rintro e w3 ⟨rfl, rfl⟩
    rw [HT.out]
    go_wp2_with fail
    refine (awake_any _ (Ht.out.below Hb2.out)).mono ?_
    rintro e w4 ⟨rfl, hb4⟩
    have Hb4 := Lib.hid (Hb2.out.trans (hb4.mono Hb2.out.size))
    clear hb4
    go_wp2_with fail
    go_ret
    exact ⟨rfl, Hb4.out⟩
end Go.Proofs.YteahocaogkhddaaDoor.Word
