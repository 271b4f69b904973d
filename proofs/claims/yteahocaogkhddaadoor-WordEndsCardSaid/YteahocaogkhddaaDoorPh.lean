/- The walk of parts where the number is no size; the walk of WordParts. -/
import Derived.Test.YteahocaogkhddaaDoorPg
namespace Go.Proofs.YteahocaogkhddaaDoor.Word
open Go.RowKit Go.Maps Go.ChangeShapes Go.WideShapes Go.ChangeAt
set_option linter.unusedVariables false

set_option maxHeartbeats 1000000 in
theorem parts_no (x : Nat) (s : Int) (g n cap : Nat) (l : List Int) (w : World) (hx : x < 4294967296) (hm : sizeB s = false) (hw : ∀ c ∈ l, (Lit.int .u8 c).wf = true) (h : At w g n l) :
    Calls Tryd.prog 8 #[.int .u32 x, .int .i64 s, .slice (some ⟨g, 0, none⟩) n cap] w fun e w' => e = .returned (.bool true) ∧ Below w.heap.size w w' := by
  have hf := sizeB_false hm
  obtain ⟨ov, hov⟩ : ∃ v, ofV n l = v := ⟨_, rfl⟩
  obtain ⟨ob, hob⟩ : ∃ b, sizeB (n : Int) = b := ⟨_, rfl⟩
  have Hlv : Hid (lowV x s = 0) := Lib.hid (by unfold lowV; rw [if_neg (by omega), if_neg (by omega), if_neg (by omega)])
  have Hov := Lib.hid hov
  have Hob := Lib.hid hob
  have Hw := Lib.hid hw
  have H := Lib.hid h
  clear hov hob hw h hf
  go_enter Tryd.func8, Tryd.ntmps8
  go_wp2_with fail
  refine (low_q x s 0 false _ (by omega) (by omega) Hlv.out hm).mono ?_
  rintro e w' ⟨rfl, rfl⟩
  go_wp2_with fail
  refine (rlow_no x s _ hm).mono ?_
  rintro e w1 ⟨rfl, hb1⟩
  have Hb1 := Lib.hid hb1
  clear hb1
  go_wp2_with fail
  refine (of_lent g n cap l ov ob _ Hw.out (H.out.below Hb1.out) Hov.out Hob.out).mono ?_
  rintro e w' ⟨rfl, rfl⟩
  go_wp2_with fail
  refine (rof_lent g n cap l ov ob _ Hw.out (H.out.below Hb1.out) Hov.out Hob.out).mono ?_
  rintro e w' ⟨rfl, rfl⟩
  go_wp2_with fail
  refine (bytes_no x s _ hm).mono ?_
  rintro e w' ⟨rfl, rfl⟩
  go_wp2_with fail
  refine (bytes_no x s _ hm).mono ?_
  rintro e w' ⟨rfl, rfl⟩
  go_wp2_with (first | (go_at_call 28; refine (size_any _ _).mono ?_; rintro e w' ⟨rfl, rfl⟩) | (go_at_call 29; refine (rsize_any _ _).mono ?_; rintro e w' ⟨rfl, rfl⟩))
  refine (rbytes_no x s _ hm).mono ?_
  rintro e w' ⟨rfl, rfl⟩
  go_wp2_with fail
  refine (same_bytes_nil none none 0 0 _).mono ?_
  rintro e w' ⟨rfl, rfl⟩
  go_wp2_with fail
  have sz1 := Hb1.out.size
  refine (KitBytes.apart_two w1.heap.size 2 0 0 0 0 none none [] [] (w1.alloc (.cells #[.slice none 0 0, .slice none 0 0] 29)) (World.ownsRow_nil _ _ _ _) (World.ownsRow_nil _ _ _ _) (fun k h => by obtain ⟨_, h, _⟩ := h; cases h) (by omega) (by omega) (World.cell?_alloc_at #[.slice none 0 0, .slice none 0 0] _ w1.heap.size 0 rfl) (World.cell?_alloc_at #[.slice none 0 0, .slice none 0 0] _ w1.heap.size 1 rfl)).mono ?_
  rintro e w7 ⟨rfl, ho7⟩
  have Hb7 := Lib.hid ((Hb1.out.alloc sz1 _).trans (ho7.below (by rw [World.size_alloc]; omega) (fun k hk => by
    rcases hk with ⟨_, h, _⟩ | ⟨_, h, _⟩ <;> cases h)))
  clear ho7
  go_wp2_with fail
  go_ret
  exact ⟨rfl, Hb7.out⟩
theorem parts_any (x : Nat) (s : Int) (g n cap : Nat) (l : List Int) (w : World) (hx : x < 4294967296) (hw : ∀ c ∈ l, (Lit.int .u8 c).wf = true) (h : At w g n l) :
    Calls Tryd.prog 8 #[.int .u32 x, .int .i64 s, .slice (some ⟨g, 0, none⟩) n cap] w fun e w' => e = .returned (.bool true) ∧ Below w.heap.size w w' := by
  by_cases hs : sizeB s = true
  · obtain ⟨m, rfl⟩ : ∃ m : Nat, s = m := ⟨s.toNat, by have := sizeB_yes hs; omega⟩
    exact parts_yes x m g n cap l w hx hs hw h
  · exact parts_no x s g n cap l w hx (by simpa using hs) hw h

theorem own_at {w : World} {B g n c : Nat} {l : List Int} {M : List Value} (h : w.ownsRow B 5 1 (.slice (some ⟨g, 0, none⟩) (n + 12) c) (n + 12) (bv l ++ M)) (hl : l.length = n) : At w g n l := lent_left h hl
end Go.Proofs.YteahocaogkhddaaDoor.Word
