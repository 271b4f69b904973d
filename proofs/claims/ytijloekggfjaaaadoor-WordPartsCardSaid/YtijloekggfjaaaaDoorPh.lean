/- The walk of parts where the number is no size; the walk of WordParts. -/
import Derived.Test.YtijloekggfjaaaaDoorPg
namespace Go.Proofs.YtijloekggfjaaaaDoor.Word
open Go.RowKit Go.Maps Go.ChangeShapes Go.WideShapes Go.ChangeAt
set_option linter.unusedVariables false

set_option maxHeartbeats 1000000 in
theorem parts_no (x : Nat) (s : Int) (g n cap : Nat) (l : List Int) (w : World) (hx : x < 4294967296) (hm : sizeB s = false) (hw : ∀ c ∈ l, (Lit.int .u8 c).wf = true) (h : At w g n l) :
    Calls Tryd.prog 11 #[.int .u32 x, .int .i64 s, .slice (some ⟨g, 0, none⟩) n cap] w fun e w' => e = .returned (.bool true) ∧ Below w.heap.size w w' := by
  have hf := sizeB_false hm
  obtain ⟨ov, hov⟩ : ∃ v, ofV n l = v := ⟨_, rfl⟩
  obtain ⟨ob, hob⟩ : ∃ b, sizeB (n : Int) = b := ⟨_, rfl⟩
  have Hlv : Hid (lowV x s = 0) := Lib.hid (by unfold lowV; rw [if_neg (by omega), if_neg (by omega), if_neg (by omega)])
  have Hov := Lib.hid hov
  have Hob := Lib.hid hob
  have Hw := Lib.hid hw
  have H := Lib.hid h
  clear hov hob hw h hf
  go_enter Tryd.func11, Tryd.ntmps11
  go_wp2_with fail
  refine (low_q x s 0 false _ (by omega) (by omega) Hlv.out hm).mono ?_
  rintro e w' ⟨rfl, rfl⟩
  go_wp2_with fail
  refine (rlow_no x s _ hm).mono ?_
  rintro e w1 ⟨rfl, hb1⟩
  have Hb1 := Lib.hid hb1
  clear hb1
  go_wp2_with fail
  refine (of_lent g n cap l ov ob _ Hw.out (H.out.below Hb1.out) Hov.out Hob.out).mono ?_
  rintro e w' ⟨rfl, rfl⟩
  go_wp2_with fail
  refine (rof_lent g n cap l ov ob _ Hw.out (H.out.below Hb1.out) Hov.out Hob.out).mono ?_
  rintro e w' ⟨rfl, rfl⟩
  go_wp2_with fail
  refine (bytes_no x s _ hm).mono ?_
  rintro e w' ⟨rfl, rfl⟩
  go_wp2_with fail
  refine (bytes_no x s _ hm).mono ?_
  rintro e w' ⟨rfl, rfl⟩
  go_wp2_with (first | (go_at_call 35; refine (size_any _ _).mono ?_; rintro e w' ⟨rfl, rfl⟩) | (go_at_call 36; refine (rsize_any _ _).mono ?_; rintro e w' ⟨rfl, rfl⟩))
  refine (rbytes_no x s _ hm).mono ?_
  rintro e w' ⟨rfl, rfl⟩
  go_wp2_with fail
  refine (same_bytes_nil none none 0 0 _).mono ?_
  rintro e w' ⟨rfl, rfl⟩
  go_wp2_with fail
  have sz1 := Hb1.out.size
  refine (KitBytes.apart_two w1.heap.size 2 0 0 0 0 none none [] [] (w1.alloc (.cells #[.slice none 0 0, .slice none 0 0] 23)) (World.ownsRow_nil _ _ _ _) (World.ownsRow_nil _ _ _ _) (fun k h => by obtain ⟨_, h, _⟩ := h; cases h) (by omega) (by omega) (World.cell?_alloc_at #[.slice none 0 0, .slice none 0 0] _ w1.heap.size 0 rfl) (World.cell?_alloc_at #[.slice none 0 0, .slice none 0 0] _ w1.heap.size 1 rfl)).mono ?_
  rintro e w7 ⟨rfl, ho7⟩
  have Hb7 := Lib.hid ((Hb1.out.alloc sz1 _).trans (ho7.below (by rw [World.size_alloc]; omega) (fun k hk => by
    rcases hk with ⟨_, h, _⟩ | ⟨_, h, _⟩ <;> cases h)))
  clear ho7
  go_wp2_with fail
  go_ret
  exact ⟨rfl, Hb7.out⟩
theorem parts_any (x : Nat) (s : Int) (g n cap : Nat) (l : List Int) (w : World) (hx : x < 4294967296) (hw : ∀ c ∈ l, (Lit.int .u8 c).wf = true) (h : At w g n l) :
    Calls Tryd.prog 11 #[.int .u32 x, .int .i64 s, .slice (some ⟨g, 0, none⟩) n cap] w fun e w' => e = .returned (.bool true) ∧ Below w.heap.size w w' := by
  by_cases hs : sizeB s = true
  · obtain ⟨m, rfl⟩ : ∃ m : Nat, s = m := ⟨s.toNat, by have := sizeB_yes hs; omega⟩
    exact parts_yes x m g n cap l w hx hs hw h
  · exact parts_no x s g n cap l w hx (by simpa using hs) hw h

theorem own_at {w : World} {B g n c : Nat} {l : List Int} {M : List Value} (h : w.ownsRow B 5 1 (.slice (some ⟨g, 0, none⟩) (n + 12) c) (n + 12) (bv l ++ M)) (hl : l.length = n) : At w g n l := lent_left h hl
set_option maxHeartbeats 1000000 in
theorem parts_walk1 (x : Nat) (s : Int) (a : Option Addr) (n cap : Nat) (l : List Int) (w : World) (hx : x < 4294967296) (h0 : -9223372036854775808 ≤ s) (h1 : s ≤ 9223372036854775807)
    (hn : n ≤ 1000) (hrow : Row .u8 w a n l) (hnone : a = none → cap = 0) (ht : Tab w) :
    Calls Tryd.prog 3 #[.int .u32 x, .int .i64 s, .slice a n cap] w fun e w' => e = .returned (.bool true) ∧ Below w.heap.size w w' := by
  have d1 : decide ((1000 : Int) < (n : Int)) = false := decide_eq_false (by omega)
  have Hrow := Lib.hid hrow
  have Hnone := Lib.hid hnone
  have Ht := Lib.hid ht
  clear hrow hnone ht
  go_enter Tryd.func3, Tryd.ntmps3
  go_wp2_with fail
  refine (lent_any a n cap l _ Hrow.out Hnone.out hn).mono ?_
  rintro e w1 ⟨g, rfl, hown, hb1⟩
  have Hown := Lib.hid hown
  have Hb1 := Lib.hid hb1
  clear hown hb1
  go_wp2_with fail
  refine (parts_any x s g n (n + 12) l _ hx Hrow.out.2.2.1 (own_at Hown.out Hrow.out.1)).mono ?_
  rintro e w2 ⟨rfl, hb2⟩
  have Hown2 := Lib.hid (bown_below Hown.out hb2)
  have Hb2 := Lib.hid (Hb1.out.trans (hb2.mono Hb1.out.size))
  clear hb2 Hown Hb1
  go_wp2_with fail
  refine (pick_any s _ h0 h1).mono ?_
  rintro e w' ⟨⟨p, p0, p5, rfl⟩, rfl⟩
  go_wp2_with fail
  refine (parts_any x p g n (n + 12) l _ hx Hrow.out.2.2.1 (own_at Hown2.out Hrow.out.1)).mono ?_
  rintro e w3 ⟨rfl, hb3⟩
  have Hown3 := Lib.hid (bown_below Hown2.out hb3)
  have Hb3 := Lib.hid (Hb2.out.trans (hb3.mono Hb2.out.size))
  clear hb3 Hown2 Hb2
  go_wp2_with fail
  refine (kept_any _ g n cap 0 a l _ hn (Hrow.out.below Hb3.out) Hown3.out).mono ?_
  rintro e w' ⟨rfl, j, rfl⟩
  go_wp2_with fail
  refine (awake_any _ (Ht.out.below (below_drewN Hb3.out j))).mono ?_
  rintro e w8 ⟨rfl, hb8⟩
  have Hb8 := Lib.hid ((below_drewN Hb3.out j).trans (hb8.mono (below_drewN Hb3.out j).size))
  clear hb8
  go_wp2_with fail
  go_ret
  exact ⟨rfl, Hb8.out⟩
theorem parts_walk2 (x : Nat) (s : Int) (a : Option Addr) (n cap : Nat) (w : World) (hn : 1000 < n) (ht : Tab w) :
    Calls Tryd.prog 3 #[.int .u32 x, .int .i64 s, .slice a n cap] w fun e w' => e = .returned (.bool true) ∧ Below w.heap.size w w' := by
  have d1 : decide ((1000 : Int) < (n : Int)) = true := decide_eq_true (by omega)
  have d2 : decide (1000 < n) = true := decide_eq_true (by omega)
  have Ht := Lib.hid ht
  clear ht
  go_enter Tryd.func3, Tryd.ntmps3
  go_wp2_with fail
  refine (awake_any _ Ht.out).mono ?_
  rintro e w8 ⟨rfl, hb8⟩
  have Hb8 := Lib.hid hb8
  clear hb8
  go_wp2_with fail
  go_ret
  exact ⟨rfl, Hb8.out⟩
theorem parts_walk (v s : Int) (a : Option Addr) (n cap : Nat) (l : List Int) (w : World) (hv : (Lit.int .u32 v).wf = true) (hs : (Lit.int .i64 s).wf = true) (hrow : Row .u8 w a n l) (hnone : a = none → cap = 0) (ht : Tab w) :
    Calls Tryd.prog 3 #[.int .u32 v, .int .i64 s, .slice a n cap] w fun e w' => e = .returned (.bool true) ∧ Below w.heap.size w w' := by
  obtain ⟨a0, a1⟩ := bounds_u32 hv
  obtain ⟨b0, b1⟩ := bounds_i64 hs
  obtain ⟨x, rfl⟩ := Int.eq_ofNat_of_zero_le a0
  by_cases hn : n ≤ 1000
  · exact parts_walk1 x s a n cap l w (by omega) (by omega) (by omega) hn hrow hnone ht
  · exact parts_walk2 x s a n cap w (by omega) ht
end Go.Proofs.YtijloekggfjaaaaDoor.Word
