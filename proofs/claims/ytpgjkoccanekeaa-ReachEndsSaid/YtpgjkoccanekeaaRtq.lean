/- The document's Apart. -/
import Derived.Test.YtpgjkoccanekeaaRto
import Derived.Test.YtpgjkoccanekeaaRtf
import Derived.Test.YtpgjkoccanekeaaRtg
import Derived.Deep.RegionHeld3
namespace Go.Proofs.Ytpgjkoccanekeaa.Reach
open Go.RowKit Go.Maps Go.ChangeShapes Go.WideShapes Go.ChangeAt
set_option linter.unusedVariables false

theorem rMeet_is (f t g u : Int) (b : Bool) (w : World) (h : meetsP (f, t) (g, u) = b) :
    Calls Try.prog 28 #[.agg #[.int .u32 f, .int .u32 t], .agg #[.int .u32 g, .int .u32 u]] w fun e w' => e = .returned (.tuple #[.agg #[.int .u32 (meetF f t g u), .int .u32 (meetT f t g u)], .bool b]) ∧ Below w.heap.size w w' := by
  subst h; exact rMeet_any f t g u w
/-- What is gone through so far: none is wrong, none meets one ahead of it. -/
def Good (d : List (Int × Int)) (i k : Nat) : Prop := (∀ q, q < i → rightP d[q]! = true) ∧ (∀ p q, q < p → p < i → meetsP d[p]! d[q]! = false) ∧ ∀ q, q < k → meetsP d[i]! d[q]! = false
theorem load_below {B : Nat} {w : World} {a : Addr} {v : Value} (h : w.cell? a = some v) : ∀ w', Below w.heap.size w w' → w'.cell? a = some v := fun w' hb => cell_keep hb h

set_option maxHeartbeats 2000000 in
theorem rapart_any (a : Option Addr) (n cap : Nat) (d : List (Int × Int)) (w : World) (hn : n ≤ 1000000) (h : RowR w a n d) :
    Calls Try.prog 21 #[.slice a n cap] w fun e w' => e = .returned (.bool (apartB d)) ∧ Below w.heap.size w w' := by
  have Hr := Lib.hid h
  clear h
  go_enter Try.func21, Try.ntmps21
  go_wp2_with fail
  go_loopw [3] (fun i wr => ∃ k : Nat, k ≤ n ∧ i = .int .i64 k ∧ Hid (Good d k 0) ∧ Below w.heap.size w wr) (fun i _ => n - (intOf i).toNat)
  case atStart => exact ⟨0, Nat.zero_le _, rfl, Lib.hid ⟨fun q hq => by omega, fun p q _ hp => by omega, fun q hq => by omega⟩, Below.refl _ _⟩
  case round =>
    obtain ⟨i, hi, rfl, hgood, hb⟩ := hrel
    have Hb := Lib.hid hb
    have hsz := hb.size
    clear hb
    by_cases hlt : i < n
    · obtain ⟨b, off, rfl, c0, c1⟩ := Hr.out.2 i hlt
      have e0 := cell_keep Hb.out c0
      have e1 := cell_keep Hb.out c1
      clear c0 c1
      obtain ⟨x, hx⟩ : ∃ x, d[i]! = x := ⟨_, rfl⟩
      rw [hx] at e0 e1
      have Hx := Lib.hid hx
      clear hx
      obtain ⟨x0, x1⟩ := x
      cases hrx : rightP (x0, x1)
      · have Hrx := Lib.hid hrx
        clear hrx
        go_wp2_with fail
        refine (rright_val x0 x1 false _ Hrx.out).mono ?_
        rintro e w1 ⟨rfl, hb⟩
        have Hb1 := Lib.hid (Hb.out.trans (hb.mono Hb.out.size))
        clear hb
        go_wp2_with fail
        go_ret
        exact ⟨ret_bool (apart_no_right (i := i) (by rw [Hr.out.1]; exact hlt) (by rw [Hx.out]; exact Hrx.out)).symm, Hb1.out⟩
      · have Hrx := Lib.hid hrx
        clear hrx
        go_wp2_with fail
        refine (rright_val x0 x1 true _ Hrx.out).mono ?_
        rintro e w1 ⟨rfl, hb⟩
        have e0' := cell_keep hb e0
        have e1' := cell_keep hb e1
        clear e0 e1
        have Hb1 := Lib.hid (Hb.out.trans (hb.mono Hb.out.size))
        clear hb Hb
        go_wp2_with fail
        go_loopw [4] (fun i' wr => ∃ k : Nat, k ≤ i ∧ i' = .int .i64 k ∧ Hid (Good d i k) ∧ Below w.heap.size w wr) (fun i' _ => i - (intOf i').toNat)
        case atStart => exact ⟨0, Nat.zero_le _, rfl, hgood, Hb1.out⟩
        case round =>
          obtain ⟨k, hk, rfl, hgk, hb⟩ := hrel
          have Hb := Lib.hid hb
          have hsz := hb.size
          clear hb
          by_cases hkt : k < i
          · obtain ⟨b', off', hbo, c2, c3⟩ := Hr.out.2 k (by omega)
            obtain ⟨rfl, rfl⟩ : b' = b ∧ off' = off := by simp at hbo; omega
            clear hbo
            obtain ⟨b'', off'', hbo, c0, c1⟩ := Hr.out.2 i hlt
            obtain ⟨rfl, rfl⟩ : b'' = b' ∧ off'' = off' := by simp at hbo; omega
            clear hbo
            rw [Hx.out] at c0 c1
            obtain ⟨y, hy⟩ : ∃ y, d[k]! = y := ⟨_, rfl⟩
            rw [hy] at c2 c3
            have Hy := Lib.hid hy
            clear hy e0' e1'
            obtain ⟨y0, y1⟩ := y
            have g0 := load_below (B := 0) (cell_keep Hb.out c0)
            have g1 := load_below (B := 0) (cell_keep Hb.out c1)
            have g2 := load_below (B := 0) (cell_keep Hb.out c2)
            have g3 := load_below (B := 0) (cell_keep Hb.out c3)
            clear c0 c1 c2 c3
            have i1 : (0 : Int) ≤ (k : Int) := by omega
            have i2 : (k : Int) < (n : Int) := by omega
            have i3 : (0 : Int) ≤ (i : Int) := by omega
            have i4 : (i : Int) < (n : Int) := by omega
            have i5 : (k : Int) < (i : Int) := by omega
            cases hm : meetsP (x0, x1) (y0, y1)
            all_goals
              have Hm := Lib.hid hm
              clear hm
              go_wp2_with fail
              go_region_held3 (fun w' => Below wr.heap.size wr w')
                (first | assumption | exact (Below.refl _ _).drew | exact ((Below.refl _ _).alloc (Nat.le_refl _) _).drew | (refine Below.alloc ?_ ?_ _; assumption; exact Below.size (by assumption)) | (refine Below.setCell (Below.setCell ?_ ?_ _) ?_ _; assumption; exact Nat.le_refl _; exact Nat.le_refl _))
                (first | (go_at_call 28; refine (rMeet_is x0 x1 y0 y1 _ _ Hm.out).mono ?_; rintro e w' ⟨rfl, hb⟩; have hbS : Below wr.heap.size wr w' := Below.trans (by assumption) (Below.mono hb (Below.size (by assumption))); have hcf := bcell hb))
            all_goals
              rename_i hH
              have HH := Lib.hid (Hb.out.trans (Below.mono hH hsz))
              clear hH hbS hcf g0 g1 g2 g3 hb
              go_wp2_with fail
              first
                | (go_ret
                   exact ⟨ret_bool (apart_no_meet (i := i) (k := k) hkt (by rw [Hr.out.1]; exact hlt) (by rw [Hx.out, Hy.out]; exact Hm.out)).symm, HH.out⟩)
                | (refine ⟨⟨k + 1, by omega, by go_num, Lib.hid ⟨hgk.out.1, hgk.out.2.1, fun q hq => ?_⟩, HH.out⟩, by simp [intOf]; omega⟩
                   by_cases e : q = k
                   · subst e; rw [Hx.out, Hy.out]; exact Hm.out
                   · exact hgk.out.2.2 q (by omega))
          · obtain rfl : k = i := by omega
            go_wp2_with fail
            refine ⟨⟨k + 1, by omega, by go_num, Lib.hid ⟨?_, ?_, fun q hq => by omega⟩, Hb.out⟩, by simp [intOf]; omega⟩
            · intro q hq
              by_cases e : q = k
              · subst e; rw [Hx.out]; exact Hrx.out
              · exact hgk.out.1 q (by omega)
            · intro p q h1 h2
              by_cases e : p = k
              · subst e; exact hgk.out.2.2 q h1
              · exact hgk.out.2.1 p q h1 (by omega)
    · obtain rfl : i = n := by omega
      go_wp2_with fail
      go_ret
      exact ⟨ret_bool (apart_yes (fun q hq => hgood.out.1 q (by rw [← Hr.out.1]; exact hq)) (fun p q h1 h2 => hgood.out.2.1 p q h1 (by rw [← Hr.out.1]; exact h2))).symm, Hb.out⟩
end Go.Proofs.Ytpgjkoccanekeaa.Reach
