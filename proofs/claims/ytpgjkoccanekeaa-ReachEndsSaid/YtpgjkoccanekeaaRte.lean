/- The chapter's examples: awake. -/
import Derived.Test.YtpgjkoccanekeaaRtd
import Derived.Test.YtpgjkoccanekeaaExt
namespace Go.Proofs.Ytpgjkoccanekeaa.Reach
open Go.RowKit
set_option linter.unusedVariables false

theorem alloc_keep {w : World} {a : Addr} {v : Value} (h : w.cell? a = some v) (o : Obj) : (w.alloc o).cell? a = some v := cell_keep ((Below.refl _ _).alloc (Nat.le_refl _) o) h
/-- A struct of two in a block. -/
def Two (w : World) (b : Nat) (x y : Int) : Prop := w.cell? ⟨b, 0, none⟩ = some (.int .u32 x) ∧ w.cell? ⟨b, 1, none⟩ = some (.int .u32 y)
theorem Two.keep {w1 w' : World} {b : Nat} {x y : Int} (h : Two w1 b x y) (hb : Below w1.heap.size w1 w') : Two w' b x y := ⟨cell_keep hb h.1, cell_keep hb h.2⟩
theorem Two.alloc {w : World} {b : Nat} {x y : Int} (h : Two w b x y) (o : Obj) : Two (w.alloc o) b x y := ⟨alloc_keep h.1 o, alloc_keep h.2 o⟩
theorem two_new (w : World) (x y : Int) (t : TypeId) : Two (w.alloc (.cells #[.int .u32 x, .int .u32 y] t)) w.heap.size x y :=
  ⟨World.cell?_alloc_at _ _ _ 0 rfl, World.cell?_alloc_at _ _ _ 1 rfl⟩
theorem Of_val (a n x y : Int) (b : Bool) (w : World) (ha : 0 ≤ a) (ha' : a < 4294967296) (hn : -9223372036854775808 ≤ n) (hn' : n ≤ 9223372036854775807) (hx : ofF a n = x) (hy : ofT a n = y) (hb : ofB a n = b) :
    Calls Try.prog 9 #[.int .u32 a, .int .i64 n] w fun e w' => e = .returned (.tuple #[.agg #[.int .u32 x, .int .u32 y], .bool b]) ∧ Below w.heap.size w w' := by
  subst hx hy hb; exact Of_any a n w ha ha' hn hn'
theorem Size_val (f t n : Int) (w : World) (hf : 0 ≤ f) (hf' : f < 4294967296) (ht : 0 ≤ t) (ht' : t < 4294967296) (hn : sizeV f t = n) :
    Calls Try.prog 14 #[.agg #[.int .u32 f, .int .u32 t]] w fun e w' => e = .returned (.int .i64 n) ∧ Below w.heap.size w w' := by
  subst hn; exact Size_any f t w hf hf' ht ht'
theorem Meet_val (f t g u x y : Int) (b : Bool) (w : World) (hx : meetF f t g u = x) (hy : meetT f t g u = y) (hb : meetB f t g u = b) :
    Calls Try.prog 23 #[.agg #[.int .u32 f, .int .u32 t], .agg #[.int .u32 g, .int .u32 u]] w fun e w' => e = .returned (.tuple #[.agg #[.int .u32 x, .int .u32 y], .bool b]) ∧ Below w.heap.size w w' := by
  subst hx hy hb; exact Meet_any f t g u w

set_option maxHeartbeats 1000000 in
theorem awake_any (w : World) :
    Calls Try.prog 18 #[] w fun e w' => e = .returned (.bool true) ∧ Below w.heap.size w w' := by
  go_enter Try.func18, Try.ntmps18
  go_wp2_with fail
  refine (Of_val 16 4 16 19 true _ (by omega) (by omega) (by omega) (by omega) (by decide) (by decide) (by decide)).mono ?_
  rintro e w1 ⟨rfl, hb⟩
  have Hb1 := Lib.hid hb
  clear hb
  go_wp2_with fail
  refine (Of_val 4294967295 1 4294967295 4294967295 true _ (by omega) (by omega) (by omega) (by omega) (by decide) (by decide) (by decide)).mono ?_
  rintro e w2 ⟨rfl, hb⟩
  have T1 := Lib.hid ((two_new w1 16 19 _).keep hb)
  have Hb2 := Lib.hid ((Hb1.out.alloc Hb1.out.size _).trans (hb.mono (Hb1.out.alloc Hb1.out.size _).size))
  clear hb Hb1
  go_wp2_with fail
  refine (Of_val 4294967295 2 0 0 false _ (by omega) (by omega) (by omega) (by omega) (by decide) (by decide) (by decide)).mono ?_
  rintro e w3 ⟨rfl, hb⟩
  have T1 := Lib.hid ((T1.out.alloc _).keep hb)
  have T2 := Lib.hid ((two_new w2 4294967295 4294967295 _).keep hb)
  have Hb3 := Lib.hid ((Hb2.out.alloc Hb2.out.size _).trans (hb.mono (Hb2.out.alloc Hb2.out.size _).size))
  clear hb Hb2
  go_wp2_with fail
  refine (Meet_val 0 9 9 12 9 9 true _ (by decide) (by decide) (by decide)).mono ?_
  rintro e w4 ⟨rfl, hb⟩
  have T1 := Lib.hid ((T1.out.alloc _).keep hb)
  have T2 := Lib.hid ((T2.out.alloc _).keep hb)
  have Hb4 := Lib.hid ((Hb3.out.alloc Hb3.out.size _).trans (hb.mono (Hb3.out.alloc Hb3.out.size _).size))
  clear hb Hb3
  obtain ⟨a0, a1⟩ := T1.out
  obtain ⟨b0, b1⟩ := T2.out
  have a0' := alloc_keep a0 (.cells #[.int .u32 9, .int .u32 9] 24)
  have a1' := alloc_keep a1 (.cells #[.int .u32 9, .int .u32 9] 24)
  have b0' := alloc_keep b0 (.cells #[.int .u32 9, .int .u32 9] 24)
  have b1' := alloc_keep b1 (.cells #[.int .u32 9, .int .u32 9] 24)
  go_wp2_with fail
  refine (Size_val 0 4294967295 4294967296 _ (by omega) (by omega) (by omega) (by omega) (by decide)).mono ?_
  rintro e w5 ⟨rfl, hb⟩
  obtain ⟨m0, m1⟩ := (two_new w4 9 9 _).keep hb
  have Hb5 := Lib.hid ((Hb4.out.alloc Hb4.out.size _).trans (hb.mono (Hb4.out.alloc Hb4.out.size _).size))
  clear hb Hb4
  go_wp2_with fail
  go_ret
  exact ⟨rfl, Hb5.out⟩
end Go.Proofs.Ytpgjkoccanekeaa.Reach
