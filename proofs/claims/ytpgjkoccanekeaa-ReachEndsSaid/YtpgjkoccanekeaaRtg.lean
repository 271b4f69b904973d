/- One reach: the package's answers are the document's: the walk of ReachOne. -/
import Derived.Test.YtpgjkoccanekeaaRtc
import Derived.Test.YtpgjkoccanekeaaRte
import Derived.OpenShut
namespace Go.Proofs.Ytpgjkoccanekeaa.Reach
open Go.RowKit
set_option linter.unusedVariables false

theorem rOf_val (a n x y : Int) (b : Bool) (w : World) (ha : 0 ≤ a) (ha' : a < 4294967296) (hn : -9223372036854775808 ≤ n) (hn' : n ≤ 9223372036854775807) (hx : ofF a n = x) (hy : ofT a n = y) (hb : ofB a n = b) :
    Calls Try.prog 10 #[.int .u32 a, .int .i64 n] w fun e w' => e = .returned (.tuple #[.agg #[.int .u32 x, .int .u32 y], .bool b]) ∧ Below w.heap.size w w' := by
  subst hx hy hb; exact rOf_any a n w ha ha' hn hn'
theorem rSize_val (f t n : Int) (w : World) (hf : 0 ≤ f) (hf' : f < 4294967296) (ht : 0 ≤ t) (ht' : t < 4294967296) (hn : sizeV f t = n) :
    Calls Try.prog 15 #[.agg #[.int .u32 f, .int .u32 t]] w fun e w' => e = .returned (.int .i64 n) ∧ Below w.heap.size w w' := by
  subst hn; exact rSize_any f t w hf hf' ht ht'
theorem Right_val (f t : Int) (b : Bool) (w : World) (h : rightB f t = b) :
    Calls Try.prog 12 #[.agg #[.int .u32 f, .int .u32 t]] w fun e w' => e = .returned (.bool b) ∧ Below w.heap.size w w' := by
  subst h; exact Right_any f t w
theorem rright_val (f t : Int) (b : Bool) (w : World) (h : rightB f t = b) :
    Calls Try.prog 13 #[.agg #[.int .u32 f, .int .u32 t]] w fun e w' => e = .returned (.bool b) ∧ Below w.heap.size w w' := by
  subst h; exact rright_any f t w
theorem Has_val (f t a : Int) (b : Bool) (w : World) (h : hasB f t a = b) :
    Calls Try.prog 16 #[.agg #[.int .u32 f, .int .u32 t], .int .u32 a] w fun e w' => e = .returned (.bool b) ∧ Below w.heap.size w w' := by
  subst h; exact Has_any f t a w
theorem rhas_val (f t a : Int) (b : Bool) (w : World) (h : hasB f t a = b) :
    Calls Try.prog 17 #[.agg #[.int .u32 f, .int .u32 t], .int .u32 a] w fun e w' => e = .returned (.bool b) ∧ Below w.heap.size w w' := by
  subst h; exact rhas_any f t a w

set_option maxHeartbeats 2000000 in
theorem one_walk1 (f t a n p x y x2 y2 s : Int) (b b2 r h : Bool) (w : World) (hf : 0 ≤ f) (hf' : f < 4294967296) (ht : 0 ≤ t) (ht' : t < 4294967296) (ha : 0 ≤ a) (ha' : a < 4294967296) (hn : -9223372036854775808 ≤ n) (hn' : n ≤ 9223372036854775807)
    (hp0 : 0 ≤ p) (hp8 : p ≤ 8) (Hp : Hid (pickV n = p)) (Hx : Hid (ofF a n = x)) (Hy : Hid (ofT a n = y)) (Hb : Hid (ofB a n = b)) (Hx2 : Hid (ofF a p = x2)) (Hy2 : Hid (ofT a p = y2)) (Hb2 : Hid (ofB a p = b2))
    (Hr : Hid (rightB f t = r)) (Hs : Hid (sizeV f t = s)) (Hh : Hid (hasB f t a = h)) :
    Calls Try.prog 3 #[.agg #[.int .u32 f, .int .u32 t], .int .u32 a, .int .i64 n] w fun e w' => e = .returned (.bool true) ∧ Below w.heap.size w w' := by
  go_enter Try.func3, Try.ntmps3
  go_wp2_with fail
  refine (Of_val a n x y b _ ha ha' hn hn' Hx.out Hy.out Hb.out).mono ?_
  rintro e w1 ⟨rfl, hb⟩
  have R := Lib.hid ((two_new w f t 24).keep hb)
  have B := Lib.hid (((Below.refl w.heap.size w).alloc (Nat.le_refl _) _).trans (hb.mono (by simp)))
  clear hb
  go_wp2_with fail
  refine (rOf_val a n x y b _ ha ha' hn hn' Hx.out Hy.out Hb.out).mono ?_
  rintro e w2 ⟨rfl, hb⟩
  have R := Lib.hid ((R.out.alloc _).keep hb)
  have A1 := Lib.hid ((two_new w1 x y _).keep hb)
  have B := Lib.hid ((B.out.alloc B.out.size _).trans (hb.mono (B.out.alloc B.out.size _).size))
  clear hb
  go_wp2_with fail
  refine (pick_any n _ hn hn').mono ?_
  rw [Hp.out]
  rintro e w3 ⟨rfl, rfl⟩
  go_wp2_with fail
  refine (Of_val a p x2 y2 b2 _ ha ha' (by omega) (by omega) Hx2.out Hy2.out Hb2.out).mono ?_
  rintro e w3 ⟨rfl, hb⟩
  have R := Lib.hid ((R.out.alloc _).keep hb)
  have A1 := Lib.hid ((A1.out.alloc _).keep hb)
  have A2 := Lib.hid ((two_new w2 x y _).keep hb)
  have B := Lib.hid ((B.out.alloc B.out.size _).trans (hb.mono (B.out.alloc B.out.size _).size))
  clear hb
  go_wp2_with fail
  refine (pick_any n _ hn hn').mono ?_
  rw [Hp.out]
  rintro e w4 ⟨rfl, rfl⟩
  go_wp2_with fail
  refine (rOf_val a p x2 y2 b2 _ ha ha' (by omega) (by omega) Hx2.out Hy2.out Hb2.out).mono ?_
  rintro e w4 ⟨rfl, hb⟩
  have R := Lib.hid ((R.out.alloc _).keep hb)
  have A1 := Lib.hid ((A1.out.alloc _).keep hb)
  have A2 := Lib.hid ((A2.out.alloc _).keep hb)
  have A3 := Lib.hid ((two_new w3 x2 y2 _).keep hb)
  have B := Lib.hid ((B.out.alloc B.out.size _).trans (hb.mono (B.out.alloc B.out.size _).size))
  clear hb
  go_wp2_with fail
  refine wp_region_ext (by kernel_rfl) (by kernel_rfl) ?_
  intro W hW
  have hb : Below w.heap.size w W := by rw [hW.out]; exact B.out.alloc B.out.size _
  have HbW := Lib.hid hb
  clear hb
  have r := R.out.alloc (.cells #[.int .u32 x2, .int .u32 y2] 24)
  have a1 := A1.out.alloc (.cells #[.int .u32 x2, .int .u32 y2] 24)
  have a2 := A2.out.alloc (.cells #[.int .u32 x2, .int .u32 y2] 24)
  have a3 := A3.out.alloc (.cells #[.int .u32 x2, .int .u32 y2] 24)
  have a4 := two_new w4 x2 y2 24
  rw [← hW.out] at r a1 a2 a3 a4
  have c0 := ext_cell r.1
  have c1 := ext_cell r.2
  have c2 := ext_cell a1.1
  have c3 := ext_cell a1.2
  have c4 := ext_cell a2.1
  have c5 := ext_cell a2.2
  have c6 := ext_cell a3.1
  have c7 := ext_cell a3.2
  have c8 := ext_cell a4.1
  have c9 := ext_cell a4.2
  clear r a1 a2 a3 a4 A1 A2 A3 R B
  repeat (go_big_quiet_step ((first
    | (go_at_call 12; exact ext_of (Right_val f t _ _ Hr.out))
    | (go_at_call 13; exact ext_of (rright_val f t _ _ Hr.out))
    | (go_at_call 14; exact ext_of (Size_val f t s _ hf hf' ht ht' Hs.out))
    | (go_at_call 15; exact ext_of (rSize_val f t s _ hf hf' ht ht' Hs.out))
    | (go_at_call 16; exact ext_of (Has_val f t a _ _ Hh.out))
    | (go_at_call 17; exact ext_of (rhas_val f t a _ _ Hh.out))
    | (go_at_call 18; exact ext_of (awake_any _)))))
  refine wpQuiet_nil ?_
  intro w' hw'
  obtain ⟨p, rfl⟩ := hw'
  go_wp2_with fail
  go_ret
  exact ⟨rfl, HbW.out.trans ((ext_below W p).mono HbW.out.size)⟩
theorem one_walk (f t a n : Int) (w : World) (hf : (Lit.int .u32 f).wf = true) (ht : (Lit.int .u32 t).wf = true) (ha : (Lit.int .u32 a).wf = true) (hn : (Lit.int .i64 n).wf = true) :
    Calls Try.prog 3 #[.agg #[.int .u32 f, .int .u32 t], .int .u32 a, .int .i64 n] w fun e w' => e = .returned (.bool true) ∧ Below w.heap.size w w' :=
  one_walk1 f t a n _ _ _ _ _ _ _ _ _ _ w (bounds_u32 hf).1 (Int.lt_add_one_of_le (bounds_u32 hf).2) (bounds_u32 ht).1 (Int.lt_add_one_of_le (bounds_u32 ht).2) (bounds_u32 ha).1 (Int.lt_add_one_of_le (bounds_u32 ha).2) (bounds_i64 hn).1 (bounds_i64 hn).2
    (pickV_bounds n).1 (pickV_bounds n).2 (Lib.hid rfl) (Lib.hid rfl) (Lib.hid rfl) (Lib.hid rfl) (Lib.hid rfl) (Lib.hid rfl) (Lib.hid rfl) (Lib.hid rfl) (Lib.hid rfl) (Lib.hid rfl)
end Go.Proofs.Ytpgjkoccanekeaa.Reach
