/- THE STAGE's THEOREM, its walk: a word is the number of its four bytes. -/
import Derived.Test.YtijloekggfjaaaaDoorWf
import Derived.Test.YtijloekggfjaaaaDoorRow
import Derived.Test.YtijloekggfjaaaaDoorWt
namespace Go.Proofs.YtijloekggfjaaaaDoor.Word
open Go.RowKit Go.PlainAid Go.Maps
set_option linter.unusedVariables false

theorem cell_at (w : World) (cs : Array Value) (t : TypeId) (i : Nat) (v : Value) (h : cs[i]? = some v) : (w.alloc (.cells cs t)).cell? ⟨w.heap.size, i, none⟩ = some v :=
  (World.cell?_alloc_mark _ _ _ _ _).trans h
theorem ww_of1 (v : Int) (g : Nat) (w : World) (hg : w.heap.size = g) (h0 : 0 ≤ v) (h1 : v < 4294967296) :
    Calls Tryd.prog 29 #[.slice (some ⟨g, 0, none⟩) 1 1] (w.alloc (.cells #[.int .u8 (v % 256)] 5)) fun e w' => e = .returned (.tuple #[.int .u32 (v % 256), .bool true]) ∧ w.alloc (.cells #[.int .u8 (v % 256)] 5) = w' := by
  subst hg
  exact of_1 w.heap.size 0 1 (v % 256) _ (cell_at _ _ _ _ _ rfl) (by omega) (by omega)
theorem ww_of2 (v : Int) (g : Nat) (w : World) (hg : w.heap.size = g) (h0 : 0 ≤ v) (h1 : v < 4294967296) :
    Calls Tryd.prog 29 #[.slice (some ⟨g, 0, none⟩) 2 2] (w.alloc (.cells #[.int .u8 (v % 256), .int .u8 (v / 256 % 256)] 5)) fun e w' => e = .returned (.tuple #[.int .u32 (v % 65536), .bool true]) ∧ w.alloc (.cells #[.int .u8 (v % 256), .int .u8 (v / 256 % 256)] 5) = w' := by
  subst hg
  exact (of_2 w.heap.size 0 2 (v % 256) (v / 256 % 256) _ (cell_at _ _ _ _ _ rfl) (by omega) (by omega) (cell_at _ _ _ _ _ rfl) (by omega) (by omega)).mono fun e w' ⟨he, hw⟩ => ⟨he.trans (ret_int_bool (by omega) rfl), hw⟩
theorem ww_of4 (v : Int) (g : Nat) (w : World) (hg : w.heap.size = g) (h0 : 0 ≤ v) (h1 : v < 4294967296) :
    Calls Tryd.prog 29 #[.slice (some ⟨g, 0, none⟩) 4 4] (w.alloc (.cells #[.int .u8 (v % 256), .int .u8 (v / 256 % 256), .int .u8 (v / 65536 % 256), .int .u8 (v / 16777216)] 5)) fun e w' => e = .returned (.tuple #[.int .u32 v, .bool true]) ∧ w.alloc (.cells #[.int .u8 (v % 256), .int .u8 (v / 256 % 256), .int .u8 (v / 65536 % 256), .int .u8 (v / 16777216)] 5) = w' := by
  subst hg
  exact (of_4 w.heap.size 0 4 (v % 256) (v / 256 % 256) (v / 65536 % 256) (v / 16777216) _ (cell_at _ _ _ _ _ rfl) (by omega) (by omega) (cell_at _ _ _ _ _ rfl) (by omega) (by omega) (cell_at _ _ _ _ _ rfl) (by omega) (by omega) (cell_at _ _ _ _ _ rfl) (by omega) (by omega)).mono fun e w' ⟨he, hw⟩ => ⟨he.trans (ret_int_bool (by omega) rfl), hw⟩
theorem ww_low1 (v : Int) (w : World) (h0 : 0 ≤ v) (h1 : v < 4294967296) : Calls Tryd.prog 28 #[.int .u32 v, .int .i64 1] w fun e w' => e = .returned (.tuple #[.int .u32 (v % 256), .bool true]) ∧ w = w' := low_any v 1 w h0 h1
theorem ww_low2 (v : Int) (w : World) (h0 : 0 ≤ v) (h1 : v < 4294967296) : Calls Tryd.prog 28 #[.int .u32 v, .int .i64 2] w fun e w' => e = .returned (.tuple #[.int .u32 (v % 65536), .bool true]) ∧ w = w' := low_any v 2 w h0 h1
theorem ww_low4 (v : Int) (w : World) (h0 : 0 ≤ v) (h1 : v < 4294967296) : Calls Tryd.prog 28 #[.int .u32 v, .int .i64 4] w fun e w' => e = .returned (.tuple #[.int .u32 v, .bool true]) ∧ w = w' := low_any v 4 w h0 h1

theorem whole_long (v : Int) (a : Option Addr) (len cap : Nat) (w : World) (hl : 1000 < len) (hm : len ≤ maxLen) (ht : Tab w) :
    Calls Tryd.prog 7 #[.int .u32 v, .slice a len cap] w fun e w' => e = .returned (.bool true) ∧ Below w.heap.size w w' := by
  have hm' : len ≤ 9223372036854775807 := hm
  have Ht := Lib.hid ht
  clear ht
  go_enter Tryd.func7, Tryd.ntmps7
  go_wp2_with fail
  refine (awake_any _ Ht.out).mono ?_
  rintro e w1 ⟨rfl, hb1⟩
  have Hb := Lib.hid hb1
  clear hb1
  go_wp2_with fail
  go_ret
  exact ⟨rfl, Hb.out⟩

/-- Show, what it comes to. -/
def Shown (v : Int) (w : World) (e : Ending) (w' : World) : Prop := ∃ s : ByteArray, e = .returned (.string s) ∧ ((s.size : Int) == 10) = true ∧ s.size ≤ maxLen ∧ parseF (bts s) = some v ∧ Below w.heap.size w w'
theorem ww_show (v : Int) (w : World) (h0 : 0 ≤ v) (h1 : v < 4294967296) (ht : Tab w) : Calls Tryd.prog 25 #[.int .u32 v] w (Shown v w) :=
  (show_any v w h0 h1 ht).mono fun e w' ⟨he, hw⟩ => ⟨_, he, rfl, (by rw [size_show]; unfold maxLen; omega), (by rw [bts_show]; exact parseF_show h0 h1), hw⟩
theorem ww_parse (v : Int) (s : ByteArray) (w : World) (hs : s.size ≤ maxLen) (hp : parseF (bts s) = some v) (ht : Tab w) :
    Calls Tryd.prog 31 #[.string s] w fun e w' => e = .returned (.tuple #[.int .u32 v, .bool true]) ∧ Below w.heap.size w w' :=
  (parse_any s w hs ht).mono fun e w' ⟨he, hw⟩ => ⟨he.trans (ret_int_bool (by rw [hp]; rfl) (by rw [hp]; rfl)), hw⟩
theorem below_drewN {B : Nat} {w w' : World} (h : Below B w w') (n : Nat) : Below B w (w'.drewN n) := ⟨h.os, h.tape, h.output, h.size, h.block⟩
theorem ww_bytes1 (c0 : Int) (w : World) (l0 : 0 ≤ c0) (g0 : c0 < 256) :
    Calls Tryd.prog 27 #[.int .u32 (c0), .int .i64 1] w fun e w' => e = .returned (.slice (some ⟨w.heap.size, 0, none⟩) 1 1) ∧ (w.alloc (.cells #[.int .u8 c0] 5)) = w' :=
  (bytes_1 (c0) w (by omega) (by omega)).mono fun e w' ⟨he, hw⟩ => ⟨he, by
    rw [← hw]
    congr 2
    rw [show (c0) % 256 = c0 from by omega]⟩
theorem ww_same1 (b off cap : Nat) (c0 : Int) (w : World) (hlt : b < w.heap.size) (k0 : w.cell? ⟨b, off, none⟩ = some (.int .u8 c0)) :
    Calls Tryd.prog 30 #[.slice (some ⟨w.heap.size, 0, none⟩) 1 1, .slice (some ⟨b, off, none⟩) 1 cap] (w.alloc (.cells #[.int .u8 c0] 5)) fun e w' => e = .returned (.bool true) ∧ Below w.heap.size w w' := by
  refine (same_bytes w.heap.size 0 b off 1 1 cap [c0] [c0] _ (by omega) rfl rfl (fun i hi => ?_) (fun i hi => ?_)).mono fun e w' ⟨he, j, hw⟩ => ⟨he.trans (ret_bool (eqB_refl _)), ?_⟩
  · have h : i = 0 := by omega
    rcases h with rfl <;> exact World.cell?_alloc_mark _ _ _ _ _
  · have h : i = 0 := by omega
    rcases h with rfl
    · exact cell_old _ k0
  · subst hw
    exact below_drewN ((Below.refl _ w).alloc (Nat.le_refl _) _) _
theorem ww_bytes2 (c0 c1 : Int) (w : World) (l0 : 0 ≤ c0) (g0 : c0 < 256) (l1 : 0 ≤ c1) (g1 : c1 < 256) :
    Calls Tryd.prog 27 #[.int .u32 (c0 + c1 * 256), .int .i64 2] w fun e w' => e = .returned (.slice (some ⟨w.heap.size, 0, none⟩) 2 2) ∧ (w.alloc (.cells #[.int .u8 c0, .int .u8 c1] 5)) = w' :=
  (bytes_2 (c0 + c1 * 256) w (by omega) (by omega)).mono fun e w' ⟨he, hw⟩ => ⟨he, by
    rw [← hw]
    congr 2
    rw [show (c0 + c1 * 256) % 256 = c0 from by omega, show (c0 + c1 * 256) / 256 % 256 = c1 from by omega]⟩
theorem ww_same2 (b off cap : Nat) (c0 c1 : Int) (w : World) (hlt : b < w.heap.size) (k0 : w.cell? ⟨b, off, none⟩ = some (.int .u8 c0)) (k1 : w.cell? ⟨b, off + 1, none⟩ = some (.int .u8 c1)) :
    Calls Tryd.prog 30 #[.slice (some ⟨w.heap.size, 0, none⟩) 2 2, .slice (some ⟨b, off, none⟩) 2 cap] (w.alloc (.cells #[.int .u8 c0, .int .u8 c1] 5)) fun e w' => e = .returned (.bool true) ∧ Below w.heap.size w w' := by
  refine (same_bytes w.heap.size 0 b off 2 2 cap [c0, c1] [c0, c1] _ (by omega) rfl rfl (fun i hi => ?_) (fun i hi => ?_)).mono fun e w' ⟨he, j, hw⟩ => ⟨he.trans (ret_bool (eqB_refl _)), ?_⟩
  · have h : i = 0 ∨ i = 1 := by omega
    rcases h with rfl | rfl <;> exact World.cell?_alloc_mark _ _ _ _ _
  · have h : i = 0 ∨ i = 1 := by omega
    rcases h with rfl | rfl
    · exact cell_old _ k0
    · exact cell_old _ k1
  · subst hw
    exact below_drewN ((Below.refl _ w).alloc (Nat.le_refl _) _) _
theorem ww_bytes4 (c0 c1 c2 c3 : Int) (w : World) (l0 : 0 ≤ c0) (g0 : c0 < 256) (l1 : 0 ≤ c1) (g1 : c1 < 256) (l2 : 0 ≤ c2) (g2 : c2 < 256) (l3 : 0 ≤ c3) (g3 : c3 < 256) :
    Calls Tryd.prog 27 #[.int .u32 (c0 + c1 * 256 + c2 * 65536 + c3 * 16777216), .int .i64 4] w fun e w' => e = .returned (.slice (some ⟨w.heap.size, 0, none⟩) 4 4) ∧ (w.alloc (.cells #[.int .u8 c0, .int .u8 c1, .int .u8 c2, .int .u8 c3] 5)) = w' :=
  (bytes_4 (c0 + c1 * 256 + c2 * 65536 + c3 * 16777216) w (by omega) (by omega)).mono fun e w' ⟨he, hw⟩ => ⟨he, by
    rw [← hw]
    congr 2
    rw [show (c0 + c1 * 256 + c2 * 65536 + c3 * 16777216) % 256 = c0 from by omega, show (c0 + c1 * 256 + c2 * 65536 + c3 * 16777216) / 256 % 256 = c1 from by omega, show (c0 + c1 * 256 + c2 * 65536 + c3 * 16777216) / 65536 % 256 = c2 from by omega, show (c0 + c1 * 256 + c2 * 65536 + c3 * 16777216) / 16777216 = c3 from by omega]⟩
theorem ww_same4 (b off cap : Nat) (c0 c1 c2 c3 : Int) (w : World) (hlt : b < w.heap.size) (k0 : w.cell? ⟨b, off, none⟩ = some (.int .u8 c0)) (k1 : w.cell? ⟨b, off + 1, none⟩ = some (.int .u8 c1)) (k2 : w.cell? ⟨b, off + 2, none⟩ = some (.int .u8 c2)) (k3 : w.cell? ⟨b, off + 3, none⟩ = some (.int .u8 c3)) :
    Calls Tryd.prog 30 #[.slice (some ⟨w.heap.size, 0, none⟩) 4 4, .slice (some ⟨b, off, none⟩) 4 cap] (w.alloc (.cells #[.int .u8 c0, .int .u8 c1, .int .u8 c2, .int .u8 c3] 5)) fun e w' => e = .returned (.bool true) ∧ Below w.heap.size w w' := by
  refine (same_bytes w.heap.size 0 b off 4 4 cap [c0, c1, c2, c3] [c0, c1, c2, c3] _ (by omega) rfl rfl (fun i hi => ?_) (fun i hi => ?_)).mono fun e w' ⟨he, j, hw⟩ => ⟨he.trans (ret_bool (eqB_refl _)), ?_⟩
  · have h : i = 0 ∨ i = 1 ∨ i = 2 ∨ i = 3 := by omega
    rcases h with rfl | rfl | rfl | rfl <;> exact World.cell?_alloc_mark _ _ _ _ _
  · have h : i = 0 ∨ i = 1 ∨ i = 2 ∨ i = 3 := by omega
    rcases h with rfl | rfl | rfl | rfl
    · exact cell_old _ k0
    · exact cell_old _ k1
    · exact cell_old _ k2
    · exact cell_old _ k3
  · subst hw
    exact below_drewN ((Below.refl _ w).alloc (Nat.le_refl _) _) _

set_option maxHeartbeats 400000 in
theorem whole_no (v : Int) (a : Option Addr) (len cap : Nat) (w : World) (h0 : 0 ≤ v) (h1 : v < 4294967296) (hl : ¬ 1000 < len) (hrow : sizeB len = false) (ht : Tab w) :
    Calls Tryd.prog 7 #[.int .u32 v, .slice a len cap] w fun e w' => e = .returned (.bool true) ∧ Below w.heap.size w w' := by
  have Ht := Lib.hid ht
  have Hrow := Lib.hid hrow
  clear ht hrow
  go_enter Tryd.func7, Tryd.ntmps7
  go_wp2_with fail
  refine (awake_any _ Ht.out).mono ?_
  rintro e w1 ⟨rfl, hb1⟩
  have Hb := Lib.hid hb1
  clear hb1
  go_wp2_with fail
  refine wp_loop_rounds 4 ?_
  rw [rounds_succ]
  go_wp2_with fail
  refine (ww_low1 v _ h0 h1).mono ?_
  rintro e w' ⟨rfl, rfl⟩
  go_wp2_with fail
  refine (bytes_1 v _ h0 h1).mono ?_
  rintro e w' ⟨rfl, rfl⟩
  go_wp2_with fail
  refine (ww_of1 v _ _ (by simp) h0 h1).mono ?_
  rintro e w' ⟨rfl, rfl⟩
  go_wp2_with fail
  rw [rounds_succ]
  go_wp2_with fail
  refine (ww_low2 v _ h0 h1).mono ?_
  rintro e w' ⟨rfl, rfl⟩
  go_wp2_with fail
  refine (bytes_2 v _ h0 h1).mono ?_
  rintro e w' ⟨rfl, rfl⟩
  go_wp2_with fail
  refine (ww_of2 v _ _ (by simp) h0 h1).mono ?_
  rintro e w' ⟨rfl, rfl⟩
  go_wp2_with fail
  rw [rounds_succ]
  go_wp2_with fail
  refine (ww_low4 v _ h0 h1).mono ?_
  rintro e w' ⟨rfl, rfl⟩
  go_wp2_with fail
  refine (bytes_4 v _ h0 h1).mono ?_
  rintro e w' ⟨rfl, rfl⟩
  go_wp2_with fail
  refine (ww_of4 v _ _ (by simp) h0 h1).mono ?_
  rintro e w' ⟨rfl, rfl⟩
  go_wp2_with fail
  rw [rounds_succ]
  go_wp2_with fail
  obtain ⟨w2, hw2⟩ : ∃ w2, ((w1.alloc (.cells #[.int .u8 (v % 256)] 5)).alloc (.cells #[.int .u8 (v % 256), .int .u8 (v / 256 % 256)] 5)).alloc (.cells #[.int .u8 (v % 256), .int .u8 (v / 256 % 256), .int .u8 (v / 65536 % 256), .int .u8 (v / 16777216)] 5) = w2 := ⟨_, rfl⟩
  have Hb2 : Hid (Below w.heap.size w w2) := by
    have := ((Hb.out.alloc Hb.out.size (.cells #[.int .u8 (v % 256)] 5)).alloc (by simp; have := Hb.out.size; omega) (.cells #[.int .u8 (v % 256), .int .u8 (v / 256 % 256)] 5)).alloc (by simp; have := Hb.out.size; omega) (.cells #[.int .u8 (v % 256), .int .u8 (v / 256 % 256), .int .u8 (v / 65536 % 256), .int .u8 (v / 16777216)] 5)
    rw [hw2] at this
    exact this
  rw [hw2]
  clear hw2 Hb
  refine (of_no _ _ _ _ Hrow.out).mono ?_
  rintro e w' ⟨rfl, rfl⟩
  have Hb3 := Hb2
  go_wp2_with fail
  refine (ww_show v _ h0 h1 (Ht.out.below Hb3.out)).mono ?_
  rintro e w4 ⟨s, rfl, hs10, hs, hp, hb4⟩
  have Hs := Lib.hid hs
  have Hp := Lib.hid hp
  have Hb4 := Lib.hid (Hb3.out.trans (hb4.mono Hb3.out.size))
  clear hs hp hb4
  go_wp2_with fail
  refine (ww_parse v s _ Hs.out Hp.out (Ht.out.below Hb4.out)).mono ?_
  rintro e w5 ⟨rfl, hb5⟩
  have Hb5 := Lib.hid (Hb4.out.trans (hb5.mono Hb4.out.size))
  clear hb5
  go_wp2_with fail
  go_ret
  exact ⟨rfl, Hb5.out⟩

set_option maxHeartbeats 400000 in
theorem whole_1 (v : Int) (b off cap : Nat) (c0 : Int) (w : World) (h0 : 0 ≤ v) (h1 : v < 4294967296) (l0 : 0 ≤ c0) (g0 : c0 < 256) (hlt : b < w.heap.size)
    (hrow : w.cell? ⟨b, off, none⟩ = some (.int .u8 c0)) (ht : Tab w) :
    Calls Tryd.prog 7 #[.int .u32 v, .slice (some ⟨b, off, none⟩) 1 cap] w fun e w' => e = .returned (.bool true) ∧ Below w.heap.size w w' := by
  have Ht := Lib.hid ht
  have Hrow := Lib.hid hrow
  clear ht hrow
  go_enter Tryd.func7, Tryd.ntmps7
  go_wp2_with fail
  refine (awake_any _ Ht.out).mono ?_
  rintro e w1 ⟨rfl, hb1⟩
  have Hb := Lib.hid hb1
  clear hb1
  go_wp2_with fail
  refine wp_loop_rounds 4 ?_
  rw [rounds_succ]
  go_wp2_with fail
  refine (ww_low1 v _ h0 h1).mono ?_
  rintro e w' ⟨rfl, rfl⟩
  go_wp2_with fail
  refine (bytes_1 v _ h0 h1).mono ?_
  rintro e w' ⟨rfl, rfl⟩
  go_wp2_with fail
  refine (ww_of1 v _ _ (by simp) h0 h1).mono ?_
  rintro e w' ⟨rfl, rfl⟩
  go_wp2_with fail
  rw [rounds_succ]
  go_wp2_with fail
  refine (ww_low2 v _ h0 h1).mono ?_
  rintro e w' ⟨rfl, rfl⟩
  go_wp2_with fail
  refine (bytes_2 v _ h0 h1).mono ?_
  rintro e w' ⟨rfl, rfl⟩
  go_wp2_with fail
  refine (ww_of2 v _ _ (by simp) h0 h1).mono ?_
  rintro e w' ⟨rfl, rfl⟩
  go_wp2_with fail
  rw [rounds_succ]
  go_wp2_with fail
  refine (ww_low4 v _ h0 h1).mono ?_
  rintro e w' ⟨rfl, rfl⟩
  go_wp2_with fail
  refine (bytes_4 v _ h0 h1).mono ?_
  rintro e w' ⟨rfl, rfl⟩
  go_wp2_with fail
  refine (ww_of4 v _ _ (by simp) h0 h1).mono ?_
  rintro e w' ⟨rfl, rfl⟩
  go_wp2_with fail
  rw [rounds_succ]
  go_wp2_with fail
  obtain ⟨w2, hw2⟩ : ∃ w2, ((w1.alloc (.cells #[.int .u8 (v % 256)] 5)).alloc (.cells #[.int .u8 (v % 256), .int .u8 (v / 256 % 256)] 5)).alloc (.cells #[.int .u8 (v % 256), .int .u8 (v / 256 % 256), .int .u8 (v / 65536 % 256), .int .u8 (v / 16777216)] 5) = w2 := ⟨_, rfl⟩
  have Hb2 : Hid (Below w.heap.size w w2) := by
    have := ((Hb.out.alloc Hb.out.size (.cells #[.int .u8 (v % 256)] 5)).alloc (by simp; have := Hb.out.size; omega) (.cells #[.int .u8 (v % 256), .int .u8 (v / 256 % 256)] 5)).alloc (by simp; have := Hb.out.size; omega) (.cells #[.int .u8 (v % 256), .int .u8 (v / 256 % 256), .int .u8 (v / 65536 % 256), .int .u8 (v / 16777216)] 5)
    rw [hw2] at this
    exact this
  rw [hw2]
  clear hw2 Hb
  have r0 := Lib.hid ((Hb2.out.cell (p := ⟨b, off, none⟩) hlt).trans Hrow.out)
  refine (of_1 b off cap c0 _ r0.out l0 g0).mono ?_
  rintro e w' ⟨rfl, rfl⟩
  go_wp2_with fail
  refine (ww_bytes1 c0 _ l0 g0).mono ?_
  rintro e w' ⟨rfl, rfl⟩
  go_wp2_with fail
  refine (ww_same1 b off cap c0 _ (Nat.lt_of_lt_of_le hlt Hb2.out.size) r0.out).mono ?_
  rintro e w3 ⟨rfl, hb3⟩
  have Hb3 := Lib.hid (Hb2.out.trans (hb3.mono Hb2.out.size))
  clear hb3
  go_wp2_with fail
  refine (ww_show v _ h0 h1 (Ht.out.below Hb3.out)).mono ?_
  rintro e w4 ⟨s, rfl, hs10, hs, hp, hb4⟩
  have Hs := Lib.hid hs
  have Hp := Lib.hid hp
  have Hb4 := Lib.hid (Hb3.out.trans (hb4.mono Hb3.out.size))
  clear hs hp hb4
  go_wp2_with fail
  refine (ww_parse v s _ Hs.out Hp.out (Ht.out.below Hb4.out)).mono ?_
  rintro e w5 ⟨rfl, hb5⟩
  have Hb5 := Lib.hid (Hb4.out.trans (hb5.mono Hb4.out.size))
  clear hb5
  go_wp2_with fail
  go_ret
  exact ⟨rfl, Hb5.out⟩

set_option maxHeartbeats 400000 in
theorem whole_2 (v : Int) (b off cap : Nat) (c0 c1 : Int) (w : World) (h0 : 0 ≤ v) (h1 : v < 4294967296) (l0 : 0 ≤ c0) (g0 : c0 < 256) (l1 : 0 ≤ c1) (g1 : c1 < 256) (hlt : b < w.heap.size)
    (hrow : w.cell? ⟨b, off, none⟩ = some (.int .u8 c0) ∧ w.cell? ⟨b, off + 1, none⟩ = some (.int .u8 c1)) (ht : Tab w) :
    Calls Tryd.prog 7 #[.int .u32 v, .slice (some ⟨b, off, none⟩) 2 cap] w fun e w' => e = .returned (.bool true) ∧ Below w.heap.size w w' := by
  have Ht := Lib.hid ht
  have Hrow := Lib.hid hrow
  clear ht hrow
  go_enter Tryd.func7, Tryd.ntmps7
  go_wp2_with fail
  refine (awake_any _ Ht.out).mono ?_
  rintro e w1 ⟨rfl, hb1⟩
  have Hb := Lib.hid hb1
  clear hb1
  go_wp2_with fail
  refine wp_loop_rounds 4 ?_
  rw [rounds_succ]
  go_wp2_with fail
  refine (ww_low1 v _ h0 h1).mono ?_
  rintro e w' ⟨rfl, rfl⟩
  go_wp2_with fail
  refine (bytes_1 v _ h0 h1).mono ?_
  rintro e w' ⟨rfl, rfl⟩
  go_wp2_with fail
  refine (ww_of1 v _ _ (by simp) h0 h1).mono ?_
  rintro e w' ⟨rfl, rfl⟩
  go_wp2_with fail
  rw [rounds_succ]
  go_wp2_with fail
  refine (ww_low2 v _ h0 h1).mono ?_
  rintro e w' ⟨rfl, rfl⟩
  go_wp2_with fail
  refine (bytes_2 v _ h0 h1).mono ?_
  rintro e w' ⟨rfl, rfl⟩
  go_wp2_with fail
  refine (ww_of2 v _ _ (by simp) h0 h1).mono ?_
  rintro e w' ⟨rfl, rfl⟩
  go_wp2_with fail
  rw [rounds_succ]
  go_wp2_with fail
  refine (ww_low4 v _ h0 h1).mono ?_
  rintro e w' ⟨rfl, rfl⟩
  go_wp2_with fail
  refine (bytes_4 v _ h0 h1).mono ?_
  rintro e w' ⟨rfl, rfl⟩
  go_wp2_with fail
  refine (ww_of4 v _ _ (by simp) h0 h1).mono ?_
  rintro e w' ⟨rfl, rfl⟩
  go_wp2_with fail
  rw [rounds_succ]
  go_wp2_with fail
  obtain ⟨w2, hw2⟩ : ∃ w2, ((w1.alloc (.cells #[.int .u8 (v % 256)] 5)).alloc (.cells #[.int .u8 (v % 256), .int .u8 (v / 256 % 256)] 5)).alloc (.cells #[.int .u8 (v % 256), .int .u8 (v / 256 % 256), .int .u8 (v / 65536 % 256), .int .u8 (v / 16777216)] 5) = w2 := ⟨_, rfl⟩
  have Hb2 : Hid (Below w.heap.size w w2) := by
    have := ((Hb.out.alloc Hb.out.size (.cells #[.int .u8 (v % 256)] 5)).alloc (by simp; have := Hb.out.size; omega) (.cells #[.int .u8 (v % 256), .int .u8 (v / 256 % 256)] 5)).alloc (by simp; have := Hb.out.size; omega) (.cells #[.int .u8 (v % 256), .int .u8 (v / 256 % 256), .int .u8 (v / 65536 % 256), .int .u8 (v / 16777216)] 5)
    rw [hw2] at this
    exact this
  rw [hw2]
  clear hw2 Hb
  have r0 := Lib.hid ((Hb2.out.cell (p := ⟨b, off, none⟩) hlt).trans Hrow.out.1)
  have r1 := Lib.hid ((Hb2.out.cell (p := ⟨b, off + 1, none⟩) hlt).trans Hrow.out.2)
  refine (of_2 b off cap c0 c1 _ r0.out l0 g0 r1.out l1 g1).mono ?_
  rintro e w' ⟨rfl, rfl⟩
  go_wp2_with fail
  refine (ww_bytes2 c0 c1 _ l0 g0 l1 g1).mono ?_
  rintro e w' ⟨rfl, rfl⟩
  go_wp2_with fail
  refine (ww_same2 b off cap c0 c1 _ (Nat.lt_of_lt_of_le hlt Hb2.out.size) r0.out r1.out).mono ?_
  rintro e w3 ⟨rfl, hb3⟩
  have Hb3 := Lib.hid (Hb2.out.trans (hb3.mono Hb2.out.size))
  clear hb3
  go_wp2_with fail
  refine (ww_show v _ h0 h1 (Ht.out.below Hb3.out)).mono ?_
  rintro e w4 ⟨s, rfl, hs10, hs, hp, hb4⟩
  have Hs := Lib.hid hs
  have Hp := Lib.hid hp
  have Hb4 := Lib.hid (Hb3.out.trans (hb4.mono Hb3.out.size))
  clear hs hp hb4
  go_wp2_with fail
  refine (ww_parse v s _ Hs.out Hp.out (Ht.out.below Hb4.out)).mono ?_
  rintro e w5 ⟨rfl, hb5⟩
  have Hb5 := Lib.hid (Hb4.out.trans (hb5.mono Hb4.out.size))
  clear hb5
  go_wp2_with fail
  go_ret
  exact ⟨rfl, Hb5.out⟩

set_option maxHeartbeats 400000 in
theorem whole_4 (v : Int) (b off cap : Nat) (c0 c1 c2 c3 : Int) (w : World) (h0 : 0 ≤ v) (h1 : v < 4294967296) (l0 : 0 ≤ c0) (g0 : c0 < 256) (l1 : 0 ≤ c1) (g1 : c1 < 256) (l2 : 0 ≤ c2) (g2 : c2 < 256) (l3 : 0 ≤ c3) (g3 : c3 < 256) (hlt : b < w.heap.size)
    (hrow : w.cell? ⟨b, off, none⟩ = some (.int .u8 c0) ∧ w.cell? ⟨b, off + 1, none⟩ = some (.int .u8 c1) ∧ w.cell? ⟨b, off + 2, none⟩ = some (.int .u8 c2) ∧ w.cell? ⟨b, off + 3, none⟩ = some (.int .u8 c3)) (ht : Tab w) :
    Calls Tryd.prog 7 #[.int .u32 v, .slice (some ⟨b, off, none⟩) 4 cap] w fun e w' => e = .returned (.bool true) ∧ Below w.heap.size w w' := by
  have Ht := Lib.hid ht
  have Hrow := Lib.hid hrow
  clear ht hrow
  go_enter Tryd.func7, Tryd.ntmps7
  go_wp2_with fail
  refine (awake_any _ Ht.out).mono ?_
  rintro e w1 ⟨rfl, hb1⟩
  have Hb := Lib.hid hb1
  clear hb1
  go_wp2_with fail
  refine wp_loop_rounds 4 ?_
  rw [rounds_succ]
  go_wp2_with fail
  refine (ww_low1 v _ h0 h1).mono ?_
  rintro e w' ⟨rfl, rfl⟩
  go_wp2_with fail
  refine (bytes_1 v _ h0 h1).mono ?_
  rintro e w' ⟨rfl, rfl⟩
  go_wp2_with fail
  refine (ww_of1 v _ _ (by simp) h0 h1).mono ?_
  rintro e w' ⟨rfl, rfl⟩
  go_wp2_with fail
  rw [rounds_succ]
  go_wp2_with fail
  refine (ww_low2 v _ h0 h1).mono ?_
  rintro e w' ⟨rfl, rfl⟩
  go_wp2_with fail
  refine (bytes_2 v _ h0 h1).mono ?_
  rintro e w' ⟨rfl, rfl⟩
  go_wp2_with fail
  refine (ww_of2 v _ _ (by simp) h0 h1).mono ?_
  rintro e w' ⟨rfl, rfl⟩
  go_wp2_with fail
  rw [rounds_succ]
  go_wp2_with fail
  refine (ww_low4 v _ h0 h1).mono ?_
  rintro e w' ⟨rfl, rfl⟩
  go_wp2_with fail
  refine (bytes_4 v _ h0 h1).mono ?_
  rintro e w' ⟨rfl, rfl⟩
  go_wp2_with fail
  refine (ww_of4 v _ _ (by simp) h0 h1).mono ?_
  rintro e w' ⟨rfl, rfl⟩
  go_wp2_with fail
  rw [rounds_succ]
  go_wp2_with fail
  obtain ⟨w2, hw2⟩ : ∃ w2, ((w1.alloc (.cells #[.int .u8 (v % 256)] 5)).alloc (.cells #[.int .u8 (v % 256), .int .u8 (v / 256 % 256)] 5)).alloc (.cells #[.int .u8 (v % 256), .int .u8 (v / 256 % 256), .int .u8 (v / 65536 % 256), .int .u8 (v / 16777216)] 5) = w2 := ⟨_, rfl⟩
  have Hb2 : Hid (Below w.heap.size w w2) := by
    have := ((Hb.out.alloc Hb.out.size (.cells #[.int .u8 (v % 256)] 5)).alloc (by simp; have := Hb.out.size; omega) (.cells #[.int .u8 (v % 256), .int .u8 (v / 256 % 256)] 5)).alloc (by simp; have := Hb.out.size; omega) (.cells #[.int .u8 (v % 256), .int .u8 (v / 256 % 256), .int .u8 (v / 65536 % 256), .int .u8 (v / 16777216)] 5)
    rw [hw2] at this
    exact this
  rw [hw2]
  clear hw2 Hb
  have r0 := Lib.hid ((Hb2.out.cell (p := ⟨b, off, none⟩) hlt).trans Hrow.out.1)
  have r1 := Lib.hid ((Hb2.out.cell (p := ⟨b, off + 1, none⟩) hlt).trans Hrow.out.2.1)
  have r2 := Lib.hid ((Hb2.out.cell (p := ⟨b, off + 2, none⟩) hlt).trans Hrow.out.2.2.1)
  have r3 := Lib.hid ((Hb2.out.cell (p := ⟨b, off + 3, none⟩) hlt).trans Hrow.out.2.2.2)
  refine (of_4 b off cap c0 c1 c2 c3 _ r0.out l0 g0 r1.out l1 g1 r2.out l2 g2 r3.out l3 g3).mono ?_
  rintro e w' ⟨rfl, rfl⟩
  go_wp2_with fail
  refine (ww_bytes4 c0 c1 c2 c3 _ l0 g0 l1 g1 l2 g2 l3 g3).mono ?_
  rintro e w' ⟨rfl, rfl⟩
  go_wp2_with fail
  refine (ww_same4 b off cap c0 c1 c2 c3 _ (Nat.lt_of_lt_of_le hlt Hb2.out.size) r0.out r1.out r2.out r3.out).mono ?_
  rintro e w3 ⟨rfl, hb3⟩
  have Hb3 := Lib.hid (Hb2.out.trans (hb3.mono Hb2.out.size))
  clear hb3
  go_wp2_with fail
  refine (ww_show v _ h0 h1 (Ht.out.below Hb3.out)).mono ?_
  rintro e w4 ⟨s, rfl, hs10, hs, hp, hb4⟩
  have Hs := Lib.hid hs
  have Hp := Lib.hid hp
  have Hb4 := Lib.hid (Hb3.out.trans (hb4.mono Hb3.out.size))
  clear hs hp hb4
  go_wp2_with fail
  refine (ww_parse v s _ Hs.out Hp.out (Ht.out.below Hb4.out)).mono ?_
  rintro e w5 ⟨rfl, hb5⟩
  have Hb5 := Lib.hid (Hb4.out.trans (hb5.mono Hb4.out.size))
  clear hb5
  go_wp2_with fail
  go_ret
  exact ⟨rfl, Hb5.out⟩

theorem whole_walk (v : Int) (a : Option Addr) (len cap : Nat) (l : List Int) (w : World) (hv : (Lit.int .u32 v).wf = true) (hr : Row .u8 w a len l) (ht : Tab w) :
    Calls Tryd.prog 7 #[.int .u32 v, .slice a len cap] w fun e w' => e = .returned (.bool true) ∧ Below w.heap.size w w' := by
  obtain ⟨h0, h1⟩ := bounds_u32 hv
  obtain ⟨hl, hm, hwf, hrow⟩ := hr
  by_cases hlong : 1000 < len
  · exact whole_long v a len cap w hlong hm ht
  by_cases hn : sizeB len = true
  · have hb : ∀ i, i < len → 0 ≤ l.getD i 0 ∧ l.getD i 0 < 256 := fun i hi => by
      have := bounds_u8 (hwf l[i] (List.getElem_mem (by omega)))
      simp [List.getD_eq_getElem?_getD, List.getElem?_eq_getElem (show i < l.length by omega)]
      omega
    rcases sizeB_yes hn with h | h | h
    · obtain rfl : len = 1 := by omega
      rcases hrow with h | ⟨b, off, rfl, hlt, hc⟩
      · omega
      exact whole_1 v b off cap _ w h0 (by omega) (hb 0 (by omega)).1 (hb 0 (by omega)).2 hlt (hc 0 (by omega)) ht
    · obtain rfl : len = 2 := by omega
      rcases hrow with h | ⟨b, off, rfl, hlt, hc⟩
      · omega
      exact whole_2 v b off cap _ _ w h0 (by omega) (hb 0 (by omega)).1 (hb 0 (by omega)).2 (hb 1 (by omega)).1 (hb 1 (by omega)).2 hlt ⟨hc 0 (by omega), hc 1 (by omega)⟩ ht
    · obtain rfl : len = 4 := by omega
      rcases hrow with h | ⟨b, off, rfl, hlt, hc⟩
      · omega
      exact whole_4 v b off cap _ _ _ _ w h0 (by omega) (hb 0 (by omega)).1 (hb 0 (by omega)).2 (hb 1 (by omega)).1 (hb 1 (by omega)).2 (hb 2 (by omega)).1 (hb 2 (by omega)).2 (hb 3 (by omega)).1 (hb 3 (by omega)).2 hlt ⟨hc 0 (by omega), hc 1 (by omega), hc 2 (by omega), hc 3 (by omega)⟩ ht
  · exact whole_no v a len cap w h0 (by omega) hlong (by simpa using hn) ht
end Go.Proofs.YtijloekggfjaaaaDoor.Word
