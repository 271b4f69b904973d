/- Contract of the document's Put. -/
import Derived.Test.YtcjmofiebkdgjaaDoorLq
namespace Go.Proofs.YtcjmofiebkdgjaaDoor.Lane
open Go.RowKit Go.Maps
set_option linter.unusedVariables false

set_option maxHeartbeats 1000000 in
theorem rPut_yes {s k : Nat} (hp : Place s k) (x y : Nat) (a n : Int) (w : World) (hx : x < 4294967296) (hy : y < 4294967296) (ha : 0 ≤ a) (ha' : a < 4294967296) (hs : a % 4 = s) (hk : n = k) :
    Calls Tryd.prog 24 #[.int .u32 x, .int .u32 a, .int .i64 n, .int .u32 y] w fun e w' => e = .returned (.tuple #[.int .u32 (pN x s k y), .bool true]) ∧ Below w.heap.size w w' := by
  subst hk
  have hal := al_place hp hs rfl
  have Al := fun w => rAligned_any a k true w ha ha' hal
  have hsz : Word.sizeB (k : Int) = true := by unfold alB at hal; rw [Bool.and_eq_true] at hal; exact hal.1
  have hk4 : k ≤ 4 ∧ 0 < k ∧ s + k ≤ 4 := by unfold Place at hp; omega
  obtain ⟨hk1, hk2, hk3⟩ := hk4
  have hm := tm4 ha
  rw [hs] at hm
  obtain ⟨c0, c1, c2, c3, hl, l0, l1, l2, l3, hv⟩ := st_all hp x y hx
  have Hl := Lib.hid hl
  have Hv := Lib.hid hv
  clear hl hv hal hs hp
  obtain ⟨t, ht⟩ : ∃ t, pN x s k y = t := ⟨_, rfl⟩
  have Ht := Lib.hid ht
  rw [ht]
  clear ht
  go_enter Tryd.func24, Tryd.ntmps24
  go_wp2_with fail
  refine (Al _).mono ?_
  rintro e w1 ⟨rfl, rfl⟩
  clear Al
  go_wp2_with fail
  refine (Word.rbytes_any x 4 hx rfl (by omega) _).mono ?_
  rintro e w1 ⟨b, c, rfl, hown, hb⟩
  obtain ⟨g, rfl⟩ := KitBytes.r_some hown (.inl (by omega))
  have hgl := (KitBytes.r_lt hown g ⟨_, rfl, rfl⟩)
  have h4 := KitBytes.r_le hown
  have R1 := Lib.hid hown
  have Hb := Lib.hid hb
  clear hown hb
  go_wp2_with fail
  refine (Word.rbytes_any y k hy hsz hk1 _).mono ?_
  rintro e w2 ⟨b2, c2, rfl, hown2, hb2⟩
  obtain ⟨g2, rfl⟩ := KitBytes.r_some hown2 (.inl hk2)
  have hgl2 := (KitBytes.r_lt hown2 g2 ⟨_, rfl, rfl⟩)
  have h42 := KitBytes.r_le hown2
  have R1 := Lib.hid (Word.bown_below R1.out hb2)
  have R2 := Lib.hid hown2
  have Hb := Lib.hid (Hb.out.trans (hb2.mono Hb.out.size))
  have hne : g ≠ g2 := by omega
  clear hown2 hb2
  go_wp2_with fail
  go_loopw [13] (fun i wr => ∃ j : Nat, j ≤ k ∧ i = .int .i64 j ∧ wr.ownsRow w.heap.size 5 1 (.slice (some ⟨g, 0, none⟩) 4 c) 4 (stL x y s j) ∧ wr.ownsRow w1.heap.size 5 1 (.slice (some ⟨g2, 0, none⟩) k c2) k (Word.bv (Word.bK y k)) ∧ Below w.heap.size w wr) (fun i _ => k - (intOf i).toNat)
  case atStart => exact ⟨0, by omega, rfl, R1.out, R2.out, Hb.out⟩
  case round =>
    obtain ⟨j, hj, rfl, r1, r2, hb⟩ := hrel
    have Hb := Lib.hid hb
    by_cases hlt : j < k
    · have hc2 := Word.bK_at r2 j hlt
      obtain ⟨u, hu⟩ : ∃ u, (stL x y s j)[s + j]? = some u := ⟨_, List.getElem?_eq_getElem (by rw [stL_len]; omega)⟩
      have hc1 := (KitBytes.r_cell r1 (show s + j < 4 by omega)).trans hu
      have hfr := r1.frozenAt (s + j)
      have hst := r1.stored (s + j) (.int .u8 ((y / 256 ^ j % 256 : Nat) : Int))
      have Hst := Lib.hid hst
      have R2 := Lib.hid r2
      clear hu hst r1 r2 hb R1
      go_wp2_with fail
      have e : ((y : Int) / 256 ^ j % 256) = ((y / 256 ^ j % 256 : Nat) : Int) := by simp
      rw [e]
      exact ⟨⟨j + 1, by omega, by go_num, Hst.out.1, R2.out.kept Hst.out.2 (.inr (by simp [Value.ownBlock]; omega)), Hb.out.grown Hst.out.2 Hb.out.size (fun k h => by cases h; exact hgl.1)⟩, by simp [intOf]; omega⟩
    · obtain rfl : j = k := by omega
      rw [Hl.out] at r1
      have q0 := KitBytes.r_cell r1 (j := 0) (by omega)
      have q1 := KitBytes.r_cell r1 (j := 1) (by omega)
      have q2 := KitBytes.r_cell r1 (j := 2) (by omega)
      have q3 := KitBytes.r_cell r1 (j := 3) (by omega)
      have Q0 := Lib.hid q0
      have Q1 := Lib.hid q1
      have Q2 := Lib.hid q2
      have Q3 := Lib.hid q3
      clear q0 q1 q2 q3 r1 r2 hb
      go_wp2_with fail
      refine (Word.rof_4 g 0 _ _ _ _ _ _ Q0.out (by omega) (by omega) Q1.out (by omega) (by omega) Q2.out (by omega) (by omega) Q3.out (by omega) (by omega)).mono ?_
      rintro e w3 ⟨rfl, rfl⟩
      go_wp2_with fail
      go_ret2
      exact ⟨Word.ret_int_bool (by rw [← Ht.out, ← Hv.out]) rfl, Hb.out⟩
theorem rPut_any (v a n d x : Int) (b : Bool) (w : World) (hv : 0 ≤ v) (hv' : v < 4294967296) (ha : 0 ≤ a) (ha' : a < 4294967296) (hd : 0 ≤ d) (hd' : d < 4294967296) (hx : putV v a n d = x) (hb : alB a n = b) :
    Calls Tryd.prog 24 #[.int .u32 v, .int .u32 a, .int .i64 n, .int .u32 d] w fun e w' => e = .returned (.tuple #[.int .u32 x, .bool b]) ∧ Below w.heap.size w w' := by
  subst hb
  by_cases h : alB a n = true
  · obtain ⟨s, k, hp, hs, hk, _⟩ := place_of h
    rw [h, ← hx, put_at hp hs hk]
    obtain ⟨y, rfl⟩ := Int.eq_ofNat_of_zero_le hv
    obtain ⟨z, rfl⟩ := Int.eq_ofNat_of_zero_le hd
    exact rPut_yes hp y z a n w (by omega) (by omega) ha ha' hs hk
  · have h' : alB a n = false := by simpa using h
    rw [h', ← hx, put_no h']
    exact rPut_no v a n d w ha ha' h'
end Go.Proofs.YtcjmofiebkdgjaaDoor.Lane
