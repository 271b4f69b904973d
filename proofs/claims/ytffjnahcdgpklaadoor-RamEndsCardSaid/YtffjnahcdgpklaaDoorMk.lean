/- The walk of RamEnds. -/
import Derived.Test.YtffjnahcdgpklaaDoorMg
namespace Go.Proofs.YtffjnahcdgpklaaDoor.Ram
open Go.RowKit Go.Maps Go.ChangeShapes Go.WideShapes Go.ChangeAt Fifo Orow Word
set_option linter.unusedVariables false

theorem siz_at {i : Nat} (h : i < 13) : ∃ z, sizL[i]? = some (.int .i64 z) ∧ I64 z := by
  unfold I64
  match i, h with
  | 0, _ => exact ⟨_, rfl, by omega⟩
  | 1, _ => exact ⟨_, rfl, by omega⟩
  | 2, _ => exact ⟨_, rfl, by omega⟩
  | 3, _ => exact ⟨_, rfl, by omega⟩
  | 4, _ => exact ⟨_, rfl, by omega⟩
  | 5, _ => exact ⟨_, rfl, by omega⟩
  | 6, _ => exact ⟨_, rfl, by omega⟩
  | 7, _ => exact ⟨_, rfl, by omega⟩
  | 8, _ => exact ⟨_, rfl, by omega⟩
  | 9, _ => exact ⟨_, rfl, by omega⟩
  | 10, _ => exact ⟨_, rfl, by omega⟩
  | 11, _ => exact ⟨_, rfl, by omega⟩
  | 12, _ => exact ⟨_, rfl, by omega⟩
theorem off_at {i : Nat} (h : i < 8) : ∃ z, offL[i]? = some (.int .i64 z) ∧ I64 z := by
  unfold I64
  match i, h with
  | 0, _ => exact ⟨_, rfl, by omega⟩
  | 1, _ => exact ⟨_, rfl, by omega⟩
  | 2, _ => exact ⟨_, rfl, by omega⟩
  | 3, _ => exact ⟨_, rfl, by omega⟩
  | 4, _ => exact ⟨_, rfl, by omega⟩
  | 5, _ => exact ⟨_, rfl, by omega⟩
  | 6, _ => exact ⟨_, rfl, by omega⟩
  | 7, _ => exact ⟨_, rfl, by omega⟩
theorem fiv_at {i : Nat} (h : i < 5) : ∃ z, fivL[i]? = some (.int .i64 z) ∧ 0 ≤ z ∧ z ≤ 8 := by
  match i, h with
  | 0, _ => exact ⟨_, rfl, by omega⟩
  | 1, _ => exact ⟨_, rfl, by omega⟩
  | 2, _ => exact ⟨_, rfl, by omega⟩
  | 3, _ => exact ⟨_, rfl, by omega⟩
  | 4, _ => exact ⟨_, rfl, by omega⟩
theorem info_d : (Tryd.prog.info? 33).map (fun i => (i.zero, i.size, i.bytes)) = some (some (.agg #[.int .i64 0, .int .i64 0, .int .i64 0, .int .u32 0]), 4, 32) := by kernel_rfl
def lastL : List Dd := [⟨0, 4088, 4, 4275878552⟩, ⟨0, 4092, 4, 305419896⟩, ⟨0, 4095, 1, 9⟩, ⟨0, 4096, 1, 9⟩, ⟨4, 0, 0, 5⟩, ⟨2, 4092, 2, 0⟩, ⟨3, 0, 0, 0⟩]
theorem last_ok : ∀ j, j < lastL.length → okDd lastL[j]! := by
  intro j hj
  have hj : j < 7 := hj
  have h : j = 0 ∨ j = 1 ∨ j = 2 ∨ j = 3 ∨ j = 4 ∨ j = 5 ∨ j = 6 := by omega
  rcases h with rfl | rfl | rfl | rfl | rfl | rfl | rfl <;> exact ⟨by decide, by decide, by decide, by decide⟩
theorem last_row (w : World) : RowDd (w.alloc (.cells #[.int .i64 0, .int .i64 4088, .int .i64 4, .int .u32 4275878552, .int .i64 0, .int .i64 4092, .int .i64 4, .int .u32 305419896, .int .i64 0, .int .i64 4095, .int .i64 1, .int .u32 9, .int .i64 0, .int .i64 4096, .int .i64 1, .int .u32 9, .int .i64 4, .int .i64 0, .int .i64 0, .int .u32 5, .int .i64 2, .int .i64 4092, .int .i64 2, .int .u32 0, .int .i64 3, .int .i64 0, .int .i64 0, .int .u32 0] 33)) (some ⟨w.heap.size, 0, none⟩) 7 lastL := rowDd_new w lastL _ last_ok
theorem cells_new2 (w : World) (o : Obj) (l : List Value) (t : TypeId) : ∀ j u, l[j]? = some u → ((w.alloc o).alloc (.cells l.toArray t)).cell? ((⟨w.heap.size + 1, 0, none⟩ : Addr).add j) = some u := by
  have e : (w.alloc o).heap.size = w.heap.size + 1 := by simp
  rw [← e]
  exact cells_new (w.alloc o) l t
theorem grow_row {w : World} {B n : Nat} {v : Value} {d : List Dd} {p q r s : Int} (h : w.ownsRow B 33 4 v n (flDd d ++ [.int .i64 p, .int .i64 q, .int .i64 r, .int .u32 s])) : w.ownsRow B 33 4 v n (flDd (d ++ [⟨p, q, r, s⟩])) := by
  rw [flDd_snoc]; exact h
theorem ok_mk {p q r s : Int} (h1 : I64 p) (h2 : I64 q) (h3 : I64 r) (h4 : 0 ≤ s ∧ s < 4294967296) : okDd ⟨p, q, r, s⟩ := ⟨h1, h2, h3, h4⟩
theorem i64_wrap (x : Int) (h : 0 ≤ x) (h2 : x ≤ 100) : I64 (IntKind.i64.wrap x) := by
  rw [IntWalk.i64_in _ (by omega)]
  unfold I64
  omega
set_option maxRecDepth 100000 in
set_option maxHeartbeats 8000000 in
theorem ends_walk (w : World) (ht : Lane.Tab w) : Calls Tryd.prog 4 #[] w fun e w' => e = .returned (.bool true) ∧ Below w.heap.size w w' := by
  obtain ⟨i0, hi, hz0, hz1, hz2⟩ := info_parts info_d
  have Hi := Lib.hid hi
  have Hz0 := Lib.hid hz0
  have Hz1 := Lib.hid hz1
  have Hz2 := Lib.hid hz2
  have Ht := Lib.hid ht
  clear hi hz0 hz1 hz2 ht
  go_enter Tryd.func4, Tryd.ntmps4
  go_wp2_with fail
  obtain ⟨s1, hs1⟩ : ∃ s, w.heap.size = s := ⟨_, rfl⟩
  rw [hs1]
  refine code_letter ?_
  intro W hW
  have CS := Lib.hid (show Blk W s1 3 sizL by rw [hW.out, ← hs1]; exact (Blk.new w 3 sizL).alloc _)
  have CO := Lib.hid (show Blk W (s1 + 1) 3 offL by
    rw [hW.out]
    have e : (w.alloc (.cells sizL.toArray 3)).heap.size = s1 + 1 := by simp [hs1]
    rw [← e]
    exact Blk.new (w.alloc (.cells sizL.toArray 3)) 3 offL)
  have BW := Lib.hid (show Below w.heap.size w W by rw [hW.out]; exact ((Below.refl _ _).alloc (Nat.le_refl _) _).alloc (by simp) _)
  clear hW hs1
  go_loopw [3] (fun i wr => ∃ i' : Nat, i' ≤ 13 ∧ i = .int .i64 i' ∧ Below W.heap.size W wr) (fun i _ => 13 - (intOf i).toNat)
  case atStart => exact ⟨0, by omega, rfl, Below.refl _ _⟩
  case round =>
  obtain ⟨i, hi, rfl, hb⟩ := hrel
  obtain ⟨v1, rfl⟩ : ∃ V : World, V = wr := ⟨_, rfl⟩
  have Hb := Lib.hid hb
  have CS1 := Lib.hid (CS.out.keep hb)
  have CO1 := Lib.hid (CO.out.keep hb)
  clear hb
  by_cases hlt : i < 13
  · have u0 : decide ((i : Int) < 13) = true := decide_eq_true (by omega)
    go_wp2_with fail
    go_loopw [4, 5] (fun v k wr => ∃ (k' : Nat) (d : List Dd), k' ≤ 8 ∧ k = .int .i64 k' ∧ d.length = k' ∧ (∀ j, j < k' → okDd d[j]!) ∧ wr.ownsRow v1.heap.size 33 4 v k' (flDd d) ∧ Below v1.heap.size v1 wr) (fun _ k _ => 8 - (intOf k).toNat)
    case atStart => exact ⟨0, [], by omega, rfl, rfl, fun j hj => by omega, ⟨rfl, .inl ⟨rfl, rfl⟩⟩, Below.refl _ _⟩
    case round =>
    obtain ⟨k, d, hk, rfl, hdl, hok, hown, hb⟩ := hrel
    obtain ⟨v2, rfl⟩ : ∃ V : World, V = wr := ⟨_, rfl⟩
    obtain ⟨av, cv, rfl, hcv, hno⟩ := own_shape hown
    have HO := Lib.hid hown
    have Hb1 := Lib.hid hb
    have Hok := Lib.hid hok
    clear hown hb hok
    by_cases hlk : k < 8
    · have u1 : decide ((k : Int) < 8) = true := decide_eq_true (by omega)
      obtain ⟨z, hz, hzI⟩ := off_at hlk
      have q0 := (CO1.out.keep Hb1.out).at k hz
      have q1 : (0 : Int) ≤ (k : Int) := by omega
      have q2 : (k : Int) < 8 := by omega
      clear hz
      go_wp2_with fail
      have hk3 : Int.tmod (k : Int) 3 = 0 ∨ Int.tmod (k : Int) 3 = 1 ∨ Int.tmod (k : Int) 3 = 2 := by rw [Int.tmod_eq_emod_of_nonneg q1]; omega
      have hs2 : v1.heap.size ≤ v2.heap.size := Hb1.out.size
      rcases hk3 with e3 | e3 | e3
      all_goals
        go_region_law (first
          | (refine (if_pos (by rfl)).mpr ?_; refine wp_append_own _ _ _ 22 rfl v1.heap.size 33 i0 (.agg #[.int .i64 0, .int .i64 0, .int .i64 0, .int .u32 0]) 4 32 Tryd.underlying22 Hi.out Hz0.out Hz1.out Hz2.out rfl (by decide) (.slice av k cv) k (flDd d) rfl (HO.out.drew.alloc _) ⟨v2.heap.size, 0, none⟩ 1 1 _ rfl rfl (Orow.cells_new _ _ _) (by simp [Value.oneCell']) (by unfold maxLen; omega) (by omega) (by simp; omega) ?_; intro v' w5 r1 r2 _))
        have hoo : Only (PB (.slice av k cv)) v2 w5 := (Only.of_below ((Below.refl _ _).alloc (Nat.le_refl _) _).drew).trans (grown_only r2)
        have hbo : Below v1.heap.size v2 w5 := hoo.below hs2 (fun j hj => (HO.out.lt j hj).1)
        have Hb5 := Lib.hid (Hb1.out.trans hbo)
        have hok5 : ∀ r, I64 r → ∀ j, j < k + 1 → okDd (d ++ [⟨0, z, r, 7⟩])[j]! := fun r hr => okDd_snoc hdl Hok.out (ok_mk (by unfold I64; omega) hzI hr (by omega))
        have R1 := Lib.hid (grow_row r1)
        have hdl5 := Lib.hid (show d.length + 1 = k + 1 by omega)
        clear r1 r2 hoo hbo HO Hb1 q0 q1 q2 e3
        go_wp2_with fail
        exact ⟨⟨k + 1, _, by omega, by go_num, by rw [List.length_append]; exact hdl5.out, hok5 _ (i64_wrap _ (by omega) (by omega)), R1.out, Hb5.out⟩, by simp [intOf]; omega⟩
    · have H8 := Lib.hid (show k = 8 by omega)
      have u1 : decide ((k : Int) < 8) = false := decide_eq_false (by omega)
      clear hlk hk
      go_wp2_with fail
      go_loopw [4, 6] (fun v q wr => ∃ (q' : Nat) (d : List Dd), q' ≤ 60 ∧ q = .int .i64 q' ∧ d.length = k + q' ∧ (∀ j, j < k + q' → okDd d[j]!) ∧ wr.ownsRow v1.heap.size 33 4 v (k + q') (flDd d) ∧ Below v1.heap.size v1 wr) (fun _ q _ => 60 - (intOf q).toNat)
      case atStart => exact ⟨0, d, by omega, rfl, hdl, Hok.out, HO.out, Hb1.out⟩
      case round =>
      clear HO Hb1 Hok hdl hno hcv
      obtain ⟨q, d3, hq, rfl, hdl, hok, hown, hb⟩ := hrel
      obtain ⟨v3, rfl⟩ : ∃ V : World, V = wr := ⟨_, rfl⟩
      obtain ⟨av, cv, rfl, hcv, hno⟩ := own_shape hown
      have HO := Lib.hid hown
      have Hb1 := Lib.hid hb
      have Hok := Lib.hid hok
      clear hown hb hok
      by_cases hlq : q < 60
      · have u1 : decide ((q : Int) < 60) = true := decide_eq_true (by omega)
        obtain ⟨z, hz, hz1, hz2⟩ := fiv_at (i := q % 5) (by omega)
        have hcz := (Blk.new v3 3 fivL).at (q % 5) hz
        unfold fivL at hcz
        have hs2 : v1.heap.size ≤ v3.heap.size := Hb1.out.size
        have q1 : (0 : Int) ≤ (q : Int) % 5 := by omega
        have q2 : (q : Int) % 5 < 5 := by omega
        clear hz
        go_wp2_with (with_reducible refine at_append _ _ _ _ rfl ?_)
        apply Lib.hid
        refine wpList_append_own _ rfl _ _ 22 rfl v1.heap.size 33 i0 (.agg #[.int .i64 0, .int .i64 0, .int .i64 0, .int .u32 0]) 4 32 Tryd.underlying22 Hi.out Hz0.out Hz1.out Hz2.out rfl (by decide) (.slice av (k + q) cv) (k + q) (flDd d3) rfl ((HO.out.alloc _).alloc _) ⟨v3.heap.size + 1, 0, none⟩ 1 1 [.int .i64 ((q : Int) % 2), .int .i64 ((q : Int) % 12 - 2), .int .i64 z, .int .u32 ((q : Int) * 16909320)] rfl rfl (cells_new2 v3 _ _ _) (by simp [Value.oneCell']) (by have := H8.out; unfold maxLen; omega) (by have := H8.out; omega) (by simp; omega) ?_
        intro v' w5 r1 r2 _
        have hoo : Only (PB (.slice av (k + q) cv)) v3 w5 := (Only.of_below (((Below.refl _ _).alloc (Nat.le_refl _) _).alloc (by simp) _)).trans (grown_only r2)
        have hbo : Below v1.heap.size v3 w5 := hoo.below hs2 (fun j hj => (HO.out.lt j hj).1)
        have Hb5 := Lib.hid (Hb1.out.trans hbo)
        have hok5 : ∀ j, j < k + q + 1 → okDd (d3 ++ [⟨(q : Int) % 2, (q : Int) % 12 - 2, z, (q : Int) * 16909320⟩])[j]! := okDd_snoc hdl Hok.out (ok_mk (by unfold I64; omega) (by unfold I64; omega) (by unfold I64; omega) (by omega))
        have R1 := Lib.hid (grow_row r1)
        have hdl5 := Lib.hid (show d3.length + 1 = k + (q + 1) by omega)
        clear r1 r2 hoo hbo HO Hb1 hcz q1 q2
        go_wp2_with fail
        exact ⟨⟨q + 1, _, by omega, by go_num, by rw [List.length_append]; exact hdl5.out, hok5, R1.out, Hb5.out⟩, by simp [intOf]; omega⟩
      · obtain rfl : q = 60 := by omega
        have u1 : decide (((60 : Nat) : Int) < 60) = false := by decide
        obtain ⟨z, hz, hzI⟩ := siz_at hlt
        have q0 := (CS1.out.keep Hb1.out).at i hz
        have q1 : (0 : Int) ≤ (i : Int) := by omega
        have q2 : (i : Int) < 13 := by omega
        have HR := Lib.hid (rowDd_of_own hdl Hok.out HO.out)
        have Hz := Lib.hid hz
        clear hz hlq hq
        go_wp2_with fail
        refine (does_any z av (k + 60) cv d3 v3 hzI HR.out (((Ht.out.below BW.out).below Hb.out).below Hb1.out)).mono ?_
        rintro e w5 ⟨rfl, hb5⟩
        have B5 := Lib.hid (Hb1.out.trans (hb5.mono Hb1.out.size))
        have q0 := (CS1.out.keep B5.out).at i Hz.out
        clear hb5
        go_wp2_with fail
        refine (does_any z _ 7 7 lastL _ hzI (last_row w5) ((((Ht.out.below BW.out).below Hb.out).below B5.out).below ((Below.refl _ _).alloc (Nat.le_refl _) _))).mono ?_
        rintro e w6 ⟨rfl, hb6⟩
        have hs5 : v1.heap.size ≤ w5.heap.size := B5.out.size
        have hal := (Below.refl w5.heap.size w5).alloc (Nat.le_refl _) (.cells #[.int .i64 0, .int .i64 4088, .int .i64 4, .int .u32 4275878552, .int .i64 0, .int .i64 4092, .int .i64 4, .int .u32 305419896, .int .i64 0, .int .i64 4095, .int .i64 1, .int .u32 9, .int .i64 0, .int .i64 4096, .int .i64 1, .int .u32 9, .int .i64 4, .int .i64 0, .int .i64 0, .int .u32 5, .int .i64 2, .int .i64 4092, .int .i64 2, .int .u32 0, .int .i64 3, .int .i64 0, .int .i64 0, .int .u32 0] 33)
        have B6 := Lib.hid (B5.out.trans ((hal.trans (hb6.mono hal.size)).mono hs5))
        clear hb6 hal
        go_wp2_with fail
        exact ⟨⟨i + 1, by omega, by go_num, Hb.out.trans (B6.out.mono Hb.out.size)⟩, by simp [intOf]; omega⟩
  · have H13 := Lib.hid (show i = 13 by omega)
    have u0 : decide ((i : Int) < 13) = false := decide_eq_false (by omega)
    clear hlt hi
    go_wp2_with fail
    obtain ⟨zb, hzb⟩ : ∃ s, v1.heap.size = s := ⟨_, rfl⟩
    rw [hzb]
    refine code_letter ?_
    intro V hV
    have hzl : (v1.alloc (.cells zeroCells 50)).heap.size = zb + 1 := by simp [hzb]
    have NV := Lib.hid (show Non V (.pointer (some ⟨zb, 0, none⟩)) by
      refine .inr ⟨zb, rfl, ?_⟩
      rw [hV.out, ← hzb]
      exact (zero_new v1).keep ((Below.refl _ _).alloc (Nat.le_refl _) _))
    have CP := Lib.hid (show Blk V (zb + 1) 24 [.pointer none, .pointer (some ⟨zb, 0, none⟩)] by
      rw [hV.out, ← hzl]
      exact Blk.new (v1.alloc (.cells zeroCells 50)) 24 [.pointer none, .pointer (some ⟨zb, 0, none⟩)])
    have BV := Lib.hid (show Below w.heap.size w V by
      have h1 := BW.out.trans (Hb.out.mono BW.out.size)
      rw [hV.out]
      exact (h1.alloc h1.size _).alloc (by have := h1.size; simp; omega) _)
    clear hV hzl hzb Hb CS1 CO1 CS CO
    go_loopw [8] (fun i wr => ∃ i' : Nat, i' ≤ 2 ∧ i = .int .i64 i' ∧ Below V.heap.size V wr) (fun i _ => 2 - (intOf i).toNat)
    case atStart => exact ⟨0, by omega, rfl, Below.refl _ _⟩
    case round =>
    obtain ⟨k, hk, rfl, hb⟩ := hrel
    have Hb := Lib.hid hb
    clear hb
    by_cases hlk : k < 2
    · have u1 : decide ((k : Int) < 2) = true := decide_eq_true (by omega)
      obtain ⟨v, hv, hN⟩ : ∃ v, [Value.pointer none, .pointer (some ⟨zb, 0, none⟩)][k]? = some v ∧ Non V v := by
        have : k = 0 ∨ k = 1 := by omega
        rcases this with rfl | rfl
        · exact ⟨_, rfl, .inl rfl⟩
        · exact ⟨_, rfl, NV.out⟩
      have q0 := (CP.out.keep Hb.out).at k hv
      have q1 : (0 : Int) ≤ (k : Int) := by omega
      have q2 : (k : Int) < 2 := by omega
      have HN := Lib.hid (hN.keep Hb.out)
      have i0' : I64 0 := ⟨by omega, by omega⟩
      have i4' : I64 4 := ⟨by omega, by omega⟩
      have hsz : V.heap.size ≤ wr.heap.size := Hb.out.size
      clear hv hN
      go_wp2_with fail
      refine (Read_non v 0 4 wr i0' i4' HN.out).mono ?_
      rintro e w1 ⟨rfl, hb⟩
      have B1 := Lib.hid hb
      have N1 := Lib.hid (HN.out.keep hb)
      clear hb
      go_wp2_with fail
      refine (Reset_non v w1 N1.out).mono ?_
      rintro e w2 ⟨rfl, hb⟩
      have B2 := Lib.hid (B1.out.trans (hb.mono B1.out.size))
      have N2 := Lib.hid (N1.out.keep hb)
      clear hb
      go_wp2_with fail
      refine (Write_non v 0 4 1 w2 i0' i4' (by omega) (by omega) N2.out).mono ?_
      rintro e w3 ⟨rfl, hb⟩
      have B3 := Lib.hid (B2.out.trans (hb.mono B2.out.size))
      have N3 := Lib.hid (N2.out.keep hb)
      clear hb
      go_wp2_with fail
      refine (Len_non v w3 N3.out).mono ?_
      rintro e w4 ⟨rfl, hb⟩
      have B4 := Lib.hid (B3.out.trans (hb.mono B3.out.size))
      have N4 := Lib.hid (N3.out.keep hb)
      clear hb
      go_wp2_with fail
      refine (Bytes_non v w4 N4.out).mono ?_
      rintro e w5 ⟨⟨ab, cb, rfl⟩, hb⟩
      have B5 := Lib.hid (B4.out.trans (hb.mono B4.out.size))
      have N5 := Lib.hid (N4.out.keep hb)
      clear hb
      go_wp2_with fail
      refine (Copy_non v w5 N5.out).mono ?_
      rintro e w6 ⟨rfl, hb⟩
      have B6 := Lib.hid (B5.out.trans (hb.mono B5.out.size))
      clear hb
      go_wp2_with fail
      exact ⟨⟨k + 1, by omega, by go_num, Hb.out.trans (B6.out.mono hsz)⟩, by simp [intOf]; omega⟩
    · obtain rfl : k = 2 := by omega
      go_wp2_with fail
      refine (awake_any _ (Ht.out.below (BV.out.trans (Hb.out.mono BV.out.size)))).mono ?_
      rintro e w4 ⟨rfl, hb4⟩
      have hs1 : w.heap.size ≤ V.heap.size := BV.out.size
      have B1 := Lib.hid (BV.out.trans (Hb.out.mono hs1))
      have B4 := Lib.hid (B1.out.trans (hb4.mono B1.out.size))
      clear hb4
      go_wp2_with fail
      go_ret
      exact ⟨rfl, B4.out⟩
end Go.Proofs.YtffjnahcdgpklaaDoor.Ram
