/- The walk of RotorEnds. -/
import Derived.Test.YtelmkfpomeilpaaIl
import Derived.Test.YtelmkfpomeilpaaOw
namespace Go.Proofs.Ytelmkfpomeilpaa.Rotor
open Go.RowKit Go.Maps Fifo Orow Exact Ring
set_option linter.unusedVariables false

def partL : List Int := [0, 1, 2, 32766, 32767, 32768, 32769, 65535, 256, 65280]
def partV : List Value := partL.map (Value.int .u32)
theorem part_at (k : Nat) (hk : k < 10) : ∃ c : Int, partV[k]? = some (.int .u32 c) ∧ 0 ≤ c ∧ c ≤ 65535 := by
  have hc : k = 0 ∨ k = 1 ∨ k = 2 ∨ k = 3 ∨ k = 4 ∨ k = 5 ∨ k = 6 ∨ k = 7 ∨ k = 8 ∨ k = 9 := by omega
  rcases hc with rfl | rfl | rfl | rfl | rfl | rfl | rfl | rfl | rfl | rfl
  all_goals exact ⟨_, rfl, by decide, by decide⟩
def lastL : List Dd := [⟨-9223372036854775808, 1⟩, ⟨-1, 1⟩, ⟨4, 9⟩, ⟨9223372036854775807, 1⟩, ⟨0, 4294967295⟩, ⟨2, 4294967295⟩, ⟨1, 2147483648⟩, ⟨3, 4294967295⟩]
theorem last_row {w : World} {g : Nat} (h : Blk w g 40 (flDd lastL)) : RowDd w (some ⟨g, 0, none⟩) 8 lastL := by
  refine ⟨rfl, fun j hj => ?_, fun j hj => ⟨g, 0, rfl, ?_⟩⟩
  · have hc : j = 0 ∨ j = 1 ∨ j = 2 ∨ j = 3 ∨ j = 4 ∨ j = 5 ∨ j = 6 ∨ j = 7 := by omega
    rcases hc with rfl | rfl | rfl | rfl | rfl | rfl | rfl | rfl
    all_goals exact ⟨⟨by decide, by decide⟩, by decide, by decide⟩
  · have hc : j = 0 ∨ j = 1 ∨ j = 2 ∨ j = 3 ∨ j = 4 ∨ j = 5 ∨ j = 6 ∨ j = 7 := by omega
    rcases hc with rfl | rfl | rfl | rfl | rfl | rfl | rfl | rfl
    · exact ⟨h.at 0 rfl, h.at 1 rfl⟩
    · exact ⟨h.at 2 rfl, h.at 3 rfl⟩
    · exact ⟨h.at 4 rfl, h.at 5 rfl⟩
    · exact ⟨h.at 6 rfl, h.at 7 rfl⟩
    · exact ⟨h.at 8 rfl, h.at 9 rfl⟩
    · exact ⟨h.at 10 rfl, h.at 11 rfl⟩
    · exact ⟨h.at 12 rfl, h.at 13 rfl⟩
    · exact ⟨h.at 14 rfl, h.at 15 rfl⟩
set_option maxRecDepth 100000 in
set_option maxHeartbeats 4000000 in
theorem ends_walk (w : World) :
    Calls Try.prog 6 #[] w fun e w' => e = .returned (.bool true) ∧ Below w.heap.size w w' := by
  obtain ⟨g, hg⟩ : ∃ g, w.heap.size = g := ⟨_, rfl⟩
  have HG := Lib.hid hg
  go_enter Try.func6, Try.ntmps6
  go_wp2_with fail
  refine code_letter ?_
  intro X hX
  have BX := Lib.hid (show Below g w X by rw [hX.out, ← HG.out]; exact (Below.refl _ _).alloc (Nat.le_refl _) _)
  have PX := Lib.hid (show Blk X g 22 partV by rw [hX.out, ← HG.out]; exact Blk.new w 22 partV)
  have hgX : g < X.heap.size := PX.out.lt
  clear hX hg
  go_loopw [2] (fun iv wr => ∃ i : Nat, i ≤ 100 ∧ iv = .int .i64 i ∧ Below X.heap.size X wr) (fun iv _ => 100 - (intOf iv).toNat)
  case atStart => exact ⟨0, by omega, rfl, Below.refl _ _⟩
  case round =>
  obtain ⟨i, hi, rfl, hb⟩ := hrel
  obtain ⟨W0, rfl⟩ : ∃ W : World, W = wr := ⟨_, rfl⟩
  have B0 := Lib.hid hb
  have P0 := Lib.hid (PX.out.keep hb)
  clear hb
  by_cases hlt : i < 100
  · have d1 : decide ((i : Int) < 100) = true := decide_eq_true (by omega)
    have d2 : decide (i < 100) = true := decide_eq_true hlt
    obtain ⟨q, hq⟩ : ∃ q, i % 10 = q := ⟨_, rfl⟩
    have hq10 : q < 10 := by omega
    have hd10 : i / 10 < 10 := by omega
    have tq : Int.tmod (i : Int) 10 = (q : Int) := tmod_at i 10 q hq
    obtain ⟨cq, c1, c2, c3⟩ := part_at q hq10
    obtain ⟨cd, e1, e2, e3⟩ := part_at (i / 10) hd10
    have lq := P0.out.at q c1
    have ld := P0.out.at (i / 10) e1
    have iq0 : (0 : Int) ≤ (q : Int) := by omega
    have iq1 : (q : Int) < 10 := by omega
    have hv : 0 ≤ cq + 65536 * cd ∧ cq + 65536 * cd < 4294967296 := by omega
    have Hv := Lib.hid hv
    clear hq c1 e1 hv
    go_wp2_with fail
    refine wp_region_ext (by kernel_rfl) (by kernel_rfl) ?_
    intro W hW
    obtain rfl : W = W0 := hW.out
    clear hW
    have l1 := fun p => ext_cell lq p
    have l2 := fun p => ext_cell ld p
    clear lq ld
    repeat (go_big_quiet_step (fail))
    refine wpQuiet_nil ?_
    intro w' hw'
    obtain ⟨p, rfl⟩ := hw'
    have hb0 := B0.out.size
    have B1 := Lib.hid (B0.out.trans ((ext_below W p).mono hb0))
    obtain ⟨v, hv⟩ : ∃ v, cq + 65536 * cd = v := ⟨_, rfl⟩
    rw [hv] at Hv
    rw [hv]
    obtain ⟨Y, hY⟩ : ∃ Y, ext W p = Y := ⟨_, rfl⟩
    rw [hY] at B1
    rw [hY]
    clear hv hY l1 l2 B0 P0 hb0 tq c2 c3 e2 e3 iq0 iq1 hq10 hd10
    go_wp2_with fail
    go_loopw [4] (fun jv wr => ∃ j : Nat, j ≤ 100 ∧ jv = .int .i64 j ∧ Below X.heap.size X wr) (fun jv _ => 100 - (intOf jv).toNat)
    case atStart => exact ⟨0, by omega, rfl, B1.out⟩
    case round =>
    clear B1
    obtain ⟨j, hj, rfl, hb⟩ := hrel
    have B0 := Lib.hid hb
    have P0 := Lib.hid (PX.out.keep hb)
    clear hb
    by_cases hlj : j < 100
    · have f1 : decide ((j : Int) < 100) = true := decide_eq_true (by omega)
      have f2 : decide (j < 100) = true := decide_eq_true hlj
      obtain ⟨q, hq⟩ : ∃ q, j % 10 = q := ⟨_, rfl⟩
      have hq10 : q < 10 := by omega
      have hd10 : j / 10 < 10 := by omega
      have tq : Int.tmod (j : Int) 10 = (q : Int) := tmod_at j 10 q hq
      obtain ⟨cq, c1, c2, c3⟩ := part_at q hq10
      obtain ⟨cd, e1, e2, e3⟩ := part_at (j / 10) hd10
      have lq := P0.out.at q c1
      have ld := P0.out.at (j / 10) e1
      have iq0 : (0 : Int) ≤ (q : Int) := by omega
      have iq1 : (q : Int) < 10 := by omega
      have hv : 0 ≤ cq + 65536 * cd ∧ cq + 65536 * cd < 4294967296 := by omega
      have Hv2 := Lib.hid hv
      clear hq c1 e1 hv
      go_wp2_with fail
      refine wp_region_ext (by kernel_rfl) (by kernel_rfl) ?_
      intro W hW
      obtain rfl : W = wr := hW.out
      clear hW
      have l1 := fun p => ext_cell lq p
      have l2 := fun p => ext_cell ld p
      have C := Lib.hid (fun p => points_any v (cq + 65536 * cd) (j : Int) (ext W p) Hv.out Hv2.out (by omega))
      clear lq ld
      repeat (go_big_quiet_step ((go_at_call 9; with_reducible exact ext_of (C.out _))))
      refine wpQuiet_nil ?_
      intro w' hw'
      obtain ⟨p, rfl⟩ := hw'
      have hb0 := B0.out.size
      have B1 := Lib.hid (B0.out.trans ((ext_below W p).mono hb0))
      obtain ⟨Y, hY⟩ : ∃ Y, ext W p = Y := ⟨_, rfl⟩
      rw [hY] at B1
      rw [hY]
      clear hY l1 l2 C B0 P0 hb0 tq c2 c3 e2 e3 iq0 iq1 hq10 hd10
      go_wp2_with fail
      exact ⟨⟨j + 1, by omega, by go_num, B1.out⟩, by simp [intOf]; omega⟩
    · have f1 : decide ((j : Int) < 100) = false := decide_eq_false (by omega)
      have f2 : decide (j < 100) = false := decide_eq_false hlj
      go_wp2_with fail
      exact ⟨⟨i + 1, by omega, by go_num, B0.out⟩, by simp [intOf]; omega⟩
  · have d1 : decide ((i : Int) < 100) = false := decide_eq_false (by omega)
    have d2 : decide (i < 100) = false := decide_eq_false hlt
    have rn := run_nan
    have ri := run_inf
    have rm := run_ninf
    obtain ⟨y, hy⟩ : ∃ y, nanOf W0 = y := ⟨_, rfl⟩
    have HN := Lib.hid (nanOf_not W0)
    rw [hy] at HN
    have B1 := Lib.hid (show Below g w W0 from BX.out.trans (B0.out.mono (Nat.le_of_lt hgX)))
    clear B0 P0 PX BX hlt hi
    go_wp2_with fail
    obtain ⟨f, hf⟩ : ∃ f, W0.heap.size = f := ⟨_, rfl⟩
    have hfg : g ≤ f := by rw [← hf, ← HG.out]; exact B1.out.size
    have eD : W0.drew.heap.size = f := hf
    try rw [hf]
    refine code_letter ?_
    intro V hV
    have BV := Lib.hid (show Below g w V by rw [hV.out]; exact (B1.out.drew).alloc (by rw [eD]; exact hfg) _)
    have PV := Lib.hid (show Blk V f 25 ((badL y).map (Value.float .f64)) by rw [hV.out, ← hy, ← hf]; exact Blk.new W0.drew 25 ((badL (nanOf W0)).map (Value.float .f64)))
    have hgV : f < V.heap.size := PV.out.lt
    clear hV rn ri rm hy hf eD B1 hgX
    go_loopw [7] (fun iv wr => ∃ i : Nat, i ≤ 11 ∧ iv = .int .i64 i ∧ Below V.heap.size V wr) (fun iv _ => 11 - (intOf iv).toNat)
    case atStart => exact ⟨0, by omega, rfl, Below.refl _ _⟩
    case round =>
    obtain ⟨k, hk, rfl, hb⟩ := hrel
    have B0 := Lib.hid hb
    clear hb
    by_cases hlk : k < 11
    · have f1 : decide ((k : Int) < 11) = true := decide_eq_true (by omega)
      have f2 : decide (k < 11) = true := decide_eq_true hlk
      obtain ⟨x, hx, hn⟩ := bad_not y HN.out k hlk
      have NX := Lib.hid hn
      have lx : ∀ wr', Below V.heap.size V wr' → wr'.cell? ⟨f, k, none⟩ = some (.float .f64 x) := fun wr' h => (PV.out.keep h).at k (by rw [List.getElem?_map, hx]; rfl)
      have l0 := lx wr B0.out
      have q1 : (0 : Int) ≤ (k : Int) := by omega
      have q2 : (k : Int) < 11 := by omega
      clear hx hn
      go_wp2_with fail
      refine (none_any x _ 5 _ (notPt_re NX.out) (by omega)).mono ?_
      rintro e y1 ⟨rfl, hb⟩
      have hb0 := B0.out.size
      have B1 := Lib.hid (B0.out.trans (hb.mono hb0))
      have l1 := lx y1 B1.out
      clear hb l0 hb0
      go_wp2_with fail
      refine (none_any _ x 5 _ (notPt_im NX.out) (by omega)).mono ?_
      rintro e y2 ⟨rfl, hb⟩
      have hb1 := B1.out.size
      have B2 := Lib.hid (B1.out.trans (hb.mono hb1))
      clear hb l1 hb1 lx
      go_wp2_with fail
      exact ⟨⟨k + 1, by omega, by go_num, B2.out⟩, by simp [intOf]; omega⟩
    · have f1 : decide ((k : Int) < 11) = false := decide_eq_false (by omega)
      have f2 : decide (k < 11) = false := decide_eq_false hlk
      have B1 := Lib.hid (show Below g w wr from BV.out.trans (B0.out.mono (by omega)))
      clear B0 hlk hk PV BV
      go_wp2_with fail
      obtain ⟨zb, hzb⟩ : ∃ s, wr.heap.size = s := ⟨_, rfl⟩
      rw [hzb]
      refine code_letter ?_
      intro Z hZ
      have hzl : (wr.alloc (.cells zeroCells 51)).heap.size = zb + 1 := by simp [hzb]
      have NZ := Lib.hid (show Non Z (.pointer (some ⟨zb, 0, none⟩)) by
        refine .inr ⟨zb, rfl, ?_⟩
        rw [hZ.out, ← hzb]
        exact (zero_new wr).keep ((Below.refl _ _).alloc (Nat.le_refl _) _))
      have CP := Lib.hid (show Blk Z (zb + 1) 34 [.pointer none, .pointer (some ⟨zb, 0, none⟩)] by
        rw [hZ.out, ← hzl]
        exact Blk.new (wr.alloc (.cells zeroCells 51)) 34 [.pointer none, .pointer (some ⟨zb, 0, none⟩)])
      have BZ := Lib.hid (show Below g w Z by
        have h1 := B1.out
        have h2 := h1.size
        rw [hZ.out]
        exact (h1.alloc (by rw [← HG.out]; exact h2) _).alloc (by have e := HG.out; simp; omega) _)
      have hgZ : g ≤ Z.heap.size := by have := BZ.out.size; have := HG.out; omega
      clear hZ hzl hzb B1
      go_loopw [9] (fun i wr => ∃ i' : Nat, i' ≤ 2 ∧ i = .int .i64 i' ∧ Below Z.heap.size Z wr) (fun i _ => 2 - (intOf i).toNat)
      case atStart => exact ⟨0, by omega, rfl, Below.refl _ _⟩
      case round =>
      obtain ⟨k, hk, rfl, hb⟩ := hrel
      have Hb := Lib.hid hb
      clear hb
      by_cases hlk : k < 2
      · have u1 : decide ((k : Int) < 2) = true := decide_eq_true (by omega)
        have u2 : decide (k < 2) = true := decide_eq_true hlk
        obtain ⟨v, hv, hN⟩ : ∃ v, [Value.pointer none, .pointer (some ⟨zb, 0, none⟩)][k]? = some v ∧ Non Z v := by
          have : k = 0 ∨ k = 1 := by omega
          rcases this with rfl | rfl
          · exact ⟨_, rfl, .inl rfl⟩
          · exact ⟨_, rfl, NZ.out⟩
        have q0 := (CP.out.keep Hb.out).at k hv
        have q1 : (0 : Int) ≤ (k : Int) := by omega
        have q2 : (k : Int) < 2 := by omega
        have HN := Lib.hid (hN.keep Hb.out)
        have hsz : Z.heap.size ≤ wr.heap.size := Hb.out.size
        clear hv hN
        go_wp2_with fail
        refine (Write_non v 0 5 wr ⟨by omega, by omega⟩ (by omega) HN.out).mono ?_
        rintro e y1 ⟨rfl, hb⟩
        have B1 := Lib.hid hb
        have N1 := Lib.hid (HN.out.keep hb)
        clear hb
        go_wp2_with fail
        refine (Write_non v 1 5 y1 ⟨by omega, by omega⟩ (by omega) N1.out).mono ?_
        rintro e y2 ⟨rfl, hb⟩
        have B2 := Lib.hid (B1.out.trans (hb.mono B1.out.size))
        have N2 := Lib.hid (N1.out.keep hb)
        clear hb
        go_wp2_with fail
        refine (State_non v y2 N2.out).mono ?_
        rintro e y3 ⟨rfl, hb⟩
        have B3 := Lib.hid (B2.out.trans (hb.mono B2.out.size))
        have N3 := Lib.hid (N2.out.keep hb)
        clear hb
        go_wp2_with fail
        refine (Read_non v 0 y3 ⟨by omega, by omega⟩ N3.out).mono ?_
        rintro e y4 ⟨rfl, hb⟩
        have B4 := Lib.hid (B3.out.trans (hb.mono B3.out.size))
        have N4 := Lib.hid (N3.out.keep hb)
        clear hb
        go_wp2_with fail
        refine (Read_non v 4 y4 ⟨by omega, by omega⟩ N4.out).mono ?_
        rintro e y5 ⟨rfl, hb⟩
        have B5 := Lib.hid (B4.out.trans (hb.mono B4.out.size))
        have N5 := Lib.hid (N4.out.keep hb)
        clear hb
        go_wp2_with fail
        refine (Copy_non v y5 N5.out).mono ?_
        rintro e y6 ⟨rfl, hb⟩
        have B6 := Lib.hid (B5.out.trans (hb.mono B5.out.size))
        clear hb
        go_wp2_with fail
        exact ⟨⟨k + 1, by omega, by go_num, Hb.out.trans (B6.out.mono hsz)⟩, by simp [intOf]; omega⟩
      · have u1 : decide ((k : Int) < 2) = false := decide_eq_false (by omega)
        have u2 : decide (k < 2) = false := decide_eq_false hlk
        have B2 := Lib.hid (show Below g w wr from BZ.out.trans (Hb.out.mono hgZ))
        have hgw : g ≤ wr.heap.size := by have := B2.out.size; have := HG.out; omega
        clear Hb hlk hk CP NZ BZ hgZ
        go_wp2_with fail
        obtain ⟨m, hm⟩ : ∃ m, wr.heap.size = m := ⟨_, rfl⟩
        rw [hm]
        refine calls_letter ?_
        intro V2 hV2
        have RV := Lib.hid (show Blk V2 m 40 (flDd lastL) by rw [hV2.out, ← hm]; exact Blk.new wr _ _)
        have B3 := Lib.hid (show Below g w V2 by rw [hV2.out]; exact B2.out.alloc hgw _)
        clear hV2 hm B2
        refine (does_any _ 8 8 lastL V2 (last_row RV.out)).mono ?_
        rintro e y1 ⟨rfl, hb⟩
        have hb3 := B3.out.size
        have B4 := Lib.hid (B3.out.trans (hb.mono (by rw [← HG.out]; exact hb3)))
        clear hb hb3 RV B3
        go_wp2_with fail
        refine (awake_any y1).mono ?_
        rintro e y2 ⟨rfl, hb⟩
        have hb3 := B4.out.size
        have B5 := Lib.hid (B4.out.trans (hb.mono (by rw [← HG.out]; exact hb3)))
        clear hb hb3 B4
        go_wp2_with fail
        go_ret
        exact ⟨rfl, by rw [HG.out]; exact B5.out⟩
end Go.Proofs.Ytelmkfpomeilpaa.Rotor
