/- The walk of DmaDoes. -/
import Derived.Test.YthpkebcedaakhaaDh
import Derived.Test.YthpkebcedaakhaaPk
import Derived.Deep.RegionHeld3
namespace Go.Proofs.Ythpkebcedaakhaa.Dma
open Go.RowKit Go.Maps Fifo Orow
set_option linter.unusedVariables false

theorem only_drewE {S : Nat → Prop} {w w' : World} (h : Only S w w') : Only S w w'.drew := ⟨h.os, h.tape, h.output, h.size, h.block⟩
theorem does_far (s : En) (a : Option Addr) (len cap : Nat) (w : World) (h300 : 300 < len) :
    Calls Try.prog 3 #[stE s, .slice a len cap] w fun e w' => e = .returned (.bool true) ∧ Below w.heap.size w w' := by
  have d1 : decide ((300 : Int) < (len : Int)) = true := decide_eq_true (by omega)
  go_enter Try.func3, Try.ntmps3
  go_wp2_with fail
  refine (awake_any _).mono ?_
  rintro e w1 ⟨rfl, hb⟩
  have ha := (Below.refl w.heap.size w).alloc (Nat.le_refl _) (.cells (cellsE s).toArray 24)
  have Hb := Lib.hid (ha.trans (hb.mono ha.size))
  clear hb ha
  go_wp2_with fail
  go_ret
  exact ⟨rfl, Hb.out⟩
set_option maxRecDepth 100000 in
set_option maxHeartbeats 8000000 in
theorem does_in (s0 : En) (a : Option Addr) (len cap : Nat) (l : List Dd) (w : World) (hs : OkE s0) (hl : RowDd w a len l) (h300 : len ≤ 300) :
    Calls Try.prog 3 #[stE s0, .slice a len cap] w fun e w' => e = .returned (.bool true) ∧ Below w.heap.size w w' := by
  have Hl := Lib.hid hl
  have Hs := Lib.hid hs
  have d1 : decide ((300 : Int) < (len : Int)) = false := decide_eq_false (by omega)
  obtain ⟨B, hB⟩ : ∃ B, w.heap.size = B := ⟨_, rfl⟩
  have HB := Lib.hid hB
  clear hl hs hB
  go_enter Try.func3, Try.ntmps3
  go_wp2_with fail
  refine code_letter ?_
  intro X hX
  have BX := Lib.hid (show Below B w X by rw [hX.out, ← HB.out]; exact (Below.refl _ _).alloc (Nat.le_refl _) _)
  have AX := Lib.hid (show Blk X w.heap.size 24 (cellsE s0) by rw [hX.out]; exact Blk.new w _ _)
  obtain ⟨g, hg⟩ : ∃ g, w.heap.size = g := ⟨_, rfl⟩
  rw [hg] at AX
  try rw [hg]
  obtain ⟨F, T, L, H, has, busy, den, don, cal⟩ := s0
  have ld : ∀ k v, (cellsE ⟨F, T, L, H, has, busy, den, don, cal⟩)[k]? = some v → ∀ w', Below X.heap.size X w' → w'.cell? ⟨g, k, none⟩ = some v := fun k v hv w' hb => (AX.out.keep hb).at k hv
  have l0 := ld 0 _ rfl
  have l1 := ld 1 _ rfl
  have l2 := ld 2 _ rfl
  have l3 := ld 3 _ rfl
  have l4 := ld 4 _ rfl
  have l5 := ld 5 _ rfl
  have l6 := ld 6 _ rfl
  have l7 := ld 7 _ rfl
  have l8 := ld 8 _ rfl
  have HGB := Lib.hid (show g = B by rw [← hg]; exact HB.out)
  clear hX hg ld AX
  go_region_held3 (fun w' => Below X.heap.size X w')
    (first | assumption | exact (Below.refl _ _).drew)
    (first
      | (go_at_call 8; refine (Of_any _ _ Hs.out).mono ?_; rintro e w' ⟨⟨b, O, rfl, hE, hO⟩, hbE⟩; have hoE : Below X.heap.size X w' := Below.trans (by assumption) (Below.mono hbE (Below.size (by assumption))))
      | (go_at_call 9; refine (rOf_any ⟨F, T, L, H, has, busy, den, don, cal⟩ _).mono ?_; rintro e w' ⟨⟨r, rfl, hR, hr⟩, hbR⟩; have hoR : Below X.heap.size X w' := Below.trans (by assumption) (Below.mono hbR (Below.size (by assumption)))))
  all_goals (
    refine exit_letter ?_
    intro Y hY
    have hXs := BX.out.size
    have P0 := Lib.hid (show PairE (fun j => j < B) Y b r (ofE ⟨F, T, L, H, has, busy, den, don, cal⟩) (ofE ⟨F, T, L, H, has, busy, den, don, cal⟩) by
      have hBX : B ≤ X.heap.size := by rw [← HB.out]; exact hXs
      have lE := hE.lt
      have lR := hR.lt
      first
        | (have e1 := hE.keep hbR; have ls := hbR.size; have lo := hoE.size; have lo2 := hoR.size; exact ⟨O, by rw [hY.out]; exact e1, by rw [hY.out]; exact ⟨hR, ok_of Hs.out⟩, fun j hj => ⟨fun k => by have := hO j hj; simp at this; omega, fun e => by have := lE j hj; simp at *; omega⟩, fun k => by simp at *; omega, fun j hj => by rw [hY.out]; simp at *; omega⟩)
        | (have e1 : RefE _ r _ := RefE.keep ⟨hR, ok_of Hs.out⟩ hbE; have ls := hbE.size; have lo := hoE.size; have lo2 := hoR.size; exact ⟨O, by rw [hY.out]; exact hE, by rw [hY.out]; exact e1, fun j hj => ⟨fun k => by have := hO j hj; simp at this; omega, fun e => by have := hO j hj; simp at *; omega⟩, fun k => by simp at *; omega, fun j hj => by rw [hY.out]; simp at *; omega⟩))
    have BY := Lib.hid (show Below B w Y by
      rw [hY.out]
      first | exact BX.out.trans (hoR.mono (by rw [← HB.out]; exact hXs)) | exact BX.out.trans (hoE.mono (by rw [← HB.out]; exact hXs)))
    obtain ⟨s1, hs1⟩ : ∃ q, ofE ⟨F, T, L, H, has, busy, den, don, cal⟩ = q := ⟨_, rfl⟩
    rw [hs1] at P0
    clear hY hXs hE hR hO hr hbE hbR hoE hoR l0 l1 l2 l3 l4 l5 l6 l7 l8 hs1
    go_wp2_with fail
    go_loopw [7] (fun i wr => ∃ (k : Nat) (s : En), k ≤ len ∧ i = .int .i64 k ∧ PairE (fun j => j < B) wr b r s s ∧ Below B w wr) (fun i _ => len - (intOf i).toNat)
    case atStart => exact ⟨0, s1, Nat.zero_le _, rfl, P0.out, BY.out⟩
    case round =>
    clear P0 BY BX
    obtain ⟨k, s, hk, rfl, hP, hBl⟩ := hrel
    have P := Lib.hid hP
    have BL := Lib.hid hBl
    clear hP hBl
    by_cases hlt : k < len
    · have d1 : decide ((k : Int) < (len : Int)) = true := decide_eq_true (by omega)
      obtain ⟨lb, off, rfl, ce⟩ := Hl.out.2.2 k hlt
      have hok := Hl.out.2.1 k hlt
      obtain ⟨x, hx⟩ : ∃ x, l[k]! = x := ⟨_, rfl⟩
      rw [hx] at ce hok
      have CE := Lib.hid (fun W (hb : Below B w W) => ce.keep (by rw [HB.out]; exact hb))
      obtain ⟨xw, xr, xv, xe⟩ := x
      obtain ⟨hw, hr, hv, he⟩ := hok
      obtain ⟨p, hp, HPk⟩ := Pk.pick_is xw 3 (by omega) (by omega)
      have HPk := Lib.hid HPk
      have i1 : (0 : Int) ≤ (k : Int) := by omega
      have i2 : (k : Int) < (len : Int) := by omega
      clear hx ce
      go_wp2_with fail
      refine (same_any _ b r s wr P.out).mono ?_
      rintro e w1 ⟨rfl, hb⟩
      have hBL := BL.out.size
      have B1 := Lib.hid (BL.out.trans (hb.mono (by rw [← HB.out]; exact hBL)))
      have P1 := Lib.hid (P.out.keep hb)
      obtain ⟨c0, c1, c2, c3⟩ := CE.out _ B1.out
      clear hb P BL hBL
      go_wp2_with fail
      obtain ⟨D, hD⟩ : ∃ D, w1.heap.size = D := ⟨_, rfl⟩
      rw [hD]
      refine calls_letter ?_
      intro X hX
      have AX := Lib.hid (show AtDd X D 0 ⟨xw, xr, xv, xe⟩ by rw [hX.out, ← hD]; exact atDd_new w1 ⟨xw, xr, xv, xe⟩ _)
      have hal := (Below.refl w1.heap.size w1).alloc (Nat.le_refl _) (.cells #[.int .i64 xw, .int .i64 xr, .int .u32 xv, .int .i64 xe] 34)
      obtain ⟨K, hK⟩ : ∃ K : Nat → Prop, K = fun j => j < B ∨ j = D := ⟨_, rfl⟩
      have PX := Lib.hid (show PairE K X b r s s by rw [hX.out, hK]; exact P1.out.also hal (fun j => j = D) (fun j e => by rw [e, ← hD]; exact ⟨Nat.le_refl _, by simp⟩))
      have KD : K D := by rw [hK]; exact .inr rfl
      have KB := Lib.hid (show ∀ j, j < B → K j by intro j hj; rw [hK]; exact .inl hj)
      have hB1 := B1.out.size
      have BX := Lib.hid (show Below B w X by rw [hX.out]; exact B1.out.alloc (by rw [← HB.out]; exact hB1) _)
      have QX := Lib.hid (fun W' (ho : Only (fun j => ¬ K j) X W') => AX.out.only ho (fun e => e KD))
      have KL := Lib.hid (fun (W' : World) (s s' : En) (h : PairE K W' b r s s') => h.less (K' := fun j => j < B) (fun j hj => KB.out j hj))
      obtain ⟨a0, a1, a2, a3⟩ := QX.out X (Only.refl _ _)
      simp only [Nat.zero_add] at a1 a2 a3
      clear hX hal hK hD P1 B1 c0 c1 c2 c3 hB1 CE
      refine (HPk.out _).mono ?_
      rintro e w2 ⟨rfl, rfl⟩
      clear HPk
      have hc : p = 0 ∨ p = 1 ∨ p = 2 := by omega
      clear hp
      rcases hc with rfl | rfl | rfl
      · -- read
        obtain ⟨x, hx⟩ : ∃ x, readE s xr = x := ⟨_, rfl⟩
        have HRd := Lib.hid (fun W' (h : PairE K W' b r s s) => Read_pair K b r s s xr W' hr h)
        have HRr := Lib.hid (fun W' (h : PairE K W' b r s s) => rRead_pair K b r s s xr W' h)
        rw [hx] at HRd HRr
        have xx : (x != x) = false := by simp
        clear hx
        go_wp2_with fail
        refine wp_region_ext (by kernel_rfl) (by kernel_rfl) ?_
        intro Y hY
        obtain rfl : Y = X := hY.out
        clear hY
        have y1 := ext_cell a1
        have hEx := Lib.hid (fun q => ext_below Y q)
        repeat (go_big_quiet_step ((first
          | (go_at_call 12; with_reducible exact ext_of (HRd.out _ (PX.out.keep (hEx.out _))))
          | (go_at_call 13; with_reducible exact ext_of (HRr.out _ (PX.out.keep (hEx.out _)))))))
        refine wpQuiet_nil ?_
        intro w9 hw9
        have h9 : Below Y.heap.size Y w9 := by obtain ⟨p9, rfl⟩ := hw9; exact ext_below Y p9
        have hBY := BX.out.size
        have B9 := Lib.hid (BX.out.trans (h9.mono (by rw [← HB.out]; exact hBY)))
        have P9 := Lib.hid (KL.out _ _ _ (PX.out.keep h9))
        clear hw9 h9 y1 a0 a1 a2 a3 hEx
        go_wp2_with fail
        exact ⟨⟨k + 1, s, by omega, by go_num, P9.out, B9.out⟩, by simp [intOf]; omega⟩
      · -- written
        obtain ⟨s5, hs5⟩ : ∃ q, writeE s xr xv = q := ⟨_, rfl⟩
        have HW1 := Lib.hid (Write_pair K b r s s xr xv X hr hv PX.out)
        have HW2 := Lib.hid (fun W (h : PairE K W b r s5 s) => rWrite_pair K b r s5 s xr xv W hv h)
        rw [hs5] at HW1 HW2
        clear hs5
        go_wp2_with fail
        refine HW1.out.mono ?_
        rintro e X2 ⟨rfl, hp, ho⟩
        have P2 := Lib.hid hp
        have O2 := Lib.hid ho
        obtain ⟨e0, e1, e2, e3⟩ := QX.out X2 ho
        simp only [Nat.zero_add] at e1 e2 e3
        clear hp ho a0 a1 a2 a3
        go_wp2_with fail
        refine (HW2.out X2 P2.out).mono ?_
        rintro e X3 ⟨rfl, hp, ho⟩
        have P3 := Lib.hid (KL.out _ _ _ hp)
        have B3 := Lib.hid (below_onlyE BX.out (O2.out.trans ho) (by rw [HB.out]; exact Nat.le_refl _) KB.out)
        clear hp ho e0 e1 e2 e3
        go_wp2_with fail
        exact ⟨⟨k + 1, s5, by omega, by go_num, P3.out, B3.out⟩, by simp [intOf]; omega⟩
      · -- stepped
        have HS := Lib.hid (steps_any K b r s xr xv xe X hr hv he PX.out)
        obtain ⟨s5, hs5⟩ : ∃ q, stepE s xv xe = q := ⟨_, rfl⟩
        rw [hs5] at HS
        clear hs5
        go_wp2_with fail
        refine HS.out.mono ?_
        rintro e X2 ⟨rfl, hp, ho⟩
        have P3 := Lib.hid (KL.out _ _ _ hp)
        have B3 := Lib.hid (below_onlyE BX.out ho (by rw [HB.out]; exact Nat.le_refl _) KB.out)
        clear hp ho a0 a1 a2 a3
        go_wp2_with fail
        exact ⟨⟨k + 1, s5, by omega, by go_num, P3.out, B3.out⟩, by simp [intOf]; omega⟩
    · have d1 : decide ((k : Int) < (len : Int)) = false := decide_eq_false (by omega)
      have d2 : decide (k < len) = false := decide_eq_false hlt
      go_wp2_with fail
      refine (same_any _ b r s wr P.out).mono ?_
      rintro e w1 ⟨rfl, hb⟩
      have hBL := BL.out.size
      have B1 := Lib.hid (BL.out.trans (hb.mono (by rw [← HB.out]; exact hBL)))
      have hB1 := B1.out.size
      clear hb
      go_wp2_with fail
      refine (awake_any _).mono ?_
      rintro e w2 ⟨rfl, hb⟩
      have B2 := Lib.hid (B1.out.trans (hb.mono (by rw [← HB.out]; exact hB1)))
      clear hb
      go_wp2_with fail
      go_ret
      exact ⟨rfl, by rw [HB.out]; exact B2.out⟩)
theorem does_any (s : En) (a : Option Addr) (len cap : Nat) (l : List Dd) (w : World) (hs : OkE s) (hl : RowDd w a len l) :
    Calls Try.prog 3 #[stE s, .slice a len cap] w fun e w' => e = .returned (.bool true) ∧ Below w.heap.size w w' := by
  by_cases h : 300 < len
  · exact does_far s a len cap w h
  · exact does_in s a len cap l w hs hl (by omega)
theorem wf_u32 {x : Int} (h : (Lit.int .u32 x).wf = true) : 0 ≤ x ∧ x < 4294967296 := by
  simp only [Lit.wf, Bool.and_eq_true, decide_eq_true_eq] at h
  have h1 : IntKind.u32.min = 0 := rfl
  have h2 : IntKind.u32.max = 4294967295 := rfl
  omega
theorem does_walk (F T L H : Int) (has busy den don cal : Bool) (a : Option Addr) (len cap : Nat) (l : List Dd) (w : World) (h0 : (Lit.int .u32 F).wf = true) (h1 : (Lit.int .u32 T).wf = true) (h2 : (Lit.int .u32 L).wf = true) (h3 : (Lit.int .u32 H).wf = true) (hl : RowDd w a len l) (k1 : a = none → len = 0 ∧ cap = 0) (k2 : len ≤ cap) (k3 : len ≤ maxLen) :
    Calls Try.prog 3 #[.agg #[.int .u32 F, .int .u32 T, .int .u32 L, .int .u32 H, .bool has, .bool busy, .bool den, .bool don, .bool cal], .slice a len cap] w fun e w' => e = .returned (.bool true) ∧ Below w.heap.size w w' :=
  does_any ⟨F, T, L, H, has, busy, den, don, cal⟩ a len cap l w ⟨wf_u32 h0, wf_u32 h1, wf_u32 h2, wf_u32 h3⟩ hl
end Go.Proofs.Ythpkebcedaakhaa.Dma
