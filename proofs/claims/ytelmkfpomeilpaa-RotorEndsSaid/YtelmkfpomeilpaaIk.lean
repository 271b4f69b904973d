/- The walk of RotorDoes. -/
import Derived.Test.YtelmkfpomeilpaaIj
import Derived.Test.YtelmkfpomeilpaaId
import Derived.Test.YtelmkfpomeilpaaPk
namespace Go.Proofs.Ytelmkfpomeilpaa.Rotor
open Go.RowKit Go.Maps Fifo Orow Exact Ring
set_option linter.unusedVariables false

theorem does_far (a : Option Addr) (len cap : Nat) (w : World) (h300 : 300 < len) :
    Calls Try.prog 5 #[.slice a len cap] w fun e w' => e = .returned (.bool true) ∧ Below w.heap.size w w' := by
  have d1 : decide ((300 : Int) < (len : Int)) = true := decide_eq_true (by omega)
  go_enter Try.func5, Try.ntmps5
  go_wp2_with fail
  refine (awake_any _).mono ?_
  rintro e w1 ⟨rfl, hb⟩
  have B1 := Lib.hid hb
  clear hb
  go_wp2_with fail
  go_ret
  exact ⟨rfl, B1.out⟩
theorem wfu32 {x : Int} (h : (Lit.int .u32 x).wf = true) : 0 ≤ x ∧ x < 4294967296 := by
  simp only [Lit.wf, Bool.and_eq_true, decide_eq_true_eq] at h
  have h1 : IntKind.u32.min = 0 := rfl
  have h2 : IntKind.u32.max = 4294967295 := rfl
  omega
set_option maxRecDepth 100000 in
set_option maxHeartbeats 8000000 in
theorem does_in (a : Option Addr) (len cap : Nat) (l : List Dd) (w : World) (hl : RowDd w a len l) (h300 : len ≤ 300) :
    Calls Try.prog 5 #[.slice a len cap] w fun e w' => e = .returned (.bool true) ∧ Below w.heap.size w w' := by
  have Hl := Lib.hid hl
  have d1 : decide ((300 : Int) < (len : Int)) = false := decide_eq_false (by omega)
  obtain ⟨B, hB⟩ : ∃ B, w.heap.size = B := ⟨_, rfl⟩
  have HB := Lib.hid hB
  obtain ⟨K, hK⟩ : ∃ K : Nat → Prop, K = fun j => j < B := ⟨_, rfl⟩
  have KB := Lib.hid (show ∀ j, j < B → K j by intro j hj; rw [hK]; exact hj)
  have HK := Lib.hid hK
  clear hl hB hK
  go_enter Try.func5, Try.ntmps5
  go_wp2_with fail
  refine (New_any _).mono ?_
  rintro e w1 ⟨⟨b0, O0, rfl, hU, hO⟩, hb⟩
  have U1 := Lib.hid hU
  have HO := Lib.hid hO
  have B1 := Lib.hid hb
  have L1 := Lib.hid hU.lt
  clear hU hO hb
  go_wp2_with fail
  obtain ⟨r, hr⟩ : ∃ r, w1.heap.size = r := ⟨_, rfl⟩
  rw [hr]
  refine code_letter ?_
  intro X0 hX0
  have hal := (Below.refl w1.heap.size w1).alloc (Nat.le_refl _) (.cells #[.int .u32 0, .int .u32 0] 38)
  have hB1 := B1.out.size
  have P0 := Lib.hid (show PairR K X0 b0 r zeroR by
    rw [hX0.out]
    have hR : RefR (w1.alloc (.cells #[.int .u32 0, .int .u32 0] 38)) r zeroR := ⟨by rw [← hr]; exact Blk.new w1 _ _, okR_zero⟩
    exact ⟨O0, U1.out.keep hal, hR, fun j hj => ⟨fun k => by rw [HK.out] at k; have := HO.out j hj; have := HB.out; omega, fun e => by have := L1.out j hj; omega⟩, fun k => by rw [HK.out] at k; have := HB.out; omega, fun j hj => by rw [HK.out] at hj; have := hal.size; have := HB.out; omega⟩)
  have B0 := Lib.hid (show Below B w X0 by rw [hX0.out, ← HB.out]; exact B1.out.trans (hal.mono hB1))
  clear hal hX0 hr U1 HO B1 L1 hB1 d1
  go_loopw [3, 5] (fun bv iv wr => ∃ (k b : Nat) (s : RS), k ≤ len ∧ bv = .pointer (some ⟨b, 0, none⟩) ∧ iv = .int .i64 k ∧ PairR K wr b r s ∧ Below B w wr) (fun _ iv _ => len - (intOf iv).toNat)
  case atStart => exact ⟨0, b0, zeroR, Nat.zero_le _, rfl, rfl, P0.out, B0.out⟩
  case round =>
  clear P0 B0
  obtain ⟨k, b, s, hk, rfl, rfl, hP, hBl⟩ := hrel
  obtain ⟨W0, rfl⟩ : ∃ W : World, W = wr := ⟨_, rfl⟩
  have P := Lib.hid hP
  have BL := Lib.hid hBl
  clear hP hBl
  by_cases hlt : k < len
  · have d1 : decide ((k : Int) < (len : Int)) = true := decide_eq_true (by omega)
    obtain ⟨lb, off, rfl, ce⟩ := Hl.out.2.2 k hlt
    have hok := Hl.out.2.1 k hlt
    obtain ⟨xx, hx⟩ : ∃ x, l[k]! = x := ⟨_, rfl⟩
    rw [hx] at ce hok
    obtain ⟨xr, v⟩ := xx
    have CE := Lib.hid (fun W' (hb : Below B w W') => ((ce.keep (by rw [HB.out]; exact hb)).c1 : W'.cell? ⟨lb, off + k * 2 + 1, none⟩ = some (.int .u32 v)))
    have CE0 := Lib.hid (fun W' (hb : Below B w W') => ((ce.keep (by rw [HB.out]; exact hb)).c0 : W'.cell? ⟨lb, off + k * 2, none⟩ = some (.int .i64 xr)))
    obtain ⟨hr, hv⟩ := hok
    obtain ⟨pk, hpk, HPk⟩ := Pk.pick_is xr 6 (by omega) (by omega)
    have HPk := Lib.hid HPk
    have i1 : (0 : Int) ≤ (k : Int) := by omega
    have i2 : (k : Int) < (len : Int) := by omega
    clear hx ce
    go_wp2_with fail
    go_loopw [3, 6] (fun bv iv wr => ∃ (q b : Nat) (s : RS), q ≤ 2 ∧ bv = .pointer (some ⟨b, 0, none⟩) ∧ iv = .int .i64 q ∧ PairR K wr b r s ∧ Below B w wr) (fun _ iv _ => 2 - (intOf iv).toNat)
    case atStart => exact ⟨0, b, s, by omega, rfl, rfl, P.out, BL.out⟩
    case round =>
    clear P BL
    obtain ⟨q, b, s, hq, rfl, rfl, hP, hBl⟩ := hrel
    have P := Lib.hid hP
    have BL := Lib.hid hBl
    clear hP hBl
    have e0 := CE0.out _ BL.out
    have e1' := CE.out _ BL.out
    have hq3 : q = 0 ∨ q = 1 ∨ q = 2 := by omega
    rcases hq3 with rfl | rfl | rfl
    · obtain ⟨x, hx⟩ : ∃ x, xr = x := ⟨_, rfl⟩
      rw [hx] at e0 hr
      have HX := Lib.hid (show I64 x from hr)
      clear hx CE0 HPk hr
      obtain ⟨s2, hs2⟩ : ∃ q, writeR s x v = q := ⟨_, rfl⟩
      have HW := Lib.hid (Write_pair K b r s x v wr HX.out hv P.out)
      rw [hs2] at HW
      go_wp2_with fail
      refine HW.out.mono ?_
      rintro e w1 ⟨rfl, O1, O1', hp, ho⟩
      have HP1 := Lib.hid hp
      have B1 := Lib.hid (below_onlyR BL.out ho (by rw [HB.out]; exact Nat.le_refl _) KB.out)
      have e1 := CE.out _ B1.out
      clear hp ho HW e0 e1'
      go_wp2_with fail
      have HR := Lib.hid (rWrite_half K b r s s2 O1 x v w1 hs2 hv HP1.out)
      refine HR.out.mono ?_
      rintro e w2 ⟨rfl, hp, ho⟩
      have P2 := Lib.hid hp
      have Ok2 := Lib.hid hp.ok
      have B2 := Lib.hid (below_onlyR B1.out ho (by rw [HB.out]; exact Nat.le_refl _) KB.out)
      clear hp ho HR HP1 B1 e1 P BL hs2
      go_wp2_with fail
      obtain ⟨O, q1, q2, q3, q4, q5⟩ := P2.out
      refine (State_any b s2 O w2 q1).mono ?_
      rintro e w3 ⟨rfl, hb⟩
      have P3 := Lib.hid (P2.out.keep hb)
      have hB2 := B2.out.size
      have B3 := Lib.hid (B2.out.trans (hb.mono (by rw [← HB.out]; exact hB2)))
      clear q1 q2 q3 q4 q5 hb P2 B2 hB2
      obtain ⟨O, q1, q2, q3, q4, q5⟩ := P3.out
      have Q1 := Lib.hid q1
      have Q2 := Lib.hid q2
      have c0 := q2.1.at 0 rfl
      have c1 := q2.1.at 1 rfl
      obtain ⟨V, hV⟩ : ∃ q, wd s2.p = q := ⟨_, rfl⟩
      obtain ⟨N, hN⟩ : ∃ q, s2.n = q := ⟨_, rfl⟩
      have hVb : 0 ≤ V ∧ V < 4294967296 := by rw [← hV]; exact wd_range _
      have HV := Lib.hid hV
      have R0 := Lib.hid (fun W (h : Rot W b s2 O) => Read_any b s2 O 0 W ⟨by omega, by omega⟩ h)
      have R4 := Lib.hid (fun W (h : Rot W b s2 O) => Read_any b s2 O 4 W ⟨by omega, by omega⟩ h)
      have RX := Lib.hid (fun W (h : Rot W b s2 O) => Read_any b s2 O x W HX.out h)
      have RR := Lib.hid (fun W (h : RefR W r s2) => rRead_any r s2 x W h.1)
      rw [show readR s2 0 = V from hV] at R0
      rw [show readR s2 4 = N from hN] at R4
      obtain ⟨y, hy⟩ : ∃ q, readR s2 x = q := ⟨_, rfl⟩
      rw [hy] at RX RR
      rw [hV] at c0
      rw [hN] at c1
      rw [hV, hN]
      have nV : (V != V) = false := by simp
      have nN : (N != N) = false := by simp
      have ny : (y != y) = false := by simp
      clear q1 q2 q3 q4 q5 hV hN hy
      go_wp2_with fail
      refine wp_region_ext (by kernel_rfl) (by kernel_rfl) ?_
      intro W hW
      obtain rfl : W = w3 := hW.out
      clear hW
      have BE : ∀ p, Below W.heap.size W (ext W p) := fun p => ext_below W p
      have A0 := Lib.hid (fun p => R0.out _ (Q1.out.keep (BE p)))
      have A4 := Lib.hid (fun p => R4.out _ (Q1.out.keep (BE p)))
      have AX := Lib.hid (fun p => RX.out _ (Q1.out.keep (BE p)))
      have AR := Lib.hid (fun p => RR.out _ (Q2.out.keep (BE p)))
      have d0 := fun p => ext_cell c0 p
      have d1 := fun p => ext_cell c1 p
      clear c0 c1 R0 R4 RX RR
      repeat (go_big_quiet_step ((first | (go_at_call 20; first | with_reducible exact ext_of (AX.out _) | with_reducible exact ext_of (A0.out _) | with_reducible exact ext_of (A4.out _)) | (go_at_call 21; with_reducible exact ext_same (AR.out _)))))
      refine wpQuiet_nil ?_
      intro w' hw'
      obtain ⟨p, rfl⟩ := hw'
      have P4 := Lib.hid (P3.out.keep (BE p))
      have hB3 := B3.out.size
      have B4 := Lib.hid (B3.out.trans ((BE p).mono (by rw [← HB.out]; exact hB3)))
      obtain ⟨Y, hY⟩ : ∃ Y, ext W p = Y := ⟨_, rfl⟩
      rw [hY] at P4 B4
      rw [hY]
      clear d0 d1 A0 A4 AX AR Q1 Q2 P3 B3 hB3 BE hY O
      go_wp2_with fail
      have hC := Lib.hid (Copy_pair K b r s2 Y P4.out)
      refine hC.out.mono ?_
      rintro e Y1 ⟨⟨c, O2, rfl, hp, hc, hO2⟩, hb⟩
      have P5 := Lib.hid hp
      have C5 := Lib.hid (And.intro hc hO2)
      have hB4 := B4.out.size
      have B5 := Lib.hid (B4.out.trans (hb.mono (by rw [← HB.out]; exact hB4)))
      have e1 := CE.out _ B5.out
      clear hp hc hO2 hb hC P4 B4 hB4
      have hvo : IntKind.u32.signed = false := rfl
      obtain ⟨v1, hv1⟩ : ∃ q, bits BinOp.or IntKind.u32 v 1 = q := ⟨_, rfl⟩
      have hv1w : 0 ≤ v1 ∧ v1 < 4294967296 := wfu32 (by have := wf_bits .or .u32 v 1; rwa [hv1] at this)
      go_wp2_with fail
      refine (Write_pair (fun j => K j ∨ O2 j) b r s2 1 v1 Y1 ⟨by omega, by omega⟩ hv1w P5.out).mono ?_
      rintro e Y2 ⟨rfl, O6, O6', hp, ho⟩
      have HP6 := Lib.hid hp
      have B6 := Lib.hid (below_onlyR B5.out ho (by rw [HB.out]; exact Nat.le_refl _) (fun j hj => .inl (KB.out j hj)))
      have C6 := Lib.hid (And.intro (C5.out.1.only ho (fun j hj e => e (.inr hj))) C5.out.2)
      have c0 := O6'.1.at 0 rfl
      rw [HV.out] at c0
      clear hp ho P5 B5 C5 hv1 hv1w e1
      obtain ⟨v2, hv2⟩ : ∃ q, bits BinOp.xor IntKind.u32 IntKind.u32.max V = q := ⟨_, rfl⟩
      have hv2w : 0 ≤ v2 ∧ v2 < 4294967296 := wfu32 (by have := wf_bits .xor .u32 IntKind.u32.max V; rwa [hv2] at this)
      go_wp2_with fail
      obtain ⟨u1, hu1⟩ : ∃ q, writeR s2 1 v1 = q := ⟨_, rfl⟩
      rw [hu1] at HP6
      refine (Write_half (fun j => K j ∨ O2 j) b r u1 s2 O6 0 v2 Y2 ⟨by omega, by omega⟩ hv2w HP6.out).mono ?_
      rintro e Y3 ⟨rfl, hp, ho⟩
      have B7 := Lib.hid (below_onlyR B6.out ho (by rw [HB.out]; exact Nat.le_refl _) (fun j hj => .inl (KB.out j hj)))
      have P7 := Lib.hid (show PairR K Y3 c r s2 from ⟨O2, C6.out.1.only ho (fun j hj e => e (.inr hj)), hp.1, fun j hj => C6.out.2 j hj, fun k => hp.2.1 (.inl k), fun j hj => hp.2.2 j (.inl hj)⟩)
      clear hp ho HP6 B6 C6 c0 hu1 hv2 hv2w hvo
      go_wp2_with fail
      exact ⟨⟨1, c, s2, by omega, rfl, rfl, P7.out, B7.out⟩, by simp [intOf]⟩
    · go_wp2_with fail
      refine (HPk.out _).mono ?_
      rintro e w1 ⟨rfl, rfl⟩
      obtain ⟨x, hx⟩ : ∃ x : Int, (pk : Int) = x := ⟨_, rfl⟩
      rw [hx]
      have HX := Lib.hid (show I64 x by rw [← hx]; exact ⟨by omega, by omega⟩)
      clear hx CE0 HPk hr hpk
      obtain ⟨s2, hs2⟩ : ∃ q, writeR s x v = q := ⟨_, rfl⟩
      have HW := Lib.hid (Write_pair K b r s x v wr HX.out hv P.out)
      rw [hs2] at HW
      go_wp2_with fail
      refine HW.out.mono ?_
      rintro e w1 ⟨rfl, O1, O1', hp, ho⟩
      have HP1 := Lib.hid hp
      have B1 := Lib.hid (below_onlyR BL.out ho (by rw [HB.out]; exact Nat.le_refl _) KB.out)
      have e1 := CE.out _ B1.out
      clear hp ho HW e0 e1'
      go_wp2_with fail
      have HR := Lib.hid (rWrite_half K b r s s2 O1 x v w1 hs2 hv HP1.out)
      refine HR.out.mono ?_
      rintro e w2 ⟨rfl, hp, ho⟩
      have P2 := Lib.hid hp
      have Ok2 := Lib.hid hp.ok
      have B2 := Lib.hid (below_onlyR B1.out ho (by rw [HB.out]; exact Nat.le_refl _) KB.out)
      clear hp ho HR HP1 B1 e1 P BL hs2
      go_wp2_with fail
      obtain ⟨O, q1, q2, q3, q4, q5⟩ := P2.out
      refine (State_any b s2 O w2 q1).mono ?_
      rintro e w3 ⟨rfl, hb⟩
      have P3 := Lib.hid (P2.out.keep hb)
      have hB2 := B2.out.size
      have B3 := Lib.hid (B2.out.trans (hb.mono (by rw [← HB.out]; exact hB2)))
      clear q1 q2 q3 q4 q5 hb P2 B2 hB2
      obtain ⟨O, q1, q2, q3, q4, q5⟩ := P3.out
      have Q1 := Lib.hid q1
      have Q2 := Lib.hid q2
      have c0 := q2.1.at 0 rfl
      have c1 := q2.1.at 1 rfl
      obtain ⟨V, hV⟩ : ∃ q, wd s2.p = q := ⟨_, rfl⟩
      obtain ⟨N, hN⟩ : ∃ q, s2.n = q := ⟨_, rfl⟩
      have hVb : 0 ≤ V ∧ V < 4294967296 := by rw [← hV]; exact wd_range _
      have HV := Lib.hid hV
      have R0 := Lib.hid (fun W (h : Rot W b s2 O) => Read_any b s2 O 0 W ⟨by omega, by omega⟩ h)
      have R4 := Lib.hid (fun W (h : Rot W b s2 O) => Read_any b s2 O 4 W ⟨by omega, by omega⟩ h)
      have RX := Lib.hid (fun W (h : Rot W b s2 O) => Read_any b s2 O x W HX.out h)
      have RR := Lib.hid (fun W (h : RefR W r s2) => rRead_any r s2 x W h.1)
      rw [show readR s2 0 = V from hV] at R0
      rw [show readR s2 4 = N from hN] at R4
      obtain ⟨y, hy⟩ : ∃ q, readR s2 x = q := ⟨_, rfl⟩
      rw [hy] at RX RR
      rw [hV] at c0
      rw [hN] at c1
      rw [hV, hN]
      have nV : (V != V) = false := by simp
      have nN : (N != N) = false := by simp
      have ny : (y != y) = false := by simp
      clear q1 q2 q3 q4 q5 hV hN hy
      go_wp2_with fail
      refine wp_region_ext (by kernel_rfl) (by kernel_rfl) ?_
      intro W hW
      obtain rfl : W = w3 := hW.out
      clear hW
      have BE : ∀ p, Below W.heap.size W (ext W p) := fun p => ext_below W p
      have A0 := Lib.hid (fun p => R0.out _ (Q1.out.keep (BE p)))
      have A4 := Lib.hid (fun p => R4.out _ (Q1.out.keep (BE p)))
      have AX := Lib.hid (fun p => RX.out _ (Q1.out.keep (BE p)))
      have AR := Lib.hid (fun p => RR.out _ (Q2.out.keep (BE p)))
      have d0 := fun p => ext_cell c0 p
      have d1 := fun p => ext_cell c1 p
      clear c0 c1 R0 R4 RX RR
      repeat (go_big_quiet_step ((first | (go_at_call 20; first | with_reducible exact ext_of (AX.out _) | with_reducible exact ext_of (A0.out _) | with_reducible exact ext_of (A4.out _)) | (go_at_call 21; with_reducible exact ext_same (AR.out _)))))
      refine wpQuiet_nil ?_
      intro w' hw'
      obtain ⟨p, rfl⟩ := hw'
      have P4 := Lib.hid (P3.out.keep (BE p))
      have hB3 := B3.out.size
      have B4 := Lib.hid (B3.out.trans ((BE p).mono (by rw [← HB.out]; exact hB3)))
      obtain ⟨Y, hY⟩ : ∃ Y, ext W p = Y := ⟨_, rfl⟩
      rw [hY] at P4 B4
      rw [hY]
      clear d0 d1 A0 A4 AX AR Q1 Q2 P3 B3 hB3 BE hY O
      go_wp2_with fail
      have hC := Lib.hid (Copy_pair K b r s2 Y P4.out)
      refine hC.out.mono ?_
      rintro e Y1 ⟨⟨c, O2, rfl, hp, hc, hO2⟩, hb⟩
      have P5 := Lib.hid hp
      have C5 := Lib.hid (And.intro hc hO2)
      have hB4 := B4.out.size
      have B5 := Lib.hid (B4.out.trans (hb.mono (by rw [← HB.out]; exact hB4)))
      have e1 := CE.out _ B5.out
      clear hp hc hO2 hb hC P4 B4 hB4
      have hvo : IntKind.u32.signed = false := rfl
      obtain ⟨v1, hv1⟩ : ∃ q, bits BinOp.or IntKind.u32 v 1 = q := ⟨_, rfl⟩
      have hv1w : 0 ≤ v1 ∧ v1 < 4294967296 := wfu32 (by have := wf_bits .or .u32 v 1; rwa [hv1] at this)
      go_wp2_with fail
      refine (Write_pair (fun j => K j ∨ O2 j) b r s2 1 v1 Y1 ⟨by omega, by omega⟩ hv1w P5.out).mono ?_
      rintro e Y2 ⟨rfl, O6, O6', hp, ho⟩
      have HP6 := Lib.hid hp
      have B6 := Lib.hid (below_onlyR B5.out ho (by rw [HB.out]; exact Nat.le_refl _) (fun j hj => .inl (KB.out j hj)))
      have C6 := Lib.hid (And.intro (C5.out.1.only ho (fun j hj e => e (.inr hj))) C5.out.2)
      have c0 := O6'.1.at 0 rfl
      rw [HV.out] at c0
      clear hp ho P5 B5 C5 hv1 hv1w e1
      obtain ⟨v2, hv2⟩ : ∃ q, bits BinOp.xor IntKind.u32 IntKind.u32.max V = q := ⟨_, rfl⟩
      have hv2w : 0 ≤ v2 ∧ v2 < 4294967296 := wfu32 (by have := wf_bits .xor .u32 IntKind.u32.max V; rwa [hv2] at this)
      go_wp2_with fail
      obtain ⟨u1, hu1⟩ : ∃ q, writeR s2 1 v1 = q := ⟨_, rfl⟩
      rw [hu1] at HP6
      refine (Write_half (fun j => K j ∨ O2 j) b r u1 s2 O6 0 v2 Y2 ⟨by omega, by omega⟩ hv2w HP6.out).mono ?_
      rintro e Y3 ⟨rfl, hp, ho⟩
      have B7 := Lib.hid (below_onlyR B6.out ho (by rw [HB.out]; exact Nat.le_refl _) (fun j hj => .inl (KB.out j hj)))
      have P7 := Lib.hid (show PairR K Y3 c r s2 from ⟨O2, C6.out.1.only ho (fun j hj e => e (.inr hj)), hp.1, fun j hj => C6.out.2 j hj, fun k => hp.2.1 (.inl k), fun j hj => hp.2.2 j (.inl hj)⟩)
      clear hp ho HP6 B6 C6 c0 hu1 hv2 hv2w hvo
      go_wp2_with fail
      exact ⟨⟨2, c, s2, by omega, rfl, rfl, P7.out, B7.out⟩, by simp [intOf]⟩
    · clear e0 e1' CE CE0 HPk hr
      go_wp2_with fail
      exact ⟨⟨k + 1, b, s, by omega, rfl, by go_num, P.out, BL.out⟩, by simp [intOf]; omega⟩
  · have d1 : decide ((k : Int) < (len : Int)) = false := decide_eq_false (by omega)
    have d2 : decide (k < len) = false := decide_eq_false hlt
    go_wp2_with fail
    refine (awake_any _).mono ?_
    rintro e w2 ⟨rfl, hb⟩
    have hB1 := BL.out.size
    have B2 := Lib.hid (BL.out.trans (hb.mono (by rw [← HB.out]; exact hB1)))
    clear hb
    go_wp2_with fail
    go_ret
    exact ⟨rfl, by rw [HB.out]; exact B2.out⟩
theorem does_any (a : Option Addr) (len cap : Nat) (l : List Dd) (w : World) (hl : RowDd w a len l) :
    Calls Try.prog 5 #[.slice a len cap] w fun e w' => e = .returned (.bool true) ∧ Below w.heap.size w w' := by
  by_cases h : 300 < len
  · exact does_far a len cap w h
  · exact does_in a len cap l w hl (by omega)
theorem does_walk (a : Option Addr) (len cap : Nat) (l : List Dd) (w : World) (hl : RowDd w a len l) (h1 : a = none → len = 0 ∧ cap = 0) (h2 : len ≤ cap) (h3 : len ≤ maxLen) :
    Calls Try.prog 5 #[.slice a len cap] w fun e w' => e = .returned (.bool true) ∧ Below w.heap.size w w' :=
  does_any a len cap l w hl
end Go.Proofs.Ytelmkfpomeilpaa.Rotor
