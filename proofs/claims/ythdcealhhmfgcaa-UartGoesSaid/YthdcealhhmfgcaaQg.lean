/- The walk of UartGoes. -/
import Derived.Test.YthdcealhhmfgcaaQo
namespace Go.Proofs.Ythdcealhhmfgcaa.Uart
open Go.RowKit Go.Maps Go.ChangeShapes Go.WideShapes Go.ChangeAt Fifo Orow Word
open Bench (Two RowO same_own)
set_option linter.unusedVariables false

/-- Nothing came: what goes, whether some was lost, the phase. -/
def goU (gs : List Int) (lost : Bool) (p : Int) : Un := ⟨[], gs, false, lost, 0, p⟩
theorem go_put (gs : List Int) (l : Bool) (p x : Int) (hx : 0 ≤ x ∧ x < 256) (h : ¬ gs.length = 8) : writeU (goU gs l p) 0 (703488 + x) = goU (gs ++ [x]) l p := by
  show (if gs.length = 8 then _ else _) = _
  rw [if_neg h, show (703488 + x) % 256 = x by omega]; rfl
theorem go_full (gs : List Int) (l : Bool) (p x : Int) (h : gs.length = 8) : writeU (goU gs l p) 0 (703488 + x) = goU gs true p := by
  show (if gs.length = 8 then _ else _) = _
  rw [if_pos h]; rfl
theorem go_tick (gs : List Int) (l : Bool) (p : Int) (h : ¬ p = 3) : tickU (goU gs l p) = (0, false, goU gs l (p + 1)) := by
  show (if p = 3 then _ else _) = _
  rw [if_neg h]; rfl
theorem go_none (l : Bool) : tickU (goU [] l 3) = (0, false, goU [] l 0) := rfl
theorem go_out (b : Int) (t : List Int) (l : Bool) : tickU (goU (b :: t) l 3) = (b, true, goU t l 0) := rfl
theorem go_1 (gs : List Int) (l : Bool) (p : Int) : readU (goU gs l p) 1 = (256 * (gs.length : Int) + (if l then 131072 else 0), goU gs l p) := by
  show (((([] : List Int).length : Nat) + 256 * (gs.length : Int) + (if false then 65536 else 0) + (if l then 131072 else 0), goU gs l p) : Int × Un) = _
  simp
theorem go_ok {w : World} {b : Nat} {gs : List Int} {l : Bool} {p : Int} {O : Nat → Prop} (h : Uar w b (goU gs l p) O) : OkB gs ∧ gs.length ≤ 8 := h.ok.goes
set_option maxRecDepth 100000 in
set_option maxHeartbeats 8000000 in
theorem goes_walk (a : Option Addr) (len cap : Nat) (l : List Int) (a2 : Option Addr) (len2 cap2 : Nat) (rs : List Bool) (w : World) (hl : Row .u8 w a len l) (h0 : a = none → cap = 0) (hr : Truth.RowT w a2 len2 rs) (h1 : a2 = none → len2 = 0 ∧ cap2 = 0) (h2 : len2 ≤ cap2) (h3 : len2 ≤ maxLen) :
    Calls Try.prog 6 #[.slice a len cap, .slice a2 len2 cap2] w fun e w' => e = .returned (.bool true) ∧ Below w.heap.size w w' := by
  have Hl := Lib.hid hl
  have Hr := Lib.hid hr
  have hlm : len ≤ 9223372036854775807 := hl.2.1
  clear hl h0 hr h1 h2 h3
  obtain ⟨B, hB⟩ : ∃ B, w.heap.size = B := ⟨_, rfl⟩
  have HB := Lib.hid hB
  clear hB
  obtain ⟨i0, hi, hz0, hz1, hz2⟩ := info_parts KitBytes.info_e
  have Hi := Lib.hid hi
  have Hz0 := Lib.hid hz0
  have Hz1 := Lib.hid hz1
  have Hz2 := Lib.hid hz2
  clear hi hz0 hz1 hz2
  by_cases h300 : 300 < len2
  · have d1 : decide ((300 : Int) < (len2 : Int)) = true := decide_eq_true (by omega)
    go_enter Try.func6, Try.ntmps6
    go_wp2_with fail
    refine (awake_any _).mono ?_
    rintro e w1 ⟨rfl, hb⟩
    have B1 := Lib.hid hb
    clear hb
    go_wp2_with fail
    go_ret
    exact ⟨rfl, B1.out⟩
  have d1 : decide ((300 : Int) < (len2 : Int)) = false := decide_eq_false (by omega)
  go_enter Try.func6, Try.ntmps6
  go_wp2_with fail
  refine (awake_any _).mono ?_
  rintro e w1 ⟨rfl, hb⟩
  have B1 := Lib.hid hb
  clear hb
  go_wp2_with fail
  refine (New_any _).mono ?_
  rintro e w2 ⟨⟨b, O, rfl, hU, hO⟩, hb⟩
  have U3 := Lib.hid (show Uar w2 b (goU [] false 0) O from hU)
  have hs1 := B1.out.size
  have N3 := Lib.hid (show Two 5 B w w2 (.slice none 0 0) (.slice none 0 0) (bv ([] ++ [])) (bv []) O from
    Two.new (fun j hj => ⟨by have := hO j hj; have := HB.out; omega, hU.lt j hj⟩) (by
      rw [← HB.out]
      exact B1.out.trans (hb.mono hs1)) (by rw [HB.out]; exact Nat.le_refl _))
  have h300' : len2 ≤ 300 := by omega
  clear hU hO hs1 hb B1 d1 h300
  go_wp2_with fail
  go_loopw [6, 7, 8, 9] (fun vp vg nv iv wr => ∃ (i n : Nat) (gl gs : List Int) (lost : Bool) (p : Int) (O : Nat → Prop), i ≤ len2 ∧ iv = .int .i64 i ∧ nv = .int .i64 n ∧ n ≤ i ∧ gl.length + gs.length ≤ n ∧ lost = decide (gl.length + gs.length < n) ∧ p = ((i % 4 : Nat) : Int) ∧ Uar wr b (goU gs lost p) O ∧ Two 5 B w wr vp vg (bv (gl ++ gs)) (bv gl) O) (fun _ _ _ iv _ => len2 - (intOf iv).toNat)
  case atStart => exact ⟨0, 0, [], [], false, 0, O, Nat.zero_le _, rfl, rfl, Nat.le_refl _, Nat.le_refl _, rfl, rfl, U3.out, N3.out⟩
  case round =>
  clear U3 N3
  obtain ⟨i, n, gl, gs, lost, p, O, hi, rfl, rfl, hni, hle, hlost, hp, hU, hN⟩ := hrel
  obtain ⟨ap, cp, e1⟩ := hN.rp.shape
  obtain ⟨ag, cg, e2⟩ := hN.rg.shape
  subst e1 e2
  have H8 := Lib.hid (go_ok hU)
  obtain ⟨np, hnp⟩ : ∃ n, (bv (gl ++ gs)).length = n := ⟨_, rfl⟩
  obtain ⟨ng, hng⟩ : ∃ n, (bv gl).length = n := ⟨_, rfl⟩
  have Hnp := Lib.hid (show np = gl.length + gs.length by rw [← hnp, bvn, List.length_append])
  have Hng := Lib.hid (show ng = gl.length by rw [← hng, bvn])
  rw [hnp, hng] at hN ⊢
  have U := Lib.hid hU
  have N := Lib.hid hN
  have hn3 : n ≤ 300 := by omega
  have hp3 : np ≤ n := by have := Hnp.out; omega
  have hg3 : ng ≤ np := by have := Hnp.out; have := Hng.out; omega
  have Hlost := Lib.hid (show lost = decide (np < n) by rw [hlost, ← Hnp.out])
  have Hp := Lib.hid hp
  have Hni := Lib.hid hni
  clear hU hN hnp hng hle hlost hp hni
  by_cases hlt : i < len2
  · have d1 : decide ((i : Int) < (len2 : Int)) = true := decide_eq_true (by omega)
    obtain ⟨rb, roff, rfl, hcr⟩ := Hr.out.2 i hlt
    have hcr := cell_keep (by rw [HB.out]; exact N.out.bl) hcr
    have i1 : (0 : Int) ≤ (i : Int) := by omega
    have i2 : (i : Int) < (len2 : Int) := by omega
    cases hrd : rs[i]! with
    | false =>
      rw [hrd] at hcr
      clear hrd
      go_wp2_with fail
      by_cases h3 : i % 4 = 3
      · have p3 : p = 3 := by rw [Hp.out, h3]; rfl
        have q3 : ((i : Int) % 4 == 3) = true := by rw [show (i : Int) % 4 = 3 by omega]; rfl
        cases hgs : gs with
        | nil =>
          rw [hgs] at U N Hnp
          have e3 : ¬ (ng < np) := by have a1 := Hnp.out; have a2 := Hng.out; rw [List.length_nil] at a1; omega
          have e4 : decide ((ng : Int) < (np : Int)) = false := decide_eq_false (by omega)
          refine (Tick_any b _ O wr U.out).mono ?_
          rintro e Y ⟨rfl, O6, hU, ho, hn⟩
          rw [p3, go_none] at hU ⊢
          have N6 := Lib.hid (N.out.obj ho hn hU.lt)
          have U6 := Lib.hid hU
          have H3 := Lib.hid h3
          clear hU ho hn h3 p3 hgs
          go_wp2_with fail
          refine (Read_any b _ O6 1 Y ⟨by omega, by omega⟩ U6.out).mono ?_
          rintro e Z ⟨rfl, O7, hU, ho, hn⟩
          rw [go_1] at hU ⊢
          have N7 := Lib.hid (N6.out.obj ho hn hU.lt)
          have U7 := Lib.hid hU
          obtain ⟨v, hv⟩ : ∃ v, 256 * (([] : List Int).length : Int) + (if lost then 131072 else 0) = v := ⟨_, rfl⟩
          have vn : (0 : Int) ≤ (np : Int) - (ng : Int) ∧ (np : Int) - (ng : Int) ≤ 8 := by have a1 := Hnp.out; have a2 := Hng.out; have a3 := (go_ok U7.out).2; omega
          have v4 : 0 ≤ v ∧ v < 4294967296 := by have a1 := Hnp.out; have a2 := Hng.out; rw [← hv]; split <;> omega
          have v1 : v / 256 % 256 = (np : Int) - (ng : Int) := by have a1 := Hnp.out; have a2 := Hng.out; rw [← hv]; split <;> omega
          have v5 : (v / 256 % 256 != (np : Int) - (ng : Int)) = false := by rw [v1]; simp
          rw [hv]
          have v6 := v4.1
          have v7 := v4.2
          clear hU ho hn hv U6 N6
          go_wp2_with fail
          exact ⟨⟨i + 1, n, gl, [], lost, 0, O7, by omega, by go_num, rfl, by have := Hni.out; omega, by have := Hnp.out; omega, by rw [← Hnp.out]; exact Hlost.out, by have := H3.out; omega, U7.out, N7.out⟩, by simp [intOf]; omega⟩
        | cons y t =>
          rw [hgs] at U N Hnp
          have e3 : ng < np := by have a1 := Hnp.out; have a2 := Hng.out; rw [List.length_cons] at a1; omega
          have e4 : decide ((ng : Int) < (np : Int)) = true := decide_eq_true (by omega)
          refine (Tick_any b _ O wr U.out).mono ?_
          rintro e Y0 ⟨rfl, O6, hU, ho, hn⟩
          rw [p3, go_out] at hU ⊢
          have N06 := Lib.hid (N.out.obj ho hn hU.lt)
          have U06 := Lib.hid hU
          have H3 := Lib.hid h3
          clear hU ho hn h3 p3 hgs
          go_wp2_with (with_reducible refine Bench.at_append _ _ _ _ rfl ?_)
          apply Lib.hid
          refine wpList_append_own_at _ rfl _ _ 27 rfl B 5 i0 (.int .u8 0) 1 1 Try.underlying27 Hi.out Hz0.out Hz1.out Hz2.out rfl (by decide) (.slice ag ng cg) ng (bv gl) rfl (own_keep (row_len N06.out.rg Hng.out.symm) ((Below.refl _ _).alloc (Nat.le_refl _) _)) ⟨Y0.heap.size, 0, none⟩ 1 1 [.int .u8 y] rfl rfl (cell_one_new _ _ _) (by simp [Value.oneCell']) (by unfold maxLen; omega) (by omega) (by have := N06.out.b0; have := N06.out.bl.size; simp; omega) ?_
          intro v' Y r1 r2 _ r4
          obtain ⟨hN, ho⟩ := N06.out.app_g (by rw [bvn]; exact Hng.out.symm) r1 r2 r4
          obtain ⟨ag2, cg2, rfl, _, _⟩ := own_shape r1
          have U6 := Lib.hid (U06.out.only ho (fun j hj e => (N06.out.ob j hj).2.2.2 e))
          obtain ⟨ng2, hng2⟩ : ∃ q, ng + 1 = q := ⟨_, rfl⟩
          obtain ⟨gl2, hgl2⟩ : ∃ q, gl ++ [y] = q := ⟨_, rfl⟩
          have N6 := Lib.hid (show Two 5 B w Y (.slice ap np cp) (.slice ag2 ng2 cg2) (bv (gl2 ++ t)) (bv gl2) O6 by
            rw [← hgl2, ← hng2, show (gl ++ [y]) ++ t = gl ++ y :: t by simp, bv_app gl [y], bv_one]; exact hN)
          have Hnp2 := Lib.hid (show np = gl2.length + t.length by have a1 := Hnp.out; rw [← hgl2, List.length_append, List.length_singleton]; rw [List.length_cons] at a1; omega)
          have Hng2 := Lib.hid (show ng2 = gl2.length by have a1 := Hng.out; rw [← hgl2, ← hng2, List.length_append, List.length_singleton]; omega)
          have hg32 : ng2 ≤ np := by omega
          rw [hng2]
          clear hN ho r1 r2 r4 U06 N06 e3 e4 hng2 hgl2 hg3
          go_wp2_with fail
          refine (Read_any b _ O6 1 Y ⟨by omega, by omega⟩ U6.out).mono ?_
          rintro e Z ⟨rfl, O7, hU, ho, hn⟩
          rw [go_1] at hU ⊢
          have N7 := Lib.hid (N6.out.obj ho hn hU.lt)
          have U7 := Lib.hid hU
          obtain ⟨v, hv⟩ : ∃ v, 256 * ((t : List Int).length : Int) + (if lost then 131072 else 0) = v := ⟨_, rfl⟩
          have vn : (0 : Int) ≤ (np : Int) - (ng2 : Int) ∧ (np : Int) - (ng2 : Int) ≤ 8 := by have a1 := Hnp2.out; have a2 := Hng2.out; have a3 := (go_ok U7.out).2; omega
          have v4 : 0 ≤ v ∧ v < 4294967296 := by have a1 := Hnp2.out; have a2 := Hng2.out; rw [← hv]; split <;> omega
          have v1 : v / 256 % 256 = (np : Int) - (ng2 : Int) := by have a1 := Hnp2.out; have a2 := Hng2.out; rw [← hv]; split <;> omega
          have v5 : (v / 256 % 256 != (np : Int) - (ng2 : Int)) = false := by rw [v1]; simp
          rw [hv]
          have v6 := v4.1
          have v7 := v4.2
          clear hU ho hn hv U6 N6
          go_wp2_with fail
          exact ⟨⟨i + 1, n, gl2, t, lost, 0, O7, by omega, by go_num, rfl, by have := Hni.out; omega, by have := Hnp2.out; omega, by rw [← Hnp2.out]; exact Hlost.out, by have := H3.out; omega, U7.out, N7.out⟩, by simp [intOf]; omega⟩
      · have p3 : ¬ p = 3 := by rw [Hp.out]; omega
        have q3 : ((i : Int) % 4 == 3) = false := by simpa using (show ¬ ((i : Int) % 4 = 3) by omega)
        refine (Tick_any b _ O wr U.out).mono ?_
        rintro e Y ⟨rfl, O6, hU, ho, hn⟩
        rw [go_tick _ _ _ p3] at hU ⊢
        have N6 := Lib.hid (N.out.obj ho hn hU.lt)
        have U6 := Lib.hid hU
        have H3 := Lib.hid h3
        clear hU ho hn h3 p3
        go_wp2_with fail
        refine (Read_any b _ O6 1 Y ⟨by omega, by omega⟩ U6.out).mono ?_
        rintro e Z ⟨rfl, O7, hU, ho, hn⟩
        rw [go_1] at hU ⊢
        have N7 := Lib.hid (N6.out.obj ho hn hU.lt)
        have U7 := Lib.hid hU
        obtain ⟨v, hv⟩ : ∃ v, 256 * ((gs : List Int).length : Int) + (if lost then 131072 else 0) = v := ⟨_, rfl⟩
        have vn : (0 : Int) ≤ (np : Int) - (ng : Int) ∧ (np : Int) - (ng : Int) ≤ 8 := by have a1 := Hnp.out; have a2 := Hng.out; have a3 := (go_ok U7.out).2; omega
        have v4 : 0 ≤ v ∧ v < 4294967296 := by have a1 := Hnp.out; have a2 := Hng.out; rw [← hv]; split <;> omega
        have v1 : v / 256 % 256 = (np : Int) - (ng : Int) := by have a1 := Hnp.out; have a2 := Hng.out; rw [← hv]; split <;> omega
        have v5 : (v / 256 % 256 != (np : Int) - (ng : Int)) = false := by rw [v1]; simp
        rw [hv]
        have v6 := v4.1
        have v7 := v4.2
        clear hU ho hn hv U6 N6
        go_wp2_with fail
        exact ⟨⟨i + 1, n, gl, gs, lost, p + 1, O7, by omega, by go_num, rfl, by have := Hni.out; omega, by have := Hnp.out; omega, by rw [← Hnp.out]; exact Hlost.out, by have := H3.out; rw [Hp.out]; omega, U7.out, N7.out⟩, by simp [intOf]; omega⟩
    | true =>
      rw [hrd] at hcr
      clear hrd
      by_cases hnl : n < len
      · have d2 : decide ((n : Int) < (len : Int)) = true := decide_eq_true (by omega)
        obtain ⟨lb, off, rfl, hlb, hcl⟩ : ∃ lb off, a = some ⟨lb, off, none⟩ ∧ lb < w.heap.size ∧ ∀ k, k < len → w.cell? ⟨lb, off + k, none⟩ = some (.int .u8 (l.getD k 0)) := by
          rcases Hl.out.2.2.2 with h | h
          · omega
          · exact h
        have hcx := hcl n hnl
        obtain ⟨x, hx⟩ : ∃ x, l.getD n 0 = x := ⟨_, rfl⟩
        have hxb : 0 ≤ x ∧ x < 256 := by
          have hm : l.getD n 0 ∈ l := by
            rw [List.getD_eq_getElem?_getD, List.getElem?_eq_getElem (by have := Hl.out.1; omega)]
            exact List.getElem_mem _
          have := Hl.out.2.2.1 _ hm
          rw [hx] at this
          simp only [Lit.wf, Bool.and_eq_true, decide_eq_true_eq] at this
          have e1 : IntKind.u8.min = 0 := rfl
          have e2 : IntKind.u8.max = 255 := rfl
          omega
        have x0 : 0 ≤ x := hxb.1
        have x1 : x < 256 := hxb.2
        rw [hx] at hcx
        have CX := Lib.hid (fun W (h : Below B w W) => cell_keep (by rw [HB.out]; exact h) hcx)
        have i3 : (0 : Int) ≤ (n : Int) := by omega
        have i4 : (n : Int) < (len : Int) := by omega
        have cx := CX.out wr N.out.bl
        clear hx hcl hcx hlb
        by_cases h8 : gs.length = 8
        · have m1 : decide ((np : Int) - (ng : Int) < 8) = false := decide_eq_false (by have a1 := Hnp.out; have a2 := Hng.out; omega)
          go_wp2_with fail
          refine (Write_any b _ O 0 (703488 + x) wr ⟨by omega, by omega⟩ ⟨by omega, by omega⟩ U.out).mono ?_
          rintro e X ⟨rfl, O5, hU, ho, hn⟩
          rw [go_full _ _ _ _ h8] at hU
          have N5 := Lib.hid (N.out.obj ho hn hU.lt)
          have U5 := Lib.hid hU
          obtain ⟨n5, hn5⟩ : ∃ q, n + 1 = q := ⟨_, rfl⟩
          have Hlost5 := Lib.hid (show true = decide (np < n5) from (decide_eq_true (by omega)).symm)
          have hp35 : np ≤ n5 := by omega
          have hn35 : n5 ≤ 301 := by omega
          have Hni5 := Lib.hid (show n5 ≤ i + 1 by have := Hni.out; omega)
          obtain ⟨b5, hb5⟩ : ∃ q, q = true := ⟨_, rfl⟩
          rw [← hb5] at U5 Hlost5
          have Hn5 := Lib.hid hn5
          clear hU ho hn U N m1 cx h8 hcr hb5 hn5
          go_wp2_with fail
          have e9 := Hn5.out
          have e8 : IntKind.i64.wrap ((n : Int) + 1) = (n5 : Int) := by rw [IntWalk.i64_in _ (by omega)]; omega
          first | rw [show ((n : Int) + 1) = (n5 : Int) by omega] | rw [e8]
          clear e8 e9
          by_cases h3 : i % 4 = 3
          · have p3 : p = 3 := by rw [Hp.out, h3]; rfl
            have q3 : ((i : Int) % 4 == 3) = true := by rw [show (i : Int) % 4 = 3 by omega]; rfl
            cases hgs : gs with
            | nil =>
              rw [hgs] at U5 N5 Hnp
              have e3 : ¬ (ng < np) := by have a1 := Hnp.out; have a2 := Hng.out; rw [List.length_nil] at a1; omega
              have e4 : decide ((ng : Int) < (np : Int)) = false := decide_eq_false (by omega)
              refine (Tick_any b _ O5 X U5.out).mono ?_
              rintro e Y ⟨rfl, O6, hU, ho, hn⟩
              rw [p3, go_none] at hU ⊢
              have N6 := Lib.hid (N5.out.obj ho hn hU.lt)
              have U6 := Lib.hid hU
              have H3 := Lib.hid h3
              clear hU ho hn h3 p3 hgs
              go_wp2_with fail
              refine (Read_any b _ O6 1 Y ⟨by omega, by omega⟩ U6.out).mono ?_
              rintro e Z ⟨rfl, O7, hU, ho, hn⟩
              rw [go_1] at hU ⊢
              have N7 := Lib.hid (N6.out.obj ho hn hU.lt)
              have U7 := Lib.hid hU
              obtain ⟨v, hv⟩ : ∃ v, 256 * (([] : List Int).length : Int) + (if b5 then 131072 else 0) = v := ⟨_, rfl⟩
              have vn : (0 : Int) ≤ (np : Int) - (ng : Int) ∧ (np : Int) - (ng : Int) ≤ 8 := by have a1 := Hnp.out; have a2 := Hng.out; have a3 := (go_ok U7.out).2; omega
              have v4 : 0 ≤ v ∧ v < 4294967296 := by have a1 := Hnp.out; have a2 := Hng.out; rw [← hv]; split <;> omega
              have v1 : v / 256 % 256 = (np : Int) - (ng : Int) := by have a1 := Hnp.out; have a2 := Hng.out; rw [← hv]; split <;> omega
              have v5 : (v / 256 % 256 != (np : Int) - (ng : Int)) = false := by rw [v1]; simp
              rw [hv]
              have v6 := v4.1
              have v7 := v4.2
              clear hU ho hn hv U6 N6
              go_wp2_with fail
              exact ⟨⟨i + 1, n5, gl, [], b5, 0, O7, by omega, by go_num, rfl, by have := Hni5.out; omega, by have := Hnp.out; omega, by rw [← Hnp.out]; exact Hlost5.out, by have := H3.out; omega, U7.out, N7.out⟩, by simp [intOf]; omega⟩
            | cons y t =>
              rw [hgs] at U5 N5 Hnp
              have e3 : ng < np := by have a1 := Hnp.out; have a2 := Hng.out; rw [List.length_cons] at a1; omega
              have e4 : decide ((ng : Int) < (np : Int)) = true := decide_eq_true (by omega)
              refine (Tick_any b _ O5 X U5.out).mono ?_
              rintro e Y0 ⟨rfl, O6, hU, ho, hn⟩
              rw [p3, go_out] at hU ⊢
              have N06 := Lib.hid (N5.out.obj ho hn hU.lt)
              have U06 := Lib.hid hU
              have H3 := Lib.hid h3
              clear hU ho hn h3 p3 hgs
              go_wp2_with (with_reducible refine Bench.at_append _ _ _ _ rfl ?_)
              apply Lib.hid
              refine wpList_append_own_at _ rfl _ _ 27 rfl B 5 i0 (.int .u8 0) 1 1 Try.underlying27 Hi.out Hz0.out Hz1.out Hz2.out rfl (by decide) (.slice ag ng cg) ng (bv gl) rfl (own_keep (row_len N06.out.rg Hng.out.symm) ((Below.refl _ _).alloc (Nat.le_refl _) _)) ⟨Y0.heap.size, 0, none⟩ 1 1 [.int .u8 y] rfl rfl (cell_one_new _ _ _) (by simp [Value.oneCell']) (by unfold maxLen; omega) (by omega) (by have := N06.out.b0; have := N06.out.bl.size; simp; omega) ?_
              intro v' Y r1 r2 _ r4
              obtain ⟨hN, ho⟩ := N06.out.app_g (by rw [bvn]; exact Hng.out.symm) r1 r2 r4
              obtain ⟨ag2, cg2, rfl, _, _⟩ := own_shape r1
              have U6 := Lib.hid (U06.out.only ho (fun j hj e => (N06.out.ob j hj).2.2.2 e))
              obtain ⟨ng2, hng2⟩ : ∃ q, ng + 1 = q := ⟨_, rfl⟩
              obtain ⟨gl2, hgl2⟩ : ∃ q, gl ++ [y] = q := ⟨_, rfl⟩
              have N6 := Lib.hid (show Two 5 B w Y (.slice ap np cp) (.slice ag2 ng2 cg2) (bv (gl2 ++ t)) (bv gl2) O6 by
                rw [← hgl2, ← hng2, show (gl ++ [y]) ++ t = gl ++ y :: t by simp, bv_app gl [y], bv_one]; exact hN)
              have Hnp2 := Lib.hid (show np = gl2.length + t.length by have a1 := Hnp.out; rw [← hgl2, List.length_append, List.length_singleton]; rw [List.length_cons] at a1; omega)
              have Hng2 := Lib.hid (show ng2 = gl2.length by have a1 := Hng.out; rw [← hgl2, ← hng2, List.length_append, List.length_singleton]; omega)
              have hg32 : ng2 ≤ np := by omega
              rw [hng2]
              clear hN ho r1 r2 r4 U06 N06 e3 e4 hng2 hgl2 hg3
              go_wp2_with fail
              refine (Read_any b _ O6 1 Y ⟨by omega, by omega⟩ U6.out).mono ?_
              rintro e Z ⟨rfl, O7, hU, ho, hn⟩
              rw [go_1] at hU ⊢
              have N7 := Lib.hid (N6.out.obj ho hn hU.lt)
              have U7 := Lib.hid hU
              obtain ⟨v, hv⟩ : ∃ v, 256 * ((t : List Int).length : Int) + (if b5 then 131072 else 0) = v := ⟨_, rfl⟩
              have vn : (0 : Int) ≤ (np : Int) - (ng2 : Int) ∧ (np : Int) - (ng2 : Int) ≤ 8 := by have a1 := Hnp2.out; have a2 := Hng2.out; have a3 := (go_ok U7.out).2; omega
              have v4 : 0 ≤ v ∧ v < 4294967296 := by have a1 := Hnp2.out; have a2 := Hng2.out; rw [← hv]; split <;> omega
              have v1 : v / 256 % 256 = (np : Int) - (ng2 : Int) := by have a1 := Hnp2.out; have a2 := Hng2.out; rw [← hv]; split <;> omega
              have v5 : (v / 256 % 256 != (np : Int) - (ng2 : Int)) = false := by rw [v1]; simp
              rw [hv]
              have v6 := v4.1
              have v7 := v4.2
              clear hU ho hn hv U6 N6
              go_wp2_with fail
              exact ⟨⟨i + 1, n5, gl2, t, b5, 0, O7, by omega, by go_num, rfl, by have := Hni5.out; omega, by have := Hnp2.out; omega, by rw [← Hnp2.out]; exact Hlost5.out, by have := H3.out; omega, U7.out, N7.out⟩, by simp [intOf]; omega⟩
          · have p3 : ¬ p = 3 := by rw [Hp.out]; omega
            have q3 : ((i : Int) % 4 == 3) = false := by simpa using (show ¬ ((i : Int) % 4 = 3) by omega)
            refine (Tick_any b _ O5 X U5.out).mono ?_
            rintro e Y ⟨rfl, O6, hU, ho, hn⟩
            rw [go_tick _ _ _ p3] at hU ⊢
            have N6 := Lib.hid (N5.out.obj ho hn hU.lt)
            have U6 := Lib.hid hU
            have H3 := Lib.hid h3
            clear hU ho hn h3 p3
            go_wp2_with fail
            refine (Read_any b _ O6 1 Y ⟨by omega, by omega⟩ U6.out).mono ?_
            rintro e Z ⟨rfl, O7, hU, ho, hn⟩
            rw [go_1] at hU ⊢
            have N7 := Lib.hid (N6.out.obj ho hn hU.lt)
            have U7 := Lib.hid hU
            obtain ⟨v, hv⟩ : ∃ v, 256 * ((gs : List Int).length : Int) + (if b5 then 131072 else 0) = v := ⟨_, rfl⟩
            have vn : (0 : Int) ≤ (np : Int) - (ng : Int) ∧ (np : Int) - (ng : Int) ≤ 8 := by have a1 := Hnp.out; have a2 := Hng.out; have a3 := (go_ok U7.out).2; omega
            have v4 : 0 ≤ v ∧ v < 4294967296 := by have a1 := Hnp.out; have a2 := Hng.out; rw [← hv]; split <;> omega
            have v1 : v / 256 % 256 = (np : Int) - (ng : Int) := by have a1 := Hnp.out; have a2 := Hng.out; rw [← hv]; split <;> omega
            have v5 : (v / 256 % 256 != (np : Int) - (ng : Int)) = false := by rw [v1]; simp
            rw [hv]
            have v6 := v4.1
            have v7 := v4.2
            clear hU ho hn hv U6 N6
            go_wp2_with fail
            exact ⟨⟨i + 1, n5, gl, gs, b5, p + 1, O7, by omega, by go_num, rfl, by have := Hni5.out; omega, by have := Hnp.out; omega, by rw [← Hnp.out]; exact Hlost5.out, by have := H3.out; rw [Hp.out]; omega, U7.out, N7.out⟩, by simp [intOf]; omega⟩
        · have m1 : decide ((np : Int) - (ng : Int) < 8) = true := decide_eq_true (by have a1 := Hnp.out; have a2 := Hng.out; have a3 := H8.out.2; omega)
          go_wp2_with (with_reducible refine Bench.at_append _ _ _ _ rfl ?_)
          apply Lib.hid
          refine wpList_append_own_at _ rfl _ _ 27 rfl B 5 i0 (.int .u8 0) 1 1 Try.underlying27 Hi.out Hz0.out Hz1.out Hz2.out rfl (by decide) (.slice ap np cp) np (bv (gl ++ gs)) rfl (own_keep (row_len N.out.rp (by rw [List.length_append]; exact Hnp.out.symm)) ((Below.refl _ _).alloc (Nat.le_refl _) _)) ⟨wr.heap.size, 0, none⟩ 1 1 [.int .u8 x] rfl rfl (cell_one_new _ _ _) (by simp [Value.oneCell']) (by unfold maxLen; omega) (by omega) (by have := N.out.b0; have := N.out.bl.size; simp; omega) ?_
          intro v' X0 r1 r2 _ r4
          obtain ⟨hN, ho⟩ := N.out.app_p (by rw [bvn, List.length_append]; exact Hnp.out.symm) r1 r2 r4
          obtain ⟨ap5, cp5, rfl, _, _⟩ := own_shape r1
          have N0 := Lib.hid (show Two 5 B w X0 (.slice ap5 (np + 1) cp5) (.slice ag ng cg) (bv (gl ++ (gs ++ [x]))) (bv gl) O by
            rw [← List.append_assoc, bv_app (gl ++ gs) [x], bv_one]; exact hN)
          have U0 := Lib.hid (U.out.only ho (fun j hj e => (N.out.ob j hj).2.2.1 e))
          have cx := CX.out X0 N0.out.bl
          clear hN ho r1 r2 r4 U N m1 hcr
          go_wp2_with fail
          refine (Write_any b _ O 0 (703488 + x) X0 ⟨by omega, by omega⟩ ⟨by omega, by omega⟩ U0.out).mono ?_
          rintro e X ⟨rfl, O5, hU, ho, hn⟩
          rw [go_put _ _ _ _ hxb h8] at hU
          obtain ⟨gs5, hgs5⟩ : ∃ q, gs ++ [x] = q := ⟨_, rfl⟩
          obtain ⟨np5, hnp5⟩ : ∃ q, np + 1 = q := ⟨_, rfl⟩
          obtain ⟨n5, hn5⟩ : ∃ q, n + 1 = q := ⟨_, rfl⟩
          have hN := N0.out.obj ho hn hU.lt
          have Hnp5 := Lib.hid (show np5 = gl.length + gs5.length by have a1 := Hnp.out; rw [← hgs5, ← hnp5, List.length_append, List.length_singleton]; omega)
          rw [hgs5] at hU hN
          rw [hnp5] at hN ⊢
          have N5 := Lib.hid hN
          have U5 := Lib.hid hU
          have H85 := Lib.hid (go_ok hU)
          have Hlost5 := Lib.hid (show lost = decide (np5 < n5) by
            rw [Hlost.out, Bool.eq_iff_iff, decide_eq_true_eq, decide_eq_true_eq]; omega)
          have hp35 : np5 ≤ n5 := by omega
          have hn35 : n5 ≤ 301 := by omega
          have hg35 : ng ≤ np5 := by omega
          have Hni5 := Lib.hid (show n5 ≤ i + 1 by have := Hni.out; omega)
          have Hn5 := Lib.hid hn5
          clear hU ho hn hN U0 N0 cx h8 hgs5 hnp5 hn5
          go_wp2_with fail
          have e9 := Hn5.out
          have e8 : IntKind.i64.wrap ((n : Int) + 1) = (n5 : Int) := by rw [IntWalk.i64_in _ (by omega)]; omega
          first | rw [show ((n : Int) + 1) = (n5 : Int) by omega] | rw [e8]
          clear e8 e9
          by_cases h3 : i % 4 = 3
          · have p3 : p = 3 := by rw [Hp.out, h3]; rfl
            have q3 : ((i : Int) % 4 == 3) = true := by rw [show (i : Int) % 4 = 3 by omega]; rfl
            cases hgs : gs5 with
            | nil =>
              rw [hgs] at U5 N5 Hnp5
              have e3 : ¬ (ng < np5) := by have a1 := Hnp5.out; have a2 := Hng.out; rw [List.length_nil] at a1; omega
              have e4 : decide ((ng : Int) < (np5 : Int)) = false := decide_eq_false (by omega)
              refine (Tick_any b _ O5 X U5.out).mono ?_
              rintro e Y ⟨rfl, O6, hU, ho, hn⟩
              rw [p3, go_none] at hU ⊢
              have N6 := Lib.hid (N5.out.obj ho hn hU.lt)
              have U6 := Lib.hid hU
              have H3 := Lib.hid h3
              clear hU ho hn h3 p3 hgs
              go_wp2_with fail
              refine (Read_any b _ O6 1 Y ⟨by omega, by omega⟩ U6.out).mono ?_
              rintro e Z ⟨rfl, O7, hU, ho, hn⟩
              rw [go_1] at hU ⊢
              have N7 := Lib.hid (N6.out.obj ho hn hU.lt)
              have U7 := Lib.hid hU
              obtain ⟨v, hv⟩ : ∃ v, 256 * (([] : List Int).length : Int) + (if lost then 131072 else 0) = v := ⟨_, rfl⟩
              have vn : (0 : Int) ≤ (np5 : Int) - (ng : Int) ∧ (np5 : Int) - (ng : Int) ≤ 8 := by have a1 := Hnp5.out; have a2 := Hng.out; have a3 := (go_ok U7.out).2; omega
              have v4 : 0 ≤ v ∧ v < 4294967296 := by have a1 := Hnp5.out; have a2 := Hng.out; rw [← hv]; split <;> omega
              have v1 : v / 256 % 256 = (np5 : Int) - (ng : Int) := by have a1 := Hnp5.out; have a2 := Hng.out; rw [← hv]; split <;> omega
              have v5 : (v / 256 % 256 != (np5 : Int) - (ng : Int)) = false := by rw [v1]; simp
              rw [hv]
              have v6 := v4.1
              have v7 := v4.2
              clear hU ho hn hv U6 N6
              go_wp2_with fail
              exact ⟨⟨i + 1, n5, gl, [], lost, 0, O7, by omega, by go_num, rfl, by have := Hni5.out; omega, by have := Hnp5.out; omega, by rw [← Hnp5.out]; exact Hlost5.out, by have := H3.out; omega, U7.out, N7.out⟩, by simp [intOf]; omega⟩
            | cons y t =>
              rw [hgs] at U5 N5 Hnp5
              have e3 : ng < np5 := by have a1 := Hnp5.out; have a2 := Hng.out; rw [List.length_cons] at a1; omega
              have e4 : decide ((ng : Int) < (np5 : Int)) = true := decide_eq_true (by omega)
              refine (Tick_any b _ O5 X U5.out).mono ?_
              rintro e Y0 ⟨rfl, O6, hU, ho, hn⟩
              rw [p3, go_out] at hU ⊢
              have N06 := Lib.hid (N5.out.obj ho hn hU.lt)
              have U06 := Lib.hid hU
              have H3 := Lib.hid h3
              clear hU ho hn h3 p3 hgs
              go_wp2_with (with_reducible refine Bench.at_append _ _ _ _ rfl ?_)
              apply Lib.hid
              refine wpList_append_own_at _ rfl _ _ 27 rfl B 5 i0 (.int .u8 0) 1 1 Try.underlying27 Hi.out Hz0.out Hz1.out Hz2.out rfl (by decide) (.slice ag ng cg) ng (bv gl) rfl (own_keep (row_len N06.out.rg Hng.out.symm) ((Below.refl _ _).alloc (Nat.le_refl _) _)) ⟨Y0.heap.size, 0, none⟩ 1 1 [.int .u8 y] rfl rfl (cell_one_new _ _ _) (by simp [Value.oneCell']) (by unfold maxLen; omega) (by omega) (by have := N06.out.b0; have := N06.out.bl.size; simp; omega) ?_
              intro v' Y r1 r2 _ r4
              obtain ⟨hN, ho⟩ := N06.out.app_g (by rw [bvn]; exact Hng.out.symm) r1 r2 r4
              obtain ⟨ag2, cg2, rfl, _, _⟩ := own_shape r1
              have U6 := Lib.hid (U06.out.only ho (fun j hj e => (N06.out.ob j hj).2.2.2 e))
              obtain ⟨ng2, hng2⟩ : ∃ q, ng + 1 = q := ⟨_, rfl⟩
              obtain ⟨gl2, hgl2⟩ : ∃ q, gl ++ [y] = q := ⟨_, rfl⟩
              have N6 := Lib.hid (show Two 5 B w Y (.slice ap5 np5 cp5) (.slice ag2 ng2 cg2) (bv (gl2 ++ t)) (bv gl2) O6 by
                rw [← hgl2, ← hng2, show (gl ++ [y]) ++ t = gl ++ y :: t by simp, bv_app gl [y], bv_one]; exact hN)
              have Hnp2 := Lib.hid (show np5 = gl2.length + t.length by have a1 := Hnp5.out; rw [← hgl2, List.length_append, List.length_singleton]; rw [List.length_cons] at a1; omega)
              have Hng2 := Lib.hid (show ng2 = gl2.length by have a1 := Hng.out; rw [← hgl2, ← hng2, List.length_append, List.length_singleton]; omega)
              have hg32 : ng2 ≤ np5 := by omega
              rw [hng2]
              clear hN ho r1 r2 r4 U06 N06 e3 e4 hng2 hgl2 hg3
              go_wp2_with fail
              refine (Read_any b _ O6 1 Y ⟨by omega, by omega⟩ U6.out).mono ?_
              rintro e Z ⟨rfl, O7, hU, ho, hn⟩
              rw [go_1] at hU ⊢
              have N7 := Lib.hid (N6.out.obj ho hn hU.lt)
              have U7 := Lib.hid hU
              obtain ⟨v, hv⟩ : ∃ v, 256 * ((t : List Int).length : Int) + (if lost then 131072 else 0) = v := ⟨_, rfl⟩
              have vn : (0 : Int) ≤ (np5 : Int) - (ng2 : Int) ∧ (np5 : Int) - (ng2 : Int) ≤ 8 := by have a1 := Hnp2.out; have a2 := Hng2.out; have a3 := (go_ok U7.out).2; omega
              have v4 : 0 ≤ v ∧ v < 4294967296 := by have a1 := Hnp2.out; have a2 := Hng2.out; rw [← hv]; split <;> omega
              have v1 : v / 256 % 256 = (np5 : Int) - (ng2 : Int) := by have a1 := Hnp2.out; have a2 := Hng2.out; rw [← hv]; split <;> omega
              have v5 : (v / 256 % 256 != (np5 : Int) - (ng2 : Int)) = false := by rw [v1]; simp
              rw [hv]
              have v6 := v4.1
              have v7 := v4.2
              clear hU ho hn hv U6 N6
              go_wp2_with fail
              exact ⟨⟨i + 1, n5, gl2, t, lost, 0, O7, by omega, by go_num, rfl, by have := Hni5.out; omega, by have := Hnp2.out; omega, by rw [← Hnp2.out]; exact Hlost5.out, by have := H3.out; omega, U7.out, N7.out⟩, by simp [intOf]; omega⟩
          · have p3 : ¬ p = 3 := by rw [Hp.out]; omega
            have q3 : ((i : Int) % 4 == 3) = false := by simpa using (show ¬ ((i : Int) % 4 = 3) by omega)
            refine (Tick_any b _ O5 X U5.out).mono ?_
            rintro e Y ⟨rfl, O6, hU, ho, hn⟩
            rw [go_tick _ _ _ p3] at hU ⊢
            have N6 := Lib.hid (N5.out.obj ho hn hU.lt)
            have U6 := Lib.hid hU
            have H3 := Lib.hid h3
            clear hU ho hn h3 p3
            go_wp2_with fail
            refine (Read_any b _ O6 1 Y ⟨by omega, by omega⟩ U6.out).mono ?_
            rintro e Z ⟨rfl, O7, hU, ho, hn⟩
            rw [go_1] at hU ⊢
            have N7 := Lib.hid (N6.out.obj ho hn hU.lt)
            have U7 := Lib.hid hU
            obtain ⟨v, hv⟩ : ∃ v, 256 * ((gs5 : List Int).length : Int) + (if lost then 131072 else 0) = v := ⟨_, rfl⟩
            have vn : (0 : Int) ≤ (np5 : Int) - (ng : Int) ∧ (np5 : Int) - (ng : Int) ≤ 8 := by have a1 := Hnp5.out; have a2 := Hng.out; have a3 := (go_ok U7.out).2; omega
            have v4 : 0 ≤ v ∧ v < 4294967296 := by have a1 := Hnp5.out; have a2 := Hng.out; rw [← hv]; split <;> omega
            have v1 : v / 256 % 256 = (np5 : Int) - (ng : Int) := by have a1 := Hnp5.out; have a2 := Hng.out; rw [← hv]; split <;> omega
            have v5 : (v / 256 % 256 != (np5 : Int) - (ng : Int)) = false := by rw [v1]; simp
            rw [hv]
            have v6 := v4.1
            have v7 := v4.2
            clear hU ho hn hv U6 N6
            go_wp2_with fail
            exact ⟨⟨i + 1, n5, gl, gs5, lost, p + 1, O7, by omega, by go_num, rfl, by have := Hni5.out; omega, by have := Hnp5.out; omega, by rw [← Hnp5.out]; exact Hlost5.out, by have := H3.out; rw [Hp.out]; omega, U7.out, N7.out⟩, by simp [intOf]; omega⟩
      · have d2 : decide ((n : Int) < (len : Int)) = false := decide_eq_false (by omega)
        have d3 : decide (n < len) = false := decide_eq_false hnl
        go_wp2_with fail
        by_cases h3 : i % 4 = 3
        · have p3 : p = 3 := by rw [Hp.out, h3]; rfl
          have q3 : ((i : Int) % 4 == 3) = true := by rw [show (i : Int) % 4 = 3 by omega]; rfl
          cases hgs : gs with
          | nil =>
            rw [hgs] at U N Hnp
            have e3 : ¬ (ng < np) := by have a1 := Hnp.out; have a2 := Hng.out; rw [List.length_nil] at a1; omega
            have e4 : decide ((ng : Int) < (np : Int)) = false := decide_eq_false (by omega)
            refine (Tick_any b _ O wr U.out).mono ?_
            rintro e Y ⟨rfl, O6, hU, ho, hn⟩
            rw [p3, go_none] at hU ⊢
            have N6 := Lib.hid (N.out.obj ho hn hU.lt)
            have U6 := Lib.hid hU
            have H3 := Lib.hid h3
            clear hU ho hn h3 p3 hgs
            go_wp2_with fail
            refine (Read_any b _ O6 1 Y ⟨by omega, by omega⟩ U6.out).mono ?_
            rintro e Z ⟨rfl, O7, hU, ho, hn⟩
            rw [go_1] at hU ⊢
            have N7 := Lib.hid (N6.out.obj ho hn hU.lt)
            have U7 := Lib.hid hU
            obtain ⟨v, hv⟩ : ∃ v, 256 * (([] : List Int).length : Int) + (if lost then 131072 else 0) = v := ⟨_, rfl⟩
            have vn : (0 : Int) ≤ (np : Int) - (ng : Int) ∧ (np : Int) - (ng : Int) ≤ 8 := by have a1 := Hnp.out; have a2 := Hng.out; have a3 := (go_ok U7.out).2; omega
            have v4 : 0 ≤ v ∧ v < 4294967296 := by have a1 := Hnp.out; have a2 := Hng.out; rw [← hv]; split <;> omega
            have v1 : v / 256 % 256 = (np : Int) - (ng : Int) := by have a1 := Hnp.out; have a2 := Hng.out; rw [← hv]; split <;> omega
            have v5 : (v / 256 % 256 != (np : Int) - (ng : Int)) = false := by rw [v1]; simp
            rw [hv]
            have v6 := v4.1
            have v7 := v4.2
            clear hU ho hn hv U6 N6
            go_wp2_with fail
            exact ⟨⟨i + 1, n, gl, [], lost, 0, O7, by omega, by go_num, rfl, by have := Hni.out; omega, by have := Hnp.out; omega, by rw [← Hnp.out]; exact Hlost.out, by have := H3.out; omega, U7.out, N7.out⟩, by simp [intOf]; omega⟩
          | cons y t =>
            rw [hgs] at U N Hnp
            have e3 : ng < np := by have a1 := Hnp.out; have a2 := Hng.out; rw [List.length_cons] at a1; omega
            have e4 : decide ((ng : Int) < (np : Int)) = true := decide_eq_true (by omega)
            refine (Tick_any b _ O wr U.out).mono ?_
            rintro e Y0 ⟨rfl, O6, hU, ho, hn⟩
            rw [p3, go_out] at hU ⊢
            have N06 := Lib.hid (N.out.obj ho hn hU.lt)
            have U06 := Lib.hid hU
            have H3 := Lib.hid h3
            clear hU ho hn h3 p3 hgs
            go_wp2_with (with_reducible refine Bench.at_append _ _ _ _ rfl ?_)
            apply Lib.hid
            refine wpList_append_own_at _ rfl _ _ 27 rfl B 5 i0 (.int .u8 0) 1 1 Try.underlying27 Hi.out Hz0.out Hz1.out Hz2.out rfl (by decide) (.slice ag ng cg) ng (bv gl) rfl (own_keep (row_len N06.out.rg Hng.out.symm) ((Below.refl _ _).alloc (Nat.le_refl _) _)) ⟨Y0.heap.size, 0, none⟩ 1 1 [.int .u8 y] rfl rfl (cell_one_new _ _ _) (by simp [Value.oneCell']) (by unfold maxLen; omega) (by omega) (by have := N06.out.b0; have := N06.out.bl.size; simp; omega) ?_
            intro v' Y r1 r2 _ r4
            obtain ⟨hN, ho⟩ := N06.out.app_g (by rw [bvn]; exact Hng.out.symm) r1 r2 r4
            obtain ⟨ag2, cg2, rfl, _, _⟩ := own_shape r1
            have U6 := Lib.hid (U06.out.only ho (fun j hj e => (N06.out.ob j hj).2.2.2 e))
            obtain ⟨ng2, hng2⟩ : ∃ q, ng + 1 = q := ⟨_, rfl⟩
            obtain ⟨gl2, hgl2⟩ : ∃ q, gl ++ [y] = q := ⟨_, rfl⟩
            have N6 := Lib.hid (show Two 5 B w Y (.slice ap np cp) (.slice ag2 ng2 cg2) (bv (gl2 ++ t)) (bv gl2) O6 by
              rw [← hgl2, ← hng2, show (gl ++ [y]) ++ t = gl ++ y :: t by simp, bv_app gl [y], bv_one]; exact hN)
            have Hnp2 := Lib.hid (show np = gl2.length + t.length by have a1 := Hnp.out; rw [← hgl2, List.length_append, List.length_singleton]; rw [List.length_cons] at a1; omega)
            have Hng2 := Lib.hid (show ng2 = gl2.length by have a1 := Hng.out; rw [← hgl2, ← hng2, List.length_append, List.length_singleton]; omega)
            have hg32 : ng2 ≤ np := by omega
            rw [hng2]
            clear hN ho r1 r2 r4 U06 N06 e3 e4 hng2 hgl2 hg3
            go_wp2_with fail
            refine (Read_any b _ O6 1 Y ⟨by omega, by omega⟩ U6.out).mono ?_
            rintro e Z ⟨rfl, O7, hU, ho, hn⟩
            rw [go_1] at hU ⊢
            have N7 := Lib.hid (N6.out.obj ho hn hU.lt)
            have U7 := Lib.hid hU
            obtain ⟨v, hv⟩ : ∃ v, 256 * ((t : List Int).length : Int) + (if lost then 131072 else 0) = v := ⟨_, rfl⟩
            have vn : (0 : Int) ≤ (np : Int) - (ng2 : Int) ∧ (np : Int) - (ng2 : Int) ≤ 8 := by have a1 := Hnp2.out; have a2 := Hng2.out; have a3 := (go_ok U7.out).2; omega
            have v4 : 0 ≤ v ∧ v < 4294967296 := by have a1 := Hnp2.out; have a2 := Hng2.out; rw [← hv]; split <;> omega
            have v1 : v / 256 % 256 = (np : Int) - (ng2 : Int) := by have a1 := Hnp2.out; have a2 := Hng2.out; rw [← hv]; split <;> omega
            have v5 : (v / 256 % 256 != (np : Int) - (ng2 : Int)) = false := by rw [v1]; simp
            rw [hv]
            have v6 := v4.1
            have v7 := v4.2
            clear hU ho hn hv U6 N6
            go_wp2_with fail
            exact ⟨⟨i + 1, n, gl2, t, lost, 0, O7, by omega, by go_num, rfl, by have := Hni.out; omega, by have := Hnp2.out; omega, by rw [← Hnp2.out]; exact Hlost.out, by have := H3.out; omega, U7.out, N7.out⟩, by simp [intOf]; omega⟩
        · have p3 : ¬ p = 3 := by rw [Hp.out]; omega
          have q3 : ((i : Int) % 4 == 3) = false := by simpa using (show ¬ ((i : Int) % 4 = 3) by omega)
          refine (Tick_any b _ O wr U.out).mono ?_
          rintro e Y ⟨rfl, O6, hU, ho, hn⟩
          rw [go_tick _ _ _ p3] at hU ⊢
          have N6 := Lib.hid (N.out.obj ho hn hU.lt)
          have U6 := Lib.hid hU
          have H3 := Lib.hid h3
          clear hU ho hn h3 p3
          go_wp2_with fail
          refine (Read_any b _ O6 1 Y ⟨by omega, by omega⟩ U6.out).mono ?_
          rintro e Z ⟨rfl, O7, hU, ho, hn⟩
          rw [go_1] at hU ⊢
          have N7 := Lib.hid (N6.out.obj ho hn hU.lt)
          have U7 := Lib.hid hU
          obtain ⟨v, hv⟩ : ∃ v, 256 * ((gs : List Int).length : Int) + (if lost then 131072 else 0) = v := ⟨_, rfl⟩
          have vn : (0 : Int) ≤ (np : Int) - (ng : Int) ∧ (np : Int) - (ng : Int) ≤ 8 := by have a1 := Hnp.out; have a2 := Hng.out; have a3 := (go_ok U7.out).2; omega
          have v4 : 0 ≤ v ∧ v < 4294967296 := by have a1 := Hnp.out; have a2 := Hng.out; rw [← hv]; split <;> omega
          have v1 : v / 256 % 256 = (np : Int) - (ng : Int) := by have a1 := Hnp.out; have a2 := Hng.out; rw [← hv]; split <;> omega
          have v5 : (v / 256 % 256 != (np : Int) - (ng : Int)) = false := by rw [v1]; simp
          rw [hv]
          have v6 := v4.1
          have v7 := v4.2
          clear hU ho hn hv U6 N6
          go_wp2_with fail
          exact ⟨⟨i + 1, n, gl, gs, lost, p + 1, O7, by omega, by go_num, rfl, by have := Hni.out; omega, by have := Hnp.out; omega, by rw [← Hnp.out]; exact Hlost.out, by have := H3.out; rw [Hp.out]; omega, U7.out, N7.out⟩, by simp [intOf]; omega⟩
  · have d1 : decide ((i : Int) < (len2 : Int)) = false := decide_eq_false (by omega)
    have d2 : decide (i < len2) = false := decide_eq_false hlt
    have hrow := row_len N.out.rp (show (gl ++ gs).length = np by rw [List.length_append]; exact Hnp.out.symm)
    have hrow2 := row_len N.out.rg Hng.out.symm
    have hcp : np ≤ cp := own_le hrow
    have hgc : ng ≤ cp := Nat.le_trans hg3 hcp
    obtain ⟨a5, c5, hpick, hown⟩ : ∃ a5 c5, ((ap = none ∧ np = 0 ∧ cp = 0 ∧ ng = 0 ∧ a5 = none ∧ c5 = 0) ∨ (∃ g, ap = some ⟨g, 0, none⟩ ∧ a5 = ap ∧ c5 = cp)) ∧ wr.ownsRow B 5 1 (.slice a5 ng c5) ng (bv gl) := by
      rcases hrow.2 with ⟨h1, h2⟩ | ⟨g, c, cur, h1, _⟩
      · simp only [Value.slice.injEq] at h1
        obtain ⟨rfl, rfl, rfl⟩ := h1
        have : ng = 0 := by omega
        subst this
        have e : gl = [] := List.eq_nil_of_length_eq_zero Hng.out.symm
        rw [e]
        exact ⟨none, 0, .inl ⟨rfl, rfl, rfl, rfl, rfl, rfl⟩, World.ownsRow_nil _ _ _ _⟩
      · simp only [Value.slice.injEq] at h1
        obtain ⟨rfl, _, rfl⟩ := h1
        refine ⟨_, cp, .inr ⟨g, rfl, rfl, rfl⟩, ?_⟩
        have := own_prefix hrow hg3
        rwa [show (bv (gl ++ gs)).take (ng * 1) = bv gl by rw [bv_app, Nat.mul_one, List.take_left' (by rw [bvn]; exact Hng.out.symm)]] at this
    have Hrow2 := Lib.hid hrow2
    have Hown := Lib.hid hown
    have END : ∀ W, Below wr.heap.size wr W → Calls Try.prog 10 #[.pointer (some ⟨b, 0, none⟩), .int .i64 1] W fun e w' => (∃ v, e = .returned (.int .u32 v) ∧ 0 ≤ v ∧ v < 4294967296 ∧ (v / 131072 == 1) = decide (np < n)) ∧ Below B w w' := by
      intro W hW
      refine (Read_any b _ O 1 W ⟨by omega, by omega⟩ (U.out.keep hW)).mono ?_
      rintro e Z ⟨rfl, O7, hU, ho, hn⟩
      rw [go_1] at hU ⊢
      have NZ := (N.out.keep hW).obj ho hn hU.lt
      have hm := H8.out.2
      refine ⟨⟨_, rfl, ?_, ?_, ?_⟩, NZ.bl⟩
      · split <;> omega
      · split <;> omega
      · rw [Hlost.out]
        by_cases hnn : np < n
        · rw [decide_eq_true hnn, if_pos rfl]
          have : (256 * (gs.length : Int) + 131072) / 131072 = 1 := by omega
          rw [this]; rfl
        · rw [decide_eq_false hnn, if_neg (by decide)]
          have : (256 * (gs.length : Int) + 0) / 131072 = 0 := by omega
          rw [this]; rfl
    have END := Lib.hid END
    clear hrow hrow2 hown U N
    rcases hpick with ⟨rfl, rfl, rfl, rfl, rfl, rfl⟩ | ⟨g, rfl, rfl, rfl⟩
    all_goals
      go_wp2_with fail
      refine (Bench.same_own Hrow2.out Hown.out (by omega)).mono ?_
      rintro e X ⟨rfl, hb⟩
      have Hb := Lib.hid hb
      clear hb
      go_wp2_with fail
      refine (END.out X Hb.out).mono ?_
      rintro e Z ⟨⟨v, rfl, v1, v2, v3⟩, hb⟩
      have BZ := Lib.hid hb
      clear hb
      go_wp2_with fail
      go_ret
      exact ⟨by simp, by rw [HB.out]; exact BZ.out⟩
end Go.Proofs.Ythdcealhhmfgcaa.Uart
