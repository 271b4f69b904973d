/- The walk of UartOrder. -/
import Derived.Test.YthdcealhhmfgcaaQe
import Derived.Test.YthdcealhhmfgcaaQtD
import Derived.Test.YthdcealhhmfgcaaBnB
namespace Go.Proofs.Ythdcealhhmfgcaa.Uart
open Go.RowKit Go.Maps Go.ChangeShapes Go.WideShapes Go.ChangeAt Fifo Orow Word
open Bench (Two RowO same_own)
set_option linter.unusedVariables false

/-- It calls, nothing goes: what came, whether some was lost. -/
def ordU (cm : List Int) (lost : Bool) : Un := ⟨cm, [], lost, false, 1, 0⟩
theorem ord_0 : writeU zeroU 2 1 = ordU [] false := rfl
theorem ord_nil (l : Bool) : readU (ordU [] l) 0 = (0, ordU [] l) := rfl
theorem ord_cons (b : Int) (t : List Int) (l : Bool) : readU (ordU (b :: t) l) 0 = (256 + b, ordU t l) := rfl
theorem ord_1 (cm : List Int) (l : Bool) : readU (ordU cm l) 1 = ((cm.length : Int) + (if l then 65536 else 0), ordU cm l) := by
  show (((cm.length : Int) + 256 * (([] : List Int).length : Nat) + (if l then 65536 else 0) + (if false then 131072 else 0), ordU cm l) : Int × Un) = _
  simp
theorem ord_in (cm : List Int) (l : Bool) (x : Int) (h : ¬ cm.length = 8) : inputU (ordU cm l) x = (true, ordU (cm ++ [x]) l) := by
  show (if cm.length = 8 then _ else _) = _
  rw [if_neg h]; rfl
theorem ord_full (cm : List Int) (l : Bool) (x : Int) (h : cm.length = 8) : inputU (ordU cm l) x = (false, ordU cm true) := by
  show (if cm.length = 8 then _ else _) = _
  rw [if_pos h]; rfl
theorem ord_line (cm : List Int) (l : Bool) : lineU (ordU cm l) = decide (0 < cm.length) := by
  show decide ((1 : Int) = 1 ∧ 0 < cm.length) = _
  simp
theorem ord_ok {w : World} {b : Nat} {cm : List Int} {l : Bool} {O : Nat → Prop} (h : Uar w b (ordU cm l) O) : OkB cm ∧ cm.length ≤ 8 := h.ok.came
theorem bv_app (l m : List Int) : bv (l ++ m) = bv l ++ bv m := by simp [bv]
theorem bv_one (x : Int) : bv [x] = [.int .u8 x] := rfl
theorem bvn (l : List Int) : (bv l).length = l.length := by simp [bv]
def lenV : Value → Nat
  | .slice _ n _ => n
  | _ => 0
/-- An own row at its length. -/
theorem row_len {w : World} {B : Nat} {v : Value} {l : List Int} {n : Nat} (h : RowO 5 w B v (bv l)) (hn : l.length = n) : w.ownsRow B 5 1 v n (bv l) := by
  have : (bv l).length = n := by rw [bvn]; exact hn
  rw [← this]; exact h
set_option maxRecDepth 100000 in
set_option maxHeartbeats 8000000 in
theorem order_walk (a : Option Addr) (len cap : Nat) (l : List Int) (a2 : Option Addr) (len2 cap2 : Nat) (rs : List Bool) (w : World) (hl : Row .u8 w a len l) (h0 : a = none → cap = 0) (hr : Truth.RowT w a2 len2 rs) (h1 : a2 = none → len2 = 0 ∧ cap2 = 0) (h2 : len2 ≤ cap2) (h3 : len2 ≤ maxLen) :
    Calls Try.prog 5 #[.slice a len cap, .slice a2 len2 cap2] w fun e w' => e = .returned (.bool true) ∧ Below w.heap.size w w' := by
  have Hl := Lib.hid hl
  have Hr := Lib.hid hr
  clear hl h0 hr h1 h2 h3
  obtain ⟨B, hB⟩ : ∃ B, w.heap.size = B := ⟨_, rfl⟩
  have HB := Lib.hid hB
  clear hB
  obtain ⟨i0, hi, hz0, hz1, hz2⟩ := info_parts KitBytes.info_e
  have Hi := Lib.hid hi
  have Hz0 := Lib.hid hz0
  have Hz1 := Lib.hid hz1
  have Hz2 := Lib.hid hz2
  clear hi hz0 hz1 hz2
  by_cases h300 : 300 < len
  · have d1 : decide ((300 : Int) < (len : Int)) = true := decide_eq_true (by omega)
    go_enter Try.func5, Try.ntmps5
    go_wp2_with fail
    refine (awake_any _).mono ?_
    rintro e w1 ⟨rfl, hb⟩
    have B1 := Lib.hid hb
    clear hb
    go_wp2_with fail
    go_ret
    exact ⟨rfl, B1.out⟩
  have d1 : decide ((300 : Int) < (len : Int)) = false := decide_eq_false (by omega)
  go_enter Try.func5, Try.ntmps5
  go_wp2_with fail
  refine (awake_any _).mono ?_
  rintro e w1 ⟨rfl, hb⟩
  have B1 := Lib.hid hb
  clear hb
  go_wp2_with fail
  refine (New_any _).mono ?_
  rintro e w2 ⟨⟨b, O0, rfl, hU, hO⟩, hb⟩
  have U2 := Lib.hid hU
  have HO := Lib.hid hO
  have B2 := Lib.hid (B1.out.trans (hb.mono B1.out.size))
  have L2 := Lib.hid hU.lt
  clear hb hU hO
  go_wp2_with fail
  refine (Write_any b zeroU O0 2 1 w2 ⟨by omega, by omega⟩ ⟨by omega, by omega⟩ U2.out).mono ?_
  rintro e w3 ⟨rfl, O, hU, ho, hn⟩
  have U3 := Lib.hid (show Uar w3 b (ordU [] false) O from hU)
  have hs1 := B1.out.size
  have hs2 := B2.out.size
  have N3 := Lib.hid (show Two 5 B w w3 (.slice none 0 0) (.slice none 0 0) (bv ([] ++ [])) (bv []) O from
    Two.new (fun j hj => ⟨(hn j hj).elim (fun e => by have := HO.out j e; have := HB.out; omega) (fun e => by have := HB.out; omega), hU.lt j hj⟩) (by
      rw [← HB.out]
      exact B2.out.trans (ho.below hs2 (fun k hk => by have := HO.out k hk; omega))) (by rw [HB.out]; exact Nat.le_refl _))
  have h300' : len ≤ 300 := by omega
  clear hU ho hn hs1 hs2 U2 HO B1 B2 L2 d1 h300
  go_wp2_with fail
  go_loopw [6, 7, 8, 9] (fun vp vg lv iv wr => ∃ (i : Nat) (gl cm : List Int) (lost : Bool) (O : Nat → Prop), i ≤ len ∧ iv = .int .i64 i ∧ lv = .bool lost ∧ gl.length + cm.length ≤ i ∧ Uar wr b (ordU cm lost) O ∧ Two 5 B w wr vp vg (bv (gl ++ cm)) (bv gl) O) (fun _ _ _ iv _ => len - (intOf iv).toNat)
  case atStart => exact ⟨0, [], [], false, O, Nat.zero_le _, rfl, rfl, Nat.le_refl _, U3.out, N3.out⟩
  case round =>
  clear U3 N3
  obtain ⟨i, gl, cm, lost, O, hi, rfl, rfl, hle, hU, hN⟩ := hrel
  obtain ⟨ap, cp, e1⟩ := hN.rp.shape
  obtain ⟨ag, cg, e2⟩ := hN.rg.shape
  subst e1 e2
  have H8 := Lib.hid (ord_ok hU)
  obtain ⟨np, hnp⟩ : ∃ n, (bv (gl ++ cm)).length = n := ⟨_, rfl⟩
  obtain ⟨ng, hng⟩ : ∃ n, (bv gl).length = n := ⟨_, rfl⟩
  have Hnp := Lib.hid (show np = gl.length + cm.length by rw [← hnp, bvn, List.length_append])
  have Hng := Lib.hid (show ng = gl.length by rw [← hng, bvn])
  rw [hnp, hng] at hN ⊢
  have U := Lib.hid hU
  have N := Lib.hid hN
  have hp3 : np ≤ 300 := by have := Hnp.out; omega
  have hg3 : ng ≤ np := by have := Hnp.out; have := Hng.out; omega
  have Hle := Lib.hid (show np ≤ i by have := Hnp.out; omega)
  clear hU hN hnp hng hle
  by_cases hlt : i < len
  · have d1 : decide ((i : Int) < (len : Int)) = true := decide_eq_true (by omega)
    obtain ⟨lb, off, rfl, hlb, hcl⟩ : ∃ lb off, a = some ⟨lb, off, none⟩ ∧ lb < w.heap.size ∧ ∀ k, k < len → w.cell? ⟨lb, off + k, none⟩ = some (.int .u8 (l.getD k 0)) := by
      rcases Hl.out.2.2.2 with h | h
      · omega
      · exact h
    have hcx := hcl i hlt
    obtain ⟨x, hx⟩ : ∃ x, l.getD i 0 = x := ⟨_, rfl⟩
    have hxb : 0 ≤ x ∧ x < 256 := by
      have hm : l.getD i 0 ∈ l := by
        rw [List.getD_eq_getElem?_getD, List.getElem?_eq_getElem (by have := Hl.out.1; omega)]
        exact List.getElem_mem _
      have := Hl.out.2.2.1 _ hm
      rw [hx] at this
      simp only [Lit.wf, Bool.and_eq_true, decide_eq_true_eq] at this
      have e1 : IntKind.u8.min = 0 := rfl
      have e2 : IntKind.u8.max = 255 := rfl
      omega
    rw [hx] at hcx
    have CX := Lib.hid (fun W (h : Below B w W) => cell_keep (by rw [HB.out]; exact h) hcx)
    have i1 : (0 : Int) ≤ (i : Int) := by omega
    have i2 : (i : Int) < (len : Int) := by omega
    clear hx hcl hcx hlb
    -- is it read first?
    by_cases hrd : i < len2 ∧ rs[i]! = true
    · obtain ⟨hr1, hr2⟩ := hrd
      obtain ⟨rb, roff, rfl, hcr⟩ := Hr.out.2 i hr1
      rw [hr2] at hcr
      have hcr := cell_keep (by rw [HB.out]; exact N.out.bl) hcr
      have d2 : decide ((i : Int) < (len2 : Int)) = true := decide_eq_true (by omega)
      have i3 : (i : Int) < (len2 : Int) := by omega
      cases cm with
      | nil =>
        go_wp2_with fail
        refine (Read_any b _ O 0 wr ⟨by omega, by omega⟩ U.out).mono ?_
        rintro e X ⟨rfl, O5, hU, ho, hn⟩
        rw [ord_nil] at hU ⊢
        have N5 := Lib.hid (N.out.obj ho hn hU.lt)
        have U5 := Lib.hid hU
        have e3 : ¬ (ng < np) := by have a1 := Hnp.out; have a2 := Hng.out; rw [List.length_nil] at a1; omega
        have e4 : decide ((ng : Int) < (np : Int)) = false := decide_eq_false (by omega)
        clear hU ho hn U N hcr
        have cx := CX.out X N5.out.bl
        go_wp2_with fail
        by_cases h8 : ([] : List Int).length = 8
        · exact absurd h8 (by decide)
        · refine (Input_any b _ O5 x X hxb U5.out).mono ?_
          rintro e Y ⟨rfl, O6, hU, ho, hn⟩
          rw [ord_in _ _ _ h8] at hU ⊢
          have N6 := Lib.hid (N5.out.obj ho hn hU.lt)
          have U6 := Lib.hid hU
          have m1 : decide (((np : Int) - (ng : Int)) < 8) = true := decide_eq_true (by have a1 := Hnp.out; have a2 := Hng.out; have a3 := H8.out.2; omega)
          have cy := CX.out Y N6.out.bl
          clear hU ho hn cx h8
          go_wp2_with (with_reducible refine Bench.at_append _ _ _ _ rfl ?_)
          apply Lib.hid
          refine wpList_append_own_at _ rfl _ _ 27 rfl B 5 i0 (.int .u8 0) 1 1 Try.underlying27 Hi.out Hz0.out Hz1.out Hz2.out rfl (by decide) (.slice ap np cp) np (bv (gl ++ [])) rfl (own_keep (row_len N6.out.rp (by rw [List.length_append]; exact Hnp.out.symm)) ((Below.refl _ _).alloc (Nat.le_refl _) _)) ⟨Y.heap.size, 0, none⟩ 1 1 [.int .u8 x] rfl rfl (cell_one_new _ _ _) (by simp [Value.oneCell']) (by unfold maxLen; omega) (by omega) (by have := N6.out.b0; have := N6.out.bl.size; simp; omega) ?_
          intro v' X6 r1 r2 _ r4
          obtain ⟨hN, ho⟩ := N6.out.app_p (by rw [bvn, List.length_append]; exact Hnp.out.symm) r1 r2 r4
          obtain ⟨ap6, cp6, rfl, _, _⟩ := own_shape r1
          obtain ⟨cm6, hcm6⟩ : ∃ q, ([] : List Int) ++ [x] = q := ⟨_, rfl⟩
          obtain ⟨np6, hnp6⟩ : ∃ q, np + 1 = q := ⟨_, rfl⟩
          have N66 := Lib.hid (show Two 5 B w X6 (.slice ap6 np6 cp6) (.slice ag ng cg) (bv (gl ++ cm6)) (bv gl) O6 by
            rw [← hcm6, ← hnp6, ← List.append_assoc, bv_app (gl ++ []) [x], bv_one]; exact hN)
          have U66 := Lib.hid (show Uar X6 b (ordU cm6 lost) O6 by rw [← hcm6]; exact U6.out.only ho (fun j hj e => (N6.out.ob j hj).2.2.1 e))
          have Hnp6 := Lib.hid (show np6 = gl.length + cm6.length by have a1 := Hnp.out; rw [← hcm6, ← hnp6, List.length_append, List.length_singleton]; omega)
          have m2 := Lib.hid (show 0 < cm6.length by rw [← hcm6]; simp)
          have hp6 : np6 ≤ 301 := by omega
          have hq6 : ng ≤ np6 := by omega
          have Hle6 := Hle
          have Hle := Lib.hid (show np6 ≤ i + 1 by have := Hle6.out; omega)
          rw [hnp6]
          clear hN ho r1 r2 r4 U6 N6 m1 hcm6 hnp6 cy Hle6
          cases lost
          · go_wp2_with fail
            refine (Read_any b _ O6 1 X6 ⟨by omega, by omega⟩ U66.out).mono ?_
            rintro e Z ⟨rfl, O7, hU, ho, hn⟩
            rw [ord_1] at hU ⊢
            have N7 := Lib.hid (N66.out.obj ho hn hU.lt)
            have U7 := Lib.hid hU
            obtain ⟨v, hv⟩ : ∃ v, (cm6.length : Int) + (if false then 65536 else 0) = v := ⟨_, rfl⟩
            have vn : (0 : Int) ≤ (np6 : Int) - (ng : Int) ∧ (np6 : Int) - (ng : Int) ≤ 8 := by have a1 := Hnp6.out; have a2 := Hng.out; have a3 := (ord_ok U7.out).2; omega
            have v0 : v = (np6 : Int) - (ng : Int) + 0 := by rw [← hv, if_neg (by decide)]; have a1 := Hnp6.out; have a2 := Hng.out; omega
            have v1 : v % 256 = (np6 : Int) - (ng : Int) := by omega
            have v2 : v / 65536 % 2 = 0 := by omega
            have v3 : IntKind.u32.wrap ((np6 : Int) - (ng : Int)) = (np6 : Int) - (ng : Int) := IntWalk.u32_in _ (by omega)
            have v4 : 0 ≤ v ∧ v < 4294967296 := by omega
            have v5 : (v % 256 != (np6 : Int) - (ng : Int)) = false := by rw [v1]; simp
            rw [hv]
            clear hU ho hn hv v0 U66 N66
            go_wp2_with fail
            refine (Line_any b _ O7 Z U7.out).mono ?_
            rintro e V ⟨rfl, hb⟩
            rw [ord_line, decide_eq_true (show 0 < (cm6).length from m2.out)]
            have U8 := Lib.hid (U7.out.keep hb)
            have N8 := Lib.hid (N7.out.keep hb)
            clear hb U7 N7 v1 v2 v3 v4 v5 vn
            go_wp2_with fail
            exact ⟨⟨i + 1, gl, cm6, false, O7, by omega, by go_num, rfl, by have := Hnp6.out; have := Hle.out; omega, U8.out, N8.out⟩, by simp [intOf]; omega⟩
          · go_wp2_with fail
            refine (Read_any b _ O6 1 X6 ⟨by omega, by omega⟩ U66.out).mono ?_
            rintro e Z ⟨rfl, O7, hU, ho, hn⟩
            rw [ord_1] at hU ⊢
            have N7 := Lib.hid (N66.out.obj ho hn hU.lt)
            have U7 := Lib.hid hU
            obtain ⟨v, hv⟩ : ∃ v, (cm6.length : Int) + (if true then 65536 else 0) = v := ⟨_, rfl⟩
            have vn : (0 : Int) ≤ (np6 : Int) - (ng : Int) ∧ (np6 : Int) - (ng : Int) ≤ 8 := by have a1 := Hnp6.out; have a2 := Hng.out; have a3 := (ord_ok U7.out).2; omega
            have v0 : v = (np6 : Int) - (ng : Int) + 65536 := by rw [← hv, if_pos rfl]; have a1 := Hnp6.out; have a2 := Hng.out; omega
            have v1 : v % 256 = (np6 : Int) - (ng : Int) := by omega
            have v2 : v / 65536 % 2 = 1 := by omega
            have v3 : IntKind.u32.wrap ((np6 : Int) - (ng : Int)) = (np6 : Int) - (ng : Int) := IntWalk.u32_in _ (by omega)
            have v4 : 0 ≤ v ∧ v < 4294967296 := by omega
            have v5 : (v % 256 != (np6 : Int) - (ng : Int)) = false := by rw [v1]; simp
            rw [hv]
            clear hU ho hn hv v0 U66 N66
            go_wp2_with fail
            refine (Line_any b _ O7 Z U7.out).mono ?_
            rintro e V ⟨rfl, hb⟩
            rw [ord_line, decide_eq_true (show 0 < (cm6).length from m2.out)]
            have U8 := Lib.hid (U7.out.keep hb)
            have N8 := Lib.hid (N7.out.keep hb)
            clear hb U7 N7 v1 v2 v3 v4 v5 vn
            go_wp2_with fail
            exact ⟨⟨i + 1, gl, cm6, true, O7, by omega, by go_num, rfl, by have := Hnp6.out; have := Hle.out; omega, U8.out, N8.out⟩, by simp [intOf]; omega⟩
      | cons y t =>
        have hy := H8.out.1 y List.mem_cons_self
        go_wp2_with fail
        refine (Read_any b _ O 0 wr ⟨by omega, by omega⟩ U.out).mono ?_
        rintro e X0 ⟨rfl, O5, hU, ho, hn⟩
        rw [ord_cons] at hU ⊢
        have N0 := Lib.hid (N.out.obj ho hn hU.lt)
        have U0 := Lib.hid hU
        have e3 : ng < np := by have a1 := Hnp.out; have a2 := Hng.out; rw [List.length_cons] at a1; omega
        have e4 : decide ((ng : Int) < (np : Int)) = true := decide_eq_true (by omega)
        obtain ⟨v, hv⟩ : ∃ v, 256 + y = v := ⟨_, rfl⟩
        have v1 : decide ((256 : Int) ≤ v) = true := decide_eq_true (by omega)
        have v2 : decide ((511 : Int) < v) = false := decide_eq_false (by omega)
        have v3 := Lib.hid (show v % 256 = y by omega)
        have v4 : 0 ≤ v := by omega
        have v5 : v < 4294967296 := by omega
        have Hv := Lib.hid hv
        simp only [hv]
        clear hU ho hn U N hcr hv
        go_wp2_with (with_reducible refine Bench.at_append _ _ _ _ rfl ?_)
        apply Lib.hid
        refine wpList_append_own_at _ rfl _ _ 27 rfl B 5 i0 (.int .u8 0) 1 1 Try.underlying27 Hi.out Hz0.out Hz1.out Hz2.out rfl (by decide) (.slice ag ng cg) ng (bv gl) rfl (own_keep (row_len N0.out.rg Hng.out.symm) ((Below.refl _ _).alloc (Nat.le_refl _) _)) ⟨X0.heap.size, 0, none⟩ 1 1 [.int .u8 (v % 256)] rfl rfl (cell_one_new _ _ _) (by simp [Value.oneCell']) (by unfold maxLen; omega) (by omega) (by have := N0.out.b0; have := N0.out.bl.size; simp; omega) ?_
        intro v' X r1 r2 _ r4
        rw [v3.out] at r1 r2 r4
        obtain ⟨hN, ho⟩ := N0.out.app_g (by rw [bvn]; exact Hng.out.symm) r1 r2 r4
        obtain ⟨ag2, cg2, rfl, _, _⟩ := own_shape r1
        have N5 := Lib.hid (show Two 5 B w X (.slice ap np cp) (.slice ag2 (ng + 1) cg2) (bv ((gl ++ [y]) ++ t)) (bv (gl ++ [y])) O5 by
          rw [show (gl ++ [y]) ++ t = gl ++ y :: t by simp, bv_app gl [y], bv_one]; exact hN)
        have U5 := Lib.hid (U0.out.only ho (fun j hj e => (N0.out.ob j hj).2.2.2 e))
        obtain ⟨ng2, hng2⟩ : ∃ q, ng + 1 = q := ⟨_, rfl⟩
        have H82 := Lib.hid (show OkB t ∧ t.length ≤ 8 from ord_ok U5.out)
        obtain ⟨gl2, hgl2⟩ : ∃ q, gl ++ [y] = q := ⟨_, rfl⟩
        have Hnp2 := Lib.hid (show np = gl2.length + t.length by have a1 := Hnp.out; rw [← hgl2, List.length_append, List.length_singleton]; rw [List.length_cons] at a1; omega)
        have Hng2 := Lib.hid (show ng2 = gl2.length by have a1 := Hng.out; rw [← hgl2, ← hng2, List.length_append, List.length_singleton]; omega)
        have hg32 : ng2 ≤ np := by omega
        have N5 := Lib.hid (show Two 5 B w X (.slice ap np cp) (.slice ag2 ng2 cg2) (bv (gl2 ++ t)) (bv gl2) O5 by rw [← hgl2, ← hng2]; exact N5.out)
        rw [hng2]
        clear hN ho r1 r2 r4 U0 N0 e3 e4 v1 v2 v3 v4 v5 Hv hng2 hgl2 Hng hg3
        have cx := CX.out X N5.out.bl
        go_wp2_with fail
        by_cases h8 : (t : List Int).length = 8
        · refine (Input_any b _ O5 x X hxb U5.out).mono ?_
          rintro e Y ⟨rfl, O6, hU, ho, hn⟩
          rw [ord_full _ _ _ h8] at hU ⊢
          have N6 := Lib.hid (N5.out.obj ho hn hU.lt)
          have U6 := Lib.hid hU
          have m0 : ((np : Int) - (ng2 : Int)) = 8 := by have a1 := Hnp2.out; have a2 := Hng2.out; omega
          have m1 : decide (((np : Int) - (ng2 : Int)) < 8) = false := decide_eq_false (by omega)
          have m2 := Lib.hid h8
          clear hU ho hn cx h8
          cases lost
          all_goals
            go_wp2_with fail
            refine (Read_any b _ O6 1 Y ⟨by omega, by omega⟩ U6.out).mono ?_
            rintro e Z ⟨rfl, O7, hU, ho, hn⟩
            rw [ord_1] at hU ⊢
            have N7 := Lib.hid (N6.out.obj ho hn hU.lt)
            have U7 := Lib.hid hU
            obtain ⟨v, hv⟩ : ∃ v, ((t : List Int).length : Int) + (if true then 65536 else 0) = v := ⟨_, rfl⟩
            have vn : (0 : Int) ≤ (np : Int) - (ng2 : Int) ∧ (np : Int) - (ng2 : Int) ≤ 8 := by have a1 := Hnp2.out; have a2 := Hng2.out; have a3 := (ord_ok U7.out).2; omega
            have v0 : v = (np : Int) - (ng2 : Int) + 65536 := by rw [← hv, if_pos rfl]; have a1 := Hnp2.out; have a2 := Hng2.out; omega
            have v1 : v % 256 = (np : Int) - (ng2 : Int) := by omega
            have v2 : v / 65536 % 2 = 1 := by omega
            have v3 : IntKind.u32.wrap ((np : Int) - (ng2 : Int)) = (np : Int) - (ng2 : Int) := IntWalk.u32_in _ (by omega)
            have v4 : 0 ≤ v ∧ v < 4294967296 := by omega
            have v5 : (v % 256 != (np : Int) - (ng2 : Int)) = false := by rw [v1]; simp
            rw [hv]
            clear hU ho hn hv v0 U6 N6
            go_wp2_with fail
            refine (Line_any b _ O7 Z U7.out).mono ?_
            rintro e V ⟨rfl, hb⟩
            rw [ord_line, decide_eq_true (show 0 < ((t : List Int)).length from by rw [m2.out]; decide)]
            have U8 := Lib.hid (U7.out.keep hb)
            have N8 := Lib.hid (N7.out.keep hb)
            clear hb U7 N7 v1 v2 v3 v4 v5 vn
            go_wp2_with fail
            exact ⟨⟨i + 1, gl2, (t : List Int), true, O7, by omega, by go_num, rfl, by have := Hnp2.out; have := Hle.out; omega, U8.out, N8.out⟩, by simp [intOf]; omega⟩
        · refine (Input_any b _ O5 x X hxb U5.out).mono ?_
          rintro e Y ⟨rfl, O6, hU, ho, hn⟩
          rw [ord_in _ _ _ h8] at hU ⊢
          have N6 := Lib.hid (N5.out.obj ho hn hU.lt)
          have U6 := Lib.hid hU
          have m1 : decide (((np : Int) - (ng2 : Int)) < 8) = true := decide_eq_true (by have a1 := Hnp2.out; have a2 := Hng2.out; have a3 := H82.out.2; omega)
          have cy := CX.out Y N6.out.bl
          clear hU ho hn cx h8
          go_wp2_with (with_reducible refine Bench.at_append _ _ _ _ rfl ?_)
          apply Lib.hid
          refine wpList_append_own_at _ rfl _ _ 27 rfl B 5 i0 (.int .u8 0) 1 1 Try.underlying27 Hi.out Hz0.out Hz1.out Hz2.out rfl (by decide) (.slice ap np cp) np (bv (gl2 ++ t)) rfl (own_keep (row_len N6.out.rp (by rw [List.length_append]; exact Hnp2.out.symm)) ((Below.refl _ _).alloc (Nat.le_refl _) _)) ⟨Y.heap.size, 0, none⟩ 1 1 [.int .u8 x] rfl rfl (cell_one_new _ _ _) (by simp [Value.oneCell']) (by unfold maxLen; omega) (by omega) (by have := N6.out.b0; have := N6.out.bl.size; simp; omega) ?_
          intro v' X6 r1 r2 _ r4
          obtain ⟨hN, ho⟩ := N6.out.app_p (by rw [bvn, List.length_append]; exact Hnp2.out.symm) r1 r2 r4
          obtain ⟨ap6, cp6, rfl, _, _⟩ := own_shape r1
          obtain ⟨cm6, hcm6⟩ : ∃ q, (t : List Int) ++ [x] = q := ⟨_, rfl⟩
          obtain ⟨np6, hnp6⟩ : ∃ q, np + 1 = q := ⟨_, rfl⟩
          have N66 := Lib.hid (show Two 5 B w X6 (.slice ap6 np6 cp6) (.slice ag2 ng2 cg2) (bv (gl2 ++ cm6)) (bv gl2) O6 by
            rw [← hcm6, ← hnp6, ← List.append_assoc, bv_app (gl2 ++ t) [x], bv_one]; exact hN)
          have U66 := Lib.hid (show Uar X6 b (ordU cm6 lost) O6 by rw [← hcm6]; exact U6.out.only ho (fun j hj e => (N6.out.ob j hj).2.2.1 e))
          have Hnp6 := Lib.hid (show np6 = gl2.length + cm6.length by have a1 := Hnp2.out; rw [← hcm6, ← hnp6, List.length_append, List.length_singleton]; omega)
          have m2 := Lib.hid (show 0 < cm6.length by rw [← hcm6]; simp)
          have hp6 : np6 ≤ 301 := by omega
          have hq6 : ng2 ≤ np6 := by omega
          have Hle6 := Hle
          have Hle := Lib.hid (show np6 ≤ i + 1 by have := Hle6.out; omega)
          rw [hnp6]
          clear hN ho r1 r2 r4 U6 N6 m1 hcm6 hnp6 cy Hle6
          cases lost
          · go_wp2_with fail
            refine (Read_any b _ O6 1 X6 ⟨by omega, by omega⟩ U66.out).mono ?_
            rintro e Z ⟨rfl, O7, hU, ho, hn⟩
            rw [ord_1] at hU ⊢
            have N7 := Lib.hid (N66.out.obj ho hn hU.lt)
            have U7 := Lib.hid hU
            obtain ⟨v, hv⟩ : ∃ v, (cm6.length : Int) + (if false then 65536 else 0) = v := ⟨_, rfl⟩
            have vn : (0 : Int) ≤ (np6 : Int) - (ng2 : Int) ∧ (np6 : Int) - (ng2 : Int) ≤ 8 := by have a1 := Hnp6.out; have a2 := Hng2.out; have a3 := (ord_ok U7.out).2; omega
            have v0 : v = (np6 : Int) - (ng2 : Int) + 0 := by rw [← hv, if_neg (by decide)]; have a1 := Hnp6.out; have a2 := Hng2.out; omega
            have v1 : v % 256 = (np6 : Int) - (ng2 : Int) := by omega
            have v2 : v / 65536 % 2 = 0 := by omega
            have v3 : IntKind.u32.wrap ((np6 : Int) - (ng2 : Int)) = (np6 : Int) - (ng2 : Int) := IntWalk.u32_in _ (by omega)
            have v4 : 0 ≤ v ∧ v < 4294967296 := by omega
            have v5 : (v % 256 != (np6 : Int) - (ng2 : Int)) = false := by rw [v1]; simp
            rw [hv]
            clear hU ho hn hv v0 U66 N66
            go_wp2_with fail
            refine (Line_any b _ O7 Z U7.out).mono ?_
            rintro e V ⟨rfl, hb⟩
            rw [ord_line, decide_eq_true (show 0 < (cm6).length from m2.out)]
            have U8 := Lib.hid (U7.out.keep hb)
            have N8 := Lib.hid (N7.out.keep hb)
            clear hb U7 N7 v1 v2 v3 v4 v5 vn
            go_wp2_with fail
            exact ⟨⟨i + 1, gl2, cm6, false, O7, by omega, by go_num, rfl, by have := Hnp6.out; have := Hle.out; omega, U8.out, N8.out⟩, by simp [intOf]; omega⟩
          · go_wp2_with fail
            refine (Read_any b _ O6 1 X6 ⟨by omega, by omega⟩ U66.out).mono ?_
            rintro e Z ⟨rfl, O7, hU, ho, hn⟩
            rw [ord_1] at hU ⊢
            have N7 := Lib.hid (N66.out.obj ho hn hU.lt)
            have U7 := Lib.hid hU
            obtain ⟨v, hv⟩ : ∃ v, (cm6.length : Int) + (if true then 65536 else 0) = v := ⟨_, rfl⟩
            have vn : (0 : Int) ≤ (np6 : Int) - (ng2 : Int) ∧ (np6 : Int) - (ng2 : Int) ≤ 8 := by have a1 := Hnp6.out; have a2 := Hng2.out; have a3 := (ord_ok U7.out).2; omega
            have v0 : v = (np6 : Int) - (ng2 : Int) + 65536 := by rw [← hv, if_pos rfl]; have a1 := Hnp6.out; have a2 := Hng2.out; omega
            have v1 : v % 256 = (np6 : Int) - (ng2 : Int) := by omega
            have v2 : v / 65536 % 2 = 1 := by omega
            have v3 : IntKind.u32.wrap ((np6 : Int) - (ng2 : Int)) = (np6 : Int) - (ng2 : Int) := IntWalk.u32_in _ (by omega)
            have v4 : 0 ≤ v ∧ v < 4294967296 := by omega
            have v5 : (v % 256 != (np6 : Int) - (ng2 : Int)) = false := by rw [v1]; simp
            rw [hv]
            clear hU ho hn hv v0 U66 N66
            go_wp2_with fail
            refine (Line_any b _ O7 Z U7.out).mono ?_
            rintro e V ⟨rfl, hb⟩
            rw [ord_line, decide_eq_true (show 0 < (cm6).length from m2.out)]
            have U8 := Lib.hid (U7.out.keep hb)
            have N8 := Lib.hid (N7.out.keep hb)
            clear hb U7 N7 v1 v2 v3 v4 v5 vn
            go_wp2_with fail
            exact ⟨⟨i + 1, gl2, cm6, true, O7, by omega, by go_num, rfl, by have := Hnp6.out; have := Hle.out; omega, U8.out, N8.out⟩, by simp [intOf]; omega⟩
    · have d2 : (i < len2 → rs[i]! = false) := fun h => by
        cases e : rs[i]! with
        | false => rfl
        | true => exact absurd ⟨h, e⟩ hrd
      have cx := CX.out wr N.out.bl
      clear hrd
      by_cases hr1 : i < len2
      · obtain ⟨rb, roff, rfl, hcr⟩ := Hr.out.2 i hr1
        rw [d2 hr1] at hcr
        have hcr := cell_keep (by rw [HB.out]; exact N.out.bl) hcr
        have d3 : decide ((i : Int) < (len2 : Int)) = true := decide_eq_true (by omega)
        have i3 : (i : Int) < (len2 : Int) := by omega
        clear d2
        go_wp2_with fail
        by_cases h8 : (cm : List Int).length = 8
        · refine (Input_any b _ O x wr hxb U.out).mono ?_
          rintro e Y ⟨rfl, O6, hU, ho, hn⟩
          rw [ord_full _ _ _ h8] at hU ⊢
          have N6 := Lib.hid (N.out.obj ho hn hU.lt)
          have U6 := Lib.hid hU
          have m0 : ((np : Int) - (ng : Int)) = 8 := by have a1 := Hnp.out; have a2 := Hng.out; omega
          have m1 : decide (((np : Int) - (ng : Int)) < 8) = false := decide_eq_false (by omega)
          have m2 := Lib.hid h8
          clear hU ho hn cx h8
          cases lost
          all_goals
            go_wp2_with fail
            refine (Read_any b _ O6 1 Y ⟨by omega, by omega⟩ U6.out).mono ?_
            rintro e Z ⟨rfl, O7, hU, ho, hn⟩
            rw [ord_1] at hU ⊢
            have N7 := Lib.hid (N6.out.obj ho hn hU.lt)
            have U7 := Lib.hid hU
            obtain ⟨v, hv⟩ : ∃ v, ((cm : List Int).length : Int) + (if true then 65536 else 0) = v := ⟨_, rfl⟩
            have vn : (0 : Int) ≤ (np : Int) - (ng : Int) ∧ (np : Int) - (ng : Int) ≤ 8 := by have a1 := Hnp.out; have a2 := Hng.out; have a3 := (ord_ok U7.out).2; omega
            have v0 : v = (np : Int) - (ng : Int) + 65536 := by rw [← hv, if_pos rfl]; have a1 := Hnp.out; have a2 := Hng.out; omega
            have v1 : v % 256 = (np : Int) - (ng : Int) := by omega
            have v2 : v / 65536 % 2 = 1 := by omega
            have v3 : IntKind.u32.wrap ((np : Int) - (ng : Int)) = (np : Int) - (ng : Int) := IntWalk.u32_in _ (by omega)
            have v4 : 0 ≤ v ∧ v < 4294967296 := by omega
            have v5 : (v % 256 != (np : Int) - (ng : Int)) = false := by rw [v1]; simp
            rw [hv]
            clear hU ho hn hv v0 U6 N6
            go_wp2_with fail
            refine (Line_any b _ O7 Z U7.out).mono ?_
            rintro e V ⟨rfl, hb⟩
            rw [ord_line, decide_eq_true (show 0 < ((cm : List Int)).length from by rw [m2.out]; decide)]
            have U8 := Lib.hid (U7.out.keep hb)
            have N8 := Lib.hid (N7.out.keep hb)
            clear hb U7 N7 v1 v2 v3 v4 v5 vn
            go_wp2_with fail
            exact ⟨⟨i + 1, gl, (cm : List Int), true, O7, by omega, by go_num, rfl, by have := Hnp.out; have := Hle.out; omega, U8.out, N8.out⟩, by simp [intOf]; omega⟩
        · refine (Input_any b _ O x wr hxb U.out).mono ?_
          rintro e Y ⟨rfl, O6, hU, ho, hn⟩
          rw [ord_in _ _ _ h8] at hU ⊢
          have N6 := Lib.hid (N.out.obj ho hn hU.lt)
          have U6 := Lib.hid hU
          have m1 : decide (((np : Int) - (ng : Int)) < 8) = true := decide_eq_true (by have a1 := Hnp.out; have a2 := Hng.out; have a3 := H8.out.2; omega)
          have cy := CX.out Y N6.out.bl
          clear hU ho hn cx h8
          go_wp2_with (with_reducible refine Bench.at_append _ _ _ _ rfl ?_)
          apply Lib.hid
          refine wpList_append_own_at _ rfl _ _ 27 rfl B 5 i0 (.int .u8 0) 1 1 Try.underlying27 Hi.out Hz0.out Hz1.out Hz2.out rfl (by decide) (.slice ap np cp) np (bv (gl ++ cm)) rfl (own_keep (row_len N6.out.rp (by rw [List.length_append]; exact Hnp.out.symm)) ((Below.refl _ _).alloc (Nat.le_refl _) _)) ⟨Y.heap.size, 0, none⟩ 1 1 [.int .u8 x] rfl rfl (cell_one_new _ _ _) (by simp [Value.oneCell']) (by unfold maxLen; omega) (by omega) (by have := N6.out.b0; have := N6.out.bl.size; simp; omega) ?_
          intro v' X6 r1 r2 _ r4
          obtain ⟨hN, ho⟩ := N6.out.app_p (by rw [bvn, List.length_append]; exact Hnp.out.symm) r1 r2 r4
          obtain ⟨ap6, cp6, rfl, _, _⟩ := own_shape r1
          obtain ⟨cm6, hcm6⟩ : ∃ q, (cm : List Int) ++ [x] = q := ⟨_, rfl⟩
          obtain ⟨np6, hnp6⟩ : ∃ q, np + 1 = q := ⟨_, rfl⟩
          have N66 := Lib.hid (show Two 5 B w X6 (.slice ap6 np6 cp6) (.slice ag ng cg) (bv (gl ++ cm6)) (bv gl) O6 by
            rw [← hcm6, ← hnp6, ← List.append_assoc, bv_app (gl ++ cm) [x], bv_one]; exact hN)
          have U66 := Lib.hid (show Uar X6 b (ordU cm6 lost) O6 by rw [← hcm6]; exact U6.out.only ho (fun j hj e => (N6.out.ob j hj).2.2.1 e))
          have Hnp6 := Lib.hid (show np6 = gl.length + cm6.length by have a1 := Hnp.out; rw [← hcm6, ← hnp6, List.length_append, List.length_singleton]; omega)
          have m2 := Lib.hid (show 0 < cm6.length by rw [← hcm6]; simp)
          have hp6 : np6 ≤ 301 := by omega
          have hq6 : ng ≤ np6 := by omega
          have Hle6 := Hle
          have Hle := Lib.hid (show np6 ≤ i + 1 by have := Hle6.out; omega)
          rw [hnp6]
          clear hN ho r1 r2 r4 U6 N6 m1 hcm6 hnp6 cy Hle6
          cases lost
          · go_wp2_with fail
            refine (Read_any b _ O6 1 X6 ⟨by omega, by omega⟩ U66.out).mono ?_
            rintro e Z ⟨rfl, O7, hU, ho, hn⟩
            rw [ord_1] at hU ⊢
            have N7 := Lib.hid (N66.out.obj ho hn hU.lt)
            have U7 := Lib.hid hU
            obtain ⟨v, hv⟩ : ∃ v, (cm6.length : Int) + (if false then 65536 else 0) = v := ⟨_, rfl⟩
            have vn : (0 : Int) ≤ (np6 : Int) - (ng : Int) ∧ (np6 : Int) - (ng : Int) ≤ 8 := by have a1 := Hnp6.out; have a2 := Hng.out; have a3 := (ord_ok U7.out).2; omega
            have v0 : v = (np6 : Int) - (ng : Int) + 0 := by rw [← hv, if_neg (by decide)]; have a1 := Hnp6.out; have a2 := Hng.out; omega
            have v1 : v % 256 = (np6 : Int) - (ng : Int) := by omega
            have v2 : v / 65536 % 2 = 0 := by omega
            have v3 : IntKind.u32.wrap ((np6 : Int) - (ng : Int)) = (np6 : Int) - (ng : Int) := IntWalk.u32_in _ (by omega)
            have v4 : 0 ≤ v ∧ v < 4294967296 := by omega
            have v5 : (v % 256 != (np6 : Int) - (ng : Int)) = false := by rw [v1]; simp
            rw [hv]
            clear hU ho hn hv v0 U66 N66
            go_wp2_with fail
            refine (Line_any b _ O7 Z U7.out).mono ?_
            rintro e V ⟨rfl, hb⟩
            rw [ord_line, decide_eq_true (show 0 < (cm6).length from m2.out)]
            have U8 := Lib.hid (U7.out.keep hb)
            have N8 := Lib.hid (N7.out.keep hb)
            clear hb U7 N7 v1 v2 v3 v4 v5 vn
            go_wp2_with fail
            exact ⟨⟨i + 1, gl, cm6, false, O7, by omega, by go_num, rfl, by have := Hnp6.out; have := Hle.out; omega, U8.out, N8.out⟩, by simp [intOf]; omega⟩
          · go_wp2_with fail
            refine (Read_any b _ O6 1 X6 ⟨by omega, by omega⟩ U66.out).mono ?_
            rintro e Z ⟨rfl, O7, hU, ho, hn⟩
            rw [ord_1] at hU ⊢
            have N7 := Lib.hid (N66.out.obj ho hn hU.lt)
            have U7 := Lib.hid hU
            obtain ⟨v, hv⟩ : ∃ v, (cm6.length : Int) + (if true then 65536 else 0) = v := ⟨_, rfl⟩
            have vn : (0 : Int) ≤ (np6 : Int) - (ng : Int) ∧ (np6 : Int) - (ng : Int) ≤ 8 := by have a1 := Hnp6.out; have a2 := Hng.out; have a3 := (ord_ok U7.out).2; omega
            have v0 : v = (np6 : Int) - (ng : Int) + 65536 := by rw [← hv, if_pos rfl]; have a1 := Hnp6.out; have a2 := Hng.out; omega
            have v1 : v % 256 = (np6 : Int) - (ng : Int) := by omega
            have v2 : v / 65536 % 2 = 1 := by omega
            have v3 : IntKind.u32.wrap ((np6 : Int) - (ng : Int)) = (np6 : Int) - (ng : Int) := IntWalk.u32_in _ (by omega)
            have v4 : 0 ≤ v ∧ v < 4294967296 := by omega
            have v5 : (v % 256 != (np6 : Int) - (ng : Int)) = false := by rw [v1]; simp
            rw [hv]
            clear hU ho hn hv v0 U66 N66
            go_wp2_with fail
            refine (Line_any b _ O7 Z U7.out).mono ?_
            rintro e V ⟨rfl, hb⟩
            rw [ord_line, decide_eq_true (show 0 < (cm6).length from m2.out)]
            have U8 := Lib.hid (U7.out.keep hb)
            have N8 := Lib.hid (N7.out.keep hb)
            clear hb U7 N7 v1 v2 v3 v4 v5 vn
            go_wp2_with fail
            exact ⟨⟨i + 1, gl, cm6, true, O7, by omega, by go_num, rfl, by have := Hnp6.out; have := Hle.out; omega, U8.out, N8.out⟩, by simp [intOf]; omega⟩
      · have d3 : decide ((i : Int) < (len2 : Int)) = false := decide_eq_false (by omega)
        clear d2
        go_wp2_with fail
        by_cases h8 : (cm : List Int).length = 8
        · refine (Input_any b _ O x wr hxb U.out).mono ?_
          rintro e Y ⟨rfl, O6, hU, ho, hn⟩
          rw [ord_full _ _ _ h8] at hU ⊢
          have N6 := Lib.hid (N.out.obj ho hn hU.lt)
          have U6 := Lib.hid hU
          have m0 : ((np : Int) - (ng : Int)) = 8 := by have a1 := Hnp.out; have a2 := Hng.out; omega
          have m1 : decide (((np : Int) - (ng : Int)) < 8) = false := decide_eq_false (by omega)
          have m2 := Lib.hid h8
          clear hU ho hn cx h8
          cases lost
          all_goals
            go_wp2_with fail
            refine (Read_any b _ O6 1 Y ⟨by omega, by omega⟩ U6.out).mono ?_
            rintro e Z ⟨rfl, O7, hU, ho, hn⟩
            rw [ord_1] at hU ⊢
            have N7 := Lib.hid (N6.out.obj ho hn hU.lt)
            have U7 := Lib.hid hU
            obtain ⟨v, hv⟩ : ∃ v, ((cm : List Int).length : Int) + (if true then 65536 else 0) = v := ⟨_, rfl⟩
            have vn : (0 : Int) ≤ (np : Int) - (ng : Int) ∧ (np : Int) - (ng : Int) ≤ 8 := by have a1 := Hnp.out; have a2 := Hng.out; have a3 := (ord_ok U7.out).2; omega
            have v0 : v = (np : Int) - (ng : Int) + 65536 := by rw [← hv, if_pos rfl]; have a1 := Hnp.out; have a2 := Hng.out; omega
            have v1 : v % 256 = (np : Int) - (ng : Int) := by omega
            have v2 : v / 65536 % 2 = 1 := by omega
            have v3 : IntKind.u32.wrap ((np : Int) - (ng : Int)) = (np : Int) - (ng : Int) := IntWalk.u32_in _ (by omega)
            have v4 : 0 ≤ v ∧ v < 4294967296 := by omega
            have v5 : (v % 256 != (np : Int) - (ng : Int)) = false := by rw [v1]; simp
            rw [hv]
            clear hU ho hn hv v0 U6 N6
            go_wp2_with fail
            refine (Line_any b _ O7 Z U7.out).mono ?_
            rintro e V ⟨rfl, hb⟩
            rw [ord_line, decide_eq_true (show 0 < ((cm : List Int)).length from by rw [m2.out]; decide)]
            have U8 := Lib.hid (U7.out.keep hb)
            have N8 := Lib.hid (N7.out.keep hb)
            clear hb U7 N7 v1 v2 v3 v4 v5 vn
            go_wp2_with fail
            exact ⟨⟨i + 1, gl, (cm : List Int), true, O7, by omega, by go_num, rfl, by have := Hnp.out; have := Hle.out; omega, U8.out, N8.out⟩, by simp [intOf]; omega⟩
        · refine (Input_any b _ O x wr hxb U.out).mono ?_
          rintro e Y ⟨rfl, O6, hU, ho, hn⟩
          rw [ord_in _ _ _ h8] at hU ⊢
          have N6 := Lib.hid (N.out.obj ho hn hU.lt)
          have U6 := Lib.hid hU
          have m1 : decide (((np : Int) - (ng : Int)) < 8) = true := decide_eq_true (by have a1 := Hnp.out; have a2 := Hng.out; have a3 := H8.out.2; omega)
          have cy := CX.out Y N6.out.bl
          clear hU ho hn cx h8
          go_wp2_with (with_reducible refine Bench.at_append _ _ _ _ rfl ?_)
          apply Lib.hid
          refine wpList_append_own_at _ rfl _ _ 27 rfl B 5 i0 (.int .u8 0) 1 1 Try.underlying27 Hi.out Hz0.out Hz1.out Hz2.out rfl (by decide) (.slice ap np cp) np (bv (gl ++ cm)) rfl (own_keep (row_len N6.out.rp (by rw [List.length_append]; exact Hnp.out.symm)) ((Below.refl _ _).alloc (Nat.le_refl _) _)) ⟨Y.heap.size, 0, none⟩ 1 1 [.int .u8 x] rfl rfl (cell_one_new _ _ _) (by simp [Value.oneCell']) (by unfold maxLen; omega) (by omega) (by have := N6.out.b0; have := N6.out.bl.size; simp; omega) ?_
          intro v' X6 r1 r2 _ r4
          obtain ⟨hN, ho⟩ := N6.out.app_p (by rw [bvn, List.length_append]; exact Hnp.out.symm) r1 r2 r4
          obtain ⟨ap6, cp6, rfl, _, _⟩ := own_shape r1
          obtain ⟨cm6, hcm6⟩ : ∃ q, (cm : List Int) ++ [x] = q := ⟨_, rfl⟩
          obtain ⟨np6, hnp6⟩ : ∃ q, np + 1 = q := ⟨_, rfl⟩
          have N66 := Lib.hid (show Two 5 B w X6 (.slice ap6 np6 cp6) (.slice ag ng cg) (bv (gl ++ cm6)) (bv gl) O6 by
            rw [← hcm6, ← hnp6, ← List.append_assoc, bv_app (gl ++ cm) [x], bv_one]; exact hN)
          have U66 := Lib.hid (show Uar X6 b (ordU cm6 lost) O6 by rw [← hcm6]; exact U6.out.only ho (fun j hj e => (N6.out.ob j hj).2.2.1 e))
          have Hnp6 := Lib.hid (show np6 = gl.length + cm6.length by have a1 := Hnp.out; rw [← hcm6, ← hnp6, List.length_append, List.length_singleton]; omega)
          have m2 := Lib.hid (show 0 < cm6.length by rw [← hcm6]; simp)
          have hp6 : np6 ≤ 301 := by omega
          have hq6 : ng ≤ np6 := by omega
          have Hle6 := Hle
          have Hle := Lib.hid (show np6 ≤ i + 1 by have := Hle6.out; omega)
          rw [hnp6]
          clear hN ho r1 r2 r4 U6 N6 m1 hcm6 hnp6 cy Hle6
          cases lost
          · go_wp2_with fail
            refine (Read_any b _ O6 1 X6 ⟨by omega, by omega⟩ U66.out).mono ?_
            rintro e Z ⟨rfl, O7, hU, ho, hn⟩
            rw [ord_1] at hU ⊢
            have N7 := Lib.hid (N66.out.obj ho hn hU.lt)
            have U7 := Lib.hid hU
            obtain ⟨v, hv⟩ : ∃ v, (cm6.length : Int) + (if false then 65536 else 0) = v := ⟨_, rfl⟩
            have vn : (0 : Int) ≤ (np6 : Int) - (ng : Int) ∧ (np6 : Int) - (ng : Int) ≤ 8 := by have a1 := Hnp6.out; have a2 := Hng.out; have a3 := (ord_ok U7.out).2; omega
            have v0 : v = (np6 : Int) - (ng : Int) + 0 := by rw [← hv, if_neg (by decide)]; have a1 := Hnp6.out; have a2 := Hng.out; omega
            have v1 : v % 256 = (np6 : Int) - (ng : Int) := by omega
            have v2 : v / 65536 % 2 = 0 := by omega
            have v3 : IntKind.u32.wrap ((np6 : Int) - (ng : Int)) = (np6 : Int) - (ng : Int) := IntWalk.u32_in _ (by omega)
            have v4 : 0 ≤ v ∧ v < 4294967296 := by omega
            have v5 : (v % 256 != (np6 : Int) - (ng : Int)) = false := by rw [v1]; simp
            rw [hv]
            clear hU ho hn hv v0 U66 N66
            go_wp2_with fail
            refine (Line_any b _ O7 Z U7.out).mono ?_
            rintro e V ⟨rfl, hb⟩
            rw [ord_line, decide_eq_true (show 0 < (cm6).length from m2.out)]
            have U8 := Lib.hid (U7.out.keep hb)
            have N8 := Lib.hid (N7.out.keep hb)
            clear hb U7 N7 v1 v2 v3 v4 v5 vn
            go_wp2_with fail
            exact ⟨⟨i + 1, gl, cm6, false, O7, by omega, by go_num, rfl, by have := Hnp6.out; have := Hle.out; omega, U8.out, N8.out⟩, by simp [intOf]; omega⟩
          · go_wp2_with fail
            refine (Read_any b _ O6 1 X6 ⟨by omega, by omega⟩ U66.out).mono ?_
            rintro e Z ⟨rfl, O7, hU, ho, hn⟩
            rw [ord_1] at hU ⊢
            have N7 := Lib.hid (N66.out.obj ho hn hU.lt)
            have U7 := Lib.hid hU
            obtain ⟨v, hv⟩ : ∃ v, (cm6.length : Int) + (if true then 65536 else 0) = v := ⟨_, rfl⟩
            have vn : (0 : Int) ≤ (np6 : Int) - (ng : Int) ∧ (np6 : Int) - (ng : Int) ≤ 8 := by have a1 := Hnp6.out; have a2 := Hng.out; have a3 := (ord_ok U7.out).2; omega
            have v0 : v = (np6 : Int) - (ng : Int) + 65536 := by rw [← hv, if_pos rfl]; have a1 := Hnp6.out; have a2 := Hng.out; omega
            have v1 : v % 256 = (np6 : Int) - (ng : Int) := by omega
            have v2 : v / 65536 % 2 = 1 := by omega
            have v3 : IntKind.u32.wrap ((np6 : Int) - (ng : Int)) = (np6 : Int) - (ng : Int) := IntWalk.u32_in _ (by omega)
            have v4 : 0 ≤ v ∧ v < 4294967296 := by omega
            have v5 : (v % 256 != (np6 : Int) - (ng : Int)) = false := by rw [v1]; simp
            rw [hv]
            clear hU ho hn hv v0 U66 N66
            go_wp2_with fail
            refine (Line_any b _ O7 Z U7.out).mono ?_
            rintro e V ⟨rfl, hb⟩
            rw [ord_line, decide_eq_true (show 0 < (cm6).length from m2.out)]
            have U8 := Lib.hid (U7.out.keep hb)
            have N8 := Lib.hid (N7.out.keep hb)
            clear hb U7 N7 v1 v2 v3 v4 v5 vn
            go_wp2_with fail
            exact ⟨⟨i + 1, gl, cm6, true, O7, by omega, by go_num, rfl, by have := Hnp6.out; have := Hle.out; omega, U8.out, N8.out⟩, by simp [intOf]; omega⟩
  · have d1 : decide ((i : Int) < (len : Int)) = false := decide_eq_false (by omega)
    obtain ⟨W1, rfl⟩ : ∃ W : World, W = wr := ⟨_, rfl⟩
    obtain ⟨al, hal⟩ : ∃ q, gl ++ cm = q := ⟨_, rfl⟩
    have Hal := Lib.hid hal
    have Hnl := Lib.hid (show al.length = np by rw [← hal, List.length_append]; exact Hnp.out.symm)
    have N1 := Lib.hid (show Two 5 B w W1 (.slice ap np cp) (.slice ag ng cg) (bv al) (bv gl) O by rw [← hal]; exact N.out)
    have d2 : decide (i < len) = false := decide_eq_false hlt
    clear hal N
    go_wp2_with fail
    go_loopw [7] (fun vg wr => ∃ (gl2 cm2 : List Int) (O2 : Nat → Prop), gl2 ++ cm2 = al ∧ Uar wr b (ordU cm2 lost) O2 ∧ Two 5 B w wr (.slice ap np cp) vg (bv al) (bv gl2) O2) (fun vg _ => np - lenV vg)
    case atStart => exact ⟨gl, cm, O, Hal.out, U.out, N1.out⟩
    case round =>
    clear U N1 Hal Hnp Hng hg3 H8
    obtain ⟨g2, c2, O2, hap, hU, hN⟩ := hrel
    obtain ⟨ag2, cg2, e2⟩ := hN.rg.shape
    subst e2
    obtain ⟨ng2, hng⟩ : ∃ n, (bv g2).length = n := ⟨_, rfl⟩
    rw [hng] at hN ⊢
    have Hng := Lib.hid (show ng2 = g2.length by rw [← hng, bvn])
    have Hap := Lib.hid hap
    have Hnp := Lib.hid (show np = g2.length + c2.length by rw [← Hnl.out, ← hap, List.length_append])
    have U := Lib.hid hU
    have N := Lib.hid hN
    have hg3 : ng2 ≤ np := by have := Hng.out; have := Hnp.out; omega
    clear hU hN hng hap
    cases c2 with
    | nil =>
      have e3 : ¬ (ng2 < np) := by have a1 := Hnp.out; have a2 := Hng.out; rw [List.length_nil] at a1; omega
      have e4 : decide ((ng2 : Int) < (np : Int)) = false := decide_eq_false (by omega)
      go_wp2_with fail
      refine (Read_any b _ O2 0 wr ⟨by omega, by omega⟩ U.out).mono ?_
      rintro e X ⟨rfl, O5, hU, ho, hn⟩
      rw [ord_nil] at hU ⊢
      have N5 := Lib.hid (N.out.obj ho hn hU.lt)
      have U5 := Lib.hid hU
      clear hU ho hn U N e3 e4
      go_wp2_with fail
      refine (Line_any b _ O5 X U5.out).mono ?_
      rintro e Y ⟨rfl, hb⟩
      rw [ord_line]
      have N6 := Lib.hid (N5.out.keep hb)
      have s1 := Lib.hid (show g2 = al by rw [← Hap.out, List.append_nil])
      clear hb
      go_wp2_with fail
      refine (Bench.same_own (n := np) (row_len N6.out.rp Hnl.out) (by
        have := row_len N6.out.rg (show g2.length = np by rw [s1.out]; exact Hnl.out)
        rw [s1.out] at this
        have e5 : ng2 = np := by have a1 := Hnp.out; have a2 := Hng.out; rw [List.length_nil] at a1; omega
        rw [e5] at this ⊢
        exact this) (by omega)).mono ?_
      rintro e Z ⟨rfl, hb⟩
      have BZ := Lib.hid ((N6.out.keep hb).bl)
      clear hb
      go_wp2_with fail
      go_ret
      exact ⟨rfl, by rw [HB.out]; exact BZ.out⟩
    | cons y t =>
      have hy := (ord_ok U.out).1 y List.mem_cons_self
      have e3 : ng2 < np := by have a1 := Hnp.out; have a2 := Hng.out; rw [List.length_cons] at a1; omega
      have e4 : decide ((ng2 : Int) < (np : Int)) = true := decide_eq_true (by omega)
      go_wp2_with fail
      refine (Read_any b _ O2 0 wr ⟨by omega, by omega⟩ U.out).mono ?_
      rintro e X0 ⟨rfl, O5, hU, ho, hn⟩
      rw [ord_cons] at hU ⊢
      have N0 := Lib.hid (N.out.obj ho hn hU.lt)
      have U0 := Lib.hid hU
      obtain ⟨v, hv⟩ : ∃ v, 256 + y = v := ⟨_, rfl⟩
      have v1 : decide (v < 256) = false := decide_eq_false (by omega)
      have v3 := Lib.hid (show v % 256 = y by omega)
      have v4 : 0 ≤ v := by omega
      have v5 : v < 4294967296 := by omega
      simp only [hv]
      clear hU ho hn U N hv hy
      go_wp2_with (with_reducible refine Bench.at_append _ _ _ _ rfl ?_)
      apply Lib.hid
      refine wpList_append_own_at _ rfl _ _ 27 rfl B 5 i0 (.int .u8 0) 1 1 Try.underlying27 Hi.out Hz0.out Hz1.out Hz2.out rfl (by decide) (.slice ag2 ng2 cg2) ng2 (bv g2) rfl (own_keep (row_len N0.out.rg Hng.out.symm) ((Below.refl _ _).alloc (Nat.le_refl _) _)) ⟨X0.heap.size, 0, none⟩ 1 1 [.int .u8 (v % 256)] rfl rfl (cell_one_new _ _ _) (by simp [Value.oneCell']) (by unfold maxLen; omega) (by omega) (by have := N0.out.b0; have := N0.out.bl.size; simp; omega) ?_
      intro v' X r1 r2 _ r4
      rw [v3.out] at r1 r2 r4
      obtain ⟨hN, ho⟩ := N0.out.app_g (by rw [bvn]; exact Hng.out.symm) r1 r2 r4
      obtain ⟨ag3, cg3, rfl, _, _⟩ := own_shape r1
      have N5 := Lib.hid (show Two 5 B w X (.slice ap np cp) (.slice ag3 (ng2 + 1) cg3) (bv al) (bv (g2 ++ [y])) O5 by
        rw [bv_app g2 [y], bv_one]; exact hN)
      have U5 := Lib.hid (U0.out.only ho (fun j hj e => (N0.out.ob j hj).2.2.2 e))
      clear hN ho r1 r2 r4 U0 N0 v1 v3 v4 v5
      go_wp2_with fail
      exact ⟨⟨g2 ++ [y], t, O5, by rw [← Hap.out]; simp, U5.out, N5.out⟩, by simp [lenV]; omega⟩
end Go.Proofs.Ythdcealhhmfgcaa.Uart
