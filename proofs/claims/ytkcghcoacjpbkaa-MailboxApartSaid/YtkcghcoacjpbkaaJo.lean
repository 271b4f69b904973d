/- The walk of MailboxOrder. -/
import Derived.Test.YtkcghcoacjpbkaaJe
import Derived.Test.YtkcghcoacjpbkaaQtD
import Derived.Test.YtkcghcoacjpbkaaJs
namespace Go.Proofs.Ytkcghcoacjpbkaa.Mbox
open Go.RowKit Go.Maps Go.ChangeShapes Go.WideShapes Go.ChangeAt Fifo Orow Word
open Bench (Two RowO)
set_option linter.unusedVariables false

theorem info_l : (Try.prog.info? 28).map (fun i => (i.zero, i.size, i.bytes)) = some (some (.int .u32 0), 1, 4) := by kernel_rfl
/-- It calls: what there is, how many were lost. -/
def ordX (cm : List Int) (lost : Int) : Bx := ⟨cm, 1, lost⟩
theorem ord_0 : writeX zeroX 2 3 = ordX [] 0 := rfl
theorem ord_nil (l : Int) : readX (ordX [] l) 0 = (0, ordX [] l) := rfl
theorem ord_cons (b : Int) (t : List Int) (l : Int) : readX (ordX (b :: t) l) 0 = (b, ordX t l) := rfl
theorem ord_1 (cm : List Int) (l : Int) : readX (ordX cm l) 1 = ((cm.length : Int), ordX cm l) := rfl
theorem ord_3 (cm : List Int) (l : Int) : readX (ordX cm l) 3 = (l, ordX cm l) := rfl
theorem ord_in (cm : List Int) (l x : Int) (h : cm.length < 4) : writeX (ordX cm l) 0 x = ordX (cm ++ [x]) l := by
  show (if cm.length < 4 then _ else _) = _
  rw [if_pos h]; rfl
theorem ord_full (cm : List Int) (l x : Int) (h : ¬ cm.length < 4) (hl : l < 4294967295) : writeX (ordX cm l) 0 x = ordX cm (l + 1) := by
  show (if cm.length < 4 then _ else if l < 4294967295 then _ else _) = _
  rw [if_neg h, if_pos hl]; rfl
theorem ord_line (cm : List Int) (l : Int) : lineX (ordX cm l) = decide (0 < cm.length) := by
  show decide ((1 : Int) = 1 ∧ 0 < cm.length) = _
  simp
theorem ord_ok {w : World} {b : Nat} {cm : List Int} {l : Int} {O : Nat → Prop} (h : Box w b (ordX cm l) O) : OkW cm ∧ cm.length ≤ 4 := h.ok.w
theorem row_len {w : World} {B : Nat} {v : Value} {l : List Int} {n : Nat} (h : RowO 28 w B v (lv l)) (hn : l.length = n) : w.ownsRow B 28 1 v n (lv l) := by
  have : (lv l).length = n := by rw [lvl]; exact hn
  rw [← this]; exact h
/-- A word of an input row. -/
theorem word_at {w : World} {a : Option Addr} {len : Nat} {l : List Int} (h : Row .u32 w a len l) {i : Nat} (hi : i < len) : ∃ b off x, a = some ⟨b, off, none⟩ ∧ w.cell? ⟨b, off + i, none⟩ = some (.int .u32 x) ∧ 0 ≤ x ∧ x < 4294967296 ∧ l.getD i 0 = x := by
  obtain ⟨h1, _, h3, h4⟩ := h
  rcases h4 with h4 | ⟨b, off, rfl, hlb, hcl⟩
  · omega
  · have hm : l.getD i 0 ∈ l := by
      rw [List.getD_eq_getElem?_getD, List.getElem?_eq_getElem (by omega)]
      exact List.getElem_mem _
    have := h3 _ hm
    simp only [Lit.wf, Bool.and_eq_true, decide_eq_true_eq] at this
    have e1 : IntKind.u32.min = 0 := rfl
    have e2 : IntKind.u32.max = 4294967295 := rfl
    exact ⟨b, off, _, rfl, hcl i hi, by omega, by omega, rfl⟩
set_option maxRecDepth 100000 in
set_option maxHeartbeats 8000000 in
theorem order_walk (a : Option Addr) (len cap : Nat) (l : List Int) (a2 : Option Addr) (len2 cap2 : Nat) (rs : List Bool) (w : World) (hl : Row .u32 w a len l) (h0 : a = none → cap = 0) (hr : Truth.RowT w a2 len2 rs) (h1 : a2 = none → len2 = 0 ∧ cap2 = 0) (h2 : len2 ≤ cap2) (h3 : len2 ≤ maxLen) :
    Calls Try.prog 5 #[.slice a len cap, .slice a2 len2 cap2] w fun e w' => e = .returned (.bool true) ∧ Below w.heap.size w w' := by
  have Hl := Lib.hid hl
  have Hr := Lib.hid hr
  clear hl h0 hr h1 h2 h3
  obtain ⟨B, hB⟩ : ∃ B, w.heap.size = B := ⟨_, rfl⟩
  have HB := Lib.hid hB
  clear hB
  obtain ⟨i0, hi, hz0, hz1, hz2⟩ := info_parts info_l
  have Hi := Lib.hid hi
  have Hz0 := Lib.hid hz0
  have Hz1 := Lib.hid hz1
  have Hz2 := Lib.hid hz2
  clear hi hz0 hz1 hz2
  by_cases h300 : 300 < len
  · have d1 : decide ((300 : Int) < (len : Int)) = true := decide_eq_true (by omega)
    go_enter Try.func5, Try.ntmps5
    go_wp2_with fail
    refine (awake_any _).mono ?_
    rintro e w1 ⟨rfl, hb⟩
    have B1 := Lib.hid hb
    clear hb
    go_wp2_with fail
    go_ret
    exact ⟨rfl, B1.out⟩
  have d1 : decide ((300 : Int) < (len : Int)) = false := decide_eq_false (by omega)
  go_enter Try.func5, Try.ntmps5
  go_wp2_with fail
  refine (awake_any _).mono ?_
  rintro e w1 ⟨rfl, hb⟩
  have B1 := Lib.hid hb
  clear hb
  go_wp2_with fail
  refine (New_any _).mono ?_
  rintro e w2 ⟨⟨b, O0, rfl, hU, hO⟩, hb⟩
  have U2 := Lib.hid hU
  have HO := Lib.hid hO
  have B2 := Lib.hid (B1.out.trans (hb.mono B1.out.size))
  clear hb hU hO
  go_wp2_with fail
  refine (Write_any b zeroX O0 2 3 w2 ⟨by omega, by omega⟩ ⟨by omega, by omega⟩ U2.out).mono ?_
  rintro e w3 ⟨rfl, O, hU, ho, hn⟩
  have U3 := Lib.hid (show Box w3 b (ordX [] ((0 : Nat) : Int)) O from hU)
  have hs1 := B1.out.size
  have hs2 := B2.out.size
  have N3 := Lib.hid (show Two 28 B w w3 (.slice none 0 0) (.slice none 0 0) (lv ([] ++ [])) (lv []) O from
    Two.new (fun j hj => ⟨(hn j hj).elim (fun e => by have := HO.out j e; have := HB.out; omega) (fun e => by have := HB.out; omega), hU.lt j hj⟩) (by
      rw [← HB.out]
      exact B2.out.trans (ho.below hs2 (fun k hk => by have := HO.out k hk; omega))) (by rw [HB.out]; exact Nat.le_refl _))
  have h300' : len ≤ 300 := by omega
  clear hU ho hn hs1 hs2 U2 HO B1 B2 d1 h300
  go_wp2_with fail
  go_loopw [6, 7, 8, 9] (fun vp vg lw iv wr => ∃ (i : Nat) (gl cm : List Int) (lost : Nat) (O : Nat → Prop), i ≤ len ∧ iv = .int .i64 i ∧ lw = .int .u32 lost ∧ lost ≤ i ∧ gl.length + cm.length ≤ i ∧ Box wr b (ordX cm lost) O ∧ Two 28 B w wr vp vg (lv (gl ++ cm)) (lv gl) O) (fun _ _ _ iv _ => len - (intOf iv).toNat)
  case atStart => exact ⟨0, [], [], 0, O, Nat.zero_le _, rfl, rfl, Nat.le_refl _, Nat.le_refl _, U3.out, N3.out⟩
  case round =>
  clear U3 N3
  obtain ⟨i, gl, cm, lost, O, hi, rfl, rfl, hlo, hle, hU, hN⟩ := hrel
  obtain ⟨ap, cp, e1⟩ := hN.rp.shape
  obtain ⟨ag, cg, e2⟩ := hN.rg.shape
  subst e1 e2
  have H8 := Lib.hid (ord_ok hU)
  obtain ⟨np, hnp⟩ : ∃ n, (lv (gl ++ cm)).length = n := ⟨_, rfl⟩
  obtain ⟨ng, hng⟩ : ∃ n, (lv gl).length = n := ⟨_, rfl⟩
  have Hnp := Lib.hid (show np = gl.length + cm.length by rw [← hnp, lvl, List.length_append])
  have Hng := Lib.hid (show ng = gl.length by rw [← hng, lvl])
  rw [hnp, hng] at hN ⊢
  have U := Lib.hid hU
  have N := Lib.hid hN
  have hp3 : np ≤ 300 := by have := Hnp.out; omega
  have hg3 : ng ≤ np := by have := Hnp.out; have := Hng.out; omega
  have Hle := Lib.hid (show np ≤ i by have := Hnp.out; omega)
  have hlo3 : lost ≤ 300 := by omega
  have Hlo := Lib.hid hlo
  clear hU hN hnp hng hle hlo
  by_cases hlt : i < len
  · have d1 : decide ((i : Int) < (len : Int)) = true := decide_eq_true (by omega)
    obtain ⟨lb, off, x, rfl, hcx, x0, x1, _⟩ := word_at Hl.out hlt
    have hxb : 0 ≤ x ∧ x < 4294967296 := ⟨x0, x1⟩
    have CX := Lib.hid (fun W (h : Below B w W) => cell_keep (by rw [HB.out]; exact h) hcx)
    have i1 : (0 : Int) ≤ (i : Int) := by omega
    have i2 : (i : Int) < (len : Int) := by omega
    clear hcx
    -- is it read first?
    by_cases hrd : i < len2 ∧ rs[i]! = true
    · obtain ⟨hr1, hr2⟩ := hrd
      obtain ⟨rb, roff, rfl, hcr⟩ := Hr.out.2 i hr1
      rw [hr2] at hcr
      have hcr := cell_keep (by rw [HB.out]; exact N.out.bl) hcr
      have d2 : decide ((i : Int) < (len2 : Int)) = true := decide_eq_true (by omega)
      have i3 : (i : Int) < (len2 : Int) := by omega
      cases cm with
      | nil =>
        go_wp2_with fail
        refine (Read_quiet b _ O 1 wr ⟨by omega, by omega⟩ (by decide) U.out).mono ?_
        rintro e Xa ⟨rfl, hb⟩
        rw [ord_1, List.length_nil]
        have Na := Lib.hid (N.out.keep hb)
        have Ua := Lib.hid (U.out.keep hb)
        clear hb U N hcr
        go_wp2_with fail
        refine (Read_any b _ O 0 Xa ⟨by omega, by omega⟩ Ua.out).mono ?_
        rintro e X ⟨rfl, O5, hU, ho, hn⟩
        rw [ord_nil] at hU ⊢
        have N5 := Lib.hid (Na.out.obj ho hn hU.lt)
        have U5 := Lib.hid hU
        have e3 : ¬ (ng < np) := by have a1 := Hnp.out; have a2 := Hng.out; rw [List.length_nil] at a1; omega
        have e4 : decide ((ng : Int) < (np : Int)) = false := decide_eq_false (by omega)
        clear hU ho hn Ua Na
        have cx := CX.out X N5.out.bl
        go_wp2_with fail
        refine (Read_quiet b _ O5 1 X ⟨by omega, by omega⟩ (by decide) U5.out).mono ?_
        rintro e W4 ⟨rfl, hb⟩
        rw [ord_1]
        have N4 := Lib.hid (N5.out.keep hb)
        have U4 := Lib.hid (U5.out.keep hb)
        have cx4 := CX.out W4 N4.out.bl
        obtain ⟨mm, hmm⟩ : ∃ m, ([] : List Int).length = m := ⟨_, rfl⟩
        rw [hmm]
        clear hb cx U5 N5
        have h8 : mm < 4 := by rw [← hmm]; decide
        have hdone : True := trivial
        have m1 : decide ((mm : Int) < 4) = true := decide_eq_true (by omega)
        have h84 : ([] : List Int).length < 4 := by rw [hmm]; exact h8
        clear hmm h8
        go_wp2_with (with_reducible refine Bench.at_append _ _ _ _ rfl ?_)
        apply Lib.hid
        refine wpList_append_own_at _ rfl _ _ 27 rfl B 28 i0 (.int .u32 0) 1 4 Try.underlying27 Hi.out Hz0.out Hz1.out Hz2.out rfl (by decide) (.slice ap np cp) np (lv (gl ++ [])) rfl (own_keep (row_len N4.out.rp (by rw [List.length_append]; exact Hnp.out.symm)) ((Below.refl _ _).alloc (Nat.le_refl _) _)) ⟨W4.heap.size, 0, none⟩ 1 1 [.int .u32 x] rfl rfl (cell_one_new _ _ _) (by simp [Value.oneCell']) (by unfold maxLen; omega) (by omega) (by have := N4.out.b0; have := N4.out.bl.size; simp; omega) ?_
        intro v' X6 r1 r2 _ r4
        obtain ⟨hN, ho⟩ := N4.out.app_p (by rw [lvl, List.length_append]; exact Hnp.out.symm) r1 r2 r4
        obtain ⟨ap6, cp6, rfl, _, _⟩ := own_shape r1
        obtain ⟨cm6, hcm6⟩ : ∃ q, ([] : List Int) ++ [x] = q := ⟨_, rfl⟩
        obtain ⟨np6, hnp6⟩ : ∃ q, np + 1 = q := ⟨_, rfl⟩
        have N66 := Lib.hid (show Two 28 B w X6 (.slice ap6 np6 cp6) (.slice ag ng cg) (lv (gl ++ cm6)) (lv gl) O5 by
          rw [← hcm6, ← hnp6, ← List.append_assoc, lv_app (gl ++ []) [x], lv_one]; exact hN)
        have U66 := Lib.hid (U4.out.only ho (fun j hj e => (N4.out.ob j hj).2.2.1 e))
        have Hnp6 := Lib.hid (show np6 = gl.length + cm6.length by have a1 := Hnp.out; rw [← hcm6, ← hnp6, List.length_append, List.length_singleton]; omega)
        have m2 := Lib.hid (show 0 < cm6.length by rw [← hcm6]; simp)
        have hp6 : np6 ≤ 301 := by omega
        have hq6 : ng ≤ np6 := by omega
        have Hle6 := Lib.hid (show np6 ≤ i + 1 by have := Hle.out; omega)
        have Hcm6 := Lib.hid hcm6
        have cx6 := CX.out X6 N66.out.bl
        have Hlo6 := Lib.hid (show lost ≤ i + 1 by have := Hlo.out; omega)
        rw [hnp6]
        clear hN ho r1 r2 r4 U4 N4 m1 hcm6 hnp6 cx4
        go_wp2_with fail
        refine (Write_any b _ O5 0 x X6 ⟨by omega, by omega⟩ hxb U66.out).mono ?_
        rintro e Y ⟨rfl, O6, hU, ho, hn⟩
        rw [ord_in _ _ _ h84, Hcm6.out] at hU
        have N6 := Lib.hid (N66.out.obj ho hn hU.lt)
        have U6 := Lib.hid hU
        clear hU ho hn U66 N66 cx6
        go_wp2_with fail
        refine (Read_quiet b _ O6 3 Y ⟨by omega, by omega⟩ (by decide) U6.out).mono ?_
        rintro e Za ⟨rfl, hb⟩
        rw [ord_3]
        have N7 := Lib.hid (N6.out.keep hb)
        have U7 := Lib.hid (U6.out.keep hb)
        have v1 : ((lost : Int) != (lost : Int)) = false := by simp
        clear hb U6 N6
        go_wp2_with fail
        refine (Read_quiet b _ O6 1 Za ⟨by omega, by omega⟩ (by decide) U7.out).mono ?_
        rintro e Zb ⟨rfl, hb⟩
        rw [ord_1, show (((cm6).length : Nat) : Int) = (np6 : Int) - (ng : Int) by have a1 := Hnp6.out; have a2 := Hng.out; omega]
        have N8 := Lib.hid (N7.out.keep hb)
        have U8 := Lib.hid (U7.out.keep hb)
        have vn : (0 : Int) < (np6 : Int) - (ng : Int) ∧ (np6 : Int) - (ng : Int) ≤ 4 := by have a1 := Hnp6.out; have a2 := Hng.out; have a3 := (ord_ok U8.out).2; have a4 : 0 < (cm6).length := m2.out; omega
        have v2 : (((np6 : Int) - (ng : Int)) != ((np6 : Int) - (ng : Int))) = false := by simp
        have v3 := vn.1
        have v4 := vn.2
        clear hb U7 N7 v1
        go_wp2_with fail
        refine (Line_any b _ O6 Zb U8.out).mono ?_
        rintro e V ⟨rfl, hb⟩
        rw [ord_line, decide_eq_true (show 0 < (cm6).length from m2.out)]
        have U9 := Lib.hid (U8.out.keep hb)
        have N9 := Lib.hid (N8.out.keep hb)
        have v5 : decide ((ng : Int) < (np6 : Int)) = true := decide_eq_true (by omega)
        have v6 : decide (ng < np6) = true := decide_eq_true (by omega)
        clear hb U8 N8 v2
        go_wp2_with fail
        exact ⟨⟨i + 1, gl, cm6, lost, O6, by omega, by go_num, rfl, Hlo6.out, by have := Hnp6.out; have := Hle6.out; omega, U9.out, N9.out⟩, by simp [intOf]; omega⟩
      | cons y t =>
        have hy := H8.out.1 y List.mem_cons_self
        have y0 := hy.1
        have y1 := hy.2
        go_wp2_with fail
        refine (Read_quiet b _ O 1 wr ⟨by omega, by omega⟩ (by decide) U.out).mono ?_
        rintro e Xa ⟨rfl, hb⟩
        rw [ord_1]
        obtain ⟨m, hm⟩ : ∃ m, (y :: t).length = m := ⟨_, rfl⟩
        rw [hm]
        have m0 : decide ((0 : Int) < (m : Int)) = true := decide_eq_true (by rw [← hm, List.length_cons]; omega)
        have m00 : decide (0 < m) = true := decide_eq_true (by rw [← hm, List.length_cons]; omega)
        have m01 : 0 < m := by rw [← hm, List.length_cons]; omega
        have Na := Lib.hid (N.out.keep hb)
        have Ua := Lib.hid (U.out.keep hb)
        clear hb U N hcr hm
        go_wp2_with fail
        refine (Read_any b _ O 0 Xa ⟨by omega, by omega⟩ Ua.out).mono ?_
        rintro e X0 ⟨rfl, O5, hU, ho, hn⟩
        rw [ord_cons] at hU ⊢
        have N0 := Lib.hid (Na.out.obj ho hn hU.lt)
        have U0 := Lib.hid hU
        have e3 : ng < np := by have a1 := Hnp.out; have a2 := Hng.out; rw [List.length_cons] at a1; omega
        have e4 : decide ((ng : Int) < (np : Int)) = true := decide_eq_true (by omega)
        clear hU ho hn Ua Na
        go_wp2_with (with_reducible refine Bench.at_append _ _ _ _ rfl ?_)
        apply Lib.hid
        refine wpList_append_own_at _ rfl _ _ 27 rfl B 28 i0 (.int .u32 0) 1 4 Try.underlying27 Hi.out Hz0.out Hz1.out Hz2.out rfl (by decide) (.slice ag ng cg) ng (lv gl) rfl (own_keep (row_len N0.out.rg Hng.out.symm) ((Below.refl _ _).alloc (Nat.le_refl _) _)) ⟨X0.heap.size, 0, none⟩ 1 1 [.int .u32 y] rfl rfl (cell_one_new _ _ _) (by simp [Value.oneCell']) (by unfold maxLen; omega) (by omega) (by have := N0.out.b0; have := N0.out.bl.size; simp; omega) ?_
        intro v' X r1 r2 _ r4
        obtain ⟨hN, ho⟩ := N0.out.app_g (by rw [lvl]; exact Hng.out.symm) r1 r2 r4
        obtain ⟨ag2, cg2, rfl, _, _⟩ := own_shape r1
        have U5 := Lib.hid (U0.out.only ho (fun j hj e => (N0.out.ob j hj).2.2.2 e))
        obtain ⟨ng2, hng2⟩ : ∃ q, ng + 1 = q := ⟨_, rfl⟩
        have H82 := Lib.hid (show OkW t ∧ t.length ≤ 4 from ord_ok U5.out)
        obtain ⟨gl2, hgl2⟩ : ∃ q, gl ++ [y] = q := ⟨_, rfl⟩
        have Hnp2 := Lib.hid (show np = gl2.length + t.length by have a1 := Hnp.out; rw [← hgl2, List.length_append, List.length_singleton]; rw [List.length_cons] at a1; omega)
        have Hng2 := Lib.hid (show ng2 = gl2.length by have a1 := Hng.out; rw [← hgl2, ← hng2, List.length_append, List.length_singleton]; omega)
        have hg32 : ng2 ≤ np := by omega
        have N5 := Lib.hid (show Two 28 B w X (.slice ap np cp) (.slice ag2 ng2 cg2) (lv (gl2 ++ t)) (lv gl2) O5 by
          rw [← hgl2, ← hng2, show (gl ++ [y]) ++ t = gl ++ y :: t by simp, lv_app gl [y], lv_one]; exact hN)
        rw [hng2]
        clear hN ho r1 r2 r4 U0 N0 e3 e4 m0 m00 m01 hng2 hgl2 Hng hg3
        have cx := CX.out X N5.out.bl
        go_wp2_with fail
        refine (Read_quiet b _ O5 1 X ⟨by omega, by omega⟩ (by decide) U5.out).mono ?_
        rintro e W4 ⟨rfl, hb⟩
        rw [ord_1]
        have N4 := Lib.hid (N5.out.keep hb)
        have U4 := Lib.hid (U5.out.keep hb)
        have cx4 := CX.out W4 N4.out.bl
        obtain ⟨mm, hmm⟩ : ∃ m, (t : List Int).length = m := ⟨_, rfl⟩
        rw [hmm]
        clear hb cx U5 N5
        by_cases h8 : mm < 4
        · have m1 : decide ((mm : Int) < 4) = true := decide_eq_true (by omega)
          have h84 : (t : List Int).length < 4 := by rw [hmm]; exact h8
          clear hmm h8
          go_wp2_with (with_reducible refine Bench.at_append _ _ _ _ rfl ?_)
          apply Lib.hid
          refine wpList_append_own_at _ rfl _ _ 27 rfl B 28 i0 (.int .u32 0) 1 4 Try.underlying27 Hi.out Hz0.out Hz1.out Hz2.out rfl (by decide) (.slice ap np cp) np (lv (gl2 ++ t)) rfl (own_keep (row_len N4.out.rp (by rw [List.length_append]; exact Hnp2.out.symm)) ((Below.refl _ _).alloc (Nat.le_refl _) _)) ⟨W4.heap.size, 0, none⟩ 1 1 [.int .u32 x] rfl rfl (cell_one_new _ _ _) (by simp [Value.oneCell']) (by unfold maxLen; omega) (by omega) (by have := N4.out.b0; have := N4.out.bl.size; simp; omega) ?_
          intro v' X6 r1 r2 _ r4
          obtain ⟨hN, ho⟩ := N4.out.app_p (by rw [lvl, List.length_append]; exact Hnp2.out.symm) r1 r2 r4
          obtain ⟨ap6, cp6, rfl, _, _⟩ := own_shape r1
          obtain ⟨cm6, hcm6⟩ : ∃ q, (t : List Int) ++ [x] = q := ⟨_, rfl⟩
          obtain ⟨np6, hnp6⟩ : ∃ q, np + 1 = q := ⟨_, rfl⟩
          have N66 := Lib.hid (show Two 28 B w X6 (.slice ap6 np6 cp6) (.slice ag2 ng2 cg2) (lv (gl2 ++ cm6)) (lv gl2) O5 by
            rw [← hcm6, ← hnp6, ← List.append_assoc, lv_app (gl2 ++ t) [x], lv_one]; exact hN)
          have U66 := Lib.hid (U4.out.only ho (fun j hj e => (N4.out.ob j hj).2.2.1 e))
          have Hnp6 := Lib.hid (show np6 = gl2.length + cm6.length by have a1 := Hnp2.out; rw [← hcm6, ← hnp6, List.length_append, List.length_singleton]; omega)
          have m2 := Lib.hid (show 0 < cm6.length by rw [← hcm6]; simp)
          have hp6 : np6 ≤ 301 := by omega
          have hq6 : ng2 ≤ np6 := by omega
          have Hle6 := Lib.hid (show np6 ≤ i + 1 by have := Hle.out; omega)
          have Hcm6 := Lib.hid hcm6
          have cx6 := CX.out X6 N66.out.bl
          have Hlo6 := Lib.hid (show lost ≤ i + 1 by have := Hlo.out; omega)
          rw [hnp6]
          clear hN ho r1 r2 r4 U4 N4 m1 hcm6 hnp6 cx4
          go_wp2_with fail
          refine (Write_any b _ O5 0 x X6 ⟨by omega, by omega⟩ hxb U66.out).mono ?_
          rintro e Y ⟨rfl, O6, hU, ho, hn⟩
          rw [ord_in _ _ _ h84, Hcm6.out] at hU
          have N6 := Lib.hid (N66.out.obj ho hn hU.lt)
          have U6 := Lib.hid hU
          clear hU ho hn U66 N66 cx6
          go_wp2_with fail
          refine (Read_quiet b _ O6 3 Y ⟨by omega, by omega⟩ (by decide) U6.out).mono ?_
          rintro e Za ⟨rfl, hb⟩
          rw [ord_3]
          have N7 := Lib.hid (N6.out.keep hb)
          have U7 := Lib.hid (U6.out.keep hb)
          have v1 : ((lost : Int) != (lost : Int)) = false := by simp
          clear hb U6 N6
          go_wp2_with fail
          refine (Read_quiet b _ O6 1 Za ⟨by omega, by omega⟩ (by decide) U7.out).mono ?_
          rintro e Zb ⟨rfl, hb⟩
          rw [ord_1, show (((cm6).length : Nat) : Int) = (np6 : Int) - (ng2 : Int) by have a1 := Hnp6.out; have a2 := Hng2.out; omega]
          have N8 := Lib.hid (N7.out.keep hb)
          have U8 := Lib.hid (U7.out.keep hb)
          have vn : (0 : Int) < (np6 : Int) - (ng2 : Int) ∧ (np6 : Int) - (ng2 : Int) ≤ 4 := by have a1 := Hnp6.out; have a2 := Hng2.out; have a3 := (ord_ok U8.out).2; have a4 : 0 < (cm6).length := m2.out; omega
          have v2 : (((np6 : Int) - (ng2 : Int)) != ((np6 : Int) - (ng2 : Int))) = false := by simp
          have v3 := vn.1
          have v4 := vn.2
          clear hb U7 N7 v1
          go_wp2_with fail
          refine (Line_any b _ O6 Zb U8.out).mono ?_
          rintro e V ⟨rfl, hb⟩
          rw [ord_line, decide_eq_true (show 0 < (cm6).length from m2.out)]
          have U9 := Lib.hid (U8.out.keep hb)
          have N9 := Lib.hid (N8.out.keep hb)
          have v5 : decide ((ng2 : Int) < (np6 : Int)) = true := decide_eq_true (by omega)
          have v6 : decide (ng2 < np6) = true := decide_eq_true (by omega)
          clear hb U8 N8 v2
          go_wp2_with fail
          exact ⟨⟨i + 1, gl2, cm6, lost, O6, by omega, by go_num, rfl, Hlo6.out, by have := Hnp6.out; have := Hle6.out; omega, U9.out, N9.out⟩, by simp [intOf]; omega⟩
        · have m1 : decide ((mm : Int) < 4) = false := decide_eq_false (by omega)
          have h84 : ¬ (t : List Int).length < 4 := by rw [hmm]; exact h8
          have Hc := Lib.hid (show 0 < (t : List Int).length by omega)
          clear hmm h8
          go_wp2_with fail
          refine (Write_any b _ O5 0 x W4 ⟨by omega, by omega⟩ hxb U4.out).mono ?_
          rintro e Y ⟨rfl, O6, hU, ho, hn⟩
          rw [ord_full _ _ _ h84 (by omega)] at hU
          have N6 := Lib.hid (N4.out.obj ho hn hU.lt)
          obtain ⟨lost6, hl6⟩ : ∃ q, lost + 1 = q := ⟨_, rfl⟩
          have U6 := Lib.hid (show Box Y b (ordX (t : List Int) lost6) O6 by rw [← hl6]; exact hU)
          have hl63 : lost6 ≤ 301 := by omega
          have Hlo6 := Lib.hid (show lost6 ≤ i + 1 by have := Hlo.out; omega)
          rw [show (lost : Int) + 1 = (lost6 : Int) by omega]
          clear hU ho hn U4 N4 m1 hl6 cx4
          go_wp2_with fail
          refine (Read_quiet b _ O6 3 Y ⟨by omega, by omega⟩ (by decide) U6.out).mono ?_
          rintro e Za ⟨rfl, hb⟩
          rw [ord_3]
          have N7 := Lib.hid (N6.out.keep hb)
          have U7 := Lib.hid (U6.out.keep hb)
          have v1 : ((lost6 : Int) != (lost6 : Int)) = false := by simp
          clear hb U6 N6
          go_wp2_with fail
          refine (Read_quiet b _ O6 1 Za ⟨by omega, by omega⟩ (by decide) U7.out).mono ?_
          rintro e Zb ⟨rfl, hb⟩
          rw [ord_1, show ((((t : List Int)).length : Nat) : Int) = (np : Int) - (ng2 : Int) by have a1 := Hnp2.out; have a2 := Hng2.out; omega]
          have N8 := Lib.hid (N7.out.keep hb)
          have U8 := Lib.hid (U7.out.keep hb)
          have vn : (0 : Int) < (np : Int) - (ng2 : Int) ∧ (np : Int) - (ng2 : Int) ≤ 4 := by have a1 := Hnp2.out; have a2 := Hng2.out; have a3 := (ord_ok U8.out).2; have a4 : 0 < ((t : List Int)).length := Hc.out; omega
          have v2 : (((np : Int) - (ng2 : Int)) != ((np : Int) - (ng2 : Int))) = false := by simp
          have v3 := vn.1
          have v4 := vn.2
          clear hb U7 N7 v1
          go_wp2_with fail
          refine (Line_any b _ O6 Zb U8.out).mono ?_
          rintro e V ⟨rfl, hb⟩
          rw [ord_line, decide_eq_true (show 0 < ((t : List Int)).length from Hc.out)]
          have U9 := Lib.hid (U8.out.keep hb)
          have N9 := Lib.hid (N8.out.keep hb)
          have v5 : decide ((ng2 : Int) < (np : Int)) = true := decide_eq_true (by omega)
          have v6 : decide (ng2 < np) = true := decide_eq_true (by omega)
          clear hb U8 N8 v2
          go_wp2_with fail
          exact ⟨⟨i + 1, gl2, (t : List Int), lost6, O6, by omega, by go_num, rfl, Hlo6.out, by have := Hnp2.out; have := Hle.out; omega, U9.out, N9.out⟩, by simp [intOf]; omega⟩
    · have d2 : (i < len2 → rs[i]! = false) := fun h => by
        cases e : rs[i]! with
        | false => rfl
        | true => exact absurd ⟨h, e⟩ hrd
      have cx := CX.out wr N.out.bl
      clear hrd
      by_cases hr1 : i < len2
      · obtain ⟨rb, roff, rfl, hcr⟩ := Hr.out.2 i hr1
        rw [d2 hr1] at hcr
        have hcr := cell_keep (by rw [HB.out]; exact N.out.bl) hcr
        have d3 : decide ((i : Int) < (len2 : Int)) = true := decide_eq_true (by omega)
        have i3 : (i : Int) < (len2 : Int) := by omega
        clear d2
        go_wp2_with fail
        refine (Read_quiet b _ O 1 wr ⟨by omega, by omega⟩ (by decide) U.out).mono ?_
        rintro e W4 ⟨rfl, hb⟩
        rw [ord_1]
        have N4 := Lib.hid (N.out.keep hb)
        have U4 := Lib.hid (U.out.keep hb)
        have cx4 := CX.out W4 N4.out.bl
        obtain ⟨mm, hmm⟩ : ∃ m, (cm : List Int).length = m := ⟨_, rfl⟩
        rw [hmm]
        clear hb cx U N
        by_cases h8 : mm < 4
        · have m1 : decide ((mm : Int) < 4) = true := decide_eq_true (by omega)
          have h84 : (cm : List Int).length < 4 := by rw [hmm]; exact h8
          clear hmm h8
          go_wp2_with (with_reducible refine Bench.at_append _ _ _ _ rfl ?_)
          apply Lib.hid
          refine wpList_append_own_at _ rfl _ _ 27 rfl B 28 i0 (.int .u32 0) 1 4 Try.underlying27 Hi.out Hz0.out Hz1.out Hz2.out rfl (by decide) (.slice ap np cp) np (lv (gl ++ cm)) rfl (own_keep (row_len N4.out.rp (by rw [List.length_append]; exact Hnp.out.symm)) ((Below.refl _ _).alloc (Nat.le_refl _) _)) ⟨W4.heap.size, 0, none⟩ 1 1 [.int .u32 x] rfl rfl (cell_one_new _ _ _) (by simp [Value.oneCell']) (by unfold maxLen; omega) (by omega) (by have := N4.out.b0; have := N4.out.bl.size; simp; omega) ?_
          intro v' X6 r1 r2 _ r4
          obtain ⟨hN, ho⟩ := N4.out.app_p (by rw [lvl, List.length_append]; exact Hnp.out.symm) r1 r2 r4
          obtain ⟨ap6, cp6, rfl, _, _⟩ := own_shape r1
          obtain ⟨cm6, hcm6⟩ : ∃ q, (cm : List Int) ++ [x] = q := ⟨_, rfl⟩
          obtain ⟨np6, hnp6⟩ : ∃ q, np + 1 = q := ⟨_, rfl⟩
          have N66 := Lib.hid (show Two 28 B w X6 (.slice ap6 np6 cp6) (.slice ag ng cg) (lv (gl ++ cm6)) (lv gl) O by
            rw [← hcm6, ← hnp6, ← List.append_assoc, lv_app (gl ++ cm) [x], lv_one]; exact hN)
          have U66 := Lib.hid (U4.out.only ho (fun j hj e => (N4.out.ob j hj).2.2.1 e))
          have Hnp6 := Lib.hid (show np6 = gl.length + cm6.length by have a1 := Hnp.out; rw [← hcm6, ← hnp6, List.length_append, List.length_singleton]; omega)
          have m2 := Lib.hid (show 0 < cm6.length by rw [← hcm6]; simp)
          have hp6 : np6 ≤ 301 := by omega
          have hq6 : ng ≤ np6 := by omega
          have Hle6 := Lib.hid (show np6 ≤ i + 1 by have := Hle.out; omega)
          have Hcm6 := Lib.hid hcm6
          have cx6 := CX.out X6 N66.out.bl
          have Hlo6 := Lib.hid (show lost ≤ i + 1 by have := Hlo.out; omega)
          rw [hnp6]
          clear hN ho r1 r2 r4 U4 N4 m1 hcm6 hnp6 cx4
          go_wp2_with fail
          refine (Write_any b _ O 0 x X6 ⟨by omega, by omega⟩ hxb U66.out).mono ?_
          rintro e Y ⟨rfl, O6, hU, ho, hn⟩
          rw [ord_in _ _ _ h84, Hcm6.out] at hU
          have N6 := Lib.hid (N66.out.obj ho hn hU.lt)
          have U6 := Lib.hid hU
          clear hU ho hn U66 N66 cx6
          go_wp2_with fail
          refine (Read_quiet b _ O6 3 Y ⟨by omega, by omega⟩ (by decide) U6.out).mono ?_
          rintro e Za ⟨rfl, hb⟩
          rw [ord_3]
          have N7 := Lib.hid (N6.out.keep hb)
          have U7 := Lib.hid (U6.out.keep hb)
          have v1 : ((lost : Int) != (lost : Int)) = false := by simp
          clear hb U6 N6
          go_wp2_with fail
          refine (Read_quiet b _ O6 1 Za ⟨by omega, by omega⟩ (by decide) U7.out).mono ?_
          rintro e Zb ⟨rfl, hb⟩
          rw [ord_1, show (((cm6).length : Nat) : Int) = (np6 : Int) - (ng : Int) by have a1 := Hnp6.out; have a2 := Hng.out; omega]
          have N8 := Lib.hid (N7.out.keep hb)
          have U8 := Lib.hid (U7.out.keep hb)
          have vn : (0 : Int) < (np6 : Int) - (ng : Int) ∧ (np6 : Int) - (ng : Int) ≤ 4 := by have a1 := Hnp6.out; have a2 := Hng.out; have a3 := (ord_ok U8.out).2; have a4 : 0 < (cm6).length := m2.out; omega
          have v2 : (((np6 : Int) - (ng : Int)) != ((np6 : Int) - (ng : Int))) = false := by simp
          have v3 := vn.1
          have v4 := vn.2
          clear hb U7 N7 v1
          go_wp2_with fail
          refine (Line_any b _ O6 Zb U8.out).mono ?_
          rintro e V ⟨rfl, hb⟩
          rw [ord_line, decide_eq_true (show 0 < (cm6).length from m2.out)]
          have U9 := Lib.hid (U8.out.keep hb)
          have N9 := Lib.hid (N8.out.keep hb)
          have v5 : decide ((ng : Int) < (np6 : Int)) = true := decide_eq_true (by omega)
          have v6 : decide (ng < np6) = true := decide_eq_true (by omega)
          clear hb U8 N8 v2
          go_wp2_with fail
          exact ⟨⟨i + 1, gl, cm6, lost, O6, by omega, by go_num, rfl, Hlo6.out, by have := Hnp6.out; have := Hle6.out; omega, U9.out, N9.out⟩, by simp [intOf]; omega⟩
        · have m1 : decide ((mm : Int) < 4) = false := decide_eq_false (by omega)
          have h84 : ¬ (cm : List Int).length < 4 := by rw [hmm]; exact h8
          have Hc := Lib.hid (show 0 < (cm : List Int).length by omega)
          clear hmm h8
          go_wp2_with fail
          refine (Write_any b _ O 0 x W4 ⟨by omega, by omega⟩ hxb U4.out).mono ?_
          rintro e Y ⟨rfl, O6, hU, ho, hn⟩
          rw [ord_full _ _ _ h84 (by omega)] at hU
          have N6 := Lib.hid (N4.out.obj ho hn hU.lt)
          obtain ⟨lost6, hl6⟩ : ∃ q, lost + 1 = q := ⟨_, rfl⟩
          have U6 := Lib.hid (show Box Y b (ordX (cm : List Int) lost6) O6 by rw [← hl6]; exact hU)
          have hl63 : lost6 ≤ 301 := by omega
          have Hlo6 := Lib.hid (show lost6 ≤ i + 1 by have := Hlo.out; omega)
          rw [show (lost : Int) + 1 = (lost6 : Int) by omega]
          clear hU ho hn U4 N4 m1 hl6 cx4
          go_wp2_with fail
          refine (Read_quiet b _ O6 3 Y ⟨by omega, by omega⟩ (by decide) U6.out).mono ?_
          rintro e Za ⟨rfl, hb⟩
          rw [ord_3]
          have N7 := Lib.hid (N6.out.keep hb)
          have U7 := Lib.hid (U6.out.keep hb)
          have v1 : ((lost6 : Int) != (lost6 : Int)) = false := by simp
          clear hb U6 N6
          go_wp2_with fail
          refine (Read_quiet b _ O6 1 Za ⟨by omega, by omega⟩ (by decide) U7.out).mono ?_
          rintro e Zb ⟨rfl, hb⟩
          rw [ord_1, show ((((cm : List Int)).length : Nat) : Int) = (np : Int) - (ng : Int) by have a1 := Hnp.out; have a2 := Hng.out; omega]
          have N8 := Lib.hid (N7.out.keep hb)
          have U8 := Lib.hid (U7.out.keep hb)
          have vn : (0 : Int) < (np : Int) - (ng : Int) ∧ (np : Int) - (ng : Int) ≤ 4 := by have a1 := Hnp.out; have a2 := Hng.out; have a3 := (ord_ok U8.out).2; have a4 : 0 < ((cm : List Int)).length := Hc.out; omega
          have v2 : (((np : Int) - (ng : Int)) != ((np : Int) - (ng : Int))) = false := by simp
          have v3 := vn.1
          have v4 := vn.2
          clear hb U7 N7 v1
          go_wp2_with fail
          refine (Line_any b _ O6 Zb U8.out).mono ?_
          rintro e V ⟨rfl, hb⟩
          rw [ord_line, decide_eq_true (show 0 < ((cm : List Int)).length from Hc.out)]
          have U9 := Lib.hid (U8.out.keep hb)
          have N9 := Lib.hid (N8.out.keep hb)
          have v5 : decide ((ng : Int) < (np : Int)) = true := decide_eq_true (by omega)
          have v6 : decide (ng < np) = true := decide_eq_true (by omega)
          clear hb U8 N8 v2
          go_wp2_with fail
          exact ⟨⟨i + 1, gl, (cm : List Int), lost6, O6, by omega, by go_num, rfl, Hlo6.out, by have := Hnp.out; have := Hle.out; omega, U9.out, N9.out⟩, by simp [intOf]; omega⟩
      · have d3 : decide ((i : Int) < (len2 : Int)) = false := decide_eq_false (by omega)
        clear d2
        go_wp2_with fail
        refine (Read_quiet b _ O 1 wr ⟨by omega, by omega⟩ (by decide) U.out).mono ?_
        rintro e W4 ⟨rfl, hb⟩
        rw [ord_1]
        have N4 := Lib.hid (N.out.keep hb)
        have U4 := Lib.hid (U.out.keep hb)
        have cx4 := CX.out W4 N4.out.bl
        obtain ⟨mm, hmm⟩ : ∃ m, (cm : List Int).length = m := ⟨_, rfl⟩
        rw [hmm]
        clear hb cx U N
        by_cases h8 : mm < 4
        · have m1 : decide ((mm : Int) < 4) = true := decide_eq_true (by omega)
          have h84 : (cm : List Int).length < 4 := by rw [hmm]; exact h8
          clear hmm h8
          go_wp2_with (with_reducible refine Bench.at_append _ _ _ _ rfl ?_)
          apply Lib.hid
          refine wpList_append_own_at _ rfl _ _ 27 rfl B 28 i0 (.int .u32 0) 1 4 Try.underlying27 Hi.out Hz0.out Hz1.out Hz2.out rfl (by decide) (.slice ap np cp) np (lv (gl ++ cm)) rfl (own_keep (row_len N4.out.rp (by rw [List.length_append]; exact Hnp.out.symm)) ((Below.refl _ _).alloc (Nat.le_refl _) _)) ⟨W4.heap.size, 0, none⟩ 1 1 [.int .u32 x] rfl rfl (cell_one_new _ _ _) (by simp [Value.oneCell']) (by unfold maxLen; omega) (by omega) (by have := N4.out.b0; have := N4.out.bl.size; simp; omega) ?_
          intro v' X6 r1 r2 _ r4
          obtain ⟨hN, ho⟩ := N4.out.app_p (by rw [lvl, List.length_append]; exact Hnp.out.symm) r1 r2 r4
          obtain ⟨ap6, cp6, rfl, _, _⟩ := own_shape r1
          obtain ⟨cm6, hcm6⟩ : ∃ q, (cm : List Int) ++ [x] = q := ⟨_, rfl⟩
          obtain ⟨np6, hnp6⟩ : ∃ q, np + 1 = q := ⟨_, rfl⟩
          have N66 := Lib.hid (show Two 28 B w X6 (.slice ap6 np6 cp6) (.slice ag ng cg) (lv (gl ++ cm6)) (lv gl) O by
            rw [← hcm6, ← hnp6, ← List.append_assoc, lv_app (gl ++ cm) [x], lv_one]; exact hN)
          have U66 := Lib.hid (U4.out.only ho (fun j hj e => (N4.out.ob j hj).2.2.1 e))
          have Hnp6 := Lib.hid (show np6 = gl.length + cm6.length by have a1 := Hnp.out; rw [← hcm6, ← hnp6, List.length_append, List.length_singleton]; omega)
          have m2 := Lib.hid (show 0 < cm6.length by rw [← hcm6]; simp)
          have hp6 : np6 ≤ 301 := by omega
          have hq6 : ng ≤ np6 := by omega
          have Hle6 := Lib.hid (show np6 ≤ i + 1 by have := Hle.out; omega)
          have Hcm6 := Lib.hid hcm6
          have cx6 := CX.out X6 N66.out.bl
          have Hlo6 := Lib.hid (show lost ≤ i + 1 by have := Hlo.out; omega)
          rw [hnp6]
          clear hN ho r1 r2 r4 U4 N4 m1 hcm6 hnp6 cx4
          go_wp2_with fail
          refine (Write_any b _ O 0 x X6 ⟨by omega, by omega⟩ hxb U66.out).mono ?_
          rintro e Y ⟨rfl, O6, hU, ho, hn⟩
          rw [ord_in _ _ _ h84, Hcm6.out] at hU
          have N6 := Lib.hid (N66.out.obj ho hn hU.lt)
          have U6 := Lib.hid hU
          clear hU ho hn U66 N66 cx6
          go_wp2_with fail
          refine (Read_quiet b _ O6 3 Y ⟨by omega, by omega⟩ (by decide) U6.out).mono ?_
          rintro e Za ⟨rfl, hb⟩
          rw [ord_3]
          have N7 := Lib.hid (N6.out.keep hb)
          have U7 := Lib.hid (U6.out.keep hb)
          have v1 : ((lost : Int) != (lost : Int)) = false := by simp
          clear hb U6 N6
          go_wp2_with fail
          refine (Read_quiet b _ O6 1 Za ⟨by omega, by omega⟩ (by decide) U7.out).mono ?_
          rintro e Zb ⟨rfl, hb⟩
          rw [ord_1, show (((cm6).length : Nat) : Int) = (np6 : Int) - (ng : Int) by have a1 := Hnp6.out; have a2 := Hng.out; omega]
          have N8 := Lib.hid (N7.out.keep hb)
          have U8 := Lib.hid (U7.out.keep hb)
          have vn : (0 : Int) < (np6 : Int) - (ng : Int) ∧ (np6 : Int) - (ng : Int) ≤ 4 := by have a1 := Hnp6.out; have a2 := Hng.out; have a3 := (ord_ok U8.out).2; have a4 : 0 < (cm6).length := m2.out; omega
          have v2 : (((np6 : Int) - (ng : Int)) != ((np6 : Int) - (ng : Int))) = false := by simp
          have v3 := vn.1
          have v4 := vn.2
          clear hb U7 N7 v1
          go_wp2_with fail
          refine (Line_any b _ O6 Zb U8.out).mono ?_
          rintro e V ⟨rfl, hb⟩
          rw [ord_line, decide_eq_true (show 0 < (cm6).length from m2.out)]
          have U9 := Lib.hid (U8.out.keep hb)
          have N9 := Lib.hid (N8.out.keep hb)
          have v5 : decide ((ng : Int) < (np6 : Int)) = true := decide_eq_true (by omega)
          have v6 : decide (ng < np6) = true := decide_eq_true (by omega)
          clear hb U8 N8 v2
          go_wp2_with fail
          exact ⟨⟨i + 1, gl, cm6, lost, O6, by omega, by go_num, rfl, Hlo6.out, by have := Hnp6.out; have := Hle6.out; omega, U9.out, N9.out⟩, by simp [intOf]; omega⟩
        · have m1 : decide ((mm : Int) < 4) = false := decide_eq_false (by omega)
          have h84 : ¬ (cm : List Int).length < 4 := by rw [hmm]; exact h8
          have Hc := Lib.hid (show 0 < (cm : List Int).length by omega)
          clear hmm h8
          go_wp2_with fail
          refine (Write_any b _ O 0 x W4 ⟨by omega, by omega⟩ hxb U4.out).mono ?_
          rintro e Y ⟨rfl, O6, hU, ho, hn⟩
          rw [ord_full _ _ _ h84 (by omega)] at hU
          have N6 := Lib.hid (N4.out.obj ho hn hU.lt)
          obtain ⟨lost6, hl6⟩ : ∃ q, lost + 1 = q := ⟨_, rfl⟩
          have U6 := Lib.hid (show Box Y b (ordX (cm : List Int) lost6) O6 by rw [← hl6]; exact hU)
          have hl63 : lost6 ≤ 301 := by omega
          have Hlo6 := Lib.hid (show lost6 ≤ i + 1 by have := Hlo.out; omega)
          rw [show (lost : Int) + 1 = (lost6 : Int) by omega]
          clear hU ho hn U4 N4 m1 hl6 cx4
          go_wp2_with fail
          refine (Read_quiet b _ O6 3 Y ⟨by omega, by omega⟩ (by decide) U6.out).mono ?_
          rintro e Za ⟨rfl, hb⟩
          rw [ord_3]
          have N7 := Lib.hid (N6.out.keep hb)
          have U7 := Lib.hid (U6.out.keep hb)
          have v1 : ((lost6 : Int) != (lost6 : Int)) = false := by simp
          clear hb U6 N6
          go_wp2_with fail
          refine (Read_quiet b _ O6 1 Za ⟨by omega, by omega⟩ (by decide) U7.out).mono ?_
          rintro e Zb ⟨rfl, hb⟩
          rw [ord_1, show ((((cm : List Int)).length : Nat) : Int) = (np : Int) - (ng : Int) by have a1 := Hnp.out; have a2 := Hng.out; omega]
          have N8 := Lib.hid (N7.out.keep hb)
          have U8 := Lib.hid (U7.out.keep hb)
          have vn : (0 : Int) < (np : Int) - (ng : Int) ∧ (np : Int) - (ng : Int) ≤ 4 := by have a1 := Hnp.out; have a2 := Hng.out; have a3 := (ord_ok U8.out).2; have a4 : 0 < ((cm : List Int)).length := Hc.out; omega
          have v2 : (((np : Int) - (ng : Int)) != ((np : Int) - (ng : Int))) = false := by simp
          have v3 := vn.1
          have v4 := vn.2
          clear hb U7 N7 v1
          go_wp2_with fail
          refine (Line_any b _ O6 Zb U8.out).mono ?_
          rintro e V ⟨rfl, hb⟩
          rw [ord_line, decide_eq_true (show 0 < ((cm : List Int)).length from Hc.out)]
          have U9 := Lib.hid (U8.out.keep hb)
          have N9 := Lib.hid (N8.out.keep hb)
          have v5 : decide ((ng : Int) < (np : Int)) = true := decide_eq_true (by omega)
          have v6 : decide (ng < np) = true := decide_eq_true (by omega)
          clear hb U8 N8 v2
          go_wp2_with fail
          exact ⟨⟨i + 1, gl, (cm : List Int), lost6, O6, by omega, by go_num, rfl, Hlo6.out, by have := Hnp.out; have := Hle.out; omega, U9.out, N9.out⟩, by simp [intOf]; omega⟩
  · have d1 : decide ((i : Int) < (len : Int)) = false := decide_eq_false (by omega)
    have d2 : decide (i < len) = false := decide_eq_false hlt
    go_wp2_with fail
    refine (State_any b _ O wr U.out).mono ?_
    rintro e X ⟨⟨sa, sc, rfl, hso⟩, hb⟩
    obtain ⟨m, hm⟩ : ∃ m, cm.length = m := ⟨_, rfl⟩
    have Hm := Lib.hid hm
    have hm4 : m ≤ 4 := by rw [← hm]; exact H8.out.2
    rw [show (ordX cm lost).W.length = m from hm] at hso ⊢
    have NX := Lib.hid (N.out.keep hb)
    have RS := Lib.hid (show X.ownsRow wr.heap.size 28 1 (.slice sa m sc) m (lv cm) from hso)
    have hno : sa = none → m = 0 ∧ sc = 0 := fun e => own_none hso e
    obtain ⟨g, hg⟩ : ∃ g, X.heap.size = g := ⟨_, rfl⟩
    clear hso hb hm N U
    go_wp2_with (with_reducible refine at_store _ _ _ rfl ?_)
    refine Lib.hid ?_
    have hnew := Blk.new X 37 [.slice none 0 0, .int .u32 0, .int .u32 0]
    rw [hg] at hnew
    refine store_all rfl _ _ _ rfl g [.slice sa m sc, .int .u32 (ordX cm lost).C, .int .u32 (ordX cm lost).L] rfl rfl _ _ hnew (by kernel_rfl) rfl (by simp [Value.oneCell']) ?_
    intro Y hX hoX
    have hal := (Below.refl X.heap.size X).alloc (Nat.le_refl _) (.cells #[.slice none 0 0, .int .u32 0, .int .u32 0] 37)
    have hbX : Below X.heap.size X Y := hal.trans (hoX.below hal.size (fun j e => by rw [e, ← hg]; exact Nat.le_refl _))
    have NY := Lib.hid (NX.out.keep hbX)
    have RY := Lib.hid (own_keep RS.out hbX)
    have AY := Lib.hid hX
    have HG := Lib.hid hg
    have d5 := hX.at 0 rfl
    clear hX hoX hal hbX hnew hg NX RS
    go_wp2_with (with_reducible refine Bench.at_append _ _ _ _ rfl ?_)
    apply Lib.hid
    refine Bench.wpList_append_any _ rfl _ _ 27 rfl B 28 i0 (.int .u32 0) 1 4 Try.underlying27 Hi.out Hz0.out Hz1.out Hz2.out rfl (by decide) (.slice ag ng cg) ng (lv gl) rfl (row_len NY.out.rg Hng.out.symm) sa m sc (lv cm) rfl (by rw [lvl, Hm.out]; omega) hno (fun ad e => own_cells RY.out ad e) (by simp [lv, Value.oneCell']) (by unfold maxLen; omega) (by omega) (by have := NY.out.b0; have := NY.out.bl.size; omega) ?_
    intro v' Z r1 r2
    have ho : Only (PB (.slice ag ng cg)) Y Z := grown_only r2
    have RP := Lib.hid (show Z.ownsRow B 28 1 (.slice ap np cp) np (lv (gl ++ cm)) from row_len (NY.out.rp.only ho (fun j hj e => NY.out.ap j hj e)) (by rw [List.length_append]; exact Hnp.out.symm))
    have RG := Lib.hid (show Z.ownsRow B 28 1 v' np (lv (gl ++ cm)) by
      rw [lv_app, show np = ng + m by have a1 := Hnp.out; have a2 := Hng.out; have a3 := Hm.out; omega]
      exact r1)
    have hgn : ¬ PB (.slice ag ng cg) g := fun e => by
      have h1 := AY.out
      rcases (row_len NY.out.rg Hng.out.symm).2 with ⟨h2, _⟩ | ⟨g', cap', cur, h2, _, h3, _⟩
      · rw [h2] at e; simp [PB, Value.ownBlock] at e
      · rw [h2] at e
        simp only [PB, Value.ownBlock, Option.some.injEq] at e
        subst e
        unfold Fifo.Blk at h1
        rw [h1] at h3
        simp only [Option.some.injEq, Obj.cells.injEq] at h3
        exact absurd h3.2.1 (by decide)
    have d6 := only_cell ho hgn d5
    have BZ := Lib.hid (NY.out.bl.trans (ho.below (by have := NY.out.b0; have := NY.out.bl.size; omega) (fun j hj => (NY.out.rg.at j hj).1)))
    obtain ⟨ag9, cg9, rfl, _, _⟩ := own_shape RG.out
    have m1 : decide ((m : Int) ≤ 4) = true := decide_eq_true (by omega)
    have m2 : decide (m ≤ 4) = true := decide_eq_true hm4
    clear r1 r2 ho d5 hgn NY RY AY
    go_wp2_with fail
    refine (same_own RP.out RG.out (by omega)).mono ?_
    rintro e Z2 ⟨rfl, hb⟩
    have d7 := cell_keep hb d6
    have BZ2 := Lib.hid (BZ.out.trans (hb.mono (by rw [← HB.out]; exact BZ.out.size)))
    clear hb d6
    go_wp2_with fail
    go_ret
    exact ⟨rfl, by rw [HB.out]; exact BZ2.out⟩
end Go.Proofs.Ytkcghcoacjpbkaa.Mbox
