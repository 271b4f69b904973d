/- same: a uart is the document's. -/
import Derived.Test.YthdcealhhmfgcaaQp
namespace Go.Proofs.Ythdcealhhmfgcaa.Uart
open Go.RowKit Go.Maps Go.ChangeShapes Go.WideShapes Go.ChangeAt Fifo Orow Word OffB
open Bench (RowO)
set_option linter.unusedVariables false

theorem off_cells {w : World} {g off n c : Nat} {l : List Int} (h : Off w (.slice (some ⟨g, off, none⟩) n c) (bv l)) (hn : l.length = n) : ∀ i, i < n → w.cell? ⟨g, off + i, none⟩ = some (.int .u8 (l.getD i 0)) := fun i hi => by
  rcases h with ⟨h1, _⟩ | ⟨g', off', cap, cs, h1, hb, r1, r2, r3⟩
  · cases h1
  · simp only [Value.slice.injEq, Option.some.injEq, Addr.mk.injEq, and_true] at h1
    obtain ⟨⟨rfl, rfl⟩, _, rfl⟩ := h1
    rw [hb.cell, r3 i (by rw [bvl]; omega)]
    simp [bv, List.getD_eq_getElem?_getD, show i < l.length by omega]
/-- An own row and a slice of the same bytes are the same. -/
theorem same_off {w : World} {B n c c' : Nat} {a a' : Option Addr} {l : List Int} (h : w.ownsRow B 5 1 (.slice a n c) n (bv l)) (h' : Off w (.slice a' n c') (bv l)) (hn : l.length = n) (hn2 : n ≤ 4096) :
    Calls Try.prog 24 #[.slice a n c, .slice a' n c'] w fun e w' => e = .returned (.bool true) ∧ Below w.heap.size w w' := by
  by_cases h0 : n = 0
  · subst h0
    exact Bench.same_none a a' c c' w
  · obtain ⟨g, rfl⟩ := own_some h (.inl (by omega))
    have hne : bv l ≠ [] := fun e => by have := congrArg List.length e; rw [bvl, List.length_nil] at this; omega
    obtain ⟨g', off, cap, e, _⟩ := h'.lies hne
    simp only [Value.slice.injEq] at e
    obtain ⟨rfl, _, rfl⟩ := e
    refine (Word.same_bytes g 0 g' off n c c' l l w (by omega) hn hn (fun i hi => by rw [Nat.zero_add]; exact Bench.own_bytes h hn i hi) (off_cells h' hn)).mono ?_
    rintro e w' ⟨rfl, j, rfl⟩
    exact ⟨by rw [Bench.eqB_self], Fifo.below_drewN w j⟩
/-- From X on nothing has turned but the uart's own, and it has what it had. -/
def Zed (b : Nat) (u : Un) (O : Nat → Prop) (X w : World) : Prop := Only O X w ∧ ∃ O', Uar w b u O' ∧ ∀ j, O' j → O j ∨ X.heap.size ≤ j
theorem Zed.keep {b : Nat} {u : Un} {O : Nat → Prop} {X w w' : World} (h : Zed b u O X w) (hb : Below w.heap.size w w') : Zed b u O X w' := by
  obtain ⟨h1, O', h2, h3⟩ := h
  exact ⟨h1.trans (Only.of_below hb), O', h2.keep hb, h3⟩
theorem Zed.line {b : Nat} {u : Un} {O : Nat → Prop} {X w : World} (h : Zed b u O X w) :
    Calls Try.prog 22 #[.pointer (some ⟨b, 0, none⟩)] w fun e w' => e = .returned (.bool (lineU u)) ∧ Zed b u O X w' := by
  obtain ⟨O', h2, h3⟩ := h.2
  refine (Line_any b u O' w h2).mono ?_
  rintro e w' ⟨rfl, hb⟩
  exact ⟨rfl, h.keep hb⟩
theorem Zed.read {b : Nat} {u : Un} {O : Nat → Prop} {X w : World} (h : Zed b u O X w) :
    Calls Try.prog 10 #[.pointer (some ⟨b, 0, none⟩), .int .i64 1] w fun e w' => e = .returned (.int .u32 (flagsU u)) ∧ Zed b u O X w' := by
  obtain ⟨h1, O', h2, h3⟩ := h
  refine (Read_any b u O' 1 w ⟨by omega, by omega⟩ h2).mono ?_
  rw [read_1]
  rintro e w' ⟨rfl, O5, k1, k2, k3⟩
  exact ⟨rfl, h1.far k2 (fun j hj o => (h3 j o).elim id (fun e => by omega)), O5, k1, fun j hj => (k3 j hj).elim (h3 j) (fun e => .inr (Nat.le_trans h1.size e))⟩
set_option maxRecDepth 100000 in
set_option maxHeartbeats 8000000 in
theorem same_pair (K : Nat → Prop) (b r : Nat) (u : Un) (w : World) (h : PairU K w b r u u) :
    Calls Try.prog 19 #[.pointer (some ⟨b, 0, none⟩), .pointer (some ⟨r, 0, none⟩)] w fun e w' => e = .returned (.bool true) ∧ PairU K w' b r u u ∧ Only (fun j => ¬ K j) w w' := by
  have HST := Lib.hid (state_pair K b r _ _ w h)
  obtain ⟨O, P5, hU, ⟨va, vb, hr, hP⟩, k1, k2, k3⟩ := h
  obtain ⟨ra, rc, hva⟩ := hr.came.shape
  obtain ⟨ra2, rc2, hvb⟩ := hr.goes.shape
  subst hva hvb
  have hlt := hU.lt
  obtain ⟨Cm, Gs, LI, LO, C, P⟩ := u
  have ok1 := hr.ok.came.2
  have ok2 := hr.ok.goes.2
  obtain ⟨nc, hnc⟩ : ∃ n, Cm.length = n := ⟨_, rfl⟩
  obtain ⟨ng, hng⟩ : ∃ n, Gs.length = n := ⟨_, rfl⟩
  have HD := hr.head
  have F1 := hr.came
  have F2 := hr.goes
  simp only [bvl, hnc, hng] at HD F1 F2 ok1 ok2
  have HD := Lib.hid HD
  have F1 := Lib.hid F1
  have F2 := Lib.hid F2
  have Hnc := Lib.hid hnc
  have Hng := Lib.hid hng
  have hOr : ¬ O r := fun e => (k1 r e).2 (by rw [hP]; exact .inl rfl)
  have hOa : ∀ j, PB (.slice ra nc rc) j → ¬ O j := fun j hj e => (k1 j e).2 (by rw [hP]; refine .inr (.inl ?_); rw [bvl]; simp only [hnc]; exact hj)
  have hOb : ∀ j, PB (.slice ra2 ng rc2) j → ¬ O j := fun j hj e => (k1 j e).2 (by rw [hP]; refine .inr (.inr ?_); rw [bvl]; simp only [hng]; exact hj)
  have HU := Lib.hid hU
  have HR := Lib.hid (show RefU w r ⟨Cm, Gs, LI, LO, C, P⟩ P5 from ⟨_, _, hr, hP⟩)
  have HK := Lib.hid (And.intro k1 (And.intro k2 k3))
  have Hlt := Lib.hid hlt
  have HOr := Lib.hid hOr
  have HOa := Lib.hid hOa
  have HOb := Lib.hid hOb
  clear hU hr hP k1 k2 k3 hlt hnc hng hOr hOa hOb
  go_enter Try.func19, Try.ntmps19
  go_wp2_with fail
  refine HST.out.mono ?_
  rintro e w1 ⟨⟨a1, c1, a2, c2, rfl, ho1, ho2, hpb⟩, hb⟩
  have O1 := Lib.hid hb
  simp only [Hnc.out, Hng.out] at ho1 ho2 ⊢
  have R1 := Lib.hid ho1
  have R2 := Lib.hid ho2
  obtain ⟨g, hg⟩ : ∃ g, w1.heap.size = g := ⟨_, rfl⟩
  clear ho1 hpb ho2 hb HST
  go_wp2_with (with_reducible refine at_store _ _ _ rfl ?_)
  refine Lib.hid ?_
  have hnew := Blk.new w1 40 [.slice none 0 0, .slice none 0 0, .bool false, .bool false, .int .u32 0, .int .i64 0]
  rw [hg] at hnew
  refine store_all rfl _ _ _ rfl g [.slice a1 nc c1, .slice a2 ng c2, .bool LI, .bool LO, .int .u32 C, .int .i64 P] rfl rfl _ _ hnew (by kernel_rfl) rfl (by simp [Value.oneCell']) ?_
  intro X hX hoX
  have hal := (Below.refl w1.heap.size w1).alloc (Nat.le_refl _) (.cells #[.slice none 0 0, .slice none 0 0, .bool false, .bool false, .int .u32 0, .int .i64 0] 40)
  have hbX : Below w1.heap.size w1 X := hal.trans (hoX.below hal.size (fun j e => by rw [e, ← hg]; exact Nat.le_refl _))
  have OX := Lib.hid (O1.out.trans (hbX.mono O1.out.size))
  have hgO : ¬ O g := fun e => by have := Hlt.out g e; have := O1.out.size; omega
  have RX1 := own_keep R1.out hbX
  have RX2 := own_keep R2.out hbX
  have hZ : Zed b ⟨Cm, Gs, LI, LO, C, P⟩ O X X := ⟨Only.refl _ _, O, HU.out.keep OX.out, fun j hj => .inl hj⟩
  have HRX := HR.out.keep OX.out
  have HSB := Lib.hid (fun W x y (hz : Zed b ⟨Cm, Gs, LI, LO, C, P⟩ O X W) (hxy : (x = .slice a1 nc c1 ∧ y = .slice ra nc rc) ∨ (x = .slice a2 ng c2 ∧ y = .slice ra2 ng rc2)) => show
      Calls Try.prog 24 #[x, y] W fun e w' => e = .returned (.bool true) ∧ Zed b ⟨Cm, Gs, LI, LO, C, P⟩ O X w' by
    rcases hxy with ⟨rfl, rfl⟩ | ⟨rfl, rfl⟩
    · refine (same_off (own_only RX1 hz.1 (fun j hj e => by have := (own_lt RX1 j hj).1; have := Hlt.out j e; omega)) ((F1.out.keep OX.out).only hz.1 HOa.out) Hnc.out (by omega)).mono ?_
      rintro e w' ⟨rfl, hb⟩
      exact ⟨rfl, hz.keep hb⟩
    · refine (same_off (own_only RX2 hz.1 (fun j hj e => by have := (own_lt RX2 j hj).1; have := Hlt.out j e; omega)) ((F2.out.keep OX.out).only hz.1 HOb.out) Hng.out (by omega)).mono ?_
      rintro e w' ⟨rfl, hb⟩
      exact ⟨rfl, hz.keep hb⟩)
  have hRW : ∀ W, Zed b ⟨Cm, Gs, LI, LO, C, P⟩ O X W → RefU W r ⟨Cm, Gs, LI, LO, C, P⟩ P5 := fun W hz => HRX.only hz.1 (fun j hj e => (HK.out.1 j e).2 hj)
  have HRL := Lib.hid (fun W (hz : Zed b ⟨Cm, Gs, LI, LO, C, P⟩ O X W) => rLine_any r _ P5 W (hRW W hz))
  have HRR := Lib.hid (fun W (hz : Zed b ⟨Cm, Gs, LI, LO, C, P⟩ O X W) => show Calls Try.prog 11 #[.pointer (some ⟨r, 0, none⟩), .int .i64 1] W fun e w' => e = .returned (.int .u32 (flagsU ⟨Cm, Gs, LI, LO, C, P⟩)) ∧ Zed b ⟨Cm, Gs, LI, LO, C, P⟩ O X w' by
    refine (rRead_1 r _ P5 W (hRW W hz)).mono ?_
    rintro e w' ⟨rfl, hb⟩
    exact ⟨rfl, hz.keep hb⟩)
  have HLN := Lib.hid (fun W (hz : Zed b ⟨Cm, Gs, LI, LO, C, P⟩ O X W) => hz.line)
  have HRD := Lib.hid (fun W (hz : Zed b ⟨Cm, Gs, LI, LO, C, P⟩ O X W) => hz.read)
  have HW := Lib.hid hRW
  obtain ⟨ln, hln⟩ : ∃ v, lineU ⟨Cm, Gs, LI, LO, C, P⟩ = v := ⟨_, rfl⟩
  obtain ⟨fl, hfl⟩ : ∃ v, flagsU ⟨Cm, Gs, LI, LO, C, P⟩ = v := ⟨_, rfl⟩
  obtain ⟨u, hu⟩ : ∃ u : Un, (⟨Cm, Gs, LI, LO, C, P⟩ : Un) = u := ⟨_, rfl⟩
  rw [hln] at HRL HLN
  rw [hfl] at HRR HRD
  rw [hu] at HSB HRL HRR HLN HRD HW hZ
  have hg0 : ∀ k v, [Value.slice a1 nc c1, .slice a2 ng c2, .bool LI, .bool LO, .int .u32 C, .int .i64 P][k]? = some v → ∀ W, Zed b u O X W → W.cell? ⟨g, k, none⟩ = some v := fun k v hk W hz => only_cell hz.1 hgO (hX.at k hk)
  have hr0 : ∀ k v, [Value.slice ra nc rc, .slice ra2 ng rc2, .bool LI, .bool LO, .int .u32 C, .int .i64 P][k]? = some v → ∀ W, Zed b u O X W → W.cell? ⟨r, k, none⟩ = some v := fun k v hk W hz => only_cell hz.1 HOr.out ((HD.out.keep OX.out).at k hk)
  have d0 := hg0 0 _ rfl
  have d1 := hg0 1 _ rfl
  have d2 := hg0 2 _ rfl
  have d3 := hg0 3 _ rfl
  have d4 := hg0 4 _ rfl
  have d5 := hg0 5 _ rfl
  have q0 := hr0 0 _ rfl
  have q1 := hr0 1 _ rfl
  have q2 := hr0 2 _ rfl
  have q3 := hr0 3 _ rfl
  have q4 := hr0 4 _ rfl
  have q5 := hr0 5 _ rfl
  have y1 : (LI == LI) = true := by simp
  have y2 : (LO == LO) = true := by simp
  have y3 : (C == C) = true := by simp
  have y4 : (P == P) = true := by simp
  have y5 : (ln == ln) = true := by simp
  have y6 : (fl == fl) = true := by simp
  have hZd : Zed b u O X X.drew := hZ.keep (Below.refl _ _).drew
  have H5 := Lib.hid (And.intro (show ∀ W, Zed b u O X W → Only (fun j => ¬ K j) w W from fun W hz => (Only.of_below OX.out).trans (hz.1.mono (fun j _ o => (HK.out.1 j o).1))) (show ∀ W, Zed b u O X W → PairU K W b r ⟨Cm, Gs, LI, LO, C, P⟩ ⟨Cm, Gs, LI, LO, C, P⟩ from fun W hz => by
    rw [hu]
    obtain ⟨z1, O', z2, z3⟩ := hz
    have hs := OX.out.size
    have hP5 := HRX.lt
    exact ⟨O', P5, z2, HW.out W ⟨z1, O', z2, z3⟩, fun j hj => (z3 j hj).elim (HK.out.1 j) (fun e => ⟨fun k => by have := HK.out.2.2 j k; omega, fun k => by have := hP5 j k; omega⟩), HK.out.2.1, fun j hj => Nat.lt_of_lt_of_le (HK.out.2.2 j hj) (Nat.le_trans hs z1.size)⟩))
  clear hX hoX hal hbX hnew hg hgO RX1 RX2 hZ HRX hRW hg0 hr0 hln hfl hu HD F1 F2 R1 R2 O1 HU HR HK Hlt HOr HOa HOb OX HW
  go_wp2_with fail
  simp only [Act.put, List.append]
  go_region_held3 (fun w' => Zed b u O X w')
    (first | assumption)
    (first
      | (go_at_call 24; refine (HSB.out _ _ _ (by assumption) (by first | exact .inl ⟨rfl, rfl⟩ | exact .inr ⟨rfl, rfl⟩)).mono ?_; rintro e w' ⟨rfl, hz⟩)
      | (go_at_call 22; refine (HLN.out _ (by assumption)).mono ?_; rintro e w' ⟨rfl, hz⟩)
      | (go_at_call 34; refine (HRL.out _ (by assumption)).mono ?_; rintro e w' ⟨rfl, rfl⟩)
      | (go_at_call 10; refine (HRD.out _ (by assumption)).mono ?_; rintro e w' ⟨rfl, hz⟩)
      | (go_at_call 11; refine (HRR.out _ (by assumption)).mono ?_; rintro e w' ⟨rfl, hz⟩))
  all_goals
    go_wp2_with fail
    go_ret
    exact ⟨rfl, H5.out.2 _ (by assumption), H5.out.1 _ (by assumption)⟩
end Go.Proofs.Ythdcealhhmfgcaa.Uart
