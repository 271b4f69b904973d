/- Put together: S6n, S6o, S6p. -/
import Derived.Test.YtmdepkehpohgeaaGreatS6j
import Derived.Test.YtmdepkehpohgeaaGreatS6l
import Derived.Test.YtmdepkehpohgeaaGreatS6m
import Derived.Test.YtmdepkehpohgeaaGreatOvDevices
import Derived.Test.YtmdepkehpohgeaaGreatVe
import Derived.Maps.AppendAt
/- ScrubDoes. -/
namespace Go.Proofs.YtmdepkehpohgeaaGreat.Scr
open Go.RowKit Go.Maps Go.ChangeShapes Go.WideShapes Go.ChangeAt Fifo Orow Word
set_option linter.unusedVariables false

theorem does_long (Bk : Nat) (al : Option Addr) (n cap : Nat) (a : Option Addr) (len capd : Nat) (w : World) (hL : Laid w Bk) (hBk : Bk ≤ w.heap.size) (hn : n < 140737488355328) (hlen : len < 140737488355328) (h200 : 200 < n + len) :
    Calls Tryz.prog 3 #[.slice al n cap, .slice a len capd] w fun z w' => z = .returned (.bool true) ∧ Below w.heap.size w w' := by
  have d1 : decide ((200 : Int) < (n : Int) + (len : Int)) = true := decide_eq_true (by omega)
  have d1' : decide (200 < n + len) = true := decide_eq_true h200
  have wk : IntKind.i64.wrap ((n : Int) + (len : Int)) = (n : Int) + (len : Int) := IntWalk.i64_in _ (by omega)
  have HL := Lib.hid hL
  have HBk := Lib.hid hBk
  clear h200 hL hBk hn hlen
  go_enter Tryz.func3, Tryz.ntmps3
  go_wp2_with fail
  refine (awake_any Bk w.heap.size w HL.out HBk.out (Nat.le_refl _)).mono ?_
  rintro z x1 ⟨rfl, hb⟩
  have B1 := Lib.hid hb
  clear hb
  go_wp2_with fail
  go_ret
  exact ⟨rfl, B1.out⟩
set_option maxRecDepth 100000 in
set_option maxHeartbeats 8000000 in
theorem does_core (Bk : Nat) (al : Option Addr) (n cap : Nat) (l : List Win.Dv) (a : Option Addr) (len capd : Nat) (l1 : List Dd) (w : World) (hL : Laid w Bk) (hBk : Bk ≤ w.heap.size) (hl : Win.RowV w al n l) (hno : al = none → n = 0 ∧ cap = 0) (hr : RowDd w a len l1) (h200 : n + len ≤ 200) :
    Calls Tryz.prog 3 #[.slice al n cap, .slice a len capd] w fun z w' => z = .returned (.bool true) ∧ Below w.heap.size w w' := by
  have d0 : decide ((200 : Int) < (n : Int) + (len : Int)) = false := decide_eq_false (by omega)
  have d0' : decide (200 < n + len) = false := decide_eq_false (by omega)
  have wk : IntKind.i64.wrap ((n : Int) + (len : Int)) = (n : Int) + (len : Int) := IntWalk.i64_in _ (by omega)
  obtain ⟨B, hBe⟩ : ∃ B, w.heap.size = B := ⟨_, rfl⟩
  rw [hBe] at hBk ⊢
  have HB := Lib.hid hBe
  have HBk := Lib.hid hBk
  have HL := Lib.hid hL
  have HV := Lib.hid hl
  have HR := Lib.hid hr
  have H200 := Lib.hid h200
  have HE := Lib.hid (Win.lent_any al n cap l w hl hno (by omega))
  have HLx := Lib.hid (fun W (h : Below B w W) => hL.keep (h.mono hBk))
  have HVx := Lib.hid (fun W (h : Below B w W) => hl.keep (by rw [hBe]; exact h))
  clear hBe hBk hL hl hr h200 hno
  go_enter Tryz.func3, Tryz.ntmps3
  go_wp2_with fail
  refine HE.out.mono ?_
  rintro e w1 ⟨g, rfl, hown, hb⟩
  have B1 := Lib.hid (show Below B w w1 from hb.mono (by rw [HB.out]; exact Nat.le_refl _))
  have RW1 := Lib.hid hown
  have hg := own_lt hown g (ba_self _ _)
  have HG := Lib.hid (show B ≤ g by have := hg.1; rw [HB.out] at this; exact this)
  have HRow := Lib.hid (Win.lent_row hown HV.out.1 (fun j hj => HV.out.2.1 j hj))
  have Hsz1 := Lib.hid (show B ≤ w1.heap.size by have := B1.out.size; have := HB.out; omega)
  clear hown hb HE hg wk d0 d0'
  cases hv : Win.rowB l with
  | false =>
    have N1 := Lib.hid (New_no _ n (n + 12) l w1 (by have := H200.out; omega) (by omega) HRow.out hv)
    have N2 := Lib.hid (fun W (h : Below B w W) => rNew_no al n cap l W (by have := H200.out; omega) (HVx.out W h) hv)
    clear hv
    go_wp2_with fail
    refine N1.out.mono ?_
    rintro e w2 ⟨rfl, hb⟩
    have B2 := Lib.hid (B1.out.trans (hb.mono Hsz1.out))
    have RW2 := Lib.hid (own_keep RW1.out hb)
    have Hsz2 := Lib.hid (Nat.le_trans Hsz1.out hb.size)
    have N2 := Lib.hid (N2.out w2 B2.out)
    clear hb N1 RW1 HRow
    go_wp2_with fail
    refine N2.out.mono ?_
    rintro e w3 ⟨rfl, hb⟩
    have B3 := Lib.hid (B2.out.trans (hb.mono Hsz2.out))
    have RW3 := Lib.hid (own_keep RW2.out hb)
    have Hsz3 := Lib.hid (Nat.le_trans Hsz2.out hb.size)
    clear hb N2 RW2
    have HKE := Lib.hid (Win.kept_any w.heap.size g n cap al l w3 (by have := H200.out; omega) (HVx.out w3 B3.out) RW3.out)
    go_wp2_with fail
    refine HKE.out.mono ?_
    rintro e w4 ⟨rfl, hb⟩
    have B4 := Lib.hid (B3.out.trans (hb.mono Hsz3.out))
    have RW4 := Lib.hid (own_keep RW3.out hb)
    have Hsz4 := Lib.hid (Nat.le_trans Hsz3.out hb.size)
    have Hk := Lib.hid hb
    clear hb HKE RW3 B3
    go_wp2_with fail
    refine (OvDevices.over_own _ n (n + 12) (some ⟨g, 0, none⟩) _ w4 (by have := H200.out; omega) (own_prefix (n := n) RW4.out (by omega))).mono ?_
    rintro e wE ⟨rfl, ho⟩
    have hoE := Lib.hid ho
    have BE := Lib.hid (show Below B w wE from B4.out.trans (ho.below Hsz4.out (fun j e => by have e : g = j := Option.some.inj e; have := HG.out; omega)))
    have HszE := Lib.hid (Nat.le_trans Hsz4.out ho.size)
    clear ho RW4 B4
    go_wp2_with fail
    refine (awake_any Bk wE.heap.size wE (HLx.out wE BE.out) (Nat.le_trans HBk.out HszE.out) (Nat.le_refl _)).mono ?_
    rintro e wA ⟨rfl, hb⟩
    have HA := Lib.hid (BE.out.trans (hb.mono HszE.out))
    clear hb
    go_wp2_with fail
    go_ret
    exact ⟨rfl, HA.out⟩
  | true =>
    have hn16 := (Win.rowB_iff.1 hv).1
    rw [HV.out.1] at hn16
    have N1 := Lib.hid (New_yes Bk _ n (n + 12) l w1 (by have := H200.out; omega) (by omega) HRow.out (HLx.out w1 B1.out) (Nat.le_trans HBk.out Hsz1.out) hv)
    have N2 := Lib.hid (fun W (h : Below B w W) => rNew_yes al n cap l W hn16 (HVx.out W h) hv)
    clear hv hn16
    go_wp2_with fail
    refine N1.out.mono ?_
    rintro e w2 ⟨⟨b, O, rfl, hD, hO⟩, hb⟩
    have B2 := Lib.hid (B1.out.trans (hb.mono Hsz1.out))
    have RW2 := Lib.hid (own_keep RW1.out hb)
    have Hsz2 := Lib.hid (Nat.le_trans Hsz1.out hb.size)
    have D2 := Lib.hid hD
    have HGlt := (own_lt RW1.out g (ba_self _ _)).2
    have O2 := Lib.hid (show ∀ j, O j → B ≤ j ∧ j ≠ g from fun j hj => by have := hO j hj; have := Hsz1.out; exact ⟨by omega, by omega⟩)
    have N2 := Lib.hid (N2.out w2 B2.out)
    clear hb N1 RW1 HRow hD hO HGlt
    go_wp2_with fail
    refine N2.out.mono ?_
    rintro e w3 ⟨⟨r, P, rfl, hR, hP⟩, hb⟩
    have B3 := Lib.hid (B2.out.trans (hb.mono Hsz2.out))
    have RW3 := Lib.hid (own_keep RW2.out hb)
    have Hsz3 := Lib.hid (Nat.le_trans Hsz2.out hb.size)
    have PR := Lib.hid (show PairS Bk (fun j => j < B ∨ j = g) w3 b r (newS l) (newS l) from by
      have l1 := D2.out.lt
      have lg := (own_lt RW2.out g (ba_self _ _)).2
      exact ⟨O, P, D2.out.keep hb, hR, fun j hj => ⟨fun e => e.elim (fun e => by have := (O2.out j hj).1; omega) (O2.out j hj).2, fun e => by have := hP j e; have := (l1 j hj).2; omega⟩, fun j hj e => e.elim (fun e => by have := hP j hj; have := Hsz2.out; omega) (fun e => by have := hP j hj; omega), fun j e => by have := hb.size; have := Hsz2.out; exact e.elim (fun e => by omega) (fun e => by omega), fun j e => .inl (by have := HBk.out; omega)⟩)
    clear hb N2 RW2 D2 O2 hR hP
    have HKE := Lib.hid (Win.kept_any w.heap.size g n cap al l w3 (by have := H200.out; omega) (HVx.out w3 B3.out) RW3.out)
    go_wp2_with fail
    refine HKE.out.mono ?_
    rintro e w4 ⟨rfl, hb⟩
    have B4 := Lib.hid (B3.out.trans (hb.mono Hsz3.out))
    have RW4 := Lib.hid (own_keep RW3.out hb)
    have Hsz4 := Lib.hid (Nat.le_trans Hsz3.out hb.size)
    have Hk := Lib.hid hb
    clear hb HKE RW3 B3
    go_wp2_with fail
    refine (OvDevices.over_own _ n (n + 12) (some ⟨g, 0, none⟩) _ w4 (by have := H200.out; omega) (own_prefix (n := n) RW4.out (by omega))).mono ?_
    rintro e wE ⟨rfl, ho⟩
    have hoE := Lib.hid ho
    have BE := Lib.hid (show Below B w wE from B4.out.trans (ho.below Hsz4.out (fun j e => by have e : g = j := Option.some.inj e; have := HG.out; omega)))
    have HszE := Lib.hid (Nat.le_trans Hsz4.out ho.size)
    clear ho RW4 B4
    obtain ⟨s0, hs0⟩ : ∃ s, newS l = s := ⟨_, rfl⟩
    have PZ := Lib.hid (((PR.out.keep Hk.out).far (S := PB (.slice (some ⟨g, 0, none⟩) n (n + 12))) (fun j e => .inr (Option.some.inj e).symm) (fun j e => by have e : g = j := Option.some.inj e; have := HG.out; have := HBk.out; omega) hoE.out).less (K' := fun j => j < B) (fun j e => .inl e) (fun j e => by have := HBk.out; show j < B; omega))
    rw [hs0] at PZ
    clear hs0 PR Hk hoE HV HVx
    go_wp2_with fail
    go_loopw [6, 10] (fun dv i wr => ∃ (q : Nat) (b' : Nat) (d' : RS), q ≤ len ∧ i = .int .i64 (q : Nat) ∧ dv = at0 b' ∧ PairS Bk (fun j => j < B) wr b' r d' d' ∧ Below B w wr) (fun _ i _ => len - (intOf i).toNat)
    case atStart => exact ⟨0, b, s0, Nat.zero_le _, rfl, rfl, PZ.out, BE.out⟩
    case round =>
    clear PZ BE HszE
    obtain ⟨q, b', d', hq, rfl, rfl, hP, hBl⟩ := hrel
    have PP := Lib.hid hP
    have BL := Lib.hid hBl
    have hsz' := Lib.hid (show B ≤ wr.heap.size by have := BL.out.size; have := HB.out; omega)
    have HS := Lib.hid (same_any Bk _ b' r d' wr PP.out)
    clear hP hBl
    by_cases hlt : q < len
    · have e1 : decide ((q : Int) < (len : Int)) = true := decide_eq_true (by omega)
      have e1' : decide (q < len) = true := decide_eq_true hlt
      have i1 : (0 : Int) ≤ (q : Int) := by omega
      have i2 : (q : Int) < (len : Int) := by omega
      have wk : IntKind.i64.wrap ((q : Int) + 1) = (q : Int) + 1 := IntWalk.i64_in _ (by have := H200.out; omega)
      obtain ⟨lb, off, rfl, ce⟩ := HR.out.2.2 q hlt
      have hok := HR.out.2.1 q hlt
      obtain ⟨x, hx⟩ : ∃ x, l1[q]! = x := ⟨_, rfl⟩
      rw [hx] at ce hok
      have CE0 := Lib.hid ce
      obtain ⟨xw, xn, xo⟩ := x
      have Hok := Lib.hid hok
      have Hlt := Lib.hid hlt
      clear hx ce hok hlt hq
      go_wp2_with fail
      refine HS.out.mono ?_
      rintro e w4 ⟨rfl, hb⟩
      have P4 := Lib.hid (PP.out.keep hb)
      have B4 := Lib.hid (BL.out.trans (hb.mono hsz'.out))
      have Hsz4 := Lib.hid (Nat.le_trans hsz'.out hb.size)
      have CE := Lib.hid (CE0.out.keep (by rw [HB.out]; exact B4.out))
      obtain ⟨c0, c1, c2⟩ := CE.out
      have HD := Lib.hid (does_any Bk (fun j => j < B) b' r d' xw xn xo w4 Hok.out.2.1 Hok.out.2.2 P4.out)
      clear hb HS CE
      go_wp2_with fail
      refine HD.out.mono ?_
      rintro e w5 ⟨b2, d2, rfl, hp2, ho2⟩
      have P5 := Lib.hid hp2
      have B5 := Lib.hid (show Below B w w5 from B4.out.trans (ho2.below Hsz4.out (fun j hj => Nat.le_of_not_lt hj)))
      clear hp2 ho2 c0 c1 c2 HD
      go_wp2_with fail
      exact ⟨⟨q + 1, b2, d2, Hlt.out, by go_num, rfl, P5.out, B5.out⟩, by have := Hlt.out; simp [intOf]; omega⟩
    · have e1 : decide ((q : Int) < (len : Int)) = false := decide_eq_false (by omega)
      have e1' : decide (q < len) = false := decide_eq_false hlt
      clear hlt hq
      go_wp2_with fail
      refine HS.out.mono ?_
      rintro e w4 ⟨rfl, hb⟩
      have B4 := Lib.hid (BL.out.trans (hb.mono hsz'.out))
      have hs4 := Lib.hid (Nat.le_trans hsz'.out hb.size)
      clear hb HS
      go_wp2_with fail
      refine (awake_any Bk w4.heap.size w4 (HLx.out w4 B4.out) (Nat.le_trans HBk.out hs4.out) (Nat.le_refl _)).mono ?_
      rintro e wA ⟨rfl, hb⟩
      have HA := Lib.hid (B4.out.trans (hb.mono hs4.out))
      clear hb
      go_wp2_with fail
      go_ret
      exact ⟨rfl, HA.out⟩
theorem does_walk (Bk : Nat) (al : Option Addr) (n cap : Nat) (l : List Win.Dv) (a : Option Addr) (len capd : Nat) (l1 : List Dd) (w : World) (hL : Laid w Bk) (hBk : Bk ≤ w.heap.size) (hl : Win.RowV w al n l) (hno : al = none → n = 0 ∧ cap = 0) (hr : RowDd w a len l1) (hn : n < 140737488355328) (hlen : len < 140737488355328) :
    Calls Tryz.prog 3 #[.slice al n cap, .slice a len capd] w fun z w' => z = .returned (.bool true) ∧ Below w.heap.size w w' := by
  by_cases h200 : n + len ≤ 200
  · exact does_core Bk al n cap l a len capd l1 w hL hBk hl hno hr h200
  · exact does_long Bk al n cap a len capd w hL hBk hn hlen (by omega)
end Go.Proofs.YtmdepkehpohgeaaGreat.Scr
/- ScrubEnds. -/
namespace Go.Proofs.YtmdepkehpohgeaaGreat.Scr
open Go.RowKit Go.Maps Go.ChangeShapes Go.WideShapes Go.ChangeAt Fifo Orow Word
set_option linter.unusedVariables false

def enL : List Value := [.int .i64 (-9223372036854775808), .int .i64 (-1), .int .i64 0, .int .i64 5, .int .i64 6, .int .i64 7, .int .i64 8, .int .i64 9223372036854775807]
theorem en_at {i : Nat} (h : i < 8) : ∃ z, enL[i]? = some (.int .i64 z) ∧ I64 z := by
  unfold I64
  match i, h with
  | 0, _ => exact ⟨_, rfl, by omega⟩
  | 1, _ => exact ⟨_, rfl, by omega⟩
  | 2, _ => exact ⟨_, rfl, by omega⟩
  | 3, _ => exact ⟨_, rfl, by omega⟩
  | 4, _ => exact ⟨_, rfl, by omega⟩
  | 5, _ => exact ⟨_, rfl, by omega⟩
  | 6, _ => exact ⟨_, rfl, by omega⟩
  | 7, _ => exact ⟨_, rfl, by omega⟩
theorem info_dd : (Tryz.prog.info? 39).map (fun i => (i.zero, i.size, i.bytes)) = some (some (.agg #[.int .i64 0, .int .i64 0, .int .i64 0]), 3, 24) := by kernel_rfl
theorem info_dv : (Tryz.prog.info? 45).map (fun i => (i.zero, i.size, i.bytes)) = some (some (.agg #[.int .i64 0, .int .u32 0, .int .i64 0, .int .i64 0, .int .i64 0]), 5, 40) := by kernel_rfl
/-- Deeds that can be read. -/
def OkL (l : List Dd) : Prop := ∀ x, x ∈ l → okDd x
theorem okL_row {l : List Dd} (h : OkL l) : ∀ j, j < l.length → okDd l[j]! := fun j hj => by
  rw [getElem!_pos l j hj]
  exact h _ (List.getElem_mem hj)
theorem okL_app {l m : List Dd} (h : OkL l) (k : OkL m) : OkL (l ++ m) := fun x hx => (List.mem_append.1 hx).elim (h x) (k x)
theorem okL_take {l : List Dd} (h : OkL l) (n : Nat) : OkL (l.take n) := fun x hx => h x (List.mem_of_mem_take hx)
theorem flDd_app (l m : List Dd) : flDd (l ++ m) = flDd l ++ flDd m := by simp [flDd]
theorem ok_mk {p q r : Int} (h1 : I64 p) (h2 : I64 q) (h3 : I64 r) : okDd ⟨p, q, r⟩ := ⟨h1, h2, h3⟩
def OkV (l : List Win.Dv) : Prop := ∀ x, x ∈ l → Win.okD x
theorem okV_row {l : List Win.Dv} (h : OkV l) : ∀ j, j < l.length → Win.okD l[j]! := fun j hj => by
  rw [getElem!_pos l j hj]
  exact h _ (List.getElem_mem hj)
theorem okV_app {l m : List Win.Dv} (h : OkV l) (k : OkV m) : OkV (l ++ m) := fun x hx => (List.mem_append.1 hx).elim (h x) (k x)
theorem RowDd.take9 {w : World} {a : Option Addr} {n : Nat} {l : List Dd} (h : RowDd w a n l) {k : Nat} (hk : k ≤ n) : RowDd w a k (l.take k) := by
  have h1 := h.1
  have e : ∀ j, j < k → (l.take k)[j]! = l[j]! := fun j hj => by
    rw [getElem!_pos _ j (by rw [List.length_take]; omega), List.getElem_take, ← getElem!_pos l j (by omega)]
  exact ⟨by rw [List.length_take]; omega, fun j hj => by rw [e j hj]; exact h.2.1 j (by omega), fun j hj => by rw [e j hj]; exact h.2.2 j (by omega)⟩
theorem at_app {P : Program} {ops : Array Oper} {Q : Exit → Act → World → Prop} {rest : List Oper} {op : Oper} {a : Act} {w : World} (x y : Operand) (t u : TypeId) (ho : op.op = .call { callee := .builtin .append, args := #[x, y], argTypes := #[t, u] }) (h : Hid (wpList P ops Q (op :: rest) a w)) : wpList P ops Q (op :: rest) a w := h.out
set_option maxRecDepth 100000 in
set_option maxHeartbeats 8000000 in
theorem ends_walk (Bk : Nat) (w : World) (hL : Laid w Bk) (hBk : Bk ≤ w.heap.size) : Calls Tryz.prog 4 #[] w fun e w' => e = .returned (.bool true) ∧ Below w.heap.size w w' := by
  obtain ⟨i0, hi, hz0, hz1, hz2⟩ := info_parts info_dd
  have Hi := Lib.hid hi
  have Hz0 := Lib.hid hz0
  have Hz1 := Lib.hid hz1
  have Hz2 := Lib.hid hz2
  obtain ⟨j0, gi, gz0, gz1, gz2⟩ := info_parts info_dv
  have Gi := Lib.hid gi
  have Gz0 := Lib.hid gz0
  have Gz1 := Lib.hid gz1
  have Gz2 := Lib.hid gz2
  have HL := Lib.hid (show ∀ W, Below w.heap.size w W → Laid W Bk from fun W h => hL.keep (h.mono hBk))
  have HBk := Lib.hid hBk
  clear hi hz0 hz1 hz2 gi gz0 gz1 gz2 hL hBk
  go_enter Tryz.func4, Tryz.ntmps4
  go_wp2_with fail
  obtain ⟨s1, hs1⟩ : ∃ s, w.heap.size = s := ⟨_, rfl⟩
  have HS1 := Lib.hid hs1
  rw [hs1]
  refine code_letter ?_
  intro W hW
  have CS := Lib.hid (show Blk W s1 3 enL by rw [hW.out, ← hs1]; exact Blk.new w 3 enL)
  have BW := Lib.hid (show Below w.heap.size w W by rw [hW.out]; exact (Below.refl _ _).alloc (Nat.le_refl _) _)
  rw [hs1] at BW
  clear hW hs1
  go_loopw [2, 3] (fun lv v wr => ∃ (k : Nat) (d : List Win.Dv), k ≤ 6 ∧ v = .int .i64 (k : Nat) ∧ d.length = k ∧ OkV d ∧ wr.ownsRow W.heap.size 45 5 lv k (Win.flV d) ∧ Below W.heap.size W wr) (fun _ v _ => 6 - (intOf v).toNat)
  case atStart => exact ⟨0, [], by omega, rfl, rfl, fun x h => absurd h (by simp), ⟨rfl, .inl ⟨rfl, rfl⟩⟩, Below.refl _ _⟩
  case round =>
  obtain ⟨k, d, hk, rfl, hdl, hok, hown, hb⟩ := hrel
  obtain ⟨v1, rfl⟩ : ∃ V : World, V = wr := ⟨_, rfl⟩
  obtain ⟨av, cv, rfl, hcv, hno⟩ := own_shape hown
  have Hb := Lib.hid hb
  have Hok := Lib.hid hok
  have HO := Lib.hid hown
  have Hdl := Lib.hid hdl
  clear hb hok hown hdl
  by_cases hlt : k < 6
  · have u0 : decide ((k : Int) < 6) = true := decide_eq_true (by omega)
    have u0' : decide (k < 6) = true := decide_eq_true hlt
    obtain ⟨a, ha⟩ : ∃ a, k % 4 = a := ⟨_, rfl⟩
    have t1 : Int.tmod (k : Int) 4 = (a : Int) := by rw [Int.tmod_eq_emod_of_nonneg (by omega)]; omega
    have wk1 : IntKind.i64.wrap ((k : Int) + 1) = (k : Int) + 1 := IntWalk.i64_in _ (by omega)
    have wk2 : IntKind.i64.wrap (64 * (k : Int)) = 64 * (k : Int) := IntWalk.i64_in _ (by omega)
    have wk3 : IntKind.u32.wrap (64 * (k : Int)) = 64 * (k : Int) := IntWalk.u32_in _ (by omega)
    have wk4 : IntKind.i64.wrap ((a : Int) - 1) = (a : Int) - 1 := IntWalk.i64_in _ (by omega)
    have HA := Lib.hid (show a < 4 by omega)
    have Hlt := Lib.hid hlt
    have hs3 : W.heap.size ≤ v1.heap.size := Hb.out.size
    clear ha hlt hk
    go_wp2_with (with_reducible refine at_app _ _ _ _ rfl ?_)
    apply Lib.hid
    refine wpList_append_own _ rfl _ _ 22 rfl W.heap.size 45 j0 (.agg #[.int .i64 0, .int .u32 0, .int .i64 0, .int .i64 0, .int .i64 0]) 5 40 Tryz.underlying22 Gi.out Gz0.out Gz1.out Gz2.out rfl (by decide) (.slice av k cv) k (Win.flV d) rfl (HO.out.alloc _) ⟨v1.heap.size, 0, none⟩ 1 1 (Win.flV [⟨(k : Int) + 1, 64 * (k : Int), 32, (a : Int) - 1, -1⟩]) rfl rfl (Orow.cells_new _ _ _) (by simp [Win.flV, Win.encV, Value.oneCell']) (by have := Hlt.out; unfold maxLen; omega) (by have := Hlt.out; omega) (by simp; omega) ?_
    intro v' W9 r1 r2 _
    have B9 := Lib.hid (show Below W.heap.size W W9 from (Hb.out.alloc hs3 _).trans ((grown_only r2).below (by simp; omega) (fun j hj => (HO.out.lt j hj).1)))
    rw [← Win.flV_app] at r1
    have R9 := Lib.hid r1
    have Hok9 := Lib.hid (show OkV (d ++ [⟨(k : Int) + 1, 64 * (k : Int), 32, (a : Int) - 1, -1⟩]) from okV_app Hok.out (fun x hx => by
      obtain rfl := List.mem_singleton.1 hx
      have := HA.out
      have := Hlt.out
      exact ⟨⟨by show _ ≤ (k : Int) + 1; omega, by show (k : Int) + 1 ≤ _; omega⟩, ⟨by show 0 ≤ 64 * (k : Int); omega, by show 64 * (k : Int) < _; omega⟩, ⟨by show (-9223372036854775808 : Int) ≤ 32; decide, by show (32 : Int) ≤ 9223372036854775807; decide⟩, ⟨by show _ ≤ (a : Int) - 1; omega, by show (a : Int) - 1 ≤ _; omega⟩, ⟨by show (-9223372036854775808 : Int) ≤ -1; decide, by show (-1 : Int) ≤ 9223372036854775807; decide⟩⟩))
    clear r1 r2 HO hs3
    go_wp2_with fail
    exact ⟨⟨k + 1, _, Hlt.out, by go_num, by rw [List.length_append, Hdl.out]; rfl, Hok9.out, R9.out, B9.out⟩, by have := Hlt.out; simp [intOf]; omega⟩
  · have H6 := Lib.hid (show k = 6 by omega)
    have u0 : decide ((k : Int) < 6) = false := decide_eq_false (by omega)
    have u0' : decide (k < 6) = false := decide_eq_false hlt
    have BV := Lib.hid (show Below s1 w v1 from BW.out.trans (Hb.out.mono (by have := BW.out.size; have := HS1.out; omega)))
    have CS1 := Lib.hid (CS.out.keep Hb.out)
    have HV1 := Lib.hid (Win.rowV_of_own Hdl.out (fun j hj => okV_row Hok.out j (by rw [Hdl.out]; exact hj)) HO.out)
    clear hlt hk Hb HO Hok CS BW
    go_wp2_with fail
    go_loopw [4] (fun v wr => ∃ n : Nat, n ≤ 64 ∧ v = .int .i64 (n : Nat) ∧ Below v1.heap.size v1 wr) (fun v _ => 64 - (intOf v).toNat)
    case atStart => exact ⟨0, by omega, rfl, Below.refl _ _⟩
    case round =>
    obtain ⟨n, hn, rfl, hb⟩ := hrel
    obtain ⟨v2, rfl⟩ : ∃ V : World, V = wr := ⟨_, rfl⟩
    have Hb2 := Lib.hid hb
    have CS3 := Lib.hid (CS1.out.keep hb)
    have HV2 := Lib.hid (HV1.out.keep hb)
    clear hb
    by_cases hln : n < 64
    · have u1 : decide ((n : Int) < 64) = true := decide_eq_true (by omega)
      have u1' : decide (n < 64) = true := decide_eq_true hln
      have wn1 : IntKind.i64.wrap ((n : Int) + 1) = (n : Int) + 1 := IntWalk.i64_in _ (by omega)
      have Hn := Lib.hid hln
      clear hln hn
      go_wp2_with fail
      go_loopw [5, 6] (fun v5 v6 wr => ∃ (i : Nat) (d : List Dd), i ≤ 20 ∧ v6 = .int .i64 (i : Nat) ∧ d.length = 4 * i ∧ OkL d ∧ wr.ownsRow v2.heap.size 39 3 v5 (4 * i) (flDd d) ∧ Below v2.heap.size v2 wr) (fun _ v6 _ => 20 - (intOf v6).toNat)
      case atStart => exact ⟨0, [], by omega, rfl, rfl, fun x h => absurd h (by simp), ⟨rfl, .inl ⟨rfl, rfl⟩⟩, Below.refl _ _⟩
      case round =>
      obtain ⟨i, d', hi, rfl, hdl, hok, hown, hb⟩ := hrel
      obtain ⟨v3, rfl⟩ : ∃ V : World, V = wr := ⟨_, rfl⟩
      obtain ⟨m, hm⟩ : ∃ m, 4 * i = m := ⟨_, rfl⟩
      rw [hm] at hdl hown
      have Hm := Lib.hid hm
      obtain ⟨ad, cd, rfl, hcd, hnd⟩ := own_shape hown
      have HOd := Lib.hid hown
      have Hb3 := Lib.hid hb
      have Hokd := Lib.hid hok
      have Hdld := Lib.hid hdl
      have Hcd := Lib.hid hcd
      clear hown hb hok hdl hm hcd hnd
      by_cases hli : i < 20
      · have Hli := Lib.hid hli
        have u2 : decide ((i : Int) < 20) = true := decide_eq_true (by omega)
        have u2' : decide (i < 20) = true := decide_eq_true hli
        have hn64 := Hn.out
        obtain ⟨c, hc⟩ : ∃ c, n / 8 = c := ⟨_, rfl⟩
        obtain ⟨e, he⟩ : ∃ e, n % 8 = e := ⟨_, rfl⟩
        have hc8 : c < 8 := by omega
        have he8 : e < 8 := by omega
        obtain ⟨z, hz, hzI⟩ := en_at hc8
        obtain ⟨y, hy, hyI⟩ := en_at he8
        have Hz := Lib.hid hzI
        have Hy := Lib.hid hyI
        have cZ : ∀ w', Below v2.heap.size v2 w' → w'.cell? ⟨s1, n / 8, none⟩ = some (.int .i64 z) := fun w' h => by rw [hc]; exact (CS3.out.keep h).at c hz
        have cZ2 : ∀ w', Below v2.heap.size v2 w' → w'.cell? ⟨s1, c, none⟩ = some (.int .i64 z) := fun w' h => (CS3.out.keep h).at c hz
        have cY : ∀ w', Below v2.heap.size v2 w' → w'.cell? ⟨s1, e, none⟩ = some (.int .i64 y) := fun w' h => (CS3.out.keep h).at e hy
        obtain ⟨f1, hf1⟩ : ∃ f, n % 4 = f := ⟨_, rfl⟩
        obtain ⟨f2, hf2⟩ : ∃ f, i % 6 = f := ⟨_, rfl⟩
        obtain ⟨f3, hf3⟩ : ∃ f, (n + i) % 4 = f := ⟨_, rfl⟩
        obtain ⟨f4, hf4⟩ : ∃ f, i % 9 = f := ⟨_, rfl⟩
        obtain ⟨f5, hf5⟩ : ∃ f, (n + i) % 6 = f := ⟨_, rfl⟩
        obtain ⟨f6, hf6⟩ : ∃ f, i % 3 = f := ⟨_, rfl⟩
        have t1 : Int.tmod (n : Int) 4 = (f1 : Int) := by rw [Int.tmod_eq_emod_of_nonneg (by omega)]; omega
        have t2 : Int.tmod (i : Int) 6 = (f2 : Int) := by rw [Int.tmod_eq_emod_of_nonneg (by omega)]; omega
        have t3 : Int.tmod ((n : Int) + (i : Int)) 4 = (f3 : Int) := by rw [Int.tmod_eq_emod_of_nonneg (by omega)]; omega
        have t4 : Int.tmod (i : Int) 9 = (f4 : Int) := by rw [Int.tmod_eq_emod_of_nonneg (by omega)]; omega
        have t5 : Int.tmod ((n : Int) + (i : Int)) 6 = (f5 : Int) := by rw [Int.tmod_eq_emod_of_nonneg (by omega)]; omega
        have t6 : Int.tmod (i : Int) 3 = (f6 : Int) := by rw [Int.tmod_eq_emod_of_nonneg (by omega)]; omega
        have t7 : Int.tmod (n : Int) 8 = (e : Int) := by rw [Int.tmod_eq_emod_of_nonneg (by omega)]; omega
        have t8 : Int.tdiv (n : Int) 8 = (c : Int) := by rw [Int.tdiv_eq_ediv_of_nonneg (by omega)]; omega
        have s2' : IntKind.i64.wrap ((n : Int) + (i : Int)) = (n : Int) + (i : Int) := IntWalk.i64_in _ (by omega)
        have s3' : IntKind.i64.wrap (c : Int) = (c : Int) := IntWalk.i64_in _ (by omega)
        have s9 : ¬ ((n : Int) < 0) := by omega
        have HBs := Lib.hid (show f1 < 4 ∧ f2 < 6 ∧ f3 < 4 ∧ f4 < 9 ∧ f5 < 6 ∧ f6 < 3 from by omega)
        have i1 : (0 : Int) ≤ (c : Int) := by omega
        have i2 : (c : Int) < 8 := by omega
        have i3 : (0 : Int) ≤ (e : Int) := by omega
        have i4 : (e : Int) < 8 := by omega
        have wi1 : IntKind.i64.wrap ((i : Int) + 1) = (i : Int) + 1 := IntWalk.i64_in _ (by omega)
        have hs3 : v2.heap.size ≤ v3.heap.size := Hb3.out.size
        have S0 : Below v2.heap.size v2 v3 := Hb3.out
        have SD : Below v2.heap.size v2 v3.drew := Hb3.out.drew
        have hAl : ∀ o, Below v2.heap.size v2 (v3.drew.alloc o) := fun o => SD.alloc hs3 o
        have HOx := Lib.hid (fun o => HOd.out.drew.alloc o)
        have HAl := Lib.hid hAl
        clear hc he hz hzI hy hyI hf1 hf2 hf3 hf4 hf5 hf6 hc8 he8 hli hi hn64
        go_wp2_with fail
        try simp only [Act.put, List.append]
        go_region_held3 (fun w' => Below v2.heap.size v2 w')
          (first | assumption | exact hAl _)
          (first
            | (refine (if_pos (by rfl)).mpr ?_; refine wp_append_own _ _ _ 23 rfl v2.heap.size 39 i0 (.agg #[.int .i64 0, .int .i64 0, .int .i64 0]) 3 24 Tryz.underlying23 Hi.out Hz0.out Hz1.out Hz2.out rfl (by decide) (.slice ad m cd) m (flDd d') rfl (HOx.out _) ⟨v3.heap.size, 0, none⟩ 4 4 _ rfl rfl (Orow.cells_new _ _ _) (by simp [Value.oneCell']) (by have := Hm.out; have := Hli.out; unfold maxLen; omega) (by have := Hm.out; have := Hli.out; omega) (by simp; omega) ?_; intro v' W9 r1 r2 _; have hS9 : Below v2.heap.size v2 W9 := (HAl.out _).trans ((grown_only r2).below (by simp; omega) (fun j hj => ((HOx.out (.cells #[] 0)).lt j hj).1))))
        have hlen3 : (d' ++ [⟨f1, f2, z⟩, ⟨f3, y, f4⟩, ⟨4, 1, 0⟩, ⟨f2, f5, f6⟩] : List Dd).length = 4 * (i + 1) := by
          rw [List.length_append, Hdld.out]
          have := Hm.out
          show m + 4 = _
          omega
        have Hlen3 := Lib.hid hlen3
        have Hok3 := Lib.hid (show OkL (d' ++ [⟨f1, f2, z⟩, ⟨f3, y, f4⟩, ⟨4, 1, 0⟩, ⟨f2, f5, f6⟩]) from okL_app Hokd.out (fun x hx => by
          have := HBs.out
          have hz64 := Hz.out
          have hy64 := Hy.out
          simp only [List.mem_cons, List.not_mem_nil, or_false] at hx
          rcases hx with rfl | rfl | rfl | rfl
          · exact ok_mk ⟨by omega, by omega⟩ ⟨by omega, by omega⟩ hz64
          · exact ok_mk ⟨by omega, by omega⟩ hy64 ⟨by omega, by omega⟩
          · exact ok_mk ⟨by decide, by decide⟩ ⟨by decide, by decide⟩ ⟨by decide, by decide⟩
          · exact ok_mk ⟨by omega, by omega⟩ ⟨by omega, by omega⟩ ⟨by omega, by omega⟩))
        have R1 := Lib.hid (show W9.ownsRow v2.heap.size 39 3 v' (4 * (i + 1)) (flDd (d' ++ [⟨f1, f2, z⟩, ⟨f3, y, f4⟩, ⟨4, 1, 0⟩, ⟨f2, f5, f6⟩])) from by
          rw [flDd_app]
          have e : m + 4 = 4 * (i + 1) := by have := Hm.out; omega
          rw [← e]
          exact r1)
        have B9 := Lib.hid hS9
        clear r1 r2 hS9 hlen3 cZ cZ2 cY t1 t2 t3 t4 t5 t6 t7 t8 s2' s3' s9 i1 i2 i3 i4 hs3 S0 SD hAl HAl HOx HOd
        go_wp2_with fail
        exact ⟨⟨i + 1, _, Hli.out, by go_num, Hlen3.out, Hok3.out, R1.out, B9.out⟩, by have := Hli.out; simp [intOf]; omega⟩
      · have H20 := Lib.hid (show i = 20 by omega)
        have u2 : decide ((i : Int) < 20) = false := decide_eq_false (by omega)
        have u2' : decide (i < 20) = false := decide_eq_false hli
        have hm80 : m = 80 := by have := Hm.out; have := H20.out; omega
        subst hm80
        obtain ⟨gd, rfl⟩ := own_some HOd.out (.inl (by omega))
        have k9 : decide ((9 : Int) ≤ (cd : Int)) = true := decide_eq_true (by have := Hcd.out; omega)
        have k9p : (9 : Int) ≤ (cd : Int) := by have := Hcd.out; omega
        have k9q : 9 ≤ cd := by omega
        have k9r : ¬ ((cd : Int) < 9) := by omega
        have k9s : decide ((cd : Int) < 9) = false := decide_eq_false k9r
        have R9 := Lib.hid (rowDd_of_own (d := d') (n := 80) Hdld.out (fun j hj => okL_row Hokd.out j (by rw [Hdld.out]; exact hj)) HOd.out)
        have hall : ∀ W, Below v2.heap.size v2 W → Below w.heap.size w W := fun W h => by
          have h0 : Below w.heap.size w v1 := by rw [HS1.out]; exact BV.out
          exact h0.trans ((Hb2.out.trans (h.mono Hb2.out.size)).mono h0.size)
        have HWall := Lib.hid hall
        have HD1 := Lib.hid (fun W (h : Below v3.heap.size v3 W) => does_walk Bk av k cv d (some ⟨gd, 0, none⟩) 80 cd d' W (HL.out W (HWall.out W (Hb3.out.trans (h.mono Hb3.out.size)))) (Nat.le_trans HBk.out (HWall.out W (Hb3.out.trans (h.mono Hb3.out.size))).size) (HV2.out.keep (Hb3.out.trans (h.mono Hb3.out.size))) hno (R9.out.keep h) (by have := H6.out; omega) (by omega))
        have HD2 := Lib.hid (fun W (h : Below v3.heap.size v3 W) => does_walk Bk none 0 0 [] (some ⟨gd, 0, none⟩) 9 cd (d'.take 9) W (HL.out W (HWall.out W (Hb3.out.trans (h.mono Hb3.out.size)))) (Nat.le_trans HBk.out (HWall.out W (Hb3.out.trans (h.mono Hb3.out.size))).size) (Win.RowV.nil W) (fun _ => ⟨rfl, rfl⟩) ((R9.out.keep h).take9 (by omega)) (by omega) (by omega))
        clear hli hi hall HOd
        go_wp2_with fail
        refine (HD1.out v3 (Below.refl _ _)).mono ?_
        rintro e w4 ⟨rfl, hb⟩
        have Hb4 := Lib.hid hb
        clear hb HD1
        go_wp2_with fail
        refine (HD2.out w4 Hb4.out).mono ?_
        rintro e w5 ⟨rfl, hb⟩
        have BA := Lib.hid (Hb2.out.trans ((Hb3.out.trans ((Hb4.out.trans (hb.mono Hb4.out.size)).mono Hb3.out.size)).mono Hb2.out.size))
        clear hb HD2
        go_wp2_with fail
        exact ⟨⟨n + 1, Hn.out, by go_num, BA.out⟩, by have := Hn.out; simp [intOf]; omega⟩
    · have H64 := Lib.hid (show n = 64 by omega)
      have u1 : decide ((n : Int) < 64) = false := decide_eq_false (by omega)
      have u1' : decide (n < 64) = false := decide_eq_false hln
      have BV1 := Lib.hid (show Below w.heap.size w v2 by
        have h0 : Below w.heap.size w v1 := by rw [HS1.out]; exact BV.out
        exact h0.trans (Hb2.out.mono h0.size))
      clear hln hn
      go_wp2_with fail
      obtain ⟨zb, hzb⟩ : ∃ s, v2.heap.size = s := ⟨_, rfl⟩
      rw [hzb]
      refine code_letter ?_
      intro U hU
      have hzl : (v2.alloc (.cells zeroCells 49)).heap.size = zb + 1 := by simp [hzb]
      have NU := Lib.hid (show Non U (.pointer (some ⟨zb, 0, none⟩)) by
        refine .inr ⟨zb, rfl, ?_⟩
        rw [hU.out, ← hzb]
        exact (zero_new v2).keep ((Below.refl _ _).alloc (Nat.le_refl _) _))
      have CP := Lib.hid (show Blk U (zb + 1) 26 [.pointer none, .pointer (some ⟨zb, 0, none⟩)] by
        rw [hU.out, ← hzl]
        exact Blk.new (v2.alloc (.cells zeroCells 49)) 26 [.pointer none, .pointer (some ⟨zb, 0, none⟩)])
      have BU := Lib.hid (show Below w.heap.size w U by
        have h1 := BV1.out
        rw [hU.out]
        exact (h1.alloc h1.size _).alloc (by have := h1.size; simp; omega) _)
      clear hU hzl hzb Hb2 CS3 HV2 BV1
      go_loopw [8] (fun v wr => ∃ q : Nat, q ≤ 2 ∧ v = .int .i64 (q : Nat) ∧ Below U.heap.size U wr) (fun v _ => 2 - (intOf v).toNat)
      case atStart => exact ⟨0, by omega, rfl, Below.refl _ _⟩
      case round =>
      obtain ⟨q, hq, rfl, hb⟩ := hrel
      have Hb := Lib.hid hb
      clear hb
      by_cases hlq : q < 2
      · have u1 : decide ((q : Int) < 2) = true := decide_eq_true (by omega)
        have u1' : decide (q < 2) = true := decide_eq_true hlq
        have wq1 : IntKind.i64.wrap ((q : Int) + 1) = (q : Int) + 1 := IntWalk.i64_in _ (by omega)
        obtain ⟨v, hv, hN⟩ : ∃ v, [Value.pointer none, .pointer (some ⟨zb, 0, none⟩)][q]? = some v ∧ Non U v := by
          have : q = 0 ∨ q = 1 := by omega
          rcases this with rfl | rfl
          · exact ⟨_, rfl, .inl rfl⟩
          · exact ⟨_, rfl, NU.out⟩
        have q0 := (CP.out.keep Hb.out).at q hv
        have q1 : (0 : Int) ≤ (q : Int) := by omega
        have q2 : (q : Int) < 2 := by omega
        have N0 := Lib.hid (hN.keep Hb.out)
        have B0 := Lib.hid Hb.out
        have i0' : I64 0 := ⟨by decide, by decide⟩
        have nn := fun w => run_neH zeroHd zeroHd w
        have ee : eqH zeroHd zeroHd = true := eqH_iff.2 rfl
        rw [ee] at nn
        have Hlq := Lib.hid hlq
        clear hv hN hlq hq ee
        go_wp2_with fail
        refine (Hold_non v 0 wr i0' N0.out).mono ?_
        rintro e x1 ⟨rfl, hb⟩
        have B1 := Lib.hid (B0.out.trans (hb.mono B0.out.size))
        have N1 := Lib.hid (N0.out.keep hb)
        clear hb q0
        obtain ⟨gh, hgh⟩ : ∃ g, x1.heap.size = g := ⟨_, rfl⟩
        go_wp2_with (with_reducible refine at_store _ _ _ rfl ?_)
        refine Lib.hid ?_
        have hnew := Blk.new x1 52 [.int .i64 0, .int .i64 0, .int .i64 0]
        rw [hgh] at hnew
        refine store_all rfl _ _ _ rfl gh [.int .i64 0, .int .i64 0, .int .i64 0] rfl rfl _ _ hnew (by kernel_rfl) rfl (by simp [Value.oneCell']) ?_
        intro y1 hX hoX
        have hal := (Below.refl x1.heap.size x1).alloc (Nat.le_refl _) (.cells #[.int .i64 0, .int .i64 0, .int .i64 0] 52)
        have hbX : Below x1.heap.size x1 y1 := hal.trans (hoX.below hal.size (fun j e => by rw [e, ← hgh]; exact Nat.le_refl _))
        have FH2 := Lib.hid hX
        have B2 := Lib.hid (B1.out.trans (hbX.mono B1.out.size))
        have N2 := Lib.hid (N1.out.keep hbX)
        clear hX hoX hal hbX hnew hgh
        go_wp2_with fail
        refine (Owner_non v 0 y1 i0' N2.out).mono ?_
        rintro e x3 ⟨rfl, hb⟩
        have B3 := Lib.hid (B2.out.trans (hb.mono B2.out.size))
        have N3 := Lib.hid (N2.out.keep hb)
        have FH3 := Lib.hid (FH2.out.keep hb)
        clear hb
        go_wp2_with fail
        refine (Give_non v 0 0 x3 i0' i0' N3.out).mono ?_
        rintro e x4 ⟨rfl, hb⟩
        have B4 := Lib.hid (B3.out.trans (hb.mono B3.out.size))
        have N4 := Lib.hid (N3.out.keep hb)
        have FH4 := Lib.hid (FH3.out.keep hb)
        clear hb
        go_wp2_with fail
        refine (Take_non v 0 x4 i0' N4.out).mono ?_
        rintro e x5 ⟨rfl, hb⟩
        have B5 := Lib.hid (B4.out.trans (hb.mono B4.out.size))
        have N5 := Lib.hid (N4.out.keep hb)
        have FH5 := Lib.hid (FH4.out.keep hb)
        clear hb
        go_wp2_with fail
        refine (Move_non v 0 0 x5 i0' i0' N5.out).mono ?_
        rintro e x6 ⟨rfl, hb⟩
        have B6 := Lib.hid (B5.out.trans (hb.mono B5.out.size))
        have N6 := Lib.hid (N5.out.keep hb)
        have FH6 := Lib.hid (FH5.out.keep hb)
        have h0 := FH6.out.at 0 rfl
        have h1 := FH6.out.at 1 rfl
        have h2 := FH6.out.at 2 rfl
        clear hb
        go_wp2_with fail
        refine (Len_non v x6 N6.out).mono ?_
        rintro e x7 ⟨rfl, hb⟩
        have B7 := Lib.hid (B6.out.trans (hb.mono B6.out.size))
        have N7 := Lib.hid (N6.out.keep hb)
        have FH7 := Lib.hid (FH6.out.keep hb)
        clear h0 h1 h2
        clear hb
        go_wp2_with fail
        refine (Of_non v 0 x7 i0' N7.out).mono ?_
        rintro e x8 ⟨⟨a1, c1, rfl⟩, hb⟩
        have B8 := Lib.hid (B7.out.trans (hb.mono B7.out.size))
        have N8 := Lib.hid (N7.out.keep hb)
        have FH8 := Lib.hid (FH7.out.keep hb)
        clear hb
        go_wp2_with fail
        refine (Tick_non v x8 N8.out).mono ?_
        rintro e x9 ⟨⟨a2, c2, rfl⟩, hb⟩
        have B9 := Lib.hid (B8.out.trans (hb.mono B8.out.size))
        have N9 := Lib.hid (N8.out.keep hb)
        have FH9 := Lib.hid (FH8.out.keep hb)
        clear hb
        go_wp2_with fail
        refine (All_non v x9 N9.out).mono ?_
        rintro e x10 ⟨⟨a3, c3, rfl⟩, hb⟩
        have B10 := Lib.hid (B9.out.trans (hb.mono B9.out.size))
        have N10 := Lib.hid (N9.out.keep hb)
        have FH10 := Lib.hid (FH9.out.keep hb)
        clear hb
        go_wp2_with fail
        refine (Copy_non v x10 N10.out).mono ?_
        rintro e x11 ⟨rfl, hb⟩
        have B11 := Lib.hid (B10.out.trans (hb.mono B10.out.size))
        have N11 := Lib.hid (N10.out.keep hb)
        have FH11 := Lib.hid (FH10.out.keep hb)
        clear hb
        go_wp2_with fail
        exact ⟨⟨q + 1, Hlq.out, by go_num, B11.out⟩, by have := Hlq.out; simp [intOf]; omega⟩
      · have u1 : decide ((q : Int) < 2) = false := decide_eq_false (by omega)
        have u1' : decide (q < 2) = false := decide_eq_false hlq
        have BF := Lib.hid (BU.out.trans (Hb.out.mono BU.out.size))
        clear hlq hq
        go_wp2_with fail
        refine (awake_any Bk wr.heap.size wr (HL.out wr BF.out) (Nat.le_trans HBk.out BF.out.size) (Nat.le_refl _)).mono ?_
        rintro e wF ⟨rfl, hb⟩
        have BG := Lib.hid (BF.out.trans (hb.mono BF.out.size))
        clear hb
        go_wp2_with fail
        go_ret
        exact ⟨rfl, BG.out⟩
end Go.Proofs.YtmdepkehpohgeaaGreat.Scr
/- The laws of stage 16, as their cards ask. -/
namespace Go.Proofs.YtmdepkehpohgeaaGreat.Scr
open Go.RowKit Go.Maps Go.ChangeShapes Go.WideShapes Go.ChangeAt Fifo Orow Word
set_option linter.unusedVariables false

theorem wf_64 {x : Int} (h : (Lit.int .i64 x).wf = true) : I64 x := by
  simp only [Lit.wf, Bool.and_eq_true, decide_eq_true_eq] at h
  have e1 : IntKind.i64.min = -9223372036854775808 := rfl
  have e2 : IntKind.i64.max = 9223372036854775807 := rfl
  rw [e1, e2] at h
  exact h
theorem does_law (a0 : Option Addr) (len0 cap0 : Nat) (l0 : List Win.Dv) (a1 : Option Addr) (len1 cap1 : Nat) (l1 : List Dd) (w : World) (h0 : Win.RowV w a0 len0 l0) (n0 : a0 = none → len0 = 0 ∧ cap0 = 0) (c0 : len0 ≤ cap0) (m0 : len0 ≤ maxLen) (z0 : len0 < 140737488355328) (h1 : RowDd w a1 len1 l1) (n1 : a1 = none → len1 = 0 ∧ cap1 = 0) (c1 : len1 ≤ cap1) (m1 : len1 ≤ maxLen) (z1 : len1 < 140737488355328) :
    Calls Tryz.prog 3 #[.slice a0 len0 cap0, .slice a1 len1 cap1] w fun e w' => e = .returned (.bool true) ∧ Below w.heap.size w w' :=
  does_walk 0 a0 len0 cap0 l0 a1 len1 cap1 l1 w trivial (Nat.zero_le _) h0 n0 h1 z0 z1
theorem ends_law (w : World) :
    Calls Tryz.prog 4 #[] w fun e w' => e = .returned (.bool true) ∧ Below w.heap.size w w' := ends_walk 0 w trivial (Nat.zero_le _)
end Go.Proofs.YtmdepkehpohgeaaGreat.Scr
