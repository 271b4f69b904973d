/- Package window's contracts: Right, Decode, At (Device_any, Reach_any: Yc). -/
import Derived.Test.YtfpammfcchboaaaYd
import Derived.Test.YtfpammfcchboaaaVd
import Derived.Shelf.SlicesQ.IndexFunc
namespace Go.Proofs.Ytfpammfcchboaaa.Win
open Go.RowKit Go.Maps Go.ChangeShapes Go.WideShapes Go.ChangeAt Go.Shelf Go.Lib Fifo Orow Go.Proofs.Ytfpammfcchboaaa.Access
open Go.Proofs.Ytfpammfcchboaaa.Reach (ret_bool bcell RowR fl encS Two two_new alloc_keep)
set_option linter.unusedVariables false

/-- What the package needs of variables that are laid: nothing. -/
def WT (w : World) : Prop := True
theorem WT.keep {w w' : World} (h : WT w) (hb : Below w.heap.size w w') : WT w' := trivial

/-- The first device of a right row whose window is such. -/
def numV (l : List Dv) (p : Int × Int → Bool) : Option Nat := if rowB l then fst (fun d => p (d.F, d.T)) l else none
theorem num_no {l : List Dv} {p : Int × Int → Bool} (h : rowB l = false) : numV l p = none := by unfold numV; rw [if_neg (by rw [h]; simp)]
theorem num_is {l : List Dv} {p : Int × Int → Bool} (h : rowB l = true) : numV l p = fst (fun d => p (d.F, d.T)) l := by unfold numV; rw [if_pos h]
def idxV : Option Nat → Int
  | some i => (i : Nat)
  | none => -1
theorem idx_fst (l : List Dv) (p : Int × Int → Bool) (n : Nat) (hn : l.length = n) : Lib.idxBy (fun _ y => p y) ((wl l).take n) default = idxV (fst (fun d => p (d.F, d.T)) l) := by
  have hw := wl_length l
  cases e : fst (fun d => p (d.F, d.T)) l with
  | none =>
    refine Lib.idxBy_miss _ _ n _ (fun j hj => ?_)
    rw [wl_get (by omega)]
    exact fst_none e j (by omega)
  | some i =>
    obtain ⟨h1, h2, h3⟩ := fst_some e
    refine Lib.idxBy_hit (fun _ y => p y) (wl l) n i default (by omega) (by omega) ?_ (fun j hj => ?_)
    · show p (wl l)[i]! = true
      rw [wl_get h1]
      exact h2
    · show p (wl l)[j]! = false
      rw [wl_get (by omega)]
      exact h3 j hj
/-- What is asked of each window, by a function at hand. -/
def Tells (g : Nat) (lb : Array Value) (p : Int × Int → Bool) (w : World) : Prop :=
  ∀ (W : World) (x : Int × Int), Below w.heap.size w W → Calls Try.prog g (#[.agg (encS x).toArray] ++ lb) W fun e w' => e = .returned (.bool (p x)) ∧ Below W.heap.size W w'
theorem Tells.pred {g : Nat} {lb : Array Value} {p : Int × Int → Bool} {w w1 : World} (h : Tells g lb p w) (hb : Below w.heap.size w w1) : PredBelow Try.prog g lb (fun x => .agg (encS x).toArray) p w1 :=
  fun W x hW => (h W x (hb.trans (hW.mono hb.size))).mono fun e w' ⟨he, h2⟩ => ⟨he, hW.trans (h2.mono hW.size)⟩
theorem index_nil (f : Value) (w : World) : Calls Try.prog 49 #[.slice none 0 0, f] w fun e w' => e = .returned (.int .i64 (-1)) ∧ Below w.heap.size w w' := by
  go_enter Try.func49, Try.ntmps49
  go_wp2_with fail
  refine wp_loop_rounds 1 ?_
  rw [rounds_succ]
  go_wp2_with fail
  go_ret
  exact ⟨rfl, Below.refl _ _⟩
theorem index_any (g2 n : Nat) (l : List Dv) (p : Int × Int → Bool) (g : Nat) (lb : Array Value) (w w1 : World) (hn : n ≤ 1000000) (hl : l.length = n) (eg : ∀ args w, (callFunc g args).run Try.prog w = .ok (.enter g args) w) (hp : Tells g lb p w) (hb : Below w.heap.size w w1)
    (hr : RowR w1 (some ⟨g2, 0, none⟩) n (wl l)) (hlt : g2 < w1.heap.size) :
    Calls Try.prog 49 #[.slice (some ⟨g2, 0, none⟩) n n, .func (.func g) #[] lb] w1 fun e w' => e = .returned (.int .i64 (idxV (fst (fun d => p (d.F, d.T)) l))) ∧ Below w1.heap.size w1 w' := by
  have hc := AnyQ.slices_IndexFunc Try.indexReach 2 Try.isAgg41 Try.sizeOf41 encS (fun _ => rfl) p g lb eg g2 0 n n (wl l) w1 (hp.pred hb) (by rw [wl_length]; omega) (by omega) hlt (fun j hj i v hi => by
    rw [wl_length] at hj
    obtain ⟨b, off, e1, c0, c1⟩ := hr.2 j (by omega)
    simp only [Option.some.injEq, Addr.mk.injEq, and_true] at e1
    obtain ⟨rfl, rfl⟩ := e1
    match i, hi with
    | 0, hi => simp [encS] at hi; rw [Nat.add_zero, ← hi]; simpa using c0
    | 1, hi => simp [encS] at hi; rw [← hi]; simpa using c1
    | i + 2, hi => simp [encS] at hi)
  rw [idx_fst l p n hl] at hc
  exact hc
theorem ret_num {a b : Int} {p q : Bool} (h : a = b) (k : p = q) : Ending.returned (.tuple #[.int .i64 a, .bool p]) = .returned (.tuple #[.int .i64 b, .bool q]) := by rw [h, k]
set_option maxHeartbeats 1000000 in
theorem number_any (a : Option Addr) (n cap : Nat) (l : List Dv) (p : Int × Int → Bool) (g : Nat) (lb : Array Value) (w : World) (hn : n ≤ 1000000) (h : RowV w a n l) (eg : ∀ args w, (callFunc g args).run Try.prog w = .ok (.enter g args) w) (hp : Tells g lb p w) :
    Calls Try.prog 31 #[.slice a n cap, .func (.func g) #[] lb] w fun e w' => e = .returned (.tuple #[.int .i64 (((numV l p).getD 0 : Nat) : Int), .bool (numV l p).isSome]) ∧ Below w.heap.size w w' := by
  obtain ⟨fv, hfv⟩ : ∃ fv, fv = Value.func (.func g) #[] lb := ⟨_, rfl⟩
  have Hl := Lib.hid h.1
  have HW := Lib.hid (windows_any a n cap l w hn h)
  have Eg := Lib.hid eg
  have Hp := Lib.hid hp
  have Hfv := Lib.hid hfv
  rw [← hfv]
  clear h eg hp hfv
  go_enter Try.func31, Try.ntmps31
  go_wp2_with fail
  refine HW.out.mono ?_
  rintro e w1 ⟨⟨rfl, hr⟩ | ⟨rfl, hr, hR, hlt⟩, hb1⟩
  · have B1 := Lib.hid hb1
    have Hno := Lib.hid (num_no (p := p) hr)
    clear hb1 hr
    go_wp2_with fail
    refine (index_nil fv w1).mono ?_
    rintro e w2 ⟨rfl, hb2⟩
    have B2 := Lib.hid (B1.out.trans (hb2.mono B1.out.size))
    clear hb2
    go_wp2_with fail
    go_ret2
    exact ⟨ret_num (by rw [Hno.out]; rfl) (by rw [Hno.out]; rfl), B2.out⟩
  · have his := num_is (p := p) hr
    have IX := index_any w.heap.size n l p g lb w w1 hn Hl.out Eg.out Hp.out hb1 hR hlt
    rw [← Hfv.out] at IX
    obtain ⟨od, hod⟩ : ∃ od, fst (fun d => p (d.F, d.T)) l = od := ⟨_, rfl⟩
    rw [hod] at IX
    have His := Lib.hid (his.trans hod)
    have IX := Lib.hid IX
    have B1 := Lib.hid hb1
    clear hb1 his hr hR hlt hod HW
    cases od with
    | none =>
      have e1 : idxV none = -1 := rfl
      rw [e1] at IX
      clear e1
      go_wp2_with fail
      refine IX.out.mono ?_
      rintro e w2 ⟨rfl, hb2⟩
      have B2 := Lib.hid (B1.out.trans (hb2.mono B1.out.size))
      clear hb2
      go_wp2_with fail
      go_ret2
      exact ⟨ret_num (by rw [His.out]; rfl) (by rw [His.out]; rfl), B2.out⟩
    | some i =>
      have e1 : idxV (some i) = (i : Int) := rfl
      rw [e1] at IX
      clear e1
      have d1 : decide ((i : Int) < 0) = false := decide_eq_false (by omega)
      go_wp2_with fail
      refine IX.out.mono ?_
      rintro e w2 ⟨rfl, hb2⟩
      have B2 := Lib.hid (B1.out.trans (hb2.mono B1.out.size))
      clear hb2
      go_wp2_with fail
      go_ret2
      exact ⟨ret_num (by rw [His.out]; rfl) (by rw [His.out]; rfl), B2.out⟩

theorem Right_any (a : Option Addr) (n cap : Nat) (l : List Dv) (b : Bool) (w : World) (hn : n ≤ 1000000) (hc : n ≤ cap) (ht : WT w) (h : RowV w a n l) (hb : rowB l = b) :
    Calls Try.prog 13 #[.slice a n cap] w fun e w' => e = .returned (.bool b) ∧ Below w.heap.size w w' := by
  have HW := Lib.hid (windows_any a n cap l w hn h)
  clear h
  go_enter Try.func13, Try.ntmps13
  go_wp2_with fail
  refine HW.out.mono ?_
  rintro e w1 ⟨⟨rfl, hr⟩ | ⟨rfl, hr, hR, hlt⟩, hb1⟩
  all_goals
    have B1 := Lib.hid hb1
    have hbb := Lib.hid (hb.symm.trans hr)
    clear hb1 hr hb HW
    go_wp2_with fail
    go_ret
    exact ⟨Reach.ret_bool hbb.out.symm, B1.out⟩

/-- The window of what is asked, or the address, lies in a block. -/
theorem inTells (blk : Nat) (f t : Int) (w : World) (h : Two w blk f t) : Tells 32 #[.pointer (some ⟨blk, 0, none⟩)] (fun y => Reach.inB f t y.1 y.2) w := by
  intro W x hW
  obtain ⟨x0, x1⟩ := x
  have h2 := h.keep hW
  obtain ⟨c0, c1⟩ := h2.keep ((Below.refl W.heap.size W).alloc (Nat.le_refl _) (.cells #[.int .u32 x0, .int .u32 x1] 41))
  clear h h2 hW
  show Calls Try.prog _ #[.agg #[.int .u32 x0, .int .u32 x1], .pointer (some ⟨blk, 0, none⟩)] W _
  go_enter Try.func32, Try.ntmps32
  go_wp2_with fail
  refine (Reach.In_any f t x0 x1 _).mono ?_
  rintro e w1 ⟨rfl, hb⟩
  have B := Lib.hid (((Below.refl W.heap.size W).alloc (Nat.le_refl _) _).trans (hb.mono (by simp)))
  clear hb c0 c1
  go_wp2_with fail
  go_ret
  exact ⟨rfl, B.out⟩
theorem hasTells (blk : Nat) (q : Int) (w : World) (h : w.cell? ⟨blk, 0, none⟩ = some (.int .u32 q)) : Tells 38 #[.pointer (some ⟨blk, 0, none⟩)] (fun y => Reach.hasB y.1 y.2 q) w := by
  intro W x hW
  obtain ⟨x0, x1⟩ := x
  have h2 := cell_keep hW h
  have c0 := cell_keep ((Below.refl W.heap.size W).alloc (Nat.le_refl _) (.cells #[.int .u32 x0, .int .u32 x1] 41)) h2
  clear h h2 hW
  show Calls Try.prog _ #[.agg #[.int .u32 x0, .int .u32 x1], .pointer (some ⟨blk, 0, none⟩)] W _
  go_enter Try.func38, Try.ntmps38
  go_wp2_with fail
  refine (Reach.Has_any x0 x1 q _).mono ?_
  rintro e w1 ⟨rfl, hb⟩
  have B := Lib.hid (((Below.refl W.heap.size W).alloc (Nat.le_refl _) _).trans (hb.mono (by simp)))
  clear hb c0
  go_wp2_with fail
  go_ret
  exact ⟨rfl, B.out⟩
theorem at_num (l : List Dv) (q : Int) : atV l q = numV l (fun y => Reach.hasB y.1 y.2 q) := rfl
theorem At_any (a : Option Addr) (n cap : Nat) (l : List Dv) (p : Int) (i : Nat) (b : Bool) (w : World) (hn : n ≤ 1000000) (hc : n ≤ cap) (ht : WT w) (h : RowV w a n l) (hi : (atV l p).getD 0 = i) (hb : (atV l p).isSome = b) :
    Calls Try.prog 18 #[.slice a n cap, .int .u32 p] w fun e w' => e = .returned (.tuple #[.int .i64 (i : Nat), .bool b]) ∧ Below w.heap.size w w' := by
  have hmf : ∀ (fn : Fn) (first cap : Array Value) (w : World), (Instr.makeFunc fn first cap).run Try.prog w = .ok (.func fn first cap) w := fun _ _ _ _ => rfl
  have eg : ∀ args w, (callFunc 38 args).run Try.prog w = .ok (.enter 38 args) w := enters_of Try.func38 (by kernel_rfl) rfl
  obtain ⟨g, hg⟩ : ∃ g, w.heap.size = g := ⟨_, rfl⟩
  have B0 := Lib.hid ((Below.refl w.heap.size w).alloc (Nat.le_refl _) (.cells #[.int .u32 p] 24))
  have hcell : (w.alloc (.cells #[.int .u32 p] 24)).cell? ⟨w.heap.size, 0, none⟩ = some (.int .u32 p) := World.cell?_alloc_at _ _ _ 0 rfl
  rw [hg] at hcell
  have HN := number_any a n cap l (fun y => Reach.hasB y.1 y.2 p) 38 #[.pointer (some ⟨g, 0, none⟩)] (w.alloc (.cells #[.int .u32 p] 24)) hn (h.keep B0.out) eg (hasTells g p _ hcell)
  rw [← at_num, hi, hb] at HN
  have HN := Lib.hid HN
  clear h hi hb hcell eg
  go_enter Try.func18, Try.ntmps18
  go_wp2_with fail
  refine HN.out.mono ?_
  rintro e w1 ⟨rfl, hb1⟩
  have B1 := Lib.hid (B0.out.trans (hb1.mono B0.out.size))
  clear hb1
  go_wp2_with fail
  go_ret2
  exact ⟨rfl, B1.out⟩
theorem dcd_num {l : List Dv} {a : Ac} {f t : Int} (h : a.right = true) (hf : f = a.A) (ht : t = a.A + a.S - 1) : numV l (fun y => Reach.inB f t y.1 y.2) = dcd l a := by
  subst hf; subst ht
  unfold dcd numV
  rw [h, Bool.true_and]
  rfl
set_option maxRecDepth 100000 in
set_option maxHeartbeats 4000000 in
theorem Decode_core (a : Option Addr) (n cap : Nat) (l : List Dv) (W2 : Int) (r2 : Bool) (A S D : Int) (w : World) (hn : n ≤ 1000000) (hA : 0 ≤ A) (hA' : A < 4294967296) (hD : 0 ≤ D) (hD' : D < 4294967296) (h : RowV w a n l) :
    Calls Try.prog 14 #[.slice a n cap, acc W2 r2 A S D] w fun e w' => e = .returned (.tuple #[.int .i64 (((dcd l ⟨W2, r2, A, S, D⟩).getD 0 : Nat) : Int), .int .i64 (offV l ⟨W2, r2, A, S, D⟩ (dcd l ⟨W2, r2, A, S, D⟩)), .bool (dcd l ⟨W2, r2, A, S, D⟩).isSome]) ∧ Below w.heap.size w w' := by
  have hmf : ∀ (fn : Fn) (first cap : Array Value) (w : World), (Instr.makeFunc fn first cap).run Try.prog w = .ok (.func fn first cap) w := fun _ _ _ _ => rfl
  have eg : ∀ args w, (callFunc 32 args).run Try.prog w = .ok (.enter 32 args) w := enters_of Try.func32 (by kernel_rfl) rfl
  have Eg := Lib.hid eg
  have B0 := Lib.hid ((Below.refl w.heap.size w).alloc (Nat.le_refl _) (.cells #[.int .i64 W2, .bool r2, .int .u32 A, .int .i64 S, .int .u32 D] 28))
  obtain ⟨q0, q1, q2, q3, q4⟩ := five_new w W2 r2 A S D 28
  have Hr := Lib.hid h
  obtain ⟨ab, hab⟩ : ∃ ab, rightB W2 r2 A S D = ab := ⟨_, rfl⟩
  obtain ⟨f, hf⟩ : ∃ f, reF ab A = f := ⟨_, rfl⟩
  obtain ⟨t, ht⟩ : ∃ t, reT ab A S = t := ⟨_, rfl⟩
  have RA := Lib.hid (fun w => Access.Reach_any W2 r2 A S D f t ab w hA hA' hD hD' hab hf ht)
  have Hab := Lib.hid hab
  have Hf := Lib.hid hf
  have Ht := Lib.hid ht
  obtain ⟨od, hod⟩ : ∃ od, dcd l ⟨W2, r2, A, S, D⟩ = od := ⟨_, rfl⟩
  rw [hod]
  have HD := Lib.hid hod
  clear h hab hf ht hod eg
  go_enter Try.func14, Try.ntmps14
  go_wp2_with fail
  refine (RA.out _).mono ?_
  rintro e w1 ⟨rfl, hb1⟩
  have B1 := Lib.hid (B0.out.trans (hb1.mono B0.out.size))
  clear hb1 B0 RA q0 q1 q2 q3 q4
  cases ab with
  | false =>
    have hno : od = none := HD.out.symm.trans (dcd_no (by show (rightB W2 r2 A S D && _) = false; rw [Hab.out]; rfl))
    subst hno
    have B2 := Lib.hid (B1.out.alloc B1.out.size (.cells #[.int .u32 f, .int .u32 t] 41))
    go_wp2_with fail
    go_ret3
    exact ⟨rfl, B2.out⟩
  | true =>
  have hfA : f = A := by rw [← Hf.out]; rfl
  have htA : t = A + S - 1 := by rw [← Ht.out]; rfl
  have Hnum := Lib.hid ((dcd_num (l := l) (a := ⟨W2, r2, A, S, D⟩) Hab.out hfA htA).trans HD.out)
  clear htA
  subst hfA
  obtain ⟨R, hR⟩ : ∃ R, w1.heap.size = R := ⟨_, rfl⟩
  obtain ⟨X, hX⟩ : ∃ X, X = w1.alloc (.cells #[.int .u32 f, .int .u32 t] 41) := ⟨_, rfl⟩
  have P := Lib.hid (show Two X R f t by rw [hX, ← hR]; exact two_new _ _ _ _)
  have BX := Lib.hid (show Below w.heap.size w X by rw [hX]; exact B1.out.alloc B1.out.size _)
  have HN := number_any a n cap l (fun y => Reach.inB f t y.1 y.2) 32 #[.pointer (some ⟨R, 0, none⟩)] X hn (Hr.out.keep BX.out) Eg.out (inTells R f t X P.out)
  rw [Hnum.out] at HN
  rw [hX] at HN
  have HN := Lib.hid HN
  have HX := Lib.hid hX
  clear hX
  go_wp2_with fail
  refine HN.out.mono ?_
  rintro e w2 ⟨rfl, hb2⟩
  rw [← HX.out] at hb2
  have B2 := Lib.hid (BX.out.trans (hb2.mono BX.out.size))
  have P2 := Lib.hid (P.out.keep hb2)
  clear hb2 HN HX hR P BX B1 hmf
  cases od with
  | none =>
    go_wp2_with fail
    go_ret3
    exact ⟨rfl, B2.out⟩
  | some i =>
    have hfs : fst (fun d => d.holds f (f + S - 1)) l = some i ∧ rowB l = true := by
      have := HD.out
      unfold dcd at this
      split at this
      · rename_i hh
        exact ⟨this, by simp at hh; exact hh.2⟩
      · cases this
    obtain ⟨k1, k2, k3⟩ := fst_some hfs.1
    have hdr := ((rowB_iff.1 hfs.2).2 i k1).1
    obtain ⟨wf1, wf2⟩ := win_on hdr
    have hin : l[i]!.F ≤ f := by
      unfold Dv.holds Reach.inB at k2
      have := of_decide_eq_true k2
      omega
    rw [wf1] at hin
    have hi : i < n := by rw [← Hr.out.1]; exact k1
    have i1 : (0 : Int) ≤ (i : Int) := by omega
    have i2 : (i : Int) < (n : Int) := by omega
    obtain ⟨b, off, rfl, ce⟩ := Hr.out.2.2 i hi
    have E1 := Lib.hid (cell_keep B2.out ce.c1)
    have hok := (Hr.out.2.1 i hi).2.1
    obtain ⟨xB, hxB⟩ : ∃ x, l[i]!.B = x := ⟨_, rfl⟩
    rw [hxB] at E1 hin hok
    have HxB := Lib.hid hxB
    have wq0 : IntKind.u32.wrap (f - xB) = f - xB := IntWalk.u32_in _ (by omega)
    have wq : IntKind.i64.wrap (f - xB) = f - xB := IntWalk.i64_in _ (by omega)
    clear hfs k1 k2 k3 hdr wf1 wf2 hin hok hxB ce hi
    go_wp2_with fail
    refine wp_region_ext (by kernel_rfl) (by kernel_rfl) ?_
    intro Y hY
    obtain rfl := hY.out
    clear hY
    have y1 := ext_cell E1.out
    have y2 := ext_cell P2.out.1
    repeat (go_big_quiet_step (fail))
    refine wpQuiet_nil ?_
    intro w9 hw9
    have h9 : Below Y.heap.size Y w9 := by obtain ⟨p9, rfl⟩ := hw9; exact ext_below Y p9
    have H9 := Lib.hid (B2.out.trans (h9.mono B2.out.size))
    clear hw9 h9 y1 y2
    go_wp2_with fail
    go_ret3
    exact ⟨ret_dec rfl (show f - xB = f - l[i]!.B by rw [HxB.out]) rfl, H9.out⟩
theorem Decode_any (a : Option Addr) (n cap : Nat) (l : List Dv) (W2 : Int) (r2 : Bool) (A S D : Int) (i : Nat) (o : Int) (b : Bool) (w : World) (hn : n ≤ 1000000) (hc : n ≤ cap) (hA : 0 ≤ A) (hA' : A < 4294967296) (hD : 0 ≤ D) (hD' : D < 4294967296) (ht : WT w) (h : RowV w a n l)
    (hi : (dcd l ⟨W2, r2, A, S, D⟩).getD 0 = i) (ho : offV l ⟨W2, r2, A, S, D⟩ (dcd l ⟨W2, r2, A, S, D⟩) = o) (hb : (dcd l ⟨W2, r2, A, S, D⟩).isSome = b) :
    Calls Try.prog 14 #[.slice a n cap, acc W2 r2 A S D] w fun e w' => e = .returned (.tuple #[.int .i64 (i : Nat), .int .i64 o, .bool b]) ∧ Below w.heap.size w w' := by
  subst hi; subst ho; subst hb
  exact Decode_core a n cap l W2 r2 A S D w hn hA hA' hD hD' h
end Go.Proofs.Ytfpammfcchboaaa.Win
