/- Which of the regions of an access's world decides: decider. -/
import Derived.Test.YtmkponhhinjpkaaGreatTe
import Derived.Test.YtmkponhhinjpkaaGreatFy
import Derived.Laws.CopyOwn
import Derived.Deep.RegionLaw
namespace Go.Proofs.YtmkponhhinjpkaaGreat.Table
open Go.RowKit Fifo Go.Proofs.YtmkponhhinjpkaaGreat.Access
set_option linter.unusedVariables false
attribute [local go_sem] Oper.semAt_some

/- A whole struct stored into a block that is known. -/
theorem at_store {P : Program} {ops : Array Oper} {Q : Exit → Act → World → Prop} {rest : List Oper} {op : Oper} {a : Act} {w : World} (ty : TypeId) (x y : Operand) (ho : op.op = .store ty x y) (h : Hid (wpList P ops Q (op :: rest) a w)) : wpList P ops Q (op :: rest) a w := h.out
theorem at_storeIn {F : Fence} {n : Nat} {P : Program} {ops : Array Oper} {Q : Exit → Act → World → Prop} {rest : List Oper} {op : Oper} {a : Act} {w : World} (ty : TypeId) (x y : Operand) (ho : op.op = .store ty x y) (h : Hid (wpListIn F n P ops Q (op :: rest) a w)) : wpListIn F n P ops Q (op :: rest) a w := h.out
theorem set_blk {w : World} {g : Nat} {t : TypeId} {old vs : List Value} (hg : Blk w g t old) : Blk (w.setRow g vs.toArray) g t vs := setRow_heap w g old.toArray vs.toArray t (0, 0) hg
theorem set_only (w : World) (g : Nat) (cs : Array Value) : Only (fun j => j = g) w (w.setRow g cs) := by
  refine ⟨rfl, rfl, rfl, by simp [World.setRow], fun k hk hn => ?_⟩
  have : g ≠ k := fun e => hn e.symm
  simp [World.setRow, Array.getElem?_modify, this]
theorem store_blk {P : Program} {ops : Array Oper} {rest : List Oper} {op : Oper} {a : Act} {w : World} {Q : Exit → Act → World → Prop} (hgd : op.guard = none) (ty : TypeId) (x y : Operand) (ho : op.op = .store ty x y)
    (g : Nat) (vs : List Value) (hx : a.eval x = .pointer (some ⟨g, 0, none⟩)) (hy : a.eval y = .agg vs.toArray) (t : TypeId) (old : List Value) (hg : Blk w g t old) (hi : (P.info? ty).map (·.size) = some vs.length) (hold : old.length = vs.length) (h1 : vs.toArray.all (·.oneCell') = true)
    (h : ∀ X, Blk X g t vs → Only (fun j => j = g) w X → wpList P ops Q rest (a.put op.dst undef) X) : wpList P ops Q (op :: rest) a w :=
  wpList_store_row hgd ty x y ho g vs.toArray hx hy t old.toArray hg (by simpa using hi) (by simpa using hold) h1 (h _ (set_blk hg) (set_only w g _))
theorem storeIn_blk {F : Fence} {n : Nat} {P : Program} {ops : Array Oper} {rest : List Oper} {op : Oper} {a : Act} {w : World} {Q : Exit → Act → World → Prop} (hgd : op.guard = none) (ty : TypeId) (x y : Operand) (ho : op.op = .store ty x y)
    (g : Nat) (vs : List Value) (hx : a.eval x = .pointer (some ⟨g, 0, none⟩)) (hy : a.eval y = .agg vs.toArray) (t : TypeId) (old : List Value) (hg : Blk w g t old) (hi : (P.info? ty).map (·.size) = some vs.length) (hold : old.length = vs.length) (h1 : vs.toArray.all (·.oneCell') = true)
    (h : ∀ X, Blk X g t vs → Only (fun j => j = g) w X → wpListIn F n P ops Q rest (a.put op.dst undef) X) : wpListIn F n P ops Q (op :: rest) a w := by
  refine wpListIn_plain hgd fun K hK => ?_
  unfold Oper.wpIn
  refine ⟨by simp [Oper.about, ho], ?_⟩
  rw [Oper.semAt_plain F _ _ (by rw [ho]; intro c hc; cases hc)]
  unfold execOp
  simp only [ho, hx, hy, Instr.storeAt, Instr.sureAddr, Sem.run_bind, Sem.run_pure, Result.andThen_ok, run_storeVar_row w g t ty old.toArray vs.toArray hg (by simpa using hi) (by simpa using hold) h1]
  exact hK _ _ (h _ (set_blk hg) (set_only w g _))

/-- Does x take the place of what decided ahead of it? -/
def bestN (a : Ac) : Option (Rg × Nat) → (Rg × Nat) → Bool
  | none, x => x.1.has a
  | some y, x => x.1.has a && decide (y.1.K < x.1.K)
def stepN (a : Ac) (s : Option (Rg × Nat)) (x : Rg × Nat) : Option (Rg × Nat) := if bestN a s x then some x else s
def foldN (a : Ac) (l : List (Rg × Nat)) : Option (Rg × Nat) := l.foldl (stepN a) none
theorem foldN_snoc (a : Ac) (l : List (Rg × Nat)) (x : Rg × Nat) : foldN a (l ++ [x]) = stepN a (foldN a l) x := by simp [foldN]
theorem foldN_dec (d : List Rg) (a : Ac) : ∀ k, k ≤ d.length → foldN a (nums (d.take k) a.W) = (decTo d a k).map fun b => (d[b]!, b)
  | 0, _ => rfl
  | k + 1, hk => by
    have ih := foldN_dec d a k (by omega)
    by_cases h : d[k]!.o = true ∧ d[k]!.W = a.W
    · rw [nums_step (by omega), if_pos (by simpa using h), foldN_snoc, ih]
      unfold stepN
      have e : bestN a ((decTo d a k).map fun b => (d[b]!, b)) (d[k]!, k) = better d a k (decTo d a k) := by cases decTo d a k <;> rfl
      rw [e]
      cases hb : better d a k (decTo d a k) with
      | true => rw [dec_yes hb]; rfl
      | false => rw [dec_no hb]; rfl
    · rw [nums_off (by omega) h, ih]
      have hh : d[k]!.has a = false := by
        cases e : d[k]!.has a with
        | false => rfl
        | true => obtain ⟨h1, h2⟩ := has_stand e; exact absurd ⟨(stand_parts h1).1, h2.symm⟩ h
      have hb : better d a k (decTo d a k) = false := by cases decTo d a k <;> simp only [better, hh, Bool.false_and]
      rw [dec_no hb]
theorem foldN_has {a : Ac} : ∀ {l : List (Rg × Nat)} {y : Rg × Nat} {s : Option (Rg × Nat)}, (∀ z, s = some z → z.1.has a = true) → l.foldl (stepN a) s = some y → y.1.has a = true
  | [], y, s, hs, h => hs y h
  | x :: l, y, s, hs, h => by
    refine foldN_has (s := stepN a s x) (fun z hz => ?_) h
    unfold stepN at hz
    split at hz
    · rename_i hb
      cases hz
      cases s <;> simp [bestN] at hb
      · exact hb
      · exact hb.1
    · exact hs z hz
theorem above_has {g h : Rg} {a : Ac} (hg : g.has a = true) (hh : h.has a = true) : above g h = decide (h.K < g.K) := by
  have s1 := (has_stand hg).1
  have s2 := (has_stand hh).1
  unfold above Region.aboveV
  rw [show Region.standB g.o g.W g.F g.T g.K = true from s1, show Region.standB h.o h.W h.F h.T h.K = true from s2]
  rfl
/-- What decides, as a value. -/
def decV (l : List Rg) (o : Option Nat) : Rg × Nat := (o.map fun b => (l[b]!, b)).getD (zero, 0)
theorem callsIn_round {lp n : Nat} {P : Program} {f : FuncId} {args : Array Value} {w : World} {R : Ending → World → Prop} (h : Calls P f args w R) : CallsIn (Fence.wide.inRound lp) n P f args w R := (callsIn_wide (n := n)).2 h

set_option maxRecDepth 100000 in
set_option maxHeartbeats 4000000 in
theorem decider_any (a : Option Addr) (n cap : Nat) (d : List Rg) (W2 : Int) (r2 : Bool) (A S D : Int) (ox : Rg × Nat) (ob : Bool) (w : World) (hn : n ≤ 1000000) (hA : 0 ≤ A) (hA' : A < 4294967296) (hD : 0 ≤ D) (hD' : D < 4294967296) (h : RowG w a n d)
    (hox : decV d (decTo d ⟨W2, r2, A, S, D⟩ n) = ox) (hob : (decTo d ⟨W2, r2, A, S, D⟩ n).isSome = ob) :
    Calls Tryz.prog 36 #[.agg #[.slice a n cap], acc W2 r2 A S D] w fun e w' => e = .returned (.tuple #[numV ox, .bool ob]) ∧ Below w.heap.size w w' := by
  have Hr := Lib.hid h
  obtain ⟨c, hc⟩ : ∃ c, w.heap.size = c := ⟨_, rfl⟩
  have HK := Lib.hid (show ∀ j, SB a n j → j < c from fun j hj => hc ▸ SB.lt h hj)
  have Hc := Lib.hid hc
  clear h
  refine (callsIn_wide (n := 4)).1 ?_
  refine callsIn_of_wp_marks Tryz.func36 rfl trivial ?_ rfl
  simp only [Tryz.ntmps36, List.size_toArray, List.length_cons, List.length_nil, Nat.reduceAdd, Nat.reduceSub, Array.replicate_succ, Array.replicate_zero, List.push_toArray, List.append_toArray, List.nil_append, List.cons_append]
  refine wpIn_wide.2 ?_
  go_wp2_with fail
  refine calls_letter ?_
  intro X hX
  have HB := Lib.hid (show Below w.heap.size w X by rw [hX.out]; repeat (first | exact Below.refl _ _ | refine Below.alloc ?_ (by simp; try omega) _))
  have hXs : X.heap.size = c + 1 + 1 + 1 + 1 := by rw [hX.out]; simp [hc]
  have HA5 := Lib.hid (show Blk X (c + 1) 25 [.int .i64 W2, .bool r2, .int .u32 A, .int .i64 S, .int .u32 D] from by
    rw [hX.out]
    have := ((Blk.new (w.alloc (.cells #[.slice a n cap] 56)) 25 [.int .i64 W2, .bool r2, .int .u32 A, .int .i64 S, .int .u32 D]).alloc (.cells #[.bool false, .int .i64 0, .int .u32 0, .int .u32 0, .bool false, .bool false, .int .i64 0, .bool false, .int .i64 0] 51)).alloc (.cells #[.bool false] 4)
    rw [World.size_alloc, hc] at this
    exact this)
  have HF := Lib.hid (show Blk X (c + 1 + 1) 51 (encN (zero, 0)) from by
    rw [hX.out]
    have := (Blk.new ((w.alloc (.cells #[.slice a n cap] 56)).alloc (.cells #[.int .i64 W2, .bool r2, .int .u32 A, .int .i64 S, .int .u32 D] 25)) 51 (encN (zero, 0))).alloc (.cells #[.bool false] 4)
    rw [World.size_alloc, World.size_alloc, hc] at this
    exact this)
  have HI := Lib.hid (show Blk X (c + 1 + 1 + 1) 4 [.bool false] from by
    rw [hX.out]
    have := Blk.new (((w.alloc (.cells #[.slice a n cap] 56)).alloc (.cells #[.int .i64 W2, .bool r2, .int .u32 A, .int .i64 S, .int .u32 D] 25)).alloc (.cells #[.bool false, .int .i64 0, .int .u32 0, .int .u32 0, .bool false, .bool false, .int .i64 0, .bool false, .int .i64 0] 51)) 4 [.bool false]
    rw [World.size_alloc, World.size_alloc, World.size_alloc, hc] at this
    exact this)
  have HXs := Lib.hid hXs
  clear hX
  refine (of_any a n cap W2 _).mono ?_
  rintro e w2 ⟨rfl, hb0, hb1, hb2⟩
  rw [hXs] at hb0 hb1 ⊢
  have Hb0 := Lib.hid hb0
  have Hb1 := Lib.hid hb1
  have HA2 := Lib.hid (HA5.out.keep hb2)
  have HF2 := Lib.hid (HF.out.keep hb2)
  have HI2 := Lib.hid (HI.out.keep hb2)
  have HB2 := Lib.hid (HB.out.trans (hb2.mono HB.out.size))
  have Hr2 := Lib.hid (Hr.out.keep HB2.out)
  have HSq := Lib.hid (of_seq 3 (by omega) (c + 1 + 1 + 1 + 1) (c + 1 + 1 + 1 + 1 + 1) a n cap d W2 w2 hn hb0 hb1 Hr2.out)
  have hlt := hb1.lt
  clear hb0 hb1 hb2 HB HA5 HF HI hXs HXs hc
  have Hdl := Lib.hid Hr.out.1
  obtain ⟨l, hl⟩ : ∃ l, nums d W2 = l := ⟨_, rfl⟩
  rw [hl] at HSq
  have Hl := Lib.hid hl
  clear hl Hr Hr2
  obtain ⟨ac, hac⟩ : ∃ ac : Ac, ac = ⟨W2, r2, A, S, D⟩ := ⟨_, rfl⟩
  have Hend := Lib.hid (show (foldN ac l).getD (zero, 0) = ox ∧ (foldN ac l).isSome = ob by
    have h1 := foldN_dec d ac n (by rw [Hdl.out]; exact Nat.le_refl _)
    rw [List.take_of_length_le (by rw [Hdl.out]; exact Nat.le_refl _), hac, Hl.out] at h1
    rw [hac, h1]
    exact ⟨hox, by rw [← hob]; simp⟩)
  have Hac := Lib.hid hac
  clear hac hox hob
  go_wp2_with fail
  refine (wpIn_wide (n := 4)).1 ?_
  refine range_law2 rfl (by omega) (gf := 45) (bound := #[]) (lb := #[.pointer (some ⟨c + 1 + 1 + 1 + 1, 0, none⟩), .pointer (some ⟨c + 1 + 1 + 1 + 1 + 1, 0, none⟩)]) rfl trivial (enters_of Tryz.func45 (by kernel_rfl) rfl)
    HSq.out (fun _ => rfl) (fun j hj => by
      rcases hj with rfl | rfl | hj
      · omega
      · exact hlt
      · have := HK.out j hj; omega)
    (fun k T Y => (T = fun j => j = c + 1 + 1 ∨ j = c + 1 + 1 + 1) ∧ Blk Y (c + 1 + 1) 51 (encN ((foldN ac (l.take k)).getD (zero, 0))) ∧ Blk Y (c + 1 + 1 + 1) 4 [.bool (foldN ac (l.take k)).isSome] ∧
      Blk Y (c + 1) 25 [.int .i64 W2, .bool r2, .int .u32 A, .int .i64 S, .int .u32 D] ∧ Below w.heap.size w Y)
    (fun _ _ _ _ => False) (fun j => j = c + 1 + 1 ∨ j = c + 1 + 1 + 1)
    (fun j hj hk => by
      rcases hk with hk | hk | hk
      · omega
      · omega
      · have := HK.out j hk; omega)
    (fun j hj => by omega)
    (fun k T W W' h hk => ⟨h.1, h.2.1.book hk, h.2.2.1.book hk, h.2.2.2.1.book hk, hk.below h.2.2.2.2 HB2.out.size⟩)
    (fun _ _ _ _ _ h _ => h)
    (fun k T W j h hj => by
      rw [h.1] at hj
      rcases hj with rfl | rfl
      · exact h.2.1.lt
      · exact h.2.2.1.lt)
    ⟨rfl, HF2.out, HI2.out, HA2.out, HB2.out⟩ ?round ?done ?stop
  case round =>
    intro lp k T W0 hk
    obtain ⟨x, hx⟩ : ∃ x, l[k]? = some x := ⟨_, List.getElem?_eq_getElem hk⟩
    rw [show elsN l k = #[numV x] by simp [elsN, hx]]
    have Hk := Lib.hid hk
    have Hx := Lib.hid (show foldN ac (l.take (k + 1)) = stepN ac (foldN ac (l.take k)) x by rw [List.take_add_one, hx]; exact foldN_snoc _ _ _)
    obtain ⟨⟨o, V, F, T1, rd, wt, K, lk⟩, i⟩ := x
    clear hk hx
    gi_wp2
    refine ⟨(Below.refl _ _).alloc (Nat.le_refl _) _, ?_⟩
    rintro W hsz hbk ⟨rfl, h1, h2, h3, h4⟩ hT hTW
    have hE : Blk W W0.heap.size 51 [.bool o, .int .i64 V, .int .u32 F, .int .u32 T1, .bool rd, .bool wt, .int .i64 K, .bool lk, .int .i64 (i : Nat)] :=
      (Blk.new W0 51 [.bool o, .int .i64 V, .int .u32 F, .int .u32 T1, .bool rd, .bool wt, .int .i64 K, .bool lk, .int .i64 (i : Nat)]).book hbk
    have t1 := hTW (c + 1 + 1) (.inl rfl)
    have t2 := hTW (c + 1 + 1 + 1) (.inr rfl)
    obtain ⟨q, hq⟩ : ∃ q, (Rg.mk o V F T1 rd wt K lk).has ac = q := ⟨_, rfl⟩
    have Hq := Lib.hid (show Region.hasV o V F T1 K W2 r2 A S D = q by rw [Hac.out] at hq; exact hq)
    obtain ⟨s, hs⟩ : ∃ s, foldN ac (l.take k) = s := ⟨_, rfl⟩
    have Hs := Lib.hid hs
    rw [hs] at h1 h2
    have HE := Lib.hid hE
    have H1 := Lib.hid h1
    have H2 := Lib.hid h2
    have H3 := Lib.hid h3
    have H4 := Lib.hid h4
    have e0 := hE.at 0 rfl
    have e1 := hE.at 1 rfl
    have e2 := hE.at 2 rfl
    have e3 := hE.at 3 rfl
    have e4 := hE.at 4 rfl
    have e5 := hE.at 5 rfl
    have e6 := hE.at 6 rfl
    have e7 := hE.at 7 rfl
    have a0 := h3.at 0 rfl
    have a1 := h3.at 1 rfl
    have a2 := h3.at 2 rfl
    have a3 := h3.at 3 rfl
    have a4 := h3.at 4 rfl
    have Hqq := Lib.hid hq
    clear hE h1 h2 h3 h4 hs hq hbk hT hTW hsz
    cases q
    · have hst : stepN ac s (⟨o, V, F, T1, rd, wt, K, lk⟩, i) = s := by
        unfold stepN
        have : bestN ac s (⟨o, V, F, T1, rd, wt, K, lk⟩, i) = false := by cases s <;> simp [bestN, Hqq.out]
        rw [this]; rfl
      have Hst := Lib.hid hst
      clear hst
      gi_wp2_with (refine ⟨trivial, ?_⟩; gi_at_call 53; refine (callsIn_round (Region.Has_any o V F T1 rd wt K lk W2 r2 A S D false _ hA hA' hD hD' Hq.out)).mono ?_; rintro e w1 ⟨rfl, hb1⟩; have Hb1 := Lib.hid hb1; clear hb1 e0 e1 e2 e3 e4 e5 e6 e7 a0 a1 a2 a3 a4)
      case h_1.isFalse => rename_i hh _; exact absurd hh (by simp [undef])
      case h_1.isTrue => rename_i hh _; exact absurd hh (by simp [undef])
      case h_2 =>
        refine ⟨trivial, ?_⟩
        gi_wp2_with fail
        exact ⟨_, fun j h => .inl h, Only.of_below Hb1.out, rfl, by rw [Hx.out, Hs.out, Hst.out]; exact H1.out.keep Hb1.out, by rw [Hx.out, Hs.out, Hst.out]; exact H2.out.keep Hb1.out, H3.out.keep Hb1.out, H4.out.trans (Hb1.out.mono H4.out.size)⟩
    · cases s with
      | none =>
        have Hst := Lib.hid (show stepN ac none (⟨o, V, F, T1, rd, wt, K, lk⟩, i) = some (⟨o, V, F, T1, rd, wt, K, lk⟩, i) by
          unfold stepN
          rw [show bestN ac none (⟨o, V, F, T1, rd, wt, K, lk⟩, i) = true from Hqq.out]; rfl)
        gi_wp2_with (first
          | (refine ⟨trivial, ?_⟩; gi_at_call 53; refine (callsIn_round (Region.Has_any o V F T1 rd wt K lk W2 r2 A S D true _ hA hA' hD hD' Hq.out)).mono ?_; rintro e w1 ⟨rfl, hb1⟩; have Hb1 := Lib.hid hb1; have f0 := (H2.out.keep hb1).at 0 rfl; have e0 := cell_keep hb1 e0; have e1 := cell_keep hb1 e1; have e2 := cell_keep hb1 e2; have e3 := cell_keep hb1 e3; have e4 := cell_keep hb1 e4; have e5 := cell_keep hb1 e5; have e6 := cell_keep hb1 e6; have e7 := cell_keep hb1 e7; have e8 := (HE.out.keep hb1).at 8 rfl; clear hb1 a0 a1 a2 a3 a4)
          | (with_reducible refine at_storeIn 51 (.tmp 4) (.tmp 28) rfl ?_))
        refine ⟨trivial, ?_⟩
        gi_wp2_with (with_reducible refine at_storeIn 51 (.tmp 4) (.tmp 28) rfl ?_)
        apply Lib.hid
        refine storeIn_blk rfl _ _ _ rfl (c + 1 + 1) [.bool o, .int .i64 V, .int .u32 F, .int .u32 T1, .bool rd, .bool wt, .int .i64 K, .bool lk, .int .i64 (i : Nat)] rfl rfl 51 _ (H1.out.keep Hb1.out) (by kernel_rfl) (by simp [encN]) (by simp [Value.oneCell']) ?_
        intro X2 hX2 hoX2
        have hI2 := (H2.out.keep Hb1.out).only hoX2 (by omega)
        have g0 := hI2.at 0 rfl
        have g1 := hI2.frozen 0
        have HX2 := Lib.hid hX2
        have HoX2 := Lib.hid hoX2
        have HI2' := Lib.hid hI2
        clear hX2 hoX2 hI2
        gi_wp2_with fail
        have hset := (Only.refl (fun j => j = c + 1 + 1 ∨ j = c + 1 + 1 + 1) X2).setCell (p := ⟨c + 1 + 1 + 1, 0, none⟩) (.inr rfl) (.bool true)
        have hall := ((Only.of_below (S := fun j => j = c + 1 + 1 ∨ j = c + 1 + 1 + 1) Hb1.out).trans (HoX2.out.mono (fun j _ h => .inl h))).trans hset
        exact ⟨_, fun j h => .inl h, hall, rfl, by rw [Hx.out, Hs.out, Hst.out]; exact HX2.out.other (p := ⟨c + 1 + 1 + 1, 0, none⟩) (by show c + 1 + 1 ≠ c + 1 + 1 + 1; omega) _, by rw [Hx.out, Hs.out, Hst.out]; exact HI2'.out.set 0 _, H3.out.only hall (by omega), H4.out.trans (hall.below H4.out.size (fun j hj => by have := Hc.out; omega))⟩
      | some y =>
        obtain ⟨y, iy⟩ := y
        obtain ⟨yo, yV, yF, yT, yr, yw, yK, yl⟩ := y
        have hy : (Rg.mk yo yV yF yT yr yw yK yl).has ac = true := foldN_has (s := none) (fun z hz => by cases hz) Hs.out
        obtain ⟨b, hb⟩ : ∃ b, decide (yK < K) = b := ⟨_, rfl⟩
        have Hab := Lib.hid (show Region.aboveV o V F T1 K yo yV yF yT yK = b by rw [← hb]; exact above_has Hqq.out hy)
        have HE1 := Lib.hid H1.out
        have Hbb := Lib.hid hb
        clear hy hb
        cases b with
        | false =>
          have Hst := Lib.hid (show stepN ac (some (⟨yo, yV, yF, yT, yr, yw, yK, yl⟩, iy)) (⟨o, V, F, T1, rd, wt, K, lk⟩, i) = some (⟨yo, yV, yF, yT, yr, yw, yK, yl⟩, iy) by
            unfold stepN
            rw [show bestN ac (some (⟨yo, yV, yF, yT, yr, yw, yK, yl⟩, iy)) (⟨o, V, F, T1, rd, wt, K, lk⟩, i) = false by simp [bestN, Hbb.out]]; rfl)
          gi_wp2_with (first
            | (refine ⟨trivial, ?_⟩; gi_at_call 53; refine (callsIn_round (Region.Has_any o V F T1 rd wt K lk W2 r2 A S D true _ hA hA' hD hD' Hq.out)).mono ?_; rintro e w1 ⟨rfl, hb1⟩; have Hb1 := Lib.hid hb1; have f0 := (H2.out.keep hb1).at 0 rfl; have e0 := cell_keep hb1 e0; have e1 := cell_keep hb1 e1; have e2 := cell_keep hb1 e2; have e3 := cell_keep hb1 e3; have e4 := cell_keep hb1 e4; have e5 := cell_keep hb1 e5; have e6 := cell_keep hb1 e6; have e7 := cell_keep hb1 e7; have k0 := (H1.out.keep hb1).at 0 rfl; have k1 := (H1.out.keep hb1).at 1 rfl; have k2 := (H1.out.keep hb1).at 2 rfl; have k3 := (H1.out.keep hb1).at 3 rfl; have k4 := (H1.out.keep hb1).at 4 rfl; have k5 := (H1.out.keep hb1).at 5 rfl; have k6 := (H1.out.keep hb1).at 6 rfl; have k7 := (H1.out.keep hb1).at 7 rfl; clear hb1 a0 a1 a2 a3 a4)
            | (refine ⟨trivial, ?_⟩; gi_at_call 73; refine (callsIn_round (Region.Above_any o V F T1 rd wt K lk yo yV yF yT yr yw yK yl false _ Hab.out)).mono ?_; rintro e w3 ⟨rfl, hb3⟩; have Hb3 := Lib.hid (Hb1.out.trans (hb3.mono Hb1.out.size)); clear hb3 e0 e1 e2 e3 e4 e5 e6 e7 k0 k1 k2 k3 k4 k5 k6 k7))
          exact ⟨_, fun j h => .inl h, Only.of_below Hb3.out, rfl, by rw [Hx.out, Hs.out, Hst.out]; exact H1.out.keep Hb3.out, by rw [Hx.out, Hs.out, Hst.out]; exact H2.out.keep Hb3.out, H3.out.keep Hb3.out, H4.out.trans (Hb3.out.mono H4.out.size)⟩
        | true =>
          have Hst := Lib.hid (show stepN ac (some (⟨yo, yV, yF, yT, yr, yw, yK, yl⟩, iy)) (⟨o, V, F, T1, rd, wt, K, lk⟩, i) = some (⟨o, V, F, T1, rd, wt, K, lk⟩, i) by
            unfold stepN
            rw [show bestN ac (some (⟨yo, yV, yF, yT, yr, yw, yK, yl⟩, iy)) (⟨o, V, F, T1, rd, wt, K, lk⟩, i) = true by simp [bestN, Hqq.out, Hbb.out]]; rfl)
          gi_wp2_with (first
            | (refine ⟨trivial, ?_⟩; gi_at_call 53; refine (callsIn_round (Region.Has_any o V F T1 rd wt K lk W2 r2 A S D true _ hA hA' hD hD' Hq.out)).mono ?_; rintro e w1 ⟨rfl, hb1⟩; have Hb1 := Lib.hid hb1; have f0 := (H2.out.keep hb1).at 0 rfl; have e0 := cell_keep hb1 e0; have e1 := cell_keep hb1 e1; have e2 := cell_keep hb1 e2; have e3 := cell_keep hb1 e3; have e4 := cell_keep hb1 e4; have e5 := cell_keep hb1 e5; have e6 := cell_keep hb1 e6; have e7 := cell_keep hb1 e7; have k0 := (H1.out.keep hb1).at 0 rfl; have k1 := (H1.out.keep hb1).at 1 rfl; have k2 := (H1.out.keep hb1).at 2 rfl; have k3 := (H1.out.keep hb1).at 3 rfl; have k4 := (H1.out.keep hb1).at 4 rfl; have k5 := (H1.out.keep hb1).at 5 rfl; have k6 := (H1.out.keep hb1).at 6 rfl; have k7 := (H1.out.keep hb1).at 7 rfl; clear hb1 a0 a1 a2 a3 a4)
            | (refine ⟨trivial, ?_⟩; gi_at_call 73; refine (callsIn_round (Region.Above_any o V F T1 rd wt K lk yo yV yF yT yr yw yK yl true _ Hab.out)).mono ?_; rintro e w3 ⟨rfl, hb3⟩; have Hb3 := Lib.hid (Hb1.out.trans (hb3.mono Hb1.out.size)); have e0 := cell_keep hb3 e0; have e1 := cell_keep hb3 e1; have e2 := cell_keep hb3 e2; have e3 := cell_keep hb3 e3; have e4 := cell_keep hb3 e4; have e5 := cell_keep hb3 e5; have e6 := cell_keep hb3 e6; have e7 := cell_keep hb3 e7; have e8 := (HE.out.keep Hb3.out).at 8 rfl; clear hb3 k0 k1 k2 k3 k4 k5 k6 k7 f0)
            | (with_reducible refine at_storeIn 51 (.tmp 4) (.tmp 28) rfl ?_))
          apply Lib.hid
          refine storeIn_blk rfl _ _ _ rfl (c + 1 + 1) [.bool o, .int .i64 V, .int .u32 F, .int .u32 T1, .bool rd, .bool wt, .int .i64 K, .bool lk, .int .i64 (i : Nat)] rfl rfl 51 _ (H1.out.keep Hb3.out) (by kernel_rfl) (by simp [encN]) (by simp [Value.oneCell']) ?_
          intro X2 hX2 hoX2
          have hI2 := (H2.out.keep Hb3.out).only hoX2 (by omega)
          have g0 := hI2.at 0 rfl
          have g1 := hI2.frozen 0
          have HX2 := Lib.hid hX2
          have HoX2 := Lib.hid hoX2
          have HI2' := Lib.hid hI2
          clear hX2 hoX2 hI2
          gi_wp2_with fail
          have hset := (Only.refl (fun j => j = c + 1 + 1 ∨ j = c + 1 + 1 + 1) X2).setCell (p := ⟨c + 1 + 1 + 1, 0, none⟩) (.inr rfl) (.bool true)
          have hall := ((Only.of_below (S := fun j => j = c + 1 + 1 ∨ j = c + 1 + 1 + 1) Hb3.out).trans (HoX2.out.mono (fun j _ h => .inl h))).trans hset
          exact ⟨_, fun j h => .inl h, hall, rfl, by rw [Hx.out, Hs.out, Hst.out]; exact HX2.out.other (p := ⟨c + 1 + 1 + 1, 0, none⟩) (by show c + 1 + 1 ≠ c + 1 + 1 + 1; omega) _, by rw [Hx.out, Hs.out, Hst.out]; exact HI2'.out.set 0 _, H3.out.only hall (by omega), H4.out.trans (hall.below H4.out.size (fun j hj => by have := Hc.out; omega))⟩
  case done =>
    rintro T W ⟨_, h1, h2, h3, h4⟩ hD
    rw [List.take_length, Hend.out.1] at h1
    rw [List.take_length, Hend.out.2] at h2
    obtain ⟨⟨xo, xV, xF, xT, xr, xw, xK, xl⟩, ix⟩ := ox
    have k0 := h1.at 0 rfl
    have k1 := h1.at 1 rfl
    have k2 := h1.at 2 rfl
    have k3 := h1.at 3 rfl
    have k4 := h1.at 4 rfl
    have k5 := h1.at 5 rfl
    have k6 := h1.at 6 rfl
    have k7 := h1.at 7 rfl
    have k8 := h1.at 8 rfl
    have m0 := h2.at 0 rfl
    have z0 := h1.frozen 0
    have z1 := h1.frozen 1
    have z2 := h1.frozen 2
    have z3 := h1.frozen 3
    have z4 := h1.frozen 4
    have z5 := h1.frozen 5
    have z6 := h1.frozen 6
    have z7 := h1.frozen 7
    have z8 := h1.frozen 8
    have y0 := h2.frozen 0
    have H1 := Lib.hid h1
    have H2 := Lib.hid h2
    have H4 := Lib.hid h4
    have HD := Lib.hid hD
    clear h1 h2 h3 h4 hD
    go_wp2_with fail
    go_region
    refine exit_letter ?_
    intro Y hY
    have Bf := ((((((((H1.out.set 0 (.bool xo)).set 1 (.int .i64 xV)).set 2 (.int .u32 xF)).set 3 (.int .u32 xT)).set 4 (.bool xr)).set 5 (.bool xw)).set 6 (.int .i64 xK)).set 7 (.bool xl)).set 8 (.int .i64 (ix : Nat))
    have Bf2 := Lib.hid (show Blk Y (c + 1 + 1) 51 (encN (⟨xo, xV, xF, xT, xr, xw, xK, xl⟩, ix)) by
      rw [hY.out]; exact (Bf.other (p := ⟨c + 1 + 1 + 1, 0, none⟩) (by show c + 1 + 1 ≠ c + 1 + 1 + 1; omega) (.bool ob)).keep (Below.refl _ _).drew)
    have hO : ∀ (S : Nat → Prop), S (c + 1 + 1) → S (c + 1 + 1 + 1) → Only S W Y := fun S h1 h2 => by
      rw [hY.out]
      refine Only.trans ?_ (Only.of_below (Below.refl _ _).drew)
      refine Only.setCell ?_ h2 _
      iterate 9 refine Only.setCell ?_ h1 _
      exact Only.refl _ _
    have Bi2 := Lib.hid (show Blk Y (c + 1 + 1 + 1) 4 [.bool ob] by
      rw [hY.out]
      refine Blk.keep ?_ (Below.refl _ _).drew
      refine Blk.set (vs := [.bool ob]) ?_ 0 _
      iterate 9 refine Blk.other ?_ (by show c + 1 + 1 + 1 ≠ c + 1 + 1; omega) _
      exact H2.out)
    have hlt2 : c + 1 + 1 + 1 < w2.heap.size := by omega
    have HXD := Lib.hid (show Y.heap[w2.heap.size]? = some (.deferred (some [])) from ((hO (fun j => j = c + 1 + 1 ∨ j = c + 1 + 1 + 1) (.inl rfl) (.inr rfl)).block _ (Array.getElem?_eq_some_iff.1 HD.out).1 (by omega)).trans HD.out)
    have HXb := Lib.hid (show Below w.heap.size w Y from H4.out.trans ((hO (fun j => j = c + 1 + 1 ∨ j = c + 1 + 1 + 1) (.inl rfl) (.inr rfl)).below H4.out.size (fun j hj => by have := Hc.out; omega)))
    have Hk := Lib.hid (Book.put (B := w.heap.size) (o' := .deferred none) HB2.out.size HXD.out rfl)
    clear hY hO Bf k0 k1 k2 k3 k4 k5 k6 k7 k8 m0 z0 z1 z2 z3 z4 z5 z6 z7 z8 y0 H1 H2 H4 HD
    go_wp2_with fail
    refine ⟨by simp, .inl ⟨_, _, rfl, run_takeDeferred HXD.out, ?_⟩⟩
    have B1 := Bf2.out.book Hk.out
    have r0 := B1.at 0 rfl
    have r1 := B1.at 1 rfl
    have r2 := B1.at 2 rfl
    have r3 := B1.at 3 rfl
    have r4 := B1.at 4 rfl
    have r5 := B1.at 5 rfl
    have r6 := B1.at 6 rfl
    have r7 := B1.at 7 rfl
    have r8 := B1.at 8 rfl
    have c5 := (Bi2.out.book Hk.out).at 0 rfl
    refine ⟨.tuple #[num xo xV xF xT xr xw xK xl (ix : Nat), .bool ob], ?_, rfl, Hk.out.below HXb.out (Nat.le_refl _)⟩
    simp [results, Tryz.f36, go_sem, c5, r0, r1, r2, r3, r4, r5, r6, r7, r8]
  case stop =>
    intro c k T W _ h
    exact h.elim
end Go.Proofs.YtmkponhhinjpkaaGreat.Table
