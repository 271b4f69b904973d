/- Package uart: is, uart, laid, New, listed. -/
import Derived.Test.YthdcealhhmfgcaaQv
import Derived.RangeFuncNested
import Derived.OwnWalk
import Derived.Laws.OwnMore
import Derived.Maps.OwnIn
import Derived.Deep.RegionHeld3
import Derived.Deep.RegionWith
namespace Go.Proofs.Ythdcealhhmfgcaa.Uart
open Go.RowKit Go.Maps Go.ChangeShapes Go.WideShapes Go.ChangeAt Fifo Orow Word
set_option linter.unusedVariables false
attribute [local go_sem] Oper.semAt_some

theorem uart_info : (Try.prog.info? 50).isSome = true := by kernel_rfl
theorem eq_own (a : Addr) (w : World) : (binOp .eql 24 (.pointer (some a)) (.pointer (some a))).run Try.prog w = .ok (.bool true) w := by
  obtain ⟨j, hj⟩ := Option.isSome_iff_exists.1 uart_info
  exact run_eql_ptr_same w a Try.underlying24 hj
theorem eq_nil (a : Addr) (w : World) : (binOp .eql 24 (.pointer none) (.pointer (some a))).run Try.prog w = .ok (.bool false) w := by
  have h : ∀ d : Nat, (Op.equalIn (d + 1) 24 (.pointer none) (.pointer (some a))).run Try.prog w = .ok false w := fun d => by
    simp [Op.equalIn, run_underlying Try.underlying24]
  simp only [binOp]
  simp [Op.equal, Op.maxDepth, h 9999]
theorem is_yes (b : Nat) (w : World) (h : w.cell? ⟨b, 5, none⟩ = some (me b)) :
    Calls Try.prog 32 #[me b] w fun e w' => e = .returned (.bool true) ∧ w = w' := by
  have he := eq_own ⟨b, 0, none⟩ w
  go_enter Try.func32, Try.ntmps32
  go_wp2_with fail
  go_ret
  exact ⟨rfl, rfl⟩
/-- No uart: none at all, or one that was not answered. -/
def zeroCells : Array Value := (cellsU zeroU (.pointer none) (.pointer none) (.pointer none)).toArray
def ZeroAt (w : World) (b : Nat) : Prop := Blk w b 50 (cellsU zeroU (.pointer none) (.pointer none) (.pointer none))
theorem zero_new (w : World) : ZeroAt (w.alloc (.cells zeroCells 50)) w.heap.size := Blk.new w _ _
theorem ZeroAt.keep {w w' : World} {b : Nat} (h : ZeroAt w b) (hb : Below w.heap.size w w') : ZeroAt w' b := Blk.keep h hb
def Non (w : World) (v : Value) : Prop := v = .pointer none ∨ ∃ b, v = .pointer (some ⟨b, 0, none⟩) ∧ ZeroAt w b
theorem Non.keep {w w' : World} {v : Value} (h : Non w v) (hb : Below w.heap.size w w') : Non w' v := by
  rcases h with rfl | ⟨b, rfl, h⟩
  · exact .inl rfl
  · exact .inr ⟨b, rfl, h.keep hb⟩
theorem is_non (v : Value) (w : World) (h : Non w v) :
    Calls Try.prog 32 #[v] w fun e w' => e = .returned (.bool false) ∧ w = w' := by
  rcases h with rfl | ⟨b, rfl, h⟩
  · go_enter Try.func32, Try.ntmps32
    go_wp2_with fail
    go_ret
    exact ⟨rfl, rfl⟩
  · have c1 : w.cell? ⟨b, 5, none⟩ = some (.pointer none) := Blk.at h 5 rfl
    have he := eq_nil ⟨b, 0, none⟩ w
    clear h
    go_enter Try.func32, Try.ntmps32
    go_wp2_with fail
    go_ret
    exact ⟨rfl, rfl⟩
theorem uart_yes (b : Nat) (w : World) (h : w.cell? ⟨b, 5, none⟩ = some (me b)) :
    Calls Try.prog 27 #[me b] w fun e w' => e = .returned (me b) ∧ w = w' := by
  have H := Lib.hid (is_yes b w h)
  clear h
  go_enter Try.func27, Try.ntmps27
  go_wp2_with fail
  refine H.out.mono ?_
  rintro e w1 ⟨rfl, rfl⟩
  go_wp2_with fail
  go_ret
  exact ⟨rfl, rfl⟩
/-- One without rows that nobody has: its block is new. -/
theorem uart_non (v : Value) (w : World) (h : Non w v) :
    Calls Try.prog 27 #[v] w fun e w' => e = .returned (me w.heap.size) ∧ UB w' w.heap.size 0 zeroU (.pointer none) (.pointer none) (.pointer none) (fun _ => False) (fun _ => False) ∧ Below w.heap.size w w' := by
  have H := Lib.hid (is_non v w h)
  clear h
  go_enter Try.func27, Try.ntmps27
  go_wp2_with fail
  refine H.out.mono ?_
  rintro e w1 ⟨rfl, rfl⟩
  go_wp2_with fail
  go_ret
  exact ⟨rfl, UB.zero w, (Below.refl _ _).alloc (Nat.le_refl _) _⟩
theorem laid_any (u : Un) (p q x : Value) (w : World) :
    Calls Try.prog 25 #[.agg #[.int .u32 (lostU u), .int .u32 u.C, p, q, .int .i64 u.P, x]] w fun e w' => (∃ c, e = .returned (me c) ∧ Blk w' c 50 (cellsU u p q (me c)) ∧ w.heap.size ≤ c) ∧ Below w.heap.size w w' := by
  obtain ⟨L, hL⟩ : ∃ L, lostU u = L := ⟨_, rfl⟩
  obtain ⟨Cm, Gs, LI, LO, C, P⟩ := u
  unfold cellsU
  rw [hL]
  clear hL
  go_enter Try.func25, Try.ntmps25
  go_wp2_with fail
  go_ret
  exact ⟨⟨_, rfl, Blk.new w _ _, Nat.le_refl _⟩, (Below.refl w.heap.size w).alloc (Nat.le_refl _) _⟩
theorem New_any0 (w : World) :
    Calls Try.prog 8 #[] w fun e w' => (∃ b O, e = .returned (me b) ∧ UW w' b 8 zeroU (me b) O ∧ ∀ j, O j → w.heap.size ≤ j) ∧ Below w.heap.size w w' := by
  go_enter Try.func8, Try.ntmps8
  go_wp2_with fail
  refine (FB.New_st 8 w (by omega)).mono ?_
  rintro e w1 ⟨b1, O1, rfl, h1, n1, k1⟩
  have S1 := Lib.hid h1
  have N1 := Lib.hid n1
  have B1 := Lib.hid k1
  clear h1 n1 k1
  go_wp2_with fail
  refine (FB.New_st 8 w1 (by omega)).mono ?_
  rintro e w2 ⟨b2, O2, rfl, h2, n2, k2⟩
  have S2 := Lib.hid (S1.out.keep k2)
  have S3 := Lib.hid h2
  have N2 := Lib.hid n2
  have B2 := Lib.hid (B1.out.trans (k2.mono B1.out.size))
  have L1 := S1.out.lt
  have HL := Lib.hid (fun j hj hk => by have := L1 j hj; have := N2.out j hk; omega : ∀ j, O1 j → ¬ O2 j)
  clear h2 n2 k2 S1 L1
  go_wp2_with fail
  refine (laid_any zeroU (me b1) (me b2) (.pointer none) w2).mono ?_
  rintro e w3 ⟨⟨c, rfl, hc, hn⟩, k3⟩
  have hl1 := S2.out.lt
  have hl2 := S3.out.lt
  have hs := B1.out.size
  have R := Lib.hid (show UB w3 c 8 zeroU (me b1) (me b2) (me c) O1 O2 from ⟨hc, .inl ⟨b1, rfl, S2.out.keep k3⟩, .inl ⟨b2, rfl, S3.out.keep k3⟩, okU_zero, fun e => by have := hl1 c e; omega, fun e => by have := hl2 c e; omega, HL.out⟩)
  have B3 := Lib.hid (B2.out.trans (k3.mono B2.out.size))
  have hs2 := B2.out.size
  have hN : ∀ j, (j = c ∨ O1 j ∨ O2 j) → w.heap.size ≤ j := fun j hj => by
    rcases hj with rfl | hj | hj
    · omega
    · exact N1.out j hj
    · have := N2.out j hj; omega
  clear hc hn k3 hl1 hl2 hs hs2
  go_wp2_with fail
  go_ret
  exact ⟨⟨c, _, rfl, ⟨_, _, _, _, R.out, fun j => Iff.rfl⟩, hN⟩, B3.out⟩
theorem info_b : (Try.prog.info? 5).map (fun i => (i.zero, i.size, i.bytes)) = some (some (.int .u8 0), 1, 1) := by kernel_rfl
theorem okb_keep {w w' : World} {B n sz : Nat} {e : TypeId} {v : Value} {L : List Value} (h : w.ownsRow B e sz v n L) {C : Nat} (hk : Book C w w') : w'.ownsRow B e sz v n L := by
  refine ⟨h.1, ?_⟩
  rcases h.2 with h2 | ⟨g, cap, cur, h1, h2, h3, r⟩
  · exact .inl h2
  · exact .inr ⟨g, cap, cur, h1, h2, hk.cells g _ h3 rfl, r⟩
/-- A round that appends to a row whose slice lies in a block of its own. -/
theorem step_grow {k : Nat} {w W w5 : World} {t e : TypeId} {v v' : Value} {L L' : List Value} {o : Obj} {C sb : Nat} (hC : C ≤ sb) (h1 : Blk W sb t [v]) (h2 : W.ownsRow (sb + 1) e 1 v k L) (h3 : Below C w W) (r1 : w5.ownsRow (sb + 1) e 1 v' (k + 1) L')
    (r2 : (W.alloc o).grownBy w5 v.ownBlock) (r4 : v'.ownBlock = v.ownBlock ∨ v'.ownBlock = some (W.alloc o).heap.size) :
    ∃ a c, v' = .slice a (k + 1) c ∧ w5.cell? ⟨sb, 0, none⟩ = some v ∧ w5.frozen? ⟨sb, 0, none⟩ = false ∧ Blk (w5.setCell ⟨sb, 0, none⟩ v') sb t [v'] ∧ (w5.setCell ⟨sb, 0, none⟩ v').ownsRow (sb + 1) e 1 v' (k + 1) L' ∧
      Below C w (w5.setCell ⟨sb, 0, none⟩ v') ∧ (∀ j, (j = sb ∨ PB v' j) → (j = sb ∨ PB v j) ∨ W.heap.size ≤ j) ∧ Only (fun j => j = sb ∨ PB v j) W (w5.setCell ⟨sb, 0, none⟩ v') := by
  obtain ⟨a, c, hv, _⟩ := own_shape r1
  have hpv : ∀ j, PB v j → sb + 1 ≤ j := fun j hj => (h2.lt j hj).1
  have hpv' : ∀ j, PB v' j → sb + 1 ≤ j := fun j hj => (r1.lt j hj).1
  have hg : Only (PB v) (W.alloc o) w5 := ⟨r2.os, r2.tape, r2.output, r2.size, fun k hk hn => r2.block k hk (fun e => hn e.symm)⟩
  have ho1 : Only (PB v) W w5 := (Only.of_below ((Below.refl _ W).alloc (Nat.le_refl _) o)).trans hg
  have hB : Blk w5 sb t [v] := h1.only ho1 (fun hj => by have := hpv _ hj; omega)
  have hset := (Only.refl (fun j => j = sb) w5).setCell (p := ⟨sb, 0, none⟩) rfl v'
  subst hv
  refine ⟨a, c, rfl, hB.at 0 rfl, hB.frozen 0, hB.set 0 _, own_only r1 hset (fun j hj e => by have := (own_lt r1 j hj).1; omega), ?_, ?_, (ho1.mono (fun j _ h => .inr h)).trans (hset.mono (fun j _ h => .inl h))⟩
  · exact (h3.trans (ho1.below (by have := h1.lt; omega) (fun j hj => by have := hpv j hj; omega))).setCell (p := ⟨sb, 0, none⟩) hC _
  · rintro j (rfl | hj)
    · exact .inl (.inl rfl)
    · unfold PB at hj ⊢
      rcases r4 with h | h
      · exact .inl (.inr (h ▸ hj))
      · rw [h, World.size_alloc] at hj
        simp only [Option.some.injEq] at hj
        exact .inr (by omega)
set_option maxRecDepth 100000 in
set_option maxHeartbeats 2000000 in
theorem listed_any (p : Value) (room : Nat) (l : List Int) (O : Nat → Prop) (w : World) (h : Rw w p room l O) (h8 : l.length ≤ 8) :
    Calls Try.prog 35 #[p] w fun e w' => (∃ a c, e = .returned (.slice a l.length c) ∧ w'.ownsRow w.heap.size 5 1 (.slice a l.length c) l.length (bv l)) ∧ Below w.heap.size w w' := by
  obtain ⟨i0, hi, hz0, hz1, hz2⟩ := info_parts info_b
  have Hi := Lib.hid hi
  have Hz0 := Lib.hid hz0
  have Hz1 := Lib.hid hz1
  have Hz2 := Lib.hid hz2
  clear hi hz0 hz1 hz2
  have hb0 := (Below.refl w.heap.size w).alloc (Nat.le_refl _) (.cells #[.slice none 0 0] 27)
  have HA := Lib.hid (h.keep hb0).all
  have Hlen := Lib.hid h8
  clear h h8
  refine (callsIn_wide (n := 4)).1 ?_
  refine callsIn_of_wp_marks Try.func35 rfl trivial ?_ rfl
  simp only [Try.ntmps35, List.size_toArray, List.length_cons, List.length_nil, Nat.reduceAdd, Nat.reduceSub, Array.replicate_succ, Array.replicate_zero, List.push_toArray, List.append_toArray, List.nil_append, List.cons_append]
  gi_wp2_with (refine ⟨trivial, ?_⟩; gi_at_call 52; refine (callsIn_wide.2 HA.out).mono ?_; rintro e w1 ⟨box, rfl, hb1, hs⟩; have Hseq := Lib.hid (hs 3 w1 (by omega) (Below.refl _ _)); have Hb1 := Lib.hid hb1; have Hbx := Lib.hid ((Blk.new w 27 [.slice none 0 0]).keep hb1); clear hs hb1)
  have hs1 := Hb1.out.size
  have hs2 : w.heap.size + 1 ≤ w1.heap.size := by simpa using hs1
  have Hbw := Lib.hid (hb0.trans (Hb1.out.mono (by simp)))
  refine range_law rfl (by omega) (gf := 57) (bound := #[]) (lb := #[.pointer (some ⟨box, 0, none⟩)]) rfl trivial (enters_of Try.func57 (by kernel_rfl) rfl)
    Hseq.out (fun _ => rfl) (fun j hj => hj.elim)
    (fun k T X => ∃ v, (T = fun j => j = w.heap.size ∨ PB v j) ∧ Blk X w.heap.size 27 [v] ∧ X.ownsRow (w.heap.size + 1) 5 1 v k (bv (l.take k)) ∧ Below w.heap.size w X)
    (fun _ _ _ _ => False) (fun j => j = w.heap.size ∨ PB (.slice none 0 0) j)
    (fun j hj hk => hk)
    (fun j hj => by
      rcases hj with hj | hj
      · omega
      · simp [PB, Value.ownBlock] at hj)
    (fun k T W W' h hk => by
      obtain ⟨v, hT, h1, h2, h3⟩ := h
      exact ⟨v, hT, h1.book hk, okb_keep h2 hk, hk.below h3 (by omega)⟩)
    (fun _ _ _ _ _ h _ => h)
    (fun k T W j h hj => by
      obtain ⟨v, rfl, h1, h2, h3⟩ := h
      rcases hj with rfl | hj
      · exact h1.lt
      · exact (h2.lt j hj).2)
    ⟨.slice none 0 0, rfl, Hbx.out, World.ownsRow_nil _ _ _ _, Hbw.out⟩ ?round ?done ?stop
  case round =>
    intro lp k T W0 hk
    obtain ⟨y, hy⟩ : ∃ y, l[k]? = some y := ⟨_, List.getElem?_eq_getElem hk⟩
    rw [show FB.els (bv l) k = #[.int .i64 (k : Nat), .int .u8 y] by simp [FB.els, bv, hy]]
    have Hk := Lib.hid hk
    have Hy := Lib.hid hy
    clear hk hy
    gi_wp2
    refine ⟨trivial, ?_⟩
    rintro W hsz ⟨v, rfl, h1, h2, h3⟩ hT
    have q1 := h1.at 0 rfl
    have H1 := Lib.hid h1
    have H2 := Lib.hid h2
    have H3 := Lib.hid h3
    obtain ⟨av, cv, hv, _⟩ := own_shape h2
    subst hv
    have hk6 : k ≤ 8 := by have := Hk.out; have := Hlen.out; omega
    clear h1 h2 h3 hT
    gi_wp2_with (gi_at_builtin; refine wpListIn_append_own_at _ rfl _ _ 27 rfl (w.heap.size + 1) 5 i0 (.int .u8 0) 1 1 Try.underlying27 Hi.out Hz0.out Hz1.out Hz2.out rfl (by decide) _ _ _ rfl (own_keep H2.out ((Below.refl _ _).alloc (Nat.le_refl _) _)) ⟨W.heap.size, 0, none⟩ 1 1 [.int .u8 y] rfl rfl (cell_one_new _ _ _) (by simp [Value.oneCell']) (by unfold maxLen; omega) (by omega) (by simp; omega) ?_; intro v' w5 r1 r2 _ r4; obtain ⟨a5, c5, hv5, q5, f5, g1, g2, g3, g4, g5⟩ := step_grow (Nat.le_refl _) H1.out H2.out H3.out r1 r2 r4; subst hv5; have G1 := Lib.hid g1; have G2 := Lib.hid g2; have G3 := Lib.hid g3; have G4 := Lib.hid g4; have G5 := Lib.hid g5; clear r1 r2 r4 g1 g2 g3 g4 g5 q1)
    refine ⟨_, G4.out, G5.out, _, rfl, G1.out, ?_, G3.out⟩
    have e : l.take (k + 1) = l.take k ++ [y] := by rw [List.take_add_one, Hy.out]; rfl
    have e2 : bv (l.take (k + 1)) = bv (l.take k) ++ [.int .u8 y] := by rw [e]; simp [bv]
    rw [e2]
    exact G2.out
  case done =>
    rintro T W ⟨v, -, h1, h2, h3⟩ hD
    obtain ⟨av, cv, hv, _⟩ := own_shape h2
    subst hv
    rw [List.take_length] at h2
    have q1 := h1.at 0 rfl
    have H2 := Lib.hid h2
    have H3 := Lib.hid h3
    have HD := Lib.hid hD
    clear h1 h2 h3 hD
    gi_wp2
    have Hk := Lib.hid (Book.put (B := w1.heap.size) (o' := .deferred none) (Nat.le_refl _) HD.out rfl)
    refine ⟨by simp, .inl ⟨_, _, rfl, run_takeDeferred HD.out, ?_⟩⟩
    exact ⟨_, results_tmp rfl _ _ _, ⟨av, cv, rfl, own_mono (okb_keep H2.out Hk.out) (Nat.le_succ _)⟩, Hk.out.below H3.out (by omega)⟩
  case stop =>
    intro c k T W _ h
    exact h.elim
end Go.Proofs.Ythdcealhhmfgcaa.Uart
