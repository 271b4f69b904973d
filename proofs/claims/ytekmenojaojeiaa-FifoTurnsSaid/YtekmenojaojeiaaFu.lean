/- The walk of FifoTurns. -/
import Derived.Test.YtekmenojaojeiaaFt
namespace Go.Proofs.Ytekmenojaojeiaa.Fifo5
open Go.RowKit Go.Maps Go.Shelf Fifo FI
set_option linter.unusedVariables false
attribute [local go_sem] Oper.semAt_some

set_option maxRecDepth 100000 in
set_option maxHeartbeats 4000000 in
theorem turns_core (R : Nat) (a : Option Addr) (len cap : Nat) (l : List Int) (w : World) (hR : R < 9223372036854775808) (hrow : Row .i64 w a len l) (h3 : len ≤ 300) :
    Calls Try.prog 6 #[.int .i64 (R : Nat), .slice a len cap] w fun e w' => e = .returned (.bool true) ∧ Below w.heap.size w w' := by
  have hlen : l.length = len := hrow.1
  have A := awake_any w
  obtain ⟨i0, hi, hz0, hz1, hz2⟩ := info_parts info_e
  have Hi := Lib.hid hi
  have Hz0 := Lib.hid hz0
  have Hz1 := Lib.hid hz1
  have Hz2 := Lib.hid hz2
  clear hi hz0 hz1 hz2
  refine (callsIn_wide (n := 4)).1 ?_
  refine callsIn_of_wp_marks Try.func6 rfl trivial ?_ rfl
  simp only [Try.ntmps6, List.size_toArray, List.length_cons, List.length_nil, Nat.reduceAdd, Nat.reduceSub, Array.replicate_succ, Array.replicate_zero, List.push_toArray, List.append_toArray, List.nil_append, List.cons_append]
  refine wpIn_wide.2 ?_
  go_wp2_with fail
  refine A.mono ?_
  rintro e w1 ⟨rfl, hb1⟩
  clear A
  have d1 : decide ((300 : Int) < (len : Int)) = false := decide_eq_false (by omega)
  have d2 : decide ((R : Int) < 0) = false := decide_eq_false (by omega)
  go_wp2_with fail
  refine (New_st R _ hR).mono ?_
  rintro e w2 ⟨b, O, rfl, hS, hO, hb2⟩
  have hb3 : Below w.heap.size w w2 := hb1.trans (hb2.mono hb1.size)
  have T0 : Turn w.heap.size w (w2.alloc (.cells #[.slice none 0 0] 27)) b R w2.heap.size (.slice none 0 0) (.slice none 0 0) [] [] [] O :=
    ⟨hS.keep ((Below.refl _ _).alloc (Nat.le_refl _) _), fun j hj => Nat.le_trans hb1.size (hO j hj), World.ownsRow_nil _ _ _ _, World.ownsRow_nil _ _ _ _, Blk.new w2 _ [_], hb3.size,
      fun j hj => ⟨by have := hS.lt j hj; omega, by simp [PB, Value.ownBlock], by simp [PB, Value.ownBlock]⟩, fun j hj => by simp [PB, Value.ownBlock] at hj, hb3.trans (((Below.refl _ w2).alloc (Nat.le_refl _) _).mono hb3.size), Nat.le_refl _⟩
  have HT := Lib.hid T0
  have Hrow := Lib.hid hrow
  have Hlen := Lib.hid hlen
  clear hS hO hb2 T0 hb1 hb3 hrow hlen
  obtain ⟨P, hP⟩ : ∃ P, w2.heap.size = P := ⟨_, rfl⟩
  rw [hP] at HT
  go_wp2_with fail
  refine code_letter ?_
  intro W0 hW0
  rw [← hW0.out] at HT
  clear hP hW0
  go_loopw [6, 8] (fun vp p wr => ∃ (i : Nat) (vg : Value) (pl gl fl : List Int) (O : Nat → Prop), i ≤ len ∧ p = .int .i64 i ∧ Turn w.heap.size w wr b R P vp vg pl gl fl O ∧ pl = gl ++ fl ∧ pl.length ≤ i) (fun _ p _ => len - (intOf p).toNat)
  case atStart => exact ⟨0, .slice none 0 0, [], [], [], O, by omega, rfl, HT.out, rfl, Nat.le_refl _⟩
  case round =>
    obtain ⟨i, vg, pl, gl, fl, O2, hi, rfl, ht, hpl, hli⟩ := hrel
    have Ht := Lib.hid ht
    have Hpl := Lib.hid hpl
    have Hli := Lib.hid hli
    clear ht hpl hli HT
    by_cases hil : i < len
    · obtain ⟨g, off, rfl, hg, hc⟩ := row_at Hrow.out (by omega)
      obtain ⟨x, hx⟩ : ∃ x, l.getD i 0 = x := ⟨_, rfl⟩
      have Hc := Lib.hid (fun w' hb => hx ▸ hc w' hb i hil)
      have q0 := Hc.out _ Ht.out.bl
      have e1 : decide ((i : Int) < (len : Int)) = true := decide_eq_true (by omega)
      obtain ⟨s, hs⟩ : ∃ s, i + 1 = s := ⟨_, rfl⟩
      have e2 : IntKind.i64.wrap ((i : Int) + 1) = (s : Int) := by rw [i64w (by omega)]; omega
      obtain ⟨p, hp, PK⟩ := pick_is x 3 (by omega) (by omega)
      have Hs := Lib.hid hs
      have HPK := Lib.hid PK
      have hfl : (vals fl).length ≤ 300 := by have h1 := Hli.out; rw [Hpl.out, List.length_append] at h1; rw [vals_len]; omega
      have Hfl := Lib.hid hfl
      clear hs hx hc PK hp hfl
      by_cases hp0 : p = 0
      · subst hp0
        go_wp2_with fail
        refine (HPK.out _).mono ?_
        rintro e w3 ⟨rfl, rfl⟩
        go_wp2_with fail
        obtain ⟨ap, cp, hvp⟩ := own_shape Ht.out.rp
        obtain ⟨ag, cg, hvg⟩ := own_shape Ht.out.rg
        subst hvp
        subst hvg
        cases fl with
        | nil =>
          have hll : (vals pl).length = (vals gl).length := by rw [Hpl.out, List.append_nil]
          refine (Take_nil b R O2 _ Ht.out.st).mono ?_
          rintro e w4 ⟨rfl, h1, h2⟩
          have Ht4 := Lib.hid (Ht.out.row (fl' := []) h1 h2 (fun j h => .inl h))
          clear h1 h2 Ht q0
          have q1 := Ht4.out.bx.at 0 rfl
          have e4 : decide (((vals gl).length : Int) < ((vals pl).length : Int)) = false := decide_eq_false (by omega)
          have e5 : ¬ (vals gl).length < (vals pl).length := by omega
          have Hll := Lib.hid hll
          clear hll
          go_wp2_with fail
          exact ⟨⟨s, _, pl, gl, [], O2, by have := Hs.out; omega, rfl, Ht4.out, Hpl.out, by have := Hs.out; have := Hli.out; omega⟩, by have := Hs.out; simp [intOf]; omega⟩
        | cons y t =>
          have hll : (vals gl).length < (vals pl).length := by rw [Hpl.out, vals_len, vals_len, List.length_append, List.length_cons]; omega
          refine (Take_cons b R (.int .i64 y) (vals t) O2 _ Ht.out.st).mono ?_
          rintro e w4 ⟨rfl, h1, h2⟩
          have Ht4 := Lib.hid (Ht.out.row (fl' := t) h1 h2 (fun j h => .inl h))
          clear h1 h2 Ht q0
          have q1 := Ht4.out.bx.at 0 rfl
          have e4 : decide (((vals gl).length : Int) < ((vals pl).length : Int)) = true := decide_eq_true (by omega)
          have e5 : (vals gl).length < (vals pl).length := hll
          have hgl : (vals gl).length ≤ 300 := by have h1 := Hli.out; rw [vals_len] at hll ⊢; rw [vals_len] at hll; omega
          have Hgl := Lib.hid hgl
          have Hll := Lib.hid hll
          have hbs := Nat.le_trans Ht4.out.b0 Ht4.out.bl.size
          clear hll hgl
          go_wp2_with (at_builtin; refine wpList_append_own_at _ rfl _ _ 27 rfl w.heap.size 3 i0 (.int .i64 0) 1 8 Try.underlying27 Hi.out Hz0.out Hz1.out Hz2.out rfl (by decide) _ _ _ rfl (own_keep Ht4.out.rg ((Below.refl _ _).alloc (Nat.le_refl _) _)) ⟨w4.heap.size, 0, none⟩ 1 1 [.int .i64 y] rfl rfl (cell_one_new _ _ _) (by simp [Value.oneCell']) (by have := Hgl.out; unfold maxLen; omega) (by have := Hgl.out; omega) (by simp; omega) ?_; intro v' w5 h1 h2 _ h4; obtain ⟨a5, n5, c5, hv5, q5, f5, T5⟩ := turn_got Ht4.out h1 h2 h4; subst hv5; have HT5 := Lib.hid T5; clear T5 h1 h2 h4 q1)
          exact ⟨⟨s, _, pl, gl ++ [y], t, O2, by have := Hs.out; omega, rfl, HT5.out, by rw [Hpl.out]; simp, by have := Hs.out; have := Hli.out; omega⟩, by have := Hs.out; simp [intOf]; omega⟩
      · have e3 : ¬ ((p : Int) = 0) := by omega
        obtain ⟨ap, cp, hvp⟩ := own_shape Ht.out.rp
        subst hvp
        have hpln : (vals pl).length ≤ 300 := by have h1 := Hli.out; rw [vals_len]; omega
        have Hpln := Lib.hid hpln
        clear hpln
        go_wp2_with fail
        refine (HPK.out _).mono ?_
        rintro e w3 ⟨rfl, rfl⟩
        go_wp2_with fail
        by_cases hr : (vals fl).length < R
        · refine (Put_st b R (vals fl) (vals (fl ++ [x])) O2 _ true _ Ht.out.st (by have := Hfl.out; omega) (elmV x) (decide_eq_true hr) (by rw [vals_snocx]; rfl)).mono ?_
          rintro e w4 ⟨rfl, O4, h1, h2, h3⟩
          have Ht4 := Lib.hid (Ht.out.row h1 h2 h3)
          have q1 := Hc.out _ Ht4.out.bl
          have hbs := Nat.le_trans Ht4.out.b0 Ht4.out.bl.size
          clear h1 h2 h3 Ht q0 hr
          go_wp2_with (at_builtin; refine wpList_append_own_at _ rfl _ _ 27 rfl w.heap.size 3 i0 (.int .i64 0) 1 8 Try.underlying27 Hi.out Hz0.out Hz1.out Hz2.out rfl (by decide) _ _ _ rfl (own_keep Ht4.out.rp ((Below.refl _ _).alloc (Nat.le_refl _) _)) ⟨w4.heap.size, 0, none⟩ 1 1 [.int .i64 x] rfl rfl (cell_one_new _ _ _) (by simp [Value.oneCell']) (by have := Hpln.out; unfold maxLen; omega) (by have := Hpln.out; omega) (by simp; omega) ?_; intro v' w5 h1 h2 _ h4; obtain ⟨a5, n5, c5, hv5, T5⟩ := turn_put Ht4.out h1 h2 h4; subst hv5; have HT5 := Lib.hid T5; clear T5 h1 h2 h4 q1)
          exact ⟨⟨s, vg, pl ++ [x], gl, fl ++ [x], O4, by have := Hs.out; omega, rfl, HT5.out, by rw [Hpl.out]; simp, by have := Hs.out; have := Hli.out; simp; omega⟩, by have := Hs.out; simp [intOf]; omega⟩
        · refine (Put_st b R (vals fl) (vals fl) O2 (.int .i64 x) false _ Ht.out.st (by have := Hfl.out; omega) (elmV x) (decide_eq_false hr) rfl).mono ?_
          rintro e w4 ⟨rfl, O4, h1, h2, h3⟩
          have Ht4 := Lib.hid (Ht.out.row h1 h2 h3)
          clear h1 h2 h3 Ht q0 hr
          go_wp2_with fail
          exact ⟨⟨s, vg, pl, gl, fl, O4, by have := Hs.out; omega, rfl, Ht4.out, Hpl.out, by have := Hs.out; have := Hli.out; omega⟩, by have := Hs.out; simp [intOf]; omega⟩
    · obtain rfl : i = len := by omega
      have e1 : decide ((i : Int) < (i : Int)) = false := decide_eq_false (by omega)
      have hpl3 : pl.length ≤ 300 := Nat.le_trans Hli.out h3
      have Hpl3 := Lib.hid hpl3
      clear hpl3
      go_wp2_with fail
      refine (Copy_st b R _ O2 _ Ht.out.st).mono ?_
      rintro e w3 ⟨c, O3, rfl, hS3, hO3, hb3⟩
      have Ht3 := Lib.hid (Ht.out.keep hb3)
      have HS3 := Lib.hid hS3
      clear hS3 hO3 hb3 Ht
      go_wp2_with fail
      refine (All_st c R _ O3 _ HS3.out).mono ?_
      rintro e w4 ⟨box, rfl, hbox, hb4, hseq⟩
      have Ht4 := Lib.hid (Ht3.out.keep hb4)
      have Hseq := Lib.hid hseq
      clear hbox hb4 hseq Ht3 HS3
      go_wp2_with fail
      refine (wpIn_wide (n := 4)).1 ?_
      have hfl : ∀ k, k < (vals fl).length → ∃ y, (vals fl)[k]? = some (.int .i64 y) ∧ fl[k]? = some y := fun k hk => by
        rw [vals_len] at hk
        exact ⟨fl[k], by simp [vals, List.getElem?_eq_getElem hk], List.getElem?_eq_getElem hk⟩
      have hfn := vals_len fl
      have Hfl := Lib.hid hfl
      have Hfn := Lib.hid hfn
      have hPl := Ht4.out.bx.lt
      have hT0 := own_lt Ht4.out.rg
      refine range_law rfl (by omega) (gf := 47) (bound := #[]) (lb := #[.pointer (some ⟨box, 0, none⟩)]) rfl trivial (enters_of Try.func47 (by kernel_rfl) rfl)
        (Hseq.out 3 w4 (by omega) (Below.refl _ _)) (fun _ => rfl) (fun _ h => h.elim)
        (fun k T X => ∃ vg', (T = fun j => j = P ∨ PB vg' j) ∧ Turn w.heap.size w X b R P u6 vg' pl (gl ++ fl.take k) fl O2)
        (fun _ _ _ _ => False) (fun j => j = P ∨ PB vg j) (fun _ _ h => h) (fun j hj => hj.elim (fun e => by omega) (fun e => (hT0 j e).2))
        (fun k T W W' h hk => by
          obtain ⟨vg', hT, ht⟩ := h
          exact ⟨vg', hT, ht.book hk (Nat.le_trans ht.b0 Ht4.out.bl.size)⟩)
        (fun _ _ _ _ _ h _ => h)
        (fun k T W j h hj => by
          obtain ⟨vg', rfl, ht⟩ := h
          exact hj.elim (fun e => e ▸ ht.bx.lt) (fun e => (own_lt ht.rg j e).2))
        ⟨vg, rfl, by simpa using Ht4.out⟩ ?round ?done ?stop
      case round =>
        intro lp k T W0 hk
        obtain ⟨y, hy, hy2⟩ := Hfl.out k hk
        rw [show els (vals fl) k = #[.int .i64 (k : Nat), .int .i64 y] by simp [els, hy]]
        have Hk := Lib.hid hk
        clear hk hy
        gi_wp2
        refine ⟨trivial, ?_⟩
        rintro W hsz ⟨vg', rfl, ht⟩ hT
        have q1 := ht.bx.at 0 rfl
        have hgl : (vals (gl ++ fl.take k)).length ≤ 300 := by
          have h1 := Hpl3.out
          rw [Hpl.out] at h1
          rw [vals_len]
          simp only [List.length_append, List.length_take] at h1 ⊢
          omega
        have Hgl := Lib.hid hgl
        have hbs := Nat.le_trans ht.b0 ht.bl.size
        have HtW := Lib.hid ht
        have Hy2 := Lib.hid hy2
        obtain ⟨ag, cg, hvg⟩ := own_shape ht.rg
        subst hvg
        clear ht hgl hy2 hT hsz
        gi_wp2_with (gi_at_builtin; refine wpListIn_append_own_at _ rfl _ _ 27 rfl w.heap.size 3 i0 (.int .i64 0) 1 8 Try.underlying27 Hi.out Hz0.out Hz1.out Hz2.out rfl (by decide) _ _ _ rfl (own_keep HtW.out.rg ((Below.refl _ _).alloc (Nat.le_refl _) _)) ⟨W.heap.size, 0, none⟩ 1 1 [.int .i64 y] rfl rfl (cell_one_new _ _ _) (by simp [Value.oneCell']) (by have := Hgl.out; unfold maxLen; omega) (by have := Hgl.out; omega) (by simp; omega) ?_; intro v' w5 h1 h2 _ h4; obtain ⟨hf5, ho5⟩ := turn_got_only HtW.out h2 h4; obtain ⟨a5, n5, c5, hv5, q5, f5, T5⟩ := turn_got HtW.out h1 h2 h4; subst hv5; have HT5 := Lib.hid T5; have Hf5 := Lib.hid hf5; have Ho5 := Lib.hid ho5; clear T5 h1 h2 h4 q1 hf5 ho5)
        refine ⟨_, Hf5.out, Ho5.out, _, rfl, ?_⟩
        have e : gl ++ fl.take (k + 1) = gl ++ fl.take k ++ [y] := by rw [List.append_assoc, List.take_add_one, Hy2.out]; rfl
        rw [e]
        exact HT5.out
      case done =>
        rintro T W ⟨vg', rfl, ht⟩ hD
        rw [Hfn.out, List.take_length] at ht
        rw [← Hpl.out] at ht
        have q1 := ht.bx.at 0 rfl
        have S := fun W' (hb : Below W.heap.size W W') => same_vals (own_keep ht.rp hb) (own_keep ht.rg hb)
        have HS := Lib.hid S
        have HtW := Lib.hid ht
        have HD := Lib.hid hD
        obtain ⟨ag, cg, hvg⟩ := own_shape ht.rg
        clear ht hD S
        subst hvg
        go_wp2_with fail
        refine (HS.out _ (Below.refl _ _)).mono ?_
        rintro e W5 ⟨rfl, hb5⟩
        have HD5 := Lib.hid ((hb5.block _ (Array.getElem?_eq_some_iff.1 HD.out).1).trans HD.out)
        have Hb5 := Lib.hid (HtW.out.bl.trans (hb5.mono (Nat.le_trans HtW.out.b0 HtW.out.bl.size)))
        have Hk := Lib.hid (Book.put (B := w.heap.size) (o' := .deferred none) (Nat.le_trans Ht4.out.b0 Ht4.out.bl.size) HD5.out rfl)
        clear HS hb5 q1
        go_wp2_with fail
        refine ⟨by simp, .inl ⟨_, _, rfl, run_takeDeferred HD5.out, ?_⟩⟩
        exact ⟨_, results_tmp rfl _ _ _, rfl, Hk.out.below Hb5.out (Nat.le_refl _)⟩
      case stop =>
        intro c k T W _ h
        exact h.elim
end Go.Proofs.Ytekmenojaojeiaa.Fifo5
