/- Whether a row is the document's: same. -/
import Derived.Test.YtekmenojaojeiaaGb
import Derived.Test.YtekmenojaojeiaaExt
import Derived.Test.YtekmenojaojeiaaGr
namespace Go.Proofs.Ytekmenojaojeiaa.Fifo5
open Go.RowKit Go.Maps Go.Shelf Fifo FI
set_option linter.unusedVariables false
attribute [local go_sem] Oper.semAt_some

theorem Len_of (b R n : Nat) (l : List Value) (O : Nat → Prop) (w : World) (h : St w b R l O) (hn : l.length = n) :
    Calls Try.prog 23 #[.pointer (some ⟨b, 0, none⟩)] w fun e w' => e = .returned (.int .i64 (n : Nat)) ∧ Below w.heap.size w w' := by
  subst hn
  refine (Len_st b R l O w h).mono ?_
  rintro e w' ⟨rfl, rfl⟩
  exact ⟨rfl, Below.refl _ _⟩
theorem Left_of (b R d : Nat) (l : List Value) (O : Nat → Prop) (w : World) (h : St w b R l O) (hd : R - l.length = d) :
    Calls Try.prog 24 #[.pointer (some ⟨b, 0, none⟩)] w fun e w' => e = .returned (.int .i64 (d : Nat)) ∧ Below w.heap.size w w' := by
  subst hd
  exact Left_st b R l O w h

set_option maxRecDepth 100000 in
set_option maxHeartbeats 4000000 in
theorem same_cons (b rb R : Nat) (y : Int) (t : List Int) (O Q : Nat → Prop) (w : World) (h : St w b R (vals (y :: t)) O) (k : RSt w rb R (vals (y :: t)) Q) (h9 : (vals (y :: t)).length ≤ 1900) :
    Calls Try.prog 16 #[.pointer (some ⟨b, 0, none⟩), .pointer (some ⟨rb, 0, none⟩)] w fun e w' => e = .returned (.bool true) ∧ Below w.heap.size w w' := by
  have hb00 : Below w.heap.size w ((w.alloc (.cells #[.pointer (some ⟨rb, 0, none⟩)] 26)).alloc (.cells #[.bool false] 4)) := ((Below.refl _ _).alloc (Nat.le_refl _) _).alloc (by simp) _
  have F := First_st b R _ O _ (h.keep hb00)
  rw [show fst (vals (y :: t)) = .int .i64 y from rfl, show (!(vals (y :: t)).isEmpty) = true from rfl] at F
  have C0 := (Blk.new w 26 [.pointer (some ⟨rb, 0, none⟩)]).alloc (.cells #[.bool false] 4)
  have C1 := Blk.new (w.alloc (.cells #[.pointer (some ⟨rb, 0, none⟩)] 26)) 4 [.bool false]
  rw [World.size_alloc] at C1
  obtain ⟨c0, hc0⟩ : ∃ c, w.heap.size = c := ⟨_, rfl⟩
  have hc01 : w.heap.size + 1 = c0 + 1 := by rw [hc0]
  have HF := Lib.hid F
  have HC0 := Lib.hid C0
  have HC1 := Lib.hid C1
  have Hb00 := Lib.hid hb00
  have Hk := Lib.hid (k.keep hb00)
  have Hh := Lib.hid (h.keep hb00)
  have Hc0 := Lib.hid hc0
  clear F C0 C1 hb00 hc0 hc01 h k
  refine (callsIn_wide (n := 4)).1 ?_
  refine callsIn_of_wp_marks Try.func16 rfl trivial ?_ rfl
  simp only [Try.ntmps16, List.size_toArray, List.length_cons, List.length_nil, Nat.reduceAdd, Nat.reduceSub, Array.replicate_succ, Array.replicate_zero, List.push_toArray, List.append_toArray, List.nil_append, List.cons_append]
  refine wpIn_wide.2 ?_
  go_wp2_with fail
  refine HF.out.mono ?_
  rintro e w1 ⟨rfl, hb1⟩
  rw [Hc0.out]
  have K0 := HC0.out.keep hb1
  have K1 := HC1.out.keep hb1
  rw [Hc0.out] at K0 K1
  have Hb1 := Lib.hid (Hb00.out.trans (hb1.mono Hb00.out.size))
  have S1 := Hh.out.keep hb1
  have R1 := Hk.out.keep hb1
  have hle := S1.le
  clear HF HC0 HC1 Hb00 Hk Hh hb1
  obtain ⟨rv, hRB, hRO, hRR, hRQ⟩ := R1
  obtain ⟨a, c, hv⟩ := hRO.shape
  subst hv
  obtain ⟨n, hn⟩ : ∃ n, (vals (y :: t)).length = n := ⟨_, rfl⟩
  rw [hn] at hRB hRO hle h9
  obtain ⟨d, hd⟩ : ∃ d, R - n = d := ⟨_, rfl⟩
  have e1 : IntKind.i64.wrap ((R : Int) - (n : Int)) = (d : Int) := by rw [i64w (by omega)]; omega
  have e2 : decide ((0 : Int) < (n : Int)) = true := decide_eq_true (by rw [← hn, vals_len, List.length_cons]; omega)
  have e3 : 0 < n := by rw [← hn, vals_len, List.length_cons]; omega
  obtain ⟨g, off, cap, hlies, hcap0, hcap1, hgl, hcell⟩ := hRO.lies (show vals (y :: t) ≠ [] by simp [vals])
  rw [hn] at hlies
  simp only [Value.slice.injEq, true_and] at hlies
  obtain ⟨rfl, rfl⟩ := hlies
  have z3 := hcell _ (Below.refl _ _) 0 (by rw [hn]; exact e3)
  rw [Nat.add_zero, show (vals (y :: t))[0]? = some (.int .i64 y) from rfl] at z3
  clear hcell hcap1 hcap0
  have z0 := K0.at 0 rfl
  have z1 := hRB.at 0 rfl
  have z2 := hRB.at 1 rfl
  have HS1 := Lib.hid S1
  have HK0 := Lib.hid K0
  have HK1 := Lib.hid K1
  have HRB := Lib.hid hRB
  have HRO := Lib.hid hRO
  have Hn := Lib.hid hn
  have Hd := Lib.hid hd
  have HRR := Lib.hid hRR
  have H9 := Lib.hid h9
  clear S1 K0 K1 hRB hRO hn hd hRR hle h9 hRQ
  go_wp2_with fail
  refine wp_region_ext (by kernel_rfl) (by kernel_rfl) ?_
  intro W hW
  obtain rfl := hW.out
  have x0 := ext_cell z0
  have x1 := ext_cell z1
  have x2 := ext_cell z2
  have x3 := ext_cell z3
  repeat (go_big_quiet_step ((first
    | (go_at_call 23; exact ext_of (Len_of b R n _ O _ (HS1.out.keep (ext_below _ _)) Hn.out))
    | (go_at_call 24; exact ext_of (Left_of b R d _ O _ (HS1.out.keep (ext_below _ _)) (by rw [Hn.out]; exact Hd.out))))))
  refine wpQuiet_nil ?_
  intro w' hw'
  obtain ⟨p, rfl⟩ := hw'
  refine exit_letter ?_
  intro W2 hW2
  have hb2 : Below W.heap.size W W2 := by rw [hW2.out]; exact ext_below _ _
  have HS2 := Lib.hid (HS1.out.keep hb2)
  have HJ0 := Lib.hid (HK0.out.keep hb2)
  have HJ1 := Lib.hid (HK1.out.keep hb2)
  have HRB2 := Lib.hid (HRB.out.keep hb2)
  have HRO2 := Lib.hid (HRO.out.keep hb2)
  have Hb2 := Lib.hid (Hb1.out.trans (hb2.mono Hb1.out.size))
  clear HS1 HK0 HK1 HRB HRO Hb1 hb2 hW2 z0 z1 z2 x0 x1 x2 z3 x3
  obtain ⟨ci, hci⟩ : ∃ ci, W2.heap.size = ci := ⟨_, rfl⟩
  have ha := (Below.refl W2.heap.size W2).alloc (Nat.le_refl _) (.cells #[.int .i64 0] 3)
  have HCi := Lib.hid (Blk.new W2 3 [.int .i64 0])
  rw [hci] at HCi
  have HA := Lib.hid ha
  have hcil := HJ1.out.lt
  have hrbl := HRB2.out.lt
  have hcj := HJ0.out.lt
  rw [hci] at hcil hrbl hcj
  have Hl := Lib.hid (And.intro hcil (And.intro hrbl (And.intro hcj (fun j hj => by have := HRO2.out.lt j hj; rw [hci] at this; exact this))))
  clear ha hcil hrbl hcj
  go_wp2_with fail
  refine (All_st b R _ O _ (HS2.out.keep HA.out)).mono ?_
  rintro e w4 ⟨box, rfl, hbox, hb4, hseq⟩
  have Hseq := Lib.hid hseq
  have HCi4 := Lib.hid (HCi.out.keep hb4)
  have HJ04 := Lib.hid ((HJ0.out.keep HA.out).keep hb4)
  have HJ14 := Lib.hid ((HJ1.out.keep HA.out).keep hb4)
  have HRB4 := Lib.hid ((HRB2.out.keep HA.out).keep hb4)
  have HRO4 := Lib.hid ((HRO2.out.keep HA.out).keep hb4)
  have Hb4 := Lib.hid (Hb2.out.trans ((HA.out.trans (hb4.mono HA.out.size)).mono Hb2.out.size))
  have hlt4 := HCi4.out.lt
  have hws : w.heap.size ≤ ci := by have := Hb2.out.size; rw [hci] at this; exact this
  have Hws := Lib.hid hws
  clear hseq hb4 hbox HCi HJ0 HJ1 HRB2 HRO2 Hb2 HA HS2 hci hws
  go_wp2_with fail
  refine (wpIn_wide (n := 4)).1 ?_
  have hen : ∀ k, k < n → ∃ x : Int, (vals (y :: t))[k]? = some (.int .i64 x) := fun k hk => by
    have h1 : k < (y :: t).length := by have := Hn.out; rw [vals_len] at this; omega
    exact ⟨((y :: t)[k]'h1), by simp only [vals, List.getElem?_map, List.getElem?_eq_getElem h1, Option.map_some]⟩
  have Hen := Lib.hid hen
  have Hseq2 := Lib.hid (show ∀ m w'', 2 ≤ m → Below w4.heap.size w4 w'' → SeqC Fence.wide m Try.prog 47 (fun lp => #[] ++ #[.func (.yield lp) #[] #[]] ++ #[.pointer (some ⟨box, 0, none⟩)]) n (els (vals (y :: t))) (fun _ => False) w'' from Hn.out ▸ Hseq.out)
  refine range_law rfl (by omega) (gf := 47) (bound := #[]) (lb := #[.pointer (some ⟨box, 0, none⟩)]) rfl trivial (enters_of Try.func47 (by kernel_rfl) rfl)
    (Hseq2.out 3 w4 (by omega) (Below.refl _ _)) (fun _ => rfl) (fun _ h => h.elim)
    (fun k T X => (T = fun j => j = ci) ∧ Blk X ci 3 [.int .i64 (k : Nat)] ∧ Blk X c0 26 [.pointer (some ⟨rb, 0, none⟩)] ∧ Blk X (c0 + 1) 4 [.bool false] ∧ Blk X rb 29 [.int .i64 (R : Nat), .slice (some ⟨g, off, none⟩) n c] ∧ Off X (.slice (some ⟨g, off, none⟩) n c) (vals (y :: t)) ∧ Below w.heap.size w X)
    (fun _ _ _ _ => False) (fun j => j = ci) (fun _ _ h => h) (fun j hj => by omega)
    (fun k T W W' h hk => ⟨h.1, h.2.1.book hk, h.2.2.1.book hk, h.2.2.2.1.book hk, h.2.2.2.2.1.book hk, h.2.2.2.2.2.1.book hk, hk.below h.2.2.2.2.2.2 Hb4.out.size⟩)
    (fun _ _ _ _ _ h _ => h)
    (fun k T W j h hj => by rw [h.1] at hj; subst hj; exact h.2.1.lt)
    ⟨rfl, HCi4.out, HJ04.out, HJ14.out, HRB4.out, HRO4.out, Hb4.out⟩ ?round ?done ?stop
  case round =>
    intro lp k T W0 hk
    obtain ⟨x, hx⟩ := Hen.out k hk
    rw [show els (vals (y :: t)) k = #[.int .i64 (k : Nat), .int .i64 x] by simp [els, hx]]
    have Hk := Lib.hid hk
    have Hx := Lib.hid hx
    clear hk hx
    gi_wp2
    refine ⟨trivial, ?_⟩
    rintro W hsz ⟨rfl, h1, h2, h3, h4, h5, h6⟩ hT
    have hkn := Hk.out
    obtain ⟨g', off', cap', hl', _, _, _, hcell⟩ := h5.lies (show vals (y :: t) ≠ [] by simp [vals])
    rw [Hn.out] at hl' hcell
    simp only [Value.slice.injEq, Option.some.injEq, Addr.mk.injEq, and_true, true_and] at hl'
    obtain ⟨⟨rfl, rfl⟩, rfl⟩ := hl'
    have y0 := h1.at 0 rfl
    have y1 := h2.at 0 rfl
    have y2 := h4.at 1 rfl
    have y3 := (hcell _ (Below.refl _ _) k hkn).trans Hx.out
    have u0 := h1.frozen 0
    have f1 : decide ((n : Int) ≤ (k : Int)) = false := decide_eq_false (by omega)
    have f2 : ¬ n ≤ k := by omega
    have f3 : (k : Int) < (n : Int) := by omega
    have f4 : (0 : Int) ≤ (k : Int) := by omega
    have hn9 := H9.out
    have f5 : IntKind.i64.wrap ((k : Int) + 1) = ((k + 1 : Nat) : Int) := by rw [i64w (by omega)]; omega
    have H1 := Lib.hid h1
    have H2 := Lib.hid h2
    have H3 := Lib.hid h3
    have H4 := Lib.hid h4
    have H5 := Lib.hid h5
    have H6 := Lib.hid h6
    clear h1 h2 h3 h4 h5 h6 hcell hT
    gi_wp2_with fail
    refine round_quiet (by kernel_rfl) (by kernel_rfl) (by kernel_rfl) ?_
    repeat (gi_big_quiet_step (fail))
    refine wpQuietIn_nil ?_
    intro w' hw'
    obtain ⟨nq, rfl⟩ := hw'
    gi_wp2_with fail
    have hB := below_drewN W nq
    have hset : Only (fun j => j = ci) (W.drewN nq) ((W.drewN nq).setCell ⟨ci, 0, none⟩ (.int .i64 ((k : Int) + 1))) := (Only.refl (fun j => j = ci) _).setCell (p := ⟨ci, 0, none⟩) rfl _
    obtain ⟨l1, l2, l3, l4⟩ := Hl.out
    have e : ((k + 1 : Nat) : Int) = (k : Int) + 1 := by omega
    refine ⟨_, fun j h => .inl h, (Only.of_below hB).trans hset, rfl, by rw [e]; exact (H1.out.keep hB).set 0 _, (H2.out.keep hB).other (p := ⟨ci, 0, none⟩) (show c0 ≠ ci by omega) _, (H3.out.keep hB).other (p := ⟨ci, 0, none⟩) (show c0 + 1 ≠ ci by omega) _, (H4.out.keep hB).other (p := ⟨ci, 0, none⟩) (show rb ≠ ci by omega) _, (H5.out.keep hB).only hset (fun j hj e => by have := l4 j hj; omega), ?_⟩
    exact (H6.out.trans (hB.mono (Nat.le_trans Hws.out (Nat.le_of_lt H1.out.lt)))).setCell (p := ⟨ci, 0, none⟩) Hws.out _

  case done =>
    rintro T W ⟨_, h1, h2, h3, h4, h5, h6⟩ hD
    have y0 := h1.at 0 rfl
    have y1 := h2.at 0 rfl
    have y2 := h4.at 1 rfl
    have y3 := h3.at 0 rfl
    have u3 := h3.frozen 0
    have HD := Lib.hid hD
    have H6 := Lib.hid h6
    have H3 := Lib.hid h3
    clear h1 h2 h3 h4 h5 h6 hD
    go_wp2_with fail
    go_region
    refine exit_letter ?_
    intro X hX
    obtain ⟨l1, l2, l3, l4⟩ := Hl.out
    have hne : w4.heap.size ≠ c0 + 1 := by omega
    have HX3 := Lib.hid (show Blk X (c0 + 1) 4 [.bool true] by rw [hX.out]; exact (H3.out.set 0 (.bool true)).keep (Below.refl _ _).drew)
    have HXD := Lib.hid (show X.heap[w4.heap.size]? = some (.deferred (some [])) by rw [hX.out]; exact (Below.heap_setCell W ⟨c0 + 1, 0, none⟩ (.bool true) w4.heap.size hne).trans HD.out)
    have HXb := Lib.hid (show Below w.heap.size w X by rw [hX.out]; exact (H6.out.setCell (p := ⟨c0 + 1, 0, none⟩) (by have := Hc0.out; show w.heap.size ≤ c0 + 1; omega) (.bool true)).drew)
    have Hk := Lib.hid (Book.put (B := w.heap.size) (o' := .deferred none) Hb4.out.size HXD.out rfl)
    clear hX y0 y1 y2 y3 u3 H3 H6 HD
    go_wp2_with fail
    refine ⟨by simp, .inl ⟨_, _, rfl, run_takeDeferred HXD.out, ?_⟩⟩
    have c5 := (HX3.out.book Hk.out).at 0 rfl
    refine ⟨.bool true, ?_, rfl, Hk.out.below HXb.out (Nat.le_refl _)⟩
    simp [results, Try.f16, go_sem, c5]
  case stop =>
    intro c k T W _ h
    exact h.elim
set_option maxRecDepth 100000 in
set_option maxHeartbeats 4000000 in
theorem same_nil (b rb R : Nat) (O Q : Nat → Prop) (w : World) (h : St w b R (vals (([] : List Int))) O) (k : RSt w rb R (vals (([] : List Int))) Q) (h9 : (vals (([] : List Int))).length ≤ 1900) :
    Calls Try.prog 16 #[.pointer (some ⟨b, 0, none⟩), .pointer (some ⟨rb, 0, none⟩)] w fun e w' => e = .returned (.bool true) ∧ Below w.heap.size w w' := by
  have hb00 : Below w.heap.size w ((w.alloc (.cells #[.pointer (some ⟨rb, 0, none⟩)] 26)).alloc (.cells #[.bool false] 4)) := ((Below.refl _ _).alloc (Nat.le_refl _) _).alloc (by simp) _
  have F := First_st b R _ O _ (h.keep hb00)
  rw [show fst (vals (([] : List Int))) = .int .i64 0 from rfl, show (!(vals (([] : List Int))).isEmpty) = false from rfl] at F
  have C0 := (Blk.new w 26 [.pointer (some ⟨rb, 0, none⟩)]).alloc (.cells #[.bool false] 4)
  have C1 := Blk.new (w.alloc (.cells #[.pointer (some ⟨rb, 0, none⟩)] 26)) 4 [.bool false]
  rw [World.size_alloc] at C1
  obtain ⟨c0, hc0⟩ : ∃ c, w.heap.size = c := ⟨_, rfl⟩
  have hc01 : w.heap.size + 1 = c0 + 1 := by rw [hc0]
  have HF := Lib.hid F
  have HC0 := Lib.hid C0
  have HC1 := Lib.hid C1
  have Hb00 := Lib.hid hb00
  have Hk := Lib.hid (k.keep hb00)
  have Hh := Lib.hid (h.keep hb00)
  have Hc0 := Lib.hid hc0
  clear F C0 C1 hb00 hc0 hc01 h k
  refine (callsIn_wide (n := 4)).1 ?_
  refine callsIn_of_wp_marks Try.func16 rfl trivial ?_ rfl
  simp only [Try.ntmps16, List.size_toArray, List.length_cons, List.length_nil, Nat.reduceAdd, Nat.reduceSub, Array.replicate_succ, Array.replicate_zero, List.push_toArray, List.append_toArray, List.nil_append, List.cons_append]
  refine wpIn_wide.2 ?_
  go_wp2_with fail
  refine HF.out.mono ?_
  rintro e w1 ⟨rfl, hb1⟩
  rw [Hc0.out]
  have K0 := HC0.out.keep hb1
  have K1 := HC1.out.keep hb1
  rw [Hc0.out] at K0 K1
  have Hb1 := Lib.hid (Hb00.out.trans (hb1.mono Hb00.out.size))
  have S1 := Hh.out.keep hb1
  have R1 := Hk.out.keep hb1
  have hle := S1.le
  clear HF HC0 HC1 Hb00 Hk Hh hb1
  obtain ⟨rv, hRB, hRO, hRR, hRQ⟩ := R1
  obtain ⟨a, c, hv⟩ := hRO.shape
  subst hv
  obtain ⟨n, hn⟩ : ∃ n, (vals (([] : List Int))).length = n := ⟨_, rfl⟩
  rw [hn] at hRB hRO hle h9
  obtain ⟨d, hd⟩ : ∃ d, R - n = d := ⟨_, rfl⟩
  have e1 : IntKind.i64.wrap ((R : Int) - (n : Int)) = (d : Int) := by rw [i64w (by omega)]; omega
  have hn0 : n = 0 := by rw [← hn]; rfl
  have e2 : decide ((0 : Int) < (n : Int)) = false := decide_eq_false (by omega)
  have e3 : ¬ 0 < n := by omega
  have HN0 := Lib.hid hn0
  clear hn0
  have z0 := K0.at 0 rfl
  have z1 := hRB.at 0 rfl
  have z2 := hRB.at 1 rfl
  have HS1 := Lib.hid S1
  have HK0 := Lib.hid K0
  have HK1 := Lib.hid K1
  have HRB := Lib.hid hRB
  have HRO := Lib.hid hRO
  have Hn := Lib.hid hn
  have Hd := Lib.hid hd
  have HRR := Lib.hid hRR
  have H9 := Lib.hid h9
  clear S1 K0 K1 hRB hRO hn hd hRR hle h9 hRQ
  go_wp2_with fail
  refine wp_region_ext (by kernel_rfl) (by kernel_rfl) ?_
  intro W hW
  obtain rfl := hW.out
  have x0 := ext_cell z0
  have x1 := ext_cell z1
  have x2 := ext_cell z2
  repeat (go_big_quiet_step ((first
    | (go_at_call 23; exact ext_of (Len_of b R n _ O _ (HS1.out.keep (ext_below _ _)) Hn.out))
    | (go_at_call 24; exact ext_of (Left_of b R d _ O _ (HS1.out.keep (ext_below _ _)) (by rw [Hn.out]; exact Hd.out))))))
  refine wpQuiet_nil ?_
  intro w' hw'
  obtain ⟨p, rfl⟩ := hw'
  refine exit_letter ?_
  intro W2 hW2
  have hb2 : Below W.heap.size W W2 := by rw [hW2.out]; exact ext_below _ _
  have HS2 := Lib.hid (HS1.out.keep hb2)
  have HJ0 := Lib.hid (HK0.out.keep hb2)
  have HJ1 := Lib.hid (HK1.out.keep hb2)
  have HRB2 := Lib.hid (HRB.out.keep hb2)
  have HRO2 := Lib.hid (HRO.out.keep hb2)
  have Hb2 := Lib.hid (Hb1.out.trans (hb2.mono Hb1.out.size))
  clear HS1 HK0 HK1 HRB HRO Hb1 hb2 hW2 z0 z1 z2 x0 x1 x2 
  obtain ⟨ci, hci⟩ : ∃ ci, W2.heap.size = ci := ⟨_, rfl⟩
  have ha := (Below.refl W2.heap.size W2).alloc (Nat.le_refl _) (.cells #[.int .i64 0] 3)
  have HCi := Lib.hid (Blk.new W2 3 [.int .i64 0])
  rw [hci] at HCi
  have HA := Lib.hid ha
  have hcil := HJ1.out.lt
  have hrbl := HRB2.out.lt
  have hcj := HJ0.out.lt
  rw [hci] at hcil hrbl hcj
  have Hl := Lib.hid (And.intro hcil (And.intro hrbl (And.intro hcj (fun j hj => by have := HRO2.out.lt j hj; rw [hci] at this; exact this))))
  clear ha hcil hrbl hcj
  go_wp2_with fail
  refine (All_st b R _ O _ (HS2.out.keep HA.out)).mono ?_
  rintro e w4 ⟨box, rfl, hbox, hb4, hseq⟩
  have Hseq := Lib.hid hseq
  have HCi4 := Lib.hid (HCi.out.keep hb4)
  have HJ04 := Lib.hid ((HJ0.out.keep HA.out).keep hb4)
  have HJ14 := Lib.hid ((HJ1.out.keep HA.out).keep hb4)
  have HRB4 := Lib.hid ((HRB2.out.keep HA.out).keep hb4)
  have HRO4 := Lib.hid ((HRO2.out.keep HA.out).keep hb4)
  have Hb4 := Lib.hid (Hb2.out.trans ((HA.out.trans (hb4.mono HA.out.size)).mono Hb2.out.size))
  have hlt4 := HCi4.out.lt
  have hws : w.heap.size ≤ ci := by have := Hb2.out.size; rw [hci] at this; exact this
  have Hws := Lib.hid hws
  clear hseq hb4 hbox HCi HJ0 HJ1 HRB2 HRO2 Hb2 HA HS2 hci hws
  go_wp2_with fail
  refine (wpIn_wide (n := 4)).1 ?_
  have hen : ∀ k, k < n → ∃ x : Int, (vals (([] : List Int)))[k]? = some (.int .i64 x) := fun k hk => by
    have h1 : k < (([] : List Int)).length := by have := Hn.out; rw [vals_len] at this; omega
    exact ⟨((([] : List Int))[k]'h1), by simp only [vals, List.getElem?_map, List.getElem?_eq_getElem h1, Option.map_some]⟩
  have Hen := Lib.hid hen
  have Hseq2 := Lib.hid (show ∀ m w'', 2 ≤ m → Below w4.heap.size w4 w'' → SeqC Fence.wide m Try.prog 47 (fun lp => #[] ++ #[.func (.yield lp) #[] #[]] ++ #[.pointer (some ⟨box, 0, none⟩)]) n (els (vals (([] : List Int)))) (fun _ => False) w'' from Hn.out ▸ Hseq.out)
  refine range_law rfl (by omega) (gf := 47) (bound := #[]) (lb := #[.pointer (some ⟨box, 0, none⟩)]) rfl trivial (enters_of Try.func47 (by kernel_rfl) rfl)
    (Hseq2.out 3 w4 (by omega) (Below.refl _ _)) (fun _ => rfl) (fun _ h => h.elim)
    (fun k T X => (T = fun j => j = ci) ∧ Blk X ci 3 [.int .i64 (k : Nat)] ∧ Blk X c0 26 [.pointer (some ⟨rb, 0, none⟩)] ∧ Blk X (c0 + 1) 4 [.bool false] ∧ Blk X rb 29 [.int .i64 (R : Nat), .slice a n c] ∧ Off X (.slice a n c) (vals (([] : List Int))) ∧ Below w.heap.size w X)
    (fun _ _ _ _ => False) (fun j => j = ci) (fun _ _ h => h) (fun j hj => by omega)
    (fun k T W W' h hk => ⟨h.1, h.2.1.book hk, h.2.2.1.book hk, h.2.2.2.1.book hk, h.2.2.2.2.1.book hk, h.2.2.2.2.2.1.book hk, hk.below h.2.2.2.2.2.2 Hb4.out.size⟩)
    (fun _ _ _ _ _ h _ => h)
    (fun k T W j h hj => by rw [h.1] at hj; subst hj; exact h.2.1.lt)
    ⟨rfl, HCi4.out, HJ04.out, HJ14.out, HRB4.out, HRO4.out, Hb4.out⟩ ?round ?done ?stop
  case round =>
    intro lp k T W0 hk
    have := HN0.out
    omega

  case done =>
    rintro T W ⟨_, h1, h2, h3, h4, h5, h6⟩ hD
    have y0 := h1.at 0 rfl
    have y1 := h2.at 0 rfl
    have y2 := h4.at 1 rfl
    have y3 := h3.at 0 rfl
    have u3 := h3.frozen 0
    have HD := Lib.hid hD
    have H6 := Lib.hid h6
    have H3 := Lib.hid h3
    clear h1 h2 h3 h4 h5 h6 hD
    go_wp2_with fail
    go_region
    refine exit_letter ?_
    intro X hX
    obtain ⟨l1, l2, l3, l4⟩ := Hl.out
    have hne : w4.heap.size ≠ c0 + 1 := by omega
    have HX3 := Lib.hid (show Blk X (c0 + 1) 4 [.bool true] by rw [hX.out]; exact (H3.out.set 0 (.bool true)).keep (Below.refl _ _).drew)
    have HXD := Lib.hid (show X.heap[w4.heap.size]? = some (.deferred (some [])) by rw [hX.out]; exact (Below.heap_setCell W ⟨c0 + 1, 0, none⟩ (.bool true) w4.heap.size hne).trans HD.out)
    have HXb := Lib.hid (show Below w.heap.size w X by rw [hX.out]; exact (H6.out.setCell (p := ⟨c0 + 1, 0, none⟩) (by have := Hc0.out; show w.heap.size ≤ c0 + 1; omega) (.bool true)).drew)
    have Hk := Lib.hid (Book.put (B := w.heap.size) (o' := .deferred none) Hb4.out.size HXD.out rfl)
    clear hX y0 y1 y2 y3 u3 H3 H6 HD
    go_wp2_with fail
    refine ⟨by simp, .inl ⟨_, _, rfl, run_takeDeferred HXD.out, ?_⟩⟩
    have c5 := (HX3.out.book Hk.out).at 0 rfl
    refine ⟨.bool true, ?_, rfl, Hk.out.below HXb.out (Nat.le_refl _)⟩
    simp [results, Try.f16, go_sem, c5]
  case stop =>
    intro c k T W _ h
    exact h.elim
end Go.Proofs.Ytekmenojaojeiaa.Fifo5
