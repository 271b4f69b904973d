/- Package scrub: a world's devices, all holds: ranges over a function. -/
import Derived.Test.YtmdepkehpohgeaaGreatS6wb
import Derived.Test.YtmdepkehpohgeaaGreatGq
import Derived.Test.YtmdepkehpohgeaaGreatGw
import Derived.Test.YtmdepkehpohgeaaGreatBn
import Derived.Maps.AppendAt
import Derived.Maps.OwnIn
namespace Go.Proofs.YtmdepkehpohgeaaGreat.Scr
open Go.RowKit Go.Maps Go.ChangeShapes Go.WideShapes Go.ChangeAt Fifo Orow Word
set_option linter.unusedVariables false
attribute [local go_sem] Oper.semAt_some

theorem take_snoc' {α : Type} [Inhabited α] {s : List α} {k : Nat} (h : k < s.length) : s.take (k + 1) = s.take k ++ [s[k]!] := by
  rw [List.take_add_one, List.getElem?_eq_getElem h, getElem!_pos s k h]; rfl
theorem nums_snoc' (p : Hd → Bool) {s : List Hd} {k : Nat} (h : k < s.length) : numsF p 0 (s.take (k + 1)) = numsF p 0 (s.take k) ++ (if p s[k]! then [k] else []) := by
  rw [take_snoc' h, nums_app]
  simp [List.length_take, Nat.min_eq_left (Nat.le_of_lt h)]
theorem InB.keep {w w' : World} {b : Nat} {s : RS} {a : Option Addr} {c : Nat} {L : List Hk} (h : InB w b s a c L) (hb : Below w.heap.size w w') : InB w' b s a c L :=
  h.only (S := fun _ => False) (Only.of_below hb) (fun h => h) (fun _ _ h => h)
theorem InB.cells {w : World} {b : Nat} {s : RS} {a : Option Addr} {c : Nat} {L : List Hk} (h : InB w b s a c L) {k : Nat} (hk : k < L.length) : ∃ g, a = some ⟨g, 0, none⟩ ∧ AtHk w g (k * 4) L[k]! := by
  obtain ⟨g, rfl⟩ := own_some h.row (.inl (by omega))
  obtain ⟨c0, c1, c2, c3⟩ := hk_at h.row hk
  exact ⟨g, rfl, c0, c1, c2, c3⟩
theorem InB.lt {w : World} {b : Nat} {s : RS} {a : Option Addr} {c : Nat} {L : List Hk} (h : InB w b s a c L) : b < w.heap.size ∧ ∀ j, BA a j → j < w.heap.size := ⟨h.blk.lt, fun j hj => (own_lt h.row j hj).2⟩
theorem InB.book {B : Nat} {w w' : World} {b : Nat} {s : RS} {a : Option Addr} {c : Nat} {L : List Hk} (h : InB w b s a c L) (hb : Book B w w') : InB w' b s a c L :=
  ⟨h.ok, h.hd, h.kn, h.blk.book hb, rows_book h.row hb, h.ne⟩
set_option maxRecDepth 100000 in
set_option maxHeartbeats 4000000 in
theorem Of_core (b c : Nat) (a : Option Addr) (s : RS) (L : List Hk) (x : Int) (w : World) (h : InB w b s a c L) :
    Calls Tryz.prog 19 #[.pointer (some ⟨b, 0, none⟩), .int .i64 x] w fun e w' => (∃ v, e = .returned v ∧ w'.ownsRow w.heap.size 3 1 v (ofV s x).length (iv (ofV s x))) ∧ Below w.heap.size w w' := by
  obtain ⟨i0, hi, hz0, hz1, hz2⟩ := info_parts KitInts.info_e
  have Hi := Lib.hid hi
  have Hz0 := Lib.hid hz0
  have Hz1 := Lib.hid hz1
  have Hz2 := Lib.hid hz2
  have HI := Lib.hid h
  have Hlt := Lib.hid h.lt
  have hsz : L.length ≤ 16 := by rw [h.len]; exact h.ok.few
  have Hsz := Lib.hid hsz
  have Hlen := Lib.hid h.len
  obtain ⟨p, hp⟩ : ∃ p : Hd → Bool, (fun h : Hd => decide (h.o = x ∧ 0 ≤ x)) = p := ⟨_, rfl⟩
  have Hp := Lib.hid hp
  have hof : ofV s x = numsF p 0 s.H := by unfold ofV; rw [hp]
  rw [hof]
  obtain ⟨M, hM⟩ : ∃ M, M = (w.alloc (.cells #[.int .i64 x] 3)).alloc (.cells #[.slice none 0 0] 41) := ⟨_, rfl⟩
  have BM := Lib.hid (show Below w.heap.size w M by rw [hM]; exact ((Below.refl _ _).alloc (Nat.le_refl _) _).alloc (by simp) _)
  have X0 := Lib.hid (show Blk M w.heap.size 3 [.int .i64 x] by rw [hM]; exact (Blk.new w _ [.int .i64 x]).alloc _)
  have L0 := Lib.hid (show Blk M (w.heap.size + 1) 41 [.slice none 0 0] by
    rw [hM]
    have := Blk.new (w.alloc (.cells #[.int .i64 x] 3)) 41 [.slice none 0 0]
    rwa [World.size_alloc] at this)
  have hq : M.cell? ⟨b, 1, none⟩ = some (.pointer (some ⟨b, 0, none⟩)) := (HI.out.keep BM.out).blk.at 1 rfl
  have q0 := (HI.out.keep BM.out).blk.at 0 rfl
  have HR := Lib.hid (row_yes b M hq)
  have HT := Lib.hid (that_any a L.length c 43 M)
  have HM := Lib.hid hM
  rw [hM] at HR HT q0
  clear hi hz0 hz1 hz2 h hq hp hof hM
  refine (callsIn_wide (n := 6)).1 ?_
  refine callsIn_of_wp_marks Tryz.func19 rfl trivial ?_ rfl
  simp only [Tryz.ntmps19, List.size_toArray, List.length_cons, List.length_nil, Nat.reduceAdd, Nat.reduceSub, Array.replicate_succ, Array.replicate_zero, List.push_toArray, List.append_toArray, List.nil_append, List.cons_append]
  refine wpIn_wide.2 ?_
  go_wp2_with fail
  refine HR.out.mono ?_
  rintro e w1 ⟨rfl, rfl⟩
  go_wp2_with fail
  refine HT.out.mono ?_
  rintro e w1 ⟨rfl, hx, hy, hb1, hs1⟩
  rw [← HM.out] at hx hy hb1 hs1
  rw [← HM.out]
  obtain ⟨g, hg⟩ : ∃ g, M.heap.size = g := ⟨_, rfl⟩
  have hgw : g = w.heap.size + 2 := by rw [← hg, HM.out]; simp
  rw [hg] at hx hy hs1 ⊢
  have BW := Lib.hid (BM.out.trans (hb1.mono BM.out.size))
  have X1 := Lib.hid (X0.out.keep hb1)
  have L1 := Lib.hid (L0.out.keep hb1)
  have I1 := Lib.hid (HI.out.keep BW.out)
  have HX := Lib.hid hx
  have HY := Lib.hid hy
  have Hs1 := Lib.hid hs1
  have Hgw := Lib.hid hgw
  clear hx hy hb1 hs1 hg hgw HM HT HR q0 X0 L0 BM
  go_wp2_with fail
  refine (wpIn_wide (n := 4)).1 ?_
  have hlb := Hlt.out.1
  have hla := Hlt.out.2
  have hg := Hgw.out
  have hs := Hs1.out
  refine range_lawI rfl (by omega) (gf := 68) (bound := #[]) (lb := #[.pointer (some ⟨g, 0, none⟩), .pointer (some ⟨g + 1, 0, none⟩)]) rfl trivial (enters_of Tryz.func68 (by kernel_rfl) rfl)
    (that_owned 3 (by omega) g (g + 1) L.length c a L w1 HX.out HY.out (by have := Hsz.out; omega)) (fun _ => rfl) (fun j hj => by omega)
    (fun k T X => ∃ v, T = GB (w.heap.size + 1) v ∧ Grow 3 41 1 X (w.heap.size + 1) v (numsF p 0 (s.H.take k)).length (iv (numsF p 0 (s.H.take k))) ∧ Blk X w.heap.size 3 [.int .i64 x] ∧ InB X b s a c L ∧ Below w.heap.size w X)
    (fun _ _ _ _ => False) (GB (w.heap.size + 1) (.slice none 0 0)) (fun j hj hn => by rcases hj with rfl | hj; omega; simp [PB, Value.ownBlock] at hj) (fun j hj => by rcases hj with rfl | hj; omega; simp [PB, Value.ownBlock] at hj)
    (fun k T W W' h hk => ?keep) (fun _ _ _ _ _ h _ => h)
    (fun k T W j h hj => ?inb)
    ⟨.slice none 0 0, rfl, ⟨L1.out, World.ownsRow_nil _ _ _ _⟩, X1.out, I1.out, BW.out⟩
    (fun k T W hk h => ?cells) (fun k T W hk hno h => ?skip) ?round ?done ?stop
  case keep =>
    obtain ⟨v, rfl, h2, h3, h5, h6⟩ := h
    exact ⟨v, rfl, h2.book hk, h3.book hk, h5.book hk, hk.below h6 (by omega)⟩
  case inb =>
    obtain ⟨v, rfl, h2, h3, h5, h6⟩ := h
    exact (h2.lt j hj).2
  case cells =>
    obtain ⟨v, rfl, h2, h3, h5, h6⟩ := h
    exact h5.cells hk
  case skip =>
    obtain ⟨v, h1, h2, h3, h5, h6⟩ := h
    have hkh : k < s.H.length := by rw [← Hlen.out]; exact hk
    have hpk : p s.H[k]! = false := by
      rw [← Hp.out, ← (h5.at hk).1]
      simp only [ownedP, Bool.not_eq_false', beq_iff_eq] at hno
      exact decide_eq_false (fun ⟨e1, e2⟩ => by rw [hno] at e1; omega)
    have e : numsF p 0 (s.H.take (k + 1)) = numsF p 0 (s.H.take k) := by rw [nums_snoc' p hkh, hpk]; simp
    exact ⟨v, h1, by rw [e]; exact h2, h3, h5, h6⟩
  case round =>
    intro lp k T W0 hk hok
    obtain ⟨e, he⟩ : ∃ e, L[k]! = e := ⟨_, rfl⟩
    have He := Lib.hid he
    simp only [he] at hok ⊢
    obtain ⟨o, l, nn, kk⟩ := e
    have Hk := Lib.hid hk
    have Hok := Lib.hid hok
    clear hk hok he hlb hla hg hs
    gi_wp2
    refine ⟨(Below.refl _ _).alloc (Nat.le_refl _) _, ?_⟩
    rintro W hbk hsz hs2 ⟨v, rfl, hgr, hxb, hin, hb⟩ hT
    have hst := (Blk.new W0 81 [.int .i64 o, .int .i64 l, .int .i64 nn, .int .i64 kk]).book hbk
    have c0 := hst.at 0 rfl
    have x0 := hxb.at 0 rfl
    have l0 := hgr.bx.at 0 rfl
    have hkh : k < s.H.length := by rw [← Hlen.out]; exact Hk.out
    have hhd : s.H[k]! = ⟨o, l, nn⟩ := by rw [← (hin.at Hk.out).1, He.out]; rfl
    have ho0 : 0 ≤ o := by
      have h1 := (hin.ok.hol k hkh).2.1
      rw [hhd] at h1
      have h2 : (!(o == -1)) = true := Hok.out
      simp only [Bool.not_eq_true', beq_eq_false_iff_ne] at h2
      have h3 : -1 ≤ o := h1.1
      omega
    have hpk : p s.H[k]! = decide (o = x ∧ 0 ≤ x) := by rw [← Hp.out, hhd]
    have hs := nums_snoc' p hkh
    have Hle := Lib.hid (show (numsF p 0 (s.H.take k)).length ≤ 16 from Nat.le_trans (nums_len p 0 (s.H.take k)) (by rw [List.length_take]; have := Hsz.out; have := Hlen.out; omega))
    have HG := Lib.hid hgr
    have HXB := Lib.hid hxb
    have HIn := Lib.hid hin
    have HB := Lib.hid hb
    obtain ⟨va, vc, hv, -, -⟩ := Orow.own_shape hgr.rw
    subst hv
    clear hbk hsz hs2 hT hst hgr hxb hin hb hhd
    by_cases hc : o = x
    · have e1 : (o == x) = true := beq_iff_eq.2 hc
      rw [decide_eq_true (⟨hc, by omega⟩ : o = x ∧ 0 ≤ x)] at hpk
      rw [hpk, if_pos rfl] at hs
      have Hs := Lib.hid hs
      clear hc hs hpk hkh ho0
      gi_wp2_with (gi_at_builtin; refine wpListIn_append_own_at _ rfl _ _ 41 rfl (w.heap.size + 1 + 1) 3 i0 (.int .i64 0) 1 8 Tryz.underlying41 Hi.out Hz0.out Hz1.out Hz2.out rfl (by decide) _ _ _ rfl (own_keep HG.out.rw ((Below.refl _ _).alloc (Nat.le_refl _) _)) ⟨W.heap.size, 0, none⟩ 1 1 [.int .i64 (k : Nat)] rfl rfl (Orow.cells_new _ _ _) (by simp [Value.oneCell']) (by have := Hle.out; unfold maxLen; omega) (by have := Hle.out; omega) (by have := HG.out.bx.lt; simp; omega) ?_; intro v' w5 h1 h2 _ h4; obtain ⟨⟨a5, c5, hv5⟩, q5, f5, T5, hf5, ho5⟩ := HG.out.app h1 h2 h4; subst hv5; have HT5 := Lib.hid T5; have Hf5 := Lib.hid hf5; have Ho5 := Lib.hid ho5; clear T5 h1 h2 h4 hf5 ho5)
      have hlo : ∀ j, GB (w.heap.size + 1) (.slice va (numsF p 0 (s.H.take k)).length vc) j → w.heap.size + 1 ≤ j := fun j hj => (HG.out.lt j hj).1
      refine ⟨_, Hf5.out, Ho5.out, _, rfl, ?_, HXB.out.only Ho5.out (fun h => by have := hlo _ h; omega), HIn.out.only Ho5.out (fun h => by have := hlo _ h; have := Hlt.out.1; omega) (fun j hj h => by have := hlo _ h; have := Hlt.out.2 j hj; omega), HB.out.trans (Ho5.out.below (by have := HXB.out.lt; omega) (fun j hj => by have := hlo _ hj; omega))⟩
      rw [Hs.out, List.length_append]
      have := HT5.out
      simpa [iv] using this
    · have e1 : (o == x) = false := beq_eq_false_iff_ne.2 hc
      rw [decide_eq_false (fun h => hc h.1 : ¬ (o = x ∧ 0 ≤ x))] at hpk
      rw [hpk, if_neg (by decide), List.append_nil] at hs
      have Hs := Lib.hid hs
      clear hc hs hpk hkh ho0
      gi_wp2
      exact ⟨_, fun j h => .inl h, Only.refl _ _, _, rfl, by rw [Hs.out]; exact HG.out, HXB.out, HIn.out, HB.out⟩
  case done =>
    rintro T W ⟨v, rfl, hgr, hxb, hin, hb⟩ hD
    rw [List.take_of_length_le (show s.H.length ≤ L.length by rw [← Hlen.out]; exact Nat.le_refl _)] at hgr
    have l0 := hgr.bx.at 0 rfl
    have HD := Lib.hid hD
    have HG := Lib.hid hgr
    have HB := Lib.hid hb
    obtain ⟨va, vc, hv, -, -⟩ := Orow.own_shape hgr.rw
    subst hv
    clear hgr hxb hin hb hD hlb hla hg hs
    go_wp2_with fail
    have Hk := Lib.hid (Book.put (B := w.heap.size) (o' := .deferred none) (by have := BW.out.size; exact this) HD.out rfl)
    refine ⟨by simp, .inl ⟨_, _, rfl, run_takeDeferred HD.out, ?_⟩⟩
    have hrw := own_mono (HG.out.book Hk.out).rw (show w.heap.size ≤ w.heap.size + 1 + 1 by omega)
    refine ⟨_, results_tmp rfl _ _ _, ?_⟩
    exact ⟨⟨_, rfl, hrw⟩, Hk.out.below HB.out (Nat.le_refl _)⟩
  case stop =>
    intro c k T W _ h
    exact h.elim
theorem info_hold : (Tryz.prog.info? 52).map (fun i => (i.zero, i.size, i.bytes)) = some (some (.agg #[.int .i64 0, .int .i64 0, .int .i64 0]), 3, 24) := by kernel_rfl
theorem flHd_step {s : List Hd} {k : Nat} (h : k < s.length) : flHd (s.take (k + 1)) = flHd (s.take k) ++ encHd s[k]! := by rw [take_snoc' h, flHd_snoc]
set_option maxRecDepth 100000 in
set_option maxHeartbeats 4000000 in
theorem All_core (b c : Nat) (a : Option Addr) (s : RS) (L : List Hk) (w : World) (h : InB w b s a c L) :
    Calls Tryz.prog 21 #[.pointer (some ⟨b, 0, none⟩)] w fun e w' => (∃ v, e = .returned v ∧ w'.ownsRow w.heap.size 52 3 v s.H.length (flHd s.H)) ∧ Below w.heap.size w w' := by
  obtain ⟨i0, hi, hz0, hz1, hz2⟩ := info_parts info_hold
  have Hi := Lib.hid hi
  have Hz0 := Lib.hid hz0
  have Hz1 := Lib.hid hz1
  have Hz2 := Lib.hid hz2
  have HI := Lib.hid h
  have Hlt := Lib.hid h.lt
  have hsz : L.length ≤ 16 := by rw [h.len]; exact h.ok.few
  have Hsz := Lib.hid hsz
  have Hlen := Lib.hid h.len
  obtain ⟨M, hM⟩ : ∃ M, M = w.alloc (.cells #[.slice none 0 0] 62) := ⟨_, rfl⟩
  have BM := Lib.hid (show Below w.heap.size w M by rw [hM]; exact (Below.refl _ _).alloc (Nat.le_refl _) _)
  have L0 := Lib.hid (show Blk M w.heap.size 62 [.slice none 0 0] by rw [hM]; exact Blk.new w _ [.slice none 0 0])
  have hq : M.cell? ⟨b, 1, none⟩ = some (.pointer (some ⟨b, 0, none⟩)) := (HI.out.keep BM.out).blk.at 1 rfl
  have q0 := (HI.out.keep BM.out).blk.at 0 rfl
  have HR := Lib.hid (row_yes b M hq)
  have HT := Lib.hid (that_any a L.length c 54 M)
  have HM := Lib.hid hM
  rw [hM] at HR HT q0
  clear hi hz0 hz1 hz2 h hq hM
  refine (callsIn_wide (n := 6)).1 ?_
  refine callsIn_of_wp_marks Tryz.func21 rfl trivial ?_ rfl
  simp only [Tryz.ntmps21, List.size_toArray, List.length_cons, List.length_nil, Nat.reduceAdd, Nat.reduceSub, Array.replicate_succ, Array.replicate_zero, List.push_toArray, List.append_toArray, List.nil_append, List.cons_append]
  refine wpIn_wide.2 ?_
  go_wp2_with fail
  refine HR.out.mono ?_
  rintro e w1 ⟨rfl, rfl⟩
  go_wp2_with fail
  refine HT.out.mono ?_
  rintro e w1 ⟨rfl, hx, hy, hb1, hs1⟩
  rw [← HM.out] at hx hy hb1 hs1
  rw [← HM.out]
  obtain ⟨g, hg⟩ : ∃ g, M.heap.size = g := ⟨_, rfl⟩
  have hgw : g = w.heap.size + 1 := by rw [← hg, HM.out]; simp
  rw [hg] at hx hy hs1 ⊢
  have BW := Lib.hid (BM.out.trans (hb1.mono BM.out.size))
  have L1 := Lib.hid (L0.out.keep hb1)
  have I1 := Lib.hid (HI.out.keep BW.out)
  have HX := Lib.hid hx
  have HY := Lib.hid hy
  have Hs1 := Lib.hid hs1
  have Hgw := Lib.hid hgw
  clear hx hy hb1 hs1 hg hgw HM HT HR q0 L0 BM
  go_wp2_with fail
  refine (wpIn_wide (n := 4)).1 ?_
  have hlb := Hlt.out.1
  have hla := Hlt.out.2
  have hg := Hgw.out
  have hs := Hs1.out
  refine range_lawI rfl (by omega) (gf := 68) (bound := #[]) (lb := #[.pointer (some ⟨g, 0, none⟩), .pointer (some ⟨g + 1, 0, none⟩)]) rfl trivial (enters_of Tryz.func68 (by kernel_rfl) rfl)
    (that_all 3 (by omega) g (g + 1) L.length c a L w1 HX.out HY.out (by have := Hsz.out; omega)) (fun _ => rfl) (fun j hj => by omega)
    (fun k T X => ∃ v, T = GB w.heap.size v ∧ Grow 52 62 3 X w.heap.size v k (flHd (s.H.take k)) ∧ InB X b s a c L ∧ Below w.heap.size w X)
    (fun _ _ _ _ => False) (GB w.heap.size (.slice none 0 0)) (fun j hj hn => by rcases hj with rfl | hj; omega; simp [PB, Value.ownBlock] at hj) (fun j hj => by rcases hj with rfl | hj; omega; simp [PB, Value.ownBlock] at hj)
    (fun k T W W' h hk => ?keep) (fun _ _ _ _ _ h _ => h)
    (fun k T W j h hj => ?inb)
    ⟨.slice none 0 0, rfl, ⟨L1.out, World.ownsRow_nil _ _ _ _⟩, I1.out, BW.out⟩
    (fun k T W hk h => ?cells) (fun k T W hk hno h => ?skip) ?round ?done ?stop
  case keep =>
    obtain ⟨v, rfl, h2, h5, h6⟩ := h
    exact ⟨v, rfl, h2.book hk, h5.book hk, hk.below h6 (by omega)⟩
  case inb =>
    obtain ⟨v, rfl, h2, h5, h6⟩ := h
    exact (h2.lt j hj).2
  case cells =>
    obtain ⟨v, rfl, h2, h5, h6⟩ := h
    exact h5.cells hk
  case skip => exact absurd hno (by simp [anyP])
  case round =>
    intro lp k T W0 hk hok
    obtain ⟨e, he⟩ : ∃ e, L[k]! = e := ⟨_, rfl⟩
    have He := Lib.hid he
    simp only [he] at hok ⊢
    obtain ⟨o, l, nn, kk⟩ := e
    have Hk := Lib.hid hk
    have Hok := Lib.hid hok
    clear hk hok he hlb hla hg hs
    gi_wp2
    refine ⟨(Below.refl _ _).alloc (Nat.le_refl _) _, ?_⟩
    rintro W hbk hsz hs2 ⟨v, rfl, hgr, hin, hb⟩ hT
    have hst := (Blk.new W0 81 [.int .i64 o, .int .i64 l, .int .i64 nn, .int .i64 kk]).book hbk
    have c0 := hst.at 0 rfl
    have c1 := hst.at 1 rfl
    have c2 := hst.at 2 rfl
    have l0 := hgr.bx.at 0 rfl
    have hkh : k < s.H.length := by rw [← Hlen.out]; exact Hk.out
    have hhd : s.H[k]! = ⟨o, l, nn⟩ := by rw [← (hin.at Hk.out).1, He.out]; rfl
    have hs := flHd_step hkh
    rw [hhd] at hs
    have Hs := Lib.hid hs
    have Hkk := Lib.hid (show k < 16 by have := Hk.out; have := Hsz.out; omega)
    have hc0 := fun o => (hst.alloc o).at 0 rfl
    have hc1 := fun o => (hst.alloc o).at 1 rfl
    have hc2 := fun o => (hst.alloc o).at 2 rfl
    have HG := Lib.hid hgr
    have HIn := Lib.hid hin
    have HB := Lib.hid hb
    obtain ⟨va, vc, hv, -, -⟩ := Orow.own_shape hgr.rw
    subst hv
    clear hbk hsz hs2 hT hst hgr hin hb hhd hs hkh
    gi_wp2_with (gi_at_builtin; refine wpListIn_append_own_at _ rfl _ _ 62 rfl (w.heap.size + 1) 52 i0 (.agg #[.int .i64 0, .int .i64 0, .int .i64 0]) 3 24 Tryz.underlying62 Hi.out Hz0.out Hz1.out Hz2.out rfl (by decide) _ _ _ rfl (own_keep HG.out.rw ((Below.refl _ _).alloc (Nat.le_refl _) _)) ⟨W.heap.size, 0, none⟩ 1 1 [.int .i64 o, .int .i64 l, .int .i64 nn] rfl rfl (Orow.cells_new _ _ _) (by simp [Value.oneCell']) (by have := Hkk.out; unfold maxLen; omega) (by have := Hkk.out; omega) (by have := HG.out.bx.lt; simp; omega) ?_; intro v' w5 h1 h2 _ h4; obtain ⟨⟨a5, c5, hv5⟩, q5, f5, T5, hf5, ho5⟩ := HG.out.app h1 h2 h4; subst hv5; have HT5 := Lib.hid T5; have Hf5 := Lib.hid hf5; have Ho5 := Lib.hid ho5; clear T5 h1 h2 h4 hf5 ho5)
    have hlo : ∀ j, GB w.heap.size (.slice va k vc) j → w.heap.size ≤ j := fun j hj => (HG.out.lt j hj).1
    refine ⟨_, Hf5.out, Ho5.out, _, rfl, ?_, HIn.out.only Ho5.out (fun h => by have := hlo _ h; have := Hlt.out.1; omega) (fun j hj h => by have := hlo _ h; have := Hlt.out.2 j hj; omega), HB.out.trans (Ho5.out.below (by have := HG.out.bx.lt; omega) (fun j hj => by have := hlo _ hj; omega))⟩
    rw [Hs.out]
    exact HT5.out
  case done =>
    rintro T W ⟨v, rfl, hgr, hin, hb⟩ hD
    rw [List.take_of_length_le (show s.H.length ≤ L.length by rw [← Hlen.out]; exact Nat.le_refl _)] at hgr
    rw [Hlen.out] at hgr
    have l0 := hgr.bx.at 0 rfl
    have HD := Lib.hid hD
    have HG := Lib.hid hgr
    have HB := Lib.hid hb
    obtain ⟨va, vc, hv, -, -⟩ := Orow.own_shape hgr.rw
    subst hv
    clear hgr hin hb hD hlb hla hg hs
    go_wp2_with fail
    have Hk := Lib.hid (Book.put (B := w.heap.size) (o' := .deferred none) (by have := BW.out.size; exact this) HD.out rfl)
    refine ⟨by simp, .inl ⟨_, _, rfl, run_takeDeferred HD.out, ?_⟩⟩
    have hrw := own_mono (HG.out.book Hk.out).rw (show w.heap.size ≤ w.heap.size + 1 by omega)
    refine ⟨_, results_tmp rfl _ _ _, ?_⟩
    exact ⟨⟨_, rfl, hrw⟩, Hk.out.below HB.out (Nat.le_refl _)⟩
  case stop =>
    intro c k T W _ h
    exact h.elim
end Go.Proofs.YtmdepkehpohgeaaGreat.Scr
