/- Package scrub: a cycle. -/
import Derived.Test.YtmdepkehpohgeaaGreatS6wc
namespace Go.Proofs.YtmdepkehpohgeaaGreat.Scr
open Go.RowKit Go.Maps Go.ChangeShapes Go.WideShapes Go.ChangeAt Fifo Orow Word
set_option linter.unusedVariables false
attribute [local go_sem] Oper.semAt_some

theorem at_st {P : Program} {ops : Array Oper} {Q : Exit → Act → World → Prop} {rest : List Oper} {op : Oper} {a : Act} {w : World} (ty : TypeId) (x y : Operand) (ho : op.op = .store ty x y) (h : Hid (wpList P ops Q (op :: rest) a w)) : wpList P ops Q (op :: rest) a w := h.out
set_option maxHeartbeats 1000000 in
theorem ticked_any (o l n k : Int) (w : World) (h1 : 0 < l) (h2 : l ≤ 16) :
    Calls Tryz.prog 53 #[.agg #[.int .i64 o, .int .i64 l, .int .i64 n, .int .i64 k]] w fun e w' => e = .returned (hV (tickH ⟨o, l, n⟩)) ∧ Below w.heap.size w w' := by
  obtain ⟨M, hM⟩ : ∃ M, M = (w.alloc (.cells #[.int .i64 o, .int .i64 l, .int .i64 n, .int .i64 k] 81)).alloc (.cells #[.int .i64 0, .int .i64 0, .int .i64 0] 52) := ⟨_, rfl⟩
  have BM := Lib.hid (show Below w.heap.size w M by rw [hM]; exact ((Below.refl _ _).alloc (Nat.le_refl _) _).alloc (by simp) _)
  have P0 := Lib.hid (show Blk M w.heap.size 81 [.int .i64 o, .int .i64 l, .int .i64 n, .int .i64 k] by rw [hM]; exact (Blk.new w _ [.int .i64 o, .int .i64 l, .int .i64 n, .int .i64 k]).alloc _)
  have Z0 := Lib.hid (show Blk M (w.heap.size + 1) 52 [.int .i64 0, .int .i64 0, .int .i64 0] by
    rw [hM]
    have := Blk.new (w.alloc (.cells #[.int .i64 o, .int .i64 l, .int .i64 n, .int .i64 k] 81)) 52 [.int .i64 0, .int .i64 0, .int .i64 0]
    rwa [World.size_alloc] at this)
  have HM := Lib.hid hM
  obtain ⟨g, hg⟩ : ∃ g, w.heap.size = g := ⟨_, rfl⟩
  rw [hg] at P0 Z0 BM
  rw [hg]
  have HMs := Lib.hid (show M.heap.size = g + 2 by rw [HM.out, ← hg]; simp)
  have hs : g ≤ M.heap.size := by have := HMs.out; omega
  by_cases hl : l = 1
  · subst hl
    have ht : tickH ⟨o, 1, n⟩ = ⟨n, 0, -1⟩ := rfl
    rw [ht]
    have HA := Lib.hid (had_any n M)
    rw [hM] at HA
    clear hM ht h1 h2
    go_enter Tryz.func53, Tryz.ntmps53
    go_wp2_with fail
    refine HA.out.mono ?_
    rintro e w1 ⟨rfl, hb⟩
    rw [← HM.out] at hb
    have B1 := Lib.hid (BM.out.trans (hb.mono hs))
    have Z1 := Lib.hid (Z0.out.keep hb)
    have S1 := Lib.hid (show g + 2 ≤ w1.heap.size by have := hb.size; have := HMs.out; omega)
    clear hb HA
    go_wp2_with (with_reducible refine at_st 52 _ _ rfl ?_)
    refine Lib.hid ?_
    refine store_all rfl _ _ _ rfl (g + 1) [.int .i64 n, .int .i64 0, .int .i64 (-1)] rfl rfl _ _ Z1.out (by kernel_rfl) rfl (by simp [Value.oneCell']) ?_
    intro X hX hoX
    go_wp2_with fail
    have r0 := hX.at 0 rfl
    have r1 := hX.at 1 rfl
    have r2 := hX.at 2 rfl
    refine bodyPost_ret (v := hV ⟨n, 0, -1⟩) ?_ rfl ⟨rfl, B1.out.trans (hoX.below (by have := S1.out; omega) (fun j e => by have e : j = g + 1 := e; omega))⟩
    simp [results, Tryz.results53, go_sem, r0, r1, r2]
  · have ht : tickH ⟨o, l, n⟩ = ⟨o, l - 1, n⟩ := by unfold tickH; rw [if_neg (by show ¬ l = 0; omega), if_neg hl]
    rw [ht]
    have e1 : (l == 1) = false := beq_eq_false_iff_ne.2 hl
    have wl : IntKind.i64.wrap (l - 1) = l - 1 := IntWalk.i64_in _ (by omega)
    obtain ⟨M2, hM2⟩ : ∃ M2, M2 = (w.alloc (.cells #[.int .i64 o, .int .i64 (l - 1), .int .i64 n, .int .i64 k] 81)).alloc (.cells #[.int .i64 0, .int .i64 0, .int .i64 0] 52) := ⟨_, rfl⟩
    have Br := Lib.hid (show Below g w M2 by rw [hM2]; exact ((Below.refl g w).alloc (by omega) _).alloc (by simp; omega) _)
    have hZr := Lib.hid (show Blk M2 (g + 1) 52 [.int .i64 0, .int .i64 0, .int .i64 0] by
      rw [hM2]
      have := Blk.new (w.alloc (.cells #[.int .i64 o, .int .i64 (l - 1), .int .i64 n, .int .i64 k] 81)) 52 [.int .i64 0, .int .i64 0, .int .i64 0]
      rwa [World.size_alloc, hg] at this)
    have HM2 := Lib.hid hM2
    have HMs2 := Lib.hid (show M2.heap.size = g + 2 by rw [hM2, ← hg]; simp)
    clear hM hM2 ht h1 h2 hl hs
    go_enter Tryz.func53, Tryz.ntmps53
    go_wp2_with (with_reducible refine at_st 52 _ _ rfl ?_)
    refine Lib.hid ?_
    rw [← HM2.out]
    refine store_all rfl _ _ _ rfl (g + 1) [.int .i64 o, .int .i64 (l - 1), .int .i64 n] rfl rfl _ _ hZr.out (by kernel_rfl) rfl (by simp [Value.oneCell']) ?_
    intro X hX hoX
    go_wp2_with fail
    have r0 := hX.at 0 rfl
    have r1 := hX.at 1 rfl
    have r2 := hX.at 2 rfl
    refine bodyPost_ret (v := hV ⟨o, l - 1, n⟩) ?_ rfl ⟨rfl, Br.out.trans (hoX.below (by have := HMs2.out; omega) (fun j e => by have e : j = g + 1 := e; omega))⟩
    simp [results, Tryz.results53, go_sem, r0, r1, r2]

/-- A hold with its kind, one tick later; a row of them, k of them so. -/
def tkA (x : Hk) : Hk := mkH (tickH x.hd) x.k
def tickA (l : List Hk) (k : Nat) : List Hk := (l.take k).map tkA ++ l.drop k
theorem tickA_len (l : List Hk) (k : Nat) : (tickA l k).length = l.length := by
  unfold tickA
  rw [List.length_append, List.length_map, List.length_take, List.length_drop]
  omega
theorem tickA_0 (l : List Hk) : tickA l 0 = l := by simp [tickA]
theorem tickA_all (l : List Hk) : tickA l l.length = l.map tkA := by simp [tickA]
theorem tickA_at {l : List Hk} {k : Nat} (h : k < l.length) : (tickA l k)[k]! = l[k]! := by
  have h1 : ((l.take k).map tkA).length = k := by rw [List.length_map, List.length_take]; omega
  rw [getElem!_pos _ _ (by rw [tickA_len]; exact h), getElem!_pos l k h]
  unfold tickA
  rw [List.getElem_append_right (by omega), List.getElem_drop]
  congr 1
  rw [h1]
  omega
theorem tickA_succ {l : List Hk} {k : Nat} (h : k < l.length) : tickA l (k + 1) = (tickA l k).set k (tkA l[k]!) := by
  have h1 : ((l.take k).map tkA).length = k := by rw [List.length_map, List.length_take]; omega
  unfold tickA
  rw [take_snoc' h, List.map_append, List.set_append_right _ _ (by omega), h1, Nat.sub_self, List.drop_eq_getElem_cons h, List.set_cons_zero, List.append_assoc]
  rfl
theorem setA_same {l : List Hk} {k : Nat} (h : k < l.length) : l.set k l[k]! = l := by
  rw [getElem!_pos l k h]; exact List.set_getElem_self h
theorem setA_at {l : List Hk} {k : Nat} (h : k < l.length) (x : Hk) : (l.set k x)[k]! = x := by
  rw [getElem!_pos _ _ (by rw [List.length_set]; exact h), List.getElem_set_self]
/-- The first three parts of one are stored. -/
theorem flHk_put {L : List Hk} {k : Nat} (h : k < L.length) (x : Hd) :
    (flHk L).take (k * 4) ++ [.int .i64 x.o, .int .i64 x.l, .int .i64 x.n] ++ (flHk L).drop (k * 4 + 3) = flHk (L.set k (mkH x L[k]!.k)) := by
  have hl := flHk_len L
  have e1 : ∀ l : List Hk, ∀ j, j ≤ l.length → (flHk l).take (j * 4) = flHk (l.take j) := by
    intro l j hj
    have e : flHk l = flHk (l.take j) ++ flHk (l.drop j) := by rw [show flHk l = l.flatMap encHk from rfl, show flHk (l.take j) = (l.take j).flatMap encHk from rfl, show flHk (l.drop j) = (l.drop j).flatMap encHk from rfl, ← List.flatMap_append, List.take_append_drop]
    rw [e, List.take_append_of_le_length (by rw [flHk_len, List.length_take]; omega), List.take_of_length_le (by rw [flHk_len, List.length_take]; omega)]
  have e2 : (flHk L).drop (k * 4) = encHk L[k]! ++ flHk (L.drop (k + 1)) := by
    have e : flHk L = flHk (L.take k) ++ flHk (L.drop k) := by rw [show flHk L = L.flatMap encHk from rfl, show flHk (L.take k) = (L.take k).flatMap encHk from rfl, show flHk (L.drop k) = (L.drop k).flatMap encHk from rfl, ← List.flatMap_append, List.take_append_drop]
    have hk : (flHk (L.take k)).length = k * 4 := by rw [flHk_len, List.length_take]; omega
    rw [e, List.drop_append_of_le_length (by omega), List.drop_of_length_le (by omega), List.nil_append, List.drop_eq_getElem_cons h, getElem!_pos L k h]
    rfl
  have e3 : (flHk L).drop (k * 4 + 3) = [.int .i64 L[k]!.k] ++ flHk (L.drop (k + 1)) := by
    rw [← List.drop_drop, e2]
    rfl
  rw [e1 L k (by omega), e3]
  have e4 : L.set k (mkH x L[k]!.k) = L.take k ++ mkH x L[k]!.k :: L.drop (k + 1) := by
    rw [List.set_eq_take_append_cons_drop, if_pos h]
  rw [e4]
  simp [flHk, encHk, mkH]
theorem own_part {w X : World} {B n sz c g p : Nat} {e : TypeId} {L cur cs : List Value} (h : w.ownsRow B e sz (.slice (some ⟨g, 0, none⟩) n c) n L) (hw : Blk w g e cur) (hp : p + cs.length ≤ n * sz)
    (hX : Blk X g e (cur.take p ++ cs ++ cur.drop (p + cs.length))) : X.ownsRow B e sz (.slice (some ⟨g, 0, none⟩) n c) n (L.take p ++ cs ++ L.drop (p + cs.length)) := by
  obtain ⟨cur', h1, h2, h3, h4, h5, h6⟩ := own_blk h
  have : cur' = cur := by
    unfold Blk at h1 hw
    rw [hw] at h1
    simp at h1
    exact h1.symm
  subst this
  have hnc : n * sz ≤ c * sz := Nat.mul_le_mul_right _ h4
  refine blk_own hX ?_ ?_ h4 h5 h6
  · rw [take_put _ _ _ _ hp (by omega), h2]
  · simp only [List.length_append, List.length_take, List.length_drop]
    omega
theorem row_ne_blk {w : World} {B n sz g : Nat} {e e' : TypeId} {v : Value} {L vs : List Value} (h : w.ownsRow B e sz v n L) (hb : Blk w g e' vs) (hne : e ≠ e') : ¬ PB v g := by
  intro hp
  rcases h.2 with ⟨rfl, _⟩ | ⟨g', cap, cur, rfl, _, hh, _⟩
  · simp [PB, Value.ownBlock] at hp
  · have : g' = g := by simpa [PB, Value.ownBlock] using hp
    subst this
    unfold Blk at hb
    rw [hb] at hh
    simp at hh
    exact hne hh.2.symm
theorem tick_hd (L : List Hk) : (L.map tkA).map Hk.hd = (L.map Hk.hd).map tickH := by
  rw [List.map_map, List.map_map]; rfl
theorem tick_kn (L : List Hk) : (L.map tkA).map Hk.k = L.map Hk.k := by
  rw [List.map_map]; rfl
theorem scrub_done {h : Hd} (h1 : 0 < h.l) (h2 : h.l ≤ 16) : decide (0 < (tickH h).l) = !doneH h := by
  unfold tickH doneH
  rw [if_neg (by omega)]
  by_cases e : h.l = 1
  · rw [if_pos e, decide_eq_true e]
    rfl
  · rw [if_neg e, decide_eq_false e]
    exact decide_eq_true (show 0 < h.l - 1 by omega)
set_option maxRecDepth 100000 in
set_option maxHeartbeats 8000000 in
theorem Tick_core (b c : Nat) (a : Option Addr) (s : RS) (L : List Hk) (w : World) (h : InB w b s a c L) :
    Calls Tryz.prog 20 #[.pointer (some ⟨b, 0, none⟩)] w fun e w' => (∃ v, e = .returned v ∧ w'.ownsRow w.heap.size 3 1 v (doneV s).length (iv (doneV s))) ∧ InB w' b (tickV s) a c (L.map tkA) ∧ Only (BA a) w w' := by
  obtain ⟨i0, hi, hz0, hz1, hz2⟩ := info_parts KitInts.info_e
  have Hi := Lib.hid hi
  have Hz0 := Lib.hid hz0
  have Hz1 := Lib.hid hz1
  have Hz2 := Lib.hid hz2
  have HI := Lib.hid h
  have Hlt := Lib.hid h.lt
  have hsz : L.length ≤ 16 := by rw [h.len]; exact h.ok.few
  have Hsz := Lib.hid hsz
  have Hlen := Lib.hid h.len
  have Hat := Lib.hid (fun k (hk : k < L.length) => And.intro (h.at hk).1 (h.ok.hol k (by rw [← h.len]; exact hk)))
  have Hdv := Lib.hid (show doneV s = numsF doneH 0 s.H from rfl)
  rw [Hdv.out]
  obtain ⟨M, hM⟩ : ∃ M, M = w.alloc (.cells #[.slice none 0 0] 41) := ⟨_, rfl⟩
  have BM := Lib.hid (show Below w.heap.size w M by rw [hM]; exact (Below.refl _ _).alloc (Nat.le_refl _) _)
  have L0 := Lib.hid (show Blk M w.heap.size 41 [.slice none 0 0] by rw [hM]; exact Blk.new w _ [.slice none 0 0])
  obtain ⟨N, hN⟩ : ∃ N, N = M.alloc (.cells #[.slice a L.length c] 47) := ⟨_, rfl⟩
  have BN := Lib.hid (show Below w.heap.size w N by rw [hN]; exact BM.out.alloc BM.out.size _)
  have LN := Lib.hid (show Blk N w.heap.size 41 [.slice none 0 0] by rw [hN]; exact L0.out.alloc _)
  have hms : M.heap.size = w.heap.size + 1 := by rw [hM]; simp
  have XN := Lib.hid (show Blk N (w.heap.size + 1) 47 [.slice a L.length c] by rw [hN, ← hms]; exact Blk.new M _ [.slice a L.length c])
  have hq : M.cell? ⟨b, 1, none⟩ = some (.pointer (some ⟨b, 0, none⟩)) := (HI.out.keep BM.out).blk.at 1 rfl
  have q0 := (HI.out.keep BM.out).blk.at 0 rfl
  have HR := Lib.hid (row_yes b M hq)
  have HT := Lib.hid (that_any a L.length c 52 N)
  have HN := Lib.hid hN
  have HM := Lib.hid hM
  rw [hN, hM] at HT
  rw [hM] at HR q0
  clear hi hz0 hz1 hz2 h hq hM hN hms
  refine (callsIn_wide (n := 6)).1 ?_
  refine callsIn_of_wp_marks Tryz.func20 rfl trivial ?_ rfl
  simp only [Tryz.ntmps20, List.size_toArray, List.length_cons, List.length_nil, Nat.reduceAdd, Nat.reduceSub, Array.replicate_succ, Array.replicate_zero, List.push_toArray, List.append_toArray, List.nil_append, List.cons_append]
  refine wpIn_wide.2 ?_
  go_wp2_with fail
  refine HR.out.mono ?_
  rintro e w1 ⟨rfl, rfl⟩
  go_wp2_with fail
  refine HT.out.mono ?_
  rintro e w1 ⟨rfl, hx, hy, hb1, hs1⟩
  rw [← HM.out, ← HN.out] at hx hy hb1 hs1
  rw [← HM.out, ← HN.out]
  obtain ⟨g, hg⟩ : ∃ g, N.heap.size = g := ⟨_, rfl⟩
  have hgw : g = w.heap.size + 2 := by rw [← hg, HN.out, HM.out]; simp
  rw [hg] at hx hy hs1 ⊢
  have BW := Lib.hid (BN.out.trans (hb1.mono BN.out.size))
  have L1 := Lib.hid (LN.out.keep hb1)
  have X1 := Lib.hid (XN.out.keep hb1)
  have I1 := Lib.hid (HI.out.keep BW.out)
  have HX := Lib.hid hx
  have HY := Lib.hid hy
  have Hs1 := Lib.hid hs1
  have Hgw := Lib.hid hgw
  clear hx hy hb1 hs1 hg hgw HM HN HT HR q0 L0 LN XN BM BN
  go_wp2_with fail
  refine (wpIn_wide (n := 4)).1 ?_
  have hlb := Hlt.out.1
  have hla := Hlt.out.2
  have hg := Hgw.out
  have hs := Hs1.out
  refine range_lawI rfl (by omega) (gf := 68) (bound := #[]) (lb := #[.pointer (some ⟨g, 0, none⟩), .pointer (some ⟨g + 1, 0, none⟩)]) rfl trivial (enters_of Tryz.func68 (by kernel_rfl) rfl)
    (that_scrubbed 3 (by omega) g (g + 1) L.length c a L w1 HX.out HY.out (by have := Hsz.out; omega)) (fun _ => rfl) (fun j hj => by omega)
    (fun k T X => ∃ v, (T = fun j => GB w.heap.size v j ∨ BA a j) ∧ Grow 3 41 1 X w.heap.size v (numsF doneH 0 (s.H.take k)).length (iv (numsF doneH 0 (s.H.take k))) ∧ Blk X (w.heap.size + 1) 47 [.slice a L.length c] ∧ Blk X b 49 [.slice a L.length c, .pointer (some ⟨b, 0, none⟩)] ∧ X.ownsRow 0 81 4 (.slice a L.length c) L.length (flHk (tickA L k)) ∧ Only (BA a) w X)
    (fun _ _ _ _ => False) (fun j => GB w.heap.size (.slice none 0 0) j ∨ BA a j) (fun j hj hn => by rcases hj with (rfl | hj) | hj; omega; simp [PB, Value.ownBlock] at hj; have := hla j hj; omega) (fun j hj => by rcases hj with (rfl | hj) | hj; omega; simp [PB, Value.ownBlock] at hj; have := hla j hj; omega)
    (fun k T W W' h hk => ?keep) (fun _ _ _ _ _ h _ => h)
    (fun k T W j h hj => ?inb)
    ⟨.slice none 0 0, rfl, ⟨L1.out, World.ownsRow_nil _ _ _ _⟩, X1.out, I1.out.blk, by rw [tickA_0]; exact I1.out.row, Only.of_below BW.out⟩
    (fun k T W hk h => ?cells) (fun k T W hk hno h => ?skip) ?round ?done ?stop
  case keep =>
    obtain ⟨v, rfl, h2, h3, h4, h5, h6⟩ := h
    exact ⟨v, rfl, h2.book hk, h3.book hk, h4.book hk, rows_book h5 hk, hk.only h6 (by omega)⟩
  case inb =>
    obtain ⟨v, rfl, h2, h3, h4, h5, h6⟩ := h
    rcases hj with hj | hj
    · exact (h2.lt j hj).2
    · exact (own_lt h5 j hj).2
  case cells =>
    obtain ⟨v, rfl, h2, h3, h4, h5, h6⟩ := h
    obtain ⟨q, rfl⟩ := own_some h5 (.inl (by omega))
    obtain ⟨c0, c1, c2, c3⟩ := hk_at h5 (k := k) (by rw [tickA_len]; exact hk)
    rw [tickA_at hk] at c0 c1 c2 c3
    exact ⟨q, rfl, c0, c1, c2, c3⟩
  case skip =>
    obtain ⟨v, h1, h2, h3, h4, h5, h6⟩ := h
    have hkh : k < s.H.length := by rw [← Hlen.out]; exact hk
    obtain ⟨a1, a2⟩ := Hat.out k hk
    have hl0 : L[k]!.l = 0 := by
      have q1 : ¬ 0 < L[k]!.l := of_decide_eq_false hno
      have q2 := a2.1.1
      rw [← a1] at q2
      have q3 : 0 ≤ L[k]!.l := q2
      omega
    have hpk : doneH s.H[k]! = false := by rw [← a1]; exact decide_eq_false (by show ¬ L[k]!.l = 1; omega)
    have e : numsF doneH 0 (s.H.take (k + 1)) = numsF doneH 0 (s.H.take k) := by rw [nums_snoc' doneH hkh, hpk]; simp
    have e2 : tickA L (k + 1) = tickA L k := by
      have e3 : tkA L[k]! = L[k]! := by unfold tkA tickH; rw [if_pos (show L[k]!.hd.l = 0 from hl0)]; rfl
      rw [tickA_succ hk, e3, ← tickA_at hk]
      exact setA_same (by rw [tickA_len]; exact hk)
    exact ⟨v, h1, by rw [e]; exact h2, h3, h4, by rw [e2]; exact h5, h6⟩
  case round =>
    intro lp k T W0 hk hok
    obtain ⟨e, he⟩ : ∃ e, L[k]! = e := ⟨_, rfl⟩
    have He := Lib.hid he
    have ha2 := (Hat.out k hk)
    simp only [he] at hok ha2 ⊢
    obtain ⟨o, l, nn, kk⟩ := e
    have hl0 : 0 < l := of_decide_eq_true hok
    have hl1 : l ≤ 16 := by
      have q := ha2.2.1.2
      rw [← ha2.1] at q
      exact q
    have hhd : s.H[k]! = ⟨o, l, nn⟩ := ha2.1.symm
    have Hhd := Lib.hid hhd
    have Hk := Lib.hid hk
    have HL := Lib.hid (And.intro hl0 hl1)
    clear hk hok he hlb hla hg hs ha2 hhd hl0 hl1
    gi_wp2
    refine ⟨(Below.refl _ _).alloc (Nat.le_refl _) _, ?_⟩
    rintro W hbk hsz hs2 ⟨v, rfl, hgr, hxb, hrb, hrow, hon⟩ hT
    have hst := (Blk.new W0 81 [.int .i64 o, .int .i64 l, .int .i64 nn, .int .i64 kk]).book hbk
    obtain ⟨p, rfl⟩ := own_some hrow (.inl (by have := Hk.out; omega))
    have hkh : k < s.H.length := by rw [← Hlen.out]; exact Hk.out
    have hs := nums_snoc' doneH hkh
    have Hle := Lib.hid (show (numsF doneH 0 (s.H.take k)).length ≤ 16 from Nat.le_trans (nums_len doneH 0 (s.H.take k)) (by rw [List.length_take]; have := Hsz.out; have := Hlen.out; omega))
    have HW0 := Lib.hid (show w.heap.size + 2 ≤ W0.heap.size by rw [World.size_alloc] at hsz; have := Hs1.out; have := Hgw.out; omega)
    have HP := Lib.hid (show p < w.heap.size from Hlt.out.2 p (ba_self _ _))
    have ST := Lib.hid hst
    have HG := Lib.hid hgr
    have HXB := Lib.hid hxb
    have HRB := Lib.hid hrb
    have HRow := Lib.hid hrow
    have HOn := Lib.hid hon
    have Hs := Lib.hid hs
    obtain ⟨va, vc, hv, -, -⟩ := Orow.own_shape hgr.rw
    subst hv
    clear hbk hsz hs2 hT hst hgr hxb hrb hrow hon hs hkh
    gi_wp2
    have cB : ∀ w', Only (fun j => j = p) W w' → w'.cell? ⟨w.heap.size + 1, 0, none⟩ = some (.slice (some ⟨p, 0, none⟩) L.length c) := fun w' h => (HXB.out.only h (fun e => by have := HP.out; omega)).at 0 rfl
    have d0 : ∀ w', Only (fun j => j = p) W w' → w'.cell? ⟨W0.heap.size, 0, none⟩ = some (.int .i64 o) := fun w' h => (ST.out.only h (fun e => by have := HP.out; have := HW0.out; omega)).at 0 rfl
    have d1 : ∀ w', Only (fun j => j = p) W w' → w'.cell? ⟨W0.heap.size, 1, none⟩ = some (.int .i64 l) := fun w' h => (ST.out.only h (fun e => by have := HP.out; have := HW0.out; omega)).at 1 rfl
    have d2 : ∀ w', Only (fun j => j = p) W w' → w'.cell? ⟨W0.heap.size, 2, none⟩ = some (.int .i64 nn) := fun w' h => (ST.out.only h (fun e => by have := HP.out; have := HW0.out; omega)).at 2 rfl
    have d3 : ∀ w', Only (fun j => j = p) W w' → w'.cell? ⟨W0.heap.size, 3, none⟩ = some (.int .i64 kk) := fun w' h => (ST.out.only h (fun e => by have := HP.out; have := HW0.out; omega)).at 3 rfl
    obtain ⟨t, ht⟩ : ∃ t, tickH ⟨o, l, nn⟩ = t := ⟨_, rfl⟩
    have Ht := Lib.hid ht
    have TK := Lib.hid (fun w => ticked_any o l nn kk w HL.out.1 HL.out.2)
    rw [ht] at TK
    clear ht
    have i1 : (0 : Int) ≤ (k : Int) := by omega
    have i2 : (k : Int) < (L.length : Int) := by have := Hk.out; omega
    have S0 : Only (fun j => j = p) W W.drew := Only.of_below (Below.refl _ _).drew
    refine round_held (S := fun w' => Only (fun j => j = p) W w') (fun ⟨_, _, h⟩ => h) (by kernel_rfl) (by kernel_rfl) S0 (fun hHeld => ?_)
    refine wpAnyH_take (i := 0) (v := ?_) rfl (by kernel_rfl) (by kernel_rfl) (by kernel_rfl) (fun _ _ _ h => h) (Or.inl ⟨by rfl, ?_⟩) (by assumption) ?_
    rotate_left
    · (intro w hSw; (try dsimp only at hSw); go_simp; try (with_reducible rfl))
    try simp only [Act.put]
    refine wpAnyH_take (i := 1) (v := ?_) rfl (by kernel_rfl) (by kernel_rfl) (by kernel_rfl) (fun _ _ _ h => h) (Or.inl ⟨by rfl, ?_⟩) (by assumption) ?_
    rotate_left
    · (intro w hSw; (try dsimp only at hSw); go_simp; try (with_reducible rfl))
    try simp only [Act.put]
    refine wpAnyH_take (i := 2) (v := ?_) rfl (by kernel_rfl) (by kernel_rfl) (by kernel_rfl) (fun _ _ _ h => h) (Or.inl ⟨by rfl, ?_⟩) (by assumption) ?_
    rotate_left
    · (intro w hSw; (try dsimp only at hSw); go_simp; try (with_reducible rfl))
    try simp only [Act.put]
    refine wpAnyH_ready (rs := [3]) (by kernel_rfl) (by simp) ?_
    refine AllReadyH.cons rfl (fun K hK => ?_) AllReadyH.nil
    go_simp
    refine (TK.out _).mono ?_
    rintro e wA ⟨rfl, hb⟩
    have BB := Lib.hid ((Below.refl W.heap.size W).drew.trans (hb.mono (Nat.le_refl _)))
    have hon : Only (fun j => j = p) W wA := Only.of_below BB.out
    clear hb
    refine hK.out _ _ hon (fun hHeld => ?_)
    clear hK hon
    try simp only [Act.put]
    refine wpAnyH_take (i := 4) (v := ?_) rfl (by kernel_rfl) (by kernel_rfl) (by kernel_rfl) (fun _ _ _ h => h) (Or.inl ⟨by rfl, ?_⟩) (by assumption) ?_
    rotate_left
    · (intro w hSw; (try dsimp only at hSw); go_simp; try (with_reducible rfl))
    try simp only [Act.put]
    refine wpAnyH_take (i := 5) (v := ?_) rfl (by kernel_rfl) (by kernel_rfl) (by kernel_rfl) (fun _ _ _ h => h) (Or.inl ⟨by rfl, ?_⟩) (by assumption) ?_
    rotate_left
    · (intro w hSw; (try dsimp only at hSw); go_simp; try (with_reducible rfl))
    try simp only [Act.put]
    refine wpAnyH_ready (rs := [6]) (by kernel_rfl) (by simp) ?_
    refine AllReadyH.cons rfl (fun K hK => ?_) AllReadyH.nil
    rw [if_pos (by rfl)]
    obtain ⟨cur, q1, q2, q3, q4, q5, q6⟩ := own_blk (own_keep HRow.out BB.out)
    refine oper_store _ _ _ rfl p (k * 4) [.int .i64 t.o, .int .i64 t.l, .int .i64 t.n] rfl rfl 81 _ q1 (by kernel_rfl) (by have := Hk.out; simp; omega) (by simp [Value.oneCell']) ?_
    intro Y hY hoY
    have R := Lib.hid (And.intro q1 hY)
    have O1 := Lib.hid hoY
    clear hY hoY q1 q2 q3 q4 q5 q6
    have hon : Only (fun j => j = p) W Y := (Only.of_below BB.out).trans O1.out
    refine hK.out _ _ hon (fun hHeld => ?_)
    clear hK
    simp only [Act.put, List.getElem_toArray, List.getElem_cons_succ, List.getElem_cons_zero]
    refine wpAnyH_done (by kernel_rfl) ?_ _
    have OY := Lib.hid hon
    have RY := Lib.hid (show Y.ownsRow 0 81 4 (.slice (some ⟨p, 0, none⟩) L.length c) L.length (flHk (tickA L (k + 1))) by
      have h1 := own_part (own_keep HRow.out BB.out) R.out.1 (by have := Hk.out; simp; omega) R.out.2
      have h2 := flHk_put (L := tickA L k) (k := k) (by rw [tickA_len]; exact Hk.out) t
      rw [show ([.int .i64 t.o, .int .i64 t.l, .int .i64 t.n] : List Value).length = 3 from rfl, h2, tickA_at Hk.out, He.out] at h1
      rw [tickA_succ Hk.out, He.out, show tkA ⟨o, l, nn, kk⟩ = mkH t kk by rw [← Ht.out]; rfl]
      exact h1)
    have y0 := (HXB.out.only OY.out (fun e => by have := HP.out; omega)).at 0 rfl
    obtain ⟨c0, c1, c2, c3⟩ := hk_at RY.out (k := k) (by rw [tickA_len]; exact Hk.out)
    have ha : (tickA L (k + 1))[k]! = mkH t kk := by rw [tickA_succ Hk.out, setA_at (by rw [tickA_len]; exact Hk.out), He.out, ← Ht.out]; rfl
    rw [ha] at c0 c1 c2 c3
    have c0 : Y.cell? ⟨p, k * 4, none⟩ = some (.int .i64 t.o) := c0
    have c1 : Y.cell? ⟨p, k * 4 + 1, none⟩ = some (.int .i64 t.l) := c1
    have c2 : Y.cell? ⟨p, k * 4 + 2, none⟩ = some (.int .i64 t.n) := c2
    have c3 : Y.cell? ⟨p, k * 4 + 3, none⟩ = some (.int .i64 kk) := c3
    have GY := Lib.hid (HG.out.only OY.out (fun j hj e => by have := (HG.out.lt j hj).1; have := HP.out; have e : j = p := e; omega))
    have XY := Lib.hid (HXB.out.only OY.out (fun e => by have := HP.out; omega))
    have BY := Lib.hid (HRB.out.only OY.out (fun e => HI.out.ne (by have e : b = p := e; rw [e]; exact ba_self _ _)))
    have WY := Lib.hid (HOn.out.trans (OY.out.mono (fun j _ e => by have e : j = p := e; rw [e]; exact ba_self _ _)))
    have WYs := Lib.hid OY.out.size
    have Hsd := Lib.hid (show decide (0 < t.l) = !doneH ⟨o, l, nn⟩ by rw [← Ht.out]; exact scrub_done (h := ⟨o, l, nn⟩) HL.out.1 HL.out.2)
    obtain ⟨dn, hdn⟩ : ∃ dn, doneH ⟨o, l, nn⟩ = dn := ⟨_, rfl⟩
    have SC := Lib.hid (fun w => scrubbed_any t.o t.l t.n kk w)
    rw [Hsd.out, hdn] at SC
    have Hdn := Lib.hid (show doneH s.H[k]! = dn by rw [Hhd.out]; exact hdn)
    clear hHeld hon ha cB d0 d1 d2 d3 S0 hdn
    have hlo : ∀ j, GB w.heap.size (.slice va (numsF doneH 0 (s.H.take k)).length vc) j → w.heap.size ≤ j := fun j hj => (HG.out.lt j hj).1
    cases dn with
    | false =>
      gi_wp2_with (refine ⟨trivial, ?_⟩; gi_at_call 52; refine (callsIn_lap (SC.out _)).mono ?_; rintro e w2 ⟨rfl, hb2⟩; have HB2 := Lib.hid hb2; clear hb2)
      refine ⟨_, fun j h => .inl h, ?_, _, rfl, ?_, XY.out.keep HB2.out, BY.out.keep HB2.out, own_keep RY.out HB2.out, WY.out.far (Only.of_below (S := fun _ => False) HB2.out) (fun _ _ h => h.elim)⟩
      · exact (OY.out.mono (fun j _ e => .inr (by have e : j = p := e; rw [e]; exact ba_self _ _))).far (Only.of_below (S := fun _ => False) HB2.out) (fun _ _ h => h.elim)
      · have e : numsF doneH 0 (s.H.take (k + 1)) = numsF doneH 0 (s.H.take k) := by rw [Hs.out, Hdn.out]; simp
        rw [e]
        exact GY.out.keep HB2.out
    | true =>
      have l0 := GY.out.bx.at 0 rfl
      gi_wp2_with (first
        | (refine ⟨trivial, ?_⟩; gi_at_call 52; refine (callsIn_lap (SC.out _)).mono ?_; rintro e w2 ⟨rfl, hb2⟩; have HB2 := Lib.hid hb2; clear hb2; have G2 := Lib.hid (GY.out.keep HB2.out); have l2 := G2.out.bx.at 0 rfl)
        | (gi_at_builtin; refine wpListIn_append_own_at _ rfl _ _ 41 rfl (w.heap.size + 1) 3 i0 (.int .i64 0) 1 8 Tryz.underlying41 Hi.out Hz0.out Hz1.out Hz2.out rfl (by decide) _ _ _ rfl (own_keep G2.out.rw ((Below.refl _ _).alloc (Nat.le_refl _) _)) ⟨w2.heap.size, 0, none⟩ 1 1 [.int .i64 (k : Nat)] rfl rfl (Orow.cells_new _ _ _) (by simp [Value.oneCell']) (by have := Hle.out; unfold maxLen; omega) (by have := Hle.out; omega) (by have := G2.out.bx.lt; simp; omega) ?_; intro v' w5 h1 h2 _ h4; obtain ⟨⟨a5, c5, hv5⟩, q5, f5, T5, hf5, ho5⟩ := G2.out.app h1 h2 h4; subst hv5; have HT5 := Lib.hid T5; have Hf5 := Lib.hid hf5; have Ho5 := Lib.hid ho5; clear T5 h1 h2 h4 hf5 ho5))
      have hS2 : W.heap.size ≤ w2.heap.size := Nat.le_trans WYs.out HB2.out.size
      refine ⟨fun j => GB w.heap.size (.slice a5 ((numsF doneH 0 (s.H.take k)).length + 1) c5) j ∨ BA (some ⟨p, 0, none⟩) j, ?_, ?_, _, rfl, ?_, (XY.out.keep HB2.out).only Ho5.out ?_, (BY.out.keep HB2.out).only Ho5.out (fun e => by have := hlo _ e; have := Hlt.out.1; omega), own_only (own_keep RY.out HB2.out) Ho5.out (fun j hj e => by have := hlo _ e; have := Hlt.out.2 j hj; omega), ?_⟩
      · rintro j (hj | hj)
        · rcases Hf5.out j hj with h | h
          · exact .inl (.inl h)
          · exact .inr (by omega)
        · exact .inl (.inr hj)
      · have o1 : Only (fun j => GB w.heap.size (.slice va (numsF doneH 0 (s.H.take k)).length vc) j ∨ BA (some ⟨p, 0, none⟩) j) W w2 := (OY.out.mono (fun j _ e => .inr (by have e : j = p := e; rw [e]; exact ba_self _ _))).far (Only.of_below (S := fun _ => False) HB2.out) (fun _ _ h => h.elim)
        exact o1.trans (Ho5.out.mono (fun j _ h => .inl h))
      · have e : numsF doneH 0 (s.H.take (k + 1)) = numsF doneH 0 (s.H.take k) ++ [k] := by rw [Hs.out, Hdn.out]; rfl
        rw [e, List.length_append]
        have := HT5.out
        simpa [iv] using this
      · intro e
        rcases e with e | e
        · omega
        · exact row_ne_blk HG.out.rw HXB.out (by decide) e
      · exact (WY.out.far (Only.of_below (S := fun _ => False) HB2.out) (fun _ _ h => h.elim)).far Ho5.out (fun j hj h => by have := hlo _ h; omega)
  case done =>
    rintro T W ⟨v, rfl, hgr, hxb, hrb, hrow, hon⟩ hD
    rw [List.take_of_length_le (show s.H.length ≤ L.length by rw [← Hlen.out]; exact Nat.le_refl _)] at hgr
    rw [tickA_all] at hrow
    have l0 := hgr.bx.at 0 rfl
    have HD := Lib.hid hD
    have HG := Lib.hid hgr
    have HRB := Lib.hid hrb
    have HRow := Lib.hid hrow
    have HOn := Lib.hid hon
    obtain ⟨va, vc, hv, -, -⟩ := Orow.own_shape hgr.rw
    subst hv
    clear hgr hxb hrb hrow hon hD hlb hla hg hs
    go_wp2_with fail
    have Hk := Lib.hid (Book.put (B := w.heap.size) (o' := .deferred none) (by have := BW.out.size; exact this) HD.out rfl)
    refine ⟨by simp, .inl ⟨_, _, rfl, run_takeDeferred HD.out, ?_⟩⟩
    have hrw := own_mono (HG.out.book Hk.out).rw (show w.heap.size ≤ w.heap.size + 1 by omega)
    refine ⟨_, results_tmp rfl _ _ _, ?_⟩
    refine ⟨⟨_, rfl, hrw⟩, ⟨ok_tick HI.out.ok, ?_, ?_, ?_, ?_, HI.out.ne⟩, Hk.out.only HOn.out (Nat.le_refl _)⟩
    · rw [tick_hd, HI.out.hd]; rfl
    · rw [tick_kn, HI.out.kn]; rfl
    · rw [List.length_map]; exact HRB.out.book Hk.out
    · rw [List.length_map]; exact rows_book HRow.out Hk.out
  case stop =>
    intro c k T W _ h
    exact h.elim
end Go.Proofs.YtmdepkehpohgeaaGreat.Scr
