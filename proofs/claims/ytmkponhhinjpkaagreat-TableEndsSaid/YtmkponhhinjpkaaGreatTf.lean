/- A world's regions collected: a row of one's own; put in order. -/
import Derived.Test.YtmkponhhinjpkaaGreatTe
import Derived.Test.YtmkponhhinjpkaaGreatFy
import Derived.Test.YtmkponhhinjpkaaGreatShT
import Derived.Laws.OwnMore
import Derived.Maps.OwnIn
namespace Go.Proofs.YtmkponhhinjpkaaGreat.Table
open Go.RowKit Fifo Go.Maps Go.ChangeShapes Go.WideShapes Go.ChangeAt
set_option linter.unusedVariables false
attribute [local go_sem] Oper.semAt_some

/- Rows of one's own, of elements of any size. -/
theorem ok_keep {w w' : World} {B n sz : Nat} {e : TypeId} {v : Value} {L : List Value} (h : w.ownsRow B e sz v n L) (hb : Below w.heap.size w w') : w'.ownsRow B e sz v n L := by
  refine ⟨h.1, ?_⟩
  rcases h.2 with h2 | ⟨g, cap, cur, h1, h2, h3, r⟩
  · exact .inl h2
  · exact .inr ⟨g, cap, cur, h1, h2, (hb.block g (Array.getElem?_eq_some_iff.1 h3).1).trans h3, r⟩
theorem ok_only {S : Nat → Prop} {w w' : World} {B n sz : Nat} {e : TypeId} {v : Value} {L : List Value} (h : w.ownsRow B e sz v n L) (ho : Only S w w') (hn : ∀ j, PB v j → ¬ S j) : w'.ownsRow B e sz v n L := by
  refine ⟨h.1, ?_⟩
  rcases h.2 with h2 | ⟨g, cap, cur, h1, h2, h3, r⟩
  · exact .inl h2
  · subst h1
    exact .inr ⟨g, cap, cur, rfl, h2, ho.heap h3 (hn g rfl), r⟩
theorem ok_book {C : Nat} {w w' : World} {B n sz : Nat} {e : TypeId} {v : Value} {L : List Value} (h : w.ownsRow B e sz v n L) (hk : Book C w w') : w'.ownsRow B e sz v n L := by
  refine ⟨h.1, ?_⟩
  rcases h.2 with h2 | ⟨g, cap, cur, h1, h2, h3, r⟩
  · exact .inl h2
  · exact .inr ⟨g, cap, cur, h1, h2, hk.cells g _ h3 rfl, r⟩
theorem ok_shape {w : World} {B n sz : Nat} {e : TypeId} {v : Value} {L : List Value} (h : w.ownsRow B e sz v n L) : ∃ a cap, v = .slice a n cap ∧ n ≤ cap ∧ (a = none → n = 0 ∧ cap = 0) := by
  rcases h.2 with ⟨rfl, rfl⟩ | ⟨g, cap, cur, rfl, _, _, hc, _⟩
  · exact ⟨_, _, rfl, Nat.le_refl _, fun _ => ⟨rfl, rfl⟩⟩
  · exact ⟨_, _, rfl, hc, fun h => by cases h⟩
theorem grown_only {w w' : World} {v : Value} (h : w.grownBy w' v.ownBlock) : Only (PB v) w w' :=
  ⟨h.os, h.tape, h.output, h.size, fun k hk hn => h.block k hk (fun e => hn e.symm)⟩
theorem cells_new (w : World) (l : List Value) (t : TypeId) : ∀ j u, l[j]? = some u → (w.alloc (.cells l.toArray t)).cell? ((⟨w.heap.size, 0, none⟩ : Addr).add j) = some u := by
  intro j u hj
  rw [add_plain, Nat.zero_add, World.cell?_alloc_at _ _ _ _ rfl]
  simpa using hj

theorem ok_mono {w : World} {B B' n sz : Nat} {e : TypeId} {v : Value} {L : List Value} (h : w.ownsRow B e sz v n L) (hb : B' ≤ B) : w.ownsRow B' e sz v n L := by
  refine ⟨h.1, ?_⟩
  rcases h.2 with h2 | ⟨g, cap, cur, h1, h2, r⟩
  · exact .inl h2
  · exact .inr ⟨g, cap, cur, h1, Nat.le_trans hb h2, r⟩
/-- A round that appends to a row whose slice lies in a block of its own. -/
theorem grow_step {C k sz : Nat} {w W w5 : World} {t e : TypeId} {v v' : Value} {L L' : List Value} {o : Obj} {sb : Nat} (hC : C ≤ sb) (h1 : Blk W sb t [v]) (h2 : W.ownsRow (sb + 1) e sz v k L) (h3 : Below C w W) (r1 : w5.ownsRow (sb + 1) e sz v' (k + 1) L')
    (r2 : (W.alloc o).grownBy w5 v.ownBlock) (r4 : v'.ownBlock = v.ownBlock ∨ v'.ownBlock = some (W.alloc o).heap.size) :
    ∃ a c, v' = .slice a (k + 1) c ∧ w5.cell? ⟨sb, 0, none⟩ = some v ∧ w5.frozen? ⟨sb, 0, none⟩ = false ∧ Blk (w5.setCell ⟨sb, 0, none⟩ v') sb t [v'] ∧ (w5.setCell ⟨sb, 0, none⟩ v').ownsRow (sb + 1) e sz v' (k + 1) L' ∧
      Below C w (w5.setCell ⟨sb, 0, none⟩ v') ∧ (∀ j, (j = sb ∨ PB v' j) → (j = sb ∨ PB v j) ∨ W.heap.size ≤ j) ∧ Only (fun j => j = sb ∨ PB v j) W (w5.setCell ⟨sb, 0, none⟩ v') := by
  obtain ⟨a, c, hv, _⟩ := ok_shape r1
  have hpv : ∀ j, PB v j → sb + 1 ≤ j := fun j hj => (h2.lt j hj).1
  have hpv' : ∀ j, PB v' j → sb + 1 ≤ j := fun j hj => (r1.lt j hj).1
  have ho1 : Only (PB v) W w5 := (Only.of_below ((Below.refl _ W).alloc (Nat.le_refl _) o)).trans (grown_only r2)
  have hB : Blk w5 sb t [v] := h1.only ho1 (fun hj => by have := hpv _ hj; omega)
  have hset := (Only.refl (fun j => j = sb) w5).setCell (p := ⟨sb, 0, none⟩) rfl v'
  refine ⟨a, c, hv, hB.at 0 rfl, hB.frozen 0, hB.set 0 v', ok_only r1 hset (fun j hj e => by have := hpv' j hj; omega), ?_, ?_, (ho1.mono (fun j _ h => .inr h)).trans (hset.mono (fun j _ h => .inl h))⟩
  · exact (h3.trans (ho1.below (by have := h1.lt; omega) (fun j hj => by have := hpv j hj; omega))).setCell (p := ⟨sb, 0, none⟩) hC v'
  · rintro j (rfl | hj)
    · exact .inl (.inl rfl)
    · unfold PB at hj ⊢
      rcases r4 with h | h
      · exact .inl (.inr (h ▸ hj))
      · rw [h, World.size_alloc] at hj
        simp only [Option.some.injEq] at hj
        exact .inr (by omega)
/-- The cells of numbered regions, one behind the other. -/
def flN (l : List (Rg × Nat)) : List Value := l.flatMap encN
theorem flN_len (l : List (Rg × Nat)) : (flN l).length = l.length * 9 := by
  induction l with
  | nil => rfl
  | cons x l ih => simp [flN, encN] at ih ⊢; omega
theorem flN_snoc (l : List (Rg × Nat)) (x : Rg × Nat) : flN (l ++ [x]) = flN l ++ encN x := by simp [flN]
theorem info_n : (Tryz.prog.info? 51).map (fun i => (i.zero, i.size, i.bytes)) = some (some (.agg #[.bool false, .int .i64 0, .int .u32 0, .int .u32 0, .bool false, .bool false, .int .i64 0, .bool false, .int .i64 0]), 9, 56) := by kernel_rfl

set_option maxRecDepth 100000 in
set_option maxHeartbeats 2000000 in
theorem append_any (lb wb : Nat) (a : Option Addr) (n cap : Nat) (d : List Rg) (world : Int) (w : World) (hn : n ≤ 1000000) (hl : Blk w lb 54 [.slice a n cap]) (hw : Blk w wb 3 [.int .i64 world]) (hr : RowG w a n d) :
    Calls Tryz.prog 78 #[.slice none 0 0, .func (.func 45) #[] #[.pointer (some ⟨lb, 0, none⟩), .pointer (some ⟨wb, 0, none⟩)]] w fun e w' =>
      ∃ v, e = .returned v ∧ w'.ownsRow w.heap.size 51 9 v (nums d world).length (flN (nums d world)) ∧ Below w.heap.size w w' := by
  obtain ⟨i0, hi, hz0, hz1, hz2⟩ := info_parts info_n
  have Hi := Lib.hid hi
  have Hz0 := Lib.hid hz0
  have Hz1 := Lib.hid hz1
  have Hz2 := Lib.hid hz2
  clear hi hz0 hz1 hz2
  have hlen : (nums d world).length ≤ 1000000 := Nat.le_trans (nums_length d world) (by rw [hr.1]; exact hn)
  have Hlen := Lib.hid hlen
  obtain ⟨l, hll⟩ : ∃ l, nums d world = l := ⟨_, rfl⟩
  refine (callsIn_wide (n := 4)).1 ?_
  refine callsIn_of_wp_marks Tryz.func78 rfl trivial ?_ rfl
  simp only [Tryz.ntmps78, List.size_toArray, List.length_cons, List.length_nil, Nat.reduceAdd, Nat.reduceSub, Array.replicate_succ, Array.replicate_zero, List.push_toArray, List.append_toArray, List.nil_append, List.cons_append]
  have hb0 := (Below.refl w.heap.size w).alloc (Nat.le_refl _) (.cells #[.slice none 0 0] 48)
  have S := of_seq 3 (by omega) lb wb a n cap d world _ hn (hl.keep hb0) (hw.keep hb0) (hr.keep hb0)
  rw [hll] at S Hlen ⊢
  have Hseq := Lib.hid S
  have HKl := Lib.hid (show ∀ j, (j = lb ∨ j = wb ∨ SB a n j) → j < w.heap.size from fun j hj => by
    rcases hj with rfl | rfl | hj
    · exact hl.lt
    · exact hw.lt
    · exact SB.lt hr hj)
  clear S hl hw hr hlen hll
  gi_wp2
  refine range_law2 rfl (by omega) (gf := 45) (bound := #[]) (lb := #[.pointer (some ⟨lb, 0, none⟩), .pointer (some ⟨wb, 0, none⟩)]) rfl trivial (enters_of Tryz.func45 (by kernel_rfl) rfl)
    Hseq.out (fun _ => rfl) (fun j hj => by have := HKl.out j hj; simp; omega)
    (fun k T X => ∃ v, (T = fun j => j = w.heap.size ∨ PB v j) ∧ Blk X w.heap.size 48 [v] ∧ X.ownsRow (w.heap.size + 1) 51 9 v k (flN (l.take k)) ∧ Below w.heap.size w X)
    (fun _ _ _ _ => False) (fun j => j = w.heap.size ∨ PB (.slice none 0 0) j)
    (fun j hj hk => by
      have := HKl.out j hk
      rcases hj with hj | hj
      · omega
      · simp [PB, Value.ownBlock] at hj)
    (fun j hj => by
      rcases hj with hj | hj
      · simp; omega
      · simp [PB, Value.ownBlock] at hj)
    (fun k T W W' h hk => by
      obtain ⟨v, hT, h1, h2, h3⟩ := h
      exact ⟨v, hT, h1.book hk, ok_book h2 hk, hk.below h3 (by simp)⟩)
    (fun _ _ _ _ _ h _ => h)
    (fun k T W j h hj => by
      obtain ⟨v, rfl, h1, h2, h3⟩ := h
      rcases hj with rfl | hj
      · exact h1.lt
      · exact (h2.lt j hj).2)
    ⟨.slice none 0 0, rfl, Blk.new w _ _, ⟨by simp [flN], .inl ⟨rfl, rfl⟩⟩, hb0⟩ ?round ?done ?stop
  case round =>
    intro lp k T W0 hk
    obtain ⟨x, hx⟩ : ∃ x, l[k]? = some x := ⟨_, List.getElem?_eq_getElem hk⟩
    rw [show elsN l k = #[numV x] by simp [elsN, hx]]
    have Hk := Lib.hid hk
    have Hx := Lib.hid hx
    obtain ⟨⟨o, W1, F, T1, rd, wt, K, lk⟩, i⟩ := x
    clear hk hx
    gi_wp2
    refine ⟨(Below.refl _ _).alloc (Nat.le_refl _) _, ?_⟩
    rintro W hsz hbk ⟨v, rfl, h1, h2, h3⟩ hT hTW
    have hE : Blk W W0.heap.size 51 [.bool o, .int .i64 W1, .int .u32 F, .int .u32 T1, .bool rd, .bool wt, .int .i64 K, .bool lk, .int .i64 (i : Nat)] :=
      (Blk.new W0 51 [.bool o, .int .i64 W1, .int .u32 F, .int .u32 T1, .bool rd, .bool wt, .int .i64 K, .bool lk, .int .i64 (i : Nat)]).book hbk
    have q1 := h1.at 0 rfl
    have e0 := hE.at 0 rfl
    have e1 := hE.at 1 rfl
    have e2 := hE.at 2 rfl
    have e3 := hE.at 3 rfl
    have e4 := hE.at 4 rfl
    have e5 := hE.at 5 rfl
    have e6 := hE.at 6 rfl
    have e7 := hE.at 7 rfl
    have e8 := hE.at 8 rfl
    have H1 := Lib.hid h1
    have H2 := Lib.hid h2
    have H3 := Lib.hid h3
    obtain ⟨av, cv, hv, _⟩ := ok_shape h2
    subst hv
    have hk6 : k ≤ 1000000 := by have := Hk.out; have := Hlen.out; omega
    have hsw := Nat.lt_of_lt_of_le h1.lt (Nat.le_refl _)
    clear h1 h2 h3 hE hbk hT hTW hsz
    gi_wp2_with (gi_at_builtin; refine wpListIn_append_own_at _ rfl _ _ 48 rfl (w.heap.size + 1) 51 i0 (.agg #[.bool false, .int .i64 0, .int .u32 0, .int .u32 0, .bool false, .bool false, .int .i64 0, .bool false, .int .i64 0]) 9 56 Tryz.underlying48 Hi.out Hz0.out Hz1.out Hz2.out rfl (by decide) _ _ _ rfl (ok_keep H2.out ((Below.refl _ _).alloc (Nat.le_refl _) _)) ⟨W.heap.size, 0, none⟩ 1 1 [.bool o, .int .i64 W1, .int .u32 F, .int .u32 T1, .bool rd, .bool wt, .int .i64 K, .bool lk, .int .i64 (i : Nat)] rfl rfl (cells_new _ _ _) (by simp [Value.oneCell']) (by unfold maxLen; omega) (by omega) (by simp; omega) ?_; intro v' w5 r1 r2 _ r4; obtain ⟨a5, c5, hv5, q5, f5, g1, g2, g3, g4, g5⟩ := grow_step (Nat.le_refl _) H1.out H2.out H3.out r1 r2 r4; subst hv5; have G1 := Lib.hid g1; have G2 := Lib.hid g2; have G3 := Lib.hid g3; have G4 := Lib.hid g4; have G5 := Lib.hid g5; clear r1 r2 r4 g1 g2 g3 g4 g5 q1 e0 e1 e2 e3 e4 e5 e6 e7 e8)
    refine ⟨_, G4.out, G5.out, _, rfl, G1.out, ?_, G3.out⟩
    have e : l.take (k + 1) = l.take k ++ [(⟨o, W1, F, T1, rd, wt, K, lk⟩, i)] := by rw [List.take_add_one, Hx.out]; rfl
    rw [e, flN_snoc]
    exact G2.out
  case done =>
    rintro T W ⟨v, _, h1, h2, h3⟩ hD
    have q1 := h1.at 0 rfl
    rw [List.take_length] at h2
    have H2 := Lib.hid h2
    have H3 := Lib.hid h3
    have HD := Lib.hid hD
    obtain ⟨av, cv, hv, _⟩ := ok_shape h2
    subst hv
    clear h1 h2 h3 hD
    gi_wp2
    have Hk := Lib.hid (Book.put (B := w.heap.size) (o' := .deferred none) (by simp) HD.out rfl)
    refine ⟨by simp, .inl ⟨_, _, rfl, run_takeDeferred HD.out, ?_⟩⟩
    exact ⟨_, results_tmp rfl _ _ _, _, rfl, ok_mono (ok_book H2.out Hk.out) (by omega), Hk.out.below H3.out (Nat.le_refl _)⟩
  case stop =>
    intro c k T W _ h
    exact h.elim
end Go.Proofs.YtmkponhhinjpkaaGreat.Table
