/- Package table's with and without: a new row with a region, without one. -/
import Derived.Test.YtmkponhhinjpkaaGreatTo
namespace Go.Proofs.YtmkponhhinjpkaaGreat.Table
open Go.RowKit Fifo Go.Maps Go.ChangeShapes Go.WideShapes Go.ChangeAt
open Go.Proofs.YtmkponhhinjpkaaGreat.Region (Eight eight_new)
set_option linter.unusedVariables false

theorem flG_app (l m : List Rg) : flG (l ++ m) = flG l ++ flG m := by simp [flG]
theorem flG_zero (m : Nat) : flG (List.replicate m zero) = (madeCells #[.bool false, .int .i64 0, .int .u32 0, .int .u32 0, .bool false, .bool false, .int .i64 0, .bool false] (m * 8)).toList := by
  apply List.ext_getElem?
  intro t
  by_cases ht : t < m * 8
  · have := flG_get (List.replicate m zero) (t / 8) (t % 8) (by simp; omega) (by omega)
    rw [show t / 8 * 8 + t % 8 = t by omega] at this
    rw [this, getElem!_pos _ (t / 8) (by simp; omega), List.getElem_replicate]
    simp only [madeCells, Array.getElem?_toList, Array.getElem?_map]
    have h8 : t % 8 < 8 := by omega
    rw [Array.getElem?_range]
    simp only [ht, if_true, Option.map_some]
    have hc : t % 8 = 0 ∨ t % 8 = 1 ∨ t % 8 = 2 ∨ t % 8 = 3 ∨ t % 8 = 4 ∨ t % 8 = 5 ∨ t % 8 = 6 ∨ t % 8 = 7 := by omega
    show (encG zero)[t % 8]? = some (#[Value.bool false, .int .i64 0, .int .u32 0, .int .u32 0, .bool false, .bool false, .int .i64 0, .bool false][t % 8]!)
    rcases hc with h | h | h | h | h | h | h | h <;> rw [h] <;> rfl
  · rw [List.getElem?_eq_none (by rw [flG_len]; simp; omega), List.getElem?_eq_none (by simp [madeCells]; omega)]
/-- What comes in of a slice, cell by cell. -/
theorem rowG_cells {w : World} {a : Option Addr} {n : Nat} {d : List Rg} (h : RowG w a n d) : ∀ ad, a = some ad → ∀ j v, (flG d)[j]? = some v → w.cell? (ad.add j) = some v := by
  intro ad ha j v hv
  have hj : j < d.length * 8 := by rw [← flG_len]; exact (List.getElem?_eq_some_iff.1 hv).1
  obtain ⟨b, off, ha2, c⟩ := h.2 (j / 8) (by rw [h.1] at hj; omega)
  obtain rfl : ad = ⟨b, off, none⟩ := by rw [ha] at ha2; exact Option.some.inj ha2
  have hg := flG_get d (j / 8) (j % 8) (by omega) (by omega)
  rw [show j / 8 * 8 + j % 8 = j by omega, hv] at hg
  rw [add_plain]
  have e : off + j = off + j / 8 * 8 + j % 8 := by omega
  rw [e]
  have hc : j % 8 = 0 ∨ j % 8 = 1 ∨ j % 8 = 2 ∨ j % 8 = 3 ∨ j % 8 = 4 ∨ j % 8 = 5 ∨ j % 8 = 6 ∨ j % 8 = 7 := by omega
  rcases hc with h | h | h | h | h | h | h | h <;> rw [h] at hg ⊢
  · rw [hg]; exact c.c0
  · rw [hg]; exact c.c1
  · rw [hg]; exact c.c2
  · rw [hg]; exact c.c3
  · rw [hg]; exact c.c4
  · rw [hg]; exact c.c5
  · rw [hg]; exact c.c6
  · rw [hg]; exact c.c7
theorem flG_cells {d : List Rg} : ∀ v ∈ flG d, v.oneCell' = true := by
  intro v hv
  unfold flG at hv
  rw [List.mem_flatMap] at hv
  obtain ⟨g, _, hg⟩ := hv
  simp [encG] at hg
  rcases hg with rfl | rfl | rfl | rfl | rfl | rfl | rfl | rfl <;> rfl

/-- A whole element is stored into a row that is known. -/
theorem run_storeVar_at {P : Program} (w : World) (g off : Nat) (t ty : TypeId) (cur : Array Value) (cells : Array Value) (hg : w.heap[g]? = some (.cells cur t (0, 0))) (hi : (P.info? ty).map (·.size) = some cells.size)
    (hfit : off + cells.size ≤ cur.size) (h1 : cells.all (·.oneCell') = true) :
    (storeVar ty ⟨g, off, none⟩ (.agg cells)).run P w = .ok () (w.setRow g (cur.toList.take off ++ cells.toList ++ cur.toList.drop (off + cells.size)).toArray) := by
  have := run_storeCells_at P g off t cells.toList 0 cur w hg (by simpa using hfit) (fun v hv => (Array.all_eq_true_iff_forall_mem.1 h1) v (by simpa using hv))
  cases hq : P.info? ty with
  | none => simp [hq] at hi
  | some i =>
    have hs : cells.size = i.size := by simp [hq] at hi; omega
    simp [storeVar, sizeOf, typeInfo, hq, Value.cells, hs] at this ⊢
    exact this
theorem store_at_blk {P : Program} {ops : Array Oper} {rest : List Oper} {op : Oper} {a : Act} {w : World} {Q : Exit → Act → World → Prop} (hgd : op.guard = none) (ty : TypeId) (x y : Operand) (ho : op.op = .store ty x y)
    (g off : Nat) (vs : List Value) (hx : a.eval x = .pointer (some ⟨g, off, none⟩)) (hy : a.eval y = .agg vs.toArray) (t : TypeId) (cur : List Value) (hg : Blk w g t cur) (hi : (P.info? ty).map (·.size) = some vs.length) (hfit : off + vs.length ≤ cur.length) (h1 : vs.toArray.all (·.oneCell') = true)
    (h : ∀ X, Blk X g t (cur.take off ++ vs ++ cur.drop (off + vs.length)) → Only (fun j => j = g) w X → wpList P ops Q rest (a.put op.dst undef) X) : wpList P ops Q (op :: rest) a w := by
  refine wpList_plain hgd fun K hK => ?_
  have hrun := run_storeVar_at (P := P) w g off t ty cur.toArray vs.toArray hg (by simpa using hi) (by simpa using hfit) h1
  unfold Oper.wp execOp
  simp only [ho, hx, hy, Instr.storeAt, Instr.sureAddr, Sem.run_bind, Sem.run_pure, Result.andThen_ok, hrun]
  exact hK _ _ (h _ (by simpa using set_blk hg) (set_only w g _))
theorem flG_put {l : List Rg} {n : Nat} {g : Rg} (h : n < l.length) : (flG l).take (n * 8) ++ encG g ++ (flG l).drop (n * 8 + 8) = flG (l.set n g) := by
  have hs : l = l.take n ++ l[n] :: l.drop (n + 1) := by rw [List.getElem_cons_drop, List.take_append_drop]
  have ht : (l.take n).length = n := by rw [List.length_take]; omega
  have e : l.set n g = l.take n ++ g :: l.drop (n + 1) := by
    conv => lhs; rw [hs]
    rw [List.set_append_right _ _ (by omega), ht, Nat.sub_self, List.set_cons_zero]
  have e1 : flG l = flG (l.take n) ++ (encG l[n] ++ flG (l.drop (n + 1))) := by
    conv => lhs; rw [hs]
    rw [flG_app]; rfl
  have e2 : (flG (l.take n)).length = n * 8 := by rw [flG_len, ht]
  rw [e, flG_app, e1]
  have h3 : (flG (l.take n) ++ (encG l[n] ++ flG (l.drop (n + 1)))).take (n * 8) = flG (l.take n) := by rw [← e2, List.take_left]
  have h4 : (flG (l.take n) ++ (encG l[n] ++ flG (l.drop (n + 1)))).drop (n * 8 + 8) = flG (l.drop (n + 1)) := by
    rw [← List.append_assoc, show n * 8 + 8 = (flG (l.take n) ++ encG l[n]).length by rw [List.length_append, e2]; rfl, List.drop_left]
  rw [h3, h4, List.append_assoc]
  rfl
theorem at_copy {P : Program} {ops : Array Oper} {Q : Exit → Act → World → Prop} {rest : List Oper} {op : Oper} {a : Act} {w : World} (x y : Operand) (t u : TypeId) (ho : op.op = .call { callee := .builtin .copy, args := #[x, y], argTypes := #[t, u] }) (h : Hid (wpList P ops Q (op :: rest) a w)) : wpList P ops Q (op :: rest) a w := h.out
theorem blk_of_own {w : World} {B g n sz : Nat} {e : TypeId} {xs : List Value} (h : w.ownsRow B e sz (.slice (some ⟨g, 0, none⟩) n n) n xs) : Blk w g e xs := by
  rcases h.2 with ⟨h', _⟩ | ⟨g', cap, cur, h', hb, hg, h1, h2, h3, h4⟩
  · simp at h'
  · simp only [Value.slice.injEq, Option.some.injEq, Addr.mk.injEq, and_true, true_and] at h'
    obtain ⟨rfl, rfl⟩ := h'
    rw [List.take_of_length_le (by simp [h3])] at h4
    unfold Blk
    rw [← h4]
    exact hg
theorem own_of_blk {w : World} {B g n sz : Nat} {e : TypeId} {xs : List Value} (hb : Blk w g e xs) (hl : xs.length = n * sz) (hB : B ≤ g) (hn : n ≤ maxLen) : w.ownsRow B e sz (.slice (some ⟨g, 0, none⟩) n n) n xs :=
  ⟨hl, .inr ⟨g, n, xs.toArray, rfl, hB, hb, Nat.le_refl _, hn, by simpa using hl, by simp [← hl]⟩⟩
set_option maxRecDepth 100000 in
set_option maxHeartbeats 2000000 in
theorem with_any (a : Option Addr) (n cap : Nat) (d : List Rg) (k : Nat) (o : Bool) (W F T : Int) (rd wt : Bool) (K : Int) (lk : Bool) (w : World) (hn : n ≤ 1000000) (hk : k ≤ 1000000) (h : RowG w a n d) :
    Calls Tryz.prog 40 #[.slice a n cap, .int .i64 (k : Nat), Region.reg o W F T rd wt K lk] w fun e w' => ∃ v, e = .returned v ∧ w'.ownsRow w.heap.size 37 8 v (setL d k ⟨o, W, F, T, rd, wt, K, lk⟩).length (flG (setL d k ⟨o, W, F, T, rd, wt, K, lk⟩)) ∧ Below w.heap.size w w' := by
  obtain ⟨i0, hi, hz0, hz1, hz2⟩ := info_parts info_g
  have Hi := Lib.hid hi
  have Hz0 := Lib.hid hz0
  have Hz1 := Lib.hid hz1
  have Hz2 := Lib.hid hz2
  clear hi hz0 hz1 hz2
  obtain ⟨M, hM⟩ : ∃ M, max n (k + 1) = M := ⟨_, rfl⟩
  have hMn : n ≤ M := by omega
  have hMk : k < M := by omega
  have hMb : M ≤ 1000001 := by omega
  have Hr := Lib.hid h
  have Hno := Lib.hid (show a = none → n = 0 from fun ha => by
    cases hn0 : n with
    | zero => rfl
    | succ m => obtain ⟨b, off, e, _⟩ := h.2 0 (by omega); rw [ha] at e; cases e)
  have w1 : IntKind.i64.wrap ((k : Int) + 1) = ((k + 1 : Nat) : Int) := by rw [i64w (by omega)]; omega
  have hmx : max (n : Int) ((k : Int) + 1) = (M : Int) := by omega
  have hs0 : w.heap.size ≤ w.heap.size + 1 := by omega
  clear h
  go_enter Tryz.func40, Tryz.ntmps40
  go_wp2_with (first
    | (at_make; refine wpList_make_full _ rfl _ _ 54 rfl (w.heap.size + 1) 37 i0 (.agg #[.bool false, .int .i64 0, .int .u32 0, .int .u32 0, .bool false, .bool false, .int .i64 0, .bool false]) 8 Tryz.underlying54 Hi.out Hz0.out Hz1.out .i64 .i64 M M M rfl rfl rfl rfl (by rw [Hz2.out]; omega) (by unfold maxLen; omega) (by simp) ?_; intro wm hown hgrow; rw [World.size_alloc] at hown; have HBm := Lib.hid (blk_of_own hown); have ha0 := (Below.refl w.heap.size w).alloc (Nat.le_refl _) (.cells #[.bool o, .int .i64 W, .int .u32 F, .int .u32 T, .bool rd, .bool wt, .int .i64 K, .bool lk] 37); have hm1 : Below (w.heap.size + 1) (w.alloc (.cells #[.bool o, .int .i64 W, .int .u32 F, .int .u32 T, .bool rd, .bool wt, .int .i64 K, .bool lk] 37)) wm := (Below.refl _ _).grown hgrow (by simp) (fun k h => by cases h); have HLm := Lib.hid (ha0.trans (hm1.mono (by omega))); have h8m := Lib.hid (((Blk.new w 37 [.bool o, .int .i64 W, .int .u32 F, .int .u32 T, .bool rd, .bool wt, .int .i64 K, .bool lk])).keep (by rw [World.size_alloc]; exact hm1)); clear hown hgrow ha0 hm1)
    | (with_reducible refine at_copy (.tmp 14) (.tmp 15) 54 54 rfl ?_))
  apply Lib.hid
  refine copy_blk rfl _ _ 54 54 rfl 37 Tryz.underlying54 8 (by kernel_rfl) (w.heap.size + 1) M M a n cap rfl rfl 37 _ HBm.out (flG d) hMn (by rw [flG_len, Hr.out.1]) (rowG_cells (Hr.out.keep HLm.out)) Hno.out (by rw [flG_len, Hr.out.1]; simp [madeCells, Value.cells]; omega) flG_cells ?_
  intro X hX hoX
  have HX := Lib.hid hX
  have HoX := Lib.hid hoX
  have h8X := h8m.out.only hoX (by omega)
  clear hX hoX
  obtain ⟨c0, c1, c2, c3, c4, c5, c6, c7⟩ : X.cell? ⟨w.heap.size, 0, none⟩ = some (.bool o) ∧ X.cell? ⟨w.heap.size, 1, none⟩ = some (.int .i64 W) ∧ X.cell? ⟨w.heap.size, 2, none⟩ = some (.int .u32 F) ∧ X.cell? ⟨w.heap.size, 3, none⟩ = some (.int .u32 T) ∧ X.cell? ⟨w.heap.size, 4, none⟩ = some (.bool rd) ∧ X.cell? ⟨w.heap.size, 5, none⟩ = some (.bool wt) ∧ X.cell? ⟨w.heap.size, 6, none⟩ = some (.int .i64 K) ∧ X.cell? ⟨w.heap.size, 7, none⟩ = some (.bool lk) := ⟨h8X.at 0 rfl, h8X.at 1 rfl, h8X.at 2 rfl, h8X.at 3 rfl, h8X.at 4 rfl, h8X.at 5 rfl, h8X.at 6 rfl, h8X.at 7 rfl⟩
  clear h8X
  obtain ⟨D, hD⟩ : ∃ D, d ++ List.replicate (k + 1 - d.length) zero = D := ⟨_, rfl⟩
  have hDl : D.length = M := by rw [← hD, List.length_append, List.length_replicate, Hr.out.1]; omega
  have hX2 : Blk X (w.heap.size + 1) 37 (flG D) := by
    have := HX.out
    rw [show (madeCells (Value.agg #[.bool false, .int .i64 0, .int .u32 0, .int .u32 0, .bool false, .bool false, .int .i64 0, .bool false]).cells (M * 8)).toList = flG (List.replicate M zero) from (flG_zero M).symm,
      show M = n + (k + 1 - d.length) by rw [Hr.out.1]; omega, ← List.replicate_append_replicate, flG_app, show (flG d).length = (flG (List.replicate n zero)).length by rw [flG_len, flG_len, Hr.out.1, List.length_replicate], List.drop_left, ← flG_app, hD] at this
    exact this
  have i1 : (0 : Int) ≤ (k : Int) := by omega
  have i2 : (k : Int) < (M : Int) := by omega
  have HX2 := Lib.hid hX2
  have HD := Lib.hid hD
  have HDl := Lib.hid hDl
  clear hX2 hD hDl HX HBm h8m hmx w1
  go_wp2_with (with_reducible refine at_store 37 (.tmp 20) (.tmp 19) rfl ?_)
  apply Lib.hid
  refine store_at_blk rfl _ _ _ rfl (w.heap.size + 1) (k * 8) [.bool o, .int .i64 W, .int .u32 F, .int .u32 T, .bool rd, .bool wt, .int .i64 K, .bool lk] rfl rfl 37 _ HX2.out (by kernel_rfl) (by rw [flG_len, HDl.out]; simp; omega) (by simp [Value.oneCell']) ?_
  intro Y hY hoY
  have HY := Lib.hid (show Blk Y (w.heap.size + 1) 37 (flG (D.set k ⟨o, W, F, T, rd, wt, K, lk⟩)) by rw [← flG_put (by rw [HDl.out]; exact hMk)]; exact hY)
  have HoY := Lib.hid hoY
  clear hY hoY c0 c1 c2 c3 c4 c5 c6 c7
  go_wp2_with fail
  go_ret
  have hset : setL d k ⟨o, W, F, T, rd, wt, K, lk⟩ = D.set k ⟨o, W, F, T, rd, wt, K, lk⟩ := by unfold setL; rw [HD.out]
  have ho := HoX.out.trans HoY.out
  refine ⟨_, rfl, ?_, HLm.out.trans (ho.below HLm.out.size (fun j hj => by omega))⟩
  rw [hset, List.length_set, HDl.out]
  exact own_of_blk HY.out (by rw [flG_len, List.length_set, HDl.out]) (by omega) (by unfold maxLen; omega)
end Go.Proofs.YtmkponhhinjpkaaGreat.Table
