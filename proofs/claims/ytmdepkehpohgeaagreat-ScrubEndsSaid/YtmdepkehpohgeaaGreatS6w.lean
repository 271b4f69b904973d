/- Put together: S6wi, S6wn, S6w. -/
import Derived.Test.YtmdepkehpohgeaaGreatS6wd
import Derived.Test.YtmdepkehpohgeaaGreatYr
import Derived.OrdersHeld
import Derived.Deep.RegionHeld3
import Derived.Maps.AppendAt
import Derived.Test.YtmdepkehpohgeaaGreatS6wh
import Derived.Laws.Cover3
import Derived.Test.YtmdepkehpohgeaaGreatS6wt
/- Package scrub: a row as it begins; New. -/
namespace Go.Proofs.YtmdepkehpohgeaaGreat.Scr
open Go.RowKit Go.Maps Go.ChangeShapes Go.WideShapes Go.ChangeAt Fifo Orow Word
set_option linter.unusedVariables false
attribute [local go_sem] Oper.semAt_some

/-- An append, as one operation of a drawn region; where the row lies then. -/
theorem oper_append_in {P : Program} {o : Oper} {a : Act} {w : World} {K : Act → World → Prop} {Q : Exit → Act → World → Prop} (s x : Operand) (t : TypeId)
    (ho : o.op = .call { callee := .builtin .append, args := #[s, x], argTypes := #[t, t] })
    (base : Nat) (e : TypeId) (i : TypeInfo) (z : Value) (size bytes : Nat) (ht : P.underlying t = some (.slice e)) (hi : P.info? e = some i) (hz : i.zero = some z)
    (hsize : i.size = size) (hby : i.bytes = bytes) (hzs : z.cells.size = size) (hsz : 0 < size)
    (v : Value) (n : Nat) (xs : List Value) (hs : a.eval s = v) (hown : w.ownsRow base e size v n xs)
    (ad : Addr) (m c : Nat) (news : List Value) (hx : a.eval x = .slice (some ad) m c) (hl : news.length = m * size) (hnews : ∀ j u, news[j]? = some u → w.cell? (ad.add j) = some u) (h1 : ∀ u ∈ news, u.oneCell' = true)
    (h63 : n + m ≤ maxLen) (hbytes : (n + m) * bytes ≤ 140737488355328) (hbase : base ≤ w.heap.size)
    (h : ∀ v' w', w'.ownsRow base e size v' (n + m) (xs ++ news) → w.grownBy w' v.ownBlock → (v'.ownBlock = v.ownBlock ∨ v'.ownBlock = some w.heap.size) → K (a.put o.dst v') w') : Oper.wp P o a w K Q := by
  obtain ⟨v', w', hr, h2, h3, h4, h5⟩ := run_append_own_at (P := P) w base t o.type e i z size bytes ht hi hz hsize hby hzs hsz v n xs hown ad m c news hl hnews h1 h63 hbytes hbase
  unfold Oper.wp execOp
  simp only [ho, resolve, invoke, builtin, Sem.run_bind, Sem.run_pure, Result.andThen_ok, List.map_toArray, List.map_cons, List.map_nil, hs, hx, hr]
  exact h v' w' h2 h3 h5
theorem laid_any (a : Option Addr) (n c : Nat) (w : World) :
    Calls Tryz.prog 26 #[.slice a n c] w fun e w' => e = .returned (.pointer (some ⟨w.heap.size, 0, none⟩)) ∧ Blk w' w.heap.size 49 [.slice a n c, .pointer (some ⟨w.heap.size, 0, none⟩)] ∧ Below w.heap.size w w' := by
  go_enter Tryz.func26, Tryz.ntmps26
  go_wp2_with fail
  go_ret
  exact ⟨rfl, Blk.new w _ [.slice a n c, .pointer (some ⟨w.heap.size, 0, none⟩)], (Below.refl _ _).alloc (Nat.le_refl _) _⟩
/-- The holds with which devices begin. -/
def begL (l : List Win.Dv) : List Hk := l.map fun d => ⟨d.O, 0, -1, d.k⟩
theorem begL_len (l : List Win.Dv) : (begL l).length = l.length := List.length_map ..
theorem begL_step {l : List Win.Dv} {k : Nat} (h : k < l.length) : flHk ((begL l).take (k + 1)) = flHk ((begL l).take k) ++ [.int .i64 l[k]!.O, .int .i64 0, .int .i64 (-1), .int .i64 l[k]!.k] := by
  have h2 : k < (begL l).length := by rw [begL_len]; exact h
  rw [take_snoc' h2, flHk_snoc, getElem!_pos (begL l) k h2, getElem!_pos l k h]
  simp [begL, encHk]
theorem info_hk : (Tryz.prog.info? 81).map (fun i => (i.zero, i.size, i.bytes)) = some (some (.agg #[.int .i64 0, .int .i64 0, .int .i64 0, .int .i64 0]), 4, 32) := by kernel_rfl
set_option maxRecDepth 100000 in
set_option maxHeartbeats 4000000 in
theorem begun_any (a : Option Addr) (n cap : Nat) (l : List Win.Dv) (w : World) (hn : n ≤ 16) (h : Win.RowV w a n l) :
    Calls Tryz.prog 27 #[.slice a n cap] w fun e w' => (∃ a' c', e = .returned (.slice a' n c') ∧ w'.ownsRow w.heap.size 81 4 (.slice a' n c') n (flHk (begL l))) ∧ Below w.heap.size w w' := by
  obtain ⟨i0, hi, hz0, hz1, hz2⟩ := info_parts info_hk
  have Hi := Lib.hid hi
  have Hz0 := Lib.hid hz0
  have Hz1 := Lib.hid hz1
  have Hz2 := Lib.hid hz2
  have HL := Lib.hid h
  have Hn := Lib.hid hn
  have HD : Hid (∀ (x : Int) w, Calls Tryz.prog 49 #[.int .i64 x] w fun e w' => e = .returned (.agg #[.int .i64 x, .int .i64 0, .int .i64 (-1)]) ∧ Below w.heap.size w w') := Lib.hid (fun x w => had_any x w)
  clear hi hz0 hz1 hz2 h hn
  go_enter Tryz.func27, Tryz.ntmps27
  go_wp2_with fail
  go_loopw [3, 8] (fun v i wr => ∃ k : Nat, k ≤ n ∧ i = .int .i64 (k : Nat) ∧ wr.ownsRow w.heap.size 81 4 v k (flHk ((begL l).take k)) ∧ Below w.heap.size w wr) (fun _ i _ => n - (intOf i).toNat)
  case atStart => exact ⟨0, Nat.zero_le _, rfl, World.ownsRow_nil _ _ _ _, Below.refl _ _⟩
  case round =>
  obtain ⟨k, hk, rfl, hrow, hb⟩ := hrel
  have Hrow := Lib.hid hrow
  have Hb := Lib.hid hb
  have hsz := hb.size
  have Hsz := Lib.hid hsz
  clear hrow hb
  by_cases hlt : k < n
  · have d1 : decide ((k : Int) < (n : Int)) = true := decide_eq_true (by omega)
    have d1' : decide (k < n) = true := decide_eq_true hlt
    have i1 : (0 : Int) ≤ (k : Int) := by omega
    have i2 : (k : Int) < (n : Int) := by omega
    have wk : IntKind.i64.wrap ((k : Int) + 1) = (k : Int) + 1 := IntWalk.i64_in _ (by have := Hn.out; omega)
    obtain ⟨lb, off, rfl, ce⟩ := HL.out.2.2 k hlt
    have ce := ce.keep Hb.out
    obtain ⟨x, hx⟩ : ∃ x, l[k]! = x := ⟨_, rfl⟩
    rw [hx] at ce
    have Hx := Lib.hid hx
    have Hlt := Lib.hid hlt
    obtain ⟨xk, xB, xS, xO, xL⟩ := x
    obtain ⟨e0, e1, e2, e3, e4⟩ := ce
    obtain ⟨av, cv, hv, -, -⟩ := Orow.own_shape Hrow.out
    subst hv
    clear hlt hk hx hsz
    go_wp2_with fail
    refine code_letter ?_
    intro W hW
    have BW := Lib.hid (show Below wr.heap.size wr W by rw [hW.out]; exact (Below.refl _ _).alloc (Nat.le_refl _) _)
    have DW := Lib.hid (show Blk W wr.heap.size 45 [.int .i64 xk, .int .u32 xB, .int .i64 xS, .int .i64 xO, .int .i64 xL] by rw [hW.out]; exact Blk.new _ _ [.int .i64 xk, .int .u32 xB, .int .i64 xS, .int .i64 xO, .int .i64 xL])
    have RW := Lib.hid (own_keep Hrow.out BW.out)
    have HBW := Lib.hid (Hb.out.trans (BW.out.mono Hsz.out))
    clear hW e0 e1 e2 e3 e4
    have hlo : ∀ j, PB (.slice av k cv) j → w.heap.size ≤ j ∧ j < wr.heap.size := fun j hj => World.ownsRow.lt Hrow.out j hj
    have Hlo := Lib.hid hlo
    have d0 : ∀ w', Only (PB (.slice av k cv)) W w' → w'.cell? ⟨wr.heap.size, 0, none⟩ = some (.int .i64 xk) := fun w' h => (DW.out.only h (fun e => by have := (Hlo.out _ e).2; omega)).at 0 rfl
    have d3 : ∀ w', Only (PB (.slice av k cv)) W w' → w'.cell? ⟨wr.heap.size, 3, none⟩ = some (.int .i64 xO) := fun w' h => (DW.out.only h (fun e => by have := (Hlo.out _ e).2; omega)).at 3 rfl
    have S0 : Only (PB (.slice av k cv)) W W.drew := Only.of_below (Below.refl _ _).drew
    refine wp_region_held_drew (S := fun w' => Only (PB (.slice av k cv)) W w') (by kernel_rfl) S0 (fun hHeld => ?_)
    refine wpAnyH_take (i := 0) (v := ?_) rfl (by kernel_rfl) (by kernel_rfl) (by kernel_rfl) (fun _ _ _ h => h) (Or.inl ⟨by rfl, ?_⟩) (by assumption) ?_
    rotate_left
    · (intro w hSw; (try dsimp only at hSw); go_simp; try (with_reducible rfl))
    try simp only [Act.put]
    refine wpAnyH_take (i := 1) (v := ?_) rfl (by kernel_rfl) (by kernel_rfl) (by kernel_rfl) (fun _ _ _ h => h) (Or.inl ⟨by rfl, ?_⟩) (by assumption) ?_
    rotate_left
    · (intro w hSw; (try dsimp only at hSw); go_simp; try (with_reducible rfl))
    try simp only [Act.put]
    refine wpAnyH_take (i := 2) (v := ?_) rfl (by kernel_rfl) (by kernel_rfl) (by kernel_rfl) (fun _ _ _ h => h) (Or.inl ⟨by rfl, ?_⟩) (by assumption) ?_
    rotate_left
    · (intro w hSw; (try dsimp only at hSw); go_simp; try (with_reducible rfl))
    try simp only [Act.put]
    refine wpAnyH_take (i := 4) (v := ?_) rfl (by kernel_rfl) (by kernel_rfl) (by kernel_rfl) (fun _ _ _ h => h) (Or.inl ⟨by rfl, ?_⟩) (by assumption) ?_
    rotate_left
    · (intro w hSw; (try dsimp only at hSw); go_simp; try (with_reducible rfl))
    try simp only [Act.put]
    refine wpAnyH_take (i := 5) (v := ?_) rfl (by kernel_rfl) (by kernel_rfl) (by kernel_rfl) (fun _ _ _ h => h) (Or.inl ⟨by rfl, ?_⟩) (by assumption) ?_
    rotate_left
    · (intro w hSw; (try dsimp only at hSw); go_simp; try (with_reducible rfl))
    try simp only [Act.put]
    refine wpAnyH_ready (rs := [3]) (by kernel_rfl) (by simp) ?_
    refine AllReadyH.cons rfl (fun K hK => ?_) AllReadyH.nil
    go_simp
    refine (HD.out xO _).mono ?_
    rintro e wA ⟨rfl, hb⟩
    have BB := Lib.hid ((Below.refl W.heap.size W).drew.trans (hb.mono (Nat.le_refl _)))
    have hon : Only (PB (.slice av k cv)) W wA := Only.of_below BB.out
    clear hb
    refine hK.out _ _ hon (fun hHeld => ?_)
    clear hK hon
    try simp only [Act.put]
    refine wpAnyH_take (i := 6) (v := ?_) rfl (by kernel_rfl) (by kernel_rfl) (by kernel_rfl) (fun _ _ _ h => h) (Or.inl ⟨by rfl, ?_⟩) (by assumption) ?_
    rotate_left
    · (intro w hSw; (try dsimp only at hSw); go_simp; try (with_reducible rfl))
    try simp only [Act.put]
    refine wpAnyH_ready (rs := [7]) (by kernel_rfl) (by simp) ?_
    refine AllReadyH.cons rfl (fun K hK => ?_) AllReadyH.nil
    go_simp
    have hon : Only (PB (.slice av k cv)) W (wA.alloc (.cells #[.int .i64 xO, .int .i64 0, .int .i64 (-1), .int .i64 xk] 81)) := (Only.of_below BB.out).alloc _
    refine hK.out _ _ hon (fun hHeld => ?_)
    clear hK hon
    try simp only [Act.put]
    refine wpAnyH_ready (rs := [8]) (by kernel_rfl) (by simp) ?_
    refine AllReadyH.cons rfl (fun K hK => ?_) AllReadyH.nil
    rw [if_pos (by rfl)]
    have RA := Lib.hid (own_keep RW.out BB.out)
    refine oper_append_in _ _ 47 rfl w.heap.size 81 i0 (.agg #[.int .i64 0, .int .i64 0, .int .i64 0, .int .i64 0]) 4 32 Tryz.underlying47 Hi.out Hz0.out Hz1.out Hz2.out rfl (by decide) (.slice av k cv) k _ rfl (RA.out.alloc _) ⟨wA.heap.size, 0, none⟩ 1 1 [.int .i64 xO, .int .i64 0, .int .i64 (-1), .int .i64 xk] rfl rfl (Orow.cells_new _ _ _) (by simp [Value.oneCell']) (by have := Hlt.out; have := Hn.out; unfold maxLen; omega) (by have := Hlt.out; have := Hn.out; omega) (by have := HBW.out.size; have := BB.out.size; simp; omega) ?_
    intro v' W9 r1 r2 r4
    obtain ⟨a9, c9, hv9, -, -⟩ := Orow.own_shape r1
    subst hv9
    have hon : Only (PB (.slice av k cv)) W W9 := ((Only.of_below BB.out).alloc _).grown r2 (fun k e => .inl e)
    refine hK.out _ _ hon (fun hHeld => ?_)
    clear hK
    try simp only [Act.put]
    refine wpAnyH_take (i := 9) (v := ?_) rfl (by kernel_rfl) (by kernel_rfl) (by kernel_rfl) (fun _ _ _ h => h) (Or.inl ⟨by rfl, ?_⟩) (by assumption) ?_
    rotate_left
    · (intro w hSw; (try dsimp only at hSw); go_simp; try (with_reducible rfl))
    try simp only [Act.put]
    simp only [List.getElem_toArray, List.getElem_cons_succ, List.getElem_cons_zero]
    refine wpAnyH_done (by kernel_rfl) ?_ _
    have R9 := Lib.hid r1
    have B9 := Lib.hid (HBW.out.trans (hon.below (by have := HBW.out.size; exact this) (fun j hj => (Hlo.out j hj).1)))
    have hs := begL_step (l := l) (k := k) (by rw [HL.out.1]; exact Hlt.out)
    rw [Hx.out] at hs
    have Hs := Lib.hid hs
    clear hHeld hon r1 r2 r4 d0 d3 S0 hlo hs
    go_wp2_with fail
    refine ⟨⟨k + 1, Hlt.out, by go_num, ?_, B9.out⟩, by have := Hlt.out; simp [intOf]; omega⟩
    rw [Hs.out]
    exact R9.out
  · have hkm : k = n := by omega
    have d1 : decide ((k : Int) < (n : Int)) = false := decide_eq_false (by omega)
    have d1' : decide (k < n) = false := decide_eq_false hlt
    have Hkm := Lib.hid hkm
    clear hlt hk hkm
    obtain ⟨av, cv, hv, -, -⟩ := Orow.own_shape Hrow.out
    subst hv
    have hr := Hrow.out
    rw [Hkm.out, List.take_of_length_le (by rw [begL_len, HL.out.1]; exact Nat.le_refl _)] at hr
    have Hr := Lib.hid hr
    clear hr
    go_wp2_with fail
    go_ret
    refine ⟨⟨av, cv, ?_, Hr.out⟩, Hb.out⟩
    show Ending.returned (.slice av k cv) = _
    rw [Hkm.out]
theorem New_no (a : Option Addr) (n cap : Nat) (l : List Win.Dv) (w : World) (hn : n < 140737488355328) (hc : n ≤ cap) (h : Win.RowV w a n l) (hb : Win.rowB l = false) :
    Calls Tryz.prog 7 #[.slice a n cap] w fun e w' => e = .returned (.tuple #[.pointer none, .int .i64 2]) ∧ Below w.heap.size w w' := by
  have HR := Lib.hid (Win.Right_wide a n cap l false w hn hc h hb)
  clear h hb hn hc
  go_enter Tryz.func7, Tryz.ntmps7
  go_wp2_with fail
  refine HR.out.mono ?_
  rintro e w1 ⟨rfl, hb⟩
  have B1 := Lib.hid hb
  clear hb HR
  go_wp2_with fail
  go_ret2
  exact ⟨rfl, B1.out⟩
theorem begL_hd (l : List Win.Dv) : (begL l).map Hk.hd = (newS l).H := by simp [begL, newS, Hk.hd]
theorem begL_kn (l : List Win.Dv) : (begL l).map Hk.k = (newS l).K := by simp [begL, newS]
theorem New_yes (Bk : Nat) (a : Option Addr) (n cap : Nat) (l : List Win.Dv) (w : World) (hn : n < 140737488355328) (hc : n ≤ cap) (h : Win.RowV w a n l) (hL : Laid w Bk) (hB : Bk ≤ w.heap.size) (hb : Win.rowB l = true) :
    Calls Tryz.prog 7 #[.slice a n cap] w fun e w' => (∃ b O, e = .returned (.tuple #[.pointer (some ⟨b, 0, none⟩), .int .i64 0]) ∧ Row Bk w' b (newS l) O ∧ ∀ j, O j → w.heap.size ≤ j) ∧ Below w.heap.size w w' := by
  have HR := Lib.hid (Win.Right_wide a n cap l true w hn hc h hb)
  have h16 : n ≤ 16 := by
    rw [← h.1]
    by_cases hh : 16 < l.length
    · rw [Win.row_no_long hh] at hb; cases hb
    · omega
  have H16 := Lib.hid h16
  have HL := Lib.hid h
  have HBk := Lib.hid hB
  have Hok := Lib.hid (ok_new hb)
  clear h hb hn hc hB h16
  go_enter Tryz.func7, Tryz.ntmps7
  go_wp2_with fail
  refine HR.out.mono ?_
  rintro e w1 ⟨rfl, hb⟩
  have B1 := Lib.hid hb
  clear hb HR
  go_wp2_with fail
  refine (begun_any a n cap l w1 H16.out (HL.out.keep B1.out)).mono ?_
  rintro e w2 ⟨⟨a', c', rfl, hr⟩, hb⟩
  have B2 := Lib.hid (B1.out.trans (hb.mono B1.out.size))
  have R2 := Lib.hid hr
  have S1 := Lib.hid B1.out.size
  clear hb hr
  go_wp2_with fail
  refine (laid_any a' n c' w2).mono ?_
  rintro e w3 ⟨rfl, hk, hb⟩
  have B3 := Lib.hid (B2.out.trans (hb.mono B2.out.size))
  have K3 := Lib.hid hk
  have R3 := Lib.hid (own_keep R2.out hb)
  have S2 := Lib.hid B2.out.size
  clear hb hk
  go_wp2_with fail
  go_ret2
  have hn : (begL l).length = n := by rw [begL_len, HL.out.1]
  have hlt := fun j hj => own_lt R2.out j hj
  refine ⟨⟨w2.heap.size, fun j => j = w2.heap.size ∨ BA a' j, rfl, ⟨a', c', begL l, ⟨Hok.out, begL_hd l, begL_kn l, by rw [hn]; exact K3.out, by rw [hn]; exact own_mono R3.out (Nat.zero_le _), fun e => by have := (hlt _ e).2; omega⟩, by have := HBk.out; have := S2.out; omega, fun j hj => by have := (hlt j hj).1; have := S1.out; have := HBk.out; omega, fun j => Iff.rfl⟩, ?_⟩, B3.out⟩
  rintro j (rfl | hj)
  · exact S2.out
  · have := (hlt j hj).1; have := S1.out; omega
end Go.Proofs.YtmdepkehpohgeaaGreat.Scr
/- Package scrub: a row copied; what is told of none. -/
namespace Go.Proofs.YtmdepkehpohgeaaGreat.Scr
open Go.RowKit Go.Maps Go.ChangeShapes Go.WideShapes Go.ChangeAt Fifo Orow Word
set_option linter.unusedVariables false
attribute [local go_sem] Oper.semAt_some

theorem eql_hk (a : Option Addr) (n cap : Nat) (w : World) : (binOp .eql 47 (.slice a n cap) (.slice none 0 0)).run Tryz.prog w = .ok (.bool a.isNone) w := by
  simp [binOp, run_equal_slice_nil w 47 81 a n cap Tryz.underlying47]
theorem clone_hk (a : Option Addr) (c n : Nat) (L : List Hk) (w : World) (hn2 : n ≤ 16) (hl : L.length = n) (h : w.ownsRow 0 81 4 (.slice a n c) n (flHk L)) :
    Calls Tryz.prog 69 #[.slice a n c] w fun e w' => (∃ a' c', e = .returned (.slice a' n c') ∧ w'.ownsRow w.heap.size 81 4 (.slice a' n c') n (flHk L)) ∧ Below w.heap.size w w' := by
  cases ha : a with
  | none =>
    subst ha
    obtain ⟨rfl, rfl⟩ := own_none h rfl
    have hq := eql_hk none 0 0
    rw [show (none : Option Addr).isNone = true from rfl] at hq
    obtain rfl : L = [] := List.eq_nil_of_length_eq_zero hl
    clear h hl hn2
    go_enter Tryz.func69, Tryz.ntmps69
    go_wp2_with fail
    go_ret
    exact ⟨⟨none, 0, rfl, World.ownsRow_nil _ _ _ _⟩, Below.refl _ _⟩
  | some ad =>
    subst ha
    obtain ⟨i0, hi, hz0, hz1, hz2⟩ := info_parts info_hk
    have Hi := Lib.hid hi
    have Hz0 := Lib.hid hz0
    have Hz1 := Lib.hid hz1
    have Hz2 := Lib.hid hz2
    have H := Lib.hid h
    have he := eql_hk (some ad) n c
    rw [show (some ad).isNone = false from rfl] at he
    clear hi hz0 hz1 hz2 h
    go_enter Tryz.func69, Tryz.ntmps69
    go_wp2_with (with_reducible refine Bench.at_append _ _ _ _ rfl ?_)
    apply Lib.hid
    have ho : (w.alloc (.cells #[] 81)).ownsRow w.heap.size 81 4 (.slice (some ⟨w.heap.size, 0, none⟩) 0 0) 0 [] := blk_own (Blk.new w 81 []) rfl rfl (Nat.le_refl _) (by unfold maxLen; omega) (Nat.le_refl _)
    have hb0 : Below w.heap.size w (w.alloc (.cells #[] 81)) := (Below.refl _ _).alloc (Nat.le_refl _) _
    refine wpList_append_own _ rfl _ _ 47 rfl w.heap.size 81 i0 (.agg #[.int .i64 0, .int .i64 0, .int .i64 0, .int .i64 0]) 4 32 Tryz.underlying47 Hi.out Hz0.out Hz1.out Hz2.out rfl (by decide) (.slice (some ⟨w.heap.size, 0, none⟩) 0 0) 0 [] rfl ho ad n c (flHk L) rfl (by have := H.out.1; omega) (own_cells (own_keep H.out hb0) _ rfl) flHk_cells (by unfold maxLen; omega) (by omega) hb0.size ?_
    intro v' w5 r1 r2 _
    rw [Nat.zero_add, List.nil_append] at r1
    obtain ⟨a', c', rfl, -, -⟩ := Orow.own_shape r1
    have R1 := Lib.hid r1
    have Hb := Lib.hid (hb0.trans ((grown_only r2).below hb0.size (fun j hj => (ho.lt j hj).1)))
    clear r1 r2 ho hb0 he
    go_wp2_with fail
    go_ret
    exact ⟨⟨a', c', rfl, R1.out⟩, Hb.out⟩
theorem apart_hk (a : Option Addr) (c n : Nat) (L : List Hk) (w : World) (hn2 : n ≤ 16) (hl : L.length = n) (h : w.ownsRow 0 81 4 (.slice a n c) n (flHk L)) :
    Calls Tryz.prog 55 #[.slice a n c] w fun e w' => (∃ a' c', e = .returned (.slice a' n c') ∧ w'.ownsRow w.heap.size 81 4 (.slice a' n c') n (flHk L)) ∧ Below w.heap.size w w' := by
  have C := Lib.hid (clone_hk a c n L w hn2 hl h)
  clear h hl hn2
  go_enter Tryz.func55, Tryz.ntmps55
  go_wp2_with fail
  refine C.out.mono ?_
  rintro e w1 ⟨⟨a', c', rfl, ho⟩, hb⟩
  have Ho := Lib.hid ho
  have Hb := Lib.hid hb
  clear ho hb
  go_wp2_with fail
  go_ret
  exact ⟨⟨a', c', rfl, Ho.out⟩, Hb.out⟩
theorem Copy_any (Bk b : Nat) (s : RS) (O : Nat → Prop) (w : World) (h : Row Bk w b s O) :
    Calls Tryz.prog 22 #[.pointer (some ⟨b, 0, none⟩)] w fun e w' => (∃ c O', e = .returned (.pointer (some ⟨c, 0, none⟩)) ∧ Row Bk w' c s O' ∧ ∀ j, O' j → w.heap.size ≤ j) ∧ Below w.heap.size w w' := by
  have hBk : Bk ≤ w.heap.size := by
    obtain ⟨a, c, L, hi, h1, -⟩ := h
    have := hi.blk.lt
    omega
  obtain ⟨a, c, L, hi, -⟩ := h
  have q0 := hi.blk.at 0 rfl
  have IS := Lib.hid (is_yes b w (hi.blk.at 1 rfl))
  have AP := Lib.hid (apart_hk a c L.length L w (by rw [hi.len]; exact hi.ok.few) rfl hi.row)
  have HI := Lib.hid hi
  have HB := Lib.hid hBk
  obtain ⟨n, hn⟩ : ∃ n, L.length = n := ⟨_, rfl⟩
  have Hn := Lib.hid hn
  rw [hn] at q0 AP
  clear hi hBk hn
  go_enter Tryz.func22, Tryz.ntmps22
  go_wp2_with fail
  refine IS.out.mono ?_
  rintro e w1 ⟨rfl, rfl⟩
  clear IS
  go_wp2_with fail
  refine AP.out.mono ?_
  rintro e w2 ⟨⟨a', c', rfl, hr⟩, hb⟩
  have B2 := Lib.hid hb
  have R2 := Lib.hid hr
  clear hb hr AP
  go_wp2_with fail
  refine (laid_any a' n c' w2).mono ?_
  rintro e w3 ⟨rfl, hk, hb⟩
  have B3 := Lib.hid (B2.out.trans (hb.mono B2.out.size))
  have K3 := Lib.hid hk
  have R3 := Lib.hid (own_keep R2.out hb)
  have S2 := Lib.hid B2.out.size
  clear hb hk
  go_wp2_with fail
  go_ret
  have hlt := fun j hj => own_lt R2.out j hj
  refine ⟨⟨w2.heap.size, fun j => j = w2.heap.size ∨ BA a' j, rfl, ⟨a', c', L, ⟨HI.out.ok, HI.out.hd, HI.out.kn, by rw [Hn.out]; exact K3.out, by rw [Hn.out]; exact own_mono R3.out (Nat.zero_le _), fun e => by have := (hlt _ e).2; omega⟩, by have := HB.out; have := S2.out; omega, fun j hj => by have := (hlt j hj).1; have := HB.out; omega, fun j => Iff.rfl⟩, ?_⟩, B3.out⟩
  rintro j (rfl | hj)
  · exact S2.out
  · exact (hlt j hj).1

/- None. -/
theorem Copy_non (v : Value) (w : World) (h : Non w v) :
    Calls Tryz.prog 22 #[v] w fun e w' => e = .returned (.pointer none) ∧ Below w.heap.size w w' := by
  have H := Lib.hid (is_non v w h)
  obtain ⟨p, rfl⟩ : ∃ p, v = .pointer p := by rcases h with rfl | ⟨b, rfl, -⟩ <;> exact ⟨_, rfl⟩
  clear h
  go_enter Tryz.func22, Tryz.ntmps22
  go_wp2_with fail
  refine H.out.mono ?_
  rintro e w1 ⟨rfl, rfl⟩
  clear H
  go_wp2_with fail
  go_ret
  exact ⟨rfl, Below.refl _ _⟩
theorem Non.ptr {w : World} {v : Value} (h : Non w v) : ∃ p, v = .pointer p := by rcases h with rfl | ⟨b, rfl, -⟩ <;> exact ⟨_, rfl⟩
theorem change_none (v : Value) (n : Int) (F G q : Nat) (w : World) (h : Non w v) :
    Calls Tryz.prog 46 #[v, .int .i64 n, .func (.func F) #[] #[], fnV G q] w fun e w' => ∃ er, e = .returned (.int .i64 er) ∧ er = 1 ∧ Below w.heap.size w w' := by
  have H := Lib.hid (is_non v w h)
  obtain ⟨p, rfl⟩ := h.ptr
  clear h
  go_enter Tryz.func46, Tryz.ntmps46
  go_wp2_with fail
  refine H.out.mono ?_
  rintro e w1 ⟨rfl, rfl⟩
  clear H
  go_wp2_with fail
  go_ret
  exact ⟨1, rfl, rfl, Below.refl _ _⟩
theorem scrub_none (v : Value) (n x : Int) (w : World) (h : Non w v) :
    Calls Tryz.prog 50 #[v, .int .i64 n, .int .i64 x] w fun e w' => ∃ er, e = .returned (.int .i64 er) ∧ er = 1 ∧ Below w.heap.size w w' := by
  have hb : Below w.heap.size w (w.alloc (.cells #[.int .i64 x] 3)) := (Below.refl _ _).alloc (Nat.le_refl _) _
  refine scrub_of v n x w _ h.ptr ?_
  refine (change_none v n _ _ _ _ (h.keep hb)).mono ?_
  rintro e w' ⟨er, rfl, rfl, hb'⟩
  exact ⟨1, rfl, rfl, hb.trans (hb'.mono hb.size)⟩
theorem Take_non (v : Value) (n : Int) (w : World) (h1 : I64 n) (h : Non w v) :
    Calls Tryz.prog 16 #[v, .int .i64 n] w fun e w' => e = .returned (.int .i64 1) ∧ Below w.heap.size w w' := by
  refine (take_of v n w _ h.ptr (scrub_none v n (-1) w h)).mono ?_
  rintro e w' ⟨er, rfl, rfl, hb⟩
  exact ⟨rfl, hb⟩
theorem Move_non (v : Value) (n x : Int) (w : World) (h1 : I64 n) (h2 : I64 x) (h : Non w v) :
    Calls Tryz.prog 17 #[v, .int .i64 n, .int .i64 x] w fun e w' => e = .returned (.int .i64 1) ∧ Below w.heap.size w w' := by
  have IS := Lib.hid (is_non v w h)
  have CH := Lib.hid (scrub_none v n x w h)
  obtain ⟨p, rfl⟩ := h.ptr
  clear h h1 h2
  go_enter Tryz.func17, Tryz.ntmps17
  go_wp2_with (first
    | (go_at_call 44; refine (IS.out).mono ?_; rintro e w1 ⟨rfl, rfl⟩)
    | (go_at_call 50; refine (CH.out).mono ?_; rintro e w3 ⟨er, rfl, rfl, hb⟩; have HB := Lib.hid hb; clear hb))
  go_ret
  exact ⟨rfl, HB.out⟩
theorem Give_non (v : Value) (n x : Int) (w : World) (h1 : I64 n) (h2 : I64 x) (h : Non w v) :
    Calls Tryz.prog 15 #[v, .int .i64 n, .int .i64 x] w fun e w' => e = .returned (.int .i64 1) ∧ Below w.heap.size w w' := by
  have hmf : ∀ (fn : Fn) (first cap : Array Value) (w : World), (Instr.makeFunc fn first cap).run Tryz.prog w = .ok (.func fn first cap) w := fun _ _ _ _ => rfl
  have B0 := Lib.hid ((Below.refl w.heap.size w).alloc (Nat.le_refl _) (.cells #[.int .i64 x] 3))
  have IS := Lib.hid (is_non v _ (h.keep B0.out))
  have CH := Lib.hid (change_none v n 47 48 w.heap.size _ (h.keep B0.out))
  obtain ⟨p, rfl⟩ := h.ptr
  clear h h1 h2
  go_enter Tryz.func15, Tryz.ntmps15
  go_wp2_with (first
    | (go_at_call 44; refine (IS.out).mono ?_; rintro e w1 ⟨rfl, rfl⟩)
    | (go_at_call 46; refine (CH.out).mono ?_; rintro e w3 ⟨er, rfl, rfl, hb⟩; have HB := Lib.hid (B0.out.trans (hb.mono B0.out.size)); clear hb))
  go_ret
  exact ⟨rfl, HB.out⟩
theorem Len_non (v : Value) (w : World) (h : Non w v) :
    Calls Tryz.prog 18 #[v] w fun e w' => e = .returned (.int .i64 0) ∧ Below w.heap.size w w' := by
  have H := Lib.hid (row_non v w h)
  obtain ⟨p, rfl⟩ := h.ptr
  clear h
  go_enter Tryz.func18, Tryz.ntmps18
  go_wp2_with fail
  refine H.out.mono ?_
  rintro e w1 ⟨rfl, hz, hb⟩
  have z0 := hz.at 0 rfl
  have HB := Lib.hid hb
  clear H hz hb
  go_wp2_with fail
  go_ret
  exact ⟨rfl, HB.out⟩
theorem Hold_non (v : Value) (n : Int) (w : World) (h1 : I64 n) (h : Non w v) :
    Calls Tryz.prog 13 #[v, .int .i64 n] w fun e w' => e = .returned (.tuple #[.agg #[.int .i64 0, .int .i64 0, .int .i64 0], .bool false]) ∧ Below w.heap.size w w' := by
  obtain ⟨M, hM⟩ : ∃ M, M = w.alloc (.cells #[.int .i64 0, .int .i64 0, .int .i64 0] 52) := ⟨_, rfl⟩
  have BM := Lib.hid (show Below w.heap.size w M by rw [hM]; exact (Below.refl _ _).alloc (Nat.le_refl _) _)
  have Z0 := Lib.hid (show Blk M w.heap.size 52 [.int .i64 0, .int .i64 0, .int .i64 0] by rw [hM]; exact Blk.new w _ [.int .i64 0, .int .i64 0, .int .i64 0])
  have HR := Lib.hid (row_non v M (h.keep BM.out))
  obtain ⟨p, rfl⟩ := h.ptr
  have HM := Lib.hid hM
  rw [hM] at HR
  clear hM h1 h
  go_enter Tryz.func13, Tryz.ntmps13
  go_wp2_with fail
  refine HR.out.mono ?_
  rintro e w1 ⟨rfl, hz, hb⟩
  rw [← HM.out] at hz hb
  rw [← HM.out]
  have z0 := hz.at 0 rfl
  have B1 := Lib.hid (BM.out.trans (hb.mono BM.out.size))
  have Z1 := Lib.hid (Z0.out.keep hb)
  clear HR hz hb
  go_wp2_with fail
  refine (at_no n none 0 0 w1 (by omega)).mono ?_
  rintro e w2 ⟨rfl, hb⟩
  have B2 := Lib.hid (B1.out.trans (hb.mono B1.out.size))
  have Z2 := Lib.hid (Z1.out.keep hb)
  clear hb z0
  go_wp2_with (with_reducible refine at_st 52 _ _ rfl ?_)
  refine Lib.hid ?_
  refine store_all rfl _ _ _ rfl w.heap.size [.int .i64 0, .int .i64 0, .int .i64 0] rfl rfl _ _ (Z2.out.alloc _) (by kernel_rfl) rfl (by simp [Value.oneCell']) ?_
  intro X hX hoX
  go_wp2_with fail
  have r0 := hX.at 0 rfl
  have r1 := hX.at 1 rfl
  have r2 := hX.at 2 rfl
  refine bodyPost_ret (v := .tuple #[.agg #[.int .i64 0, .int .i64 0, .int .i64 0], .bool false]) ?_ rfl ⟨rfl, (B2.out.alloc B2.out.size _).trans (hoX.below (by have := B2.out.size; simp; omega) (fun j e => by have e : j = w.heap.size := e; omega))⟩
  simp [results, Tryz.results13, go_sem, r0, r1, r2]
theorem Owner_non (v : Value) (n : Int) (w : World) (h1 : I64 n) (h : Non w v) :
    Calls Tryz.prog 14 #[v, .int .i64 n] w fun e w' => e = .returned (.tuple #[.int .i64 0, .bool false]) ∧ Below w.heap.size w w' := by
  have H := Lib.hid (row_non v w h)
  obtain ⟨p, rfl⟩ := h.ptr
  clear h h1
  go_enter Tryz.func14, Tryz.ntmps14
  go_wp2_with fail
  refine H.out.mono ?_
  rintro e w1 ⟨rfl, hz, hb⟩
  have z0 := hz.at 0 rfl
  have HB := Lib.hid hb
  clear H hz hb
  go_wp2_with fail
  refine (at_no n none 0 0 w1 (by omega)).mono ?_
  rintro e w2 ⟨rfl, hb⟩
  have B2 := Lib.hid (HB.out.trans (hb.mono HB.out.size))
  have B3 := Lib.hid (B2.out.alloc B2.out.size (.cells #[.int .i64 0, .int .i64 0, .int .i64 0, .int .i64 0] 81))
  clear hb z0
  go_wp2_with fail
  go_ret2
  exact ⟨rfl, B3.out⟩
set_option maxHeartbeats 1000000 in
theorem Of_non (v : Value) (x : Int) (w : World) (h1 : I64 x) (h : Non w v) :
    Calls Tryz.prog 19 #[v, .int .i64 x] w fun e w' => (∃ a c, e = .returned (.slice a 0 c)) ∧ Below w.heap.size w w' := by
  obtain ⟨M, hM⟩ : ∃ M, M = (w.alloc (.cells #[.int .i64 x] 3)).alloc (.cells #[.slice none 0 0] 41) := ⟨_, rfl⟩
  have BM := Lib.hid (show Below w.heap.size w M by rw [hM]; exact ((Below.refl _ _).alloc (Nat.le_refl _) _).alloc (by simp) _)
  have L0 := Lib.hid (show Blk M (w.heap.size + 1) 41 [.slice none 0 0] by
    rw [hM]
    have := Blk.new (w.alloc (.cells #[.int .i64 x] 3)) 41 [.slice none 0 0]
    rwa [World.size_alloc] at this)
  have HR := Lib.hid (row_non v M (h.keep BM.out))
  obtain ⟨p, rfl⟩ := h.ptr
  have HM := Lib.hid hM
  rw [hM] at HR
  clear hM h h1
  refine (callsIn_wide (n := 6)).1 ?_
  refine callsIn_of_wp_marks Tryz.func19 rfl trivial ?_ rfl
  simp only [Tryz.ntmps19, List.size_toArray, List.length_cons, List.length_nil, Nat.reduceAdd, Nat.reduceSub, Array.replicate_succ, Array.replicate_zero, List.push_toArray, List.append_toArray, List.nil_append, List.cons_append]
  refine wpIn_wide.2 ?_
  go_wp2_with fail
  refine HR.out.mono ?_
  rintro e w0 ⟨rfl, hz, hb⟩
  rw [← HM.out] at hz hb
  rw [← HM.out]
  have z0 := hz.at 0 rfl
  have B0 := Lib.hid (BM.out.trans (hb.mono BM.out.size))
  have L1 := Lib.hid (L0.out.keep hb)
  clear hz hb HR
  have BN := B0
  have LN := L1
  have HT := Lib.hid (that_any none 0 0 43 w0)
  go_wp2_with fail
  refine HT.out.mono ?_
  rintro e w1 ⟨rfl, hx, hy, hb1, hs1⟩
  obtain ⟨g, hg⟩ : ∃ g, w0.heap.size = g := ⟨_, rfl⟩
  rw [hg] at hx hy hs1 ⊢
  have BW := Lib.hid (BN.out.trans (hb1.mono BN.out.size))
  have L2 := Lib.hid (LN.out.keep hb1)
  have hlg : w.heap.size + 1 < g := by rw [← hg]; exact LN.out.lt
  have HX := Lib.hid hx
  have HY := Lib.hid hy
  have Hs1 := Lib.hid hs1
  have Hlg := Lib.hid hlg
  clear hx hy hb1 hs1 hlg HT z0
  go_wp2_with fail
  refine (wpIn_wide (n := 4)).1 ?_
  have hlg := Hlg.out
  have hs := Hs1.out
  refine range_lawI rfl (by omega) (gf := 68) (bound := #[]) (lb := #[.pointer (some ⟨g, 0, none⟩), .pointer (some ⟨g + 1, 0, none⟩)]) rfl trivial (enters_of Tryz.func68 (by kernel_rfl) rfl)
    (that_owned 3 (by omega) g (g + 1) 0 0 none [] w1 HX.out HY.out (by omega)) (fun _ => rfl) (fun j hj => by omega)
    (fun k T X => (T = fun _ => False) ∧ Blk X (w.heap.size + 1) 41 [.slice none 0 0] ∧ Below w.heap.size w X)
    (fun _ _ _ _ => False) (fun _ => False) (fun j hj hn => hj.elim) (fun j hj => hj.elim)
    (fun k T W W' h hk => ⟨h.1, h.2.1.book hk, hk.below h.2.2 (by have := BW.out.size; exact this)⟩) (fun _ _ _ _ _ h _ => h)
    (fun k T W j h hj => by rw [h.1] at hj; exact hj.elim)
    ⟨rfl, L2.out, BW.out⟩
    (fun k T W hk h => absurd hk (Nat.not_lt_zero _)) (fun k T W hk hno h => absurd hk (Nat.not_lt_zero _)) ?round ?done ?stop
  case round => exact fun lp k T W0 hk => absurd hk (Nat.not_lt_zero _)
  case done =>
    rintro T W ⟨_, hl, hb⟩ hD
    have l0 := hl.at 0 rfl
    have HD := Lib.hid hD
    have HB := Lib.hid hb
    clear hl hb hD hlg hs
    go_wp2_with fail
    have Hk := Lib.hid (Book.put (B := w.heap.size) (o' := .deferred none) (by have := BW.out.size; exact this) HD.out rfl)
    refine ⟨by simp, .inl ⟨_, _, rfl, run_takeDeferred HD.out, ?_⟩⟩
    refine ⟨_, results_tmp rfl _ _ _, ?_⟩
    exact ⟨⟨none, 0, rfl⟩, Hk.out.below HB.out (Nat.le_refl _)⟩
  case stop => exact fun c k T W _ h => h.elim
set_option maxHeartbeats 1000000 in
theorem All_non (v : Value) (w : World) (h : Non w v) :
    Calls Tryz.prog 21 #[v] w fun e w' => (∃ a c, e = .returned (.slice a 0 c)) ∧ Below w.heap.size w w' := by
  obtain ⟨M, hM⟩ : ∃ M, M = w.alloc (.cells #[.slice none 0 0] 62) := ⟨_, rfl⟩
  have BM := Lib.hid (show Below w.heap.size w M by rw [hM]; exact (Below.refl _ _).alloc (Nat.le_refl _) _)
  have L0 := Lib.hid (show Blk M (w.heap.size) 62 [.slice none 0 0] by
    rw [hM]
    exact Blk.new w _ [.slice none 0 0])
  have HR := Lib.hid (row_non v M (h.keep BM.out))
  obtain ⟨p, rfl⟩ := h.ptr
  have HM := Lib.hid hM
  rw [hM] at HR
  clear hM h 
  refine (callsIn_wide (n := 6)).1 ?_
  refine callsIn_of_wp_marks Tryz.func21 rfl trivial ?_ rfl
  simp only [Tryz.ntmps21, List.size_toArray, List.length_cons, List.length_nil, Nat.reduceAdd, Nat.reduceSub, Array.replicate_succ, Array.replicate_zero, List.push_toArray, List.append_toArray, List.nil_append, List.cons_append]
  refine wpIn_wide.2 ?_
  go_wp2_with fail
  refine HR.out.mono ?_
  rintro e w0 ⟨rfl, hz, hb⟩
  rw [← HM.out] at hz hb
  rw [← HM.out]
  have z0 := hz.at 0 rfl
  have B0 := Lib.hid (BM.out.trans (hb.mono BM.out.size))
  have L1 := Lib.hid (L0.out.keep hb)
  clear hz hb HR
  have BN := B0
  have LN := L1
  have HT := Lib.hid (that_any none 0 0 54 w0)
  go_wp2_with fail
  refine HT.out.mono ?_
  rintro e w1 ⟨rfl, hx, hy, hb1, hs1⟩
  obtain ⟨g, hg⟩ : ∃ g, w0.heap.size = g := ⟨_, rfl⟩
  rw [hg] at hx hy hs1 ⊢
  have BW := Lib.hid (BN.out.trans (hb1.mono BN.out.size))
  have L2 := Lib.hid (LN.out.keep hb1)
  have hlg : w.heap.size < g := by rw [← hg]; exact LN.out.lt
  have HX := Lib.hid hx
  have HY := Lib.hid hy
  have Hs1 := Lib.hid hs1
  have Hlg := Lib.hid hlg
  clear hx hy hb1 hs1 hlg HT z0
  go_wp2_with fail
  refine (wpIn_wide (n := 4)).1 ?_
  have hlg := Hlg.out
  have hs := Hs1.out
  refine range_lawI rfl (by omega) (gf := 68) (bound := #[]) (lb := #[.pointer (some ⟨g, 0, none⟩), .pointer (some ⟨g + 1, 0, none⟩)]) rfl trivial (enters_of Tryz.func68 (by kernel_rfl) rfl)
    (that_all 3 (by omega) g (g + 1) 0 0 none [] w1 HX.out HY.out (by omega)) (fun _ => rfl) (fun j hj => by omega)
    (fun k T X => (T = fun _ => False) ∧ Blk X (w.heap.size) 62 [.slice none 0 0] ∧ Below w.heap.size w X)
    (fun _ _ _ _ => False) (fun _ => False) (fun j hj hn => hj.elim) (fun j hj => hj.elim)
    (fun k T W W' h hk => ⟨h.1, h.2.1.book hk, hk.below h.2.2 (by have := BW.out.size; exact this)⟩) (fun _ _ _ _ _ h _ => h)
    (fun k T W j h hj => by rw [h.1] at hj; exact hj.elim)
    ⟨rfl, L2.out, BW.out⟩
    (fun k T W hk h => absurd hk (Nat.not_lt_zero _)) (fun k T W hk hno h => absurd hk (Nat.not_lt_zero _)) ?round ?done ?stop
  case round => exact fun lp k T W0 hk => absurd hk (Nat.not_lt_zero _)
  case done =>
    rintro T W ⟨_, hl, hb⟩ hD
    have l0 := hl.at 0 rfl
    have HD := Lib.hid hD
    have HB := Lib.hid hb
    clear hl hb hD hlg hs
    go_wp2_with fail
    have Hk := Lib.hid (Book.put (B := w.heap.size) (o' := .deferred none) (by have := BW.out.size; exact this) HD.out rfl)
    refine ⟨by simp, .inl ⟨_, _, rfl, run_takeDeferred HD.out, ?_⟩⟩
    refine ⟨_, results_tmp rfl _ _ _, ?_⟩
    exact ⟨⟨none, 0, rfl⟩, Hk.out.below HB.out (Nat.le_refl _)⟩
  case stop => exact fun c k T W _ h => h.elim
set_option maxHeartbeats 1000000 in
theorem Tick_non (v : Value) (w : World) (h : Non w v) :
    Calls Tryz.prog 20 #[v] w fun e w' => (∃ a c, e = .returned (.slice a 0 c)) ∧ Below w.heap.size w w' := by
  obtain ⟨M, hM⟩ : ∃ M, M = w.alloc (.cells #[.slice none 0 0] 41) := ⟨_, rfl⟩
  have BM := Lib.hid (show Below w.heap.size w M by rw [hM]; exact (Below.refl _ _).alloc (Nat.le_refl _) _)
  have L0 := Lib.hid (show Blk M (w.heap.size) 41 [.slice none 0 0] by
    rw [hM]
    exact Blk.new w _ [.slice none 0 0])
  have HR := Lib.hid (row_non v M (h.keep BM.out))
  obtain ⟨p, rfl⟩ := h.ptr
  have HM := Lib.hid hM
  rw [hM] at HR
  clear hM h 
  refine (callsIn_wide (n := 6)).1 ?_
  refine callsIn_of_wp_marks Tryz.func20 rfl trivial ?_ rfl
  simp only [Tryz.ntmps20, List.size_toArray, List.length_cons, List.length_nil, Nat.reduceAdd, Nat.reduceSub, Array.replicate_succ, Array.replicate_zero, List.push_toArray, List.append_toArray, List.nil_append, List.cons_append]
  refine wpIn_wide.2 ?_
  go_wp2_with fail
  refine HR.out.mono ?_
  rintro e w0 ⟨rfl, hz, hb⟩
  rw [← HM.out] at hz hb
  rw [← HM.out]
  have z0 := hz.at 0 rfl
  have B0 := Lib.hid (BM.out.trans (hb.mono BM.out.size))
  have L1 := Lib.hid (L0.out.keep hb)
  clear hz hb HR
  obtain ⟨N, hN⟩ : ∃ N, N = w0.alloc (.cells #[.slice none 0 0] 47) := ⟨_, rfl⟩
  have BN := Lib.hid (show Below w.heap.size w N by rw [hN]; exact B0.out.alloc B0.out.size _)
  have LN := Lib.hid (show Blk N (w.heap.size) 41 [.slice none 0 0] by rw [hN]; exact L1.out.alloc _)
  have HN := Lib.hid hN
  have HT := Lib.hid (that_any none 0 0 52 N)
  rw [hN] at HT
  clear hN
  go_wp2_with fail
  refine HT.out.mono ?_
  rintro e w1 ⟨rfl, hx, hy, hb1, hs1⟩
  rw [← HN.out] at hx hy hb1 hs1
  rw [← HN.out]
  obtain ⟨g, hg⟩ : ∃ g, N.heap.size = g := ⟨_, rfl⟩
  rw [hg] at hx hy hs1 ⊢
  have BW := Lib.hid (BN.out.trans (hb1.mono BN.out.size))
  have L2 := Lib.hid (LN.out.keep hb1)
  have hlg : w.heap.size < g := by rw [← hg]; exact LN.out.lt
  have HX := Lib.hid hx
  have HY := Lib.hid hy
  have Hs1 := Lib.hid hs1
  have Hlg := Lib.hid hlg
  clear hx hy hb1 hs1 hlg HT z0
  go_wp2_with fail
  refine (wpIn_wide (n := 4)).1 ?_
  have hlg := Hlg.out
  have hs := Hs1.out
  refine range_lawI rfl (by omega) (gf := 68) (bound := #[]) (lb := #[.pointer (some ⟨g, 0, none⟩), .pointer (some ⟨g + 1, 0, none⟩)]) rfl trivial (enters_of Tryz.func68 (by kernel_rfl) rfl)
    (that_scrubbed 3 (by omega) g (g + 1) 0 0 none [] w1 HX.out HY.out (by omega)) (fun _ => rfl) (fun j hj => by omega)
    (fun k T X => (T = fun _ => False) ∧ Blk X (w.heap.size) 41 [.slice none 0 0] ∧ Below w.heap.size w X)
    (fun _ _ _ _ => False) (fun _ => False) (fun j hj hn => hj.elim) (fun j hj => hj.elim)
    (fun k T W W' h hk => ⟨h.1, h.2.1.book hk, hk.below h.2.2 (by have := BW.out.size; exact this)⟩) (fun _ _ _ _ _ h _ => h)
    (fun k T W j h hj => by rw [h.1] at hj; exact hj.elim)
    ⟨rfl, L2.out, BW.out⟩
    (fun k T W hk h => absurd hk (Nat.not_lt_zero _)) (fun k T W hk hno h => absurd hk (Nat.not_lt_zero _)) ?round ?done ?stop
  case round => exact fun lp k T W0 hk => absurd hk (Nat.not_lt_zero _)
  case done =>
    rintro T W ⟨_, hl, hb⟩ hD
    have l0 := hl.at 0 rfl
    have HD := Lib.hid hD
    have HB := Lib.hid hb
    clear hl hb hD hlg hs
    go_wp2_with fail
    have Hk := Lib.hid (Book.put (B := w.heap.size) (o' := .deferred none) (by have := BW.out.size; exact this) HD.out rfl)
    refine ⟨by simp, .inl ⟨_, _, rfl, run_takeDeferred HD.out, ?_⟩⟩
    refine ⟨_, results_tmp rfl _ _ _, ?_⟩
    exact ⟨⟨none, 0, rfl⟩, Hk.out.below HB.out (Nat.le_refl _)⟩
  case stop => exact fun c k T W _ h => h.elim
end Go.Proofs.YtmdepkehpohgeaaGreat.Scr
