/- Package scrub: a row as it begins; New. -/
import Derived.Test.YtmdepkehpohgeaaS6wd
import Derived.Test.YtmdepkehpohgeaaYr
import Derived.OrdersHeld
import Derived.Deep.RegionHeld3
import Derived.Maps.AppendAt
namespace Go.Proofs.Ytmdepkehpohgeaa.Scr
open Go.RowKit Go.Maps Go.ChangeShapes Go.WideShapes Go.ChangeAt Fifo Orow Word
set_option linter.unusedVariables false
attribute [local go_sem] Oper.semAt_some

/-- An append, as one operation of a drawn region; where the row lies then. -/
theorem oper_append_in {P : Program} {o : Oper} {a : Act} {w : World} {K : Act → World → Prop} {Q : Exit → Act → World → Prop} (s x : Operand) (t : TypeId)
    (ho : o.op = .call { callee := .builtin .append, args := #[s, x], argTypes := #[t, t] })
    (base : Nat) (e : TypeId) (i : TypeInfo) (z : Value) (size bytes : Nat) (ht : P.underlying t = some (.slice e)) (hi : P.info? e = some i) (hz : i.zero = some z)
    (hsize : i.size = size) (hby : i.bytes = bytes) (hzs : z.cells.size = size) (hsz : 0 < size)
    (v : Value) (n : Nat) (xs : List Value) (hs : a.eval s = v) (hown : w.ownsRow base e size v n xs)
    (ad : Addr) (m c : Nat) (news : List Value) (hx : a.eval x = .slice (some ad) m c) (hl : news.length = m * size) (hnews : ∀ j u, news[j]? = some u → w.cell? (ad.add j) = some u) (h1 : ∀ u ∈ news, u.oneCell' = true)
    (h63 : n + m ≤ maxLen) (hbytes : (n + m) * bytes ≤ 140737488355328) (hbase : base ≤ w.heap.size)
    (h : ∀ v' w', w'.ownsRow base e size v' (n + m) (xs ++ news) → w.grownBy w' v.ownBlock → (v'.ownBlock = v.ownBlock ∨ v'.ownBlock = some w.heap.size) → K (a.put o.dst v') w') : Oper.wp P o a w K Q := by
  obtain ⟨v', w', hr, h2, h3, h4, h5⟩ := run_append_own_at (P := P) w base t o.type e i z size bytes ht hi hz hsize hby hzs hsz v n xs hown ad m c news hl hnews h1 h63 hbytes hbase
  unfold Oper.wp execOp
  simp only [ho, resolve, invoke, builtin, Sem.run_bind, Sem.run_pure, Result.andThen_ok, List.map_toArray, List.map_cons, List.map_nil, hs, hx, hr]
  exact h v' w' h2 h3 h5
theorem laid_any (a : Option Addr) (n c : Nat) (w : World) :
    Calls Try.prog 21 #[.slice a n c] w fun e w' => e = .returned (.pointer (some ⟨w.heap.size, 0, none⟩)) ∧ Blk w' w.heap.size 69 [.slice a n c, .pointer (some ⟨w.heap.size, 0, none⟩)] ∧ Below w.heap.size w w' := by
  go_enter Try.func21, Try.ntmps21
  go_wp2_with fail
  go_ret
  exact ⟨rfl, Blk.new w _ [.slice a n c, .pointer (some ⟨w.heap.size, 0, none⟩)], (Below.refl _ _).alloc (Nat.le_refl _) _⟩
/-- The holds with which devices begin. -/
def begL (l : List Win.Dv) : List Hk := l.map fun d => ⟨d.O, 0, -1, d.k⟩
theorem begL_len (l : List Win.Dv) : (begL l).length = l.length := List.length_map ..
theorem begL_step {l : List Win.Dv} {k : Nat} (h : k < l.length) : flHk ((begL l).take (k + 1)) = flHk ((begL l).take k) ++ [.int .i64 l[k]!.O, .int .i64 0, .int .i64 (-1), .int .i64 l[k]!.k] := by
  have h2 : k < (begL l).length := by rw [begL_len]; exact h
  rw [take_snoc' h2, flHk_snoc, getElem!_pos (begL l) k h2, getElem!_pos l k h]
  simp [begL, encHk]
theorem info_hk : (Try.prog.info? 64).map (fun i => (i.zero, i.size, i.bytes)) = some (some (.agg #[.int .i64 0, .int .i64 0, .int .i64 0, .int .i64 0]), 4, 32) := by kernel_rfl
set_option maxRecDepth 100000 in
set_option maxHeartbeats 4000000 in
theorem begun_any (a : Option Addr) (n cap : Nat) (l : List Win.Dv) (w : World) (hn : n ≤ 16) (h : Win.RowV w a n l) :
    Calls Try.prog 22 #[.slice a n cap] w fun e w' => (∃ a' c', e = .returned (.slice a' n c') ∧ w'.ownsRow w.heap.size 64 4 (.slice a' n c') n (flHk (begL l))) ∧ Below w.heap.size w w' := by
  obtain ⟨i0, hi, hz0, hz1, hz2⟩ := info_parts info_hk
  have Hi := Lib.hid hi
  have Hz0 := Lib.hid hz0
  have Hz1 := Lib.hid hz1
  have Hz2 := Lib.hid hz2
  have HL := Lib.hid h
  have Hn := Lib.hid hn
  have HD : Hid (∀ (x : Int) w, Calls Try.prog 33 #[.int .i64 x] w fun e w' => e = .returned (.agg #[.int .i64 x, .int .i64 0, .int .i64 (-1)]) ∧ Below w.heap.size w w') := Lib.hid (fun x w => had_any x w)
  clear hi hz0 hz1 hz2 h hn
  go_enter Try.func22, Try.ntmps22
  go_wp2_with fail
  go_loopw [3, 8] (fun v i wr => ∃ k : Nat, k ≤ n ∧ i = .int .i64 (k : Nat) ∧ wr.ownsRow w.heap.size 64 4 v k (flHk ((begL l).take k)) ∧ Below w.heap.size w wr) (fun _ i _ => n - (intOf i).toNat)
  case atStart => exact ⟨0, Nat.zero_le _, rfl, World.ownsRow_nil _ _ _ _, Below.refl _ _⟩
  case round =>
  obtain ⟨k, hk, rfl, hrow, hb⟩ := hrel
  have Hrow := Lib.hid hrow
  have Hb := Lib.hid hb
  have hsz := hb.size
  have Hsz := Lib.hid hsz
  clear hrow hb
  by_cases hlt : k < n
  · have d1 : decide ((k : Int) < (n : Int)) = true := decide_eq_true (by omega)
    have d1' : decide (k < n) = true := decide_eq_true hlt
    have i1 : (0 : Int) ≤ (k : Int) := by omega
    have i2 : (k : Int) < (n : Int) := by omega
    have wk : IntKind.i64.wrap ((k : Int) + 1) = (k : Int) + 1 := IntWalk.i64_in _ (by have := Hn.out; omega)
    obtain ⟨lb, off, rfl, ce⟩ := HL.out.2.2 k hlt
    have ce := ce.keep Hb.out
    obtain ⟨x, hx⟩ : ∃ x, l[k]! = x := ⟨_, rfl⟩
    rw [hx] at ce
    have Hx := Lib.hid hx
    have Hlt := Lib.hid hlt
    obtain ⟨xk, xB, xS, xO, xL⟩ := x
    obtain ⟨e0, e1, e2, e3, e4⟩ := ce
    obtain ⟨av, cv, hv, -, -⟩ := Orow.own_shape Hrow.out
    subst hv
    clear hlt hk hx hsz
    go_wp2_with fail
    refine code_letter ?_
    intro W hW
    have BW := Lib.hid (show Below wr.heap.size wr W by rw [hW.out]; exact (Below.refl _ _).alloc (Nat.le_refl _) _)
    have DW := Lib.hid (show Blk W wr.heap.size 37 [.int .i64 xk, .int .u32 xB, .int .i64 xS, .int .i64 xO, .int .i64 xL] by rw [hW.out]; exact Blk.new _ _ [.int .i64 xk, .int .u32 xB, .int .i64 xS, .int .i64 xO, .int .i64 xL])
    have RW := Lib.hid (own_keep Hrow.out BW.out)
    have HBW := Lib.hid (Hb.out.trans (BW.out.mono Hsz.out))
    clear hW e0 e1 e2 e3 e4
    have hlo : ∀ j, PB (.slice av k cv) j → w.heap.size ≤ j ∧ j < wr.heap.size := fun j hj => World.ownsRow.lt Hrow.out j hj
    have Hlo := Lib.hid hlo
    have d0 : ∀ w', Only (PB (.slice av k cv)) W w' → w'.cell? ⟨wr.heap.size, 0, none⟩ = some (.int .i64 xk) := fun w' h => (DW.out.only h (fun e => by have := (Hlo.out _ e).2; omega)).at 0 rfl
    have d3 : ∀ w', Only (PB (.slice av k cv)) W w' → w'.cell? ⟨wr.heap.size, 3, none⟩ = some (.int .i64 xO) := fun w' h => (DW.out.only h (fun e => by have := (Hlo.out _ e).2; omega)).at 3 rfl
    have S0 : Only (PB (.slice av k cv)) W W.drew := Only.of_below (Below.refl _ _).drew
    refine wp_region_held_drew (S := fun w' => Only (PB (.slice av k cv)) W w') (by kernel_rfl) S0 (fun hHeld => ?_)
    refine wpAnyH_take (i := 0) (v := ?_) rfl (by kernel_rfl) (by kernel_rfl) (by kernel_rfl) (fun _ _ _ h => h) (Or.inl ⟨by rfl, ?_⟩) (by assumption) ?_
    rotate_left
    · (intro w hSw; (try dsimp only at hSw); go_simp; try (with_reducible rfl))
    try simp only [Act.put]
    refine wpAnyH_take (i := 1) (v := ?_) rfl (by kernel_rfl) (by kernel_rfl) (by kernel_rfl) (fun _ _ _ h => h) (Or.inl ⟨by rfl, ?_⟩) (by assumption) ?_
    rotate_left
    · (intro w hSw; (try dsimp only at hSw); go_simp; try (with_reducible rfl))
    try simp only [Act.put]
    refine wpAnyH_take (i := 2) (v := ?_) rfl (by kernel_rfl) (by kernel_rfl) (by kernel_rfl) (fun _ _ _ h => h) (Or.inl ⟨by rfl, ?_⟩) (by assumption) ?_
    rotate_left
    · (intro w hSw; (try dsimp only at hSw); go_simp; try (with_reducible rfl))
    try simp only [Act.put]
    refine wpAnyH_take (i := 4) (v := ?_) rfl (by kernel_rfl) (by kernel_rfl) (by kernel_rfl) (fun _ _ _ h => h) (Or.inl ⟨by rfl, ?_⟩) (by assumption) ?_
    rotate_left
    · (intro w hSw; (try dsimp only at hSw); go_simp; try (with_reducible rfl))
    try simp only [Act.put]
    refine wpAnyH_take (i := 5) (v := ?_) rfl (by kernel_rfl) (by kernel_rfl) (by kernel_rfl) (fun _ _ _ h => h) (Or.inl ⟨by rfl, ?_⟩) (by assumption) ?_
    rotate_left
    · (intro w hSw; (try dsimp only at hSw); go_simp; try (with_reducible rfl))
    try simp only [Act.put]
    refine wpAnyH_ready (rs := [3]) (by kernel_rfl) (by simp) ?_
    refine AllReadyH.cons rfl (fun K hK => ?_) AllReadyH.nil
    go_simp
    refine (HD.out xO _).mono ?_
    rintro e wA ⟨rfl, hb⟩
    have BB := Lib.hid ((Below.refl W.heap.size W).drew.trans (hb.mono (Nat.le_refl _)))
    have hon : Only (PB (.slice av k cv)) W wA := Only.of_below BB.out
    clear hb
    refine hK.out _ _ hon (fun hHeld => ?_)
    clear hK hon
    try simp only [Act.put]
    refine wpAnyH_take (i := 6) (v := ?_) rfl (by kernel_rfl) (by kernel_rfl) (by kernel_rfl) (fun _ _ _ h => h) (Or.inl ⟨by rfl, ?_⟩) (by assumption) ?_
    rotate_left
    · (intro w hSw; (try dsimp only at hSw); go_simp; try (with_reducible rfl))
    try simp only [Act.put]
    refine wpAnyH_ready (rs := [7]) (by kernel_rfl) (by simp) ?_
    refine AllReadyH.cons rfl (fun K hK => ?_) AllReadyH.nil
    go_simp
    have hon : Only (PB (.slice av k cv)) W (wA.alloc (.cells #[.int .i64 xO, .int .i64 0, .int .i64 (-1), .int .i64 xk] 64)) := (Only.of_below BB.out).alloc _
    refine hK.out _ _ hon (fun hHeld => ?_)
    clear hK hon
    try simp only [Act.put]
    refine wpAnyH_ready (rs := [8]) (by kernel_rfl) (by simp) ?_
    refine AllReadyH.cons rfl (fun K hK => ?_) AllReadyH.nil
    rw [if_pos (by rfl)]
    have RA := Lib.hid (own_keep RW.out BB.out)
    refine oper_append_in _ _ 56 rfl w.heap.size 64 i0 (.agg #[.int .i64 0, .int .i64 0, .int .i64 0, .int .i64 0]) 4 32 Try.underlying56 Hi.out Hz0.out Hz1.out Hz2.out rfl (by decide) (.slice av k cv) k _ rfl (RA.out.alloc _) ⟨wA.heap.size, 0, none⟩ 1 1 [.int .i64 xO, .int .i64 0, .int .i64 (-1), .int .i64 xk] rfl rfl (Orow.cells_new _ _ _) (by simp [Value.oneCell']) (by have := Hlt.out; have := Hn.out; unfold maxLen; omega) (by have := Hlt.out; have := Hn.out; omega) (by have := HBW.out.size; have := BB.out.size; simp; omega) ?_
    intro v' W9 r1 r2 r4
    obtain ⟨a9, c9, hv9, -, -⟩ := Orow.own_shape r1
    subst hv9
    have hon : Only (PB (.slice av k cv)) W W9 := ((Only.of_below BB.out).alloc _).grown r2 (fun k e => .inl e)
    refine hK.out _ _ hon (fun hHeld => ?_)
    clear hK
    try simp only [Act.put]
    refine wpAnyH_take (i := 9) (v := ?_) rfl (by kernel_rfl) (by kernel_rfl) (by kernel_rfl) (fun _ _ _ h => h) (Or.inl ⟨by rfl, ?_⟩) (by assumption) ?_
    rotate_left
    · (intro w hSw; (try dsimp only at hSw); go_simp; try (with_reducible rfl))
    try simp only [Act.put]
    simp only [List.getElem_toArray, List.getElem_cons_succ, List.getElem_cons_zero]
    refine wpAnyH_done (by kernel_rfl) ?_ _
    have R9 := Lib.hid r1
    have B9 := Lib.hid (HBW.out.trans (hon.below (by have := HBW.out.size; exact this) (fun j hj => (Hlo.out j hj).1)))
    have hs := begL_step (l := l) (k := k) (by rw [HL.out.1]; exact Hlt.out)
    rw [Hx.out] at hs
    have Hs := Lib.hid hs
    clear hHeld hon r1 r2 r4 d0 d3 S0 hlo hs
    go_wp2_with fail
    refine ⟨⟨k + 1, Hlt.out, by go_num, ?_, B9.out⟩, by have := Hlt.out; simp [intOf]; omega⟩
    rw [Hs.out]
    exact R9.out
  · have hkm : k = n := by omega
    have d1 : decide ((k : Int) < (n : Int)) = false := decide_eq_false (by omega)
    have d1' : decide (k < n) = false := decide_eq_false hlt
    have Hkm := Lib.hid hkm
    clear hlt hk hkm
    obtain ⟨av, cv, hv, -, -⟩ := Orow.own_shape Hrow.out
    subst hv
    have hr := Hrow.out
    rw [Hkm.out, List.take_of_length_le (by rw [begL_len, HL.out.1]; exact Nat.le_refl _)] at hr
    have Hr := Lib.hid hr
    clear hr
    go_wp2_with fail
    go_ret
    refine ⟨⟨av, cv, ?_, Hr.out⟩, Hb.out⟩
    show Ending.returned (.slice av k cv) = _
    rw [Hkm.out]
theorem New_no (a : Option Addr) (n cap : Nat) (l : List Win.Dv) (w : World) (hn : n < 140737488355328) (hc : n ≤ cap) (h : Win.RowV w a n l) (hb : Win.rowB l = false) :
    Calls Try.prog 6 #[.slice a n cap] w fun e w' => e = .returned (.tuple #[.pointer none, .int .i64 2]) ∧ Below w.heap.size w w' := by
  have HR := Lib.hid (Win.Right_wide a n cap l false w hn hc h hb)
  clear h hb hn hc
  go_enter Try.func6, Try.ntmps6
  go_wp2_with fail
  refine HR.out.mono ?_
  rintro e w1 ⟨rfl, hb⟩
  have B1 := Lib.hid hb
  clear hb HR
  go_wp2_with fail
  go_ret2
  exact ⟨rfl, B1.out⟩
theorem begL_hd (l : List Win.Dv) : (begL l).map Hk.hd = (newS l).H := by simp [begL, newS, Hk.hd]
theorem begL_kn (l : List Win.Dv) : (begL l).map Hk.k = (newS l).K := by simp [begL, newS]
theorem New_yes (Bk : Nat) (a : Option Addr) (n cap : Nat) (l : List Win.Dv) (w : World) (hn : n < 140737488355328) (hc : n ≤ cap) (h : Win.RowV w a n l) (hL : Laid w Bk) (hB : Bk ≤ w.heap.size) (hb : Win.rowB l = true) :
    Calls Try.prog 6 #[.slice a n cap] w fun e w' => (∃ b O, e = .returned (.tuple #[.pointer (some ⟨b, 0, none⟩), .int .i64 0]) ∧ Row Bk w' b (newS l) O ∧ ∀ j, O j → w.heap.size ≤ j) ∧ Below w.heap.size w w' := by
  have HR := Lib.hid (Win.Right_wide a n cap l true w hn hc h hb)
  have h16 : n ≤ 16 := by
    rw [← h.1]
    by_cases hh : 16 < l.length
    · rw [Win.row_no_long hh] at hb; cases hb
    · omega
  have H16 := Lib.hid h16
  have HL := Lib.hid h
  have HBk := Lib.hid hB
  have Hok := Lib.hid (ok_new hb)
  clear h hb hn hc hB h16
  go_enter Try.func6, Try.ntmps6
  go_wp2_with fail
  refine HR.out.mono ?_
  rintro e w1 ⟨rfl, hb⟩
  have B1 := Lib.hid hb
  clear hb HR
  go_wp2_with fail
  refine (begun_any a n cap l w1 H16.out (HL.out.keep B1.out)).mono ?_
  rintro e w2 ⟨⟨a', c', rfl, hr⟩, hb⟩
  have B2 := Lib.hid (B1.out.trans (hb.mono B1.out.size))
  have R2 := Lib.hid hr
  have S1 := Lib.hid B1.out.size
  clear hb hr
  go_wp2_with fail
  refine (laid_any a' n c' w2).mono ?_
  rintro e w3 ⟨rfl, hk, hb⟩
  have B3 := Lib.hid (B2.out.trans (hb.mono B2.out.size))
  have K3 := Lib.hid hk
  have R3 := Lib.hid (own_keep R2.out hb)
  have S2 := Lib.hid B2.out.size
  clear hb hk
  go_wp2_with fail
  go_ret2
  have hn : (begL l).length = n := by rw [begL_len, HL.out.1]
  have hlt := fun j hj => own_lt R2.out j hj
  refine ⟨⟨w2.heap.size, fun j => j = w2.heap.size ∨ BA a' j, rfl, ⟨a', c', begL l, ⟨Hok.out, begL_hd l, begL_kn l, by rw [hn]; exact K3.out, by rw [hn]; exact own_mono R3.out (Nat.zero_le _), fun e => by have := (hlt _ e).2; omega⟩, by have := HBk.out; have := S2.out; omega, fun j hj => by have := (hlt j hj).1; have := S1.out; have := HBk.out; omega, fun j => Iff.rfl⟩, ?_⟩, B3.out⟩
  rintro j (rfl | hj)
  · exact S2.out
  · have := (hlt j hj).1; have := S1.out; omega
end Go.Proofs.Ytmdepkehpohgeaa.Scr
