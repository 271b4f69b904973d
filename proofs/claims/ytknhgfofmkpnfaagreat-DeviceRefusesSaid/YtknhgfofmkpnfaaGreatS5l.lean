/- run: deeds done one behind the other; what is told. -/
import Derived.Test.YtknhgfofmkpnfaaGreatS5w
import Derived.Test.YtknhgfofmkpnfaaGreatS5c
import Derived.Test.YtknhgfofmkpnfaaGreatS5r
import Derived.Test.YtknhgfofmkpnfaaGreatBn
import Derived.LoopN
import Derived.Handy
import Derived.Maps.AppendAt
namespace Go.Proofs.YtknhgfofmkpnfaaGreat.Devs
set_option linter.unusedSectionVars false
variable [Inhabited Lane.OTab]
open Go.RowKit Go.Maps Go.ChangeShapes Go.WideShapes Go.ChangeAt Fifo Orow Word Win Mbox
set_option linter.unusedVariables false

abbrev at0 (a : Nat) : Value := .pointer (some ⟨a, 0, none⟩)
theorem list_letter {P : Program} {ops : Array Oper} {Q : Exit → Act → World → Prop} {l : List Oper} {a : Act} {w : World} (h : ∀ W, Hid (W = w) → wpList P ops Q l a W) : wpList P ops Q l a w := h w (Lib.hid rfl)
/-- A store of one cell into a block that is known. -/
theorem store_one {P : Program} {ops : Array Oper} {rest : List Oper} {op : Oper} {a : Act} {w : World} {Q : Exit → Act → World → Prop} (hgd : op.guard = none) (ty : TypeId) (x y : Operand) (ho : op.op = .store ty x y)
    (g off : Nat) (v : Value) (hx : a.eval x = .pointer (some ⟨g, off, none⟩)) (hy : a.eval y = v) (t : TypeId) (cur : List Value) (hg : Blk w g t cur) (hi : (P.info? ty).map (·.size) = some 1) (hoff : off < cur.length) (h1 : v.oneCell' = true) (hv : v.cells = #[v])
    (h : ∀ X, Blk X g t (cur.set off v) → Only (fun j => j = g) w X → wpList P ops Q rest (a.put op.dst undef) X) : wpList P ops Q (op :: rest) a w := by
  have hrun : (storeVar ty ⟨g, off, none⟩ v).run P w = .ok () (w.setRow g (cur.take off ++ [v] ++ cur.drop (off + 1)).toArray) := by
    have := run_storeCells_at P g off t [v] 0 cur.toArray w hg (by simp; omega) (fun u hu => by simp at hu; subst hu; exact h1)
    cases hq : P.info? ty with
    | none => simp [hq] at hi
    | some i =>
      have hs : i.size = 1 := by simp [hq] at hi; omega
      simp [storeVar, sizeOf, typeInfo, hq, hv, hs] at this ⊢
      exact this
  have hb : Blk (w.setRow g (cur.take off ++ [v] ++ cur.drop (off + 1)).toArray) g t (cur.set off v) := by
    have e : cur.take off ++ [v] ++ cur.drop (off + 1) = cur.set off v := by rw [List.set_eq_take_append_cons_drop, if_pos hoff]; simp
    rw [← e]
    exact set_blk hg
  refine wpList_plain hgd fun K hK => ?_
  unfold Oper.wp execOp
  simp only [ho, hx, hy, Instr.storeAt, Instr.sureAddr, Sem.run_bind, Sem.run_pure, Result.andThen_ok, hrun]
  exact hK _ _ (h _ hb (set_only w g _))
set_option maxHeartbeats 1000000 in
/-- The asker: the sum of what is asked is kept, the deed's answer told. -/
theorem ask_run (W : Int) (wr : Bool) (A S D s u : Int) (x : Dd) (gv gx : Nat) (w : World) (hs : IntKind.u32.wrap (A + D) = s)
    (hv : Blk w gv 23 [.int .u32 u]) (hx : Blk w gx 53 (encDd x)) (hne : gx ≠ gv) :
    Calls Tryz.prog 25 #[Dma.accV W wr A S D, at0 gv, at0 gx] w fun z w' => z = .returned (.agg #[.int .u32 x.v, .int .i64 x.er]) ∧ Blk w' gv 23 [.int .u32 s] ∧ Only (fun j => j = gv) w w' := by
  obtain ⟨g, hg⟩ : ∃ g, w.heap.size = g := ⟨_, rfl⟩
  have HG := Lib.hid hg
  have HV := Lib.hid hv
  have HX := Lib.hid hx
  have HN := Lib.hid (show gx ≠ gv ∧ gv < g ∧ gx < g from ⟨hne, by rw [← hg]; exact hv.lt, by rw [← hg]; exact hx.lt⟩)
  clear hv hx hne
  go_enter Tryz.func25, Tryz.ntmps25
  go_wp2_with (with_reducible refine at_store _ _ _ rfl ?_)
  refine Lib.hid ?_
  refine list_letter ?_
  intro X hX
  have BX := Lib.hid (show Below w.heap.size w X by rw [hX.out]; exact ((Below.refl _ _).alloc (Nat.le_refl _) _).alloc (by simp) _)
  have Z := Lib.hid (show Blk X (g + 1) 60 [.int .u32 0, .int .i64 0] by
    rw [hX.out]
    have e : ∀ Y : World, Y.heap.size = g + 1 → Blk (Y.alloc (.cells #[.int .u32 0, .int .i64 0] 60)) (g + 1) 60 [.int .u32 0, .int .i64 0] := fun Y h => by rw [← h]; exact Blk.new Y _ _
    exact e _ (by simp [HG.out]))
  have KX := Lib.hid (HX.out.keep BX.out)
  have KV := Lib.hid (HV.out.keep BX.out)
  clear hX hg
  refine store_one rfl _ _ _ rfl gv 0 (.int .u32 s) rfl (by first | rfl | exact congrArg (Value.int .u32) hs) _ _ KV.out (by kernel_rfl) (by simp) (by simp [Value.oneCell']) rfl ?_
  intro Y hY hoY
  have Y2 := Lib.hid (show Blk Y gv 23 [.int .u32 s] from hY)
  have Y0 := Lib.hid (KX.out.only hoY (by show ¬ gx = gv; exact HN.out.1))
  have YZ := Lib.hid (Z.out.only hoY (by show ¬ g + 1 = gv; have := HN.out; omega))
  have OY := Lib.hid (show Only (fun j => j = gv) w Y from (Only.of_below BX.out).trans hoY)
  clear hY hoY
  have a3 := Y0.out.at 3 rfl
  have a4 := Y0.out.at 4 rfl
  go_wp2_with (with_reducible refine at_store _ _ _ rfl ?_)
  refine Lib.hid ?_
  refine store_all rfl _ _ _ rfl (g + 1) [.int .u32 x.v, .int .i64 x.er] rfl rfl _ _ YZ.out (by kernel_rfl) rfl (by simp [Value.oneCell']) ?_
  intro V hV hoV
  have V2 := Lib.hid (Y2.out.only hoV (by show ¬ gv = g + 1; have := HN.out; omega))
  have OV := Lib.hid (show Only (fun j => j = gv) w V from OY.out.far hoV (fun i hi e => by have := HG.out; have : i = g + 1 := e; omega))
  have r0 := hV.at 0 rfl
  have r1 := hV.at 1 rfl
  clear hV hoV a3 a4
  go_wp2_with fail
  refine bodyPost_ret (v := .agg #[.int .u32 x.v, .int .i64 x.er]) ?_ rfl ⟨rfl, V2.out, OV.out⟩
  simp [results, Tryz.results25, go_sem, r0, r1]
theorem eg_run : ∀ args w, (callFunc 25 args).run Tryz.prog w = .ok (.enter 25 args) w := enters_of Tryz.func25 (by kernel_rfl) rfl
/-- What a busy one asks, by its parts. -/
theorem next_sum (d : Dv) (world : Int) (hb : busyD d = true) (hd : OkD d) : ∃ (A : Bool) (D : Int × Int), nextD d world = Dma.accV world A D.1 4 D.2 ∧ IntKind.u32.wrap (D.1 + D.2) = askV d := by
  cases d with
  | eng e =>
    show ∃ (A : Bool) (D : Int × Int), Dma.nextE e world = Dma.accV world A D.1 4 D.2 ∧ IntKind.u32.wrap (D.1 + D.2) = if e.has then (e.T + e.H) % 4294967296 else (e.F + 0) % 4294967296
    unfold Dma.nextE
    split
    · exact ⟨true, (e.T, e.H), rfl, rfl⟩
    · exact ⟨false, (e.F, 0), rfl, rfl⟩
  | _ => exact absurd hb (by simp [busyD])
/-- A step answered by the deed. -/
theorem step_run (Bk b : Nat) (d : Dv) (O : Nat → Prop) {Xs : Nat → Prop} (x : Dd) (u : Int) (gv gx : Nat) (w : World) (hx : okDd x) (h : Dev Bk w b d O Xs) (hv : Blk w gv 23 [.int .u32 u]) (hX : Blk w gx 53 (encDd x)) (hne : gx ≠ gv) (h1 : ¬ O gv) (h2 : ¬ O gx) (hB : Bk ≤ gv) (hXs : ¬ Xs gv) (hb : busyD d = true) :
    Calls Tryz.prog 24 #[at0 b, .int .i64 x.of, .func (.func 25) #[] #[at0 gv, at0 gx]] w fun z w' => z = .returned (.bool true) ∧ (∃ O', Dev Bk w' b (toldD d x.v x.er) O' Xs ∧ ∀ j, O' j → O j ∨ w.heap.size ≤ j) ∧ Blk w' gv 23 [.int .u32 (askV d)] ∧ Only (fun j => O j ∨ j = gv) w w' := by
  obtain ⟨hw, ho, hs, hvv, he⟩ := hx
  obtain ⟨A, D, hn, hsum⟩ := next_sum d x.of hb h.ok
  have l1 := hv.lt
  refine (Step_busy Bk b d O x.of 25 #[] #[at0 gv, at0 gx] (fun j => j = gv) (fun W v err w' => v = x.v ∧ err = x.er ∧ Blk w' gv 23 [.int .u32 (askV d)]) w ho h hb (fun j e => by have e : j = gv := e; rw [e]; exact ⟨h1, hXs, hB, l1⟩) eg_run ?_).mono ?_
  · intro W hW
    rw [hn]
    refine (ask_run x.of A D.1 4 D.2 (askV d) u x gv gx W hsum (hv.only hW h1) (hX.only hW h2) hne).mono ?_
    rintro z w' ⟨rfl, k1, k2⟩
    exact ⟨_, _, rfl, hvv, he, ⟨rfl, rfl, k1⟩, k2⟩
  · rintro z w' ⟨rfl, v, err, W, W1, O', _, _, k1, ⟨rfl, rfl, k2⟩, k3, k4, k5, k6⟩
    have s1 := k1.size
    have s2 := k3.size
    refine ⟨rfl, ⟨O', k5, fun j hj => (k6 j hj).imp id (fun e => e.elim (fun e => e.1) (fun e => by omega))⟩, k2.only k4 (fun e => e.elim h1 (fun e => by omega)), ?_⟩
    have a1 : Only (fun j => O j ∨ j = gv) w W1 := (k1.mono (fun j _ e => .inl e)).trans (k3.mono (fun j _ e => .inr e))
    exact a1.far k4 (fun j hj e => e.elim .inl (fun e => by omega))
theorem cells_new2 (w : World) (a b : Value) (t : TypeId) : ∀ j u, ([a, b] : List Value)[j]? = some u → (w.alloc (.cells #[a, b] t)).cell? ((⟨w.heap.size, 0, none⟩ : Addr).add j) = some u := by
  intro j u hj
  rw [add_plain, Nat.zero_add, World.cell?_alloc_at _ _ _ _ rfl]
  simpa using hj
theorem info_l : (Tryz.prog.info? 23).map (fun i => (i.zero, i.size, i.bytes)) = some (some (.int .u32 0), 1, 4) := by kernel_rfl
/-- Behind some deeds. -/
structure RunS (Bk : Nat) (w wr : World) (b : Nat) (d : Dv) (O Xs : Nat → Prop) (vo : Value) (n k : Nat) (ds : List Dd) (O' : Nat → Prop) : Prop where
  dev : Dev Bk wr b (runV d ds).2 O' Xs
  own : ∀ j, O' j → O j ∨ w.heap.size ≤ j
  row : wr.ownsRow w.heap.size 23 1 vo n (lv (runV d ds).1)
  len : (runV d ds).1.length = n
  few : n ≤ 1026 * k
  ap : ∀ j, PB vo j → ¬ O' j
  only : Only O w wr
theorem only_pb {w w' : World} {v : Value} (h : w.grownBy w' v.ownBlock) : Only (PB v) w w' := ⟨h.os, h.tape, h.output, h.size, fun k hk hn => h.block k hk (fun e => hn e.symm)⟩
theorem fresh_pb {w : World} {v v' : Value} (h : v'.ownBlock = v.ownBlock ∨ v'.ownBlock = some w.heap.size) : ∀ j, PB v' j → PB v j ∨ w.heap.size ≤ j := by
  intro j hj
  unfold PB at *
  rcases h with h | h
  · exact .inl (h ▸ hj)
  · rw [h] at hj
    simp at hj
    exact .inr (by omega)
/-- A slice that grows keeps off the device. -/
theorem grow_off {Bk : Nat} {w W X : World} {b n n' : Nat} {d : Dv} {O Xs : Nat → Prop} {v v' : Value} {L L' : List Value} (hd : Dev Bk W b d O Xs) (hXs : ∀ j, Xs j → j < w.heap.size) (hr : W.ownsRow w.heap.size 23 1 v n L) (hap : ∀ j, PB v j → ¬ O j) (hB : Bk ≤ w.heap.size)
    (r1 : X.ownsRow w.heap.size 23 1 v' n' L') (ho : Only (PB v) W X) (hf : ∀ j, PB v' j → PB v j ∨ W.heap.size ≤ j) : Dev Bk X b d O Xs ∧ ∀ j, PB v' j → ¬ O j := by
  have l1 := hd.lt
  refine ⟨hd.only ho (fun j hj e => hap j e hj) (fun j hj => Nat.le_trans hB (hr.lt j hj).1) (fun j hj e => by have := hXs j hj; have := (hr.lt j e).1; omega), fun j hj e => ?_⟩
  rcases hf j hj with k | k
  · exact hap j k e
  · have := (l1 j e).2; omega
theorem take_one (l : List Dd) (k : Nat) (h : k < l.length) : l.take (k + 1) = l.take k ++ [l[k]!] := by
  rw [List.take_add_one, List.getElem?_eq_getElem h]
  simp [h]
theorem tick_bound {d : Dv} (h : OkD d) : 0 ≤ (tickD d).1 ∧ (tickD d).1 < 256 := by
  cases d with
  | uar u => exact Uart.tick_b h
  | _ => exact ⟨Int.le_refl 0, by show (0 : Int) < 256; omega⟩
/-- The word is written. -/
theorem set_word {Bk g n b : Nat} {w W : World} {vo : Value} {O O1 Xs : Nat → Prop} {d1 : Dv} {L : List Value} {v : Int} (q1 : Blk W (g + 1) 23 [.int .u32 v]) (q3 : W.ownsRow w.heap.size 23 1 vo n L) (q4 : Only O w W) (hXs : ∀ j, Xs j → j < w.heap.size) (q5 : ∀ j, O1 j → O j ∨ w.heap.size ≤ j) (q6 : ∀ j, PB vo j → ¬ O1 j) (q7 : ¬ O1 (g + 1)) (k1 : Dev Bk W b d1 O1 Xs) (hB : Bk ≤ g + 1) (hP : ∀ j, PB vo j → j < g) (hw : w.heap.size ≤ g) (v1 : Int) :
    ∀ W', W' = W.setCell ⟨g + 1, 0, none⟩ (.int .u32 v1) → Dev Bk W' b d1 O1 Xs ∧ W'.ownsRow w.heap.size 23 1 vo n L ∧ Blk W' (g + 1) 23 [.int .u32 v1] ∧ Only O w W' := by
  rintro W' rfl
  have ho := (Only.refl (fun j => j = g + 1) W).setCell (p := ⟨g + 1, 0, none⟩) rfl (.int .u32 v1)
  refine ⟨k1.only ho (fun j hj e => q7 (by have e : j = g + 1 := e; rwa [e] at hj)) (fun j e => by have e : j = g + 1 := e; omega) (fun j hj e => by have e : j = g + 1 := e; have := hXs j hj; omega), ?_, q1.set 0 _, q4.far ho (fun j hj e => by have e : j = g + 1 := e; omega)⟩
  obtain ⟨av, cv, hv, _⟩ := own_shape q3
  subst hv
  exact own_only q3 ho (fun j hj e => by
    have hpj : PB (.slice av n cv) j := by first | exact hj | (unfold BA at hj; unfold PB Value.ownBlock; obtain ⟨q, rfl, rfl⟩ := hj; rfl)
    have := hP j hpj
    have e : j = g + 1 := e
    omega)
theorem same_word {Bk g n b : Nat} {w W : World} {vo : Value} {O O1 Xs : Nat → Prop} {d1 : Dv} {L : List Value} {v : Int} (q1 : Blk W (g + 1) 23 [.int .u32 v]) (q3 : W.ownsRow w.heap.size 23 1 vo n L) (q4 : Only O w W) (k1 : Dev Bk W b d1 O1 Xs) :
    ∀ W', W' = W → Dev Bk W' b d1 O1 Xs ∧ W'.ownsRow w.heap.size 23 1 vo n L ∧ Blk W' (g + 1) 23 [.int .u32 v] ∧ Only O w W' := by
  rintro W' rfl
  exact ⟨k1, q3, q1, q4⟩
set_option maxRecDepth 100000 in
set_option maxHeartbeats 16000000 in
theorem run_any (Bk B b : Nat) (d : Dv) (O : Nat → Prop) {Xs : Nat → Prop} (a : Option Addr) (len cap : Nat) (l : List Dd) (w0 w : World) (hl : RowDd w0 a len l) (hB : w0.heap.size = B) (hb0 : Below B w0 w) (hO : ∀ j, O j → B ≤ j) (hBk : Bk ≤ B) (h120 : len ≤ 120) (h : Dev Bk w b d O Xs) :
    Calls Tryz.prog 8 #[at0 b, .slice a len cap] w fun z w' => ∃ vo n O', z = .returned vo ∧ RunS Bk w w' b d O Xs vo n len l O' := by
  obtain ⟨i0, hi, hz0, hz1, hz2⟩ := info_parts info_l
  have Hi := Lib.hid hi
  have Hz0 := Lib.hid hz0
  have Hz1 := Lib.hid hz1
  have Hz2 := Lib.hid hz2
  have hBw : B ≤ w.heap.size := by rw [← hB]; exact hb0.size
  have HBk := Lib.hid (show Bk ≤ w.heap.size by omega)
  have HL1 := Lib.hid hl.1
  have HOB := Lib.hid hO
  have HXs := Lib.hid h.xlt
  have HRow := Lib.hid (fun k (hk : k < len) (W : World) (ho : Only O w W) => show okDd l[k]! ∧ ∃ lb off, a = some ⟨lb, off, none⟩ ∧ AtDd W lb (off + k * 5) l[k]! by
    obtain ⟨lb, off, ea, ce⟩ := hl.2.2 k hk
    exact ⟨hl.2.1 k hk, lb, off, ea, ce.keep (by rw [hB]; exact hb0.trans (ho.below hBw hO))⟩)
  have H0 := Lib.hid (show RunS Bk w w b d O Xs (.slice none 0 0) 0 0 [] O from ⟨h, fun j hj => .inl hj, World.ownsRow_nil _ _ _ _, rfl, Nat.le_refl _, fun j e => by simp [PB, Value.ownBlock] at e, Only.refl _ _⟩)
  clear hi hz0 hz1 hz2 hl hb0 hO h
  go_enter Tryz.func8, Tryz.ntmps8
  go_wp2_with fail
  go_loopw [5, 6] (fun vo i wr => ∃ (k n : Nat) (O' : Nat → Prop), RunS Bk w wr b d O Xs vo n k (l.take k) O' ∧ k ≤ len ∧ i = .int .i64 k) (fun _ i _ => len - (intOf i).toNat)
  case atStart => exact ⟨0, 0, O, by simpa using H0.out, Nat.zero_le _, rfl⟩
  case round =>
  obtain ⟨k, n, O', hS, hk, rfl⟩ := hrel
  have HS := Lib.hid hS
  clear hS H0
  by_cases hlt : k < len
  · have d1' : decide ((k : Int) < (len : Int)) = true := decide_eq_true (by omega)
    obtain ⟨hok, lb, off, rfl, ce⟩ := HRow.out k hlt wr HS.out.only
    obtain ⟨x, hx⟩ : ∃ x, l[k]! = x := ⟨_, rfl⟩
    rw [hx] at hok ce
    have HX := Lib.hid hx
    have HK := Lib.hid hlt
    obtain ⟨dk, hdk⟩ : ∃ q, (runV d (l.take k)).2 = q := ⟨_, rfl⟩
    have HDK := Lib.hid hdk
    have D0 := Lib.hid (show Dev Bk wr b dk O' Xs by rw [← hdk]; exact HS.out.dev)
    have OW0 := Lib.hid HS.out.own
    have R0 := Lib.hid HS.out.row
    have HLen := Lib.hid HS.out.len
    have HF := Lib.hid HS.out.few
    have A0 := Lib.hid HS.out.ap
    have ON0 := Lib.hid HS.out.only
    obtain ⟨c0, c1, c2, c3, c4⟩ := ce
    have i1 : (0 : Int) ≤ (k : Int) := by omega
    have i2 : (k : Int) < (len : Int) := by omega
    have HOk := Lib.hid hok
    obtain ⟨hp7, hpick⟩ := pk_is x.wh 7 (by decide) (by decide)
    obtain ⟨p, hp⟩ : ∃ q, pk x.wh 7 (by decide) (by decide) = q := ⟨_, rfl⟩
    rw [hp] at hp7 hpick
    have HPk := Lib.hid hpick
    have HP := Lib.hid hp
    obtain ⟨g, hg⟩ : ∃ g, wr.heap.size = g := ⟨_, rfl⟩
    have HG := Lib.hid hg
    clear hx hok hdk HS hpick hp hg
    go_wp2_with fail
    refine calls_letter ?_
    intro X hX
    have BX := Lib.hid (show Below wr.heap.size wr X by rw [hX.out]; exact ((Below.refl _ _).alloc (Nat.le_refl _) _).alloc (by simp) _)
    have DX := Lib.hid (show Blk X g 53 (encDd x) by rw [hX.out, ← HG.out]; exact (Blk.new wr 53 (encDd x)).alloc _)
    have VX := Lib.hid (show Blk X (g + 1) 23 [.int .u32 0] by
      rw [hX.out]
      have e : ∀ Y : World, Y.heap.size = g + 1 → Blk (Y.alloc (.cells #[.int .u32 0] 23)) (g + 1) 23 [.int .u32 0] := fun Y h => by rw [← h]; exact Blk.new Y _ [_]
      exact e _ (by simp [HG.out]))
    rw [HG.out]
    have DD := Lib.hid (D0.out.keep BX.out)
    have RR := Lib.hid (Orow.own_keep R0.out BX.out)
    have ON := Lib.hid (show Only O w X from ON0.out.trans (Only.of_below BX.out))
    have HOg := Lib.hid (show ∀ j, O' j → j < g from fun j hj => by have := (D0.out.lt j hj).2; have := HG.out; omega)
    have HBg := Lib.hid (show Bk ≤ g + 1 by have := HBk.out; have := ON0.out.size; have := HG.out; omega)
    have HWg := Lib.hid (show w.heap.size ≤ g by have := ON0.out.size; have := HG.out; omega)
    have HPg := Lib.hid (show ∀ j, PB u5 j → j < g from fun j hj => by have := (R0.out.lt j hj).2; have := HG.out; omega)
    have x0 := DX.out.at 0 rfl
    have x1 := DX.out.at 1 rfl
    have x2 := DX.out.at 2 rfl
    have x3 := DX.out.at 3 rfl
    have z0 := VX.out.at 0 rfl
    have zf := VX.out.frozen 0
    -- what a method leaves: it keeps the slice, the word, the deed
    have KEEP := Lib.hid (show ∀ (W : World) (d1 : Dv) (O1 : Nat → Prop), Dev Bk W b d1 O1 Xs → Only O' X W → (∀ j, O1 j → O' j ∨ X.heap.size ≤ j) → Blk W (g + 1) 23 [.int .u32 0] ∧ Blk W g 53 (encDd x) ∧ W.ownsRow w.heap.size 23 1 u5 n (lv (runV d (l.take k)).1) ∧ Only O w W ∧ (∀ j, O1 j → O j ∨ w.heap.size ≤ j) ∧ (∀ j, PB u5 j → ¬ O1 j) ∧ ¬ O1 (g + 1) by
      intro W d1 O1 h1 h2 h3
      have hs := BX.out.size
      have hXs : X.heap.size = g + 2 := by rw [show X = _ from hX.out]; simp [HG.out]
      refine ⟨VX.out.only h2 (fun e => by have := HOg.out _ e; omega), DX.out.only h2 (fun e => by have := HOg.out _ e; omega), ?_, ?_, ?_, ?_, ?_⟩
      · obtain ⟨av, cv, hv, _⟩ := own_shape RR.out
        have R := RR.out
        subst hv
        exact own_only R h2 (fun j hj e => A0.out j (by first | exact hj | (unfold BA at hj; unfold PB Value.ownBlock; obtain ⟨q, rfl, rfl⟩ := hj; rfl)) e)
      · exact ON.out.far h2 (fun j hj e => (OW0.out j e).elim id (fun e => by omega))
      · intro j hj
        rcases h3 j hj with e | e
        · exact OW0.out j e
        · exact .inr (by have := HWg.out; omega)
      · intro j hj e
        rcases h3 j e with k1 | k1
        · exact A0.out j hj k1
        · have := HPg.out j hj; omega
      · intro e
        rcases h3 _ e with k1 | k1
        · have := HOg.out _ k1; omega
        · omega)
    clear hX c0 c1 c2 c3 c4 D0 R0 ON0 hlt d1' i1 i2
    refine (HPk.out X).mono ?_
    rintro z w2 ⟨rfl, rfl⟩
    have hc : p = 2 ∨ p = 3 ∨ p = 4 ∨ p = 5 ∨ p = 6 ∨ (¬ p = 2 ∧ ¬ p = 3 ∧ ¬ p = 4 ∧ ¬ p = 5 ∧ ¬ p = 6) := by omega
    clear HPk hp7
    obtain ⟨hw1, ho1, hs1, hv1, he1⟩ := HOk.out
    have HO1 := Lib.hid ho1
    have HS1 := Lib.hid hs1
    have HV1 := Lib.hid hv1
    clear hw1 ho1 hs1 hv1 he1
    rcases hc with hp | hp | hp | hp | hp | hp
    · subst hp
      obtain ⟨⟨v1, is1, d1⟩, hr1⟩ : ∃ t, deedP dk 2 x = t := ⟨_, rfl⟩
      have HDV := Lib.hid (show deedV (runV d (l.take k)).2 x = (v1, is1, d1) by rw [HDK.out]; unfold deedV; rw [HP.out]; exact hr1)
      have hr2 : readD dk x.of x.sz = (v1, is1, d1) := hr1
      have C := Lib.hid (Read_any Bk b dk O' x.of x.sz X HO1.out HS1.out DD.out)
      rw [hr2] at C
      clear hr1 hr2
      go_wp2_with fail
      refine C.out.mono ?_
      rintro z W ⟨rfl, O1, k1, k2, k3⟩
      obtain ⟨q1, q2, q3, q4, q5, q6, q7⟩ := KEEP.out W d1 O1 k1 k2 k3
      have y0 := q1.at 0 rfl
      have yf := q1.frozen 0
      have FW := Lib.hid (set_word q1 q3 q4 HXs.out q5 q6 q7 k1 HBg.out HPg.out HWg.out v1)
      have OW1 := Lib.hid q5
      have A1 := Lib.hid q6
      clear k1 k2 k3 q1 q2 q3 q4 q5 q6 q7 C KEEP x0 x1 x2 x3 z0 zf DX VX DD RR ON
      cases is1
      all_goals (
        obtain ⟨ln, hln⟩ : ∃ q, lineD d1 = q := ⟨_, rfl⟩
        have HLn := Lib.hid hln
        have Ln := Lib.hid (fun W O1 (h : Dev Bk W b d1 O1 Xs) => Line_any Bk b d1 O1 W h)
        rw [hln] at Ln
        clear hln
        cases ln)
      all_goals (
        go_wp2_with fail
        refine calls_letter ?_
        intro W1 hW1
        obtain ⟨f1, f2, f3, f4⟩ := FW.out W1 hW1.out
        have D1 := Lib.hid f1
        have R1 := Lib.hid f2
        have V1 := Lib.hid f3
        have ON1 := Lib.hid f4
        clear f1 f2 f3 f4 hW1 FW
        refine (Ln.out _ _ D1.out).mono ?_
        rintro z w6 ⟨rfl, hb⟩
        have D6 := Lib.hid (D1.out.keep hb)
        have R6 := Lib.hid (Orow.own_keep R1.out hb)
        have V6 := Lib.hid (V1.out.keep hb)
        have O6 := Lib.hid (show Only O w w6 from ON1.out.trans (Only.of_below hb))
        have v0 := V6.out.at 0 rfl
        have hw6 := O6.out.size
        have hnb : n ≤ 123120 := by have := HF.out; have := HK.out; omega
        clear hb Ln D1 R1 V1 ON1
        go_wp2_with (at_builtin; (first | (refine wpList_append_own_at _ rfl _ _ 32 rfl w.heap.size 23 i0 (.int .u32 0) 1 4 Tryz.underlying32 Hi.out Hz0.out Hz1.out Hz2.out rfl (by decide) _ _ _ rfl (Orow.own_keep R6.out ((Below.refl _ _).alloc (Nat.le_refl _) _)) ⟨w6.heap.size, 0, none⟩ 2 2 [.int .u32 _, .int .u32 0] rfl rfl (cells_new2 _ _ _ _) (by simp [Value.oneCell']) (by unfold maxLen; omega) (by omega) (by simp; omega) ?_) | (refine wpList_append_own_at _ rfl _ _ 32 rfl w.heap.size 23 i0 (.int .u32 0) 1 4 Tryz.underlying32 Hi.out Hz0.out Hz1.out Hz2.out rfl (by decide) _ _ _ rfl (Orow.own_keep R6.out ((Below.refl _ _).alloc (Nat.le_refl _) _)) ⟨w6.heap.size, 0, none⟩ 2 2 [.int .u32 _, .int .u32 1] rfl rfl (cells_new2 _ _ _ _) (by simp [Value.oneCell']) (by unfold maxLen; omega) (by omega) (by simp; omega) ?_) | (refine wpList_append_own_at _ rfl _ _ 32 rfl w.heap.size 23 i0 (.int .u32 0) 1 4 Tryz.underlying32 Hi.out Hz0.out Hz1.out Hz2.out rfl (by decide) _ _ _ rfl (Orow.own_keep R6.out ((Below.refl _ _).alloc (Nat.le_refl _) _)) ⟨w6.heap.size, 0, none⟩ 2 2 [.int .u32 _, .int .u32 2] rfl rfl (cells_new2 _ _ _ _) (by simp [Value.oneCell']) (by unfold maxLen; omega) (by omega) (by simp; omega) ?_) | (refine wpList_append_own_at _ rfl _ _ 32 rfl w.heap.size 23 i0 (.int .u32 0) 1 4 Tryz.underlying32 Hi.out Hz0.out Hz1.out Hz2.out rfl (by decide) _ _ _ rfl (Orow.own_keep R6.out ((Below.refl _ _).alloc (Nat.le_refl _) _)) ⟨w6.heap.size, 0, none⟩ 2 2 [.int .u32 _, .int .u32 3] rfl rfl (cells_new2 _ _ _ _) (by simp [Value.oneCell']) (by unfold maxLen; omega) (by omega) (by simp; omega) ?_)); intro v' w7 r1 r2 _ r4; have o7 := Bench.app_only r2; have f7 := Bench.app_fresh r4; obtain ⟨d7, a7⟩ := grow_off D6.out HXs.out R6.out A1.out HBk.out r1 o7 f7; have D7 := Lib.hid d7; have A7 := Lib.hid a7; have R7 := Lib.hid r1; have O7 := Lib.hid (show Only O w w7 from O6.out.far o7 (fun j hj e => by have := (R6.out.lt j e).1; omega)); clear r1 r2 r4 o7 f7 d7 a7 v0)
        refine (Look_any Bk b d1 O1 w7 D7.out).mono ?_
        rintro z w8 ⟨⟨a8, c8, rfl, ho8⟩, hb⟩
        have hl8 := look_len D7.out.ok
        obtain ⟨m8, hm8⟩ : ∃ q, (lookD d1).length = q := ⟨_, rfl⟩
        rw [hm8] at ho8 hl8
        try rw [hm8]
        obtain ⟨g8, rfl⟩ := own_some ho8 (.inl (by omega))
        have hc8 := own_cells ho8 _ rfl
        have D8 := Lib.hid (D7.out.keep hb)
        have R8 := Lib.hid (Orow.own_keep R7.out hb)
        have O8 := Lib.hid (show Only O w w8 from O7.out.trans (Only.of_below hb))
        have hs8 := O8.out.size
        clear hb D7 R7 O7
        go_wp2_with (at_builtin; refine wpList_append_own_at _ rfl _ _ 32 rfl w.heap.size 23 i0 (.int .u32 0) 1 4 Tryz.underlying32 Hi.out Hz0.out Hz1.out Hz2.out rfl (by decide) _ _ _ rfl R8.out ⟨g8, 0, none⟩ m8 c8 (lv (lookD d1)) rfl (by simp [lv, hm8]) hc8 (by intro u hu; simp only [lv, List.mem_map] at hu; obtain ⟨q, _, rfl⟩ := hu; rfl) (by unfold maxLen; omega) (by omega) (by omega) ?_; intro v9 w9 r1 r2 _ r4; have o9 := only_pb r2; have f9 := fresh_pb r4; obtain ⟨d9, a9⟩ := grow_off D8.out HXs.out R8.out A7.out HBk.out r1 o9 f9; have D9 := Lib.hid d9; have A9 := Lib.hid a9; have R9 := Lib.hid r1; have O9 := Lib.hid (show Only O w w9 from O8.out.far o9 (fun j hj e => by have := (R8.out.lt j e).1; omega)); clear r1 r2 r4 o9 f9 d9 a9 hc8 ho8)
        have hkl := HK.out
        have ht := take_one l k (by rw [HL1.out]; exact hkl)
        rw [HX.out] at ht
        have hr := runV_snoc d (l.take k) x
        rw [← ht, HDV.out] at hr
        refine ⟨⟨k + 1, n + 2 + m8, O1, ⟨?_, OW1.out, ?_, ?_, by have := HF.out; omega, A9.out, O9.out⟩, by omega, by go_num⟩, by simp [intOf]; omega⟩
        · rw [hr]; exact D9.out
        · have R := R9.out
          rw [hr]
          simp only [wordsV, HLn.out, lv, List.map_append, List.map_cons, List.append_assoc, List.cons_append, List.nil_append] at R ⊢
          exact R
        · rw [hr]; simp only [wordsV, List.length_append, List.length_cons, HLen.out, hm8]; omega)
    · subst hp
      obtain ⟨⟨v1, is1, d1⟩, hr1⟩ : ∃ t, deedP dk 3 x = t := ⟨_, rfl⟩
      have HDV := Lib.hid (show deedV (runV d (l.take k)).2 x = (v1, is1, d1) by rw [HDK.out]; unfold deedV; rw [HP.out]; exact hr1)
      have hr2 : tickD dk = (v1, is1, d1) := hr1
      have hv := tick_bound DD.out.ok
      have C := Lib.hid (Tick_any Bk b dk O' X DD.out)
      rw [hr2] at C hv
      have wy : IntKind.u32.wrap v1 = v1 := IntWalk.u32_in _ (by have := hv; simp only at this; omega)
      clear hr1 hr2 hv
      go_wp2_with fail
      refine C.out.mono ?_
      rintro z W ⟨rfl, O1, k1, k2, k3⟩
      obtain ⟨q1, q2, q3, q4, q5, q6, q7⟩ := KEEP.out W d1 O1 k1 k2 k3
      have y0 := q1.at 0 rfl
      have yf := q1.frozen 0
      have FW := Lib.hid (set_word q1 q3 q4 HXs.out q5 q6 q7 k1 HBg.out HPg.out HWg.out v1)
      have OW1 := Lib.hid q5
      have A1 := Lib.hid q6
      clear k1 k2 k3 q1 q2 q3 q4 q5 q6 q7 C KEEP x0 x1 x2 x3 z0 zf DX VX DD RR ON
      cases is1
      all_goals (
        obtain ⟨ln, hln⟩ : ∃ q, lineD d1 = q := ⟨_, rfl⟩
        have HLn := Lib.hid hln
        have Ln := Lib.hid (fun W O1 (h : Dev Bk W b d1 O1 Xs) => Line_any Bk b d1 O1 W h)
        rw [hln] at Ln
        clear hln
        cases ln)
      all_goals (
        go_wp2_with fail
        refine calls_letter ?_
        intro W1 hW1
        obtain ⟨f1, f2, f3, f4⟩ := FW.out W1 hW1.out
        have D1 := Lib.hid f1
        have R1 := Lib.hid f2
        have V1 := Lib.hid f3
        have ON1 := Lib.hid f4
        clear f1 f2 f3 f4 hW1 FW
        refine (Ln.out _ _ D1.out).mono ?_
        rintro z w6 ⟨rfl, hb⟩
        have D6 := Lib.hid (D1.out.keep hb)
        have R6 := Lib.hid (Orow.own_keep R1.out hb)
        have V6 := Lib.hid (V1.out.keep hb)
        have O6 := Lib.hid (show Only O w w6 from ON1.out.trans (Only.of_below hb))
        have v0 := V6.out.at 0 rfl
        have hw6 := O6.out.size
        have hnb : n ≤ 123120 := by have := HF.out; have := HK.out; omega
        clear hb Ln D1 R1 V1 ON1
        go_wp2_with (at_builtin; (first | (refine wpList_append_own_at _ rfl _ _ 32 rfl w.heap.size 23 i0 (.int .u32 0) 1 4 Tryz.underlying32 Hi.out Hz0.out Hz1.out Hz2.out rfl (by decide) _ _ _ rfl (Orow.own_keep R6.out ((Below.refl _ _).alloc (Nat.le_refl _) _)) ⟨w6.heap.size, 0, none⟩ 2 2 [.int .u32 _, .int .u32 0] rfl rfl (cells_new2 _ _ _ _) (by simp [Value.oneCell']) (by unfold maxLen; omega) (by omega) (by simp; omega) ?_) | (refine wpList_append_own_at _ rfl _ _ 32 rfl w.heap.size 23 i0 (.int .u32 0) 1 4 Tryz.underlying32 Hi.out Hz0.out Hz1.out Hz2.out rfl (by decide) _ _ _ rfl (Orow.own_keep R6.out ((Below.refl _ _).alloc (Nat.le_refl _) _)) ⟨w6.heap.size, 0, none⟩ 2 2 [.int .u32 _, .int .u32 1] rfl rfl (cells_new2 _ _ _ _) (by simp [Value.oneCell']) (by unfold maxLen; omega) (by omega) (by simp; omega) ?_) | (refine wpList_append_own_at _ rfl _ _ 32 rfl w.heap.size 23 i0 (.int .u32 0) 1 4 Tryz.underlying32 Hi.out Hz0.out Hz1.out Hz2.out rfl (by decide) _ _ _ rfl (Orow.own_keep R6.out ((Below.refl _ _).alloc (Nat.le_refl _) _)) ⟨w6.heap.size, 0, none⟩ 2 2 [.int .u32 _, .int .u32 2] rfl rfl (cells_new2 _ _ _ _) (by simp [Value.oneCell']) (by unfold maxLen; omega) (by omega) (by simp; omega) ?_) | (refine wpList_append_own_at _ rfl _ _ 32 rfl w.heap.size 23 i0 (.int .u32 0) 1 4 Tryz.underlying32 Hi.out Hz0.out Hz1.out Hz2.out rfl (by decide) _ _ _ rfl (Orow.own_keep R6.out ((Below.refl _ _).alloc (Nat.le_refl _) _)) ⟨w6.heap.size, 0, none⟩ 2 2 [.int .u32 _, .int .u32 3] rfl rfl (cells_new2 _ _ _ _) (by simp [Value.oneCell']) (by unfold maxLen; omega) (by omega) (by simp; omega) ?_)); intro v' w7 r1 r2 _ r4; have o7 := Bench.app_only r2; have f7 := Bench.app_fresh r4; obtain ⟨d7, a7⟩ := grow_off D6.out HXs.out R6.out A1.out HBk.out r1 o7 f7; have D7 := Lib.hid d7; have A7 := Lib.hid a7; have R7 := Lib.hid r1; have O7 := Lib.hid (show Only O w w7 from O6.out.far o7 (fun j hj e => by have := (R6.out.lt j e).1; omega)); clear r1 r2 r4 o7 f7 d7 a7 v0)
        refine (Look_any Bk b d1 O1 w7 D7.out).mono ?_
        rintro z w8 ⟨⟨a8, c8, rfl, ho8⟩, hb⟩
        have hl8 := look_len D7.out.ok
        obtain ⟨m8, hm8⟩ : ∃ q, (lookD d1).length = q := ⟨_, rfl⟩
        rw [hm8] at ho8 hl8
        try rw [hm8]
        obtain ⟨g8, rfl⟩ := own_some ho8 (.inl (by omega))
        have hc8 := own_cells ho8 _ rfl
        have D8 := Lib.hid (D7.out.keep hb)
        have R8 := Lib.hid (Orow.own_keep R7.out hb)
        have O8 := Lib.hid (show Only O w w8 from O7.out.trans (Only.of_below hb))
        have hs8 := O8.out.size
        clear hb D7 R7 O7
        go_wp2_with (at_builtin; refine wpList_append_own_at _ rfl _ _ 32 rfl w.heap.size 23 i0 (.int .u32 0) 1 4 Tryz.underlying32 Hi.out Hz0.out Hz1.out Hz2.out rfl (by decide) _ _ _ rfl R8.out ⟨g8, 0, none⟩ m8 c8 (lv (lookD d1)) rfl (by simp [lv, hm8]) hc8 (by intro u hu; simp only [lv, List.mem_map] at hu; obtain ⟨q, _, rfl⟩ := hu; rfl) (by unfold maxLen; omega) (by omega) (by omega) ?_; intro v9 w9 r1 r2 _ r4; have o9 := only_pb r2; have f9 := fresh_pb r4; obtain ⟨d9, a9⟩ := grow_off D8.out HXs.out R8.out A7.out HBk.out r1 o9 f9; have D9 := Lib.hid d9; have A9 := Lib.hid a9; have R9 := Lib.hid r1; have O9 := Lib.hid (show Only O w w9 from O8.out.far o9 (fun j hj e => by have := (R8.out.lt j e).1; omega)); clear r1 r2 r4 o9 f9 d9 a9 hc8 ho8)
        have hkl := HK.out
        have ht := take_one l k (by rw [HL1.out]; exact hkl)
        rw [HX.out] at ht
        have hr := runV_snoc d (l.take k) x
        rw [← ht, HDV.out] at hr
        refine ⟨⟨k + 1, n + 2 + m8, O1, ⟨?_, OW1.out, ?_, ?_, by have := HF.out; omega, A9.out, O9.out⟩, by omega, by go_num⟩, by simp [intOf]; omega⟩
        · rw [hr]; exact D9.out
        · have R := R9.out
          rw [hr]
          simp only [wordsV, HLn.out, lv, List.map_append, List.map_cons, List.append_assoc, List.cons_append, List.nil_append] at R ⊢
          exact R
        · rw [hr]; simp only [wordsV, List.length_append, List.length_cons, HLen.out, hm8]; omega)
    · subst hp
      obtain ⟨⟨v1, is1, d1⟩, hr1⟩ : ∃ t, deedP dk 4 x = t := ⟨_, rfl⟩
      have HDV := Lib.hid (show deedV (runV d (l.take k)).2 x = (v1, is1, d1) by rw [HDK.out]; unfold deedV; rw [HP.out]; exact hr1)
      obtain ⟨y, hy⟩ : ∃ y, x.v % 256 = y := ⟨_, rfl⟩
      have hr2 : (0, (inputD dk y).1, (inputD dk y).2) = (v1, is1, d1) := by rw [← hy]; exact hr1
      have C := Lib.hid (Input_any Bk b dk O' y X (by omega) DD.out)
      simp only [Prod.mk.injEq] at hr2
      obtain ⟨hv0, hr3, hr4⟩ := hr2
      rw [hr3, hr4] at C
      have wy : IntKind.u8.wrap x.v = y := hy
      clear hr1 hr3 hr4 hy
      subst hv0
      go_wp2_with fail
      refine C.out.mono ?_
      rintro z W ⟨rfl, O1, k1, k2, k3⟩
      obtain ⟨q1, q2, q3, q4, q5, q6, q7⟩ := KEEP.out W d1 O1 k1 k2 k3
      have FW := Lib.hid (same_word q1 q3 q4 k1)
      have OW1 := Lib.hid q5
      have A1 := Lib.hid q6
      clear k1 k2 k3 q1 q2 q3 q4 q5 q6 q7 C KEEP x0 x1 x2 x3 z0 zf DX VX DD RR ON
      cases is1
      all_goals (
        obtain ⟨ln, hln⟩ : ∃ q, lineD d1 = q := ⟨_, rfl⟩
        have HLn := Lib.hid hln
        have Ln := Lib.hid (fun W O1 (h : Dev Bk W b d1 O1 Xs) => Line_any Bk b d1 O1 W h)
        rw [hln] at Ln
        clear hln
        cases ln)
      all_goals (
        go_wp2_with fail
        refine calls_letter ?_
        intro W1 hW1
        obtain ⟨f1, f2, f3, f4⟩ := FW.out W1 hW1.out
        have D1 := Lib.hid f1
        have R1 := Lib.hid f2
        have V1 := Lib.hid f3
        have ON1 := Lib.hid f4
        clear f1 f2 f3 f4 hW1 FW
        refine (Ln.out _ _ D1.out).mono ?_
        rintro z w6 ⟨rfl, hb⟩
        have D6 := Lib.hid (D1.out.keep hb)
        have R6 := Lib.hid (Orow.own_keep R1.out hb)
        have V6 := Lib.hid (V1.out.keep hb)
        have O6 := Lib.hid (show Only O w w6 from ON1.out.trans (Only.of_below hb))
        have v0 := V6.out.at 0 rfl
        have hw6 := O6.out.size
        have hnb : n ≤ 123120 := by have := HF.out; have := HK.out; omega
        clear hb Ln D1 R1 V1 ON1
        go_wp2_with (at_builtin; (first | (refine wpList_append_own_at _ rfl _ _ 32 rfl w.heap.size 23 i0 (.int .u32 0) 1 4 Tryz.underlying32 Hi.out Hz0.out Hz1.out Hz2.out rfl (by decide) _ _ _ rfl (Orow.own_keep R6.out ((Below.refl _ _).alloc (Nat.le_refl _) _)) ⟨w6.heap.size, 0, none⟩ 2 2 [.int .u32 _, .int .u32 0] rfl rfl (cells_new2 _ _ _ _) (by simp [Value.oneCell']) (by unfold maxLen; omega) (by omega) (by simp; omega) ?_) | (refine wpList_append_own_at _ rfl _ _ 32 rfl w.heap.size 23 i0 (.int .u32 0) 1 4 Tryz.underlying32 Hi.out Hz0.out Hz1.out Hz2.out rfl (by decide) _ _ _ rfl (Orow.own_keep R6.out ((Below.refl _ _).alloc (Nat.le_refl _) _)) ⟨w6.heap.size, 0, none⟩ 2 2 [.int .u32 _, .int .u32 1] rfl rfl (cells_new2 _ _ _ _) (by simp [Value.oneCell']) (by unfold maxLen; omega) (by omega) (by simp; omega) ?_) | (refine wpList_append_own_at _ rfl _ _ 32 rfl w.heap.size 23 i0 (.int .u32 0) 1 4 Tryz.underlying32 Hi.out Hz0.out Hz1.out Hz2.out rfl (by decide) _ _ _ rfl (Orow.own_keep R6.out ((Below.refl _ _).alloc (Nat.le_refl _) _)) ⟨w6.heap.size, 0, none⟩ 2 2 [.int .u32 _, .int .u32 2] rfl rfl (cells_new2 _ _ _ _) (by simp [Value.oneCell']) (by unfold maxLen; omega) (by omega) (by simp; omega) ?_) | (refine wpList_append_own_at _ rfl _ _ 32 rfl w.heap.size 23 i0 (.int .u32 0) 1 4 Tryz.underlying32 Hi.out Hz0.out Hz1.out Hz2.out rfl (by decide) _ _ _ rfl (Orow.own_keep R6.out ((Below.refl _ _).alloc (Nat.le_refl _) _)) ⟨w6.heap.size, 0, none⟩ 2 2 [.int .u32 _, .int .u32 3] rfl rfl (cells_new2 _ _ _ _) (by simp [Value.oneCell']) (by unfold maxLen; omega) (by omega) (by simp; omega) ?_)); intro v' w7 r1 r2 _ r4; have o7 := Bench.app_only r2; have f7 := Bench.app_fresh r4; obtain ⟨d7, a7⟩ := grow_off D6.out HXs.out R6.out A1.out HBk.out r1 o7 f7; have D7 := Lib.hid d7; have A7 := Lib.hid a7; have R7 := Lib.hid r1; have O7 := Lib.hid (show Only O w w7 from O6.out.far o7 (fun j hj e => by have := (R6.out.lt j e).1; omega)); clear r1 r2 r4 o7 f7 d7 a7 v0)
        refine (Look_any Bk b d1 O1 w7 D7.out).mono ?_
        rintro z w8 ⟨⟨a8, c8, rfl, ho8⟩, hb⟩
        have hl8 := look_len D7.out.ok
        obtain ⟨m8, hm8⟩ : ∃ q, (lookD d1).length = q := ⟨_, rfl⟩
        rw [hm8] at ho8 hl8
        try rw [hm8]
        obtain ⟨g8, rfl⟩ := own_some ho8 (.inl (by omega))
        have hc8 := own_cells ho8 _ rfl
        have D8 := Lib.hid (D7.out.keep hb)
        have R8 := Lib.hid (Orow.own_keep R7.out hb)
        have O8 := Lib.hid (show Only O w w8 from O7.out.trans (Only.of_below hb))
        have hs8 := O8.out.size
        clear hb D7 R7 O7
        go_wp2_with (at_builtin; refine wpList_append_own_at _ rfl _ _ 32 rfl w.heap.size 23 i0 (.int .u32 0) 1 4 Tryz.underlying32 Hi.out Hz0.out Hz1.out Hz2.out rfl (by decide) _ _ _ rfl R8.out ⟨g8, 0, none⟩ m8 c8 (lv (lookD d1)) rfl (by simp [lv, hm8]) hc8 (by intro u hu; simp only [lv, List.mem_map] at hu; obtain ⟨q, _, rfl⟩ := hu; rfl) (by unfold maxLen; omega) (by omega) (by omega) ?_; intro v9 w9 r1 r2 _ r4; have o9 := only_pb r2; have f9 := fresh_pb r4; obtain ⟨d9, a9⟩ := grow_off D8.out HXs.out R8.out A7.out HBk.out r1 o9 f9; have D9 := Lib.hid d9; have A9 := Lib.hid a9; have R9 := Lib.hid r1; have O9 := Lib.hid (show Only O w w9 from O8.out.far o9 (fun j hj e => by have := (R8.out.lt j e).1; omega)); clear r1 r2 r4 o9 f9 d9 a9 hc8 ho8)
        have hkl := HK.out
        have ht := take_one l k (by rw [HL1.out]; exact hkl)
        rw [HX.out] at ht
        have hr := runV_snoc d (l.take k) x
        rw [← ht, HDV.out] at hr
        refine ⟨⟨k + 1, n + 2 + m8, O1, ⟨?_, OW1.out, ?_, ?_, by have := HF.out; omega, A9.out, O9.out⟩, by omega, by go_num⟩, by simp [intOf]; omega⟩
        · rw [hr]; exact D9.out
        · have R := R9.out
          rw [hr]
          simp only [wordsV, HLn.out, lv, List.map_append, List.map_cons, List.append_assoc, List.cons_append, List.nil_append] at R ⊢
          exact R
        · rw [hr]; simp only [wordsV, List.length_append, List.length_cons, HLen.out, hm8]; omega)
    · subst hp
      have hmf : ∀ w f r c, (Instr.makeFunc (.func f) r c).run Tryz.prog w = .ok (.func (.func f) r c) w := fun w f r c => rfl
      cases hb : busyD dk
      · have HDV := Lib.hid (show deedV (runV d (l.take k)).2 x = (0, false, dk) by rw [HDK.out]; unfold deedV; rw [HP.out]; show (if busyD dk then _ else _) = _; rw [hb]; rfl)
        obtain ⟨d1, hd1⟩ : ∃ q, dk = q := ⟨_, rfl⟩
        have C := Lib.hid (fun f hf => Step_idle Bk b dk O' x.of f X HO1.out DD.out hf)
        have HB0 := Lib.hid hb
        rw [hd1] at HDV
        have D1' := DD.out
        rw [hd1] at D1'
        have HD1 := Lib.hid D1'
        clear hb D1'
        go_wp2_with fail
        refine (C.out _ (.inr ⟨HB0.out, _, _, _, rfl⟩)).mono ?_
        rintro z W ⟨rfl, hb⟩
        obtain ⟨q1, q2, q3, q4, q5, q6, q7⟩ := KEEP.out W d1 O' (HD1.out.keep hb) (Only.of_below hb) (fun j hj => .inl hj)
        have FW := Lib.hid (same_word q1 q3 q4 (HD1.out.keep hb))
        have OW1 := Lib.hid q5
        have A1 := Lib.hid q6
        obtain ⟨O1, hO1⟩ : ∃ q, O' = q := ⟨_, rfl⟩
        rw [hO1] at FW OW1 A1
        have v1 : Int := 0
        clear hb q1 q2 q3 q4 q5 q6 q7 C KEEP x0 x1 x2 x3 z0 zf DX VX DD RR ON HD1 hd1 hO1
        all_goals (
          obtain ⟨ln, hln⟩ : ∃ q, lineD d1 = q := ⟨_, rfl⟩
          have HLn := Lib.hid hln
          have Ln := Lib.hid (fun W O1 (h : Dev Bk W b d1 O1 Xs) => Line_any Bk b d1 O1 W h)
          rw [hln] at Ln
          clear hln
          cases ln)
        all_goals (
          go_wp2_with fail
          refine calls_letter ?_
          intro W1 hW1
          obtain ⟨f1, f2, f3, f4⟩ := FW.out W1 hW1.out
          have D1 := Lib.hid f1
          have R1 := Lib.hid f2
          have V1 := Lib.hid f3
          have ON1 := Lib.hid f4
          clear f1 f2 f3 f4 hW1 FW
          refine (Ln.out _ _ D1.out).mono ?_
          rintro z w6 ⟨rfl, hb⟩
          have D6 := Lib.hid (D1.out.keep hb)
          have R6 := Lib.hid (Orow.own_keep R1.out hb)
          have V6 := Lib.hid (V1.out.keep hb)
          have O6 := Lib.hid (show Only O w w6 from ON1.out.trans (Only.of_below hb))
          have v0 := V6.out.at 0 rfl
          have hw6 := O6.out.size
          have hnb : n ≤ 123120 := by have := HF.out; have := HK.out; omega
          clear hb Ln D1 R1 V1 ON1
          go_wp2_with (at_builtin; (first | (refine wpList_append_own_at _ rfl _ _ 32 rfl w.heap.size 23 i0 (.int .u32 0) 1 4 Tryz.underlying32 Hi.out Hz0.out Hz1.out Hz2.out rfl (by decide) _ _ _ rfl (Orow.own_keep R6.out ((Below.refl _ _).alloc (Nat.le_refl _) _)) ⟨w6.heap.size, 0, none⟩ 2 2 [.int .u32 _, .int .u32 0] rfl rfl (cells_new2 _ _ _ _) (by simp [Value.oneCell']) (by unfold maxLen; omega) (by omega) (by simp; omega) ?_) | (refine wpList_append_own_at _ rfl _ _ 32 rfl w.heap.size 23 i0 (.int .u32 0) 1 4 Tryz.underlying32 Hi.out Hz0.out Hz1.out Hz2.out rfl (by decide) _ _ _ rfl (Orow.own_keep R6.out ((Below.refl _ _).alloc (Nat.le_refl _) _)) ⟨w6.heap.size, 0, none⟩ 2 2 [.int .u32 _, .int .u32 1] rfl rfl (cells_new2 _ _ _ _) (by simp [Value.oneCell']) (by unfold maxLen; omega) (by omega) (by simp; omega) ?_) | (refine wpList_append_own_at _ rfl _ _ 32 rfl w.heap.size 23 i0 (.int .u32 0) 1 4 Tryz.underlying32 Hi.out Hz0.out Hz1.out Hz2.out rfl (by decide) _ _ _ rfl (Orow.own_keep R6.out ((Below.refl _ _).alloc (Nat.le_refl _) _)) ⟨w6.heap.size, 0, none⟩ 2 2 [.int .u32 _, .int .u32 2] rfl rfl (cells_new2 _ _ _ _) (by simp [Value.oneCell']) (by unfold maxLen; omega) (by omega) (by simp; omega) ?_) | (refine wpList_append_own_at _ rfl _ _ 32 rfl w.heap.size 23 i0 (.int .u32 0) 1 4 Tryz.underlying32 Hi.out Hz0.out Hz1.out Hz2.out rfl (by decide) _ _ _ rfl (Orow.own_keep R6.out ((Below.refl _ _).alloc (Nat.le_refl _) _)) ⟨w6.heap.size, 0, none⟩ 2 2 [.int .u32 _, .int .u32 3] rfl rfl (cells_new2 _ _ _ _) (by simp [Value.oneCell']) (by unfold maxLen; omega) (by omega) (by simp; omega) ?_)); intro v' w7 r1 r2 _ r4; have o7 := Bench.app_only r2; have f7 := Bench.app_fresh r4; obtain ⟨d7, a7⟩ := grow_off D6.out HXs.out R6.out A1.out HBk.out r1 o7 f7; have D7 := Lib.hid d7; have A7 := Lib.hid a7; have R7 := Lib.hid r1; have O7 := Lib.hid (show Only O w w7 from O6.out.far o7 (fun j hj e => by have := (R6.out.lt j e).1; omega)); clear r1 r2 r4 o7 f7 d7 a7 v0)
          refine (Look_any Bk b d1 O1 w7 D7.out).mono ?_
          rintro z w8 ⟨⟨a8, c8, rfl, ho8⟩, hb⟩
          have hl8 := look_len D7.out.ok
          obtain ⟨m8, hm8⟩ : ∃ q, (lookD d1).length = q := ⟨_, rfl⟩
          rw [hm8] at ho8 hl8
          try rw [hm8]
          obtain ⟨g8, rfl⟩ := own_some ho8 (.inl (by omega))
          have hc8 := own_cells ho8 _ rfl
          have D8 := Lib.hid (D7.out.keep hb)
          have R8 := Lib.hid (Orow.own_keep R7.out hb)
          have O8 := Lib.hid (show Only O w w8 from O7.out.trans (Only.of_below hb))
          have hs8 := O8.out.size
          clear hb D7 R7 O7
          go_wp2_with (at_builtin; refine wpList_append_own_at _ rfl _ _ 32 rfl w.heap.size 23 i0 (.int .u32 0) 1 4 Tryz.underlying32 Hi.out Hz0.out Hz1.out Hz2.out rfl (by decide) _ _ _ rfl R8.out ⟨g8, 0, none⟩ m8 c8 (lv (lookD d1)) rfl (by simp [lv, hm8]) hc8 (by intro u hu; simp only [lv, List.mem_map] at hu; obtain ⟨q, _, rfl⟩ := hu; rfl) (by unfold maxLen; omega) (by omega) (by omega) ?_; intro v9 w9 r1 r2 _ r4; have o9 := only_pb r2; have f9 := fresh_pb r4; obtain ⟨d9, a9⟩ := grow_off D8.out HXs.out R8.out A7.out HBk.out r1 o9 f9; have D9 := Lib.hid d9; have A9 := Lib.hid a9; have R9 := Lib.hid r1; have O9 := Lib.hid (show Only O w w9 from O8.out.far o9 (fun j hj e => by have := (R8.out.lt j e).1; omega)); clear r1 r2 r4 o9 f9 d9 a9 hc8 ho8)
          have hkl := HK.out
          have ht := take_one l k (by rw [HL1.out]; exact hkl)
          rw [HX.out] at ht
          have hr := runV_snoc d (l.take k) x
          rw [← ht, HDV.out] at hr
          refine ⟨⟨k + 1, n + 2 + m8, O1, ⟨?_, OW1.out, ?_, ?_, by have := HF.out; omega, A9.out, O9.out⟩, by omega, by go_num⟩, by simp [intOf]; omega⟩
          · rw [hr]; exact D9.out
          · have R := R9.out
            rw [hr]
            simp only [wordsV, HLn.out, lv, List.map_append, List.map_cons, List.append_assoc, List.cons_append, List.nil_append] at R ⊢
            exact R
          · rw [hr]; simp only [wordsV, List.length_append, List.length_cons, HLen.out, hm8]; omega)
      · have HDV := Lib.hid (show deedV (runV d (l.take k)).2 x = (askV dk, true, toldD dk x.v x.er) by rw [HDK.out]; unfold deedV; rw [HP.out]; show (if busyD dk then _ else _) = _; rw [hb]; rfl)
        obtain ⟨d1, hd1⟩ : ∃ q, toldD dk x.v x.er = q := ⟨_, rfl⟩
        obtain ⟨v1, hv1⟩ : ∃ q, askV dk = q := ⟨_, rfl⟩
        have C := Lib.hid (step_run Bk b dk O' x 0 (g + 1) g X HOk.out DD.out VX.out DX.out (by omega) (fun e => by have := HOg.out _ e; omega) (fun e => by have := HOg.out _ e; omega) HBg.out (fun e => by have := HXs.out _ e; have := HWg.out; omega) hb)
        rw [hd1, hv1] at HDV C
        clear hb hd1 hv1
        go_wp2_with fail
        refine C.out.mono ?_
        rintro z W ⟨rfl, ⟨O1, k1, k3⟩, k4, k2⟩
        have FW := Lib.hid (show ∀ W', W' = W → Dev Bk W' b d1 O1 Xs ∧ W'.ownsRow w.heap.size 23 1 u5 n (lv (runV d (l.take k)).1) ∧ Blk W' (g + 1) 23 [.int .u32 v1] ∧ Only O w W' from fun W' e => by
          subst e
          have hXs : g + 2 ≤ X.heap.size := VX.out.lt
          refine ⟨k1, ?_, k4, ?_⟩
          · obtain ⟨av, cv, hv, _⟩ := own_shape RR.out
            have R := RR.out
            have A := A0.out
            have P := HPg.out
            subst hv
            exact own_only R k2 (fun j hj e => by
              have hpj : PB (.slice av n cv) j := by first | exact hj | (unfold BA at hj; unfold PB Value.ownBlock; obtain ⟨q, rfl, rfl⟩ := hj; rfl)
              rcases e with e | e
              · exact A j hpj e
              · have := P j hpj; omega)
          · exact ON.out.far k2 (fun j hj e => by
              rcases e with e | e
              · exact (OW0.out j e).elim id (fun e => by omega)
              · have := HWg.out; omega))
        have OW1 := Lib.hid (show ∀ j, O1 j → O j ∨ w.heap.size ≤ j from fun j hj => (k3 j hj).elim (OW0.out j) (fun e => .inr (by have := HWg.out; have : g + 2 ≤ X.heap.size := VX.out.lt; omega)))
        have A1 := Lib.hid (show ∀ j, PB u5 j → ¬ O1 j from fun j hj e => (k3 j e).elim (A0.out j hj) (fun e => by have := HPg.out j hj; have : g + 2 ≤ X.heap.size := VX.out.lt; omega))
        clear k1 k2 k3 k4 C KEEP x0 x1 x2 x3 z0 zf DX VX DD RR ON
        all_goals (
          obtain ⟨ln, hln⟩ : ∃ q, lineD d1 = q := ⟨_, rfl⟩
          have HLn := Lib.hid hln
          have Ln := Lib.hid (fun W O1 (h : Dev Bk W b d1 O1 Xs) => Line_any Bk b d1 O1 W h)
          rw [hln] at Ln
          clear hln
          cases ln)
        all_goals (
          go_wp2_with fail
          refine calls_letter ?_
          intro W1 hW1
          obtain ⟨f1, f2, f3, f4⟩ := FW.out W1 hW1.out
          have D1 := Lib.hid f1
          have R1 := Lib.hid f2
          have V1 := Lib.hid f3
          have ON1 := Lib.hid f4
          clear f1 f2 f3 f4 hW1 FW
          refine (Ln.out _ _ D1.out).mono ?_
          rintro z w6 ⟨rfl, hb⟩
          have D6 := Lib.hid (D1.out.keep hb)
          have R6 := Lib.hid (Orow.own_keep R1.out hb)
          have V6 := Lib.hid (V1.out.keep hb)
          have O6 := Lib.hid (show Only O w w6 from ON1.out.trans (Only.of_below hb))
          have v0 := V6.out.at 0 rfl
          have hw6 := O6.out.size
          have hnb : n ≤ 123120 := by have := HF.out; have := HK.out; omega
          clear hb Ln D1 R1 V1 ON1
          go_wp2_with (at_builtin; (first | (refine wpList_append_own_at _ rfl _ _ 32 rfl w.heap.size 23 i0 (.int .u32 0) 1 4 Tryz.underlying32 Hi.out Hz0.out Hz1.out Hz2.out rfl (by decide) _ _ _ rfl (Orow.own_keep R6.out ((Below.refl _ _).alloc (Nat.le_refl _) _)) ⟨w6.heap.size, 0, none⟩ 2 2 [.int .u32 _, .int .u32 0] rfl rfl (cells_new2 _ _ _ _) (by simp [Value.oneCell']) (by unfold maxLen; omega) (by omega) (by simp; omega) ?_) | (refine wpList_append_own_at _ rfl _ _ 32 rfl w.heap.size 23 i0 (.int .u32 0) 1 4 Tryz.underlying32 Hi.out Hz0.out Hz1.out Hz2.out rfl (by decide) _ _ _ rfl (Orow.own_keep R6.out ((Below.refl _ _).alloc (Nat.le_refl _) _)) ⟨w6.heap.size, 0, none⟩ 2 2 [.int .u32 _, .int .u32 1] rfl rfl (cells_new2 _ _ _ _) (by simp [Value.oneCell']) (by unfold maxLen; omega) (by omega) (by simp; omega) ?_) | (refine wpList_append_own_at _ rfl _ _ 32 rfl w.heap.size 23 i0 (.int .u32 0) 1 4 Tryz.underlying32 Hi.out Hz0.out Hz1.out Hz2.out rfl (by decide) _ _ _ rfl (Orow.own_keep R6.out ((Below.refl _ _).alloc (Nat.le_refl _) _)) ⟨w6.heap.size, 0, none⟩ 2 2 [.int .u32 _, .int .u32 2] rfl rfl (cells_new2 _ _ _ _) (by simp [Value.oneCell']) (by unfold maxLen; omega) (by omega) (by simp; omega) ?_) | (refine wpList_append_own_at _ rfl _ _ 32 rfl w.heap.size 23 i0 (.int .u32 0) 1 4 Tryz.underlying32 Hi.out Hz0.out Hz1.out Hz2.out rfl (by decide) _ _ _ rfl (Orow.own_keep R6.out ((Below.refl _ _).alloc (Nat.le_refl _) _)) ⟨w6.heap.size, 0, none⟩ 2 2 [.int .u32 _, .int .u32 3] rfl rfl (cells_new2 _ _ _ _) (by simp [Value.oneCell']) (by unfold maxLen; omega) (by omega) (by simp; omega) ?_)); intro v' w7 r1 r2 _ r4; have o7 := Bench.app_only r2; have f7 := Bench.app_fresh r4; obtain ⟨d7, a7⟩ := grow_off D6.out HXs.out R6.out A1.out HBk.out r1 o7 f7; have D7 := Lib.hid d7; have A7 := Lib.hid a7; have R7 := Lib.hid r1; have O7 := Lib.hid (show Only O w w7 from O6.out.far o7 (fun j hj e => by have := (R6.out.lt j e).1; omega)); clear r1 r2 r4 o7 f7 d7 a7 v0)
          refine (Look_any Bk b d1 O1 w7 D7.out).mono ?_
          rintro z w8 ⟨⟨a8, c8, rfl, ho8⟩, hb⟩
          have hl8 := look_len D7.out.ok
          obtain ⟨m8, hm8⟩ : ∃ q, (lookD d1).length = q := ⟨_, rfl⟩
          rw [hm8] at ho8 hl8
          try rw [hm8]
          obtain ⟨g8, rfl⟩ := own_some ho8 (.inl (by omega))
          have hc8 := own_cells ho8 _ rfl
          have D8 := Lib.hid (D7.out.keep hb)
          have R8 := Lib.hid (Orow.own_keep R7.out hb)
          have O8 := Lib.hid (show Only O w w8 from O7.out.trans (Only.of_below hb))
          have hs8 := O8.out.size
          clear hb D7 R7 O7
          go_wp2_with (at_builtin; refine wpList_append_own_at _ rfl _ _ 32 rfl w.heap.size 23 i0 (.int .u32 0) 1 4 Tryz.underlying32 Hi.out Hz0.out Hz1.out Hz2.out rfl (by decide) _ _ _ rfl R8.out ⟨g8, 0, none⟩ m8 c8 (lv (lookD d1)) rfl (by simp [lv, hm8]) hc8 (by intro u hu; simp only [lv, List.mem_map] at hu; obtain ⟨q, _, rfl⟩ := hu; rfl) (by unfold maxLen; omega) (by omega) (by omega) ?_; intro v9 w9 r1 r2 _ r4; have o9 := only_pb r2; have f9 := fresh_pb r4; obtain ⟨d9, a9⟩ := grow_off D8.out HXs.out R8.out A7.out HBk.out r1 o9 f9; have D9 := Lib.hid d9; have A9 := Lib.hid a9; have R9 := Lib.hid r1; have O9 := Lib.hid (show Only O w w9 from O8.out.far o9 (fun j hj e => by have := (R8.out.lt j e).1; omega)); clear r1 r2 r4 o9 f9 d9 a9 hc8 ho8)
          have hkl := HK.out
          have ht := take_one l k (by rw [HL1.out]; exact hkl)
          rw [HX.out] at ht
          have hr := runV_snoc d (l.take k) x
          rw [← ht, HDV.out] at hr
          refine ⟨⟨k + 1, n + 2 + m8, O1, ⟨?_, OW1.out, ?_, ?_, by have := HF.out; omega, A9.out, O9.out⟩, by omega, by go_num⟩, by simp [intOf]; omega⟩
          · rw [hr]; exact D9.out
          · have R := R9.out
            rw [hr]
            simp only [wordsV, HLn.out, lv, List.map_append, List.map_cons, List.append_assoc, List.cons_append, List.nil_append] at R ⊢
            exact R
          · rw [hr]; simp only [wordsV, List.length_append, List.length_cons, HLen.out, hm8]; omega)
    · subst hp
      have hmf : ∀ w f r c, (Instr.makeFunc (.func f) r c).run Tryz.prog w = .ok (.func (.func f) r c) w := fun w f r c => rfl
      cases hb : busyD dk
      · have HDV := Lib.hid (show deedV (runV d (l.take k)).2 x = (0, false, dk) by rw [HDK.out]; unfold deedV; rw [HP.out]; show (if busyD dk then _ else _) = _; rw [hb]; rfl)
        obtain ⟨d1, hd1⟩ : ∃ q, dk = q := ⟨_, rfl⟩
        have C := Lib.hid (fun f hf => Step_idle Bk b dk O' x.of f X HO1.out DD.out hf)
        have HB0 := Lib.hid hb
        rw [hd1] at HDV
        have D1' := DD.out
        rw [hd1] at D1'
        have HD1 := Lib.hid D1'
        clear hb D1'
        go_wp2_with fail
        refine (C.out _ (.inr ⟨HB0.out, _, _, _, rfl⟩)).mono ?_
        rintro z W ⟨rfl, hb⟩
        obtain ⟨q1, q2, q3, q4, q5, q6, q7⟩ := KEEP.out W d1 O' (HD1.out.keep hb) (Only.of_below hb) (fun j hj => .inl hj)
        have FW := Lib.hid (same_word q1 q3 q4 (HD1.out.keep hb))
        have OW1 := Lib.hid q5
        have A1 := Lib.hid q6
        obtain ⟨O1, hO1⟩ : ∃ q, O' = q := ⟨_, rfl⟩
        rw [hO1] at FW OW1 A1
        have v1 : Int := 0
        clear hb q1 q2 q3 q4 q5 q6 q7 C KEEP x0 x1 x2 x3 z0 zf DX VX DD RR ON HD1 hd1 hO1
        all_goals (
          obtain ⟨ln, hln⟩ : ∃ q, lineD d1 = q := ⟨_, rfl⟩
          have HLn := Lib.hid hln
          have Ln := Lib.hid (fun W O1 (h : Dev Bk W b d1 O1 Xs) => Line_any Bk b d1 O1 W h)
          rw [hln] at Ln
          clear hln
          cases ln)
        all_goals (
          go_wp2_with fail
          refine calls_letter ?_
          intro W1 hW1
          obtain ⟨f1, f2, f3, f4⟩ := FW.out W1 hW1.out
          have D1 := Lib.hid f1
          have R1 := Lib.hid f2
          have V1 := Lib.hid f3
          have ON1 := Lib.hid f4
          clear f1 f2 f3 f4 hW1 FW
          refine (Ln.out _ _ D1.out).mono ?_
          rintro z w6 ⟨rfl, hb⟩
          have D6 := Lib.hid (D1.out.keep hb)
          have R6 := Lib.hid (Orow.own_keep R1.out hb)
          have V6 := Lib.hid (V1.out.keep hb)
          have O6 := Lib.hid (show Only O w w6 from ON1.out.trans (Only.of_below hb))
          have v0 := V6.out.at 0 rfl
          have hw6 := O6.out.size
          have hnb : n ≤ 123120 := by have := HF.out; have := HK.out; omega
          clear hb Ln D1 R1 V1 ON1
          go_wp2_with (at_builtin; (first | (refine wpList_append_own_at _ rfl _ _ 32 rfl w.heap.size 23 i0 (.int .u32 0) 1 4 Tryz.underlying32 Hi.out Hz0.out Hz1.out Hz2.out rfl (by decide) _ _ _ rfl (Orow.own_keep R6.out ((Below.refl _ _).alloc (Nat.le_refl _) _)) ⟨w6.heap.size, 0, none⟩ 2 2 [.int .u32 _, .int .u32 0] rfl rfl (cells_new2 _ _ _ _) (by simp [Value.oneCell']) (by unfold maxLen; omega) (by omega) (by simp; omega) ?_) | (refine wpList_append_own_at _ rfl _ _ 32 rfl w.heap.size 23 i0 (.int .u32 0) 1 4 Tryz.underlying32 Hi.out Hz0.out Hz1.out Hz2.out rfl (by decide) _ _ _ rfl (Orow.own_keep R6.out ((Below.refl _ _).alloc (Nat.le_refl _) _)) ⟨w6.heap.size, 0, none⟩ 2 2 [.int .u32 _, .int .u32 1] rfl rfl (cells_new2 _ _ _ _) (by simp [Value.oneCell']) (by unfold maxLen; omega) (by omega) (by simp; omega) ?_) | (refine wpList_append_own_at _ rfl _ _ 32 rfl w.heap.size 23 i0 (.int .u32 0) 1 4 Tryz.underlying32 Hi.out Hz0.out Hz1.out Hz2.out rfl (by decide) _ _ _ rfl (Orow.own_keep R6.out ((Below.refl _ _).alloc (Nat.le_refl _) _)) ⟨w6.heap.size, 0, none⟩ 2 2 [.int .u32 _, .int .u32 2] rfl rfl (cells_new2 _ _ _ _) (by simp [Value.oneCell']) (by unfold maxLen; omega) (by omega) (by simp; omega) ?_) | (refine wpList_append_own_at _ rfl _ _ 32 rfl w.heap.size 23 i0 (.int .u32 0) 1 4 Tryz.underlying32 Hi.out Hz0.out Hz1.out Hz2.out rfl (by decide) _ _ _ rfl (Orow.own_keep R6.out ((Below.refl _ _).alloc (Nat.le_refl _) _)) ⟨w6.heap.size, 0, none⟩ 2 2 [.int .u32 _, .int .u32 3] rfl rfl (cells_new2 _ _ _ _) (by simp [Value.oneCell']) (by unfold maxLen; omega) (by omega) (by simp; omega) ?_)); intro v' w7 r1 r2 _ r4; have o7 := Bench.app_only r2; have f7 := Bench.app_fresh r4; obtain ⟨d7, a7⟩ := grow_off D6.out HXs.out R6.out A1.out HBk.out r1 o7 f7; have D7 := Lib.hid d7; have A7 := Lib.hid a7; have R7 := Lib.hid r1; have O7 := Lib.hid (show Only O w w7 from O6.out.far o7 (fun j hj e => by have := (R6.out.lt j e).1; omega)); clear r1 r2 r4 o7 f7 d7 a7 v0)
          refine (Look_any Bk b d1 O1 w7 D7.out).mono ?_
          rintro z w8 ⟨⟨a8, c8, rfl, ho8⟩, hb⟩
          have hl8 := look_len D7.out.ok
          obtain ⟨m8, hm8⟩ : ∃ q, (lookD d1).length = q := ⟨_, rfl⟩
          rw [hm8] at ho8 hl8
          try rw [hm8]
          obtain ⟨g8, rfl⟩ := own_some ho8 (.inl (by omega))
          have hc8 := own_cells ho8 _ rfl
          have D8 := Lib.hid (D7.out.keep hb)
          have R8 := Lib.hid (Orow.own_keep R7.out hb)
          have O8 := Lib.hid (show Only O w w8 from O7.out.trans (Only.of_below hb))
          have hs8 := O8.out.size
          clear hb D7 R7 O7
          go_wp2_with (at_builtin; refine wpList_append_own_at _ rfl _ _ 32 rfl w.heap.size 23 i0 (.int .u32 0) 1 4 Tryz.underlying32 Hi.out Hz0.out Hz1.out Hz2.out rfl (by decide) _ _ _ rfl R8.out ⟨g8, 0, none⟩ m8 c8 (lv (lookD d1)) rfl (by simp [lv, hm8]) hc8 (by intro u hu; simp only [lv, List.mem_map] at hu; obtain ⟨q, _, rfl⟩ := hu; rfl) (by unfold maxLen; omega) (by omega) (by omega) ?_; intro v9 w9 r1 r2 _ r4; have o9 := only_pb r2; have f9 := fresh_pb r4; obtain ⟨d9, a9⟩ := grow_off D8.out HXs.out R8.out A7.out HBk.out r1 o9 f9; have D9 := Lib.hid d9; have A9 := Lib.hid a9; have R9 := Lib.hid r1; have O9 := Lib.hid (show Only O w w9 from O8.out.far o9 (fun j hj e => by have := (R8.out.lt j e).1; omega)); clear r1 r2 r4 o9 f9 d9 a9 hc8 ho8)
          have hkl := HK.out
          have ht := take_one l k (by rw [HL1.out]; exact hkl)
          rw [HX.out] at ht
          have hr := runV_snoc d (l.take k) x
          rw [← ht, HDV.out] at hr
          refine ⟨⟨k + 1, n + 2 + m8, O1, ⟨?_, OW1.out, ?_, ?_, by have := HF.out; omega, A9.out, O9.out⟩, by omega, by go_num⟩, by simp [intOf]; omega⟩
          · rw [hr]; exact D9.out
          · have R := R9.out
            rw [hr]
            simp only [wordsV, HLn.out, lv, List.map_append, List.map_cons, List.append_assoc, List.cons_append, List.nil_append] at R ⊢
            exact R
          · rw [hr]; simp only [wordsV, List.length_append, List.length_cons, HLen.out, hm8]; omega)
      · have HDV := Lib.hid (show deedV (runV d (l.take k)).2 x = (askV dk, true, toldD dk x.v x.er) by rw [HDK.out]; unfold deedV; rw [HP.out]; show (if busyD dk then _ else _) = _; rw [hb]; rfl)
        obtain ⟨d1, hd1⟩ : ∃ q, toldD dk x.v x.er = q := ⟨_, rfl⟩
        obtain ⟨v1, hv1⟩ : ∃ q, askV dk = q := ⟨_, rfl⟩
        have C := Lib.hid (step_run Bk b dk O' x 0 (g + 1) g X HOk.out DD.out VX.out DX.out (by omega) (fun e => by have := HOg.out _ e; omega) (fun e => by have := HOg.out _ e; omega) HBg.out (fun e => by have := HXs.out _ e; have := HWg.out; omega) hb)
        rw [hd1, hv1] at HDV C
        clear hb hd1 hv1
        go_wp2_with fail
        refine C.out.mono ?_
        rintro z W ⟨rfl, ⟨O1, k1, k3⟩, k4, k2⟩
        have FW := Lib.hid (show ∀ W', W' = W → Dev Bk W' b d1 O1 Xs ∧ W'.ownsRow w.heap.size 23 1 u5 n (lv (runV d (l.take k)).1) ∧ Blk W' (g + 1) 23 [.int .u32 v1] ∧ Only O w W' from fun W' e => by
          subst e
          have hXs : g + 2 ≤ X.heap.size := VX.out.lt
          refine ⟨k1, ?_, k4, ?_⟩
          · obtain ⟨av, cv, hv, _⟩ := own_shape RR.out
            have R := RR.out
            have A := A0.out
            have P := HPg.out
            subst hv
            exact own_only R k2 (fun j hj e => by
              have hpj : PB (.slice av n cv) j := by first | exact hj | (unfold BA at hj; unfold PB Value.ownBlock; obtain ⟨q, rfl, rfl⟩ := hj; rfl)
              rcases e with e | e
              · exact A j hpj e
              · have := P j hpj; omega)
          · exact ON.out.far k2 (fun j hj e => by
              rcases e with e | e
              · exact (OW0.out j e).elim id (fun e => by omega)
              · have := HWg.out; omega))
        have OW1 := Lib.hid (show ∀ j, O1 j → O j ∨ w.heap.size ≤ j from fun j hj => (k3 j hj).elim (OW0.out j) (fun e => .inr (by have := HWg.out; have : g + 2 ≤ X.heap.size := VX.out.lt; omega)))
        have A1 := Lib.hid (show ∀ j, PB u5 j → ¬ O1 j from fun j hj e => (k3 j e).elim (A0.out j hj) (fun e => by have := HPg.out j hj; have : g + 2 ≤ X.heap.size := VX.out.lt; omega))
        clear k1 k2 k3 k4 C KEEP x0 x1 x2 x3 z0 zf DX VX DD RR ON
        all_goals (
          obtain ⟨ln, hln⟩ : ∃ q, lineD d1 = q := ⟨_, rfl⟩
          have HLn := Lib.hid hln
          have Ln := Lib.hid (fun W O1 (h : Dev Bk W b d1 O1 Xs) => Line_any Bk b d1 O1 W h)
          rw [hln] at Ln
          clear hln
          cases ln)
        all_goals (
          go_wp2_with fail
          refine calls_letter ?_
          intro W1 hW1
          obtain ⟨f1, f2, f3, f4⟩ := FW.out W1 hW1.out
          have D1 := Lib.hid f1
          have R1 := Lib.hid f2
          have V1 := Lib.hid f3
          have ON1 := Lib.hid f4
          clear f1 f2 f3 f4 hW1 FW
          refine (Ln.out _ _ D1.out).mono ?_
          rintro z w6 ⟨rfl, hb⟩
          have D6 := Lib.hid (D1.out.keep hb)
          have R6 := Lib.hid (Orow.own_keep R1.out hb)
          have V6 := Lib.hid (V1.out.keep hb)
          have O6 := Lib.hid (show Only O w w6 from ON1.out.trans (Only.of_below hb))
          have v0 := V6.out.at 0 rfl
          have hw6 := O6.out.size
          have hnb : n ≤ 123120 := by have := HF.out; have := HK.out; omega
          clear hb Ln D1 R1 V1 ON1
          go_wp2_with (at_builtin; (first | (refine wpList_append_own_at _ rfl _ _ 32 rfl w.heap.size 23 i0 (.int .u32 0) 1 4 Tryz.underlying32 Hi.out Hz0.out Hz1.out Hz2.out rfl (by decide) _ _ _ rfl (Orow.own_keep R6.out ((Below.refl _ _).alloc (Nat.le_refl _) _)) ⟨w6.heap.size, 0, none⟩ 2 2 [.int .u32 _, .int .u32 0] rfl rfl (cells_new2 _ _ _ _) (by simp [Value.oneCell']) (by unfold maxLen; omega) (by omega) (by simp; omega) ?_) | (refine wpList_append_own_at _ rfl _ _ 32 rfl w.heap.size 23 i0 (.int .u32 0) 1 4 Tryz.underlying32 Hi.out Hz0.out Hz1.out Hz2.out rfl (by decide) _ _ _ rfl (Orow.own_keep R6.out ((Below.refl _ _).alloc (Nat.le_refl _) _)) ⟨w6.heap.size, 0, none⟩ 2 2 [.int .u32 _, .int .u32 1] rfl rfl (cells_new2 _ _ _ _) (by simp [Value.oneCell']) (by unfold maxLen; omega) (by omega) (by simp; omega) ?_) | (refine wpList_append_own_at _ rfl _ _ 32 rfl w.heap.size 23 i0 (.int .u32 0) 1 4 Tryz.underlying32 Hi.out Hz0.out Hz1.out Hz2.out rfl (by decide) _ _ _ rfl (Orow.own_keep R6.out ((Below.refl _ _).alloc (Nat.le_refl _) _)) ⟨w6.heap.size, 0, none⟩ 2 2 [.int .u32 _, .int .u32 2] rfl rfl (cells_new2 _ _ _ _) (by simp [Value.oneCell']) (by unfold maxLen; omega) (by omega) (by simp; omega) ?_) | (refine wpList_append_own_at _ rfl _ _ 32 rfl w.heap.size 23 i0 (.int .u32 0) 1 4 Tryz.underlying32 Hi.out Hz0.out Hz1.out Hz2.out rfl (by decide) _ _ _ rfl (Orow.own_keep R6.out ((Below.refl _ _).alloc (Nat.le_refl _) _)) ⟨w6.heap.size, 0, none⟩ 2 2 [.int .u32 _, .int .u32 3] rfl rfl (cells_new2 _ _ _ _) (by simp [Value.oneCell']) (by unfold maxLen; omega) (by omega) (by simp; omega) ?_)); intro v' w7 r1 r2 _ r4; have o7 := Bench.app_only r2; have f7 := Bench.app_fresh r4; obtain ⟨d7, a7⟩ := grow_off D6.out HXs.out R6.out A1.out HBk.out r1 o7 f7; have D7 := Lib.hid d7; have A7 := Lib.hid a7; have R7 := Lib.hid r1; have O7 := Lib.hid (show Only O w w7 from O6.out.far o7 (fun j hj e => by have := (R6.out.lt j e).1; omega)); clear r1 r2 r4 o7 f7 d7 a7 v0)
          refine (Look_any Bk b d1 O1 w7 D7.out).mono ?_
          rintro z w8 ⟨⟨a8, c8, rfl, ho8⟩, hb⟩
          have hl8 := look_len D7.out.ok
          obtain ⟨m8, hm8⟩ : ∃ q, (lookD d1).length = q := ⟨_, rfl⟩
          rw [hm8] at ho8 hl8
          try rw [hm8]
          obtain ⟨g8, rfl⟩ := own_some ho8 (.inl (by omega))
          have hc8 := own_cells ho8 _ rfl
          have D8 := Lib.hid (D7.out.keep hb)
          have R8 := Lib.hid (Orow.own_keep R7.out hb)
          have O8 := Lib.hid (show Only O w w8 from O7.out.trans (Only.of_below hb))
          have hs8 := O8.out.size
          clear hb D7 R7 O7
          go_wp2_with (at_builtin; refine wpList_append_own_at _ rfl _ _ 32 rfl w.heap.size 23 i0 (.int .u32 0) 1 4 Tryz.underlying32 Hi.out Hz0.out Hz1.out Hz2.out rfl (by decide) _ _ _ rfl R8.out ⟨g8, 0, none⟩ m8 c8 (lv (lookD d1)) rfl (by simp [lv, hm8]) hc8 (by intro u hu; simp only [lv, List.mem_map] at hu; obtain ⟨q, _, rfl⟩ := hu; rfl) (by unfold maxLen; omega) (by omega) (by omega) ?_; intro v9 w9 r1 r2 _ r4; have o9 := only_pb r2; have f9 := fresh_pb r4; obtain ⟨d9, a9⟩ := grow_off D8.out HXs.out R8.out A7.out HBk.out r1 o9 f9; have D9 := Lib.hid d9; have A9 := Lib.hid a9; have R9 := Lib.hid r1; have O9 := Lib.hid (show Only O w w9 from O8.out.far o9 (fun j hj e => by have := (R8.out.lt j e).1; omega)); clear r1 r2 r4 o9 f9 d9 a9 hc8 ho8)
          have hkl := HK.out
          have ht := take_one l k (by rw [HL1.out]; exact hkl)
          rw [HX.out] at ht
          have hr := runV_snoc d (l.take k) x
          rw [← ht, HDV.out] at hr
          refine ⟨⟨k + 1, n + 2 + m8, O1, ⟨?_, OW1.out, ?_, ?_, by have := HF.out; omega, A9.out, O9.out⟩, by omega, by go_num⟩, by simp [intOf]; omega⟩
          · rw [hr]; exact D9.out
          · have R := R9.out
            rw [hr]
            simp only [wordsV, HLn.out, lv, List.map_append, List.map_cons, List.append_assoc, List.cons_append, List.nil_append] at R ⊢
            exact R
          · rw [hr]; simp only [wordsV, List.length_append, List.length_cons, HLen.out, hm8]; omega)
    · obtain ⟨n2, n3, n4, n5, n6⟩ := hp
      obtain ⟨⟨v1, is1, d1⟩, hr1⟩ : ∃ t, deedP dk p x = t := ⟨_, rfl⟩
      have HDV := Lib.hid (show deedV (runV d (l.take k)).2 x = (v1, is1, d1) by rw [HDK.out]; unfold deedV; rw [HP.out]; exact hr1)
      unfold deedP at hr1
      rw [if_neg n2, if_neg n3, if_neg n4, if_neg (by omega)] at hr1
      simp only [Prod.mk.injEq] at hr1
      obtain ⟨hv0, hr3, hr4⟩ := hr1
      have C := Lib.hid (Write_any Bk b dk O' x.of x.sz x.v X HO1.out HS1.out HV1.out DD.out)
      rw [hr3, hr4] at C
      have e2 : ((p : Int) == 2) = false := by simp; omega
      have e3 : ((p : Int) == 3) = false := by simp; omega
      have e4 : ((p : Int) == 4) = false := by simp; omega
      have e5 : ((p : Int) == 5) = false := by simp; omega
      have e6 : ((p : Int) == 6) = false := by simp; omega
      clear hr3 hr4 n2 n3 n4 n5 n6
      subst hv0
      go_wp2_with fail
      refine C.out.mono ?_
      rintro z W ⟨rfl, O1, k1, k2, k3⟩
      obtain ⟨q1, q2, q3, q4, q5, q6, q7⟩ := KEEP.out W d1 O1 k1 k2 k3
      have FW := Lib.hid (same_word q1 q3 q4 k1)
      have OW1 := Lib.hid q5
      have A1 := Lib.hid q6
      clear k1 k2 k3 q1 q2 q3 q4 q5 q6 q7 C KEEP x0 x1 x2 x3 z0 zf DX VX DD RR ON
      cases is1
      all_goals (
        obtain ⟨ln, hln⟩ : ∃ q, lineD d1 = q := ⟨_, rfl⟩
        have HLn := Lib.hid hln
        have Ln := Lib.hid (fun W O1 (h : Dev Bk W b d1 O1 Xs) => Line_any Bk b d1 O1 W h)
        rw [hln] at Ln
        clear hln
        cases ln)
      all_goals (
        go_wp2_with fail
        refine calls_letter ?_
        intro W1 hW1
        obtain ⟨f1, f2, f3, f4⟩ := FW.out W1 hW1.out
        have D1 := Lib.hid f1
        have R1 := Lib.hid f2
        have V1 := Lib.hid f3
        have ON1 := Lib.hid f4
        clear f1 f2 f3 f4 hW1 FW
        refine (Ln.out _ _ D1.out).mono ?_
        rintro z w6 ⟨rfl, hb⟩
        have D6 := Lib.hid (D1.out.keep hb)
        have R6 := Lib.hid (Orow.own_keep R1.out hb)
        have V6 := Lib.hid (V1.out.keep hb)
        have O6 := Lib.hid (show Only O w w6 from ON1.out.trans (Only.of_below hb))
        have v0 := V6.out.at 0 rfl
        have hw6 := O6.out.size
        have hnb : n ≤ 123120 := by have := HF.out; have := HK.out; omega
        clear hb Ln D1 R1 V1 ON1
        go_wp2_with (at_builtin; (first | (refine wpList_append_own_at _ rfl _ _ 32 rfl w.heap.size 23 i0 (.int .u32 0) 1 4 Tryz.underlying32 Hi.out Hz0.out Hz1.out Hz2.out rfl (by decide) _ _ _ rfl (Orow.own_keep R6.out ((Below.refl _ _).alloc (Nat.le_refl _) _)) ⟨w6.heap.size, 0, none⟩ 2 2 [.int .u32 _, .int .u32 0] rfl rfl (cells_new2 _ _ _ _) (by simp [Value.oneCell']) (by unfold maxLen; omega) (by omega) (by simp; omega) ?_) | (refine wpList_append_own_at _ rfl _ _ 32 rfl w.heap.size 23 i0 (.int .u32 0) 1 4 Tryz.underlying32 Hi.out Hz0.out Hz1.out Hz2.out rfl (by decide) _ _ _ rfl (Orow.own_keep R6.out ((Below.refl _ _).alloc (Nat.le_refl _) _)) ⟨w6.heap.size, 0, none⟩ 2 2 [.int .u32 _, .int .u32 1] rfl rfl (cells_new2 _ _ _ _) (by simp [Value.oneCell']) (by unfold maxLen; omega) (by omega) (by simp; omega) ?_) | (refine wpList_append_own_at _ rfl _ _ 32 rfl w.heap.size 23 i0 (.int .u32 0) 1 4 Tryz.underlying32 Hi.out Hz0.out Hz1.out Hz2.out rfl (by decide) _ _ _ rfl (Orow.own_keep R6.out ((Below.refl _ _).alloc (Nat.le_refl _) _)) ⟨w6.heap.size, 0, none⟩ 2 2 [.int .u32 _, .int .u32 2] rfl rfl (cells_new2 _ _ _ _) (by simp [Value.oneCell']) (by unfold maxLen; omega) (by omega) (by simp; omega) ?_) | (refine wpList_append_own_at _ rfl _ _ 32 rfl w.heap.size 23 i0 (.int .u32 0) 1 4 Tryz.underlying32 Hi.out Hz0.out Hz1.out Hz2.out rfl (by decide) _ _ _ rfl (Orow.own_keep R6.out ((Below.refl _ _).alloc (Nat.le_refl _) _)) ⟨w6.heap.size, 0, none⟩ 2 2 [.int .u32 _, .int .u32 3] rfl rfl (cells_new2 _ _ _ _) (by simp [Value.oneCell']) (by unfold maxLen; omega) (by omega) (by simp; omega) ?_)); intro v' w7 r1 r2 _ r4; have o7 := Bench.app_only r2; have f7 := Bench.app_fresh r4; obtain ⟨d7, a7⟩ := grow_off D6.out HXs.out R6.out A1.out HBk.out r1 o7 f7; have D7 := Lib.hid d7; have A7 := Lib.hid a7; have R7 := Lib.hid r1; have O7 := Lib.hid (show Only O w w7 from O6.out.far o7 (fun j hj e => by have := (R6.out.lt j e).1; omega)); clear r1 r2 r4 o7 f7 d7 a7 v0)
        refine (Look_any Bk b d1 O1 w7 D7.out).mono ?_
        rintro z w8 ⟨⟨a8, c8, rfl, ho8⟩, hb⟩
        have hl8 := look_len D7.out.ok
        obtain ⟨m8, hm8⟩ : ∃ q, (lookD d1).length = q := ⟨_, rfl⟩
        rw [hm8] at ho8 hl8
        try rw [hm8]
        obtain ⟨g8, rfl⟩ := own_some ho8 (.inl (by omega))
        have hc8 := own_cells ho8 _ rfl
        have D8 := Lib.hid (D7.out.keep hb)
        have R8 := Lib.hid (Orow.own_keep R7.out hb)
        have O8 := Lib.hid (show Only O w w8 from O7.out.trans (Only.of_below hb))
        have hs8 := O8.out.size
        clear hb D7 R7 O7
        go_wp2_with (at_builtin; refine wpList_append_own_at _ rfl _ _ 32 rfl w.heap.size 23 i0 (.int .u32 0) 1 4 Tryz.underlying32 Hi.out Hz0.out Hz1.out Hz2.out rfl (by decide) _ _ _ rfl R8.out ⟨g8, 0, none⟩ m8 c8 (lv (lookD d1)) rfl (by simp [lv, hm8]) hc8 (by intro u hu; simp only [lv, List.mem_map] at hu; obtain ⟨q, _, rfl⟩ := hu; rfl) (by unfold maxLen; omega) (by omega) (by omega) ?_; intro v9 w9 r1 r2 _ r4; have o9 := only_pb r2; have f9 := fresh_pb r4; obtain ⟨d9, a9⟩ := grow_off D8.out HXs.out R8.out A7.out HBk.out r1 o9 f9; have D9 := Lib.hid d9; have A9 := Lib.hid a9; have R9 := Lib.hid r1; have O9 := Lib.hid (show Only O w w9 from O8.out.far o9 (fun j hj e => by have := (R8.out.lt j e).1; omega)); clear r1 r2 r4 o9 f9 d9 a9 hc8 ho8)
        have hkl := HK.out
        have ht := take_one l k (by rw [HL1.out]; exact hkl)
        rw [HX.out] at ht
        have hr := runV_snoc d (l.take k) x
        rw [← ht, HDV.out] at hr
        refine ⟨⟨k + 1, n + 2 + m8, O1, ⟨?_, OW1.out, ?_, ?_, by have := HF.out; omega, A9.out, O9.out⟩, by omega, by go_num⟩, by simp [intOf]; omega⟩
        · rw [hr]; exact D9.out
        · have R := R9.out
          rw [hr]
          simp only [wordsV, HLn.out, lv, List.map_append, List.map_cons, List.append_assoc, List.cons_append, List.nil_append] at R ⊢
          exact R
        · rw [hr]; simp only [wordsV, List.length_append, List.length_cons, HLen.out, hm8]; omega)
  · obtain rfl : k = len := by omega
    have d1' : decide ((k : Int) < (k : Int)) = false := decide_eq_false (by omega)
    have HS2 := Lib.hid (show RunS Bk w wr b d O Xs u5 n k l O' by
      have := HS.out
      rwa [List.take_of_length_le (by rw [HL1.out]; exact Nat.le_refl _)] at this)
    go_wp2_with fail
    go_ret
    exact ⟨_, n, O', rfl, HS2.out⟩
end Go.Proofs.YtknhgfofmkpnfaaGreat.Devs
