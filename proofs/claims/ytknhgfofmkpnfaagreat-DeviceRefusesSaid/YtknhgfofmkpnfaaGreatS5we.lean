/- Package device: what its larger parts have, as words; two rows held against each other. -/
import Derived.Test.YtknhgfofmkpnfaaGreatS5wd
import Derived.Handy
import Derived.Deep.RegionHeld3
namespace Go.Proofs.YtknhgfofmkpnfaaGreat.Devs
set_option linter.unusedSectionVars false
variable [Inhabited Lane.OTab]
open Go.RowKit Go.Maps Go.ChangeShapes Go.WideShapes Go.ChangeAt Fifo Orow Word
set_option linter.unusedVariables false
set_option linter.unusedSimpArgs false

theorem info32 : (Tryz.prog.info? 23).map (fun i => (i.zero, i.size, i.bytes)) = some (some (.int .u32 0), 1, 4) := by kernel_rfl
set_option maxHeartbeats 2000000 in
theorem counted_b (a : Option Addr) (n c B0 : Nat) (l : List Int) (w : World) (h : w.ownsRow B0 5 1 (.slice a n c) n (bv l)) (hn : n ≤ 1000) (hv : ∀ x ∈ l, 0 ≤ x ∧ x < 256) :
    Calls Tryz.prog 150 #[.slice a n c] w fun z w' => Looked w w' z ((n : Int) :: l) ∧ Below w.heap.size w w' := by
  obtain ⟨i0, hi, hz0, hz1, hz2⟩ := info_parts info32
  have Hi := Lib.hid hi
  have Hz0 := Lib.hid hz0
  have Hz1 := Lib.hid hz1
  have Hz2 := Lib.hid hz2
  have hl : l.length = n := by have := h.1; simpa [bv] using this
  have Hl := Lib.hid hl
  have hw : IntKind.u32.wrap (n : Int) = n := IntWalk.u32_in _ (by omega)
  have H := Lib.hid h
  have Hv := Lib.hid hv
  clear hi hz0 hz1 hz2 h hv hl
  go_enter Tryz.func150, Tryz.ntmps150
  go_wp2_with fail
  go_loopw [3, 12] (fun s i wr => ∃ k : Nat, k ≤ n ∧ i = .int .i64 k ∧ wr.ownsRow w.heap.size 23 1 s (k + 1) (Mbox.lv ((n : Int) :: l.take k)) ∧ Below w.heap.size w wr) (fun _ i _ => n - (intOf i).toNat)
  case atStart => exact ⟨0, Nat.zero_le _, rfl, blk_own (Blk.new w 23 [.int .u32 (n : Nat)]) rfl rfl (Nat.le_refl _) (by unfold maxLen; omega) (Nat.le_refl _), (Below.refl _ _).alloc (Nat.le_refl _) _⟩
  case round =>
  obtain ⟨k, hk, rfl, hown, hb⟩ := hrel
  obtain ⟨a2, c2, rfl, _, _⟩ := own_shape hown
  have HO := Lib.hid hown
  have Hb := Lib.hid hb
  clear hown hb
  by_cases hlt : k < n
  · have d1 : decide ((k : Int) < (n : Int)) = true := decide_eq_true (by omega)
    have i1 : (0 : Int) ≤ (k : Int) := by omega
    have i2 : (k : Int) < (n : Int) := by omega
    obtain ⟨g, rfl⟩ := own_some H.out (.inl (by omega))
    obtain ⟨x, hx⟩ : ∃ x, l[k]? = some x := ⟨l[k]'(by rw [Hl.out]; exact hlt), List.getElem?_eq_getElem _⟩
    have hm := Hv.out x (List.mem_of_getElem? hx)
    have hwx : IntKind.u32.wrap x = x := IntWalk.u32_in _ (by omega)
    have hc : wr.cell? ⟨g, k, none⟩ = some (.int .u8 x) := by
      have := own_cells (own_keep H.out Hb.out) _ rfl k (.int .u8 x) (by simp [bv, hx])
      rwa [Go.WideShapes.add_plain, Nat.zero_add] at this
    have HX := Lib.hid (show l.take (k + 1) = l.take k ++ [x] by rw [List.take_add_one, hx]; rfl)
    have s1 := Hb.out.size
    clear hx hm
    go_wp2_with (with_reducible refine Bench.at_append _ _ _ _ rfl ?_)
    apply Lib.hid
    refine Bench.wpList_append_any _ rfl _ _ 32 rfl w.heap.size 23 i0 (.int .u32 0) 1 4 Tryz.underlying32 Hi.out Hz0.out Hz1.out Hz2.out rfl (by decide) (.slice a2 (k + 1) c2) (k + 1) (Mbox.lv ((n : Int) :: l.take k)) rfl (own_keep HO.out ((Below.refl _ _).alloc (Nat.le_refl _) _)) (some ⟨wr.heap.size, 0, none⟩) 1 1 [.int .u32 x] rfl rfl (fun h => by cases h) (fun ad e => by injection e with e; subst e; exact own_cells (blk_own (sz := 1) (Blk.new wr 23 [.int .u32 x]) rfl rfl (Nat.le_refl 1) (by unfold maxLen; omega) (Nat.zero_le _)) _ rfl) (by simp [Value.oneCell']) (by unfold maxLen; omega) (by omega) (by simp; omega) ?_
    intro v' w5 r1 r2
    have R1 := Lib.hid (show w5.ownsRow w.heap.size 23 1 v' (k + 1 + 1) (Mbox.lv ((n : Int) :: l.take (k + 1))) from by
      rw [HX.out]
      have e : Mbox.lv ((n : Int) :: (l.take k ++ [x])) = Mbox.lv ((n : Int) :: l.take k) ++ [.int .u32 x] := by simp [Mbox.lv]
      rw [e]
      exact r1)
    have B5 := Lib.hid (show Below w.heap.size w w5 from (Hb.out.alloc s1 _).trans ((grown_only r2).below (by simp; omega) (fun j hj => (HO.out.lt j hj).1)))
    clear r1 r2 HO HX
    go_wp2_with fail
    exact ⟨⟨k + 1, by omega, by go_num, R1.out, B5.out⟩, by simp [intOf]; omega⟩
  · obtain rfl : k = n := by omega
    have d1 : decide ((k : Int) < (k : Int)) = false := decide_eq_false (by omega)
    go_wp2_with fail
    go_ret
    have ho := HO.out
    have e : ((k : Int) :: l).length = k + 1 := by rw [List.length_cons, Hl.out]
    rw [show l.take k = l from by rw [← Hl.out, List.take_length]] at ho
    exact ⟨⟨a2, c2, by rw [e]; rfl, by rw [e]; exact ho⟩, Hb.out⟩
set_option maxHeartbeats 2000000 in
theorem counted_l (a : Option Addr) (n c B0 : Nat) (l : List Int) (w : World) (h : w.ownsRow B0 23 1 (.slice a n c) n (Mbox.lv l)) (hn : n ≤ 1000) (hv : ∀ x ∈ l, 0 ≤ x ∧ x < 4294967296) :
    Calls Tryz.prog 234 #[.slice a n c] w fun z w' => Looked w w' z ((n : Int) :: l) ∧ Below w.heap.size w w' := by
  obtain ⟨i0, hi, hz0, hz1, hz2⟩ := info_parts info32
  have Hi := Lib.hid hi
  have Hz0 := Lib.hid hz0
  have Hz1 := Lib.hid hz1
  have Hz2 := Lib.hid hz2
  have hl : l.length = n := by have := h.1; simpa [Mbox.lv] using this
  have Hl := Lib.hid hl
  have hw : IntKind.u32.wrap (n : Int) = n := IntWalk.u32_in _ (by omega)
  have H := Lib.hid h
  have Hv := Lib.hid hv
  clear hi hz0 hz1 hz2 h hv hl
  go_enter Tryz.func234, Tryz.ntmps234
  go_wp2_with fail
  go_loopw [3, 12] (fun s i wr => ∃ k : Nat, k ≤ n ∧ i = .int .i64 k ∧ wr.ownsRow w.heap.size 23 1 s (k + 1) (Mbox.lv ((n : Int) :: l.take k)) ∧ Below w.heap.size w wr) (fun _ i _ => n - (intOf i).toNat)
  case atStart => exact ⟨0, Nat.zero_le _, rfl, blk_own (Blk.new w 23 [.int .u32 (n : Nat)]) rfl rfl (Nat.le_refl _) (by unfold maxLen; omega) (Nat.le_refl _), (Below.refl _ _).alloc (Nat.le_refl _) _⟩
  case round =>
  obtain ⟨k, hk, rfl, hown, hb⟩ := hrel
  obtain ⟨a2, c2, rfl, _, _⟩ := own_shape hown
  have HO := Lib.hid hown
  have Hb := Lib.hid hb
  clear hown hb
  by_cases hlt : k < n
  · have d1 : decide ((k : Int) < (n : Int)) = true := decide_eq_true (by omega)
    have i1 : (0 : Int) ≤ (k : Int) := by omega
    have i2 : (k : Int) < (n : Int) := by omega
    obtain ⟨g, rfl⟩ := own_some H.out (.inl (by omega))
    obtain ⟨x, hx⟩ : ∃ x, l[k]? = some x := ⟨l[k]'(by rw [Hl.out]; exact hlt), List.getElem?_eq_getElem _⟩
    have hm := Hv.out x (List.mem_of_getElem? hx)
    have hwx : IntKind.u32.wrap x = x := IntWalk.u32_in _ (by omega)
    have hc : wr.cell? ⟨g, k, none⟩ = some (.int .u32 x) := by
      have := own_cells (own_keep H.out Hb.out) _ rfl k (.int .u32 x) (by simp [Mbox.lv, hx])
      rwa [Go.WideShapes.add_plain, Nat.zero_add] at this
    have HX := Lib.hid (show l.take (k + 1) = l.take k ++ [x] by rw [List.take_add_one, hx]; rfl)
    have s1 := Hb.out.size
    clear hx hm
    go_wp2_with (with_reducible refine Bench.at_append _ _ _ _ rfl ?_)
    apply Lib.hid
    refine Bench.wpList_append_any _ rfl _ _ 32 rfl w.heap.size 23 i0 (.int .u32 0) 1 4 Tryz.underlying32 Hi.out Hz0.out Hz1.out Hz2.out rfl (by decide) (.slice a2 (k + 1) c2) (k + 1) (Mbox.lv ((n : Int) :: l.take k)) rfl (own_keep HO.out ((Below.refl _ _).alloc (Nat.le_refl _) _)) (some ⟨wr.heap.size, 0, none⟩) 1 1 [.int .u32 x] rfl rfl (fun h => by cases h) (fun ad e => by injection e with e; subst e; exact own_cells (blk_own (sz := 1) (Blk.new wr 23 [.int .u32 x]) rfl rfl (Nat.le_refl 1) (by unfold maxLen; omega) (Nat.zero_le _)) _ rfl) (by simp [Value.oneCell']) (by unfold maxLen; omega) (by omega) (by simp; omega) ?_
    intro v' w5 r1 r2
    have R1 := Lib.hid (show w5.ownsRow w.heap.size 23 1 v' (k + 1 + 1) (Mbox.lv ((n : Int) :: l.take (k + 1))) from by
      rw [HX.out]
      have e : Mbox.lv ((n : Int) :: (l.take k ++ [x])) = Mbox.lv ((n : Int) :: l.take k) ++ [.int .u32 x] := by simp [Mbox.lv]
      rw [e]
      exact r1)
    have B5 := Lib.hid (show Below w.heap.size w w5 from (Hb.out.alloc s1 _).trans ((grown_only r2).below (by simp; omega) (fun j hj => (HO.out.lt j hj).1)))
    clear r1 r2 HO HX
    go_wp2_with fail
    exact ⟨⟨k + 1, by omega, by go_num, R1.out, B5.out⟩, by simp [intOf]; omega⟩
  · obtain rfl : k = n := by omega
    have d1 : decide ((k : Int) < (k : Int)) = false := decide_eq_false (by omega)
    go_wp2_with fail
    go_ret
    have ho := HO.out
    have e : ((k : Int) :: l).length = k + 1 := by rw [List.length_cons, Hl.out]
    rw [show l.take k = l from by rw [← Hl.out, List.take_length]] at ho
    exact ⟨⟨a2, c2, by rw [e]; rfl, by rw [e]; exact ho⟩, Hb.out⟩
theorem bit_any (b : Bool) (v : Int) (w : World) :
    Calls Tryz.prog 155 #[.bool b, .int .u32 v] w fun z w' => z = .returned (.int .u32 (Dma.bitV b v)) ∧ w = w' := by
  cases b
  · go_enter Tryz.func155, Tryz.ntmps155
    go_wp2_with fail
    go_ret
    exact ⟨rfl, rfl⟩
  · go_enter Tryz.func155, Tryz.ntmps155
    go_wp2_with fail
    go_ret
    exact ⟨rfl, rfl⟩
theorem losses_any (c g : Value) (a1 a2 : Bool) (C P : Int) (w : World) (hc : ∃ a n c', c = .slice a n c') (hg : ∃ a n c', g = .slice a n c') :
    Calls Tryz.prog 151 #[.agg #[c, g, .bool a1, .bool a2, .int .u32 C, .int .i64 P]] w fun z w' => z = .returned (.int .u32 (lost3 a1 a2)) ∧ Below w.heap.size w w' := by
  obtain ⟨ca, cn, cc, rfl⟩ := hc
  obtain ⟨ga, gn, gc, rfl⟩ := hg
  go_enter Tryz.func151, Tryz.ntmps151
  go_wp2_with fail
  refine wp_region_ext (by kernel_rfl) (by kernel_rfl) ?_
  intro W hW
  have B : Below w.heap.size w W := by rw [hW.out]; exact (Below.refl _ _).alloc (Nat.le_refl _) _
  have K := Blk.new w 225 [.slice ca cn cc, .slice ga gn gc, .bool a1, .bool a2, .int .u32 C, .int .i64 P]
  rw [← hW.out] at K
  have c2 := ext_cell (K.at 2 rfl)
  have c3 := ext_cell (K.at 3 rfl)
  have HbW := Lib.hid B
  clear K B
  repeat (go_big_quiet_step ((go_at_call 155; exact ext_same (bit_any _ _ _))))
  refine wpQuiet_nil ?_
  intro w' hw'
  obtain ⟨p, rfl⟩ := hw'
  go_wp2_with fail
  go_ret
  exact ⟨by cases a1 <;> cases a2 <;> rfl, HbW.out.trans ((ext_below W p).mono HbW.out.size)⟩
theorem bits_any (e : Dma.En) (w : World) :
    Calls Tryz.prog 290 #[Dma.stE e] w fun z w' => z = .returned (.int .u32 (bits5 e)) ∧ Below w.heap.size w w' := by
  obtain ⟨F, T, L, H, has, busy, den, don, cal⟩ := e
  go_enter Tryz.func290, Tryz.ntmps290
  go_wp2_with fail
  refine wp_region_ext (by kernel_rfl) (by kernel_rfl) ?_
  intro W hW
  have B : Below w.heap.size w W := by rw [hW.out]; exact (Below.refl _ _).alloc (Nat.le_refl _) _
  have K := Blk.new w 137 [.int .u32 F, .int .u32 T, .int .u32 L, .int .u32 H, .bool has, .bool busy, .bool den, .bool don, .bool cal]
  rw [← hW.out] at K
  have c4 := ext_cell (K.at 4 rfl)
  have c5 := ext_cell (K.at 5 rfl)
  have c6 := ext_cell (K.at 6 rfl)
  have c7 := ext_cell (K.at 7 rfl)
  have c8 := ext_cell (K.at 8 rfl)
  have HbW := Lib.hid B
  clear K B
  repeat (go_big_quiet_step ((go_at_call 155; exact ext_same (bit_any _ _ _))))
  refine wpQuiet_nil ?_
  intro w' hw'
  obtain ⟨p, rfl⟩ := hw'
  go_wp2_with fail
  go_ret
  exact ⟨by cases has <;> cases busy <;> cases den <;> cases don <;> cases cal <;> rfl, HbW.out.trans ((ext_below W p).mono HbW.out.size)⟩
theorem code_letter' {P : Program} {c : Code} {Q : Exit → Act → World → Prop} {a : Act} {w : World} (h : ∀ W, Hid (W = w) → Code.wp P c Q a W) : Code.wp P c Q a w := h w (Lib.hid rfl)
theorem oper_append {P : Program} {o : Oper} {a : Act} {w : World} {K : Act → World → Prop} {Q : Exit → Act → World → Prop} (s x : Operand) (t : TypeId)
    (ho : o.op = .call { callee := .builtin .append, args := #[s, x], argTypes := #[t, t] })
    (base : Nat) (e : TypeId) (i : TypeInfo) (z : Value) (size bytes : Nat) (ht : P.underlying t = some (.slice e)) (hi : P.info? e = some i) (hz : i.zero = some z)
    (hsize : i.size = size) (hby : i.bytes = bytes) (hzs : z.cells.size = size) (hsz : 0 < size)
    (v : Value) (n : Nat) (xs : List Value) (hs : a.eval s = v) (hown : w.ownsRow base e size v n xs)
    (ad : Addr) (m c : Nat) (news : List Value) (hx : a.eval x = .slice (some ad) m c) (hl : news.length = m * size) (hnews : ∀ j u, news[j]? = some u → w.cell? (ad.add j) = some u) (h1 : ∀ u ∈ news, u.oneCell' = true)
    (h63 : n + m ≤ maxLen) (hbytes : (n + m) * bytes ≤ 140737488355328) (hbase : base ≤ w.heap.size)
    (h : ∀ v' w', w'.ownsRow base e size v' (n + m) (xs ++ news) → w.grownBy w' v.ownBlock → K (a.put o.dst v') w') : Oper.wp P o a w K Q := by
  obtain ⟨v', w', hr, h2, h3, h4, h5⟩ := run_append_own_at (P := P) w base t o.type e i z size bytes ht hi hz hsize hby hzs hsz v n xs hown ad m c news hl hnews h1 h63 hbytes hbase
  unfold Oper.wp execOp
  simp only [ho, resolve, invoke, builtin, Sem.run_bind, Sem.run_pure, Result.andThen_ok, List.map_toArray, List.map_cons, List.map_nil, hs, hx, hr]
  exact h v' w' h2 h3
theorem lv_app (a b : List Int) : Mbox.lv (a ++ b) = Mbox.lv a ++ Mbox.lv b := by simp [Mbox.lv]
theorem lv_one (l : List Int) : ∀ u ∈ Mbox.lv l, u.oneCell' = true := by intro u hu; simp [Mbox.lv] at hu; obtain ⟨x, _, rfl⟩ := hu; rfl
theorem hid_info : ∃ i0, Hid (Tryz.prog.info? 23 = some i0) ∧ Hid (i0.zero = some (.int .u32 0)) ∧ Hid (i0.size = 1) ∧ Hid (i0.bytes = 4) := by
  obtain ⟨i0, hi, hz0, hz1, hz2⟩ := info_parts info32
  exact ⟨i0, Lib.hid hi, Lib.hid hz0, Lib.hid hz1, Lib.hid hz2⟩
set_option maxRecDepth 100000 in
set_option maxHeartbeats 8000000 in
theorem uar_look (m : Nat) (u : Uart.Un) (Q : Nat → Prop) (w : World) (h : ObjAt w m (.uar u) Q) :
    Calls Tryz.prog 147 #[.agg #[ptr m]] w fun z w' => Looked w w' z (lookD (.uar u)) ∧ Below w.heap.size w w' := by
  obtain ⟨i0, Hi, Hz0, Hz1, Hz2⟩ := hid_info
  have H := Lib.hid h
  have Hok := Lib.hid (show Uart.OkU u from h.ok)
  have L1 := Lib.hid (show u.Came.length ≤ 8 from Hok.out.came.2)
  have L2 := Lib.hid (show u.Goes.length ≤ 8 from Hok.out.goes.2)
  have hp : IntKind.u32.wrap u.P = u.P := IntWalk.u32_in _ (by have := Hok.out.p; omega)
  clear h
  go_enter Tryz.func147, Tryz.ntmps147
  go_wp2_with fail
  refine (Uart.State_any m _ Q _ (H.out.keep ((Below.refl _ _).alloc (Nat.le_refl _) _))).mono ?_
  rintro z w1 ⟨⟨a1, c1, a2, c2, rfl, r1, r2, ap⟩, hb⟩
  have B1 := Lib.hid (((Below.refl w.heap.size w).alloc (Nat.le_refl _) _).trans (hb.mono (by simp)))
  have R1 := Lib.hid r1
  have R2 := Lib.hid r2
  clear hb r1 r2 ap
  go_wp2_with fail
  refine code_letter' ?_
  intro X hX
  have BX := Lib.hid (show Below w.heap.size w X by rw [hX.out]; exact B1.out.alloc B1.out.size _)
  have KX := Lib.hid (show Blk X w1.heap.size 225 [Value.slice a1 u.Came.length c1, .slice a2 u.Goes.length c2, .bool u.LI, .bool u.LO, .int .u32 u.C, .int .i64 u.P] by rw [hX.out]; exact Blk.new w1 _ _)
  have RX1 := Lib.hid (show X.ownsRow _ 5 1 (.slice a1 u.Came.length c1) u.Came.length (bv u.Came) by rw [hX.out]; exact own_keep R1.out ((Below.refl _ _).alloc (Nat.le_refl _) _))
  have RX2 := Lib.hid (show X.ownsRow _ 5 1 (.slice a2 u.Goes.length c2) u.Goes.length (bv u.Goes) by rw [hX.out]; exact own_keep R2.out ((Below.refl _ _).alloc (Nat.le_refl _) _))
  obtain ⟨g, hg⟩ : ∃ g, w1.heap.size = g := ⟨_, rfl⟩
  rw [hg] at KX
  try rw [hg]
  have ld : ∀ k v, [Value.slice a1 u.Came.length c1, .slice a2 u.Goes.length c2, .bool u.LI, .bool u.LO, .int .u32 u.C, .int .i64 u.P][k]? = some v → ∀ w', Below X.heap.size X w' → w'.cell? ⟨g, k, none⟩ = some v := fun k v hv w' hb => (KX.out.keep hb).at k hv
  have l0 := ld 0 _ rfl
  have l1 := ld 1 _ rfl
  clear hX hg ld R1 R2 B1
  refine wp_region_held_drew (S := fun w' => Below X.heap.size X w') (by kernel_rfl) (Below.refl _ _).drew (fun hHeld => ?_)
  refine wpAnyH_take (i := 0) (v := ?_) rfl (by kernel_rfl) (by kernel_rfl) (by kernel_rfl) (fun _ _ _ h => h) (Or.inl ⟨by rfl, ?_⟩) (by assumption) ?_
  rotate_left
  · (intro w hSw; (try dsimp only at hSw); go_simp; try (with_reducible rfl))
  try simp only [Act.put, List.getElem_toArray, List.getElem_cons_succ, List.getElem_cons_zero, List.setIfInBounds_toArray, List.set_cons_succ, List.set_cons_zero]
  refine wpAnyH_take (i := 1) (v := ?_) rfl (by kernel_rfl) (by kernel_rfl) (by kernel_rfl) (fun _ _ _ h => h) (Or.inl ⟨by rfl, ?_⟩) (by assumption) ?_
  rotate_left
  · (intro w hSw; (try dsimp only at hSw); go_simp; try (with_reducible rfl))
  try simp only [Act.put, List.getElem_toArray, List.getElem_cons_succ, List.getElem_cons_zero, List.setIfInBounds_toArray, List.set_cons_succ, List.set_cons_zero]
  refine wpAnyH_take (i := 3) (v := ?_) rfl (by kernel_rfl) (by kernel_rfl) (by kernel_rfl) (fun _ _ _ h => h) (Or.inl ⟨by rfl, ?_⟩) (by assumption) ?_
  rotate_left
  · (intro w hSw; (try dsimp only at hSw); go_simp; try (with_reducible rfl))
  try simp only [Act.put, List.getElem_toArray, List.getElem_cons_succ, List.getElem_cons_zero, List.setIfInBounds_toArray, List.set_cons_succ, List.set_cons_zero]
  refine wpAnyH_take (i := 4) (v := ?_) rfl (by kernel_rfl) (by kernel_rfl) (by kernel_rfl) (fun _ _ _ h => h) (Or.inl ⟨by rfl, ?_⟩) (by assumption) ?_
  rotate_left
  · (intro w hSw; (try dsimp only at hSw); go_simp; try (with_reducible rfl))
  try simp only [Act.put, List.getElem_toArray, List.getElem_cons_succ, List.getElem_cons_zero, List.setIfInBounds_toArray, List.set_cons_succ, List.set_cons_zero]
  refine wpAnyH_ready (rs := [2]) (by kernel_rfl) (by simp) ?_
  refine AllReadyH.cons rfl (fun K hK => ?_) AllReadyH.nil
  go_simp
  refine (counted_b _ _ _ _ u.Came _ (own_keep RX1.out hHeld) (by have := L1.out; omega) Hok.out.came.1).mono ?_
  rintro z w3 ⟨⟨a3, c3, rfl, ho⟩, hb⟩
  have O3 := Lib.hid ho
  have hon : Below X.heap.size X w3 := hHeld.trans (hb.mono hHeld.size)
  have hs3 := hHeld.size
  clear hHeld hb ho
  refine hK.out _ _ hon (fun hHeld => ?_)
  clear hK hon
  try simp only [Act.put, List.getElem_toArray, List.getElem_cons_succ, List.getElem_cons_zero, List.setIfInBounds_toArray, List.set_cons_succ, List.set_cons_zero]
  refine wpAnyH_ready (rs := [5]) (by kernel_rfl) (by simp) ?_
  refine AllReadyH.cons rfl (fun K hK => ?_) AllReadyH.nil
  go_simp
  refine (counted_b _ _ _ _ u.Goes _ (own_keep RX2.out hHeld) (by have := L2.out; omega) Hok.out.goes.1).mono ?_
  rintro z w4 ⟨⟨a4, c4, rfl, ho⟩, hb⟩
  have O4 := Lib.hid ho
  have hon : Below X.heap.size X w4 := hHeld.trans (hb.mono hHeld.size)
  obtain ⟨g4, rfl⟩ := own_some O4.out (.inl (by simp))
  clear hHeld ho
  refine hK.out _ _ hon (fun hHeld => ?_)
  clear hK hon
  try simp only [Act.put, List.getElem_toArray, List.getElem_cons_succ, List.getElem_cons_zero, List.setIfInBounds_toArray, List.set_cons_succ, List.set_cons_zero]
  refine wpAnyH_ready (rs := [6]) (by kernel_rfl) (by simp) ?_
  refine AllReadyH.cons rfl (fun K hK => ?_) AllReadyH.nil
  refine oper_append _ _ 32 rfl X.heap.size 23 i0 (.int .u32 0) 1 4 Tryz.underlying32 Hi.out Hz0.out Hz1.out Hz2.out rfl (by decide) (.slice a3 (((u.Came.length : Nat) : Int) :: u.Came).length c3) _ _ rfl (own_mono (own_keep O3.out hb) hs3) ⟨g4, 0, none⟩ _ c4 (Mbox.lv (((u.Goes.length : Nat) : Int) :: u.Goes)) rfl (by rw [lv_len, Nat.mul_one]) (own_cells O4.out _ rfl) (lv_one _) (by have := L1.out; have := L2.out; simp [maxLen]; omega) (by have := L1.out; have := L2.out; simp; omega) hHeld.size ?_
  intro v5 w5 r1 r2
  have O5 := Lib.hid (show w5.ownsRow X.heap.size 23 1 v5 _ (Mbox.lv (((u.Came.length : Nat) : Int) :: u.Came) ++ Mbox.lv (((u.Goes.length : Nat) : Int) :: u.Goes)) from r1)
  have hon : Below X.heap.size X w5 := hHeld.trans ((Orow.grown_only r2).below hHeld.size (fun j hj => ((own_mono (own_keep O3.out hb) hs3).lt j hj).1))
  clear r1 r2
  clear hHeld
  refine hK.out _ _ hon (fun hHeld => ?_)
  clear hK hon
  try simp only [Act.put, List.getElem_toArray, List.getElem_cons_succ, List.getElem_cons_zero, List.setIfInBounds_toArray, List.set_cons_succ, List.set_cons_zero]
  first
  | (refine wpAnyH_take (i := 7) (v := ?_) rfl (by kernel_rfl) (by kernel_rfl) (by kernel_rfl) (fun _ _ _ h => h) (Or.inl ⟨by rfl, ?_⟩) (by assumption) ?_
     rotate_left
     · (intro w hSw; (try dsimp only at hSw); go_simp; try (with_reducible rfl)))
  | (refine wpAnyH_ready (rs := [7]) (by kernel_rfl) (by simp) ?_
     refine AllReadyH.cons rfl (fun K5 hK5 => ?_) AllReadyH.nil
     go_simp
     refine hK5.out _ _ hHeld (fun hHeld => ?_))
  try simp only [Act.put, List.getElem_toArray, List.getElem_cons_succ, List.getElem_cons_zero, List.setIfInBounds_toArray, List.set_cons_succ, List.set_cons_zero]
  refine wpAnyH_done (by kernel_rfl) ?_ _
  obtain ⟨a5, c5, rfl, _, _⟩ := own_shape O5.out
  have HW := Lib.hid hHeld
  clear O3 O4 hb hs3 l0 l1 hHeld
  go_wp2_with fail
  refine code_letter' ?_
  intro Y hY
  have HY := Lib.hid (show Below X.heap.size X Y by rw [hY.out]; exact HW.out)
  have OY := Lib.hid (show Y.ownsRow X.heap.size 23 1 (.slice a5 ((((u.Came.length : Nat) : Int) :: u.Came).length + (((u.Goes.length : Nat) : Int) :: u.Goes).length) c5) ((((u.Came.length : Nat) : Int) :: u.Came).length + (((u.Goes.length : Nat) : Int) :: u.Goes).length) (Mbox.lv (((u.Came.length : Nat) : Int) :: u.Came) ++ Mbox.lv (((u.Goes.length : Nat) : Int) :: u.Goes)) by rw [hY.out]; exact O5.out)
  have ld : ∀ k v, [Value.slice a1 u.Came.length c1, .slice a2 u.Goes.length c2, .bool u.LI, .bool u.LO, .int .u32 u.C, .int .i64 u.P][k]? = some v → ∀ w', Below X.heap.size X w' → w'.cell? ⟨g, k, none⟩ = some v := fun k v hv w' hb => (KX.out.keep hb).at k hv
  have l0 := ld 0 _ rfl
  have l1 := ld 1 _ rfl
  have l2 := ld 2 _ rfl
  have l3 := ld 3 _ rfl
  have l4 := ld 4 _ rfl
  have l5 := ld 5 _ rfl
  clear hY ld O5 HW
  refine wp_region_held_drew (S := fun w' => Below X.heap.size X w') (by kernel_rfl) HY.out.drew (fun hHeld => ?_)
  refine wpAnyH_take (i := 0) (v := ?_) rfl (by kernel_rfl) (by kernel_rfl) (by kernel_rfl) (fun _ _ _ h => h) (Or.inl ⟨by rfl, ?_⟩) (by assumption) ?_
  rotate_left
  · (intro w hSw; (try dsimp only at hSw); go_simp; try (with_reducible rfl))
  try simp only [Act.put, List.getElem_toArray, List.getElem_cons_succ, List.getElem_cons_zero, List.setIfInBounds_toArray, List.set_cons_succ, List.set_cons_zero]
  refine wpAnyH_take (i := 1) (v := ?_) rfl (by kernel_rfl) (by kernel_rfl) (by kernel_rfl) (fun _ _ _ h => h) (Or.inl ⟨by rfl, ?_⟩) (by assumption) ?_
  rotate_left
  · (intro w hSw; (try dsimp only at hSw); go_simp; try (with_reducible rfl))
  try simp only [Act.put, List.getElem_toArray, List.getElem_cons_succ, List.getElem_cons_zero, List.setIfInBounds_toArray, List.set_cons_succ, List.set_cons_zero]
  refine wpAnyH_take (i := 3) (v := ?_) rfl (by kernel_rfl) (by kernel_rfl) (by kernel_rfl) (fun _ _ _ h => h) (Or.inl ⟨by rfl, ?_⟩) (by assumption) ?_
  rotate_left
  · (intro w hSw; (try dsimp only at hSw); go_simp; try (with_reducible rfl))
  try simp only [Act.put, List.getElem_toArray, List.getElem_cons_succ, List.getElem_cons_zero, List.setIfInBounds_toArray, List.set_cons_succ, List.set_cons_zero]
  refine wpAnyH_take (i := 4) (v := ?_) rfl (by kernel_rfl) (by kernel_rfl) (by kernel_rfl) (fun _ _ _ h => h) (Or.inl ⟨by rfl, ?_⟩) (by assumption) ?_
  rotate_left
  · (intro w hSw; (try dsimp only at hSw); go_simp; try (with_reducible rfl))
  try simp only [Act.put, List.getElem_toArray, List.getElem_cons_succ, List.getElem_cons_zero, List.setIfInBounds_toArray, List.set_cons_succ, List.set_cons_zero]
  refine wpAnyH_take (i := 5) (v := ?_) rfl (by kernel_rfl) (by kernel_rfl) (by kernel_rfl) (fun _ _ _ h => h) (Or.inl ⟨by rfl, ?_⟩) (by assumption) ?_
  rotate_left
  · (intro w hSw; (try dsimp only at hSw); go_simp; try (with_reducible rfl))
  try simp only [Act.put, List.getElem_toArray, List.getElem_cons_succ, List.getElem_cons_zero, List.setIfInBounds_toArray, List.set_cons_succ, List.set_cons_zero]
  refine wpAnyH_take (i := 6) (v := ?_) rfl (by kernel_rfl) (by kernel_rfl) (by kernel_rfl) (fun _ _ _ h => h) (Or.inl ⟨by rfl, ?_⟩) (by assumption) ?_
  rotate_left
  · (intro w hSw; (try dsimp only at hSw); go_simp; try (with_reducible rfl))
  try simp only [Act.put, List.getElem_toArray, List.getElem_cons_succ, List.getElem_cons_zero, List.setIfInBounds_toArray, List.set_cons_succ, List.set_cons_zero]
  refine wpAnyH_take (i := 7) (v := ?_) rfl (by kernel_rfl) (by kernel_rfl) (by kernel_rfl) (fun _ _ _ h => h) (Or.inl ⟨by rfl, ?_⟩) (by assumption) ?_
  rotate_left
  · (intro w hSw; (try dsimp only at hSw); go_simp; try (with_reducible rfl))
  try simp only [Act.put, List.getElem_toArray, List.getElem_cons_succ, List.getElem_cons_zero, List.setIfInBounds_toArray, List.set_cons_succ, List.set_cons_zero]
  refine wpAnyH_ready (rs := [2]) (by kernel_rfl) (by simp) ?_
  refine AllReadyH.cons rfl (fun K hK => ?_) AllReadyH.nil
  go_simp
  refine (losses_any _ _ _ _ _ _ _ ⟨_, _, _, rfl⟩ ⟨_, _, _, rfl⟩).mono ?_
  rintro z w6 ⟨rfl, hb⟩
  have H6 := Lib.hid (show Below Y.heap.size Y w6 from (Below.refl Y.heap.size Y).drew.trans hb)
  have hon : Below X.heap.size X w6 := HY.out.trans (H6.out.mono HY.out.size)
  clear hHeld hb
  refine hK.out _ _ hon (fun hHeld => ?_)
  clear hK hon
  try simp only [Act.put, List.getElem_toArray, List.getElem_cons_succ, List.getElem_cons_zero, List.setIfInBounds_toArray, List.set_cons_succ, List.set_cons_zero]
  refine wpAnyH_ready (rs := [8]) (by kernel_rfl) (by simp) ?_
  refine AllReadyH.cons rfl (fun K hK => ?_) AllReadyH.nil
  go_simp
  refine hK.out _ _ (hHeld.alloc hHeld.size _) (fun hHeld => ?_)
  clear hK
  try simp only [Act.put, List.getElem_toArray, List.getElem_cons_succ, List.getElem_cons_zero, List.setIfInBounds_toArray, List.set_cons_succ, List.set_cons_zero]
  refine wpAnyH_ready (rs := [9]) (by kernel_rfl) (by simp) ?_
  refine AllReadyH.cons rfl (fun K hK => ?_) AllReadyH.nil
  refine oper_append _ _ 32 rfl X.heap.size 23 i0 (.int .u32 0) 1 4 Tryz.underlying32 Hi.out Hz0.out Hz1.out Hz2.out rfl (by decide) (.slice a5 _ c5) _ _ rfl (own_keep OY.out (H6.out.alloc H6.out.size _)) ⟨w6.heap.size, 0, none⟩ 3 3 [.int .u32 (lost3 u.LI u.LO), .int .u32 u.C, .int .u32 u.P] rfl rfl (Orow.cells_new _ _ _) (by simp [Value.oneCell']) (by have := L1.out; have := L2.out; simp [maxLen]; omega) (by have := L1.out; have := L2.out; simp; omega) hHeld.size ?_
  intro v7 w7 r1 r2
  have O7 := Lib.hid (show w7.ownsRow X.heap.size 23 1 v7 _ _ from r1)
  have hon : Below X.heap.size X w7 := hHeld.trans ((Orow.grown_only r2).below hHeld.size (fun j hj => (OY.out.lt j hj).1))
  clear r1 r2 hHeld
  refine hK.out _ _ hon (fun hHeld => ?_)
  clear hK hon
  try simp only [Act.put, List.getElem_toArray, List.getElem_cons_succ, List.getElem_cons_zero, List.setIfInBounds_toArray, List.set_cons_succ, List.set_cons_zero]
  first
  | (refine wpAnyH_take (i := 10) (v := ?_) rfl (by kernel_rfl) (by kernel_rfl) (by kernel_rfl) (fun _ _ _ h => h) (Or.inl ⟨by rfl, ?_⟩) (by assumption) ?_
     rotate_left
     · (intro w hSw; (try dsimp only at hSw); go_simp; try (with_reducible rfl)))
  | (refine wpAnyH_ready (rs := [10]) (by kernel_rfl) (by simp) ?_
     refine AllReadyH.cons rfl (fun K5 hK5 => ?_) AllReadyH.nil
     go_simp
     refine hK5.out _ _ hHeld (fun hHeld => ?_))
  try simp only [Act.put, List.getElem_toArray, List.getElem_cons_succ, List.getElem_cons_zero, List.setIfInBounds_toArray, List.set_cons_succ, List.set_cons_zero]
  refine wpAnyH_done (by kernel_rfl) ?_ _
  have HX7 := Lib.hid hHeld
  clear hHeld l0 l1 l2 l3 l4 l5
  go_wp2_with fail
  obtain ⟨a7, c7, rfl, _, _⟩ := own_shape O7.out
  go_ret
  have e : lookD (.uar u) = (((u.Came.length : Nat) : Int) :: u.Came) ++ (((u.Goes.length : Nat) : Int) :: u.Goes) ++ [lost3 u.LI u.LO, u.C, u.P] := by simp [lookD]
  have el : (lookD (.uar u)).length = (((u.Came.length : Nat) : Int) :: u.Came).length + (((u.Goes.length : Nat) : Int) :: u.Goes).length + 3 := by rw [e, List.length_append, List.length_append]; rfl
  refine ⟨⟨a7, c7, by rw [el]; rfl, ?_⟩, BX.out.trans (HX7.out.mono BX.out.size)⟩
  rw [el, e, lv_app, lv_app]
  exact own_mono O7.out BX.out.size
set_option maxRecDepth 100000 in
set_option maxHeartbeats 8000000 in
theorem box_look (m : Nat) (x : Mbox.Bx) (Q : Nat → Prop) (w : World) (h : ObjAt w m (.box x) Q) :
    Calls Tryz.prog 230 #[.agg #[ptr m]] w fun z w' => Looked w w' z (lookD (.box x)) ∧ Below w.heap.size w w' := by
  obtain ⟨i0, Hi, Hz0, Hz1, Hz2⟩ := hid_info
  have H := Lib.hid h
  have Hok := Lib.hid (show Mbox.OkX x from h.ok)
  have L1 := Lib.hid (show x.W.length ≤ 4 from Hok.out.w.2)
  clear h
  go_enter Tryz.func230, Tryz.ntmps230
  go_wp2_with fail
  refine (Mbox.State_any m _ Q _ (H.out.keep ((Below.refl _ _).alloc (Nat.le_refl _) _))).mono ?_
  rintro z w1 ⟨⟨a1, c1, rfl, r1⟩, hb⟩
  have B1 := Lib.hid (((Below.refl w.heap.size w).alloc (Nat.le_refl _) _).trans (hb.mono (by simp)))
  have R1 := Lib.hid r1
  clear hb r1
  go_wp2_with fail
  refine code_letter' ?_
  intro X hX
  have BX := Lib.hid (show Below w.heap.size w X by rw [hX.out]; exact B1.out.alloc B1.out.size _)
  have KX := Lib.hid (show Blk X w1.heap.size 276 [Value.slice a1 x.W.length c1, .int .u32 x.C, .int .u32 x.L] by rw [hX.out]; exact Blk.new w1 _ _)
  have RX := Lib.hid (show X.ownsRow _ 23 1 (.slice a1 x.W.length c1) x.W.length (Mbox.lv x.W) by rw [hX.out]; exact own_keep R1.out ((Below.refl _ _).alloc (Nat.le_refl _) _))
  obtain ⟨g, hg⟩ : ∃ g, w1.heap.size = g := ⟨_, rfl⟩
  rw [hg] at KX
  try rw [hg]
  have ld : ∀ k v, [Value.slice a1 x.W.length c1, .int .u32 x.C, .int .u32 x.L][k]? = some v → ∀ w', Below X.heap.size X w' → w'.cell? ⟨g, k, none⟩ = some v := fun k v hv w' hb => (KX.out.keep hb).at k hv
  have l0 := ld 0 _ rfl
  have l1 := ld 1 _ rfl
  have l2 := ld 2 _ rfl
  clear hX hg ld R1 B1
  refine wp_region_held_drew (S := fun w' => Below X.heap.size X w') (by kernel_rfl) (Below.refl _ _).drew (fun hHeld => ?_)
  refine wpAnyH_take (i := 0) (v := ?_) rfl (by kernel_rfl) (by kernel_rfl) (by kernel_rfl) (fun _ _ _ h => h) (Or.inl ⟨by rfl, ?_⟩) (by assumption) ?_
  rotate_left
  · (intro w hSw; (try dsimp only at hSw); go_simp; try (with_reducible rfl))
  try simp only [Act.put, List.getElem_toArray, List.getElem_cons_succ, List.getElem_cons_zero, List.setIfInBounds_toArray, List.set_cons_succ, List.set_cons_zero]
  refine wpAnyH_take (i := 1) (v := ?_) rfl (by kernel_rfl) (by kernel_rfl) (by kernel_rfl) (fun _ _ _ h => h) (Or.inl ⟨by rfl, ?_⟩) (by assumption) ?_
  rotate_left
  · (intro w hSw; (try dsimp only at hSw); go_simp; try (with_reducible rfl))
  try simp only [Act.put, List.getElem_toArray, List.getElem_cons_succ, List.getElem_cons_zero, List.setIfInBounds_toArray, List.set_cons_succ, List.set_cons_zero]
  refine wpAnyH_take (i := 3) (v := ?_) rfl (by kernel_rfl) (by kernel_rfl) (by kernel_rfl) (fun _ _ _ h => h) (Or.inl ⟨by rfl, ?_⟩) (by assumption) ?_
  rotate_left
  · (intro w hSw; (try dsimp only at hSw); go_simp; try (with_reducible rfl))
  try simp only [Act.put, List.getElem_toArray, List.getElem_cons_succ, List.getElem_cons_zero, List.setIfInBounds_toArray, List.set_cons_succ, List.set_cons_zero]
  refine wpAnyH_take (i := 4) (v := ?_) rfl (by kernel_rfl) (by kernel_rfl) (by kernel_rfl) (fun _ _ _ h => h) (Or.inl ⟨by rfl, ?_⟩) (by assumption) ?_
  rotate_left
  · (intro w hSw; (try dsimp only at hSw); go_simp; try (with_reducible rfl))
  try simp only [Act.put, List.getElem_toArray, List.getElem_cons_succ, List.getElem_cons_zero, List.setIfInBounds_toArray, List.set_cons_succ, List.set_cons_zero]
  refine wpAnyH_take (i := 5) (v := ?_) rfl (by kernel_rfl) (by kernel_rfl) (by kernel_rfl) (fun _ _ _ h => h) (Or.inl ⟨by rfl, ?_⟩) (by assumption) ?_
  rotate_left
  · (intro w hSw; (try dsimp only at hSw); go_simp; try (with_reducible rfl))
  try simp only [Act.put, List.getElem_toArray, List.getElem_cons_succ, List.getElem_cons_zero, List.setIfInBounds_toArray, List.set_cons_succ, List.set_cons_zero]
  refine wpAnyH_take (i := 6) (v := ?_) rfl (by kernel_rfl) (by kernel_rfl) (by kernel_rfl) (fun _ _ _ h => h) (Or.inl ⟨by rfl, ?_⟩) (by assumption) ?_
  rotate_left
  · (intro w hSw; (try dsimp only at hSw); go_simp; try (with_reducible rfl))
  try simp only [Act.put, List.getElem_toArray, List.getElem_cons_succ, List.getElem_cons_zero, List.setIfInBounds_toArray, List.set_cons_succ, List.set_cons_zero]
  refine wpAnyH_ready (rs := [2, 7]) (by kernel_rfl) (by simp) ?_
  refine AllReadyH.cons rfl (fun K hK => ?_) (AllReadyH.cons rfl (fun K hK => ?_) AllReadyH.nil)
  · go_simp
    refine (counted_l _ _ _ _ x.W _ (own_keep RX.out hHeld) (by have := L1.out; omega) Hok.out.w.1).mono ?_
    rintro z w3 ⟨⟨a3, c3, rfl, ho⟩, hb⟩
    have O3 := Lib.hid ho
    have hon : Below X.heap.size X w3 := hHeld.trans (hb.mono hHeld.size)
    have hs0 : X.heap.size ≤ X.drew.heap.size := hHeld.size
    clear hHeld hb ho
    refine hK.out _ _ hon (fun hHeld => ?_)
    clear hK hon
    try simp only [Act.put, List.getElem_toArray, List.getElem_cons_succ, List.getElem_cons_zero, List.setIfInBounds_toArray, List.set_cons_succ, List.set_cons_zero]
    refine wpAnyH_ready (rs := [7]) (by kernel_rfl) (by simp) ?_
    refine AllReadyH.cons rfl (fun K2 hK2 => ?_) AllReadyH.nil
    go_simp
    refine hK2.out _ _ (hHeld.alloc hHeld.size _) (fun hHeld => ?_)
    clear hK2
    try simp only [Act.put, List.getElem_toArray, List.getElem_cons_succ, List.getElem_cons_zero, List.setIfInBounds_toArray, List.set_cons_succ, List.set_cons_zero]
    refine wpAnyH_ready (rs := [8]) (by kernel_rfl) (by simp) ?_
    refine AllReadyH.cons rfl (fun K3 hK3 => ?_) AllReadyH.nil
    refine oper_append _ _ 32 rfl X.heap.size 23 i0 (.int .u32 0) 1 4 Tryz.underlying32 Hi.out Hz0.out Hz1.out Hz2.out rfl (by decide) (.slice a3 (((x.W.length : Nat) : Int) :: x.W).length c3) _ _ rfl (own_mono (own_keep O3.out ((Below.refl _ _).alloc (Nat.le_refl _) _)) hs0) ⟨w3.heap.size, 0, none⟩ 2 2 [.int .u32 x.C, .int .u32 x.L] rfl rfl (Orow.cells_new _ _ _) (by simp [Value.oneCell']) (by have := L1.out; simp [maxLen]; omega) (by have := L1.out; simp; omega) hHeld.size ?_
    intro v7 w7 r1 r2
    have O7 := Lib.hid (show w7.ownsRow X.heap.size 23 1 v7 _ _ from r1)
    have hon : Below X.heap.size X w7 := hHeld.trans ((Orow.grown_only r2).below hHeld.size (fun j hj => ((own_mono O3.out hs0).lt j hj).1))
    clear r1 r2 hHeld
    refine hK3.out _ _ hon (fun hHeld => ?_)
    clear hK3 hon
    try simp only [Act.put, List.getElem_toArray, List.getElem_cons_succ, List.getElem_cons_zero, List.setIfInBounds_toArray, List.set_cons_succ, List.set_cons_zero]
    first
    | (refine wpAnyH_take (i := 9) (v := ?_) rfl (by kernel_rfl) (by kernel_rfl) (by kernel_rfl) (fun _ _ _ h => h) (Or.inl ⟨by rfl, ?_⟩) (by assumption) ?_
       rotate_left
       · (intro w hSw; (try dsimp only at hSw); go_simp; try (with_reducible rfl)))
    | (refine wpAnyH_ready (rs := [9]) (by kernel_rfl) (by simp) ?_
       refine AllReadyH.cons rfl (fun K5 hK5 => ?_) AllReadyH.nil
       go_simp
       refine hK5.out _ _ hHeld (fun hHeld => ?_))
    try simp only [Act.put, List.getElem_toArray, List.getElem_cons_succ, List.getElem_cons_zero, List.setIfInBounds_toArray, List.set_cons_succ, List.set_cons_zero]
    refine wpAnyH_done (by kernel_rfl) ?_ _
    have HX7 := Lib.hid hHeld
    clear hHeld l0 l1 l2
    go_wp2_with fail
    obtain ⟨a7, c7, rfl, _, _⟩ := own_shape O7.out
    go_ret
    have e : lookD (.box x) = (((x.W.length : Nat) : Int) :: x.W) ++ [x.C, x.L] := by simp [lookD]
    have el : (lookD (.box x)).length = (((x.W.length : Nat) : Int) :: x.W).length + 2 := by rw [e, List.length_append]; rfl
    refine ⟨⟨a7, c7, by rw [el]; rfl, ?_⟩, BX.out.trans (HX7.out.mono BX.out.size)⟩
    rw [el, e, lv_app]
    exact own_mono O7.out BX.out.size
  · go_simp
    refine hK.out _ _ (hHeld.alloc hHeld.size _) (fun hHeld => ?_)
    clear hK
    try simp only [Act.put, List.getElem_toArray, List.getElem_cons_succ, List.getElem_cons_zero, List.setIfInBounds_toArray, List.set_cons_succ, List.set_cons_zero]
    refine wpAnyH_ready (rs := [2]) (by kernel_rfl) (by simp) ?_
    refine AllReadyH.cons rfl (fun K2 hK2 => ?_) AllReadyH.nil
    go_simp
    refine (counted_l _ _ _ _ x.W _ (own_keep RX.out hHeld) (by have := L1.out; omega) Hok.out.w.1).mono ?_
    rintro z w3 ⟨⟨a3, c3, rfl, ho⟩, hb⟩
    have O3 := Lib.hid ho
    have hon : Below X.heap.size X w3 := hHeld.trans (hb.mono hHeld.size)
    have hs0 : X.heap.size ≤ (X.drew.alloc (.cells #[.int .u32 x.C, .int .u32 x.L] 23)).heap.size := hHeld.size
    have KB3 := Lib.hid ((Blk.new X.drew 23 [.int .u32 x.C, .int .u32 x.L]).keep hb)
    clear hHeld hb ho
    refine hK2.out _ _ hon (fun hHeld => ?_)
    clear hK2 hon
    try simp only [Act.put, List.getElem_toArray, List.getElem_cons_succ, List.getElem_cons_zero, List.setIfInBounds_toArray, List.set_cons_succ, List.set_cons_zero]
    refine wpAnyH_ready (rs := [8]) (by kernel_rfl) (by simp) ?_
    refine AllReadyH.cons rfl (fun K3 hK3 => ?_) AllReadyH.nil
    refine oper_append _ _ 32 rfl X.heap.size 23 i0 (.int .u32 0) 1 4 Tryz.underlying32 Hi.out Hz0.out Hz1.out Hz2.out rfl (by decide) (.slice a3 (((x.W.length : Nat) : Int) :: x.W).length c3) _ _ rfl (own_mono (O3.out) hs0) ⟨X.heap.size, 0, none⟩ 2 2 [.int .u32 x.C, .int .u32 x.L] rfl rfl (fun j u hj => by rw [Go.WideShapes.add_plain, Nat.zero_add]; exact KB3.out.at j hj) (by simp [Value.oneCell']) (by have := L1.out; simp [maxLen]; omega) (by have := L1.out; simp; omega) hHeld.size ?_
    intro v7 w7 r1 r2
    have O7 := Lib.hid (show w7.ownsRow X.heap.size 23 1 v7 _ _ from r1)
    have hon : Below X.heap.size X w7 := hHeld.trans ((Orow.grown_only r2).below hHeld.size (fun j hj => ((own_mono O3.out hs0).lt j hj).1))
    clear r1 r2 hHeld
    refine hK3.out _ _ hon (fun hHeld => ?_)
    clear hK3 hon
    try simp only [Act.put, List.getElem_toArray, List.getElem_cons_succ, List.getElem_cons_zero, List.setIfInBounds_toArray, List.set_cons_succ, List.set_cons_zero]
    first
    | (refine wpAnyH_take (i := 9) (v := ?_) rfl (by kernel_rfl) (by kernel_rfl) (by kernel_rfl) (fun _ _ _ h => h) (Or.inl ⟨by rfl, ?_⟩) (by assumption) ?_
       rotate_left
       · (intro w hSw; (try dsimp only at hSw); go_simp; try (with_reducible rfl)))
    | (refine wpAnyH_ready (rs := [9]) (by kernel_rfl) (by simp) ?_
       refine AllReadyH.cons rfl (fun K5 hK5 => ?_) AllReadyH.nil
       go_simp
       refine hK5.out _ _ hHeld (fun hHeld => ?_))
    try simp only [Act.put, List.getElem_toArray, List.getElem_cons_succ, List.getElem_cons_zero, List.setIfInBounds_toArray, List.set_cons_succ, List.set_cons_zero]
    refine wpAnyH_done (by kernel_rfl) ?_ _
    have HX7 := Lib.hid hHeld
    clear hHeld l0 l1 l2
    go_wp2_with fail
    obtain ⟨a7, c7, rfl, _, _⟩ := own_shape O7.out
    go_ret
    have e : lookD (.box x) = (((x.W.length : Nat) : Int) :: x.W) ++ [x.C, x.L] := by simp [lookD]
    have el : (lookD (.box x)).length = (((x.W.length : Nat) : Int) :: x.W).length + 2 := by rw [e, List.length_append]; rfl
    refine ⟨⟨a7, c7, by rw [el]; rfl, ?_⟩, BX.out.trans (HX7.out.mono BX.out.size)⟩
    rw [el, e, lv_app]
    exact own_mono O7.out BX.out.size
set_option maxRecDepth 100000 in
set_option maxHeartbeats 8000000 in
theorem eng_look (m : Nat) (e : Dma.En) (Q : Nat → Prop) (w : World) (h : ObjAt w m (.eng e) Q) :
    Calls Tryz.prog 287 #[.agg #[ptr m]] w fun z w' => Looked w w' z (lookD (.eng e)) ∧ Below w.heap.size w w' := by
  have H := Lib.hid h
  clear h
  go_enter Tryz.func287, Tryz.ntmps287
  go_wp2_with fail
  refine (Dma.State_any m _ Q _ (H.out.keep ((Below.refl _ _).alloc (Nat.le_refl _) _))).mono ?_
  rintro z w1 ⟨rfl, hb⟩
  have B1 := Lib.hid (((Below.refl w.heap.size w).alloc (Nat.le_refl _) _).trans (hb.mono (by simp)))
  clear hb
  go_wp2_with fail
  refine code_letter' ?_
  intro X hX
  have BX := Lib.hid (show Below w.heap.size w X by rw [hX.out]; exact B1.out.alloc B1.out.size _)
  have KX := Lib.hid (show Blk X w1.heap.size 137 [.int .u32 e.F, .int .u32 e.T, .int .u32 e.L, .int .u32 e.H, .bool e.has, .bool e.busy, .bool e.den, .bool e.don, .bool e.cal] by rw [hX.out]; exact Blk.new w1 _ _)
  obtain ⟨g, hg⟩ : ∃ g, w1.heap.size = g := ⟨_, rfl⟩
  rw [hg] at KX
  try rw [hg]
  have ld : ∀ k v, [Value.int .u32 e.F, .int .u32 e.T, .int .u32 e.L, .int .u32 e.H, .bool e.has, .bool e.busy, .bool e.den, .bool e.don, .bool e.cal][k]? = some v → ∀ w', Below X.heap.size X w' → w'.cell? ⟨g, k, none⟩ = some v := fun k v hv w' hb => (KX.out.keep hb).at k hv
  have l0 := ld 0 _ rfl
  have l1 := ld 1 _ rfl
  have l2 := ld 2 _ rfl
  have l3 := ld 3 _ rfl
  have l4 := ld 4 _ rfl
  have l5 := ld 5 _ rfl
  have l6 := ld 6 _ rfl
  have l7 := ld 7 _ rfl
  have l8 := ld 8 _ rfl
  have BT := Lib.hid (bits_any e)
  clear hX hg ld B1
  refine wp_region_held_drew (S := fun w' => Below X.heap.size X w') (by kernel_rfl) (Below.refl _ _).drew (fun hHeld => ?_)
  refine wpAnyH_take (i := 0) (v := ?_) rfl (by kernel_rfl) (by kernel_rfl) (by kernel_rfl) (fun _ _ _ h => h) (Or.inl ⟨by rfl, ?_⟩) (by assumption) ?_
  rotate_left
  · (intro w hSw; (try dsimp only at hSw); go_simp; try (with_reducible rfl))
  try simp only [Act.put, List.getElem_toArray, List.getElem_cons_succ, List.getElem_cons_zero, List.setIfInBounds_toArray, List.set_cons_succ, List.set_cons_zero]
  refine wpAnyH_take (i := 1) (v := ?_) rfl (by kernel_rfl) (by kernel_rfl) (by kernel_rfl) (fun _ _ _ h => h) (Or.inl ⟨by rfl, ?_⟩) (by assumption) ?_
  rotate_left
  · (intro w hSw; (try dsimp only at hSw); go_simp; try (with_reducible rfl))
  try simp only [Act.put, List.getElem_toArray, List.getElem_cons_succ, List.getElem_cons_zero, List.setIfInBounds_toArray, List.set_cons_succ, List.set_cons_zero]
  refine wpAnyH_take (i := 2) (v := ?_) rfl (by kernel_rfl) (by kernel_rfl) (by kernel_rfl) (fun _ _ _ h => h) (Or.inl ⟨by rfl, ?_⟩) (by assumption) ?_
  rotate_left
  · (intro w hSw; (try dsimp only at hSw); go_simp; try (with_reducible rfl))
  try simp only [Act.put, List.getElem_toArray, List.getElem_cons_succ, List.getElem_cons_zero, List.setIfInBounds_toArray, List.set_cons_succ, List.set_cons_zero]
  refine wpAnyH_take (i := 3) (v := ?_) rfl (by kernel_rfl) (by kernel_rfl) (by kernel_rfl) (fun _ _ _ h => h) (Or.inl ⟨by rfl, ?_⟩) (by assumption) ?_
  rotate_left
  · (intro w hSw; (try dsimp only at hSw); go_simp; try (with_reducible rfl))
  try simp only [Act.put, List.getElem_toArray, List.getElem_cons_succ, List.getElem_cons_zero, List.setIfInBounds_toArray, List.set_cons_succ, List.set_cons_zero]
  refine wpAnyH_take (i := 4) (v := ?_) rfl (by kernel_rfl) (by kernel_rfl) (by kernel_rfl) (fun _ _ _ h => h) (Or.inl ⟨by rfl, ?_⟩) (by assumption) ?_
  rotate_left
  · (intro w hSw; (try dsimp only at hSw); go_simp; try (with_reducible rfl))
  try simp only [Act.put, List.getElem_toArray, List.getElem_cons_succ, List.getElem_cons_zero, List.setIfInBounds_toArray, List.set_cons_succ, List.set_cons_zero]
  refine wpAnyH_take (i := 5) (v := ?_) rfl (by kernel_rfl) (by kernel_rfl) (by kernel_rfl) (fun _ _ _ h => h) (Or.inl ⟨by rfl, ?_⟩) (by assumption) ?_
  rotate_left
  · (intro w hSw; (try dsimp only at hSw); go_simp; try (with_reducible rfl))
  try simp only [Act.put, List.getElem_toArray, List.getElem_cons_succ, List.getElem_cons_zero, List.setIfInBounds_toArray, List.set_cons_succ, List.set_cons_zero]
  refine wpAnyH_take (i := 6) (v := ?_) rfl (by kernel_rfl) (by kernel_rfl) (by kernel_rfl) (fun _ _ _ h => h) (Or.inl ⟨by rfl, ?_⟩) (by assumption) ?_
  rotate_left
  · (intro w hSw; (try dsimp only at hSw); go_simp; try (with_reducible rfl))
  try simp only [Act.put, List.getElem_toArray, List.getElem_cons_succ, List.getElem_cons_zero, List.setIfInBounds_toArray, List.set_cons_succ, List.set_cons_zero]
  refine wpAnyH_take (i := 7) (v := ?_) rfl (by kernel_rfl) (by kernel_rfl) (by kernel_rfl) (fun _ _ _ h => h) (Or.inl ⟨by rfl, ?_⟩) (by assumption) ?_
  rotate_left
  · (intro w hSw; (try dsimp only at hSw); go_simp; try (with_reducible rfl))
  try simp only [Act.put, List.getElem_toArray, List.getElem_cons_succ, List.getElem_cons_zero, List.setIfInBounds_toArray, List.set_cons_succ, List.set_cons_zero]
  refine wpAnyH_take (i := 8) (v := ?_) rfl (by kernel_rfl) (by kernel_rfl) (by kernel_rfl) (fun _ _ _ h => h) (Or.inl ⟨by rfl, ?_⟩) (by assumption) ?_
  rotate_left
  · (intro w hSw; (try dsimp only at hSw); go_simp; try (with_reducible rfl))
  try simp only [Act.put, List.getElem_toArray, List.getElem_cons_succ, List.getElem_cons_zero, List.setIfInBounds_toArray, List.set_cons_succ, List.set_cons_zero]
  refine wpAnyH_ready (rs := [9]) (by kernel_rfl) (by simp) ?_
  refine AllReadyH.cons rfl (fun K hK => ?_) AllReadyH.nil
  go_simp
  refine (BT.out _).mono ?_
  rintro z w6 ⟨rfl, hb⟩
  have hon : Below X.heap.size X w6 := hHeld.trans (hb.mono hHeld.size)
  clear hHeld hb
  refine hK.out _ _ hon (fun hHeld => ?_)
  clear hK hon
  try simp only [Act.put, List.getElem_toArray, List.getElem_cons_succ, List.getElem_cons_zero, List.setIfInBounds_toArray, List.set_cons_succ, List.set_cons_zero]
  have H6 := Lib.hid hHeld
  refine wpAnyH_ready (rs := [10]) (by kernel_rfl) (by simp) ?_
  refine AllReadyH.cons rfl (fun K hK => ?_) AllReadyH.nil
  go_simp
  refine hK.out _ _ (hHeld.alloc hHeld.size _) (fun hHeld => ?_)
  clear hK
  try simp only [Act.put, List.getElem_toArray, List.getElem_cons_succ, List.getElem_cons_zero, List.setIfInBounds_toArray, List.set_cons_succ, List.set_cons_zero]
  first
  | (refine wpAnyH_take (i := 11) (v := ?_) rfl (by kernel_rfl) (by kernel_rfl) (by kernel_rfl) (fun _ _ _ h => h) (Or.inl ⟨by rfl, ?_⟩) (by assumption) ?_
     rotate_left
     · (intro w hSw; (try dsimp only at hSw); go_simp; try (with_reducible rfl)))
  | (refine wpAnyH_ready (rs := [11]) (by kernel_rfl) (by simp) ?_
     refine AllReadyH.cons rfl (fun K5 hK5 => ?_) AllReadyH.nil
     go_simp
     refine hK5.out _ _ hHeld (fun hHeld => ?_))
  try simp only [Act.put, List.getElem_toArray, List.getElem_cons_succ, List.getElem_cons_zero, List.setIfInBounds_toArray, List.set_cons_succ, List.set_cons_zero]
  refine wpAnyH_done (by kernel_rfl) ?_ _
  clear hHeld l0 l1 l2 l3 l4 l5 l6 l7 l8
  go_wp2_with fail
  go_ret
  have B6 := BX.out.trans (H6.out.mono BX.out.size)
  exact ⟨looked_new (l := lookD (.eng e)) rfl B6 rfl (by simp [lookD]), B6.alloc B6.size _⟩
theorem equal_none (a a' : Option Addr) (n m c c' : Nat) (w : World) (h : n ≠ m) :
    Calls Tryz.prog 27 #[.slice a n c, .slice a' m c'] w fun z w' => z = .returned (.bool false) ∧ Below w.heap.size w w' := by
  have d1 : ((n : Int) != (m : Int)) = true := by simp; omega
  have d2 : (n != m) = true := by simpa using h
  clear h
  go_enter Tryz.func27, Tryz.ntmps27
  go_wp2_with fail
  go_ret
  exact ⟨rfl, Below.refl _ _⟩
set_option maxHeartbeats 1000000 in
theorem equal_cells (a a' : Option Addr) (n c c' : Nat) (l l' : List Int) (w : World) (hn : n ≤ 1000000) (hl : l.length = n) (hl' : l'.length = n) (h : ∀ k, k < n → ∃ g, a = some ⟨g, 0, none⟩ ∧ w.cell? ⟨g, k, none⟩ = some (.int .u32 (l.getD k 0))) (h' : ∀ k, k < n → ∃ g, a' = some ⟨g, 0, none⟩ ∧ w.cell? ⟨g, k, none⟩ = some (.int .u32 (l'.getD k 0))) :
    Calls Tryz.prog 27 #[.slice a n c, .slice a' n c'] w fun z w' => z = .returned (.bool (decide (l = l'))) ∧ Below w.heap.size w w' := by
  have H := Lib.hid h
  have H' := Lib.hid h'
  have HL := Lib.hid hl
  have HL' := Lib.hid hl'
  have d1 : ((n : Int) != (n : Int)) = false := by simp
  clear h h' hl hl'
  go_enter Tryz.func27, Tryz.ntmps27
  go_wp2_with fail
  go_loopw [13] (fun i wr => ∃ k : Nat, k ≤ n ∧ i = .int .i64 k ∧ (∀ j, j < k → l.getD j 0 = l'.getD j 0) ∧ Below w.heap.size w wr) (fun i _ => n - (intOf i).toNat)
  case atStart => exact ⟨0, Nat.zero_le _, rfl, fun j hj => by omega, Below.refl _ _⟩
  case round =>
  obtain ⟨k, hk, rfl, he, hb⟩ := hrel
  have HE := Lib.hid he
  have Hb := Lib.hid hb
  clear he hb
  by_cases hlt : k < n
  · have d2 : decide ((k : Int) < (n : Int)) = true := decide_eq_true (by omega)
    have i1 : (0 : Int) ≤ (k : Int) := by omega
    have i2 : (k : Int) < (n : Int) := by omega
    obtain ⟨g, rfl, hc⟩ := H.out k hlt
    obtain ⟨g', rfl, hc'⟩ := H'.out k hlt
    have c1 := cell_keep Hb.out hc
    have c2 := cell_keep Hb.out hc'
    obtain ⟨x, hx⟩ : ∃ x, l.getD k 0 = x := ⟨_, rfl⟩
    obtain ⟨y, hy⟩ : ∃ y, l'.getD k 0 = y := ⟨_, rfl⟩
    rw [hx] at c1
    rw [hy] at c2
    have HX := Lib.hid hx
    have HY := Lib.hid hy
    clear hc hc' hx hy
    by_cases e : x = y
    · have d3 : (x != y) = false := by simpa using e
      have HEq := Lib.hid e
      clear e
      go_wp2_with fail
      go_region
      go_wp2_with fail
      refine ⟨⟨k + 1, by omega, by go_num, fun j hj => ?_, Hb.out.drew⟩, by simp [intOf]; omega⟩
      by_cases e : j = k
      · subst e; rw [HX.out, HY.out, HEq.out]
      · exact HE.out j (by omega)
    · have d3 : (x != y) = true := by simpa using e
      have HNe := Lib.hid e
      clear e
      go_wp2_with fail
      go_region
      go_wp2_with fail
      go_ret
      refine ⟨?_, Hb.out.drew⟩
      rw [decide_eq_false (fun q => HNe.out (by rw [← HX.out, ← HY.out, q]))]
      rfl
  · obtain rfl : k = n := by omega
    have d2 : decide ((k : Int) < (k : Int)) = false := decide_eq_false (by omega)
    go_wp2_with fail
    go_ret
    refine ⟨?_, Hb.out⟩
    have e : l = l' := by
      apply List.ext_getElem (by rw [HL.out, HL'.out])
      intro i q1 q2
      have := HE.out i (by rw [← HL.out]; exact q1)
      rwa [List.getD_eq_getElem?_getD, List.getD_eq_getElem?_getD, List.getElem?_eq_getElem q1, List.getElem?_eq_getElem q2] at this
    rw [decide_eq_true e]
    rfl
theorem own_words' {w : World} {B n : Nat} {a : Option Addr} {c : Nat} {l : List Int} (h : w.ownsRow B 23 1 (.slice a n c) n (Mbox.lv l)) : ∀ k, k < n → ∃ g, a = some ⟨g, 0, none⟩ ∧ w.cell? ⟨g, k, none⟩ = some (.int .u32 (l.getD k 0)) := by
  intro k hk
  have hl : l.length = n := by have := h.1; simpa [Mbox.lv] using this
  obtain ⟨g, rfl⟩ := own_some h (.inl (by omega))
  refine ⟨g, rfl, ?_⟩
  have := own_cells h _ rfl k (.int .u32 (l.getD k 0)) (by simp [Mbox.lv, List.getD_eq_getElem?_getD, List.getElem?_eq_getElem (show k < l.length by omega)])
  rwa [Go.WideShapes.add_plain, Nat.zero_add] at this
theorem equal_any {B B' n m : Nat} {a a' : Option Addr} {c c' : Nat} {l l' : List Int} {w : World} (h : w.ownsRow B 23 1 (.slice a n c) n (Mbox.lv l)) (h' : w.ownsRow B' 23 1 (.slice a' m c') m (Mbox.lv l')) (hn : n ≤ 1000000) :
    Calls Tryz.prog 27 #[.slice a n c, .slice a' m c'] w fun z w' => z = .returned (.bool (decide (l = l'))) ∧ Below w.heap.size w w' := by
  have hl : l.length = n := by have := h.1; simpa [Mbox.lv] using this
  have hl' : l'.length = m := by have := h'.1; simpa [Mbox.lv] using this
  by_cases e : n = m
  · subst e
    exact equal_cells a a' n c c' l l' w hn hl hl' (own_words' h) (own_words' h')
  · rw [decide_eq_false (fun q : l = l' => e (by rw [← hl, ← hl', q]))]
    exact equal_none a a' n m c c' w e
theorem ram_len {bs : List Int} : (lookD (.ram bs)).length = bs.length / 4 := by simp [lookD]
/-- The words of a memory, the first k of them looked at. -/
def valsW (bs : List Int) (n k : Nat) : List Int := (List.range n).map (fun j => if j < k then Ram.readV bs ((4 * j : Nat) : Int) 4 else 0)
theorem vals_0 (bs : List Int) (n : Nat) : Mbox.lv (valsW bs n 0) = List.replicate n (.int .u32 0) := by
  apply List.ext_getElem
  · simp [Mbox.lv, valsW]
  · intro i h1 h2
    simp [Mbox.lv, valsW]
theorem vals_n (bs : List Int) : valsW bs (bs.length / 4) (bs.length / 4) = lookD (.ram bs) := by
  unfold valsW
  simp only [lookD]
  apply List.map_congr_left
  intro j hj
  rw [if_pos (List.mem_range.1 hj)]
theorem vals_set (bs : List Int) {n k : Nat} (hk : k < n) : (Mbox.lv (valsW bs n k)).set k (.int .u32 (Ram.readV bs ((4 * k : Nat) : Int) 4)) = Mbox.lv (valsW bs n (k + 1)) := by
  apply List.ext_getElem?
  intro i
  rw [List.getElem?_set]
  by_cases e : k = i
  · subst e
    rw [if_pos rfl, if_pos (by simp [Mbox.lv, valsW]; exact hk)]
    simp [Mbox.lv, valsW, hk]
  · rw [if_neg e]
    by_cases hi : i < n
    · simp only [Mbox.lv, valsW, List.map_map, List.getElem?_map, List.getElem?_range hi, Option.map_some, Function.comp]
      have : (i < k) ↔ (i < k + 1) := by omega
      simp only [this]
    · rw [List.getElem?_eq_none (by simp [Mbox.lv, valsW]; omega), List.getElem?_eq_none (by simp [Mbox.lv, valsW]; omega)]
set_option maxHeartbeats 4000000 in
theorem ram_look (m : Nat) (bs : List Int) (Q : Nat → Prop) (w : World) (h : ObjAt w m (.ram bs) Q) :
    Calls Tryz.prog 187 #[.agg #[ptr m]] w fun z w' => Looked w w' z (lookD (.ram bs)) ∧ Below w.heap.size w w' := by
  obtain ⟨i0, Hi, Hz0, Hz1, Hz2⟩ := hid_info
  have H := Lib.hid h
  have Hok := Lib.hid (show Ram.OkM bs from h.ok)
  obtain ⟨n, hn⟩ : ∃ n, bs.length / 4 = n := ⟨_, rfl⟩
  have hn1 : n ≤ 1024 := by have := Hok.out.hi; omega
  have hn2 : 0 < n := by have := Hok.out.lo; omega
  have hq : wrap64 (((bs.length : Nat) : Int) / 4) = (n : Nat) := by rw [IntWalk.wrap64_in _ (by have := Hok.out.hi; omega)]; omega
  have Hn := Lib.hid hn
  clear h hn
  go_enter Tryz.func187, Tryz.ntmps187
  go_wp2_with fail
  refine (Ram.Len_any m bs Q _ (H.out.keep ((Below.refl _ _).alloc (Nat.le_refl _) _))).mono ?_
  rintro z w1 ⟨rfl, hb⟩
  have K1 := Lib.hid ((Blk.new w 80 [ptr m]).keep hb)
  have B1 := Lib.hid (((Below.refl w.heap.size w).alloc (Nat.le_refl _) _).trans (hb.mono (by simp)))
  have hs1 : w.heap.size < w1.heap.size := by have := hb.size; simp at this; omega
  clear hb
  go_wp2_with (at_make; refine wpList_make_full w1 rfl _ _ 32 rfl w1.heap.size 23 i0 (.int .u32 0) 1 Tryz.underlying32 Hi.out Hz0.out Hz1.out .i64 .i64 n n n (congrArg (Value.int .i64) hq) (congrArg (Value.int .i64) hq) rfl rfl (by rw [Hz2.out]; omega) (by unfold maxLen; omega) (Nat.le_refl _) ?_; intro wm hown hgrow)
  have hbk : Blk wm w1.heap.size 23 (Mbox.lv (valsW bs n 0)) := by
    obtain ⟨cur, u1, u2, u3, _⟩ := own_blk hown
    have e : cur = Mbox.lv (valsW bs n 0) := by
      rw [Nat.mul_one] at u2 u3
      rw [← u3, List.take_length] at u2
      rw [u2, vals_0, u3]
      exact Ram.made_w n
    rw [← e]
    exact u1
  have HK := Lib.hid hbk
  have HB := Lib.hid ((Below.refl w1.heap.size w1).grown hgrow (Nat.le_refl _) (fun k h => by cases h))
  clear hown hgrow hbk
  go_wp2_with fail
  go_loopw [12] (fun i wr => ∃ k : Nat, k ≤ n ∧ i = .int .i64 k ∧ Blk wr w1.heap.size 23 (Mbox.lv (valsW bs n k)) ∧ Below w1.heap.size w1 wr) (fun i _ => n - (intOf i).toNat)
  case atStart => exact ⟨0, Nat.zero_le _, rfl, HK.out, HB.out⟩
  case round =>
  obtain ⟨k, hk, rfl, hbk, hb⟩ := hrel
  have HK2 := Lib.hid hbk
  have Hb := Lib.hid hb
  have c0 := (K1.out.keep hb).at 0 rfl
  have HM := Lib.hid (H.out.keep (B1.out.trans (hb.mono B1.out.size)))
  clear hbk hb
  by_cases hlt : k < n
  · have d1 : decide ((k : Int) < (n : Int)) = true := decide_eq_true (by omega)
    have i1 : (0 : Int) ≤ (k : Int) := by omega
    have i2 : (k : Int) < (n : Int) := by omega
    have w4 : wrap64 ((k : Int) * 4) = ((4 * k : Nat) : Int) := by rw [IntWalk.wrap64_in _ (by omega)]; omega
    have w4' : IntKind.i64.wrap ((k : Int) * 4) = ((4 * k : Nat) : Int) := by rw [IntWalk.i64_in _ (by omega)]; omega
    have e4 : (4 * (k : Int)) = ((4 * k : Nat) : Int) := by omega
    obtain ⟨v, hv⟩ : ∃ v, Ram.readV bs ((4 * k : Nat) : Int) 4 = v := ⟨_, rfl⟩
    obtain ⟨is, hi⟩ : ∃ v, Ram.placeB bs.length (4 * (k : Int)) 4 = v := ⟨_, rfl⟩
    have RD := Lib.hid (fun w h => Ram.Read_any m bs Q (4 * (k : Int)) 4 v is w ⟨by omega, by omega⟩ ⟨by decide, by decide⟩ h (by rw [e4]; exact hv) hi)
    have HV := Lib.hid hv
    clear hv hi e4
    go_wp2_with fail
    refine (RD.out _ HM.out).mono ?_
    rintro z w3 ⟨rfl, hb⟩
    have HK3 := Lib.hid (HK2.out.keep hb)
    have Hb3 := Lib.hid (Hb.out.trans (hb.mono Hb.out.size))
    have cc : ∃ y, w3.cell? ⟨w1.heap.size, k, none⟩ = some y := ⟨_, HK3.out.at k (List.getElem?_eq_getElem (by simp [Mbox.lv, valsW]; exact hlt))⟩
    obtain ⟨y, cy⟩ := cc
    have fz := HK3.out.frozen k
    clear hb w4 w4'
    go_wp2_with fail
    refine ⟨⟨k + 1, by omega, by go_num, ?_, Hb3.out.setCell (Nat.le_refl _) _⟩, by simp [intOf]; omega⟩
    rw [← vals_set bs hlt, HV.out]
    exact HK3.out.set k _
  · obtain rfl : k = n := by omega
    have d1 : decide ((k : Int) < (k : Int)) = false := decide_eq_false (by omega)
    go_wp2_with fail
    go_ret
    have e : valsW bs k k = lookD (.ram bs) := by rw [← Hn.out]; exact vals_n bs
    have hk := HK2.out
    rw [e] at hk
    have el : (lookD (.ram bs)).length = k := by rw [ram_len]; exact Hn.out
    refine ⟨⟨_, _, by rw [el]; rfl, ?_⟩, B1.out.trans (Hb.out.mono B1.out.size)⟩
    rw [el]
    exact blk_own hk (by rw [Nat.mul_one, ← el, ← lv_len, List.take_length]) (by rw [lv_len, el, Nat.mul_one]) (Nat.le_refl _) (by unfold maxLen; omega) B1.out.size
end Go.Proofs.YtknhgfofmkpnfaaGreat.Devs
