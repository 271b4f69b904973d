/- Package mailbox: is, all, laid, New, what a register does, apart. -/
import Derived.Test.YtkcghcoacjpbkaaJv
import Derived.RangeFuncNested
import Derived.OwnWalk
import Derived.Laws.OwnMore
import Derived.Maps.OwnIn
import Derived.Deep.RegionHeld3
import Derived.Deep.RegionWith
namespace Go.Proofs.Ytkcghcoacjpbkaa.Mbox
open Go.RowKit Go.Maps Go.ChangeShapes Go.WideShapes Go.ChangeAt Fifo Orow Word
set_option linter.unusedVariables false
attribute [local go_sem] Oper.semAt_some

theorem box_info : (Try.prog.info? 46).isSome = true := by kernel_rfl
theorem eq_own (a : Addr) (w : World) : (binOp .eql 24 (.pointer (some a)) (.pointer (some a))).run Try.prog w = .ok (.bool true) w := by
  obtain ⟨j, hj⟩ := Option.isSome_iff_exists.1 box_info
  exact run_eql_ptr_same w a Try.underlying24 hj
theorem eq_nil (a : Addr) (w : World) : (binOp .eql 24 (.pointer none) (.pointer (some a))).run Try.prog w = .ok (.bool false) w := by
  have h : ∀ d : Nat, (Op.equalIn (d + 1) 24 (.pointer none) (.pointer (some a))).run Try.prog w = .ok false w := fun d => by
    simp [Op.equalIn, run_underlying Try.underlying24]
  simp only [binOp]
  simp [Op.equal, Op.maxDepth, h 9999]
theorem is_yes (b : Nat) (w : World) (h : w.cell? ⟨b, 3, none⟩ = some (me b)) :
    Calls Try.prog 25 #[me b] w fun e w' => e = .returned (.bool true) ∧ w = w' := by
  have he := eq_own ⟨b, 0, none⟩ w
  go_enter Try.func25, Try.ntmps25
  go_wp2_with fail
  go_ret
  exact ⟨rfl, rfl⟩
/-- No mailbox: none at all, or one that was not answered. -/
def zeroCells : Array Value := (cellsX zeroX (.pointer none) [.pointer none]).toArray
def ZeroAt (w : World) (b : Nat) : Prop := Blk w b 46 (cellsX zeroX (.pointer none) [.pointer none])
theorem zero_new (w : World) : ZeroAt (w.alloc (.cells zeroCells 46)) w.heap.size := Blk.new w _ _
theorem ZeroAt.keep {w w' : World} {b : Nat} (h : ZeroAt w b) (hb : Below w.heap.size w w') : ZeroAt w' b := Blk.keep h hb
def Non (w : World) (v : Value) : Prop := v = .pointer none ∨ ∃ b, v = .pointer (some ⟨b, 0, none⟩) ∧ ZeroAt w b
theorem Non.keep {w w' : World} {v : Value} (h : Non w v) (hb : Below w.heap.size w w') : Non w' v := by
  rcases h with rfl | ⟨b, rfl, h⟩
  · exact .inl rfl
  · exact .inr ⟨b, rfl, h.keep hb⟩
theorem is_non (v : Value) (w : World) (h : Non w v) :
    Calls Try.prog 25 #[v] w fun e w' => e = .returned (.bool false) ∧ w = w' := by
  rcases h with rfl | ⟨b, rfl, h⟩
  · go_enter Try.func25, Try.ntmps25
    go_wp2_with fail
    go_ret
    exact ⟨rfl, rfl⟩
  · have c1 : w.cell? ⟨b, 3, none⟩ = some (.pointer none) := Blk.at h 3 rfl
    have he := eq_nil ⟨b, 0, none⟩ w
    clear h
    go_enter Try.func25, Try.ntmps25
    go_wp2_with fail
    go_ret
    exact ⟨rfl, rfl⟩
theorem all_yes (b : Nat) (w : World) (h : w.cell? ⟨b, 3, none⟩ = some (me b)) :
    Calls Try.prog 22 #[me b] w fun e w' => e = .returned (me b) ∧ w = w' := by
  have H := Lib.hid (is_yes b w h)
  clear h
  go_enter Try.func22, Try.ntmps22
  go_wp2_with fail
  refine H.out.mono ?_
  rintro e w1 ⟨rfl, rfl⟩
  go_wp2_with fail
  go_ret
  exact ⟨rfl, rfl⟩
/-- Mail without a row that nobody has: its block is new. -/
theorem all_non (v : Value) (w : World) (h : Non w v) :
    Calls Try.prog 22 #[v] w fun e w' => e = .returned (me w.heap.size) ∧ MB w' w.heap.size 0 44 [] zeroX (.pointer none) (fun _ => False) ∧ Below w.heap.size w w' := by
  have H := Lib.hid (is_non v w h)
  clear h
  go_enter Try.func22, Try.ntmps22
  go_wp2_with fail
  refine H.out.mono ?_
  rintro e w1 ⟨rfl, rfl⟩
  go_wp2_with fail
  go_ret
  exact ⟨rfl, MB.zero w, (Below.refl _ _).alloc (Nat.le_refl _) _⟩
theorem laid_any (u : Bx) (q : Option Addr) (w : World) :
    Calls Try.prog 20 #[.agg #[.pointer q, .int .u32 u.C, .int .u32 u.L]] w fun e w' => (∃ c, e = .returned (me c) ∧ Blk w' c 46 (cellsX u (.pointer q) [me c]) ∧ w.heap.size ≤ c) ∧ Below w.heap.size w w' := by
  obtain ⟨W, C, L⟩ := u
  unfold cellsX
  go_enter Try.func20, Try.ntmps20
  go_wp2_with fail
  go_ret
  have hb := Blk.new (w.alloc (.cells #[.pointer q, .int .u32 C, .int .u32 L] 44)) 46 [.pointer q, .int .u32 C, .int .u32 L, me (w.heap.size + 1)]
  rw [World.size_alloc] at hb
  exact ⟨⟨_, rfl, hb, Nat.le_succ _⟩, ((Below.refl w.heap.size w).alloc (Nat.le_refl _) _).alloc (by rw [World.size_alloc]; exact Nat.le_succ _) _⟩
theorem New_any0 (w : World) :
    Calls Try.prog 8 #[] w fun e w' => (∃ b O, e = .returned (me b) ∧ MW w' b 4 46 [me b] zeroX O ∧ ∀ j, O j → w.heap.size ≤ j) ∧ Below w.heap.size w w' := by
  have HF : ∀ w : World, Calls Try.prog 21 #[] w fun e w' => ∃ b O, e = .returned (.agg #[me b, .int .u32 0, .int .u32 0]) ∧ FL.St w' b 4 [] O ∧ (∀ j, O j → w.heap.size ≤ j) ∧ Below w.heap.size w w' := by
    intro w
    go_enter Try.func21, Try.ntmps21
    go_wp2_with fail
    refine calls_letter ?_
    intro X hX
    have Z := Lib.hid (show Blk X w.heap.size 44 [.pointer none, .int .u32 0, .int .u32 0] by rw [hX.out]; exact Blk.new w _ [.pointer none, .int .u32 0, .int .u32 0])
    have BX := Lib.hid (show Below w.heap.size w X by rw [hX.out]; exact (Below.refl w.heap.size w).alloc (Nat.le_refl _) _)
    have NX := Lib.hid (show w.heap.size < X.heap.size by rw [hX.out]; simp)
    obtain ⟨g, hg⟩ : ∃ g, w.heap.size = g := ⟨_, rfl⟩
    have G := Lib.hid hg
    rw [hg] at Z
    rw [hg]
    clear hX hg
    have HN : Calls Try.prog 31 #[.int .i64 4] X _ := FL.New_st 4 X (by omega)
    refine HN.mono ?_
    rintro e w1 ⟨b1, O1, rfl, h1, n1, k1⟩
    have Z1 := Lib.hid (Z.out.keep k1)
    have S1 := Lib.hid h1
    have N1 := Lib.hid n1
    have B1 := Lib.hid (BX.out.trans (k1.mono BX.out.size))
    clear h1 n1 k1 HN
    go_wp2_with (with_reducible refine at_store _ _ _ rfl ?_)
    refine Lib.hid ?_
    refine store_all rfl _ _ _ rfl g [.pointer (some ⟨b1, 0, none⟩), .int .u32 0, .int .u32 0] rfl rfl _ _ Z1.out (by kernel_rfl) rfl (by simp [Value.oneCell']) ?_
    intro Y hY ho
    have r0 := hY.at 0 rfl
    have r1 := hY.at 1 rfl
    have r2 := hY.at 2 rfl
    have gs : g < X.heap.size := by have := NX.out; have := G.out; omega
    have R1 := Lib.hid (S1.out.only ho (fun j hj e => by have := N1.out j hj; have e : j = g := e; omega))
    have R2 := Lib.hid (show ∀ j, O1 j → w.heap.size ≤ j from fun j hj => by have := N1.out j hj; have := NX.out; omega)
    have R3 := Lib.hid (show Below w.heap.size w Y from B1.out.trans (ho.below B1.out.size (fun k e => by have e : k = g := e; have := G.out; omega)))
    clear hY ho gs
    go_wp2_with fail
    refine bodyPost_ret (v := .agg #[me b1, .int .u32 0, .int .u32 0]) ?_ rfl ⟨b1, O1, rfl, R1.out, R2.out, R3.out⟩
    simp [results, Try.results21, go_sem, r0, r1, r2]
  go_enter Try.func8, Try.ntmps8
  go_wp2_with fail
  refine (HF w).mono ?_
  rintro e w1 ⟨b1, O1, rfl, h1, n1, k1⟩
  have S1 := Lib.hid h1
  have N1 := Lib.hid n1
  have B1 := Lib.hid k1
  clear h1 n1 k1 HF
  go_wp2_with fail
  refine (laid_any zeroX (some ⟨b1, 0, none⟩) w1).mono ?_
  rintro e w3 ⟨⟨c, rfl, hc, hn⟩, k3⟩
  have hl1 := S1.out.lt
  have hs := B1.out.size
  have R := Lib.hid (show MB w3 c 4 46 [me c] zeroX (me b1) O1 from ⟨hc, .inl ⟨b1, rfl, S1.out.keep k3⟩, okX_zero, fun e => by have := hl1 c e; omega⟩)
  have B3 := Lib.hid (B1.out.trans (k3.mono B1.out.size))
  have hN : ∀ j, (j = c ∨ O1 j) → w.heap.size ≤ j := fun j hj => by
    rcases hj with rfl | hj
    · omega
    · exact N1.out j hj
  clear hc hn k3 hl1 hs
  go_wp2_with fail
  go_ret
  exact ⟨⟨c, _, rfl, ⟨_, _, R.out, fun j => Iff.rfl⟩, hN⟩, B3.out⟩
theorem ixr0 (w : World) : (Instr.index 59 readA (.int .i64 0)).run Try.prog w = .ok (mexp 39) w := by rfl
theorem ixw0 (w : World) : (Instr.index 62 writeA (.int .i64 0)).run Try.prog w = .ok (mexp 43) w := by rfl
theorem ixr1 (w : World) : (Instr.index 59 readA (.int .i64 1)).run Try.prog w = .ok (mexp 40) w := by rfl
theorem ixw1 (w : World) : (Instr.index 62 writeA (.int .i64 1)).run Try.prog w = .ok (mexp 44) w := by rfl
theorem ixr2 (w : World) : (Instr.index 59 readA (.int .i64 2)).run Try.prog w = .ok (mexp 41) w := by rfl
theorem ixw2 (w : World) : (Instr.index 62 writeA (.int .i64 2)).run Try.prog w = .ok (mexp 45) w := by rfl
theorem ixr3 (w : World) : (Instr.index 59 readA (.int .i64 3)).run Try.prog w = .ok (mexp 42) w := by rfl
theorem ixw3 (w : World) : (Instr.index 62 writeA (.int .i64 3)).run Try.prog w = .ok (mexp 46) w := by rfl
theorem readM0 (b room : Nat) (t : TypeId) (tl : List Value) (u : Bx) (O : Nat → Prop) (w : World) (h : MW w b room t tl u O) :
    Calls Try.prog 23 #[me b, .int .i64 0] w fun e w' => e = .returned (.int .u32 (readX u 0).1) ∧ Left w w' b room t tl (readX u 0).2 O := by
  have T := Lib.hid h
  have I := Lib.hid (isReg_any 0 w ⟨by decide, by decide⟩)
  have hd : decide ((0 : Int) ≤ 0 ∧ (0 : Int) < 4) = true := by decide
  rw [hd] at I
  clear h hd
  go_enter Try.func23, Try.ntmps23
  go_wp2_with fail
  refine I.out.mono ?_
  rintro e w1 ⟨rfl, rfl⟩
  clear I
  go_wp2_with fail
  refine (reads_any w).mono ?_
  rintro e w2 ⟨rfl, hb⟩
  have T2 := Lib.hid (T.out.keep hb)
  have B2 := Lib.hid (show Only O w w2 from Only.of_below hb)
  clear hb
  have hix := ixr0
  unfold readA mexp at *
  go_wp2_with fail
  refine (next_any b room t tl u O w2 T2.out).mono ?_
  rintro e w3 ⟨rfl, h3⟩
  have R := Lib.hid (Left.trans B2.out h3)
  clear h3
  go_wp2_with fail
  go_ret
  exact ⟨rfl, R.out⟩
theorem readM1 (b room : Nat) (t : TypeId) (tl : List Value) (u : Bx) (O : Nat → Prop) (w : World) (h : MW w b room t tl u O) :
    Calls Try.prog 23 #[me b, .int .i64 1] w fun e w' => e = .returned (.int .u32 (readX u 1).1) ∧ Left w w' b room t tl (readX u 1).2 O := by
  have T := Lib.hid h
  have I := Lib.hid (isReg_any 1 w ⟨by decide, by decide⟩)
  have hd : decide ((0 : Int) ≤ 1 ∧ (1 : Int) < 4) = true := by decide
  rw [hd] at I
  clear h hd
  go_enter Try.func23, Try.ntmps23
  go_wp2_with fail
  refine I.out.mono ?_
  rintro e w1 ⟨rfl, rfl⟩
  clear I
  go_wp2_with fail
  refine (reads_any w).mono ?_
  rintro e w2 ⟨rfl, hb⟩
  have T2 := Lib.hid (T.out.keep hb)
  have B2 := Lib.hid (show Only O w w2 from Only.of_below hb)
  clear hb
  have hix := ixr1
  unfold readA mexp at *
  go_wp2_with fail
  refine (count_any b room t tl u O w2 T2.out).mono ?_
  rintro e w3 ⟨rfl, h3⟩
  have R := Lib.hid (show Left w w3 b room t tl u O from Left.of (T2.out.keep h3) (B2.out.trans (Only.of_below h3)))
  clear h3
  go_wp2_with fail
  go_ret
  exact ⟨rfl, R.out⟩
theorem readM2 (b room : Nat) (t : TypeId) (tl : List Value) (u : Bx) (O : Nat → Prop) (w : World) (h : MW w b room t tl u O) :
    Calls Try.prog 23 #[me b, .int .i64 2] w fun e w' => e = .returned (.int .u32 (readX u 2).1) ∧ Left w w' b room t tl (readX u 2).2 O := by
  have T := Lib.hid h
  have I := Lib.hid (isReg_any 2 w ⟨by decide, by decide⟩)
  have hd : decide ((0 : Int) ≤ 2 ∧ (2 : Int) < 4) = true := by decide
  rw [hd] at I
  clear h hd
  go_enter Try.func23, Try.ntmps23
  go_wp2_with fail
  refine I.out.mono ?_
  rintro e w1 ⟨rfl, rfl⟩
  clear I
  go_wp2_with fail
  refine (reads_any w).mono ?_
  rintro e w2 ⟨rfl, hb⟩
  have T2 := Lib.hid (T.out.keep hb)
  have B2 := Lib.hid (show Only O w w2 from Only.of_below hb)
  clear hb
  have hix := ixr2
  unfold readA mexp at *
  go_wp2_with fail
  refine (ctrlNow_any b room t tl u O w2 T2.out).mono ?_
  rintro e w3 ⟨rfl, rfl⟩
  have R := Lib.hid (show Left w w2 b room t tl u O from Left.of T2.out B2.out)
  go_wp2_with fail
  go_ret
  exact ⟨rfl, R.out⟩
theorem readM3 (b room : Nat) (t : TypeId) (tl : List Value) (u : Bx) (O : Nat → Prop) (w : World) (h : MW w b room t tl u O) :
    Calls Try.prog 23 #[me b, .int .i64 3] w fun e w' => e = .returned (.int .u32 (readX u 3).1) ∧ Left w w' b room t tl (readX u 3).2 O := by
  have T := Lib.hid h
  have I := Lib.hid (isReg_any 3 w ⟨by decide, by decide⟩)
  have hd : decide ((0 : Int) ≤ 3 ∧ (3 : Int) < 4) = true := by decide
  rw [hd] at I
  clear h hd
  go_enter Try.func23, Try.ntmps23
  go_wp2_with fail
  refine I.out.mono ?_
  rintro e w1 ⟨rfl, rfl⟩
  clear I
  go_wp2_with fail
  refine (reads_any w).mono ?_
  rintro e w2 ⟨rfl, hb⟩
  have T2 := Lib.hid (T.out.keep hb)
  have B2 := Lib.hid (show Only O w w2 from Only.of_below hb)
  clear hb
  have hix := ixr3
  unfold readA mexp at *
  go_wp2_with fail
  refine (lostNow_any b room t tl u O w2 T2.out).mono ?_
  rintro e w3 ⟨rfl, rfl⟩
  have R := Lib.hid (show Left w w2 b room t tl u O from Left.of T2.out B2.out)
  go_wp2_with fail
  go_ret
  exact ⟨rfl, R.out⟩
theorem readQ1 (b room : Nat) (t : TypeId) (tl : List Value) (u : Bx) (O : Nat → Prop) (w : World) (h : MW w b room t tl u O) :
    Calls Try.prog 23 #[me b, .int .i64 1] w fun e w' => e = .returned (.int .u32 (readX u 1).1) ∧ Below w.heap.size w w' := by
  have T := Lib.hid h
  have I := Lib.hid (isReg_any 1 w ⟨by decide, by decide⟩)
  have hd : decide ((0 : Int) ≤ 1 ∧ (1 : Int) < 4) = true := by decide
  rw [hd] at I
  clear h hd
  go_enter Try.func23, Try.ntmps23
  go_wp2_with fail
  refine I.out.mono ?_
  rintro e w1 ⟨rfl, rfl⟩
  clear I
  go_wp2_with fail
  refine (reads_any w).mono ?_
  rintro e w2 ⟨rfl, hb⟩
  have T2 := Lib.hid (T.out.keep hb)
  have B2 := Lib.hid hb
  clear hb
  have hix := ixr1
  unfold readA mexp at *
  go_wp2_with fail
  refine (count_any b room t tl u O w2 T2.out).mono ?_
  rintro e w3 ⟨rfl, h3⟩
  have R := Lib.hid (show Below w.heap.size w w3 from B2.out.trans (h3.mono B2.out.size))
  try clear h3
  go_wp2_with fail
  go_ret
  exact ⟨rfl, R.out⟩
theorem readQ2 (b room : Nat) (t : TypeId) (tl : List Value) (u : Bx) (O : Nat → Prop) (w : World) (h : MW w b room t tl u O) :
    Calls Try.prog 23 #[me b, .int .i64 2] w fun e w' => e = .returned (.int .u32 (readX u 2).1) ∧ Below w.heap.size w w' := by
  have T := Lib.hid h
  have I := Lib.hid (isReg_any 2 w ⟨by decide, by decide⟩)
  have hd : decide ((0 : Int) ≤ 2 ∧ (2 : Int) < 4) = true := by decide
  rw [hd] at I
  clear h hd
  go_enter Try.func23, Try.ntmps23
  go_wp2_with fail
  refine I.out.mono ?_
  rintro e w1 ⟨rfl, rfl⟩
  clear I
  go_wp2_with fail
  refine (reads_any w).mono ?_
  rintro e w2 ⟨rfl, hb⟩
  have T2 := Lib.hid (T.out.keep hb)
  have B2 := Lib.hid hb
  clear hb
  have hix := ixr2
  unfold readA mexp at *
  go_wp2_with fail
  refine (ctrlNow_any b room t tl u O w2 T2.out).mono ?_
  rintro e w3 ⟨rfl, rfl⟩
  have R := Lib.hid (show Below w.heap.size w w2 from B2.out)
  try clear h3
  go_wp2_with fail
  go_ret
  exact ⟨rfl, R.out⟩
theorem readQ3 (b room : Nat) (t : TypeId) (tl : List Value) (u : Bx) (O : Nat → Prop) (w : World) (h : MW w b room t tl u O) :
    Calls Try.prog 23 #[me b, .int .i64 3] w fun e w' => e = .returned (.int .u32 (readX u 3).1) ∧ Below w.heap.size w w' := by
  have T := Lib.hid h
  have I := Lib.hid (isReg_any 3 w ⟨by decide, by decide⟩)
  have hd : decide ((0 : Int) ≤ 3 ∧ (3 : Int) < 4) = true := by decide
  rw [hd] at I
  clear h hd
  go_enter Try.func23, Try.ntmps23
  go_wp2_with fail
  refine I.out.mono ?_
  rintro e w1 ⟨rfl, rfl⟩
  clear I
  go_wp2_with fail
  refine (reads_any w).mono ?_
  rintro e w2 ⟨rfl, hb⟩
  have T2 := Lib.hid (T.out.keep hb)
  have B2 := Lib.hid hb
  clear hb
  have hix := ixr3
  unfold readA mexp at *
  go_wp2_with fail
  refine (lostNow_any b room t tl u O w2 T2.out).mono ?_
  rintro e w3 ⟨rfl, rfl⟩
  have R := Lib.hid (show Below w.heap.size w w2 from B2.out)
  try clear h3
  go_wp2_with fail
  go_ret
  exact ⟨rfl, R.out⟩
theorem readX_other (u : Bx) (k : Int) (h : ¬ (0 ≤ k ∧ k < 4)) : readX u k = (0, u) := by
  unfold readX
  rw [if_neg (by omega), if_neg (by omega), if_neg (by omega), if_neg (by omega)]
theorem readMo (b room : Nat) (t : TypeId) (tl : List Value) (u : Bx) (O : Nat → Prop) (k : Int) (w : World) (hk : I64 k) (hn : ¬ (0 ≤ k ∧ k < 4)) (h : MW w b room t tl u O) :
    Calls Try.prog 23 #[me b, .int .i64 k] w fun e w' => e = .returned (.int .u32 0) ∧ w = w' := by
  have I := Lib.hid (isReg_any k w hk)
  rw [decide_eq_false hn] at I
  clear hk hn h
  go_enter Try.func23, Try.ntmps23
  go_wp2_with fail
  refine I.out.mono ?_
  rintro e w1 ⟨rfl, rfl⟩
  clear I
  go_wp2_with fail
  go_ret
  exact ⟨rfl, rfl⟩
theorem readM_any (b room : Nat) (t : TypeId) (tl : List Value) (u : Bx) (O : Nat → Prop) (k : Int) (w : World) (hk : I64 k) (h : MW w b room t tl u O) :
    Calls Try.prog 23 #[me b, .int .i64 k] w fun e w' => e = .returned (.int .u32 (readX u k).1) ∧ Left w w' b room t tl (readX u k).2 O := by
  by_cases hn : 0 ≤ k ∧ k < 4
  · have hc : k = 0 ∨ k = 1 ∨ k = 2 ∨ k = 3 := by omega
    rcases hc with rfl | rfl | rfl | rfl
    · exact readM0 b room t tl u O w h
    · exact readM1 b room t tl u O w h
    · exact readM2 b room t tl u O w h
    · exact readM3 b room t tl u O w h
  · rw [readX_other u k hn]
    refine (readMo b room t tl u O k w hk hn h).mono ?_
    rintro e w' ⟨rfl, rfl⟩
    exact ⟨rfl, Left.of h (Only.refl _ _)⟩
theorem readQ_any (b room : Nat) (t : TypeId) (tl : List Value) (u : Bx) (O : Nat → Prop) (k : Int) (w : World) (hk : I64 k) (h0 : ¬ k = 0) (h : MW w b room t tl u O) :
    Calls Try.prog 23 #[me b, .int .i64 k] w fun e w' => e = .returned (.int .u32 (readX u k).1) ∧ Below w.heap.size w w' := by
  by_cases hn : 0 ≤ k ∧ k < 4
  · have hc : k = 1 ∨ k = 2 ∨ k = 3 := by omega
    rcases hc with rfl | rfl | rfl
    · exact readQ1 b room t tl u O w h
    · exact readQ2 b room t tl u O w h
    · exact readQ3 b room t tl u O w h
  · rw [readX_other u k hn]
    refine (readMo b room t tl u O k w hk hn h).mono ?_
    rintro e w' ⟨rfl, rfl⟩
    exact ⟨rfl, Below.refl _ _⟩
/-- What is written, where there are so many places. -/
def writeR (room : Nat) (u : Bx) (k v : Int) : Bx := if k = 0 then asideR room u v else writeX u k v
theorem writeR_4 (u : Bx) (k v : Int) : writeR 4 u k v = writeX u k v := by
  unfold writeR writeX asideR
  by_cases e : k = 0
  · rw [if_pos e, if_pos e]
  · rw [if_neg e]
theorem writeM0 (b room : Nat) (t : TypeId) (tl : List Value) (u : Bx) (O : Nat → Prop) (z : Int) (w : World) (h4 : room ≤ 4) (hz : 0 ≤ z ∧ z < 4294967296) (h : MW w b room t tl u O) :
    Calls Try.prog 24 #[me b, .int .i64 0, .int .u32 z] w fun e w' => e = .returned (.tuple #[]) ∧ Left w w' b room t tl (writeR room u 0 z) O := by
  have T := Lib.hid h
  have Hz := Lib.hid hz
  have H4 := Lib.hid h4
  have I := Lib.hid (isReg_any 0 w ⟨by decide, by decide⟩)
  have hd : decide ((0 : Int) ≤ 0 ∧ (0 : Int) < 4) = true := by decide
  rw [hd] at I
  clear h hd hz h4
  go_enter Try.func24, Try.ntmps24
  go_wp2_with fail
  refine I.out.mono ?_
  rintro e w1 ⟨rfl, rfl⟩
  clear I
  go_wp2_with fail
  refine (writes_any w).mono ?_
  rintro e w2 ⟨rfl, hb⟩
  have T2 := Lib.hid (T.out.keep hb)
  have B2 := Lib.hid (show Only O w w2 from Only.of_below hb)
  clear hb
  have hix := ixw0
  unfold writeA mexp at *
  go_wp2_with fail
  refine (aside_any b room t tl u O z w2 H4.out Hz.out T2.out).mono ?_
  rintro e w3 ⟨rfl, h3⟩
  have R := Lib.hid (show Left w w3 b room t tl (writeR room u 0 z) O from Left.trans B2.out h3)
  clear h3
  go_wp2_with fail
  first | go_end0 | refine bodyPost_ret (results_none rfl _ _ _) rfl ?_
  exact ⟨rfl, R.out⟩
theorem writeM1 (b room : Nat) (t : TypeId) (tl : List Value) (u : Bx) (O : Nat → Prop) (z : Int) (w : World) (h4 : room ≤ 4) (hz : 0 ≤ z ∧ z < 4294967296) (h : MW w b room t tl u O) :
    Calls Try.prog 24 #[me b, .int .i64 1, .int .u32 z] w fun e w' => e = .returned (.tuple #[]) ∧ Left w w' b room t tl (writeR room u 1 z) O := by
  have T := Lib.hid h
  have Hz := Lib.hid hz
  have H4 := Lib.hid h4
  have I := Lib.hid (isReg_any 1 w ⟨by decide, by decide⟩)
  have hd : decide ((0 : Int) ≤ 1 ∧ (1 : Int) < 4) = true := by decide
  rw [hd] at I
  clear h hd hz h4
  go_enter Try.func24, Try.ntmps24
  go_wp2_with fail
  refine I.out.mono ?_
  rintro e w1 ⟨rfl, rfl⟩
  clear I
  go_wp2_with fail
  refine (writes_any w).mono ?_
  rintro e w2 ⟨rfl, hb⟩
  have T2 := Lib.hid (T.out.keep hb)
  have B2 := Lib.hid (show Only O w w2 from Only.of_below hb)
  clear hb
  have hix := ixw1
  unfold writeA mexp at *
  go_wp2_with fail
  refine (stay_any (.int .u32 z) b w2).mono ?_
  rintro e w3 ⟨rfl, rfl⟩
  have R := Lib.hid (show Left w w2 b room t tl (writeR room u 1 z) O from Left.of T2.out B2.out)
  go_wp2_with fail
  first | go_end0 | refine bodyPost_ret (results_none rfl _ _ _) rfl ?_
  exact ⟨rfl, R.out⟩
theorem writeM2 (b room : Nat) (t : TypeId) (tl : List Value) (u : Bx) (O : Nat → Prop) (z : Int) (w : World) (h4 : room ≤ 4) (hz : 0 ≤ z ∧ z < 4294967296) (h : MW w b room t tl u O) :
    Calls Try.prog 24 #[me b, .int .i64 2, .int .u32 z] w fun e w' => e = .returned (.tuple #[]) ∧ Left w w' b room t tl (writeR room u 2 z) O := by
  have T := Lib.hid h
  have Hz := Lib.hid hz
  have H4 := Lib.hid h4
  have I := Lib.hid (isReg_any 2 w ⟨by decide, by decide⟩)
  have hd : decide ((0 : Int) ≤ 2 ∧ (2 : Int) < 4) = true := by decide
  rw [hd] at I
  clear h hd hz h4
  go_enter Try.func24, Try.ntmps24
  go_wp2_with fail
  refine I.out.mono ?_
  rintro e w1 ⟨rfl, rfl⟩
  clear I
  go_wp2_with fail
  refine (writes_any w).mono ?_
  rintro e w2 ⟨rfl, hb⟩
  have T2 := Lib.hid (T.out.keep hb)
  have B2 := Lib.hid (show Only O w w2 from Only.of_below hb)
  clear hb
  have hix := ixw2
  unfold writeA mexp at *
  go_wp2_with fail
  refine (setCtrl_any b room t tl u O z w2 Hz.out T2.out).mono ?_
  rintro e w3 ⟨rfl, h3⟩
  have R := Lib.hid (show Left w w3 b room t tl (writeR room u 2 z) O from Left.trans B2.out h3)
  clear h3
  go_wp2_with fail
  first | go_end0 | refine bodyPost_ret (results_none rfl _ _ _) rfl ?_
  exact ⟨rfl, R.out⟩
theorem writeM3 (b room : Nat) (t : TypeId) (tl : List Value) (u : Bx) (O : Nat → Prop) (z : Int) (w : World) (h4 : room ≤ 4) (hz : 0 ≤ z ∧ z < 4294967296) (h : MW w b room t tl u O) :
    Calls Try.prog 24 #[me b, .int .i64 3, .int .u32 z] w fun e w' => e = .returned (.tuple #[]) ∧ Left w w' b room t tl (writeR room u 3 z) O := by
  have T := Lib.hid h
  have Hz := Lib.hid hz
  have H4 := Lib.hid h4
  have I := Lib.hid (isReg_any 3 w ⟨by decide, by decide⟩)
  have hd : decide ((0 : Int) ≤ 3 ∧ (3 : Int) < 4) = true := by decide
  rw [hd] at I
  clear h hd hz h4
  go_enter Try.func24, Try.ntmps24
  go_wp2_with fail
  refine I.out.mono ?_
  rintro e w1 ⟨rfl, rfl⟩
  clear I
  go_wp2_with fail
  refine (writes_any w).mono ?_
  rintro e w2 ⟨rfl, hb⟩
  have T2 := Lib.hid (T.out.keep hb)
  have B2 := Lib.hid (show Only O w w2 from Only.of_below hb)
  clear hb
  have hix := ixw3
  unfold writeA mexp at *
  go_wp2_with fail
  refine (forgetLost_any b room t tl u O z w2 Hz.out T2.out).mono ?_
  rintro e w3 ⟨rfl, h3⟩
  have R := Lib.hid (show Left w w3 b room t tl (writeR room u 3 z) O from Left.trans B2.out h3)
  clear h3
  go_wp2_with fail
  first | go_end0 | refine bodyPost_ret (results_none rfl _ _ _) rfl ?_
  exact ⟨rfl, R.out⟩
theorem writeMo (b room : Nat) (t : TypeId) (tl : List Value) (u : Bx) (O : Nat → Prop) (k z : Int) (w : World) (hk : I64 k) (hn : ¬ (0 ≤ k ∧ k < 4)) (h : MW w b room t tl u O) :
    Calls Try.prog 24 #[me b, .int .i64 k, .int .u32 z] w fun e w' => e = .returned (.tuple #[]) ∧ w = w' := by
  have I := Lib.hid (isReg_any k w hk)
  rw [decide_eq_false hn] at I
  clear hk hn h
  go_enter Try.func24, Try.ntmps24
  go_wp2_with fail
  refine I.out.mono ?_
  rintro e w1 ⟨rfl, rfl⟩
  clear I
  go_wp2_with fail
  first | go_end0 | refine bodyPost_ret (results_none rfl _ _ _) rfl ?_
  exact ⟨rfl, rfl⟩
theorem writeM_any (b room : Nat) (t : TypeId) (tl : List Value) (u : Bx) (O : Nat → Prop) (k z : Int) (w : World) (h4 : room ≤ 4) (hk : I64 k) (hz : 0 ≤ z ∧ z < 4294967296) (h : MW w b room t tl u O) :
    Calls Try.prog 24 #[me b, .int .i64 k, .int .u32 z] w fun e w' => e = .returned (.tuple #[]) ∧ Left w w' b room t tl (writeR room u k z) O := by
  by_cases hn : 0 ≤ k ∧ k < 4
  · have hc : k = 0 ∨ k = 1 ∨ k = 2 ∨ k = 3 := by omega
    rcases hc with rfl | rfl | rfl | rfl
    · exact writeM0 b room t tl u O z w h4 hz h
    · exact writeM1 b room t tl u O z w h4 hz h
    · exact writeM2 b room t tl u O z w h4 hz h
    · exact writeM3 b room t tl u O z w h4 hz h
  · rw [show writeR room u k z = u by unfold writeR writeX; rw [if_neg (by omega), if_neg (by omega), if_neg (by omega), if_neg (by omega)]]
    refine (writeMo b room t tl u O k z w hk hn h).mono ?_
    rintro e w' ⟨rfl, rfl⟩
    exact ⟨rfl, Left.of h (Only.refl _ _)⟩
end Go.Proofs.Ytkcghcoacjpbkaa.Mbox
