/- Package mailbox's contracts. Box w b u O: the mailbox in block b has u; O: the blocks that are its own. -/
import Derived.Test.YtkcghcoacjpbkaaJy
namespace Go.Proofs.Ytkcghcoacjpbkaa.Mbox
open Go.RowKit Go.Maps Go.ChangeShapes Go.WideShapes Go.ChangeAt Fifo Orow Word
set_option linter.unusedVariables false

def Box (w : World) (b : Nat) (u : Bx) (O : Nat → Prop) : Prop := MW w b 4 46 [me b] u O
theorem Box.only {S O : Nat → Prop} {w w' : World} {b : Nat} {u : Bx} (h : Box w b u O) (ho : Only S w w') (hn : ∀ j, O j → ¬ S j) : Box w' b u O := MW.only h ho hn
theorem Box.keep {O : Nat → Prop} {w w' : World} {b : Nat} {u : Bx} (h : Box w b u O) (hb : Below w.heap.size w w') : Box w' b u O := MW.keep h hb
theorem Box.lt {O : Nat → Prop} {w : World} {b : Nat} {u : Bx} (h : Box w b u O) : ∀ j, O j → j < w.heap.size := MW.lt h
theorem Box.ok {O : Nat → Prop} {w : World} {b : Nat} {u : Bx} (h : Box w b u O) : OkX u := MW.ok h
/-- Which mail is asked: its own, or one that nobody has. -/
def Asked (v : Value) (w : World) (b room : Nat) (t : TypeId) (tl : List Value) (u : Bx) (O : Nat → Prop) : Prop :=
  Calls Try.prog 22 #[v] w fun e w' => e = .returned (me b) ∧ MW w' b room t tl u O ∧ Below w.heap.size w w'
theorem Box.self {O : Nat → Prop} {w : World} {b : Nat} {u : Bx} (h : Box w b u O) : w.cell? ⟨b, 3, none⟩ = some (me b) := by
  obtain ⟨p, A, h2, e⟩ := h
  exact h2.blk.at 3 rfl
theorem Asked.yes {O : Nat → Prop} {w : World} {b : Nat} {u : Bx} (h : Box w b u O) : Asked (me b) w b 4 46 [me b] u O := by
  refine (all_yes b w h.self).mono ?_
  rintro e w' ⟨rfl, rfl⟩
  exact ⟨rfl, h, Below.refl _ _⟩
theorem Asked.non {w : World} {v : Value} (h : Non w v) : Asked v w w.heap.size 0 44 [] zeroX (fun j => j = w.heap.size) := by
  refine (all_non v w h).mono ?_
  rintro e w' ⟨rfl, h1, hb⟩
  exact ⟨rfl, ⟨_, _, h1, fun j => ⟨fun e => .inl e, fun e => by rcases e with e | e; exact e; exact e.elim⟩⟩, hb⟩
theorem read_q (v : Value) (b room : Nat) (t : TypeId) (tl : List Value) (u : Bx) (O : Nat → Prop) (k : Int) (hk : I64 k) (w : World) (hq : Asked v w b room t tl u O) :
    Calls Try.prog 10 #[v, .int .i64 k] w fun e w' => e = .returned (.int .u32 (readX u k).1) ∧ Left w w' b room t tl (readX u k).2 O := by
  have T := Lib.hid hq
  have HC := Lib.hid (fun w1 (h1 : MW w1 b room t tl u O) => readM_any b room t tl u O k w1 hk h1)
  clear hq
  go_enter Try.func10, Try.ntmps10
  go_wp2_with fail
  refine T.out.mono ?_
  rintro e w1 ⟨rfl, h1, hb1⟩
  have H1 := Lib.hid (HC.out w1 h1)
  have B1 := Lib.hid hb1
  clear h1 hb1 T HC
  go_wp2_with fail
  refine H1.out.mono ?_
  rintro e w2 ⟨rfl, h2⟩
  have R := Lib.hid (Left.trans (Only.of_below B1.out) h2)
  clear h2 H1
  go_wp2_with fail
  go_ret
  exact ⟨rfl, R.out⟩
theorem read_quiet (v : Value) (b room : Nat) (t : TypeId) (tl : List Value) (u : Bx) (O : Nat → Prop) (k : Int) (hk : I64 k) (h0 : ¬ k = 0) (w : World) (hq : Asked v w b room t tl u O) :
    Calls Try.prog 10 #[v, .int .i64 k] w fun e w' => e = .returned (.int .u32 (readX u k).1) ∧ Below w.heap.size w w' := by
  have T := Lib.hid hq
  have HC := Lib.hid (fun w1 (h1 : MW w1 b room t tl u O) => readQ_any b room t tl u O k w1 hk h0 h1)
  clear hq
  go_enter Try.func10, Try.ntmps10
  go_wp2_with fail
  refine T.out.mono ?_
  rintro e w1 ⟨rfl, h1, hb1⟩
  have H1 := Lib.hid (HC.out w1 h1)
  have B1 := Lib.hid hb1
  clear h1 hb1 T HC
  go_wp2_with fail
  refine H1.out.mono ?_
  rintro e w2 ⟨rfl, h2⟩
  have R := Lib.hid (B1.out.trans (h2.mono B1.out.size))
  clear h2 H1
  go_wp2_with fail
  go_ret
  exact ⟨rfl, R.out⟩
theorem write_q (v : Value) (b room : Nat) (t : TypeId) (tl : List Value) (u : Bx) (O : Nat → Prop) (k z : Int) (h4 : room ≤ 4) (hk : I64 k) (hz : 0 ≤ z ∧ z < 4294967296) (w : World) (hq : Asked v w b room t tl u O) :
    Calls Try.prog 12 #[v, .int .i64 k, .int .u32 z] w fun e w' => e = .returned (.tuple #[]) ∧ Left w w' b room t tl (writeR room u k z) O := by
  have T := Lib.hid hq
  have HC := Lib.hid (fun w1 (h1 : MW w1 b room t tl u O) => writeM_any b room t tl u O k z w1 h4 hk hz h1)
  clear hq
  go_enter Try.func12, Try.ntmps12
  go_wp2_with fail
  refine T.out.mono ?_
  rintro e w1 ⟨rfl, h1, hb1⟩
  have H1 := Lib.hid (HC.out w1 h1)
  have B1 := Lib.hid hb1
  clear h1 hb1 T HC
  go_wp2_with fail
  refine H1.out.mono ?_
  rintro e w2 ⟨rfl, h2⟩
  have R := Lib.hid (Left.trans (Only.of_below B1.out) h2)
  clear h2 H1
  go_wp2_with fail
  first | go_end0 | refine bodyPost_ret (results_none rfl _ _ _) rfl ?_
  exact ⟨rfl, R.out⟩
theorem line_q (v : Value) (b room : Nat) (t : TypeId) (tl : List Value) (u : Bx) (O : Nat → Prop) (w : World) (hq : Asked v w b room t tl u O) :
    Calls Try.prog 18 #[v] w fun e w' => e = .returned (.bool (lineX u)) ∧ Below w.heap.size w w' := by
  have T := Lib.hid hq
  have HC := Lib.hid (fun w1 (h1 : MW w1 b room t tl u O) => lineM_any b room t tl u O w1 h1)
  clear hq
  go_enter Try.func18, Try.ntmps18
  go_wp2_with fail
  refine T.out.mono ?_
  rintro e w1 ⟨rfl, h1, hb1⟩
  have H1 := Lib.hid (HC.out w1 h1)
  have B1 := Lib.hid hb1
  clear h1 hb1 T HC
  go_wp2_with fail
  refine H1.out.mono ?_
  rintro e w2 ⟨rfl, h2⟩
  have R := Lib.hid (B1.out.trans (h2.mono B1.out.size))
  clear h2 H1
  go_wp2_with fail
  go_ret
  exact ⟨rfl, R.out⟩
set_option maxHeartbeats 1000000 in
theorem state_q (v : Value) (room : Nat) (t : TypeId) (tl : List Value) (u : Bx) (w : World) (hq : ∀ W, Below w.heap.size w W → Calls Try.prog 22 #[v] W fun e w' => ∃ b O, e = .returned (me b) ∧ MW w' b room t tl u O ∧ Below W.heap.size W w') :
    Calls Try.prog 16 #[v] w fun e w' => (∃ a c, e = .returned (.agg #[.slice a u.W.length c, .int .u32 u.C, .int .u32 u.L]) ∧ w'.ownsRow w.heap.size 28 1 (.slice a u.W.length c) u.W.length (lv u.W)) ∧ Below w.heap.size w w' := by
  have Hq := Lib.hid hq
  clear hq
  obtain ⟨n, hn⟩ : ∃ n, u.W.length = n := ⟨_, rfl⟩
  obtain ⟨l, hl⟩ : ∃ l, lv u.W = l := ⟨_, rfl⟩
  obtain ⟨C, hC⟩ : ∃ C, u.C = C := ⟨_, rfl⟩
  obtain ⟨L, hL⟩ : ∃ L, u.L = L := ⟨_, rfl⟩
  have HC := Lib.hid (fun w1 b' O' (h1 : MW w1 b' room t tl u O') => stateM_any b' room t tl u O' w1 h1)
  rw [hn, hl, hC, hL] at HC
  rw [hn, hl, hC, hL]
  clear hn hl hC hL
  go_enter Try.func16, Try.ntmps16
  go_wp2_with fail
  refine calls_letter ?_
  intro X hX
  have Z := Lib.hid (show Blk X w.heap.size 37 [.slice none 0 0, .int .u32 0, .int .u32 0] by rw [hX.out]; exact Blk.new w _ [.slice none 0 0, .int .u32 0, .int .u32 0])
  have BX := Lib.hid (show Below w.heap.size w X by rw [hX.out]; exact (Below.refl w.heap.size w).alloc (Nat.le_refl _) _)
  obtain ⟨g, hg⟩ : ∃ g, w.heap.size = g := ⟨_, rfl⟩
  have G := Lib.hid hg
  rw [hg] at Z
  rw [hg]
  have HQ := Lib.hid (Hq.out X BX.out)
  clear hX hg Hq
  refine HQ.out.mono ?_
  rintro e w1 ⟨b, O, rfl, h1, hb1⟩
  have Z1 := Lib.hid (Z.out.keep hb1)
  have B1 := Lib.hid (BX.out.trans (hb1.mono BX.out.size))
  have H1 := Lib.hid (HC.out w1 b O h1)
  clear h1 hb1 HC HQ Z BX
  go_wp2_with fail
  refine H1.out.mono ?_
  rintro e w2 ⟨⟨a, c, rfl, h2⟩, hb2⟩
  have Z2 := Lib.hid (Z1.out.keep hb2)
  have B2 := Lib.hid (B1.out.trans (hb2.mono B1.out.size))
  have R2 := Lib.hid h2
  have Hlt := Lib.hid (show g < w1.heap.size from Z1.out.lt)
  clear h2 hb2 H1 Z1
  go_wp2_with (with_reducible refine at_store _ _ _ rfl ?_)
  refine Lib.hid ?_
  refine store_all rfl _ _ _ rfl g [.slice a n c, .int .u32 C, .int .u32 L] rfl rfl _ _ Z2.out (by kernel_rfl) rfl (by simp [Value.oneCell']) ?_
  intro Y hY ho
  have r0 := hY.at 0 rfl
  have r1 := hY.at 1 rfl
  have r2 := hY.at 2 rfl
  have hlt := Hlt.out
  have hgw := G.out
  have s1 := B1.out.size
  have R3 := Lib.hid (own_only R2.out ho (fun j hj e => by have := (own_lt R2.out j hj).1; have e : j = g := e; omega))
  have R4 := Lib.hid (own_mono R3.out (show w.heap.size ≤ w1.heap.size from s1))
  have R5 := Lib.hid (show Below w.heap.size w Y from B2.out.trans (ho.below B2.out.size (fun k e => by have e : k = g := e; omega)))
  clear hY ho hlt hgw s1
  go_wp2_with fail
  refine bodyPost_ret (v := .agg #[.slice a n c, .int .u32 C, .int .u32 L]) ?_ rfl ⟨⟨a, c, rfl, by have := R4.out; have hgw := G.out; first | exact this | (rw [← hgw]; exact this)⟩, by first | exact R5.out | (rw [← G.out]; exact R5.out)⟩
  simp [results, Try.results16, go_sem, r0, r1, r2]
theorem Copy_any0 (b : Nat) (u : Bx) (O : Nat → Prop) (w : World) (h : Box w b u O) :
    Calls Try.prog 14 #[me b] w fun r w' => (∃ c O', r = .returned (me c) ∧ Box w' c u O' ∧ ∀ j, O' j → w.heap.size ≤ j) ∧ Below w.heap.size w w' := by
  have I := Lib.hid (is_yes b w h.self)
  obtain ⟨p, A, h, e⟩ := h
  have hz : ∃ g, p = .pointer (some ⟨g, 0, none⟩) ∧ FL.St w g 4 (lv u.W) A := by
    rcases h.row with h | ⟨_, h, _⟩
    · exact h
    · cases h
  obtain ⟨g1, rfl, s1⟩ := hz
  have C1 := Lib.hid (apart_any b _ _ u g1 A w h s1)
  have Hok := Lib.hid h.ok
  clear h e s1
  go_enter Try.func14, Try.ntmps14
  go_wp2_with fail
  refine I.out.mono ?_
  rintro e w1 ⟨rfl, rfl⟩
  clear I
  go_wp2_with fail
  refine C1.out.mono ?_
  rintro e w1 ⟨c, A', rfl, h1, n1, k1⟩
  have S1 := Lib.hid h1
  have N1 := Lib.hid n1
  have B1 := Lib.hid k1
  clear h1 n1 k1 C1
  go_wp2_with fail
  refine (laid_any u (some ⟨c, 0, none⟩) w1).mono ?_
  rintro e w3 ⟨⟨d, rfl, hc, hn⟩, k3⟩
  have hl1 := S1.out.lt
  have hs := B1.out.size
  have R := Lib.hid (show MB w3 d 4 46 [me d] u (me c) A' from ⟨hc, .inl ⟨c, rfl, S1.out.keep k3⟩, Hok.out, fun e => by have := hl1 d e; omega⟩)
  have B3 := Lib.hid (B1.out.trans (k3.mono B1.out.size))
  have hN : ∀ j, (j = d ∨ A' j) → w.heap.size ≤ j := fun j hj => by
    rcases hj with rfl | hj
    · omega
    · exact N1.out j hj
  clear hc hn k3 hl1 hs
  go_wp2_with fail
  go_ret
  exact ⟨⟨d, _, rfl, ⟨_, _, R.out, fun j => Iff.rfl⟩, hN⟩, B3.out⟩

/-! ### The contracts -/
theorem New_any (w : World) :
    Calls Try.prog 8 #[] w fun e w' => (∃ b O, e = .returned (.pointer (some ⟨b, 0, none⟩)) ∧ Box w' b zeroX O ∧ ∀ j, O j → w.heap.size ≤ j) ∧ Below w.heap.size w w' := New_any0 w
theorem Read_any (b : Nat) (u : Bx) (O : Nat → Prop) (reg : Int) (w : World) (h1 : I64 reg) (h : Box w b u O) :
    Calls Try.prog 10 #[.pointer (some ⟨b, 0, none⟩), .int .i64 reg] w fun e w' => e = .returned (.int .u32 (readX u reg).1) ∧ ∃ O', Box w' b (readX u reg).2 O' ∧ Only O w w' ∧ ∀ j, O' j → O j ∨ w.heap.size ≤ j :=
  read_q (me b) b 4 _ _ u O reg h1 w (Asked.yes h)
theorem Read_quiet (b : Nat) (u : Bx) (O : Nat → Prop) (reg : Int) (w : World) (h1 : I64 reg) (hr : ¬ reg = 0) (h : Box w b u O) :
    Calls Try.prog 10 #[.pointer (some ⟨b, 0, none⟩), .int .i64 reg] w fun e w' => e = .returned (.int .u32 (readX u reg).1) ∧ Below w.heap.size w w' :=
  read_quiet (me b) b 4 _ _ u O reg h1 hr w (Asked.yes h)
theorem Write_any (b : Nat) (u : Bx) (O : Nat → Prop) (reg v : Int) (w : World) (h1 : I64 reg) (h2 : 0 ≤ v ∧ v < 4294967296) (h : Box w b u O) :
    Calls Try.prog 12 #[.pointer (some ⟨b, 0, none⟩), .int .i64 reg, .int .u32 v] w fun e w' => e = .returned (.tuple #[]) ∧ ∃ O', Box w' b (writeX u reg v) O' ∧ Only O w w' ∧ ∀ j, O' j → O j ∨ w.heap.size ≤ j := by
  have := write_q (me b) b 4 _ _ u O reg v (Nat.le_refl _) h1 h2 w (Asked.yes h)
  rw [writeR_4] at this
  exact this
theorem Line_any (b : Nat) (u : Bx) (O : Nat → Prop) (w : World) (h : Box w b u O) :
    Calls Try.prog 18 #[.pointer (some ⟨b, 0, none⟩)] w fun e w' => e = .returned (.bool (lineX u)) ∧ Below w.heap.size w w' :=
  line_q (me b) b 4 _ _ u O w (Asked.yes h)
/-- State: a row of its own, laid anew. -/
theorem State_any (b : Nat) (u : Bx) (O : Nat → Prop) (w : World) (h : Box w b u O) :
    Calls Try.prog 16 #[.pointer (some ⟨b, 0, none⟩)] w fun e w' => (∃ a1 c1, e = .returned (.agg #[.slice a1 u.W.length c1, .int .u32 u.C, .int .u32 u.L]) ∧ w'.ownsRow w.heap.size 28 1 (.slice a1 u.W.length c1) u.W.length (lv u.W)) ∧ Below w.heap.size w w' := by
  refine state_q (me b) 4 46 [me b] u w (fun W hb => (all_yes b W ((h.keep hb).self)).mono ?_)
  rintro e w' ⟨rfl, rfl⟩
  exact ⟨b, O, rfl, h.keep hb, Below.refl _ _⟩
theorem Copy_any (b : Nat) (u : Bx) (O : Nat → Prop) (w : World) (h : Box w b u O) :
    Calls Try.prog 14 #[.pointer (some ⟨b, 0, none⟩)] w fun e w' => (∃ c O', e = .returned (.pointer (some ⟨c, 0, none⟩)) ∧ Box w' c u O' ∧ ∀ j, O' j → w.heap.size ≤ j) ∧ Below w.heap.size w w' := Copy_any0 b u O w h
/-- What nobody has turns nothing. -/
theorem left_below {w w' : World} {room : Nat} {t : TypeId} {tl : List Value} {u : Bx} (h : Left w w' w.heap.size room t tl u (fun j => j = w.heap.size)) : Below w.heap.size w w' := by
  obtain ⟨O', h1, h2, h3⟩ := h
  exact h2.below (Nat.le_refl _) (fun k e => Nat.le_of_eq e.symm)
theorem Read_non (v : Value) (reg : Int) (w : World) (h1 : I64 reg) (h : Non w v) :
    Calls Try.prog 10 #[v, .int .i64 reg] w fun e w' => e = .returned (.int .u32 0) ∧ Below w.heap.size w w' := by
  refine (read_q v w.heap.size 0 _ _ zeroX _ reg h1 w (Asked.non h)).mono ?_
  rintro e w' ⟨rfl, hl⟩
  refine ⟨?_, left_below hl⟩
  congr 2
  unfold readX
  split
  · rfl
  split
  · rfl
  split
  · rfl
  split
  · rfl
  · rfl
theorem Write_non (v : Value) (reg x : Int) (w : World) (h1 : I64 reg) (h2 : 0 ≤ x ∧ x < 4294967296) (h : Non w v) :
    Calls Try.prog 12 #[v, .int .i64 reg, .int .u32 x] w fun e w' => e = .returned (.tuple #[]) ∧ Below w.heap.size w w' := by
  refine (write_q v w.heap.size 0 _ _ zeroX _ reg x (by omega) h1 h2 w (Asked.non h)).mono ?_
  rintro e w' ⟨rfl, hl⟩
  exact ⟨rfl, left_below hl⟩
theorem Line_non (v : Value) (w : World) (h : Non w v) :
    Calls Try.prog 18 #[v] w fun e w' => e = .returned (.bool false) ∧ Below w.heap.size w w' :=
  line_q v w.heap.size 0 _ _ zeroX _ w (Asked.non h)
theorem State_non (v : Value) (w : World) (h : Non w v) :
    Calls Try.prog 16 #[v] w fun e w' => (∃ a1 c1, e = .returned (.agg #[.slice a1 0 c1, .int .u32 0, .int .u32 0])) ∧ Below w.heap.size w w' := by
  refine (state_q v 0 44 [] zeroX w (fun W hb => (Asked.non (h.keep hb)).mono ?_)).mono ?_
  · rintro e w' ⟨rfl, h1, hb1⟩
    exact ⟨_, _, rfl, h1, hb1⟩
  · rintro e w' ⟨⟨a1, c1, rfl, -⟩, hb⟩
    exact ⟨⟨a1, c1, rfl⟩, hb⟩
theorem Copy_non (v : Value) (w : World) (h : Non w v) :
    Calls Try.prog 14 #[v] w fun e w' => e = .returned (.pointer none) ∧ Below w.heap.size w w' := by
  have A := is_non v w h
  clear h
  go_enter Try.func14, Try.ntmps14
  go_wp2_with fail
  refine A.mono ?_
  rintro e w1 ⟨rfl, rfl⟩
  clear A
  go_wp2_with fail
  go_ret
  exact ⟨rfl, Below.refl _ _⟩
end Go.Proofs.Ytkcghcoacjpbkaa.Mbox
