/- does: a deed of both. -/
import Derived.Test.YtmdepkehpohgeaaGreatS6g
import Derived.Test.YtmdepkehpohgeaaGreatPk
import Derived.LoopN
namespace Go.Proofs.YtmdepkehpohgeaaGreat.Scr
open Go.RowKit Go.Maps Go.ChangeShapes Go.WideShapes Go.ChangeAt Fifo Orow Word
set_option linter.unusedVariables false

/-- What a deed leaves (the pair's block b' may be another one). -/
def Done (Bk : Nat) (K : Nat → Prop) (w w' : World) (r : Nat) (d : RS) (b' : Nat) : Prop := PairS Bk K w' b' r d d ∧ Only (fun j => ¬ K j) w w'
theorem done_of {Bk : Nat} {K : Nat → Prop} {w W w' : World} {b' r g : Nat} {d : RS} (hB : Below w.heap.size w W) (hg : w.heap.size = g) (h : PairS Bk (fun j => K j ∨ j = g) w' b' r d d) (ho : Only (fun j => ¬ (K j ∨ j = g)) W w') (h6 : ∀ j, j < Bk → K j) : Done Bk K w w' r d b' :=
  ⟨h.less (fun j hj => .inl hj) h6, (Only.of_below hB).trans (ho.mono (fun j _ n k => n (.inl k)))⟩
/-- Neither what K names nor the deed's block g has turned. -/
def OnlyF (K : Nat → Prop) (g : Nat) (W w : World) : Prop := Only (fun j => ¬ (K j ∨ j = g)) W w
theorem OnlyF.next {K : Nat → Prop} {g : Nat} {W w w' : World} (h : OnlyF K g W w) (k : Only (fun j => ¬ (K j ∨ j = g)) w w') : OnlyF K g W w' := Only.trans h k
theorem OnlyF.below {K : Nat → Prop} {g : Nat} {W w w' : World} (h : OnlyF K g W w) (k : Below w.heap.size w w') : OnlyF K g W w' := h.next (Only.of_below k)
theorem OnlyF.refl (K : Nat → Prop) (g : Nat) (W : World) : OnlyF K g W W := Only.refl _ _
theorem OnlyF.cell {K : Nat → Prop} {g : Nat} {W w : World} {t : TypeId} {vs : List Value} (h : OnlyF K g W w) (hb : Blk W g t vs) (k : Nat) {v : Value} (hv : vs[k]? = some v) : w.cell? ⟨g, k, none⟩ = some v := (hb.only h (fun n => n (.inr rfl))).at k hv
/-- A row that nobody asks for any more: none of its blocks is one of Q. -/
def HoldS (Bk : Nat) (Q : Nat → Prop) (w : World) (b L : Nat) : Prop := ∃ d O, Row Bk w b d O ∧ d.H.length = L ∧ (∀ j, O j → ¬ Q j) ∧ ∀ j, Q j → j < w.heap.size
theorem HoldS.step {Bk L : Nat} {Q O : Nat → Prop} {w w' : World} {b : Nat} {d' : RS} (h1 : d'.H.length = L) (h2 : ∀ j, O j → ¬ Q j) (h3 : ∀ j, Q j → j < w.heap.size) (k : Left Bk w w' b d' O) : HoldS Bk Q w' b L ∧ Only (fun j => ¬ Q j) w w' := by
  obtain ⟨O', k1, k2, k3⟩ := k
  exact ⟨⟨_, O', k1, h1, fun j hj q => (k3 j hj).elim (fun o => h2 j o q) (fun e => by have := h3 j q; omega), fun j hj => Nat.lt_of_lt_of_le (h3 j hj) k2.size⟩, k2.mono (fun j _ o => h2 j o)⟩
section
variable {Bk L : Nat} {Q : Nat → Prop} {w : World} {b : Nat} (h : HoldS Bk Q w b L)
include h
theorem Len_hold :
    Calls Tryz.prog 18 #[at0 b] w fun z w' => z = .returned (.int .i64 (L : Nat)) ∧ HoldS Bk Q w' b L ∧ Only (fun j => ¬ Q j) w w' := by
  obtain ⟨d, O, a1, rfl, a2, a3⟩ := h
  refine (Len_any Bk b d O w a1).mono ?_
  rintro z w' ⟨rfl, hb⟩
  exact ⟨rfl, ⟨d, O, a1.keep hb, rfl, a2, fun j hj => Nat.lt_of_lt_of_le (a3 j hj) hb.size⟩, Only.of_below hb⟩
theorem Give_hold (n x : Int) (h1 : I64 n) (h2 : I64 x) :
    Calls Tryz.prog 15 #[at0 b, .int .i64 n, .int .i64 x] w fun z w' => (∃ t, z = .returned (.int .i64 t)) ∧ HoldS Bk Q w' b L ∧ Only (fun j => ¬ Q j) w w' := by
  obtain ⟨d, O, a1, hl, a2, a3⟩ := h
  refine (Give_any Bk b d O n x w h1 h2 a1).mono ?_
  rintro z w' ⟨rfl, k⟩
  exact ⟨⟨_, rfl⟩, HoldS.step ((len_give d n x).trans hl) a2 a3 k⟩
theorem Take_hold (n : Int) (h1 : I64 n) :
    Calls Tryz.prog 16 #[at0 b, .int .i64 n] w fun z w' => (∃ t, z = .returned (.int .i64 t)) ∧ HoldS Bk Q w' b L ∧ Only (fun j => ¬ Q j) w w' := by
  obtain ⟨d, O, a1, hl, a2, a3⟩ := h
  refine (Take_any Bk b d O n w h1 a1).mono ?_
  rintro z w' ⟨rfl, k⟩
  exact ⟨⟨_, rfl⟩, HoldS.step ((len_take d n).trans hl) a2 a3 k⟩
theorem Tick_hold :
    Calls Tryz.prog 20 #[at0 b] w fun z w' => (∃ a n c, z = .returned (.slice a n c)) ∧ HoldS Bk Q w' b L ∧ Only (fun j => ¬ Q j) w w' := by
  obtain ⟨d, O, a1, hl, a2, a3⟩ := h
  refine (Tick_any Bk b d O w a1).mono ?_
  rintro z w' ⟨a, c, O', rfl, hr, k1, k2, k3, k4⟩
  exact ⟨⟨_, _, _, rfl⟩, HoldS.step (by simp [tickV, hl]) a2 a3 ⟨O', k1, k2, k3⟩⟩
end
theorem PairS.low {Bk : Nat} {K : Nat → Prop} {w : World} {b r : Nat} {d e : RS} (h : PairS Bk K w b r d e) : ∀ j, j < Bk → K j := by
  obtain ⟨O, P, h1, h2, h3, h4, h5, h6⟩ := h
  exact h6
theorem drewN_below' {w w' : World} (h : ∃ j, w' = w.drewN j) : Below w.heap.size w w' := by
  obtain ⟨j, rfl⟩ := h
  exact ⟨rfl, rfl, rfl, Nat.le_refl _, fun _ _ => rfl⟩
set_option maxRecDepth 100000 in
set_option maxHeartbeats 4000000 in
theorem does_0 (Bk : Nat) (K : Nat → Prop) (b r : Nat) (d : RS) (wh n x : Int) (w : World) (h1 : I64 n) (h2 : I64 x) (h : PairS Bk K w b r d d)
    (hp : ∀ W, Calls Tryz.prog 36 #[.int .i64 wh, .int .i64 6] W fun z w' => z = .returned (.int .i64 0) ∧ W = w') :
    Calls Tryz.prog 12 #[at0 b, at0 r, .agg #[.int .i64 wh, .int .i64 n, .int .i64 x]] w fun z w' => ∃ b' d', z = .returned (.tuple #[at0 b', .bool true]) ∧ Done Bk K w w' r d' b' := by
  have HP := Lib.hid hp
  have H6 := Lib.hid h.low
  have H := Lib.hid h
  have H1 := Lib.hid h1
  have H2 := Lib.hid h2
  clear hp h h1 h2
  go_enter Tryz.func12, Tryz.ntmps12
  go_wp2_with fail
  refine calls_letter ?_
  intro W hW
  have B0 := Lib.hid (show Below w.heap.size w W by rw [hW.out]; exact (Below.refl _ _).alloc (Nat.le_refl _) _)
  have A0 := Lib.hid (show Blk W w.heap.size 39 [.int .i64 wh, .int .i64 n, .int .i64 x] by rw [hW.out]; exact Blk.new w _ _)
  have P0' := Lib.hid (H.out.also B0.out (fun j => j = w.heap.size) (fun j e => by have e : j = w.heap.size := e; exact ⟨Nat.le_of_eq e.symm, by rw [e]; exact A0.out.lt⟩))
  obtain ⟨g, hg⟩ : ∃ g, w.heap.size = g := ⟨_, rfl⟩
  have HG := Lib.hid hg
  rw [hg] at A0 P0'
  try rw [hg]
  have P0 : PairS Bk (fun j => K j ∨ j = g) W b r d d := P0'.out
  have O0 : OnlyF K g W W := OnlyF.refl _ _ _
  have ld : ∀ k v', [Value.int .i64 wh, .int .i64 n, .int .i64 x][k]? = some v' → ∀ w', OnlyF K g W w' → w'.cell? ⟨g, k, none⟩ = some v' := fun k v' hv w' hb => hb.cell A0.out k hv
  have l0 := ld 0 _ rfl
  have l1 := ld 1 _ rfl
  have l2 := ld 2 _ rfl
  have m0 := l0 W O0
  have m1 := l1 W O0
  have m2 := l2 W O0
  clear hW hg ld P0'
  refine (HP.out W).mono ?_
  rintro e w1 ⟨rfl, rfl⟩
  obtain ⟨y, hy⟩ : ∃ y, (giveV d n x).1 = y := ⟨_, rfl⟩
  have HR := Lib.hid (fun W' (h : PairS Bk (fun j => K j ∨ j = g) W' b r d d) => Give_pair h n x H1.out H2.out)
  have HQ := Lib.hid (fun W' (h : PairS Bk (fun j => K j ∨ j = g) W' b r (giveV d n x).2 d) => rGive_pair h n x)
  rw [hy] at HR HQ
  have xx : (y == y) = true := by simp
  clear hy
  have PD := P0.keep (Below.refl _ _).drew
  have OD : OnlyF K g W W.drew := O0.below (Below.refl _ _).drew
  clear P0 O0
  go_wp2_with fail
  go_region_held3 (fun w' => OnlyF K g W w')
    (first | assumption)
    (first
      | (go_at_call 15; refine (HR.out _ (by assumption)).mono ?_; rintro e w2 ⟨rfl, P2, o2⟩; have O2 : OnlyF K g W w2 := OD.next o2)
      | (go_at_call 37; refine (HQ.out _ (by assumption)).mono ?_; rintro e w3 ⟨rfl, P3, o3⟩; have O3 : OnlyF K g W w3 := O2.next o3; have R := Lib.hid (done_of B0.out HG.out P3 O3 H6.out)))
  all_goals
    clear l0 l1 l2 m0 m1 m2
    go_wp2_with fail
    go_ret2
    exact ⟨b, _, rfl, R.out⟩
set_option maxRecDepth 100000 in
set_option maxHeartbeats 4000000 in
theorem does_1 (Bk : Nat) (K : Nat → Prop) (b r : Nat) (d : RS) (wh n x : Int) (w : World) (h1 : I64 n) (h2 : I64 x) (h : PairS Bk K w b r d d)
    (hp : ∀ W, Calls Tryz.prog 36 #[.int .i64 wh, .int .i64 6] W fun z w' => z = .returned (.int .i64 1) ∧ W = w') :
    Calls Tryz.prog 12 #[at0 b, at0 r, .agg #[.int .i64 wh, .int .i64 n, .int .i64 x]] w fun z w' => ∃ b' d', z = .returned (.tuple #[at0 b', .bool true]) ∧ Done Bk K w w' r d' b' := by
  have HP := Lib.hid hp
  have H6 := Lib.hid h.low
  have H := Lib.hid h
  have H1 := Lib.hid h1
  have H2 := Lib.hid h2
  clear hp h h1 h2
  go_enter Tryz.func12, Tryz.ntmps12
  go_wp2_with fail
  refine calls_letter ?_
  intro W hW
  have B0 := Lib.hid (show Below w.heap.size w W by rw [hW.out]; exact (Below.refl _ _).alloc (Nat.le_refl _) _)
  have A0 := Lib.hid (show Blk W w.heap.size 39 [.int .i64 wh, .int .i64 n, .int .i64 x] by rw [hW.out]; exact Blk.new w _ _)
  have P0' := Lib.hid (H.out.also B0.out (fun j => j = w.heap.size) (fun j e => by have e : j = w.heap.size := e; exact ⟨Nat.le_of_eq e.symm, by rw [e]; exact A0.out.lt⟩))
  obtain ⟨g, hg⟩ : ∃ g, w.heap.size = g := ⟨_, rfl⟩
  have HG := Lib.hid hg
  rw [hg] at A0 P0'
  try rw [hg]
  have P0 : PairS Bk (fun j => K j ∨ j = g) W b r d d := P0'.out
  have O0 : OnlyF K g W W := OnlyF.refl _ _ _
  have ld : ∀ k v', [Value.int .i64 wh, .int .i64 n, .int .i64 x][k]? = some v' → ∀ w', OnlyF K g W w' → w'.cell? ⟨g, k, none⟩ = some v' := fun k v' hv w' hb => hb.cell A0.out k hv
  have l0 := ld 0 _ rfl
  have l1 := ld 1 _ rfl
  have l2 := ld 2 _ rfl
  have m0 := l0 W O0
  have m1 := l1 W O0
  have m2 := l2 W O0
  clear hW hg ld P0'
  refine (HP.out W).mono ?_
  rintro e w1 ⟨rfl, rfl⟩
  obtain ⟨y, hy⟩ : ∃ y, (takeV d n).1 = y := ⟨_, rfl⟩
  have HR := Lib.hid (fun W' (h : PairS Bk (fun j => K j ∨ j = g) W' b r d d) => Take_pair h n H1.out)
  have HQ := Lib.hid (fun W' (h : PairS Bk (fun j => K j ∨ j = g) W' b r (takeV d n).2 d) => rTake_pair h n)
  rw [hy] at HR HQ
  have xx : (y == y) = true := by simp
  clear hy
  have PD := P0.keep (Below.refl _ _).drew
  have OD : OnlyF K g W W.drew := O0.below (Below.refl _ _).drew
  clear P0 O0
  go_wp2_with fail
  go_region_held3 (fun w' => OnlyF K g W w')
    (first | assumption)
    (first
      | (go_at_call 16; refine (HR.out _ (by assumption)).mono ?_; rintro e w2 ⟨rfl, P2, o2⟩; have O2 : OnlyF K g W w2 := OD.next o2)
      | (go_at_call 38; refine (HQ.out _ (by assumption)).mono ?_; rintro e w3 ⟨rfl, P3, o3⟩; have O3 : OnlyF K g W w3 := O2.next o3; have R := Lib.hid (done_of B0.out HG.out P3 O3 H6.out)))
  all_goals
    clear l0 l1 l2 m0 m1 m2
    go_wp2_with fail
    go_ret2
    exact ⟨b, _, rfl, R.out⟩
set_option maxRecDepth 100000 in
set_option maxHeartbeats 4000000 in
theorem does_2 (Bk : Nat) (K : Nat → Prop) (b r : Nat) (d : RS) (wh n x : Int) (w : World) (h1 : I64 n) (h2 : I64 x) (h : PairS Bk K w b r d d)
    (hp : ∀ W, Calls Tryz.prog 36 #[.int .i64 wh, .int .i64 6] W fun z w' => z = .returned (.int .i64 2) ∧ W = w') :
    Calls Tryz.prog 12 #[at0 b, at0 r, .agg #[.int .i64 wh, .int .i64 n, .int .i64 x]] w fun z w' => ∃ b' d', z = .returned (.tuple #[at0 b', .bool true]) ∧ Done Bk K w w' r d' b' := by
  have HP := Lib.hid hp
  have H6 := Lib.hid h.low
  have H := Lib.hid h
  have H1 := Lib.hid h1
  have H2 := Lib.hid h2
  clear hp h h1 h2
  go_enter Tryz.func12, Tryz.ntmps12
  go_wp2_with fail
  refine calls_letter ?_
  intro W hW
  have B0 := Lib.hid (show Below w.heap.size w W by rw [hW.out]; exact (Below.refl _ _).alloc (Nat.le_refl _) _)
  have A0 := Lib.hid (show Blk W w.heap.size 39 [.int .i64 wh, .int .i64 n, .int .i64 x] by rw [hW.out]; exact Blk.new w _ _)
  have P0' := Lib.hid (H.out.also B0.out (fun j => j = w.heap.size) (fun j e => by have e : j = w.heap.size := e; exact ⟨Nat.le_of_eq e.symm, by rw [e]; exact A0.out.lt⟩))
  obtain ⟨g, hg⟩ : ∃ g, w.heap.size = g := ⟨_, rfl⟩
  have HG := Lib.hid hg
  rw [hg] at A0 P0'
  try rw [hg]
  have P0 : PairS Bk (fun j => K j ∨ j = g) W b r d d := P0'.out
  have O0 : OnlyF K g W W := OnlyF.refl _ _ _
  have ld : ∀ k v', [Value.int .i64 wh, .int .i64 n, .int .i64 x][k]? = some v' → ∀ w', OnlyF K g W w' → w'.cell? ⟨g, k, none⟩ = some v' := fun k v' hv w' hb => hb.cell A0.out k hv
  have l0 := ld 0 _ rfl
  have l1 := ld 1 _ rfl
  have l2 := ld 2 _ rfl
  have m0 := l0 W O0
  have m1 := l1 W O0
  have m2 := l2 W O0
  clear hW hg ld P0'
  refine (HP.out W).mono ?_
  rintro e w1 ⟨rfl, rfl⟩
  obtain ⟨y, hy⟩ : ∃ y, (moveV d n x).1 = y := ⟨_, rfl⟩
  have HR := Lib.hid (fun W' (h : PairS Bk (fun j => K j ∨ j = g) W' b r d d) => Move_pair h n x H1.out H2.out)
  have HQ := Lib.hid (fun W' (h : PairS Bk (fun j => K j ∨ j = g) W' b r (moveV d n x).2 d) => rMove_pair h n x)
  rw [hy] at HR HQ
  have xx : (y == y) = true := by simp
  clear hy
  have PD := P0.keep (Below.refl _ _).drew
  have OD : OnlyF K g W W.drew := O0.below (Below.refl _ _).drew
  clear P0 O0
  go_wp2_with fail
  go_region_held3 (fun w' => OnlyF K g W w')
    (first | assumption)
    (first
      | (go_at_call 17; refine (HR.out _ (by assumption)).mono ?_; rintro e w2 ⟨rfl, P2, o2⟩; have O2 : OnlyF K g W w2 := OD.next o2)
      | (go_at_call 40; refine (HQ.out _ (by assumption)).mono ?_; rintro e w3 ⟨rfl, P3, o3⟩; have O3 : OnlyF K g W w3 := O2.next o3; have R := Lib.hid (done_of B0.out HG.out P3 O3 H6.out)))
  all_goals
    clear l0 l1 l2 m0 m1 m2
    go_wp2_with fail
    go_ret2
    exact ⟨b, _, rfl, R.out⟩
set_option maxRecDepth 100000 in
set_option maxHeartbeats 4000000 in
theorem does_3 (Bk : Nat) (K : Nat → Prop) (b r : Nat) (d : RS) (wh n x : Int) (w : World) (h1 : I64 n) (h2 : I64 x) (h : PairS Bk K w b r d d)
    (hp : ∀ W, Calls Tryz.prog 36 #[.int .i64 wh, .int .i64 6] W fun z w' => z = .returned (.int .i64 3) ∧ W = w') :
    Calls Tryz.prog 12 #[at0 b, at0 r, .agg #[.int .i64 wh, .int .i64 n, .int .i64 x]] w fun z w' => ∃ b' d', z = .returned (.tuple #[at0 b', .bool true]) ∧ Done Bk K w w' r d' b' := by
  have HP := Lib.hid hp
  have H6 := Lib.hid h.low
  have H := Lib.hid h
  have H1 := Lib.hid h1
  have H2 := Lib.hid h2
  clear hp h h1 h2
  go_enter Tryz.func12, Tryz.ntmps12
  go_wp2_with fail
  refine calls_letter ?_
  intro W hW
  have B0 := Lib.hid (show Below w.heap.size w W by rw [hW.out]; exact (Below.refl _ _).alloc (Nat.le_refl _) _)
  have A0 := Lib.hid (show Blk W w.heap.size 39 [.int .i64 wh, .int .i64 n, .int .i64 x] by rw [hW.out]; exact Blk.new w _ _)
  have P0' := Lib.hid (H.out.also B0.out (fun j => j = w.heap.size) (fun j e => by have e : j = w.heap.size := e; exact ⟨Nat.le_of_eq e.symm, by rw [e]; exact A0.out.lt⟩))
  obtain ⟨g, hg⟩ : ∃ g, w.heap.size = g := ⟨_, rfl⟩
  have HG := Lib.hid hg
  rw [hg] at A0 P0'
  try rw [hg]
  have P0 : PairS Bk (fun j => K j ∨ j = g) W b r d d := P0'.out
  have O0 : OnlyF K g W W := OnlyF.refl _ _ _
  have ld : ∀ k v', [Value.int .i64 wh, .int .i64 n, .int .i64 x][k]? = some v' → ∀ w', OnlyF K g W w' → w'.cell? ⟨g, k, none⟩ = some v' := fun k v' hv w' hb => hb.cell A0.out k hv
  have l0 := ld 0 _ rfl
  have l1 := ld 1 _ rfl
  have l2 := ld 2 _ rfl
  have m0 := l0 W O0
  have m1 := l1 W O0
  have m2 := l2 W O0
  clear hW hg ld P0'
  refine (HP.out W).mono ?_
  rintro e w1 ⟨rfl, rfl⟩
  obtain ⟨y, hy⟩ : ∃ y, (moveV d n x).1 = y := ⟨_, rfl⟩
  have HR := Lib.hid (fun W' (h : PairS Bk (fun j => K j ∨ j = g) W' b r d d) => Move_pair h n x H1.out H2.out)
  have HQ := Lib.hid (fun W' (h : PairS Bk (fun j => K j ∨ j = g) W' b r (moveV d n x).2 d) => rMove_pair h n x)
  rw [hy] at HR HQ
  have xx : (y == y) = true := by simp
  clear hy
  have PD := P0.keep (Below.refl _ _).drew
  have OD : OnlyF K g W W.drew := O0.below (Below.refl _ _).drew
  clear P0 O0
  go_wp2_with fail
  go_region_held3 (fun w' => OnlyF K g W w')
    (first | assumption)
    (first
      | (go_at_call 17; refine (HR.out _ (by assumption)).mono ?_; rintro e w2 ⟨rfl, P2, o2⟩; have O2 : OnlyF K g W w2 := OD.next o2)
      | (go_at_call 40; refine (HQ.out _ (by assumption)).mono ?_; rintro e w3 ⟨rfl, P3, o3⟩; have O3 : OnlyF K g W w3 := O2.next o3; have R := Lib.hid (done_of B0.out HG.out P3 O3 H6.out)))
  all_goals
    clear l0 l1 l2 m0 m1 m2
    go_wp2_with fail
    go_ret2
    exact ⟨b, _, rfl, R.out⟩
set_option maxRecDepth 100000 in
set_option maxHeartbeats 4000000 in
theorem does_4 (Bk : Nat) (K : Nat → Prop) (b r : Nat) (d : RS) (wh n x : Int) (w : World) (h1 : I64 n) (h2 : I64 x) (h : PairS Bk K w b r d d)
    (hp : ∀ W, Calls Tryz.prog 36 #[.int .i64 wh, .int .i64 6] W fun z w' => z = .returned (.int .i64 4) ∧ W = w') :
    Calls Tryz.prog 12 #[at0 b, at0 r, .agg #[.int .i64 wh, .int .i64 n, .int .i64 x]] w fun z w' => ∃ b' d', z = .returned (.tuple #[at0 b', .bool true]) ∧ Done Bk K w w' r d' b' := by
  have HP := Lib.hid hp
  have H6 := Lib.hid h.low
  have H := Lib.hid h
  have H1 := Lib.hid h1
  have H2 := Lib.hid h2
  clear hp h h1 h2
  go_enter Tryz.func12, Tryz.ntmps12
  go_wp2_with fail
  refine calls_letter ?_
  intro W hW
  have B0 := Lib.hid (show Below w.heap.size w W by rw [hW.out]; exact (Below.refl _ _).alloc (Nat.le_refl _) _)
  have A0 := Lib.hid (show Blk W w.heap.size 39 [.int .i64 wh, .int .i64 n, .int .i64 x] by rw [hW.out]; exact Blk.new w _ _)
  have P0' := Lib.hid (H.out.also B0.out (fun j => j = w.heap.size) (fun j e => by have e : j = w.heap.size := e; exact ⟨Nat.le_of_eq e.symm, by rw [e]; exact A0.out.lt⟩))
  obtain ⟨g, hg⟩ : ∃ g, w.heap.size = g := ⟨_, rfl⟩
  have HG := Lib.hid hg
  rw [hg] at A0 P0'
  try rw [hg]
  have P0 : PairS Bk (fun j => K j ∨ j = g) W b r d d := P0'.out
  have O0 : OnlyF K g W W := OnlyF.refl _ _ _
  have ld : ∀ k v', [Value.int .i64 wh, .int .i64 n, .int .i64 x][k]? = some v' → ∀ w', OnlyF K g W w' → w'.cell? ⟨g, k, none⟩ = some v' := fun k v' hv w' hb => hb.cell A0.out k hv
  have l0 := ld 0 _ rfl
  have l1 := ld 1 _ rfl
  have l2 := ld 2 _ rfl
  have m0 := l0 W O0
  have m1 := l1 W O0
  have m2 := l2 W O0
  clear hW hg ld P0'
  refine (HP.out W).mono ?_
  rintro e w1 ⟨rfl, rfl⟩
  obtain ⟨q, hn, hpk⟩ := Pk.pick_is n 20 (by decide) (by decide)
  have HK := Lib.hid hpk
  have HN := Lib.hid hn
  have P0h := Lib.hid P0
  have O0h := Lib.hid O0
  clear hn hpk P0 O0 m0 m1 m2
  go_wp2_with fail
  go_loopw [8] (fun i wr => ∃ (k : Nat) (d' : RS), k ≤ q ∧ i = .int .i64 (k : Nat) ∧ OnlyF K g W wr ∧ PairS Bk (fun j => K j ∨ j = g) wr b r d' d') (fun i _ => q - (intOf i).toNat)
  case atStart => exact ⟨0, d, Nat.zero_le _, rfl, O0h.out, P0h.out⟩
  case round =>
  obtain ⟨k, d', hk, rfl, ho, hq⟩ := hrel
  have m1 := l1 wr ho
  have Ho := Lib.hid ho
  have Hq := Lib.hid hq
  clear ho hq
  by_cases hlt : k < q
  · have d1 : decide ((k : Int) < (q : Int)) = true := decide_eq_true (by omega)
    have d1' : decide (k < q) = true := decide_eq_true hlt
    have wk : IntKind.i64.wrap ((k : Int) + 1) = (k : Int) + 1 := IntWalk.i64_in _ (by have := HN.out; omega)
    have HR := Lib.hid (Tick_pair Hq.out)
    have Hlt := Lib.hid hlt
    clear hlt hk
    go_wp2_with fail
    refine (HK.out wr).mono ?_
    rintro e w1 ⟨rfl, rfl⟩
    go_wp2_with fail
    refine HR.out.mono ?_
    rintro e w2 ⟨a2, c2, rfl, hr2, P2, o2⟩
    have R2 := Lib.hid hr2
    have HQ2 := Lib.hid (rTick_pair P2)
    have O2 := Lib.hid (Ho.out.next o2)
    clear P2 o2 hr2 HR m1
    go_wp2_with fail
    refine HQ2.out.mono ?_
    rintro e w3 ⟨a3, c3, rfl, hr3, P3, o3⟩
    have O3 := Lib.hid (O2.out.next (o3.mono (fun j _ n k => n (.inl k))))
    have P3h := Lib.hid (P3.less (K' := fun j => K j ∨ j = g) (fun j hj => .inl hj) (fun j hj => .inl (H6.out j hj)))
    have HS := Lib.hid (same_ints (own_only R2.out o3 (fun j hj n => n (.inr (pb_ba hj)))) hr3)
    clear P3 o3 hr3 HQ2 O2 R2
    go_wp2_with fail
    refine HS.out.mono ?_
    rintro e w4 ⟨rfl, hd⟩
    have hb := drewN_below' hd
    have P4 := Lib.hid (P3h.out.keep hb)
    have O4 := Lib.hid (O3.out.below hb)
    clear hb hd HS O3 P3h
    go_wp2_with fail
    exact ⟨⟨k + 1, _, Hlt.out, by go_num, O4.out, P4.out⟩, by have := Hlt.out; simp [intOf]; omega⟩
  · have d1 : decide ((k : Int) < (q : Int)) = false := decide_eq_false (by omega)
    have d1' : decide (k < q) = false := decide_eq_false hlt
    have R := Lib.hid (done_of B0.out HG.out Hq.out Ho.out H6.out)
    clear hlt hk
    go_wp2_with fail
    refine (HK.out wr).mono ?_
    rintro e w1 ⟨rfl, rfl⟩
    go_wp2_with fail
    go_ret2
    exact ⟨b, _, rfl, R.out⟩
set_option maxRecDepth 100000 in
set_option maxHeartbeats 4000000 in
theorem does_5 (Bk : Nat) (K : Nat → Prop) (b r : Nat) (d : RS) (wh n x : Int) (w : World) (h1 : I64 n) (h2 : I64 x) (h : PairS Bk K w b r d d)
    (hp : ∀ W, Calls Tryz.prog 36 #[.int .i64 wh, .int .i64 6] W fun z w' => z = .returned (.int .i64 5) ∧ W = w') :
    Calls Tryz.prog 12 #[at0 b, at0 r, .agg #[.int .i64 wh, .int .i64 n, .int .i64 x]] w fun z w' => ∃ b' d', z = .returned (.tuple #[at0 b', .bool true]) ∧ Done Bk K w w' r d' b' := by
  have HP := Lib.hid hp
  have H6 := Lib.hid h.low
  have H := Lib.hid h
  have H1 := Lib.hid h1
  have H2 := Lib.hid h2
  clear hp h h1 h2
  go_enter Tryz.func12, Tryz.ntmps12
  go_wp2_with fail
  refine calls_letter ?_
  intro W hW
  have B0 := Lib.hid (show Below w.heap.size w W by rw [hW.out]; exact (Below.refl _ _).alloc (Nat.le_refl _) _)
  have A0 := Lib.hid (show Blk W w.heap.size 39 [.int .i64 wh, .int .i64 n, .int .i64 x] by rw [hW.out]; exact Blk.new w _ _)
  have P0' := Lib.hid (H.out.also B0.out (fun j => j = w.heap.size) (fun j e => by have e : j = w.heap.size := e; exact ⟨Nat.le_of_eq e.symm, by rw [e]; exact A0.out.lt⟩))
  obtain ⟨g, hg⟩ : ∃ g, w.heap.size = g := ⟨_, rfl⟩
  have HG := Lib.hid hg
  rw [hg] at A0 P0'
  try rw [hg]
  have P0 : PairS Bk (fun j => K j ∨ j = g) W b r d d := P0'.out
  have O0 : OnlyF K g W W := OnlyF.refl _ _ _
  have ld : ∀ k v', [Value.int .i64 wh, .int .i64 n, .int .i64 x][k]? = some v' → ∀ w', OnlyF K g W w' → w'.cell? ⟨g, k, none⟩ = some v' := fun k v' hv w' hb => hb.cell A0.out k hv
  have l0 := ld 0 _ rfl
  have l1 := ld 1 _ rfl
  have l2 := ld 2 _ rfl
  have m0 := l0 W O0
  have m1 := l1 W O0
  have m2 := l2 W O0
  clear hW hg ld P0'
  refine (HP.out W).mono ?_
  rintro e w1 ⟨rfl, rfl⟩
  obtain ⟨L, hL⟩ : ∃ L, d.H.length = L := ⟨_, rfl⟩
  have HLL := Lib.hid (show L ≤ 16 by rw [← hL]; exact P0.ok.few)
  have HL := Lib.hid hL
  obtain ⟨O, P, a1, a2, a3, a4, a5, a6⟩ := P0
  have HC := Lib.hid (Copy_any Bk b d O W a1)
  have A1 := Lib.hid a1
  have A2 := Lib.hid a2
  have A3 := Lib.hid a3
  have A4 := Lib.hid a4
  have A5 := Lib.hid a5
  have A6 := Lib.hid a6
  have O0h := Lib.hid O0
  clear a1 a2 a3 a4 a5 a6 O0 m0 m1 hL
  go_wp2_with fail
  refine HC.out.mono ?_
  rintro e W2 ⟨⟨c, O', rfl, c1, c2⟩, cb⟩
  have la1 := A1.out.lt
  have la2 := A2.out.lt
  have lc := c1.lt
  have hs := cb.size
  have OF2 := Lib.hid (O0h.out.below cb)
  obtain ⟨Q, hQ⟩ : ∃ Q : Nat → Prop, Q = fun j => (K j ∨ j = g) ∨ O' j ∨ P j := ⟨_, rfl⟩
  have HD := Lib.hid (show HoldS Bk Q W2 b L from ⟨d, O, A1.out.keep cb, HL.out, fun j hj q => by
    rw [hQ] at q
    rcases q with q | q | q
    · exact (A3.out j hj).1 q
    · have := c2 j q; have := (la1 j hj).2; omega
    · exact (A3.out j hj).2 q, fun j q => by
    rw [hQ] at q
    rcases q with q | q | q
    · have := A5.out j q; omega
    · exact (lc j q).2
    · have := la2 j q; omega⟩)
  have C1 := Lib.hid c1
  have C2 := Lib.hid (A2.out.keep cb)
  have C3 := Lib.hid (show ∀ j, O' j → ¬ (K j ∨ j = g) ∧ ¬ P j from fun j hj => ⟨fun k => by have := c2 j hj; have := A5.out j k; omega, fun k => by have := c2 j hj; have := la2 j k; omega⟩)
  have QK := Lib.hid (show ∀ j, (K j ∨ j = g) → Q j from fun j k => by rw [hQ]; exact .inl k)
  have QO := Lib.hid (show ∀ j, O' j → Q j from fun j k => by rw [hQ]; exact .inr (.inl k))
  have QP := Lib.hid (show ∀ j, P j → Q j from fun j k => by rw [hQ]; exact .inr (.inr k))
  have HS2 := Lib.hid hs
  clear hQ la1 la2 lc hs c1 c2 cb HC m2
  go_wp2_with fail
  go_loopw [10] (fun i wr => ∃ (k : Nat), k ≤ L ∧ i = .int .i64 (k : Nat) ∧ HoldS Bk Q wr b L ∧ Only (fun j => ¬ Q j) W2 wr) (fun i _ => L - (intOf i).toNat)
  case atStart => exact ⟨0, by omega, rfl, HD.out, Only.refl _ _⟩
  case round =>
  obtain ⟨k, hk, rfl, hq, ho⟩ := hrel
  have Ho := Lib.hid ho
  have HN := Lib.hid (Len_hold hq)
  clear ho hq
  by_cases hlt : k < L
  · have d1 : decide ((k : Int) < (L : Int)) = true := decide_eq_true (by omega)
    have d1' : decide (k < L) = true := decide_eq_true hlt
    have wk : IntKind.i64.wrap ((k : Int) + 1) = (k : Int) + 1 := IntWalk.i64_in _ (by have := HLL.out; omega)
    have hk64 := Lib.hid (show I64 (k : Int) from ⟨by omega, by have := HLL.out; omega⟩)
    have Hlt := Lib.hid hlt
    clear hlt hk
    go_wp2_with fail
    refine HN.out.mono ?_
    rintro e w1 ⟨rfl, q1, o1⟩
    have O1 := Lib.hid (Ho.out.trans o1)
    have HW := Lib.hid (Give_hold q1 (k : Int) x hk64.out H2.out)
    have OFr := Lib.hid (OF2.out.next (O1.out.mono (fun j _ n q => n (QK.out j q))))
    have m2 := l2 w1 OFr.out
    clear q1 o1 HN
    go_wp2_with fail
    refine HW.out.mono ?_
    rintro e w2 ⟨⟨t, rfl⟩, q2, o2⟩
    have Q2 := Lib.hid (Take_hold q2 (k : Int) hk64.out)
    have O2 := Lib.hid (O1.out.trans o2)
    clear q2 o2 HW m2
    go_wp2_with fail
    refine Q2.out.mono ?_
    rintro e w3 ⟨⟨t1, rfl⟩, q3, o3⟩
    have Q3 := Lib.hid q3
    have O3 := Lib.hid (O2.out.trans o3)
    clear q3 o3 Q2
    go_wp2_with fail
    exact ⟨⟨k + 1, Hlt.out, by go_num, Q3.out, O3.out⟩, by have := Hlt.out; simp [intOf]; omega⟩
  · have d1 : decide ((k : Int) < (L : Int)) = false := decide_eq_false (by omega)
    have d1' : decide (k < L) = false := decide_eq_false hlt
    clear hlt hk
    go_wp2_with fail
    refine HN.out.mono ?_
    rintro e w1 ⟨rfl, q1, o1⟩
    have O1 := Lib.hid (Ho.out.trans o1)
    have HR := Lib.hid (Tick_hold q1)
    clear q1 o1 HN
    go_wp2_with fail
    refine HR.out.mono ?_
    rintro e w2 ⟨⟨ta, tn, tc, rfl⟩, q2, o2⟩
    have O2 := O1.out.trans o2
    have O2F := OF2.out.next (O2.mono (fun j _ n q => n (QK.out j q)))
    have hBK : ∀ j, ¬ Q j → Bk ≤ j := fun j n => Nat.le_of_not_lt (fun e => n (QK.out j (A6.out j e)))
    have PE : PairS Bk (fun j => K j ∨ j = g) w2 c r d d := ⟨O', P, C1.out.only O2 (fun j hj n => n (QO.out j hj)) hBK, C2.out.only O2 (fun j hj n => n (QP.out j hj)), C3.out, A4.out, fun j hj => by have := A5.out j hj; have := HS2.out; have := O2.size; omega, A6.out⟩
    have R := Lib.hid (done_of B0.out HG.out PE O2F H6.out)
    clear PE O2 O2F hBK q2 o2 HR
    go_wp2_with fail
    go_ret2
    exact ⟨c, _, rfl, R.out⟩
theorem does_any (Bk : Nat) (K : Nat → Prop) (b r : Nat) (d : RS) (wh n x : Int) (w : World) (h1 : I64 n) (h2 : I64 x) (h : PairS Bk K w b r d d) :
    Calls Tryz.prog 12 #[at0 b, at0 r, .agg #[.int .i64 wh, .int .i64 n, .int .i64 x]] w fun z w' => ∃ b' d', z = .returned (.tuple #[at0 b', .bool true]) ∧ Done Bk K w w' r d' b' := by
  obtain ⟨p, hp, hpk⟩ := Pk.pick_is wh 6 (by decide) (by decide)
  have hc : p = 0 ∨ p = 1 ∨ p = 2 ∨ p = 3 ∨ p = 4 ∨ p = 5 := by omega
  rcases hc with rfl | rfl | rfl | rfl | rfl | rfl
  · exact does_0 Bk K b r d wh n x w h1 h2 h hpk
  · exact does_1 Bk K b r d wh n x w h1 h2 h hpk
  · exact does_2 Bk K b r d wh n x w h1 h2 h hpk
  · exact does_3 Bk K b r d wh n x w h1 h2 h hpk
  · exact does_4 Bk K b r d wh n x w h1 h2 h hpk
  · exact does_5 Bk K b r d wh n x w h1 h2 h hpk
end Go.Proofs.YtmdepkehpohgeaaGreat.Scr
