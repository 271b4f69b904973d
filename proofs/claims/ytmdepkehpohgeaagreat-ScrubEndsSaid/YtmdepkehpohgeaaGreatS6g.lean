/- A row and the document's side by side. -/
import Derived.Test.YtmdepkehpohgeaaGreatS6w
import Derived.Test.YtmdepkehpohgeaaGreatS6v
import Derived.Test.YtmdepkehpohgeaaGreatS6d
import Derived.Handy
namespace Go.Proofs.YtmdepkehpohgeaaGreat.Scr
open Go.RowKit Go.Maps Go.ChangeShapes Go.WideShapes Go.ChangeAt Fifo Orow Word
set_option linter.unusedVariables false

abbrev at0 (a : Nat) : Value := .pointer (some ⟨a, 0, none⟩)
theorem below_onlyS {K : Nat → Prop} {B : Nat} {w w1 w2 : World} (h : Below B w w1) (ho : Only (fun j => ¬ K j) w1 w2) (hB : B ≤ w.heap.size) (hK : ∀ j, j < B → K j) : Below B w w2 :=
  h.trans (ho.below (Nat.le_trans hB h.size) (fun j hj => Nat.le_of_not_lt (fun e => hj (hK j e))))
/-- The device in block b has d, the document's in block r has e; none of their blocks is one of K, which has all below Bk. -/
def PairS (Bk : Nat) (K : Nat → Prop) (w : World) (b r : Nat) (d e : RS) : Prop :=
  ∃ O P, Row Bk w b d O ∧ RefS w r e P ∧ (∀ j, O j → ¬ K j ∧ ¬ P j) ∧ (∀ j, P j → ¬ K j) ∧ (∀ j, K j → j < w.heap.size) ∧ ∀ j, j < Bk → K j
theorem PairS.keep {Bk : Nat} {K : Nat → Prop} {w w' : World} {b r : Nat} {d e : RS} (h : PairS Bk K w b r d e) (hb : Below w.heap.size w w') : PairS Bk K w' b r d e := by
  obtain ⟨O, P, h1, h2, h3, h4, h5, h6⟩ := h
  exact ⟨O, P, h1.keep hb, h2.keep hb, h3, h4, fun j hj => Nat.lt_of_lt_of_le (h5 j hj) hb.size, h6⟩
theorem PairS.ok {Bk : Nat} {K : Nat → Prop} {w : World} {b r : Nat} {d e : RS} (h : PairS Bk K w b r d e) : OkS d := by
  obtain ⟨O, P, h1, _⟩ := h
  exact h1.ok
theorem PairS.less {Bk : Nat} {K K' : Nat → Prop} {w : World} {b r : Nat} {d e : RS} (h : PairS Bk K w b r d e) (hK : ∀ j, K' j → K j) (h6 : ∀ j, j < Bk → K' j) : PairS Bk K' w b r d e := by
  obtain ⟨O, P, h1, h2, h3, h4, h5, _⟩ := h
  exact ⟨O, P, h1, h2, fun j hj => ⟨fun k => (h3 j hj).1 (hK j k), (h3 j hj).2⟩, fun j hj k => h4 j hj (hK j k), fun j hj => h5 j (hK j hj), h6⟩
/-- New blocks (D) are laid: they are neither's. -/
theorem PairS.also {Bk : Nat} {K : Nat → Prop} {w w' : World} {b r : Nat} {d e : RS} (h : PairS Bk K w b r d e) (hb : Below w.heap.size w w') (D : Nat → Prop) (h1 : ∀ j, D j → w.heap.size ≤ j ∧ j < w'.heap.size) : PairS Bk (fun j => K j ∨ D j) w' b r d e := by
  obtain ⟨O, P, a1, a2, a3, a4, a5, a6⟩ := h
  have l1 := a1.lt
  have l2 := a2.lt
  exact ⟨O, P, a1.keep hb, a2.keep hb, fun j hj => ⟨fun k => k.elim (a3 j hj).1 (fun x => by have := (h1 j x).1; have := (l1 j hj).2; omega), (a3 j hj).2⟩, fun j hj k => k.elim (a4 j hj) (fun x => by have := (h1 j x).1; have := l2 j hj; omega), fun j hj => hj.elim (fun k => Nat.lt_of_lt_of_le (a5 j k) hb.size) (fun x => (h1 j x).2), fun j hj => .inl (a6 j hj)⟩
theorem PairS.far {Bk : Nat} {K S : Nat → Prop} {w w' : World} {b r : Nat} {d e : RS} (h : PairS Bk K w b r d e) (hS : ∀ j, S j → K j) (hB : ∀ j, S j → Bk ≤ j) (ho : Only S w w') : PairS Bk K w' b r d e := by
  obtain ⟨O, P, h1, h2, h3, h4, h5, h6⟩ := h
  exact ⟨O, P, h1.only ho (fun j hj e => (h3 j hj).1 (hS j e)) hB, h2.only ho (fun j hj e => h4 j hj (hS j e)), h3, h4, fun j hj => Nat.lt_of_lt_of_le (h5 j hj) ho.size, h6⟩
/-- The device has done something. -/
theorem PairS.stepL {Bk : Nat} {K O P : Nat → Prop} {w w' : World} {b' r : Nat} {d' e : RS} (h2 : RefS w r e P) (h3 : ∀ j, O j → ¬ K j ∧ ¬ P j) (h4 : ∀ j, P j → ¬ K j) (h5 : ∀ j, K j → j < w.heap.size) (h6 : ∀ j, j < Bk → K j) (k : Left Bk w w' b' d' O) :
    PairS Bk K w' b' r d' e ∧ Only (fun j => ¬ K j) w w' := by
  obtain ⟨O', k1, k2, k3⟩ := k
  have l2 := h2.lt
  exact ⟨⟨O', P, k1, h2.only k2 (fun j hj e => (h3 j e).2 hj), fun j hj => (k3 j hj).elim (h3 j) (fun e => ⟨fun k => by have := h5 j k; omega, fun k => by have := l2 j k; omega⟩), h4, fun j hj => Nat.lt_of_lt_of_le (h5 j hj) k2.size, h6⟩, k2.mono (fun j _ o => (h3 j o).1)⟩
theorem PairS.stepR {Bk : Nat} {K O P : Nat → Prop} {w w' : World} {b r : Nat} {d e' : RS} (h1 : Row Bk w b d O) (h3 : ∀ j, O j → ¬ K j ∧ ¬ P j) (h4 : ∀ j, P j → ¬ K j) (h5 : ∀ j, K j → j < w.heap.size) (h6 : ∀ j, j < Bk → K j) (k : LeftS w w' r e' P) :
    PairS Bk K w' b r d e' ∧ Only (fun j => ¬ K j) w w' := by
  obtain ⟨P', k1, k2, k3⟩ := k
  have l1 := h1.lt
  exact ⟨⟨O, P', h1.only k2 (fun j hj e => (h3 j hj).2 e) (fun j hj => Nat.le_of_not_lt (fun e => h4 j hj (h6 j e))), k1, fun j hj => ⟨(h3 j hj).1, fun k => (k3 j k).elim (h3 j hj).2 (fun e => by have := (l1 j hj).2; omega)⟩, fun j hj => (k3 j hj).elim (h4 j) (fun e k => by have := h5 j k; omega), fun j hj => Nat.lt_of_lt_of_le (h5 j hj) k2.size, h6⟩, k2.mono (fun j _ o => h4 j o)⟩
section
variable {Bk : Nat} {K : Nat → Prop} {b r : Nat} {d e : RS} {w : World} (h : PairS Bk K w b r d e)
include h
theorem Give_pair (n x : Int) (h1 : I64 n) (h2 : I64 x) :
    Calls Tryz.prog 15 #[at0 b, .int .i64 n, .int .i64 x] w fun z w' => z = .returned (.int .i64 (giveV d n x).1) ∧ PairS Bk K w' b r (giveV d n x).2 e ∧ Only (fun j => ¬ K j) w w' := by
  obtain ⟨O, P, a1, a2, a3, a4, a5, a6⟩ := h
  refine (Give_any Bk b d O n x w h1 h2 a1).mono ?_
  rintro z w' ⟨rfl, k⟩
  exact ⟨rfl, PairS.stepL a2 a3 a4 a5 a6 k⟩
theorem rGive_pair (n x : Int) :
    Calls Tryz.prog 37 #[at0 r, .int .i64 n, .int .i64 x] w fun z w' => z = .returned (.int .i64 (giveV e n x).1) ∧ PairS Bk K w' b r d (giveV e n x).2 ∧ Only (fun j => ¬ K j) w w' := by
  obtain ⟨O, P, a1, a2, a3, a4, a5, a6⟩ := h
  refine (rGive_any r n x e P w a2).mono ?_
  rintro z w' ⟨rfl, k⟩
  exact ⟨rfl, PairS.stepR a1 a3 a4 a5 a6 k⟩
theorem Move_pair (n x : Int) (h1 : I64 n) (h2 : I64 x) :
    Calls Tryz.prog 17 #[at0 b, .int .i64 n, .int .i64 x] w fun z w' => z = .returned (.int .i64 (moveV d n x).1) ∧ PairS Bk K w' b r (moveV d n x).2 e ∧ Only (fun j => ¬ K j) w w' := by
  obtain ⟨O, P, a1, a2, a3, a4, a5, a6⟩ := h
  refine (Move_any Bk b d O n x w h1 h2 a1).mono ?_
  rintro z w' ⟨rfl, k⟩
  exact ⟨rfl, PairS.stepL a2 a3 a4 a5 a6 k⟩
theorem rMove_pair (n x : Int) :
    Calls Tryz.prog 40 #[at0 r, .int .i64 n, .int .i64 x] w fun z w' => z = .returned (.int .i64 (moveV e n x).1) ∧ PairS Bk K w' b r d (moveV e n x).2 ∧ Only (fun j => ¬ K j) w w' := by
  obtain ⟨O, P, a1, a2, a3, a4, a5, a6⟩ := h
  refine (rMove_any r n x e P w a2).mono ?_
  rintro z w' ⟨rfl, k⟩
  exact ⟨rfl, PairS.stepR a1 a3 a4 a5 a6 k⟩
theorem Take_pair (n : Int) (h1 : I64 n) :
    Calls Tryz.prog 16 #[at0 b, .int .i64 n] w fun z w' => z = .returned (.int .i64 (takeV d n).1) ∧ PairS Bk K w' b r (takeV d n).2 e ∧ Only (fun j => ¬ K j) w w' := by
  obtain ⟨O, P, a1, a2, a3, a4, a5, a6⟩ := h
  refine (Take_any Bk b d O n w h1 a1).mono ?_
  rintro z w' ⟨rfl, k⟩
  exact ⟨rfl, PairS.stepL a2 a3 a4 a5 a6 k⟩
theorem rTake_pair (n : Int) :
    Calls Tryz.prog 38 #[at0 r, .int .i64 n] w fun z w' => z = .returned (.int .i64 (takeV e n).1) ∧ PairS Bk K w' b r d (takeV e n).2 ∧ Only (fun j => ¬ K j) w w' := by
  obtain ⟨O, P, a1, a2, a3, a4, a5, a6⟩ := h
  refine (rTake_any r n e P w a2).mono ?_
  rintro z w' ⟨rfl, k⟩
  exact ⟨rfl, PairS.stepR a1 a3 a4 a5 a6 k⟩
theorem Len_pair :
    Calls Tryz.prog 18 #[at0 b] w fun z w' => z = .returned (.int .i64 (d.H.length : Nat)) ∧ Below w.heap.size w w' := by
  obtain ⟨O, P, a1, _⟩ := h
  exact Len_any Bk b d O w a1
theorem Hold_pair (n : Int) (h1 : I64 n) :
    Calls Tryz.prog 13 #[at0 b, .int .i64 n] w fun z w' => z = .returned (.tuple #[.agg #[.int .i64 (holdV d n).1.o, .int .i64 (holdV d n).1.l, .int .i64 (holdV d n).1.n], .bool (holdV d n).2]) ∧ Below w.heap.size w w' := by
  obtain ⟨O, P, a1, _⟩ := h
  exact Hold_any Bk b d O n w h1 a1
theorem Owner_pair (n : Int) (h1 : I64 n) :
    Calls Tryz.prog 14 #[at0 b, .int .i64 n] w fun z w' => z = .returned (.tuple #[.int .i64 (ownerV d n).1, .bool (ownerV d n).2]) ∧ Below w.heap.size w w' := by
  obtain ⟨O, P, a1, _⟩ := h
  exact Owner_any Bk b d O n w h1 a1
theorem Of_pair (x : Int) (h1 : I64 x) :
    Calls Tryz.prog 19 #[at0 b, .int .i64 x] w fun z w' => (∃ a c, z = .returned (.slice a (ofV d x).length c) ∧ w'.ownsRow w.heap.size 3 1 (.slice a (ofV d x).length c) (ofV d x).length (iv (ofV d x))) ∧ Below w.heap.size w w' := by
  obtain ⟨O, P, a1, _⟩ := h
  exact Of_any Bk b d O x w h1 a1
theorem All_pair :
    Calls Tryz.prog 21 #[at0 b] w fun z w' => (∃ a c, z = .returned (.slice a d.H.length c) ∧ w'.ownsRow w.heap.size 52 3 (.slice a d.H.length c) d.H.length (flHd d.H)) ∧ Below w.heap.size w w' := by
  obtain ⟨O, P, a1, _⟩ := h
  exact All_any Bk b d O w a1
theorem rOwner_pair (n : Int) :
    Calls Tryz.prog 33 #[at0 r, .int .i64 n] w fun z w' => z = .returned (.tuple #[.int .i64 (ownerV e n).1, .bool (ownerV e n).2]) ∧ Below w.heap.size w w' := by
  obtain ⟨O, P, a1, a2, _⟩ := h
  exact rOwner_any r n e P w a2
theorem rOf_pair (x : Int) :
    Calls Tryz.prog 35 #[at0 r, .int .i64 x] w fun z w' => (∃ v, z = .returned v ∧ w'.ownsRow w.heap.size 3 1 v (ofV e x).length (iv (ofV e x))) ∧ Below w.heap.size w w' := by
  obtain ⟨O, P, a1, a2, _⟩ := h
  exact rOf_any r x e P w a2
/-- Tick: what is told lies apart from both. -/
theorem Tick_pair :
    Calls Tryz.prog 20 #[at0 b] w fun z w' => ∃ a c, z = .returned (.slice a (doneV d).length c) ∧ w'.ownsRow w.heap.size 3 1 (.slice a (doneV d).length c) (doneV d).length (iv (doneV d)) ∧ PairS Bk (fun j => K j ∨ PB (.slice a (doneV d).length c) j) w' b r (tickV d) e ∧ Only (fun j => ¬ K j) w w' := by
  obtain ⟨O, P, a1, a2, a3, a4, a5, a6⟩ := h
  refine (Tick_any Bk b d O w a1).mono ?_
  rintro z w' ⟨a, c, O', rfl, hr, k1, k2, k3, k4⟩
  obtain ⟨⟨O2, P2, p1, p2, p3, p4, p5, p6⟩, ho⟩ := PairS.stepL a2 a3 a4 a5 a6 ⟨O', k1, k2, k3⟩
  have l2 := a2.lt
  refine ⟨a, c, rfl, hr, ⟨O', P, k1, a2.only k2 (fun j hj e => (a3 j e).2 hj), fun j hj => ⟨fun k => k.elim (fun k => (k3 j hj).elim (fun o => (a3 j o).1 k) (fun x => by have := a5 j k; omega)) (fun e => k4 j e hj), fun e => (k3 j hj).elim (fun o => (a3 j o).2 e) (fun x => by have := l2 j e; omega)⟩, fun j hj k => k.elim (a4 j hj) (fun e => by have := (own_lt hr j (ba_pb e)).1; have := l2 j hj; omega), fun j hj => hj.elim (fun k => Nat.lt_of_lt_of_le (a5 j k) k2.size) (fun e => (own_lt hr j (ba_pb e)).2), fun j hj => .inl (a6 j hj)⟩, ho⟩
theorem rTick_pair :
    Calls Tryz.prog 39 #[at0 r] w fun z w' => ∃ a c, z = .returned (.slice a (doneV e).length c) ∧ w'.ownsRow w.heap.size 3 1 (.slice a (doneV e).length c) (doneV e).length (iv (doneV e)) ∧ PairS Bk K w' b r d (tickV e) ∧ Only (fun j => ¬ K j) w w' := by
  obtain ⟨O, P, a1, a2, a3, a4, a5, a6⟩ := h
  refine (rTick_any r e P w a2).mono ?_
  rintro z w' ⟨a, c, P', rfl, hr, k1, k2, k3⟩
  obtain ⟨h1, h2⟩ := PairS.stepR (d := d) a1 a3 a4 a5 a6 ⟨P', k1, k2, fun j hj => .inl (k3 j hj)⟩
  exact ⟨a, c, rfl, hr, h1, h2⟩
/-- The document's holds, as the law reads them. -/
theorem holds_pair : ∃ al cl, w.cell? ⟨r, 1, none⟩ = some (.slice al e.H.length cl) ∧ w.ownsRow 0 52 3 (.slice al e.H.length cl) e.H.length (flHd e.H) ∧ ∀ j, PB (.slice al e.H.length cl) j → ¬ K j := by
  obtain ⟨O, P, a1, ⟨ak, al, ck, cl, hh, hO⟩, a3, a4, _⟩ := h
  exact ⟨al, cl, hh.blk.at 1 rfl, hh.hol, fun j hj => a4 j ((hO j).2 (.inr (.inr hj)))⟩
end
end Go.Proofs.YtmdepkehpohgeaaGreat.Scr
