/- does: a deed of both. -/
import Derived.Test.YtmdepkehpohgeaaS6g
import Derived.Test.YtmdepkehpohgeaaPk
import Derived.LoopN
namespace Go.Proofs.Ytmdepkehpohgeaa.Scr
open Go.RowKit Go.Maps Go.ChangeShapes Go.WideShapes Go.ChangeAt Fifo Orow Word
set_option linter.unusedVariables false

/-- Neither what K names nor the deed's block g has turned. -/
def OnlyF (K : Nat → Prop) (g : Nat) (W w : World) : Prop := Only (fun j => ¬ (K j ∨ j = g)) W w
theorem OnlyF.next {K : Nat → Prop} {g : Nat} {W w w' : World} (h : OnlyF K g W w) (k : Only (fun j => ¬ (K j ∨ j = g)) w w') : OnlyF K g W w' := Only.trans h k
theorem OnlyF.below {K : Nat → Prop} {g : Nat} {W w w' : World} (h : OnlyF K g W w) (k : Below w.heap.size w w') : OnlyF K g W w' := h.next (Only.of_below k)
theorem OnlyF.refl (K : Nat → Prop) (g : Nat) (W : World) : OnlyF K g W W := Only.refl _ _
theorem OnlyF.cell {K : Nat → Prop} {g : Nat} {W w : World} {t : TypeId} {vs : List Value} (h : OnlyF K g W w) (hb : Blk W g t vs) (k : Nat) {v : Value} (hv : vs[k]? = some v) : w.cell? ⟨g, k, none⟩ = some v := (hb.only h (fun n => n (.inr rfl))).at k hv
/-- A row that nobody asks for any more: none of its blocks is one of Q. -/
def HoldS (Bk : Nat) (Q : Nat → Prop) (w : World) (b L : Nat) : Prop := ∃ d O, Row Bk w b d O ∧ d.H.length = L ∧ (∀ j, O j → ¬ Q j) ∧ ∀ j, Q j → j < w.heap.size
theorem HoldS.step {Bk L : Nat} {Q O : Nat → Prop} {w w' : World} {b : Nat} {d' : RS} (h1 : d'.H.length = L) (h2 : ∀ j, O j → ¬ Q j) (h3 : ∀ j, Q j → j < w.heap.size) (k : Left Bk w w' b d' O) : HoldS Bk Q w' b L ∧ Only (fun j => ¬ Q j) w w' := by
  obtain ⟨O', k1, k2, k3⟩ := k
  exact ⟨⟨_, O', k1, h1, fun j hj q => (k3 j hj).elim (fun o => h2 j o q) (fun e => by have := h3 j q; omega), fun j hj => Nat.lt_of_lt_of_le (h3 j hj) k2.size⟩, k2.mono (fun j _ o => h2 j o)⟩
section
variable {Bk L : Nat} {Q : Nat → Prop} {w : World} {b : Nat} (h : HoldS Bk Q w b L)
include h
theorem Len_hold :
    Calls Try.prog 18 #[at0 b] w fun z w' => z = .returned (.int .i64 (L : Nat)) ∧ HoldS Bk Q w' b L ∧ Only (fun j => ¬ Q j) w w' := by
  obtain ⟨d, O, a1, rfl, a2, a3⟩ := h
  refine (Len_any Bk b d O w a1).mono ?_
  rintro z w' ⟨rfl, hb⟩
  exact ⟨rfl, ⟨d, O, a1.keep hb, rfl, a2, fun j hj => Nat.lt_of_lt_of_le (a3 j hj) hb.size⟩, Only.of_below hb⟩
theorem Give_hold (n x : Int) (h1 : I64 n) (h2 : I64 x) :
    Calls Try.prog 14 #[at0 b, .int .i64 n, .int .i64 x] w fun z w' => (∃ t, z = .returned (.int .i64 t)) ∧ HoldS Bk Q w' b L ∧ Only (fun j => ¬ Q j) w w' := by
  obtain ⟨d, O, a1, hl, a2, a3⟩ := h
  refine (Give_any Bk b d O n x w h1 h2 a1).mono ?_
  rintro z w' ⟨rfl, k⟩
  exact ⟨⟨_, rfl⟩, HoldS.step ((len_give d n x).trans hl) a2 a3 k⟩
theorem Take_hold (n : Int) (h1 : I64 n) :
    Calls Try.prog 9 #[at0 b, .int .i64 n] w fun z w' => (∃ t, z = .returned (.int .i64 t)) ∧ HoldS Bk Q w' b L ∧ Only (fun j => ¬ Q j) w w' := by
  obtain ⟨d, O, a1, hl, a2, a3⟩ := h
  refine (Take_any Bk b d O n w h1 a1).mono ?_
  rintro z w' ⟨rfl, k⟩
  exact ⟨⟨_, rfl⟩, HoldS.step ((len_take d n).trans hl) a2 a3 k⟩
theorem Tick_hold :
    Calls Try.prog 15 #[at0 b] w fun z w' => (∃ a n c, z = .returned (.slice a n c)) ∧ HoldS Bk Q w' b L ∧ Only (fun j => ¬ Q j) w w' := by
  obtain ⟨d, O, a1, hl, a2, a3⟩ := h
  refine (Tick_any Bk b d O w a1).mono ?_
  rintro z w' ⟨a, c, O', rfl, hr, k1, k2, k3, k4⟩
  exact ⟨⟨_, _, _, rfl⟩, HoldS.step (by simp [tickV, hl]) a2 a3 ⟨O', k1, k2, k3⟩⟩
end
theorem drewN_below' {w w' : World} (h : ∃ j, w' = w.drewN j) : Below w.heap.size w w' := by
  obtain ⟨j, rfl⟩ := h
  exact ⟨rfl, rfl, rfl, Nat.le_refl _, fun _ _ => rfl⟩
end Go.Proofs.Ytmdepkehpohgeaa.Scr
