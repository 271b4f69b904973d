/- Contracts of package word's Show. -/
import Derived.Test.YtploggfaihfeeaaWd
import Derived.Maps.AppendAt
import Derived.Lib.SlBytesConst
import Derived.ArgAppend
namespace Go.Proofs.Ytploggfaihfeeaa.Word
open Go.RowKit Go.PlainAid Go.Maps
set_option linter.unusedVariables false

theorem info_u8 : (Try.prog.info? 5).map (fun i => (i.zero, i.size, i.bytes)) = some (some (.int .u8 0), 1, 1) := by kernel_rfl

/-- A row of bytes of the call's own. -/
def Owns (w : World) (base : Nat) (v : Value) (l : List Int) : Prop := w.ownsRow base 5 1 v l.length (l.map (Value.int .u8))

/-- What a round of Show keeps. -/
def ShowRel (v : Int) (w wr : World) (k : Nat) (s : Value) : Prop :=
  Below w.heap.size w wr ∧ w.heap.size + 1 ≤ wr.heap.size ∧
  ((k = 0 ∧ s = .slice (some ⟨w.heap.size, 0, none⟩) 2 2 ∧ wr.cell? ⟨w.heap.size, 0, none⟩ = some (.int .u8 48) ∧ wr.cell? ⟨w.heap.size, 1, none⟩ = some (.int .u8 120)) ∨
   (1 ≤ k ∧ wr.ownsRow (w.heap.size + 1) 5 1 s (2 + k) (((showI v).take (2 + k)).map (Value.int .u8))))

theorem show_start (v : Int) (w : World) : ShowRel v w (w.alloc (.cells #[.int .u8 48, .int .u8 120] 5 (2, 3))) 0 (.slice (some ⟨w.heap.size, 0, none⟩) 2 2) :=
  ⟨(Below.refl _ _).alloc (Nat.le_refl _) _, by simp, .inl ⟨rfl, rfl, World.cell?_alloc_mark _ _ _ _ _, World.cell?_alloc_mark _ _ _ _ _⟩⟩

theorem show_at (v : Int) {k : Nat} (hk : k < 8) : (showI v)[2 + k]? = some (dch (nib v k)) := by
  have hcase : k = 0 ∨ k = 1 ∨ k = 2 ∨ k = 3 ∨ k = 4 ∨ k = 5 ∨ k = 6 ∨ k = 7 := by omega
  rcases hcase with rfl | rfl | rfl | rfl | rfl | rfl | rfl | rfl <;> rfl
theorem show_take (v : Int) {k : Nat} (hk : k < 8) : ((showI v).take (2 + k)).map (Value.int .u8) ++ [Value.int .u8 (dch (nib v k))] = ((showI v).take (2 + (k + 1))).map (Value.int .u8) := by
  rw [show 2 + (k + 1) = (2 + k) + 1 from by omega, List.take_add_one, show_at v hk, List.map_append]
  rfl
theorem show_step0 (v : Int) (w wr w1 : World) (v' : Value) (x : Int) (hb : Below w.heap.size w wr) (hsz : w.heap.size + 1 ≤ wr.heap.size)
    (hown1 : w1.ownsRow (wr.alloc (.cells #[.int .u8 x] 5)).heap.size 5 1 v' (2 + 1) ([Value.int .u8 48, .int .u8 120] ++ [.int .u8 x]))
    (hgrow : (wr.alloc (.cells #[.int .u8 x] 5)).grownBy w1 none) (hx : dch (nib v 0) = x) : ShowRel v w w1 1 v' := by
  subst hx
  have hb2 := (hb.alloc (by omega) (.cells #[.int .u8 (dch (nib v 0))] 5)).grown hgrow (by simp; omega) (fun k h => by cases h)
  have hs := hgrow.size
  simp at hs
  refine ⟨hb2, by omega, .inr ⟨Nat.le_refl _, hown1.1, ?_⟩⟩
  rcases hown1.2 with h | ⟨g, cap, cur, e, hg, r⟩
  · exact .inl h
  · exact .inr ⟨g, cap, cur, e, by simp at hg; omega, r⟩
theorem show_step (v : Int) (w wr w1 : World) (s v' : Value) (x : Int) (k : Nat) (hk : 1 ≤ k) (hk8 : k < 8) (hb : Below w.heap.size w wr) (hsz : w.heap.size + 1 ≤ wr.heap.size)
    (hown : wr.ownsRow (w.heap.size + 1) 5 1 s (2 + k) (((showI v).take (2 + k)).map (Value.int .u8)))
    (hown1 : w1.ownsRow (w.heap.size + 1) 5 1 v' (2 + k + 1) (((showI v).take (2 + k)).map (Value.int .u8) ++ [.int .u8 x]))
    (hgrow : (wr.alloc (.cells #[.int .u8 x] 5)).grownBy w1 s.ownBlock) (hx : dch (nib v k) = x) : ShowRel v w w1 (k + 1) v' := by
  subst hx
  have hb2 := (hb.alloc (by omega) (.cells #[.int .u8 (dch (nib v k))] 5)).grown hgrow (by simp; omega) (fun j h => by have := (hown.lt j h).1; omega)
  have hs := hgrow.size
  simp at hs
  refine ⟨hb2, by omega, .inr ⟨by omega, ?_⟩⟩
  rw [← show_take v hk8]
  exact hown1
theorem show_end (v : Int) (w wr : World) (s : Value) (hown : wr.ownsRow (w.heap.size + 1) 5 1 s (2 + 8) (((showI v).take (2 + 8)).map (Value.int .u8))) :
    ∃ g cap, s = .slice (some ⟨g, 0, none⟩) 10 cap ∧ ∀ j (hj : j < (showF v).length), wr.cell? ((⟨g, 0, none⟩ : Addr).add j) = some (.int .u8 ((showF v)[j].toNat : Int)) := by
  rcases hown.2 with ⟨_, h⟩ | ⟨g, cap, cur, rfl, _⟩
  · omega
  · refine ⟨g, cap, rfl, fun j hj => ?_⟩
    have hj' : j < 10 := hj
    have c := hown.cellAt j (by omega)
    rw [showF_at v hj]
    have e : ((⟨g, 0, none⟩ : Addr).add j) = ⟨g, j, none⟩ := by by_cases h0 : j = 0 <;> simp [Addr.add, h0]
    rw [e, c]
    have hl : (showI v).length = 10 := rfl
    rw [List.getElem?_map, List.take_of_length_le (by omega), List.getElem?_eq_getElem (by omega)]
    simp [List.getD_eq_getElem?_getD, List.getElem?_eq_getElem (show j < (showI v).length by omega)]

end Go.Proofs.Ytploggfaihfeeaa.Word
