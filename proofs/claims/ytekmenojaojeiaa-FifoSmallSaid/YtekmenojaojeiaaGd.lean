/- A row and the document's, side by side; a slice of deeds. -/
import Derived.Test.YtekmenojaojeiaaGc
namespace Go.Proofs.Ytekmenojaojeiaa.Fifo5
open Go.RowKit Go.Maps Fifo FI
set_option linter.unusedVariables false

theorem same_any (b rb R : Nat) (l : List Int) (O Q : Nat → Prop) (w : World) (h : St w b R (vals l) O) (k : RSt w rb R (vals l) Q) (h9 : (vals l).length ≤ 1900) :
    Calls Try.prog 16 #[.pointer (some ⟨b, 0, none⟩), .pointer (some ⟨rb, 0, none⟩)] w fun e w' => e = .returned (.bool true) ∧ Below w.heap.size w w' := by
  cases l with
  | nil => exact same_nil b rb R O Q w h k h9
  | cons y t => exact same_cons b rb R y t O Q w h k h9

theorem drew_keep {S : Nat → Prop} {w w4 : World} (h : Only S w.drew w4) {a : Addr} {v : Value} (hc : w.cell? a = some v) (hn : ¬ S a.block) : w4.cell? a = some v :=
  (World.cell?_of_block (w := w) (h.block a.block (World.block_lt_of_cell? w _ hc) hn)).trans hc
/-- The slice (a, n) reads as deeds. -/
def RowD (w : World) (a : Option Addr) (n : Nat) : Prop :=
  ∀ j, j < n → ∃ b off p x, a = some ⟨b, off, none⟩ ∧ w.cell? ⟨b, off + j * 2, none⟩ = some (.int .i64 p) ∧ w.cell? ⟨b, off + j * 2 + 1, none⟩ = some (.int .i64 x)
theorem RowD.keep {w w' : World} {a : Option Addr} {n : Nat} (h : RowD w a n) (hb : Below w.heap.size w w') : RowD w' a n := fun j hj => by
  obtain ⟨b, off, p, x, ha, h1, h2⟩ := h j hj
  exact ⟨b, off, p, x, ha, cell_keep hb h1, cell_keep hb h2⟩

structure Two (B : Nat) (w0 w : World) (b rb R : Nat) (fl rl : List Int) (O Q : Nat → Prop) : Prop where
  st : St w b R (vals fl) O
  rs : RSt w rb R (vals rl) Q
  ob : ∀ j, O j → B ≤ j
  qb : ∀ j, Q j → B ≤ j
  sep : ∀ j, O j → ¬ Q j
  bl : Below B w0 w
  b0 : B ≤ w0.heap.size
theorem Two.f {B : Nat} {w0 w w' : World} {b rb R : Nat} {fl fl' rl : List Int} {O O' Q : Nat → Prop} (h : Two B w0 w b rb R fl rl O Q)
    (h1 : St w' b R (vals fl') O') (ho : Only O w w') (hn : ∀ j, O' j → O j ∨ w.heap.size ≤ j) : Two B w0 w' b rb R fl' rl O' Q := by
  obtain ⟨a1, a2⟩ := own_step h.bl h.b0 h.ob ho hn
  refine ⟨h1, h.rs.only ho (fun j hq hO => h.sep j hO hq), a2, h.qb, fun j hj hq => ?_, a1, h.b0⟩
  rcases hn j hj with e | e
  · exact h.sep j e hq
  · have := h.rs.lt j hq; omega
theorem Two.r {B : Nat} {w0 w w' : World} {b rb R : Nat} {fl rl rl' : List Int} {O Q Q' : Nat → Prop} (h : Two B w0 w b rb R fl rl O Q)
    (h1 : RSt w' rb R (vals rl') Q') (ho : Only Q w w') (hn : ∀ j, Q' j → Q j ∨ w.heap.size ≤ j) : Two B w0 w' b rb R fl rl' O Q' := by
  obtain ⟨a1, a2⟩ := own_step h.bl h.b0 h.qb ho hn
  refine ⟨h.st.only ho (fun j hO hq => h.sep j hO hq), h1, h.ob, a2, fun j hO hq => ?_, a1, h.b0⟩
  rcases hn j hq with e | e
  · exact h.sep j hO e
  · have := h.st.lt j hO; omega
theorem Two.keep {B : Nat} {w0 w w' : World} {b rb R : Nat} {fl rl : List Int} {O Q : Nat → Prop} (h : Two B w0 w b rb R fl rl O Q) (hb : Below w.heap.size w w') : Two B w0 w' b rb R fl rl O Q :=
  h.f (h.st.keep hb) (Only.of_below hb) (fun j hj => .inl hj)
/-- The row is left for another one. -/
theorem Two.swap {B : Nat} {w0 w : World} {b c rb R : Nat} {fl fl' rl : List Int} {O O' Q : Nat → Prop} (h : Two B w0 w b rb R fl rl O Q) (h1 : St w c R (vals fl') O') (hb : ∀ j, O' j → B ≤ j) (hs : ∀ j, O' j → ¬ Q j) : Two B w0 w c rb R fl' rl O' Q :=
  ⟨h1, h.rs, hb, h.qb, hs, h.bl, h.b0⟩
/-- A third one, apart from a row that is being changed. -/
theorem third {w w' : World} {c R : Nat} {l : List Value} {O O' O3 : Nat → Prop} (h : St w c R l O3) (hs : ∀ j, O3 j → ¬ O j) (ho : Only O w w') (hn : ∀ j, O' j → O j ∨ w.heap.size ≤ j) : St w' c R l O3 ∧ ∀ j, O3 j → ¬ O' j :=
  ⟨h.only ho hs, fun j h3 h' => (hn j h').elim (hs j h3) (fun e => by have := h.lt j h3; omega)⟩
/-- What is put, in numbers. -/
def putv (R : Nat) (l : List Int) (x : Int) : List Int := if l.length < R then l ++ [x] else l
theorem putv_vals (R : Nat) (l : List Int) (x : Int) : (if decide ((vals l).length < R) then vals l ++ [.int .i64 x] else vals l) = vals (putv R l x) := by
  unfold putv
  rw [vals_len]
  by_cases h : l.length < R
  · simp [h, vals]
  · simp [h]
theorem putv_len (R : Nat) (l : List Int) (x : Int) : (putv R l x).length ≤ l.length + 1 := by
  unfold putv
  split
  · simp
  · omega
theorem Put_two {B : Nat} {w0 w : World} {b rb R : Nat} {fl rl : List Int} {O Q : Nat → Prop} (x : Int) (h : Two B w0 w b rb R fl rl O Q) (h9 : fl.length ≤ 1900) :
    Calls Try.prog 10 #[.pointer (some ⟨b, 0, none⟩), .int .i64 x] w fun e w' => e = .returned (.bool (decide ((vals fl).length < R))) ∧ ∃ O', Two B w0 w' b rb R (putv R fl x) rl O' Q ∧ Only O w w' ∧ ∀ j, O' j → O j ∨ w.heap.size ≤ j := by
  refine (Put_st b R (vals fl) (vals (putv R fl x)) O _ _ w h.st (by rw [vals_len]; exact h9) (elmV x) rfl (putv_vals R fl x)).mono ?_
  rintro e w' ⟨rfl, O', h1, h2, h3⟩
  exact ⟨rfl, O', h.f h1 h2 h3, h2, h3⟩
theorem rPut_two {B : Nat} {w0 w : World} {b rb R : Nat} {fl rl : List Int} {O Q : Nat → Prop} (x : Int) (h : Two B w0 w b rb R fl rl O Q) (h9 : rl.length ≤ 1900) :
    Calls Try.prog 11 #[.pointer (some ⟨rb, 0, none⟩), .int .i64 x] w fun e w' => e = .returned (.bool (decide ((vals rl).length < R))) ∧ ∃ Q', Two B w0 w' b rb R fl (putv R rl x) O Q' := by
  refine (rPut_st rb R (vals rl) (vals (putv R rl x)) Q x _ w h.rs (by rw [vals_len]; exact h9) rfl (putv_vals R rl x)).mono ?_
  rintro e w' ⟨rfl, Q', h1, h2, h3⟩
  exact ⟨rfl, Q', h.r h1 h2 h3⟩
theorem Take_two {B : Nat} {w0 w : World} {b rb R : Nat} {fl rl : List Int} {O Q : Nat → Prop} (h : Two B w0 w b rb R fl rl O Q) :
    Calls Try.prog 12 #[.pointer (some ⟨b, 0, none⟩)] w fun e w' => e = .returned (.tuple #[.int .i64 (fl.headD 0), .bool (!fl.isEmpty)]) ∧ Two B w0 w' b rb R fl.tail rl O Q ∧ Only O w w' := by
  have T := Take_st b R (vals fl) O w h.st
  have e1 : fst (vals fl) = .int .i64 (fl.headD 0) := by cases fl <;> rfl
  have e2 : (vals fl).isEmpty = fl.isEmpty := by cases fl <;> rfl
  have e3 : (vals fl).tail = vals fl.tail := by cases fl <;> rfl
  rw [e1, e2, e3] at T
  refine T.mono ?_
  rintro e w' ⟨rfl, h1, h2⟩
  exact ⟨rfl, h.f h1 h2 (fun j hj => .inl hj), h2⟩
theorem rTake_two {B : Nat} {w0 w : World} {b rb R : Nat} {fl rl : List Int} {O Q : Nat → Prop} (h : Two B w0 w b rb R fl rl O Q) (h9 : rl.length ≤ 1900) :
    Calls Try.prog 13 #[.pointer (some ⟨rb, 0, none⟩)] w fun e w' => e = .returned (.tuple #[.int .i64 (rl.headD 0), .bool (!rl.isEmpty)]) ∧ ∃ Q', Two B w0 w' b rb R fl rl.tail O Q' := by
  cases rl with
  | nil =>
    refine (rTake_nil rb R Q w h.rs).mono ?_
    rintro e w' ⟨rfl, h1, h2⟩
    exact ⟨rfl, Q, h.r (rl' := []) h1 h2 (fun j hj => .inl hj)⟩
  | cons y t =>
    refine (rTake_cons rb R y (vals t) Q w h.rs (by rw [vals_len]; simp at h9; omega)).mono ?_
    rintro e w' ⟨rfl, Q', h1, h2, h3⟩
    exact ⟨rfl, Q', h.r h1 h2 (fun j hj => .inl (h3 j hj))⟩
theorem Clear_two {B : Nat} {w0 w : World} {b rb R : Nat} {fl rl : List Int} {O Q : Nat → Prop} (h : Two B w0 w b rb R fl rl O Q) :
    Calls Try.prog 14 #[.pointer (some ⟨b, 0, none⟩)] w fun e w' => e = .returned (.int .i64 (fl.length : Nat)) ∧ ∃ O', Two B w0 w' b rb R [] rl O' Q ∧ Only O w w' ∧ ∀ j, O' j → O j := by
  have T := Clear_st b R (vals fl) O w h.st
  rw [vals_len] at T
  refine T.mono ?_
  rintro e w' ⟨rfl, O', h1, h2, h3⟩
  exact ⟨rfl, O', h.f (fl' := []) h1 h2 (fun j hj => .inl (h3 j hj)), h2, h3⟩
/-- Where the document's row has its slice. -/
theorem Two.slice {B : Nat} {w0 w : World} {b rb R : Nat} {fl rl : List Int} {O Q : Nat → Prop} (h : Two B w0 w b rb R fl rl O Q) : ∃ a c, w.cell? ⟨rb, 1, none⟩ = some (.slice a rl.length c) ∧ w.frozen? ⟨rb, 1, none⟩ = false ∧ rb < w.heap.size ∧ Q rb := by
  obtain ⟨v, h1, h2, h3, rfl⟩ := h.rs
  obtain ⟨a, c, hv⟩ := h2.shape
  rw [vals_len] at hv
  subst hv
  exact ⟨a, c, h1.at 1 rfl, h1.frozen 1, h1.lt, .inl rfl⟩
/-- The document's row is let go. -/
theorem Two.let {B : Nat} {w0 w : World} {b rb R : Nat} {fl rl : List Int} {O Q : Nat → Prop} (h : Two B w0 w b rb R fl rl O Q) : ∃ Q', Two B w0 (w.setCell ⟨rb, 1, none⟩ (.slice none 0 0)) b rb R fl [] O Q' := by
  obtain ⟨v, h1, h2, h3, hQ⟩ := h.rs
  have hset : Only (fun j => j = rb) w (w.setCell ⟨rb, 1, none⟩ (.slice none 0 0)) := (Only.refl (fun j => j = rb) w).setCell (p := ⟨rb, 1, none⟩) rfl _
  have hq : Q rb := by rw [hQ]; exact .inl rfl
  exact ⟨fun j => j = rb ∨ PB (.slice none 0 0) j, h.r ⟨.slice none 0 0, h1.set 1 _, .inl ⟨rfl, rfl⟩, h3, rfl⟩ (hset.mono (fun j _ e => e ▸ hq)) (fun j hj => .inl (hj.elim (fun e => e ▸ hq) (fun e => by simp [PB, Value.ownBlock] at e)))⟩
end Go.Proofs.Ytekmenojaojeiaa.Fifo5
