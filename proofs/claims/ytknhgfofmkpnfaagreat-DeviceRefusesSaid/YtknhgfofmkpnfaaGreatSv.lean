/- Short facts for chains of calls: what lies where, what is apart from what. -/
import Derived.Test.YtknhgfofmkpnfaaGreatS5m
namespace Go.Proofs.YtknhgfofmkpnfaaGreat.Devs
set_option linter.unusedSectionVars false
variable [Inhabited Lane.OTab]
open Go.RowKit Go.Maps Go.ChangeShapes Go.WideShapes Go.ChangeAt Fifo Orow Word Win Mbox
set_option linter.unusedVariables false

theorem calls_letter' {P : Program} {f : Nat} {args : Array Value} {w : World} {Q : Ending → World → Prop} (h : ∀ W, Hid (W = w) → Calls P f args W Q) : Calls P f args w Q := h w (Lib.hid rfl)
theorem five {B : Nat} {w x : World} {t : TypeId} {c0 c1 c2 c3 c4 : Value} (e : w.heap.size = B) (h : Blk x B t [c0, c1, c2, c3, c4]) :
    x.cell? ⟨w.heap.size, 0, none⟩ = some c0 ∧ x.cell? ⟨w.heap.size, 1, none⟩ = some c1 ∧ x.cell? ⟨w.heap.size, 2, none⟩ = some c2 ∧ x.cell? ⟨w.heap.size, 3, none⟩ = some c3 ∧ x.cell? ⟨w.heap.size, 4, none⟩ = some c4 := by
  rw [e]
  exact ⟨h.at 0 rfl, h.at 1 rfl, h.at 2 rfl, h.at 3 rfl, h.at 4 rfl⟩
theorem wf_64 {x : Int} (h : (Lit.int .i64 x).wf = true) : I64 x := by
  simp only [Lit.wf, Bool.and_eq_true, decide_eq_true_eq] at h
  have e1 : IntKind.i64.min = -9223372036854775808 := rfl
  have e2 : IntKind.i64.max = 9223372036854775807 := rfl
  rw [e1, e2] at h
  exact h
theorem wf_32 {x : Int} (h : (Lit.int .u32 x).wf = true) : 0 ≤ x ∧ x < 4294967296 := by
  simp only [Lit.wf, Bool.and_eq_true, decide_eq_true_eq] at h
  have e1 : IntKind.u32.min = 0 := rfl
  have e2 : IntKind.u32.max = 4294967295 := rfl
  rw [e1, e2] at h
  omega
theorem ltd {Bk b : Nat} {w : World} {d : Dv} {O X : Nat → Prop} (h : Dev Bk w b d O X) : ∀ j, O j → j < w.heap.size := fun j e => (h.lt j e).2
theorem ltr {B n : Nat} {w : World} {v : Value} {L : List Value} (h : w.ownsRow B 23 1 v n L) : ∀ j, PB v j → j < w.heap.size := fun j e => (h.lt j e).2
theorem gtr {B n : Nat} {w : World} {v : Value} {L : List Value} (h : w.ownsRow B 23 1 v n L) : ∀ j, PB v j → B ≤ j := fun j e => (h.lt j e).1
theorem ltb {b : Nat} {w : World} {t : TypeId} {cs : List Value} (h : Blk w b t cs) : ∀ j, Eq b j → j < w.heap.size := fun j e => e ▸ h.lt
theorem apn {P Q : Nat → Prop} {n : Nat} (h : ∀ j, P j → n ≤ j) (k : ∀ j, Q j → j < n) : ∀ j, P j → ¬ Q j := fun j a b => by have e1 := h j a; have e2 := k j b; omega
theorem apx {P Q : Nat → Prop} {n : Nat} (k : ∀ j, Q j → j < n) (h : ∀ j, P j → n ≤ j) : ∀ j, Q j → ¬ P j := fun j b a => by have e1 := h j a; have e2 := k j b; omega
theorem apt {P O O2 : Nat → Prop} {n : Nat} (k3 : ∀ j, O2 j → O j ∨ n ≤ j) (a : ∀ j, P j → ¬ O j) (l : ∀ j, P j → j < n) : ∀ j, P j → ¬ O2 j := fun j h1 h2 => (k3 j h2).elim (fun e => a j h1 e) (fun e => by have := l j h1; omega)
theorem ops {P Q : Nat → Prop} (a : ∀ j, P j → ¬ Q j) : ∀ j, Q j → ¬ P j := fun j h1 h2 => a j h2 h1
theorem csz {B : Nat} {w x : World} (hB : B ≤ w.heap.size) (c : Below B w x) : B ≤ x.heap.size := Nat.le_trans hB c.size
theorem ogt {O O2 : Nat → Prop} {B : Nat} {w x : World} (hB : B ≤ w.heap.size) (c : Below B w x) (k3 : ∀ j, O2 j → O j ∨ x.heap.size ≤ j) (a : ∀ j, O j → B ≤ j) : ∀ j, O2 j → B ≤ j := fun j h => (k3 j h).elim (a j) (fun e => Nat.le_trans (csz hB c) e)
theorem ogn {O2 : Nat → Prop} {B : Nat} {w x : World} (hB : B ≤ w.heap.size) (c : Below B w x) (hn : ∀ j, O2 j → x.heap.size ≤ j) : ∀ j, O2 j → B ≤ j := fun j h => Nat.le_trans (csz hB c) (hn j h)
theorem cbl {B : Nat} {w x y : World} (hB : B ≤ w.heap.size) (c : Below B w x) (h : Below x.heap.size x y) : Below B w y := c.trans (h.mono (csz hB c))
theorem cto {O : Nat → Prop} {B : Nat} {w x y : World} (hB : B ≤ w.heap.size) (c : Below B w x) (k : Only O x y) (o : ∀ j, O j → B ≤ j) : Below B w y := c.trans (k.below (csz hB c) o)
theorem qt {a b : Int} (h : a = b) : (a == b) = true := by rw [beq_iff_eq]; exact h
theorem qf {a b : Int} (h : a ≠ b) : (a == b) = false := by rw [beq_eq_false_iff_ne]; exact h
theorem st {a n : Int} (h0 : 0 ≤ a) (h : a % n = 0) : (Int.tmod a n == 0) = true := by rw [Int.tmod_eq_emod_of_nonneg h0, beq_iff_eq]; exact h
theorem sf {a n : Int} (h0 : 0 ≤ a) (h : a % n ≠ 0) : (Int.tmod a n == 0) = false := by rw [Int.tmod_eq_emod_of_nonneg h0, beq_eq_false_iff_ne]; exact h
end Go.Proofs.YtknhgfofmkpnfaaGreat.Devs
