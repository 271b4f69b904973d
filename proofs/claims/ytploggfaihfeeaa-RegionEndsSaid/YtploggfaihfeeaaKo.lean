/- What a step has turned: more laws. -/
import Derived.Test.YtploggfaihfeeaaKb
namespace Go.Proofs.Ytploggfaihfeeaa.Kit
open Go.RowKit
/-- The one block of an address. -/
def SA (a : Option Addr) : Nat → Prop := fun k => ∃ b, a = some b ∧ b.block = k
theorem Only.drew {S : Nat → Prop} {w w' : World} (h : Only S w w') : Only S w w'.drew := ⟨h.os, h.tape, h.output, h.size, h.block⟩
theorem Only.drewN {S : Nat → Prop} {w w' : World} (h : Only S w w') (n : Nat) : Only S w (w'.drewN n) := ⟨h.os, h.tape, h.output, h.size, h.block⟩
theorem Only.grown {S : Nat → Prop} {w w' w1 : World} {row : Option Nat} (h : Only S w w') (hg : w'.grownBy w1 row) (hr : ∀ k, row = some k → S k ∨ w.heap.size ≤ k) : Only S w w1 :=
  ⟨hg.os.trans h.os, hg.tape.trans h.tape, hg.output.trans h.output, Nat.le_trans h.size hg.size, fun k hk hn => (hg.block k (Nat.lt_of_lt_of_le hk h.size) (fun e => (hr k e.symm).elim hn (fun hle => by omega))).trans (h.block k hk hn)⟩
theorem Only.heap {S : Nat → Prop} {w w' : World} (h : Only S w w') {k : Nat} {o : Obj} (hk : w.heap[k]? = some o) (hn : ¬ S k) : w'.heap[k]? = some o :=
  (h.block k (Array.getElem?_eq_some_iff.1 hk).1 hn).trans hk
theorem Only.far {S T : Nat → Prop} {w w' w1 : World} (h : Only S w w') (ho : Only T w' w1) (hT : ∀ k, T k → w.heap.size ≤ k) : Only S w w1 :=
  ⟨ho.os.trans h.os, ho.tape.trans h.tape, ho.output.trans h.output, Nat.le_trans h.size ho.size, fun k hk hn => (ho.block k (Nat.lt_of_lt_of_le hk h.size) (fun e => by have := hT k e; omega)).trans (h.block k hk hn)⟩
theorem Only.weak {T : Nat → Prop} {w w' : World} (h : Only T w w') (hT : ∀ k, T k → w.heap.size ≤ k) : Only (fun _ => False) w w' :=
  ⟨h.os, h.tape, h.output, h.size, fun k hk _ => h.block k hk (fun e => by have := hT k e; omega)⟩
end Go.Proofs.Ytploggfaihfeeaa.Kit
