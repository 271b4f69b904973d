/- A map that a call has made, from integers to values that are held as they are (functions, say): made entry by entry, asked. Good for every stage. -/
import Derived.Test.YtmdepkehpohgeaaGreatFa
import Derived.Maps.OwnSet
import Derived.Carry
import Derived.WalkLawsBesides
namespace Go.Proofs.YtmdepkehpohgeaaGreat.Fmap
open Go.RowKit Go.Maps Fifo
set_option linter.unusedVariables false

/-- The walk stops ahead of an entry of a map's literal. -/
theorem at_insert {P : Program} {ops : Array Oper} {Q : Exit → Act → World → Prop} {rest : List Oper} {op : Oper} {a : Act} {w : World} (ty : TypeId) (m x y : Operand) (ho : op.op = .insert ty m x y) (h : Hid (wpList P ops Q (op :: rest) a w)) : wpList P ops Q (op :: rest) a w := h.out
/-- A value is read as itself. -/
def fR : Value → Option (DataW Value × List MemPlace) := fun v => some (.held v, [])
/-- The entries, the newest first. -/
def dR (q : IntKind) : List (Int × Value) → DataW Value
  | [] => .map []
  | p :: l => (dR q l).put (.int q p.1) (.held p.2)
def atR : List (Int × Value) → Int → Option Value
  | [], _ => none
  | p :: l, k => if k = p.1 then some p.2 else atR l k
theorem dR_map (q : IntKind) : ∀ l : List (Int × Value), IsMap (dR q l)
  | [] => isMap_empty
  | p :: l => (dR_map q l).put _ _
theorem has_dR (q : IntKind) (k : Int) : ∀ l : List (Int × Value), Maps.has (dR q l) (.int q k) = (atR l k).isSome
  | [] => rfl
  | p :: l => by
    unfold dR atR
    by_cases e : k = p.1
    · subst e; rw [if_pos rfl]; exact has_put_same (dR_map q l) (k := .int q p.1) trivial _
    · rw [if_neg e, ← has_dR q k l]; exact has_put_other (fun h => e (by simpa using h)) _
theorem at_dR (q : IntKind) (k : Int) (z : Value) : ∀ l : List (Int × Value), (dR q l).atKey (.int q k) (.held z) = .held ((atR l k).getD z)
  | [] => rfl
  | p :: l => by
    unfold dR atR
    by_cases e : k = p.1
    · subst e; rw [if_pos rfl]; exact atKey_put_same (dR_map q l) (k := .int q p.1) trivial _ _
    · rw [if_neg e, ← at_dR q k z l]; exact atKey_put_other (fun h => e (by simpa using h)) _ _
/-- A map of these entries lies in block g. -/
def FM (P : Program) (kt : TypeId) (q : IntKind) (w : World) (g : Nat) (l : List (Int × Value)) : Prop := w.ownsMap P kt fR g l.length (dR q l)
theorem FM.made (P : Program) (kt : TypeId) (q : IntKind) (w : World) : FM P kt q (w.alloc (.map #[] 0)) w.heap.size [] := World.ownsMap_made w P kt fR
theorem FM.alloc {P : Program} {kt : TypeId} {q : IntKind} {w : World} {g : Nat} {l : List (Int × Value)} (h : FM P kt q w g l) (o : Obj) : FM P kt q (w.alloc o) g l := World.ownsMap.alloc h o
theorem FM.lt {P : Program} {kt : TypeId} {q : IntKind} {w : World} {g : Nat} {l : List (Int × Value)} (h : FM P kt q w g l) : g < w.heap.size := World.ownsMap.lt h
theorem FM.only {P : Program} {kt : TypeId} {q : IntKind} {w w' : World} {g : Nat} {l : List (Int × Value)} {S : Nat → Prop} (h : FM P kt q w g l) (ho : Only S w w') (hn : ¬ S g) : FM P kt q w' g l := by
  obtain ⟨es, clock, hb, r⟩ := h
  exact ⟨es, clock, ho.heap hb hn, r⟩
theorem FM.keep {P : Program} {kt : TypeId} {q : IntKind} {w w' : World} {g : Nat} {l : List (Int × Value)} (h : FM P kt q w g l) (hb : Below w.heap.size w w') : FM P kt q w' g l :=
  h.only (S := fun _ => False) (Only.of_below hb) (fun e => e)
theorem FM.look {P : Program} {kt et mt : TypeId} {q : IntKind} {w : World} {g : Nat} {l : List (Int × Value)} (h : FM P kt q w g l) (K : Keyed P kt) (ht : P.underlying mt = some (.map kt et)) {z : Value} (hz : (zeroValue et).run P w = .ok z w) (k : Int) (hk : keyOf P kt (.int q k) = some (.int q k)) :
    (Instr.lookup mt (.map (some g)) (.int q k) true).run P w = .ok (.tuple #[(atR l k).getD z, .bool (atR l k).isSome]) w := by
  obtain ⟨v, ps, hrun, hv⟩ := World.ownsMap.look_ok h K ht hz (show fR z = some (.held z, []) from rfl) hk
  rw [at_dR] at hv
  rw [has_dR] at hrun
  have e : v = (atR l k).getD z := by
    unfold fR at hv
    simp only [Option.some.injEq, Prod.mk.injEq, DataW.held.injEq] at hv
    exact hv.1
  rw [← e]
  exact hrun
/-- An entry of a map's literal. -/
theorem wpList_insert_fm {P : Program} (w : World) {ops : Array Oper} {rest : List Oper} {o : Oper} {a : Act} {Q : Exit → Act → World → Prop}
    (hg : o.guard = none) (m x v : Operand) (t : TypeId) (hop : o.op = Op.insert t m x v)
    (k e : TypeId) (q : IntKind) (K : Keyed P k) (ht : P.underlying t = some (.map k e)) (g : Nat) (l : List (Int × Value))
    (hm : a.eval m = .map (some g)) (hown : FM P k q w g l) (hn : l.length < maxLen) (n : Int) (val : Value) (hx : a.eval x = .int q n) (hv : a.eval v = val) (hkey : keyOf P k (.int q n) = some (.int q n))
    (hK : ∀ w', FM P k q w' g ((n, val) :: l) → Only (fun j => j = g) w w' → wpList P ops Q rest (a.put o.dst undef) w') :
    wpList P ops Q (o :: rest) a w := by
  refine wpList_plain hg fun K' hK' => ?_
  obtain ⟨w', hrun, r1, r2⟩ := World.ownsMap.update hown K ht hn hkey (show fR val = some (.held val, []) from rfl)
  unfold Oper.wp
  simp [execOp, hop, hm, hx, hv, hrun, Result.andThen]
  exact hK' _ _ (hK w' r1 ((Only.refl _ w).grown r2 (fun k e => .inl (by injection e with e; exact e.symm))))
theorem list_letter {P : Program} {ops : Array Oper} {Q : Exit → Act → World → Prop} {l : List Oper} {a : Act} {w : World} (h : ∀ W, Hid (W = w) → wpList P ops Q l a W) : wpList P ops Q l a w := h w (Lib.hid rfl)
end Go.Proofs.YtmdepkehpohgeaaGreat.Fmap
