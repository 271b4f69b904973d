/- A device over the real code: which part it has, what it begins with, which blocks are its own (O), which are kept for good (X). -/
import Derived.Test.YtknhgfofmkpnfaaGreatS5a
import Derived.Test.YtknhgfofmkpnfaaGreatMw
import Derived.Test.YtknhgfofmkpnfaaGreatNw
import Derived.Test.YtknhgfofmkpnfaaGreatQw
import Derived.Test.YtknhgfofmkpnfaaGreatJw
import Derived.Test.YtknhgfofmkpnfaaGreatIw
import Derived.Test.YtknhgfofmkpnfaaGreatDw
namespace Go.Proofs.YtknhgfofmkpnfaaGreat.Devs
set_option linter.unusedSectionVars false
variable [Inhabited Lane.OTab]
open Go.RowKit Go.Maps Go.ChangeShapes Go.WideShapes Go.ChangeAt Fifo Orow Word
set_option linter.unusedVariables false

/-- The tables are laid below Bk. -/
def Laid (w : World) (Bk : Nat) : Prop := Lane.Tab w ∧ Ram.tabB < Bk
theorem Laid.keep {w w' : World} {Bk : Nat} (h : Laid w Bk) (hb : Below Bk w w') : Laid w' Bk :=
  ⟨Ram.tab_only h.1 (S := fun j => Bk ≤ j) ⟨hb.os, hb.tape, hb.output, hb.size, fun k hk hn => hb.block k (by omega)⟩ (fun e => by have := h.2; omega), h.2⟩
theorem Laid.only {S : Nat → Prop} {w w' : World} {Bk : Nat} (h : Laid w Bk) (ho : Only S w w') (hS : ∀ j, S j → Bk ≤ j) : Laid w' Bk :=
  ⟨Ram.tab_only h.1 ho (fun e => by have := hS _ e; have := h.2; omega), h.2⟩
abbrev ptr (b : Nat) : Value := .pointer (some ⟨b, 0, none⟩)
/-- The interface value of a part whose object lies in block m. -/
def partV : Dv → Nat → Value
  | .ram _, m => .iface 80 (.agg #[ptr m])
  | .tim _, m => .iface 68 (.agg #[ptr m])
  | .uar _, m => .iface 73 (.agg #[ptr m])
  | .box _, m => .iface 92 (.agg #[ptr m])
  | .rot _, m => .iface 99 (.agg #[ptr m])
  | .eng _, m => .iface 106 (.agg #[ptr m])
/-- Its object. -/
def ObjAt (w : World) (m : Nat) (d : Dv) (Q : Nat → Prop) : Prop := match d with
  | .ram bs => Ram.Mem w m bs Q
  | .tim s => Timer.Tim w m s Q
  | .uar u => Uart.Uar w m u Q
  | .box x => Mbox.Box w m x Q
  | .rot s => Rotor.Rot w m s Q
  | .eng e => Dma.Eng w m e Q
/-- What it begins with: k: where a memory's size lies. -/
def begV : Dv → Nat → Value
  | .ram _, k => .func (.func 33) #[] #[ptr k]
  | .tim _, _ => .func (.func 35) #[] #[]
  | .uar _, _ => .func (.func 38) #[] #[]
  | .box _, _ => .func (.func 41) #[] #[]
  | .rot _, _ => .func (.func 44) #[] #[]
  | .eng _, _ => .func (.func 47) #[] #[]
def BegAt (w : World) (k : Nat) (d : Dv) (X : Nat → Prop) : Prop := match d with
  | .ram bs => Blk w k 3 [.int .i64 bs.length] ∧ ∀ j, X j ↔ j = k
  | _ => ∀ j, ¬ X j
theorem ObjAt.only {S Q : Nat → Prop} {w w' : World} {m : Nat} {d : Dv} (h : ObjAt w m d Q) (ho : Only S w w') (hn : ∀ j, Q j → ¬ S j) (ht : ¬ S Ram.tabB) : ObjAt w' m d Q := by
  cases d with
  | ram bs => exact Ram.Mem.only h ho hn ht
  | tim s => exact Timer.Tim.only h ho hn
  | uar u => exact Uart.Uar.only h ho hn
  | box x => exact Mbox.Box.only h ho hn
  | rot s => exact Rotor.Rot.only h ho hn
  | eng e => exact Dma.Eng.only h ho hn
theorem ObjAt.keep {Q : Nat → Prop} {w w' : World} {m : Nat} {d : Dv} (h : ObjAt w m d Q) (hb : Below w.heap.size w w') : ObjAt w' m d Q := by
  cases d with
  | ram bs => exact Ram.Mem.keep h hb
  | tim s => exact Timer.Tim.keep h hb
  | uar u => exact Uart.Uar.keep h hb
  | box x => exact Mbox.Box.keep h hb
  | rot s => exact Rotor.Rot.keep h hb
  | eng e => exact Dma.Eng.keep h hb
theorem ObjAt.lt {Q : Nat → Prop} {w : World} {m : Nat} {d : Dv} (h : ObjAt w m d Q) : ∀ j, Q j → j < w.heap.size := by
  cases d with
  | ram bs => exact Ram.Mem.lt h
  | tim s => exact Timer.Tim.lt h
  | uar u => exact Uart.Uar.lt h
  | box x => exact Mbox.Box.lt h
  | rot s => exact Rotor.Rot.lt h
  | eng e => exact Dma.Eng.lt h
theorem ObjAt.ok {Q : Nat → Prop} {w : World} {m : Nat} {d : Dv} (h : ObjAt w m d Q) : OkD d := by
  cases d with
  | ram bs => exact Ram.Mem.ok h
  | tim s => exact Timer.Tim.ok h
  | uar u => exact Uart.Uar.ok h
  | box x => exact Mbox.Box.ok h
  | rot s => exact Rotor.Rot.ok h
  | eng e => exact Dma.Eng.ok h
theorem BegAt.only {S X : Nat → Prop} {w w' : World} {k : Nat} {d : Dv} (h : BegAt w k d X) (ho : Only S w w') (hn : ∀ j, X j → ¬ S j) : BegAt w' k d X := by
  cases d with
  | ram bs => exact ⟨h.1.only ho (hn k ((h.2 k).2 rfl)), h.2⟩
  | _ => exact h
theorem BegAt.keep {X : Nat → Prop} {w w' : World} {k : Nat} {d : Dv} (h : BegAt w k d X) (hb : Below w.heap.size w w') : BegAt w' k d X := by
  cases d with
  | ram bs => exact ⟨h.1.keep hb, h.2⟩
  | _ => exact h
theorem BegAt.lt {X : Nat → Prop} {w : World} {k : Nat} {d : Dv} (h : BegAt w k d X) : ∀ j, X j → j < w.heap.size := by
  intro j hj
  cases d with
  | ram bs => rw [(h.2 j).1 hj]; exact h.1.lt
  | _ => exact absurd hj (h j)
/-- What it begins with hangs on its kind and its size alone. -/
theorem BegAt.same {X : Nat → Prop} {w : World} {k : Nat} {d d' : Dv} (h : BegAt w k d X) (e : zeroD d' = zeroD d) : BegAt w k d' X ∧ begV d' k = begV d k := by
  cases d <;> cases d' <;> first | exact ⟨h, rfl⟩ | (simp [zeroD] at e; done) | skip
  rename_i bs bs'
  have hl : bs'.length = bs.length := by
    have := congrArg List.length (show Ram.zerosB bs'.length = Ram.zerosB bs.length by simpa [zeroD] using e)
    simpa [Ram.zerosB] using this
  exact ⟨⟨by rw [hl]; exact h.1, h.2⟩, rfl⟩
/-- The device in block b has d. O: the blocks that are its own; X: those that are kept for good (a copy has the same). -/
structure DevS (Bk : Nat) (w : World) (b m k : Nat) (d : Dv) (O X Q : Nat → Prop) : Prop where
  blk : Blk w b 63 [partV d m, begV d k, ptr b]
  obj : ObjAt w m d Q
  beg : BegAt w k d X
  own : ∀ j, O j ↔ j = b ∨ Q j
  nb : ¬ Q b
  off : ∀ j, X j → ¬ O j
  bk : ∀ j, O j → Bk ≤ j
  laid : Laid w Bk
def Dev (Bk : Nat) (w : World) (b : Nat) (d : Dv) (O X : Nat → Prop) : Prop := ∃ m k Q, DevS Bk w b m k d O X Q
theorem Dev.only {S O X : Nat → Prop} {Bk : Nat} {w w' : World} {b : Nat} {d : Dv} (h : Dev Bk w b d O X) (ho : Only S w w') (hn : ∀ j, O j → ¬ S j) (hS : ∀ j, S j → Bk ≤ j) (hX : ∀ j, X j → ¬ S j) : Dev Bk w' b d O X := by
  obtain ⟨m, k, Q, h⟩ := h
  exact ⟨m, k, Q, h.blk.only ho (hn b ((h.own b).2 (.inl rfl))), h.obj.only ho (fun j hj => hn j ((h.own j).2 (.inr hj))) (fun e => by have := hS _ e; have := h.laid.2; omega), h.beg.only ho hX, h.own, h.nb, h.off, h.bk, h.laid.only ho hS⟩
theorem Dev.keep {O X : Nat → Prop} {Bk : Nat} {w w' : World} {b : Nat} {d : Dv} (h : Dev Bk w b d O X) (hb : Below w.heap.size w w') : Dev Bk w' b d O X := by
  obtain ⟨m, k, Q, h⟩ := h
  exact ⟨m, k, Q, h.blk.keep hb, h.obj.keep hb, h.beg.keep hb, h.own, h.nb, h.off, h.bk, h.laid.only (S := fun _ => False) (Only.of_below hb) (fun j e => e.elim)⟩
theorem Dev.lt {O X : Nat → Prop} {Bk : Nat} {w : World} {b : Nat} {d : Dv} (h : Dev Bk w b d O X) : ∀ j, O j → Bk ≤ j ∧ j < w.heap.size := by
  obtain ⟨m, k, Q, h⟩ := h
  intro j hj
  refine ⟨h.bk j hj, ?_⟩
  rcases (h.own j).1 hj with e | e
  · rw [e]; exact h.blk.lt
  · exact h.obj.lt j e
theorem Dev.xlt {O X : Nat → Prop} {Bk : Nat} {w : World} {b : Nat} {d : Dv} (h : Dev Bk w b d O X) : ∀ j, X j → j < w.heap.size := by
  obtain ⟨m, k, Q, h⟩ := h
  exact h.beg.lt
theorem Dev.xoff {O X : Nat → Prop} {Bk : Nat} {w : World} {b : Nat} {d : Dv} (h : Dev Bk w b d O X) : ∀ j, X j → ¬ O j := by
  obtain ⟨m, k, Q, h⟩ := h
  exact h.off
theorem Dev.all_lt {O X : Nat → Prop} {Bk : Nat} {w : World} {b : Nat} {d : Dv} (h : Dev Bk w b d O X) : ∀ j, O j ∨ X j → j < w.heap.size := fun j hj => hj.elim (fun e => (h.lt j e).2) (h.xlt j)
theorem Dev.ok {O X : Nat → Prop} {Bk : Nat} {w : World} {b : Nat} {d : Dv} (h : Dev Bk w b d O X) : OkD d := by
  obtain ⟨m, k, Q, h⟩ := h
  exact h.obj.ok
theorem Dev.laid {O X : Nat → Prop} {Bk : Nat} {w : World} {b : Nat} {d : Dv} (h : Dev Bk w b d O X) : Laid w Bk := by
  obtain ⟨m, k, Q, h⟩ := h
  exact h.laid
/-- What a method leaves. -/
def Left (Bk : Nat) (w w' : World) (b : Nat) (d : Dv) (O X : Nat → Prop) : Prop := ∃ O', Dev Bk w' b d O' X ∧ Only O w w' ∧ ∀ j, O' j → O j ∨ w.heap.size ≤ j
/-- The object alone has turned. -/
theorem DevS.turn {Bk : Nat} {w w1 w' : World} {b m k : Nat} {d d' : Dv} {O X Q Q' : Nat → Prop} (h : DevS Bk w b m k d O X Q) (hb : Below w.heap.size w w1) (ho : Only Q w1 w') (hq : ObjAt w' m d' Q') (hn : ∀ j, Q' j → Q j ∨ w1.heap.size ≤ j) (ev : partV d' m = partV d m) (ez : zeroD d' = zeroD d) : Left Bk w w' b d' O X := by
  have l := (show Dev Bk w b d O X from ⟨m, k, Q, h⟩).lt
  have s1 := hb.size
  have hB := h.laid.2
  have o1 : Only O w w' := (Only.of_below hb).trans (ho.mono (fun j _ e => (h.own j).2 (.inr e)))
  have oQ : Only Q w w' := (Only.of_below hb).trans ho
  obtain ⟨e1, e2⟩ := (h.beg.only oQ (fun j hx e => h.off j hx ((h.own j).2 (.inr e)))).same ez
  have hl := h.blk.lt
  have bkw : ∀ j, O j → Bk ≤ j := h.bk
  have bkb : Bk ≤ b := bkw b ((h.own b).2 (.inl rfl))
  refine ⟨fun j => j = b ∨ Q' j, ⟨m, k, Q', ?_, hq, e1, fun j => Iff.rfl, fun e => ?_, fun j hx e => ?_, fun j hj => ?_, h.laid.only o1 bkw⟩, o1, fun j hj => ?_⟩
  · rw [ev, e2]
    exact h.blk.only oQ h.nb
  · rcases hn b e with e | e
    · exact h.nb e
    · omega
  · rcases e with e | e
    · exact h.off j hx ((h.own j).2 (.inl e))
    · rcases hn j e with e | e
      · exact h.off j hx ((h.own j).2 (.inr e))
      · have := h.beg.lt j hx; omega
  · rcases hj with e | e
    · rw [e]; exact bkb
    · rcases hn j e with e | e
      · exact bkw j ((h.own j).2 (.inr e))
      · omega
  · rcases hj with e | e
    · exact .inl ((h.own j).2 (.inl e))
    · rcases hn j e with e | e
      · exact .inl ((h.own j).2 (.inr e))
      · exact .inr (by omega)
/-- Nothing of it has turned. -/
theorem Dev.still {Bk : Nat} {w w' : World} {b : Nat} {d : Dv} {O X : Nat → Prop} (h : Dev Bk w b d O X) (hb : Below w.heap.size w w') : Left Bk w w' b d O X := ⟨O, h.keep hb, Only.of_below hb, fun j hj => .inl hj⟩
def timeV (k : Int) : Int := if k = 1 then 16 else if k = 2 then 2 else if k = 3 then 4 else if k = 4 then 3 else if k = 5 then 2 else if k = 6 then 5 else 0
abbrev devA (k B S o l : Int) : Value := .agg #[.int .i64 k, .int .u32 B, .int .i64 S, .int .i64 o, .int .i64 l]
end Go.Proofs.YtknhgfofmkpnfaaGreat.Devs
