/- Plain: what a device has, by its kind; what is read, written, comes, what a tick, a step makes. -/
import Derived.Test.YtknhgfofmkpnfaaGreatMw
import Derived.Test.YtknhgfofmkpnfaaGreatNw
import Derived.Test.YtknhgfofmkpnfaaGreatQw
import Derived.Test.YtknhgfofmkpnfaaGreatJw
import Derived.Test.YtknhgfofmkpnfaaGreatIw
import Derived.Test.YtknhgfofmkpnfaaGreatDw
namespace Go.Proofs.YtknhgfofmkpnfaaGreat.Timer
theorem okS_wr {s : St} (h : OkS s) (reg v : Int) (hv : 0 ≤ v ∧ v < 4294967296) : OkS (writeS s reg v) := by
  unfold writeS
  split
  · exact ⟨hv, h.l, h.k, h.h⟩
  split
  · exact ⟨h.c, hv, h.k, h.h⟩
  split
  · exact ⟨h.c, h.l, ⟨by show 0 ≤ v % 8; omega, by show v % 8 < _; omega⟩, h.h⟩
  split
  · exact ⟨h.c, h.l, h.k, ⟨by show (0 : Int) ≤ 0; omega, by show (0 : Int) < _; omega⟩⟩
  · exact h
end Go.Proofs.YtknhgfofmkpnfaaGreat.Timer
namespace Go.Proofs.YtknhgfofmkpnfaaGreat.Devs
set_option linter.unusedSectionVars false
variable [Inhabited Lane.OTab]
set_option linter.unusedVariables false

def I64 (x : Int) : Prop := -9223372036854775808 ≤ x ∧ x ≤ 9223372036854775807
inductive Dv where
  | ram (bs : List Int)
  | tim (s : Timer.St)
  | uar (u : Uart.Un)
  | box (x : Mbox.Bx)
  | rot (s : Rotor.RS)
  | eng (e : Dma.En)
instance : Inhabited Dv := ⟨.tim Timer.zeroS⟩
def kindD : Dv → Int
  | .ram _ => 1
  | .tim _ => 2
  | .uar _ => 3
  | .box _ => 4
  | .rot _ => 5
  | .eng _ => 6
def OkD : Dv → Prop
  | .ram bs => Ram.OkM bs
  | .tim s => Timer.OkS s ∧ s.K < 8
  | .uar u => Uart.OkU u
  | .box x => Mbox.OkX x
  | .rot s => Rotor.OkR s
  | .eng e => Dma.OkE e ∧ Dma.InvE e
/-- A fresh one of its kind and size. -/
def zeroD : Dv → Dv
  | .ram bs => .ram (Ram.zerosB bs.length)
  | .tim _ => .tim Timer.zeroS
  | .uar _ => .uar Uart.zeroU
  | .box _ => .box Mbox.zeroX
  | .rot _ => .rot Rotor.zeroR
  | .eng _ => .eng Dma.zeroE
/-- A fresh one of a kind, of a size. -/
def newD (k S : Int) : Dv := if k = 1 then .ram (Ram.zerosB S.toNat) else if k = 2 then .tim Timer.zeroS else if k = 3 then .uar Uart.zeroU else if k = 4 then .box Mbox.zeroX else if k = 5 then .rot Rotor.zeroR else .eng Dma.zeroE
/-- Its size: of a memory its bytes, of the others 32. -/
def sizeD : Dv → Int
  | .ram bs => bs.length
  | _ => 32
/-- The number of a register, or one below 0. -/
def regD (off size : Int) : Int := if size = 4 ∧ 0 ≤ off ∧ off ≤ 28 ∧ off % 4 = 0 then off / 4 else -1
def regRead : Dv → Int → Int × Dv
  | .ram bs, _ => (0, .ram bs)
  | .tim s, r => (Timer.readS s r, .tim s)
  | .uar u, r => ((Uart.readU u r).1, .uar (Uart.readU u r).2)
  | .box x, r => ((Mbox.readX x r).1, .box (Mbox.readX x r).2)
  | .rot s, r => (Rotor.readR s r, .rot s)
  | .eng e, r => (Dma.readE e r, .eng e)
def regWrite : Dv → Int → Int → Dv
  | .ram bs, _, _ => .ram bs
  | .tim s, r, v => .tim (Timer.writeS s r v)
  | .uar u, r, v => .uar (Uart.writeU u r v)
  | .box x, r, v => .box (Mbox.writeX x r v)
  | .rot s, r, v => .rot (Rotor.writeR s r v)
  | .eng e, r, v => .eng (Dma.writeE e r v)
/-- What is read, whether it fits, what stays. -/
def readD (d : Dv) (off size : Int) : Int × Bool × Dv :=
  match d with
  | .ram bs => (Ram.readV bs off size, Ram.placeB bs.length off size, .ram bs)
  | d => if regD off size < 0 then (0, false, d) else ((regRead d (regD off size)).1, true, (regRead d (regD off size)).2)
def writeD (d : Dv) (off size v : Int) : Bool × Dv :=
  match d with
  | .ram bs => (Ram.placeB bs.length off size, .ram (Ram.writeV bs off size v.toNat))
  | d => if regD off size < 0 then (false, d) else (true, regWrite d (regD off size) v)
def inputD : Dv → Int → Bool × Dv
  | .uar u, b => ((Uart.inputU u b).1, .uar (Uart.inputU u b).2)
  | d, _ => (false, d)
def tickD : Dv → Int × Bool × Dv
  | .tim s => (0, false, .tim (Timer.tickS s))
  | .uar u => ((Uart.tickU u).1, (Uart.tickU u).2.1, .uar (Uart.tickU u).2.2)
  | d => (0, false, d)
def lineD : Dv → Bool
  | .tim s => Timer.lineS s
  | .uar u => Uart.lineU u
  | .box x => Mbox.lineX x
  | .eng e => Dma.lineE e
  | _ => false
def busyD : Dv → Bool
  | .eng e => e.busy
  | _ => false
/-- What a step asks. -/
def nextD (d : Dv) (world : Int) : Go.Value := match d with
  | .eng e => Dma.nextE e world
  | _ => Go.undef
def toldD (d : Dv) (v err : Int) : Dv := match d with
  | .eng e => .eng (Dma.toldE e v err)
  | d => d
def lost3 (a b : Bool) : Int := (if a then 1 else 0) + (if b then 2 else 0)
def bits5 (e : Dma.En) : Int := Dma.bitV e.busy 1 + Dma.bitV e.den 2 + Dma.bitV e.don 4 + Dma.bitV e.has 8 + Dma.bitV e.cal 256
/-- What it has, as words. -/
def lookD : Dv → List Int
  | .ram bs => (List.range (bs.length / 4)).map (fun k => Ram.readV bs ((4 * k : Nat) : Int) 4)
  | .tim s => [s.C, s.L, s.K, s.H]
  | .uar u => ((u.Came.length : Nat) : Int) :: (u.Came ++ ((u.Goes.length : Nat) : Int) :: (u.Goes ++ [lost3 u.LI u.LO, u.C, u.P]))
  | .box x => ((x.W.length : Nat) : Int) :: (x.W ++ [x.C, x.L])
  | .rot s => [Ring.wd s.p, s.n]
  | .eng e => [e.F, e.T, e.L, e.H, bits5 e]
def freshD (d : Dv) : Bool := decide (lookD d = lookD (zeroD d))

theorem ok_new {k S : Int} (hk : 1 ≤ k ∧ k ≤ 6) (hS : k = 1 → 4 ≤ S ∧ S ≤ 4096 ∧ S % 4 = 0) : OkD (newD k S) := by
  unfold newD
  split
  · rename_i e
    exact Ram.okM_zeros (by unfold Ram.sizeM; rw [decide_eq_true_eq]; have := hS e; omega)
  split
  · exact ⟨⟨by show (0 : Int) ≤ 0 ∧ (0 : Int) < _; omega, by show (0 : Int) ≤ 0 ∧ (0 : Int) < _; omega, by show (0 : Int) ≤ 0 ∧ (0 : Int) < _; omega, by show (0 : Int) ≤ 0 ∧ (0 : Int) < _; omega⟩, by show (0 : Int) < 8; omega⟩
  split
  · exact Uart.okU_zero
  split
  · exact Mbox.okX_zero
  split
  · exact Rotor.okR_zero
  · exact ⟨Dma.ok_zero, Dma.inv_zero⟩
theorem kind_new {k S : Int} (hk : 1 ≤ k ∧ k ≤ 6) : kindD (newD k S) = k := by
  unfold newD
  split
  · rename_i e; exact e.symm
  split
  · rename_i e; exact e.symm
  split
  · rename_i e; exact e.symm
  split
  · rename_i e; exact e.symm
  split
  · rename_i e; exact e.symm
  · show (6 : Int) = k; omega
theorem kind_b (d : Dv) : 1 ≤ kindD d ∧ kindD d ≤ 6 := by cases d <;> (simp only [kindD]; omega)
/-- A device is made anew as it was made. -/
theorem zero_newD {k S : Int} (hk : 1 ≤ k ∧ k ≤ 6) : zeroD (newD k S) = newD k S := by
  unfold newD
  split
  · show Dv.ram (Ram.zerosB (Ram.zerosB S.toNat).length) = _
    rw [show (Ram.zerosB S.toNat).length = S.toNat by simp [Ram.zerosB]]
  repeat (first | rfl | (split; rfl))
theorem new_zero {d : Dv} : newD (kindD d) (sizeD d) = zeroD d := by
  cases d <;> rfl
theorem zero_zero (d : Dv) : zeroD (zeroD d) = zeroD d := by
  cases d <;> first | rfl | simp [zeroD, Ram.zerosB]
theorem ok_zeroD {d : Dv} (h : OkD d) : OkD (zeroD d) := by
  cases d with
  | ram bs =>
    have h : Ram.OkM bs := h
    exact Ram.okM_zeros (by unfold Ram.sizeM; rw [decide_eq_true_eq]; have := h.lo; have := h.hi; have := h.four; omega)
  | tim s => exact ⟨⟨by show (0 : Int) ≤ 0 ∧ (0 : Int) < _; omega, by show (0 : Int) ≤ 0 ∧ (0 : Int) < _; omega, by show (0 : Int) ≤ 0 ∧ (0 : Int) < _; omega, by show (0 : Int) ≤ 0 ∧ (0 : Int) < _; omega⟩, by show (0 : Int) < 8; omega⟩
  | uar u => exact Uart.okU_zero
  | box x => exact Mbox.okX_zero
  | rot s => exact Rotor.okR_zero
  | eng e => exact ⟨Dma.ok_zero, Dma.inv_zero⟩
/-- What is done leaves the kind, and the size. -/
theorem regRead_zero (d : Dv) (r : Int) : zeroD (regRead d r).2 = zeroD d := by cases d <;> rfl
theorem regWrite_zero (d : Dv) (r v : Int) : zeroD (regWrite d r v) = zeroD d := by cases d <;> rfl
theorem read_zero (d : Dv) (off size : Int) : zeroD (readD d off size).2.2 = zeroD d := by
  cases d with
  | ram bs => rfl
  | _ =>
    simp only [readD]
    split
    · rfl
    · rfl
theorem write_zero (d : Dv) (off size v : Int) : zeroD (writeD d off size v).2 = zeroD d := by
  cases d with
  | ram bs =>
    show Dv.ram (Ram.zerosB (Ram.writeV bs off size v.toNat).length) = _
    rw [Ram.write_length]
    rfl
  | _ =>
    simp only [writeD]
    split
    · rfl
    · rfl
theorem input_zero (d : Dv) (b : Int) : zeroD (inputD d b).2 = zeroD d := by cases d <;> rfl
theorem tick_zero (d : Dv) : zeroD (tickD d).2.2 = zeroD d := by cases d <;> rfl
theorem told_zero (d : Dv) (v err : Int) : zeroD (toldD d v err) = zeroD d := by cases d <;> rfl
theorem kind_zero (d : Dv) : kindD (zeroD d) = kindD d := by cases d <;> rfl
theorem kind_of {d d' : Dv} (h : zeroD d = zeroD d') : kindD d = kindD d' := by rw [← kind_zero d, h, kind_zero]
theorem fresh_zero (d : Dv) : freshD (zeroD d) = true := by unfold freshD; rw [zero_zero]; exact decide_eq_true rfl
theorem reg_no {off size : Int} (h : regD off size < 0) : ¬ (size = 4 ∧ 0 ≤ off ∧ off ≤ 28 ∧ off % 4 = 0) := by
  intro e
  unfold regD at h
  rw [if_pos e] at h
  omega
theorem reg_yes {off size : Int} (h : ¬ regD off size < 0) : (size = 4 ∧ 0 ≤ off ∧ off ≤ 28 ∧ off % 4 = 0) ∧ regD off size = off / 4 := by
  unfold regD at h ⊢
  by_cases e : size = 4 ∧ 0 ≤ off ∧ off ≤ 28 ∧ off % 4 = 0
  · rw [if_pos e]
    exact ⟨e, rfl⟩
  · rw [if_neg e] at h
    exact absurd (by omega) h
theorem reg_b (off size : Int) : -1 ≤ regD off size ∧ regD off size ≤ 7 := by
  unfold regD
  split <;> omega
end Go.Proofs.YtknhgfofmkpnfaaGreat.Devs
