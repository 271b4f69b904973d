/- DmaMoves: what an engine is behind so many steps; its asker. -/
import Derived.Test.YthpkebcedaakhaaDj
namespace Go.Proofs.Ythpkebcedaakhaa.Dma
open Go.RowKit Go.Maps Fifo Orow
set_option linter.unusedVariables false

/-- An address so many words on. -/
def onA (x : Int) (k : Nat) : Int := (x + 4 * k) % 4294967296
theorem onA_b (x : Int) (k : Nat) : 0 ≤ onA x k ∧ onA x k < 4294967296 := by unfold onA; omega
theorem onA_zero {x : Int} (h : 0 ≤ x ∧ x < 4294967296) : onA x 0 = x := by unfold onA; omega
theorem onA_plus (x : Int) (k : Nat) : plus4 (onA x k) = onA x (k + 1) := by unfold plus4 onA; omega
/-- Behind i steps, all of them answered OK. -/
def mvE (F T : Int) (n : Nat) (val : Nat → Int) (i : Nat) : En :=
  if i % 2 = 0 then ⟨onA F (i / 2), onA T (i / 2), (n : Int) - (i / 2 : Nat), 0, false, decide (i / 2 < n), false, decide (n ≤ i / 2), true⟩
  else ⟨onA F (i / 2 + 1), onA T (i / 2), (n : Int) - (i / 2 : Nat), val (i / 2), true, true, false, false, true⟩
theorem mvE_busy {F T : Int} {n : Nat} {val : Nat → Int} {i : Nat} (h : i < 2 * n) : (mvE F T n val i).busy = true := by
  unfold mvE
  split
  · exact decide_eq_true (by omega)
  · rfl
theorem mvE_told {F T : Int} {n : Nat} {val : Nat → Int} {i : Nat} (hn : n ≤ 100) (h : i < 2 * n) : toldE (mvE F T n val i) (val (i / 2)) 0 = mvE F T n val (i + 1) := by
  by_cases hi : i % 2 = 0
  · have e1 : ¬ (i + 1) % 2 = 0 := by omega
    have e2 : (i + 1) / 2 = i / 2 := by omega
    have e3 : i / 2 < n := by omega
    unfold mvE
    rw [if_pos hi, if_neg e1, e2]
    simp [toldE, onA_plus, e3]
  · have e1 : (i + 1) % 2 = 0 := by omega
    have e2 : (i + 1) / 2 = i / 2 + 1 := by omega
    have e3 : i / 2 < n := by omega
    unfold mvE
    rw [if_neg hi, if_pos e1, e2]
    unfold toldE
    rw [if_neg (fun k => k rfl), if_pos rfl]
    by_cases hl : (n : Int) - (i / 2 : Nat) = 1
    · rw [if_pos (show (⟨onA F (i / 2 + 1), onA T (i / 2), (n : Int) - (i / 2 : Nat), val (i / 2), true, true, false, false, true⟩ : En).L = 1 from hl)]
      simp only [onA_plus, En.mk.injEq, true_and, and_true]
      refine ⟨by omega, (decide_eq_false (by omega)).symm, (decide_eq_true (by omega)).symm⟩
    · rw [if_neg (show ¬ (⟨onA F (i / 2 + 1), onA T (i / 2), (n : Int) - (i / 2 : Nat), val (i / 2), true, true, false, false, true⟩ : En).L = 1 from hl)]
      simp only [onA_plus, En.mk.injEq, true_and, and_true]
      refine ⟨by omega, (decide_eq_true (by omega)).symm, (decide_eq_false (by omega)).symm⟩
/-- The eight variables of the asker. -/
structure Cap (w : World) (gn gr gw gf gh gv gt gd : Nat) (i world F T held den : Int) (vs : Value) : Prop where
  cn : Blk w gn 3 [.int .i64 i]
  cr : Blk w gr 4 [.bool true]
  cw : Blk w gw 3 [.int .i64 world]
  cf : Blk w gf 22 [.int .u32 F]
  ch : Blk w gh 22 [.int .u32 held]
  cv : Blk w gv 55 [vs]
  ct : Blk w gt 22 [.int .u32 T]
  cd : Blk w gd 3 [.int .i64 den]
/-- They lie one behind the other. -/
def Chain (gn gr gw gf gh gv gt gd : Nat) : Prop := gf < gt ∧ gt < gv ∧ gv < gd ∧ gd < gw ∧ gw < gn ∧ gn < gr ∧ gr < gh
theorem Cap.only {S : Nat → Prop} {w w' : World} {gn gr gw gf gh gv gt gd : Nat} {i world F T held den : Int} {vs : Value} (c : Cap w gn gr gw gf gh gv gt gd i world F T held den vs) (ho : Only S w w')
    (hs : ∀ j, j = gn ∨ j = gr ∨ j = gw ∨ j = gf ∨ j = gh ∨ j = gv ∨ j = gt ∨ j = gd → ¬ S j) : Cap w' gn gr gw gf gh gv gt gd i world F T held den vs :=
  ⟨c.cn.only ho (hs _ (by simp)), c.cr.only ho (hs _ (by simp)), c.cw.only ho (hs _ (by simp)), c.cf.only ho (hs _ (by simp)), c.ch.only ho (hs _ (by simp)), c.cv.only ho (hs _ (by simp)), c.ct.only ho (hs _ (by simp)), c.cd.only ho (hs _ (by simp))⟩
theorem Cap.keep {w w' : World} {gn gr gw gf gh gv gt gd : Nat} {i world F T held den : Int} {vs : Value} (c : Cap w gn gr gw gf gh gv gt gd i world F T held den vs) (hb : Below w.heap.size w w') : Cap w' gn gr gw gf gh gv gt gd i world F T held den vs :=
  c.only (S := fun _ => False) (Only.of_below hb) (fun _ _ e => e)
theorem Cap.setN {w w' : World} {gn gr gw gf gh gv gt gd : Nat} {i world F T held den : Int} {vs : Value} (c : Cap w gn gr gw gf gh gv gt gd i world F T held den vs) (hc : Chain gn gr gw gf gh gv gt gd) (ho : Only (fun j => j = gn) w w') (i' : Int) (hn : Blk w' gn 3 [.int .i64 i']) : Cap w' gn gr gw gf gh gv gt gd i' world F T held den vs := by
  obtain ⟨h1, h2, h3, h4, h5, h6, h7⟩ := hc
  exact ⟨hn, c.cr.only (S := fun j => j = gn) ho (fun e => by have : gr = gn := e; omega), c.cw.only (S := fun j => j = gn) ho (fun e => by have : gw = gn := e; omega), c.cf.only (S := fun j => j = gn) ho (fun e => by have : gf = gn := e; omega), c.ch.only (S := fun j => j = gn) ho (fun e => by have : gh = gn := e; omega), c.cv.only (S := fun j => j = gn) ho (fun e => by have : gv = gn := e; omega), c.ct.only (S := fun j => j = gn) ho (fun e => by have : gt = gn := e; omega), c.cd.only (S := fun j => j = gn) ho (fun e => by have : gd = gn := e; omega)⟩
theorem Cap.setR {w w' : World} {gn gr gw gf gh gv gt gd : Nat} {i world F T held den : Int} {vs : Value} (c : Cap w gn gr gw gf gh gv gt gd i world F T held den vs) (hc : Chain gn gr gw gf gh gv gt gd) (ho : Only (fun j => j = gr) w w') (hn : Blk w' gr 4 [.bool true]) : Cap w' gn gr gw gf gh gv gt gd i world F T held den vs := by
  obtain ⟨h1, h2, h3, h4, h5, h6, h7⟩ := hc
  exact ⟨c.cn.only (S := fun j => j = gr) ho (fun e => by have : gn = gr := e; omega), hn, c.cw.only (S := fun j => j = gr) ho (fun e => by have : gw = gr := e; omega), c.cf.only (S := fun j => j = gr) ho (fun e => by have : gf = gr := e; omega), c.ch.only (S := fun j => j = gr) ho (fun e => by have : gh = gr := e; omega), c.cv.only (S := fun j => j = gr) ho (fun e => by have : gv = gr := e; omega), c.ct.only (S := fun j => j = gr) ho (fun e => by have : gt = gr := e; omega), c.cd.only (S := fun j => j = gr) ho (fun e => by have : gd = gr := e; omega)⟩
theorem Cap.setH {w w' : World} {gn gr gw gf gh gv gt gd : Nat} {i world F T held den : Int} {vs : Value} (c : Cap w gn gr gw gf gh gv gt gd i world F T held den vs) (hc : Chain gn gr gw gf gh gv gt gd) (ho : Only (fun j => j = gh) w w') (h' : Int) (hn : Blk w' gh 22 [.int .u32 h']) : Cap w' gn gr gw gf gh gv gt gd i world F T h' den vs := by
  obtain ⟨h1, h2, h3, h4, h5, h6, h7⟩ := hc
  exact ⟨c.cn.only (S := fun j => j = gh) ho (fun e => by have : gn = gh := e; omega), c.cr.only (S := fun j => j = gh) ho (fun e => by have : gr = gh := e; omega), c.cw.only (S := fun j => j = gh) ho (fun e => by have : gw = gh := e; omega), c.cf.only (S := fun j => j = gh) ho (fun e => by have : gf = gh := e; omega), hn, c.cv.only (S := fun j => j = gh) ho (fun e => by have : gv = gh := e; omega), c.ct.only (S := fun j => j = gh) ho (fun e => by have : gt = gh := e; omega), c.cd.only (S := fun j => j = gh) ho (fun e => by have : gd = gh := e; omega)⟩
/-- The values, and 0 behind them. -/
def valV (l : List Int) (k : Nat) : Int := l.getD k 0
end Go.Proofs.Ythpkebcedaakhaa.Dma
