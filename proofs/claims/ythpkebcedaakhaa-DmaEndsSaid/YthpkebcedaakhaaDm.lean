/- DmaMoves: a step; the walk. -/
import Derived.Test.YthpkebcedaakhaaDl
namespace Go.Proofs.Ythpkebcedaakhaa.Dma
open Go.RowKit Go.Maps Fifo Orow
set_option linter.unusedVariables false

theorem eg_mv : ∀ args w, (callFunc 22 args).run Try.prog w = .ok (.enter 22 args) w := fun args w => rfl
theorem next_even {F T : Int} {n i : Nat} {val : Nat → Int} {world : Int} (h : i % 2 = 0) : nextE (mvE F T n val i) world = accV world false (onA F (i / 2)) 4 0 := by
  unfold mvE
  rw [if_pos h]
  rfl
theorem next_odd {F T : Int} {n i : Nat} {val : Nat → Int} {world : Int} (h : i % 2 = 1) : nextE (mvE F T n val i) world = accV world true (onA T (i / 2)) 4 (val (i / 2)) := by
  unfold mvE
  rw [if_neg (by omega)]
  rfl
/-- What is behind a step: denied, or one more was answered. -/
def endE (F T : Int) (n : Nat) (val : Nat → Int) (i : Nat) (den : Int) : En := if (i : Int) = den then toldE (mvE F T n val i) 0 10 else mvE F T n val (i + 1)
theorem Step_mv (K : Nat → Prop) (B b gn gr gw gf gh gv gt gd i n len cap : Nat) (world F T held den : Int) (a : Option Addr) (l : List Int) (w : World) (hn : n ≤ 100) (hi : i < 2 * n) (hF : 0 ≤ F ∧ F < 4294967296) (hT : 0 ≤ T ∧ T < 4294967296) (hw : I64 world)
    (hc : Chain gn gr gw gf gh gv gt gd) (c : Cap w gn gr gw gf gh gv gt gd i world F T held den (.slice a len cap)) (hr : Row .u32 w a len l) (hb : 0 < len → ∀ b off, a = some ⟨b, off, none⟩ → b < B)
    (h : HoldE K w b (mvE F T n (valV l) i)) (hK : ∀ j, j = gn ∨ j = gr ∨ j = gw ∨ j = gf ∨ j = gh ∨ j = gv ∨ j = gt ∨ j = gd → K j) (hB : ∀ j, j < B → K j) (hBg : B ≤ gf) (hBw : B ≤ w.heap.size) (hh : i % 2 = 1 → held = valV l (i / 2)) (hvl : 0 ≤ valV l (i / 2) ∧ valV l (i / 2) < 4294967296) :
    Calls Try.prog 17 #[.pointer (some ⟨b, 0, none⟩), .int .i64 world, .func (.func 22) #[] (capA gn gr gw gf gh gv gt gd)] w fun e w' => e = .returned (.bool true) ∧ HoldE K w' b (endE F T n (valV l) i den) ∧ Cap w' gn gr gw gf gh gv gt gd ((i : Int) + 1) world F T (valV l (i / 2)) den (.slice a len cap) ∧ Below B w w' := by
  obtain ⟨O, a1, a2, a3⟩ := h
  have lO := a1.lt
  obtain ⟨h1, h2, h3, h4, h5, h6, h7⟩ := hc
  have hc : Chain gn gr gw gf gh gv gt gd := ⟨h1, h2, h3, h4, h5, h6, h7⟩
  have lc := c.ch.lt
  have hS : ∀ j, (j = gn ∨ j = gr ∨ j = gh) → ¬ O j ∧ j < w.heap.size := fun j e => ⟨fun o => a2 j o (hK j (by rcases e with e | e | e <;> simp [e])), by omega⟩
  have ask : ∀ W, Only O w W → Calls Try.prog 22 (#[] ++ #[nextE (mvE F T n (valV l) i) world] ++ capA gn gr gw gf gh gv gt gd) W fun e w' => e = .returned (if (i : Int) = den then .agg #[.int .u32 0, .int .i64 10] else .agg #[.int .u32 (valV l (i / 2)), .int .i64 0]) ∧ Cap w' gn gr gw gf gh gv gt gd ((i : Int) + 1) world F T (valV l (i / 2)) den (.slice a len cap) ∧ Only (fun j => j = gn ∨ j = gr ∨ j = gh) W w' := fun W hW => by
    have cW := c.only hW (fun j e o => a2 j o (hK j e))
    have rW := hr.only hW (fun lp b off e o => a2 b o (hB b (hb lp b off e)))
    have hb' : 0 < len → ∀ b off, a = some ⟨b, off, none⟩ → b < gf := fun lp b off e => Nat.lt_of_lt_of_le (hb lp b off e) hBg
    by_cases hi2 : i % 2 = 0
    · rw [next_even hi2]
      exact ask_even gn gr gw gf gh gv gt gd i len cap world F T held den a l W (by omega) hi2 hF hT hc cW rW hb'
    · have hi3 : i % 2 = 1 := by omega
      have hh := hh hi3
      subst hh
      rw [next_odd hi3]
      exact ask_odd gn gr gw gf gh gv gt gd i len cap world F T (valV l (i / 2)) den a l W (by omega) hi3 hF hT hc cW rW hb'
  refine (Step_busy b _ O world 22 #[] (capA gn gr gw gf gh gv gt gd) (fun j => j = gn ∨ j = gr ∨ j = gh) (fun W v err w' => (v = if (i : Int) = den then 0 else valV l (i / 2)) ∧ (err = if (i : Int) = den then 10 else 0) ∧ Cap w' gn gr gw gf gh gv gt gd ((i : Int) + 1) world F T (valV l (i / 2)) den (.slice a len cap)) w hw a1 (mvE_busy hi) hS eg_mv ?_).mono ?_
  · intro W hW
    refine (ask W hW).mono ?_
    rintro e w' ⟨rfl, k1, k2⟩
    by_cases hd : (i : Int) = den
    · exact ⟨0, 10, by rw [if_pos hd], by omega, ⟨by omega, by omega⟩, ⟨by rw [if_pos hd], by rw [if_pos hd], k1⟩, k2⟩
    · exact ⟨valV l (i / 2), 0, by rw [if_neg hd], hvl, ⟨by omega, by omega⟩, ⟨by rw [if_neg hd], by rw [if_neg hd], k1⟩, k2⟩
  · rintro e w' ⟨rfl, v', err', W, W1, O', _, _, k1, ⟨hv, he, k2⟩, k3, k4, k5, k6⟩
    have hW := k1.size
    have hW1 := k3.size
    have e1 : toldE (mvE F T n (valV l) i) v' err' = endE F T n (valV l) i den := by
      unfold endE
      by_cases hd : (i : Int) = den
      · rw [if_pos hd] at hv he ⊢
        rw [hv, he]
      · rw [if_neg hd] at hv he ⊢
        rw [hv, he]
        exact mvE_told hn hi
    rw [e1] at k5
    have hg : ∀ j, (O j ∨ (w.heap.size ≤ j ∧ j < W.heap.size)) → ¬ K j := fun j e k => e.elim (fun o => a2 j o k) (fun e => by have := a3 j k; omega)
    have k7 := k4.size
    refine ⟨rfl, ⟨O', k5, fun j hj k => ?_, fun j hj => ?_⟩, k2.only k4 (fun j e o => hg j o (hK j e)), ?_⟩
    · rcases k6 j hj with o | o | o
      · exact a2 j o k
      · exact hg j (.inr o) k
      · have := a3 j k; omega
    · have := a3 j hj; omega
    · have t1 : Only (fun j => B ≤ j) w w' := (k1.mono (fun j _ o => Nat.le_of_not_lt (fun e => a2 j o (hB j e)))).trans ((k3.mono (fun j _ e => by omega)).trans (k4.mono (fun j _ e => Nat.le_of_not_lt (fun x => hg j e (hB j x)))))
      exact t1.below hBw (fun j e => e)
end Go.Proofs.Ythpkebcedaakhaa.Dma
