/- FifoTurns: a row and two rows of numbers, each in blocks of its own. -/
import Derived.Test.YtekmenojaojeiaaFs
import Derived.Maps.OwnIn
namespace Go.Proofs.Ytekmenojaojeiaa.Fifo5
open Go.RowKit Go.Maps Go.Shelf Fifo FI
set_option linter.unusedVariables false

structure Turn (B : Nat) (w0 w : World) (b R P : Nat) (vp vg : Value) (pl gl fl : List Int) (O : Nat → Prop) : Prop where
  st : St w b R (vals fl) O
  ob : ∀ j, O j → B ≤ j
  rp : Own1 w B vp (vals pl)
  rg : Own1 w B vg (vals gl)
  bx : Blk w P 27 [vg]
  pb : B ≤ P
  s1 : ∀ j, O j → j ≠ P ∧ ¬ PB vp j ∧ ¬ PB vg j
  s2 : ∀ j, PB vp j → ¬ PB vg j
  bl : Below B w0 w
  b0 : B ≤ w0.heap.size
theorem Turn.row {B : Nat} {w0 w w' : World} {b R P : Nat} {vp vg : Value} {pl gl fl fl' : List Int} {O O' : Nat → Prop} (h : Turn B w0 w b R P vp vg pl gl fl O)
    (h1 : St w' b R (vals fl') O') (ho : Only O w w') (hn : ∀ j, O' j → O j ∨ w.heap.size ≤ j) : Turn B w0 w' b R P vp vg pl gl fl' O' := by
  obtain ⟨a1, a2⟩ := own_step h.bl h.b0 h.ob ho hn
  refine ⟨h1, a2, own_only h.rp ho (fun j hj hO => (h.s1 j hO).2.1 hj), own_only h.rg ho (fun j hj hO => (h.s1 j hO).2.2 hj), h.bx.only ho (fun hO => (h.s1 P hO).1 rfl), h.pb, fun j hj => ?_, h.s2, a1, h.b0⟩
  rcases hn j hj with hh | hh
  · exact h.s1 j hh
  · refine ⟨?_, fun e => ?_, fun e => ?_⟩
    · have := h.bx.lt; omega
    · have := (own_lt h.rp j e).2; omega
    · have := (own_lt h.rg j e).2; omega
theorem Turn.keep {B : Nat} {w0 w w' : World} {b R P : Nat} {vp vg : Value} {pl gl fl : List Int} {O : Nat → Prop} (h : Turn B w0 w b R P vp vg pl gl fl O) (hb : Below w.heap.size w w') : Turn B w0 w' b R P vp vg pl gl fl O :=
  h.row (h.st.keep hb) (Only.of_below hb) (fun j hj => .inl hj)
theorem Turn.app_p {B : Nat} {w0 w w' : World} {b R P : Nat} {vp vp' vg : Value} {pl gl fl : List Int} {O : Nat → Prop} {x : Int} (h : Turn B w0 w b R P vp vg pl gl fl O)
    (hown : Own1 w' B vp' (vals (pl ++ [x]))) (ho : Only (PB vp) w w') (hn : ∀ j, PB vp' j → PB vp j ∨ w.heap.size ≤ j) : Turn B w0 w' b R P vp' vg (pl ++ [x]) gl fl O := by
  refine ⟨h.st.only ho (fun j hO hp => (h.s1 j hO).2.1 hp), h.ob, hown, own_only h.rg ho (fun j hg hp => h.s2 j hp hg), h.bx.only ho (fun hp => own_ne h.rp h.bx (by decide) P hp rfl), h.pb, fun j hO => ⟨(h.s1 j hO).1, fun hp => ?_, (h.s1 j hO).2.2⟩, fun j hp hg => ?_,
    h.bl.trans (ho.below (Nat.le_trans h.b0 h.bl.size) (fun k hk => (own_lt h.rp k hk).1)), h.b0⟩
  · rcases hn j hp with e | e
    · exact (h.s1 j hO).2.1 e
    · have := h.st.lt j hO; omega
  · rcases hn j hp with e | e
    · exact h.s2 j e hg
    · have := (own_lt h.rg j hg).2; omega
theorem Turn.app_g {B : Nat} {w0 w w1 : World} {b R P : Nat} {vp vg vg' : Value} {pl gl fl : List Int} {O : Nat → Prop} {x : Int} (h : Turn B w0 w b R P vp vg pl gl fl O)
    (hown : Own1 w1 B vg' (vals (gl ++ [x]))) (ho : Only (PB vg) w w1) (hn : ∀ j, PB vg' j → PB vg j ∨ w.heap.size ≤ j) : Turn B w0 (w1.setCell ⟨P, 0, none⟩ vg') b R P vp vg' pl (gl ++ [x]) fl O := by
  have hx1 : Blk w1 P 27 [vg] := h.bx.only ho (fun hp => own_ne h.rg h.bx (by decide) P hp rfl)
  have ho2 : Only (fun j => PB vg j ∨ j = P) w (w1.setCell ⟨P, 0, none⟩ vg') := (ho.mono (fun j _ e => .inl e)).setCell (p := ⟨P, 0, none⟩) (.inr rfl) vg'
  have hset : Only (fun j => j = P) w1 (w1.setCell ⟨P, 0, none⟩ vg') := (Only.refl (fun j => j = P) w1).setCell (p := ⟨P, 0, none⟩) rfl vg'
  refine ⟨h.st.only ho2 (fun j hO hp => hp.elim (h.s1 j hO).2.2 (h.s1 j hO).1), h.ob, own_only h.rp ho2 (fun j hg hp => hp.elim (h.s2 j hg) (own_ne h.rp h.bx (by decide) j hg)), own_only hown hset (fun j hj => own_ne hown hx1 (by decide) j hj), hx1.set 0 vg', h.pb,
    fun j hO => ⟨(h.s1 j hO).1, (h.s1 j hO).2.1, fun hp => ?_⟩, fun j hp hg => ?_, h.bl.trans (ho2.below (Nat.le_trans h.b0 h.bl.size) (fun k hk => hk.elim (fun e => (own_lt h.rg k e).1) (fun e => e ▸ h.pb))), h.b0⟩
  · rcases hn j hp with e | e
    · exact (h.s1 j hO).2.2 e
    · have := h.st.lt j hO; omega
  · rcases hn j hg with e | e
    · exact h.s2 j hp e
    · have := (own_lt h.rp j hp).2; omega
theorem own_snoc {w : World} {B : Nat} {v : Value} {l : List Int} {x : Int} (h : w.ownsRow B 3 1 v ((vals l).length + 1) (vals l ++ [.int .i64 x])) : Own1 w B v (vals (l ++ [x])) := by
  have e : vals (l ++ [x]) = vals l ++ [.int .i64 x] := by simp [vals]
  unfold Own1
  rw [e]
  simpa using h
/-- Behind an append of one thing that was laid in a new block. -/
theorem app_only {w w1 : World} {v : Value} {o : Obj} (h : (w.alloc o).grownBy w1 v.ownBlock) : Only (PB v) w w1 :=
  ((Only.refl (PB v) w).alloc o).grown h (fun k e => .inl e)
theorem app_fresh {w : World} {v v' : Value} {o : Obj} (h : v'.ownBlock = v.ownBlock ∨ v'.ownBlock = some (w.alloc o).heap.size) : ∀ j, PB v' j → PB v j ∨ w.heap.size ≤ j := by
  intro j hj
  unfold PB at *
  rcases h with h | h
  · exact .inl (h ▸ hj)
  · rw [h] at hj
    simp at hj
    exact .inr (by omega)
theorem turn_got {B : Nat} {w0 w w5 : World} {b R P : Nat} {vp vg v' : Value} {pl gl fl : List Int} {O : Nat → Prop} {y : Int} {t : TypeId} (h : Turn B w0 w b R P vp vg pl gl fl O)
    (h1 : w5.ownsRow B 3 1 v' ((vals gl).length + 1) (vals gl ++ [.int .i64 y])) (h2 : (w.alloc (.cells #[.int .i64 y] t)).grownBy w5 vg.ownBlock) (h4 : v'.ownBlock = vg.ownBlock ∨ v'.ownBlock = some (w.alloc (.cells #[.int .i64 y] t)).heap.size) :
    ∃ a n c, v' = .slice a n c ∧ w5.cell? ⟨P, 0, none⟩ = some vg ∧ w5.frozen? ⟨P, 0, none⟩ = false ∧ Turn B w0 (w5.setCell ⟨P, 0, none⟩ v') b R P vp v' pl (gl ++ [y]) fl O := by
  have hb : Blk w5 P 27 [vg] := h.bx.only (app_only h2) (fun hp => own_ne h.rg h.bx (by decide) P hp rfl)
  obtain ⟨a, c, hv⟩ := own_shape (own_snoc h1)
  exact ⟨a, _, c, hv, hb.at 0 rfl, hb.frozen 0, h.app_g (own_snoc h1) (app_only h2) (app_fresh h4)⟩
theorem turn_put {B : Nat} {w0 w w5 : World} {b R P : Nat} {vp vg v' : Value} {pl gl fl : List Int} {O : Nat → Prop} {y : Int} {t : TypeId} (h : Turn B w0 w b R P vp vg pl gl fl O)
    (h1 : w5.ownsRow B 3 1 v' ((vals pl).length + 1) (vals pl ++ [.int .i64 y])) (h2 : (w.alloc (.cells #[.int .i64 y] t)).grownBy w5 vp.ownBlock) (h4 : v'.ownBlock = vp.ownBlock ∨ v'.ownBlock = some (w.alloc (.cells #[.int .i64 y] t)).heap.size) :
    ∃ a n c, v' = .slice a n c ∧ Turn B w0 w5 b R P v' vg (pl ++ [y]) gl fl O := by
  obtain ⟨a, c, hv⟩ := own_shape (own_snoc h1)
  exact ⟨a, _, c, hv, h.app_p (own_snoc h1) (app_only h2) (app_fresh h4)⟩
theorem St5.book {B : Nat} {w w' : World} {b R : Nat} {l : List Value} {O : Nat → Prop} (h : St w b R l O) (hk : Book B w w') : St w' b R l O := h.book hk
theorem Turn.book {B : Nat} {w0 w w' : World} {b R P C : Nat} {vp vg : Value} {pl gl fl : List Int} {O : Nat → Prop} (h : Turn B w0 w b R P vp vg pl gl fl O) (hk : Book C w w') (hC : B ≤ C) : Turn B w0 w' b R P vp vg pl gl fl O :=
  ⟨h.st.book hk, h.ob, own_book h.rp hk, own_book h.rg hk, h.bx.book hk, h.pb, h.s1, h.s2, hk.below h.bl hC, h.b0⟩
theorem turn_got_only {B : Nat} {w0 w w5 : World} {b R P : Nat} {vp vg v' : Value} {pl gl fl : List Int} {O : Nat → Prop} {o : Obj} (h : Turn B w0 w b R P vp vg pl gl fl O)
    (h2 : (w.alloc o).grownBy w5 vg.ownBlock) (h4 : v'.ownBlock = vg.ownBlock ∨ v'.ownBlock = some (w.alloc o).heap.size) :
    (∀ j, (j = P ∨ PB v' j) → (j = P ∨ PB vg j) ∨ w.heap.size ≤ j) ∧ Only (fun j => j = P ∨ PB vg j) w (w5.setCell ⟨P, 0, none⟩ v') :=
  ⟨fun j hj => hj.elim (fun e => .inl (.inl e)) (fun e => (app_fresh h4 j e).imp .inr id), ((app_only h2).mono (fun j _ e => .inr e)).setCell (p := ⟨P, 0, none⟩) (.inl rfl) v'⟩
theorem vals_snocx (l : List Int) (x : Int) : vals (l ++ [x]) = vals l ++ [.int .i64 x] := by simp [vals]
theorem fst_vals (x : Int) (l : List Int) : vals (x :: l) = .int .i64 x :: vals l := rfl
end Go.Proofs.Ytekmenojaojeiaa.Fifo5
