/- The kit's apartness of two lists of uint8: ApartBytes. -/
import Derived.Test.YtblccnpdcnlhiaaKdBytes
namespace Go.Proofs.Ytblccnpdcnlhiaa.KitBytes
open Go.RowKit Go.Maps Go.Proofs.Ytblccnpdcnlhiaa.Kit
set_option linter.unusedVariables false

theorem info_s : (Try.prog.info? 27).map (fun i => (i.zero, i.size, i.bytes)) = some (some (.slice none 0 0), 1, 24) := by kernel_rfl
/-- The bag's cells, where this kind's list of lists is v. -/
def bagCells (v : Value) : Array Value := #[.slice none 0 0, .slice none 0 0, .slice none 0 0, .slice none 0 0, .slice none 0 0, v, .slice none 0 0, .slice none 0 0, .slice none 0 0, .slice none 0 0, .slice none 0 0, .slice none 0 0, .slice none 0 0, .slice none 0 0, .slice none 0 0, .slice none 0 0, .slice none 0 0]
def BagIs (w : World) (B : Nat) (v : Value) : Prop := w.heap[B]? = some (.cells (bagCells v) 82 (0, 0))
theorem BagIs.cell {w : World} {B : Nat} {v : Value} (h : BagIs w B v) : w.cell? ⟨B, 5, none⟩ = some v := by
  have h' : w.heap[B]? = _ := h
  simp [World.cell?, h', bagCells]
theorem BagIs.free {w : World} {B : Nat} {v : Value} (h : BagIs w B v) (j : Nat) : w.frozen? ⟨B, j, none⟩ = false := by
  have h' : w.heap[B]? = _ := h
  simp [World.frozen?, h']
theorem BagIs.lt {w : World} {B : Nat} {v : Value} (h : BagIs w B v) : B < w.heap.size := by
  exact (Array.getElem?_eq_some_iff.1 h).1
theorem BagIs.set {w : World} {B : Nat} {v : Value} (h : BagIs w B v) (u : Value) : BagIs (w.setCell ⟨B, 5, none⟩ u) B u := by
  obtain ⟨hlt, hk⟩ := Array.getElem?_eq_some_iff.1 h
  show (w.heap.modify B _)[B]? = _
  rw [Array.getElem?_eq_getElem (by rw [Array.size_modify]; exact hlt), Array.getElem_modify_self, hk]
  rfl
theorem BagIs.all {w : World} {B : Nat} {v : Value} (h : BagIs w B v) : ∀ i, i < 17 → w.cell? ⟨B, i, none⟩ = some (if i = 5 then v else .slice none 0 0) := by
  have h' : w.heap[B]? = _ := h
  intro i hi
  have e : i = 0 ∨ i = 1 ∨ i = 2 ∨ i = 3 ∨ i = 4 ∨ i = 5 ∨ i = 6 ∨ i = 7 ∨ i = 8 ∨ i = 9 ∨ i = 10 ∨ i = 11 ∨ i = 12 ∨ i = 13 ∨ i = 14 ∨ i = 15 ∨ i = 16 := by omega
  rcases e with rfl | rfl | rfl | rfl | rfl | rfl | rfl | rfl | rfl | rfl | rfl | rfl | rfl | rfl | rfl | rfl | rfl <;> simp [World.cell?, h', bagCells]

theorem BagIs.kept {w w1 : World} {B : Nat} {v : Value} {row : Option Nat} (h : BagIs w B v) (o : Obj) (hgrow : (w.alloc o).grownBy w1 row) (hne : some B ≠ row) : BagIs w1 B v := by
  have hlt := h.lt
  exact (hgrow.block B (by simp; omega) hne).trans ((Below.heap_alloc w _ B hlt).trans h)
theorem own_keep {S : Nat → Prop} {w w' : World} {b : Nat} {v : Value} {n : Nat} {L : List Value} (h : w.ownsRow b 27 1 v n L) (ho : Only S w w') (hn : ∀ k, v.ownBlock = some k → ¬ S k) : w'.ownsRow b 27 1 v n L := by
  refine ⟨h.1, ?_⟩
  rcases h.2 with h2 | ⟨g, cap, cur, rfl, hg, hh, r⟩
  · exact .inl h2
  · exact .inr ⟨g, cap, cur, rfl, hg, ho.heap hh (hn g rfl), r⟩
/-- What put leaves: the list of lists has grown by one, in memory from base on. -/
def PutPost (base B m : Nat) (L : List Value) (v : Value) (w : World) (e : Ending) (w' : World) : Prop :=
  (∃ u, e = .returned u) ∧ ∃ g c, BagIs w' B (.slice (some ⟨g, 0, none⟩) (m + 1) c) ∧ w'.ownsRow base 27 1 (.slice (some ⟨g, 0, none⟩) (m + 1) c) (m + 1) (L ++ [v]) ∧ Only (fun k => base ≤ k) w w' ∧ g ≠ B

set_option maxRecDepth 100000 in
theorem put_any (base B m : Nat) (L : List Value) (bv : Value) (a : Option Addr) (n c : Nat) (w : World) (hB : base ≤ B) (hbw : base ≤ w.heap.size) (hm : m ≤ 100) (hbag : BagIs w B bv) (hown : w.ownsRow base 27 1 bv m L) (hBo : ∀ k, bv.ownBlock = some k → k ≠ B) :
    Calls Try.prog 38 #[.pointer (some ⟨B, 0, none⟩), .slice a n c] w (PutPost base B m L (.slice a n c) w) := by
  obtain ⟨i0, hi, hz0, hz1, hz2⟩ := info_parts info_s
  have Hi := Lib.hid hi
  have Hz0 := Lib.hid hz0
  have Hz1 := Lib.hid hz1
  have Hz2 := Lib.hid hz2
  have Hbag := Lib.hid hbag
  have Hown := Lib.hid hown
  have HBo := Lib.hid hBo
  have c0 := hbag.cell
  have hBlt := hbag.lt
  clear hi hz0 hz1 hz2 hbag hown hBo
  go_enter Try.func38, Try.ntmps38
  go_wp2_with (at_builtin; refine wpList_append_own _ rfl _ _ 47 rfl base 27 i0 (.slice none 0 0) 1 24 Try.underlying47 Hi.out Hz0.out Hz1.out Hz2.out rfl (by decide) bv m L rfl (Hown.out.alloc _) ⟨w.heap.size, 0, none⟩ 1 1 [.slice a n c] rfl rfl (cell_one_new _ _ _) (by simp [Value.oneCell']) (by unfold maxLen; omega) (by omega) (by simp; omega) ?_; intro v' w1 hown1 hgrow _; obtain ⟨g, c1, rfl⟩ := ownsRow_succ hown1; have hb1 := BagIs.kept Hbag.out _ hgrow (fun e => HBo.out B e.symm rfl); have e0 := hb1.cell; have f0 := hb1.free 5)
  go_end0
  have hgB : g ≠ B := by
    rintro rfl
    rcases hown1.2 with ⟨h2, _⟩ | ⟨g', cap, cur, h2, _, hh, _⟩
    · cases h2
    · simp only [Value.slice.injEq, Option.some.injEq, Addr.mk.injEq, and_true, true_and] at h2
      obtain ⟨rfl, rfl⟩ := h2
      rw [show w1.heap[g]? = _ from hb1] at hh
      simp at hh
  refine ⟨⟨_, rfl⟩, g, c1, hb1.set _, ?_, ?_, hgB⟩
  · exact own_keep hown1 (only_set w1 B 5 _) (fun k e => by cases e; exact hgB)
  · have h1 : Only (fun k => base ≤ k) w w1 := ((Only.refl _ w).grown (World.grownBy_alloc w _ none) (fun k h => by cases h)).grown hgrow (fun k e => .inl ((Hown.out.lt k e).1))
    exact h1.trans ((only_set w1 B 5 _).mono (fun k _ e => by rw [e]; exact hB))

set_option maxRecDepth 100000 in
theorem apart_two (G capG nx cx ny cy : Nat) (ax ay : Option Addr) (xs ys : List Value) (w : World)
    (hx : R w ax nx cx xs) (hy : R w ay ny cy ys) (hne : ∀ k, SA ax k → ¬ SA ay k) (hnx : nx ≤ 1000000) (hny : ny ≤ 1000000)
    (hg0 : w.cell? ⟨G, 0, none⟩ = some (.slice ax nx cx)) (hg1 : w.cell? ⟨G, 1, none⟩ = some (.slice ay ny cy)) :
    Calls Try.prog 22 #[.slice (some ⟨G, 0, none⟩) 2 capG] w fun e w' => e = .returned (.bool true) ∧ Only (fun k => SA ax k ∨ SA ay k) w w' := by
  have Hne := Lib.hid hne
  have Hx := Lib.hid hx
  have Hy := Lib.hid hy
  have Hg0 := Lib.hid hg0
  have Hg1 := Lib.hid hg1
  have HGl := Lib.hid (World.block_lt_of_cell? w _ hg0)
  clear hne hx hy hg0 hg1
  go_enter Try.func22, Try.ntmps22
  go_wp2_with fail
  obtain ⟨w1, hw⟩ : ∃ W : World, w.alloc (.cells (bagCells (.slice none 0 0)) 82) = W := ⟨_, rfl⟩
  have hw' := hw
  unfold bagCells at hw'
  obtain ⟨B, hB⟩ : ∃ B, w.heap.size = B := ⟨_, rfl⟩
  rw [hw', hB]
  have HW := Lib.hid hw
  have HB := Lib.hid hB
  have Hbag1 : Hid (BagIs w1 B (.slice none 0 0)) := by rw [← hw, ← hB]; exact World.alloc_heap_new w _
  have Hb1 : Hid (Below w.heap.size w w1) := by rw [← hw]; exact (Below.refl _ _).alloc (Nat.le_refl _) _
  have HBl : Hid (B < w1.heap.size) := Hbag1.out.lt
  clear hw hw' hB
  refine wp_loop_rounds 3 ?_
  rw [rounds_succ]
  have c0 := (Hb1.out.cell (p := ⟨G, 0, none⟩) HGl.out).trans Hg0.out
  go_wp2_with fail
  refine (put_any B B 0 [] (.slice none 0 0) ax nx cx w1 (Nat.le_refl _) (Nat.le_of_lt HBl.out) (by omega) Hbag1.out (World.ownsRow_nil _ _ _ _) (fun k e => by cases e)).mono ?_
  rintro e w2 ⟨⟨u, rfl⟩, g1, c1, hbag2, hown2, ho2, hne2⟩
  have Hbag2 := Lib.hid hbag2
  have Hown2 := Lib.hid hown2
  have Ho2 := Lib.hid ho2
  have Hne2 := Lib.hid hne2
  have Hb2 : Hid (Below w.heap.size w w2) := Hb1.out.trans (Ho2.out.below (by have := HBl.out; have := HB.out; omega) (fun k h => by have := HB.out; omega))
  clear hbag2 hown2 ho2 hne2 c0
  have c0 := (Hb2.out.cell (p := ⟨G, 1, none⟩) HGl.out).trans Hg1.out
  go_wp2_with fail
  rw [rounds_succ]
  go_wp2_with fail
  refine (put_any B B 1 _ _ ay ny cy w2 (Nat.le_refl _) (Nat.le_of_lt (Nat.lt_of_lt_of_le HBl.out Ho2.out.size)) (by omega) Hbag2.out Hown2.out (fun k e => by cases e; exact Hne2.out)).mono ?_
  rintro e w3 ⟨⟨u2, rfl⟩, g2, c2, hbag3, hown3, ho3, hne3⟩
  have Hbag3 := Lib.hid hbag3
  have Hown3 := Lib.hid hown3
  have Hb3 : Hid (Below w.heap.size w w3) := Hb2.out.trans (ho3.below (by have := Ho2.out.size; have := HBl.out; have := HB.out; omega) (fun k h => by have := HB.out; omega))
  clear hbag3 hown3 ho3 hne3 c0
  go_wp2_with fail
  rw [rounds_succ]
  go_wp2_with fail
  have hSx : ∀ k, SA ax k → k < w.heap.size := fun k h => (r_lt Hx.out k h).2
  have hSy : ∀ k, SA ay k → k < w.heap.size := fun k h => (r_lt Hy.out k h).2
  refine (apart_Bytes (fun k => SA ax k ∨ SA ay k) B (.slice (some ⟨g2, 0, none⟩) (1 + 1) c2) w3 (fun h => by have := HB.out; rcases h with h | h; have := hSx B h; omega; have := hSy B h; omega) (fun W hW => ?_) Hbag3.out.all).mono ?_
  · have hg : B ≤ g2 ∧ g2 < w3.heap.size := Hown3.out.lt g2 rfl
    have hbW : Below w.heap.size w W := Hb3.out.trans (hW.mono Hb3.out.size)
    have ho : Only (fun _ => False) w W := Only.of_below hbW
    have k0 := Hown3.out.cellAt 0 (by omega)
    have k1 := Hown3.out.cellAt 1 (by omega)
    exact flat_two g2 c2 nx cx ny cy ax ay xs ys W (own_only Hx.out ho (fun _ _ h => h)) (own_only Hy.out ho (fun _ _ h => h)) Hne.out (fun h => by have := hSx g2 h; have := HB.out; omega) (fun h => by have := hSy g2 h; have := HB.out; omega) hnx hny
      ((hW.cell (p := ⟨g2, 0, none⟩) hg.2).trans k0) ((hW.cell (p := ⟨g2, 1, none⟩) hg.2).trans k1)
  · rintro e w4 ⟨rfl, ho4⟩
    have HO := Lib.hid ((Only.of_below (S := fun k => SA ax k ∨ SA ay k) Hb3.out).trans ho4)
    clear ho4 hSx hSy
    go_wp2_with fail
    go_ret
    exact ⟨rfl, HO.out⟩
end Go.Proofs.Ytblccnpdcnlhiaa.KitBytes
