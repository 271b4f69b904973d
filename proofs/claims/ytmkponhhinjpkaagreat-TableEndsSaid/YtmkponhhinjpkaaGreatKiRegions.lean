/- The kit's apartness of many lists of Regions: ApartRegions. -/
import Derived.Test.YtmkponhhinjpkaaGreatKhRegions
import Derived.Test.YtmkponhhinjpkaaGreatKbRegions
namespace Go.Proofs.YtmkponhhinjpkaaGreat.KitRegions
open Go.RowKit Go.Maps Fifo Orow
set_option linter.unusedVariables false

theorem toK {S : Nat → Prop} {w w' : World} (h : Only S w w') : Kit.Only S w w' := ⟨h.os, h.tape, h.output, h.size, h.block⟩
theorem ofK {S : Nat → Prop} {w w' : World} (h : Kit.Only S w w') : Only S w w' := ⟨h.os, h.tape, h.output, h.size, h.block⟩
theorem info_ss : (Tryz.prog.info? 22).map (fun i => (i.zero, i.size, i.bytes)) = some (some (.slice none 0 0), 1, 24) := by kernel_rfl
/-- The bag's cells, where this kind's list of lists is v. -/
def bagL (v : Value) : List Value := [.slice none 0 0, .slice none 0 0, .slice none 0 0, .slice none 0 0, .slice none 0 0, .slice none 0 0, .slice none 0 0, .slice none 0 0, .slice none 0 0, .slice none 0 0, v, .slice none 0 0, .slice none 0 0, .slice none 0 0, .slice none 0 0, .slice none 0 0, .slice none 0 0]
def BagIs (w : World) (B : Nat) (v : Value) : Prop := Blk w B 80 (bagL v)
/-- What put leaves: the list of lists has grown by one, in memory from base on. -/
def PutPost (base B m : Nat) (L : List Value) (v : Value) (w : World) (e : Ending) (w' : World) : Prop :=
  (∃ u, e = .returned u) ∧ ∃ g c, BagIs w' B (.slice (some ⟨g, 0, none⟩) (m + 1) c) ∧ w'.ownsRow base 22 1 (.slice (some ⟨g, 0, none⟩) (m + 1) c) (m + 1) (L ++ [v]) ∧ Only (fun k => base ≤ k) w w' ∧ g ≠ B

set_option maxRecDepth 100000 in
theorem put_any (base B m : Nat) (L : List Value) (bv : Value) (a : Option Addr) (n c : Nat) (w : World) (hB : base ≤ B) (hbw : base ≤ w.heap.size) (hm : m ≤ 100) (hbag : BagIs w B bv) (hown : w.ownsRow base 22 1 bv m L) (hBo : ∀ k, bv.ownBlock = some k → k ≠ B) :
    Calls Tryz.prog 31 #[.pointer (some ⟨B, 0, none⟩), .slice a n c] w (PutPost base B m L (.slice a n c) w) := by
  obtain ⟨i0, hi, hz0, hz1, hz2⟩ := info_parts info_ss
  have Hi := Lib.hid hi
  have Hz0 := Lib.hid hz0
  have Hz1 := Lib.hid hz1
  have Hz2 := Lib.hid hz2
  have Hbag := Lib.hid hbag
  have Hown := Lib.hid hown
  have HBo := Lib.hid hBo
  have c0 : w.cell? ⟨B, 10, none⟩ = some bv := Blk.at hbag 10 rfl
  have hBlt := Blk.lt hbag
  clear hi hz0 hz1 hz2 hbag hown hBo
  go_enter Tryz.func31, Tryz.ntmps31
  go_wp2_with (at_builtin; refine wpList_append_own _ rfl _ _ 32 rfl base 22 i0 (.slice none 0 0) 1 24 Tryz.underlying32 Hi.out Hz0.out Hz1.out Hz2.out rfl (by decide) bv m L rfl (Hown.out.alloc _) ⟨w.heap.size, 0, none⟩ 1 1 [.slice a n c] rfl rfl (cell_one_new _ _ _) (by simp [Value.oneCell']) (by unfold maxLen; omega) (by omega) (by simp; omega) ?_; intro v' w1 hown1 hgrow _; obtain ⟨g, c1, rfl⟩ := ownsRow_succ hown1; have hb1 : BagIs w1 B bv := (Hbag.out.alloc _).only (grown_only hgrow) (fun h => HBo.out B h rfl); have e0 : w1.cell? ⟨B, 10, none⟩ = some bv := Blk.at hb1 10 rfl; have f0 := Blk.frozen hb1 10)
  go_end0
  have hgB : g ≠ B := by
    rintro rfl
    obtain ⟨cur, h1, h2, h3, _⟩ := own_blk hown1
    have : bagL bv = cur := by
      have h4 : w1.heap[g]? = _ := h1
      rw [show w1.heap[g]? = _ from hb1] at h4
      simp at h4
    have h4 : w1.heap[g]? = _ := h1
    rw [show w1.heap[g]? = _ from hb1] at h4
    simp at h4
  refine ⟨⟨_, rfl⟩, g, c1, Blk.set hb1 10 _, ?_, ?_, hgB⟩
  · exact own_only hown1 ((Only.refl (fun j => j = B) w1).setCell (p := ⟨B, 10, none⟩) rfl _) (fun k e h => hgB ((ba_some e).symm.trans h))
  · have h1 : Only (fun k => base ≤ k) w w1 := ((Only.refl _ w).alloc _).grown hgrow (fun k e => .inl ((Hown.out.lt k e).1))
    exact h1.setCell (p := ⟨B, 10, none⟩) hB _

set_option maxRecDepth 100000 in
set_option maxHeartbeats 1000000 in
theorem apart_many (m : Nat) (A : Nat → Option Addr) (N C : Nat → Nat) (X : Nat → List Value) (G capG : Nat) (w : World) (hm0 : 0 < m) (hm : m ≤ 100) (hr : Rows w m A N C X) (hd : Dis m A)
    (hN : ∀ q, q < m → N q ≤ 1000000) (hg : ∀ q, q < m → w.cell? ⟨G, q, none⟩ = some (.slice (A q) (N q) (C q))) :
    Calls Tryz.prog 13 #[.slice (some ⟨G, 0, none⟩) m capG] w fun e w' => e = .returned (.bool true) ∧ Only (UU m A) w w' := by
  have Hd := Lib.hid hd
  have HN := Lib.hid hN
  have Hg := Lib.hid hg
  have Hr := Lib.hid hr
  clear hd hN hg hr
  go_enter Tryz.func13, Tryz.ntmps13
  go_wp2_with fail
  obtain ⟨v1, hw⟩ : ∃ W : World, w.alloc (.cells (bagL (.slice none 0 0)).toArray 80) = W := ⟨_, rfl⟩
  have hw' := hw
  unfold bagL at hw'
  obtain ⟨B, hB⟩ : ∃ B, w.heap.size = B := ⟨_, rfl⟩
  rw [hw', hB]
  have HB := Lib.hid hB
  have Hbag1 : Hid (BagIs v1 B (.slice none 0 0)) := by rw [← hw, ← hB]; exact Blk.new w _ _
  have Hb1 : Hid (Below w.heap.size w v1) := by rw [← hw]; exact (Below.refl _ _).alloc (Nat.le_refl _) _
  clear hw hw' hB
  go_loopw [4] (fun i wr => ∃ k : Nat, k ≤ m ∧ i = .int .i64 k ∧ Below w.heap.size w wr ∧ ∃ (bv : Value) (L : List Value), BagIs wr B bv ∧ wr.ownsRow B 22 1 bv k L ∧ (∀ j, bv.ownBlock = some j → j ≠ B) ∧ ∀ q, q < k → L[q]? = some (.slice (A q) (N q) (C q))) (fun i _ => m - (intOf i).toNat)
  case atStart => exact ⟨0, Nat.zero_le _, rfl, Hb1.out, .slice none 0 0, [], Hbag1.out, ⟨rfl, .inl ⟨rfl, rfl⟩⟩, (fun j h => by cases h), fun q hq => by omega⟩
  case round =>
  obtain ⟨k, hk, rfl, hb, bv, L, hbag, hown, hbo, hL⟩ := hrel
  obtain ⟨v2, rfl⟩ : ∃ W : World, W = wr := ⟨_, rfl⟩
  have HB2 := Lib.hid hb
  have HBag := Lib.hid hbag
  have HOwn := Lib.hid hown
  have HBo := Lib.hid hbo
  have HL := Lib.hid hL
  have hlen : L.length = k := by have := hown.1; omega
  clear hb hbag hown hbo hL
  by_cases hlt : k < m
  · have c0 := cell_keep HB2.out (Hg.out k hlt)
    have i1 : (0 : Int) ≤ (k : Int) := by omega
    have i2 : (k : Int) < (m : Int) := by omega
    go_wp2_with fail
    refine (put_any B B k L bv (A k) (N k) (C k) v2 (Nat.le_refl _) (Nat.le_of_lt HBag.out.lt) (by omega) HBag.out HOwn.out HBo.out).mono ?_
    rintro e w2 ⟨⟨u, rfl⟩, g1, c1, hbag2, hown2, ho2, hne2⟩
    have HB3 := Lib.hid (HB2.out.trans (ho2.below HB2.out.size (fun j hj => by have := HB.out; omega)))
    have Hbag2 := Lib.hid hbag2
    have Hown2 := Lib.hid hown2
    clear hbag2 hown2 ho2 c0
    go_wp2_with fail
    refine ⟨⟨k + 1, by omega, by go_num, HB3.out, _, _, Hbag2.out, Hown2.out, (fun j h => by cases h; exact hne2), fun q hq => ?_⟩, by simp [intOf]; omega⟩
    by_cases e : q < k
    · rw [List.getElem?_append_left (by omega)]; exact HL.out q e
    · obtain rfl : q = k := by omega
      rw [List.getElem?_append_right (by omega), hlen, Nat.sub_self]; rfl
  · obtain rfl : k = m := by omega
    go_wp2_with fail
    obtain ⟨g, c, rfl⟩ := own_pos HOwn.out hm0
    have hlt : ∀ j, UU k A j → j < B := fun j hj => by rw [← HB.out]; exact Hr.out.lt j hj
    refine (Kit.apart_Regions (UU k A) B (.slice (some ⟨g, 0, none⟩) k c) v2 (fun h => by have := hlt B h; omega) (fun W hW => ?_) (fun i hi => ?_)).mono ?_
    · have hbW : Below w.heap.size w W := HB2.out.trans (hW.mono HB2.out.size)
      have hgl := HOwn.out.lt g rfl
      refine (flat_many k A N C X g c W hm (Hr.out.keep hbW) Hd.out (fun q hq h => ?_) HN.out (fun q hq => ?_)).mono (fun e w' h => ⟨h.1, toK h.2⟩)
      · have := hlt g ⟨q, hq, h⟩; omega
      · have := HOwn.out.cellAt q (by omega)
        exact cell_keep hW (this.trans (HL.out q hq))
    · have e : i = 0 ∨ i = 1 ∨ i = 2 ∨ i = 3 ∨ i = 4 ∨ i = 5 ∨ i = 6 ∨ i = 7 ∨ i = 8 ∨ i = 9 ∨ i = 10 ∨ i = 11 ∨ i = 12 ∨ i = 13 ∨ i = 14 ∨ i = 15 ∨ i = 16 := by omega
      rcases e with rfl | rfl | rfl | rfl | rfl | rfl | rfl | rfl | rfl | rfl | rfl | rfl | rfl | rfl | rfl | rfl | rfl <;> exact Blk.at HBag.out _ rfl
    · rintro e w4 ⟨rfl, ho4⟩
      have HO := Lib.hid ((Only.of_below (S := UU k A) HB2.out).trans (ofK ho4))
      clear ho4 hlt
      go_wp2_with fail
      go_ret
      exact ⟨rfl, HO.out⟩
end Go.Proofs.YtmkponhhinjpkaaGreat.KitRegions
