/- Contracts of package word's Show. -/
import Derived.Test.YteahocaogkhddaaDoorWd
import Derived.Maps.AppendAt
import Derived.Lib.SlBytesConst
import Derived.ArgAppend
namespace Go.Proofs.YteahocaogkhddaaDoor.Word
open Go.RowKit Go.PlainAid Go.Maps
set_option linter.unusedVariables false

theorem info_u8 : (Tryd.prog.info? 5).map (fun i => (i.zero, i.size, i.bytes)) = some (some (.int .u8 0), 1, 1) := by kernel_rfl

/-- A row of bytes of the call's own. -/
def Owns (w : World) (base : Nat) (v : Value) (l : List Int) : Prop := w.ownsRow base 5 1 v l.length (l.map (Value.int .u8))

/-- What a round of Show keeps. -/
def ShowRel (v : Int) (w wr : World) (k : Nat) (s : Value) : Prop :=
  Below w.heap.size w wr ∧ w.heap.size + 1 ≤ wr.heap.size ∧
  ((k = 0 ∧ s = .slice (some ⟨w.heap.size, 0, none⟩) 2 2 ∧ wr.cell? ⟨w.heap.size, 0, none⟩ = some (.int .u8 48) ∧ wr.cell? ⟨w.heap.size, 1, none⟩ = some (.int .u8 120)) ∨
   (1 ≤ k ∧ wr.ownsRow (w.heap.size + 1) 5 1 s (2 + k) (((showI v).take (2 + k)).map (Value.int .u8))))

theorem Tab.below {w w' : World} (h : Tab w) (hb : Below w.heap.size w w') : Tab w' := fun i hi => by
  have c := h i hi
  rw [hb.cell (World.block_lt_of_cell? w _ c)]
  exact c

theorem show_start (v : Int) (w : World) : ShowRel v w (w.alloc (.cells #[.int .u8 48, .int .u8 120] 5 (2, 3))) 0 (.slice (some ⟨w.heap.size, 0, none⟩) 2 2) :=
  ⟨(Below.refl _ _).alloc (Nat.le_refl _) _, by simp, .inl ⟨rfl, rfl, World.cell?_alloc_mark _ _ _ _ _, World.cell?_alloc_mark _ _ _ _ _⟩⟩

theorem show_at (v : Int) {k : Nat} (hk : k < 8) : (showI v)[2 + k]? = some (dch (nib v k)) := by
  have hcase : k = 0 ∨ k = 1 ∨ k = 2 ∨ k = 3 ∨ k = 4 ∨ k = 5 ∨ k = 6 ∨ k = 7 := by omega
  rcases hcase with rfl | rfl | rfl | rfl | rfl | rfl | rfl | rfl <;> rfl
theorem show_take (v : Int) {k : Nat} (hk : k < 8) : ((showI v).take (2 + k)).map (Value.int .u8) ++ [Value.int .u8 (dch (nib v k))] = ((showI v).take (2 + (k + 1))).map (Value.int .u8) := by
  rw [show 2 + (k + 1) = (2 + k) + 1 from by omega, List.take_add_one, show_at v hk, List.map_append]
  rfl
theorem show_step0 (v : Int) (w wr w1 : World) (v' : Value) (x : Int) (hb : Below w.heap.size w wr) (hsz : w.heap.size + 1 ≤ wr.heap.size)
    (hown1 : w1.ownsRow (wr.alloc (.cells #[.int .u8 x] 5)).heap.size 5 1 v' (2 + 1) ([Value.int .u8 48, .int .u8 120] ++ [.int .u8 x]))
    (hgrow : (wr.alloc (.cells #[.int .u8 x] 5)).grownBy w1 none) (hx : dch (nib v 0) = x) : ShowRel v w w1 1 v' := by
  subst hx
  have hb2 := (hb.alloc (by omega) (.cells #[.int .u8 (dch (nib v 0))] 5)).grown hgrow (by simp; omega) (fun k h => by cases h)
  have hs := hgrow.size
  simp at hs
  refine ⟨hb2, by omega, .inr ⟨Nat.le_refl _, hown1.1, ?_⟩⟩
  rcases hown1.2 with h | ⟨g, cap, cur, e, hg, r⟩
  · exact .inl h
  · exact .inr ⟨g, cap, cur, e, by simp at hg; omega, r⟩
theorem show_step (v : Int) (w wr w1 : World) (s v' : Value) (x : Int) (k : Nat) (hk : 1 ≤ k) (hk8 : k < 8) (hb : Below w.heap.size w wr) (hsz : w.heap.size + 1 ≤ wr.heap.size)
    (hown : wr.ownsRow (w.heap.size + 1) 5 1 s (2 + k) (((showI v).take (2 + k)).map (Value.int .u8)))
    (hown1 : w1.ownsRow (w.heap.size + 1) 5 1 v' (2 + k + 1) (((showI v).take (2 + k)).map (Value.int .u8) ++ [.int .u8 x]))
    (hgrow : (wr.alloc (.cells #[.int .u8 x] 5)).grownBy w1 s.ownBlock) (hx : dch (nib v k) = x) : ShowRel v w w1 (k + 1) v' := by
  subst hx
  have hb2 := (hb.alloc (by omega) (.cells #[.int .u8 (dch (nib v k))] 5)).grown hgrow (by simp; omega) (fun j h => by have := (hown.lt j h).1; omega)
  have hs := hgrow.size
  simp at hs
  refine ⟨hb2, by omega, .inr ⟨by omega, ?_⟩⟩
  rw [← show_take v hk8]
  exact hown1
theorem show_end (v : Int) (w wr : World) (s : Value) (hown : wr.ownsRow (w.heap.size + 1) 5 1 s (2 + 8) (((showI v).take (2 + 8)).map (Value.int .u8))) :
    ∃ g cap, s = .slice (some ⟨g, 0, none⟩) 10 cap ∧ ∀ j (hj : j < (showF v).length), wr.cell? ((⟨g, 0, none⟩ : Addr).add j) = some (.int .u8 ((showF v)[j].toNat : Int)) := by
  rcases hown.2 with ⟨_, h⟩ | ⟨g, cap, cur, rfl, _⟩
  · omega
  · refine ⟨g, cap, rfl, fun j hj => ?_⟩
    have hj' : j < 10 := hj
    have c := hown.cellAt j (by omega)
    rw [showF_at v hj]
    have e : ((⟨g, 0, none⟩ : Addr).add j) = ⟨g, j, none⟩ := by by_cases h0 : j = 0 <;> simp [Addr.add, h0]
    rw [e, c]
    have hl : (showI v).length = 10 := rfl
    rw [List.getElem?_map, List.take_of_length_le (by omega), List.getElem?_eq_getElem (by omega)]
    simp [List.getD_eq_getElem?_getD, List.getElem?_eq_getElem (show j < (showI v).length by omega)]

set_option maxHeartbeats 1000000 in
theorem show_any (v : Int) (w : World) (h0 : 0 ≤ v) (h1 : v < 4294967296) (ht : Tab w) :
    Calls Tryd.prog 7 #[.int .u32 v] w fun e w' => e = .returned (.string ⟨(showF v).toArray⟩) ∧ Below w.heap.size w w' := by
  have kc := fun (w : World) (C : Array Value) (n c : Nat) => Lib.run_convert_bytes_const (P := Tryd.prog) w 29 5 C n c Tryd.underlying29 Tryd.underlying5
  have Ht := Lib.hid ht
  obtain ⟨i0, hi, hz0, hz1, hz2⟩ := info_parts info_u8
  have Hi := Lib.hid hi
  have Hz0 := Lib.hid hz0
  have Hz1 := Lib.hid hz1
  have Hz2 := Lib.hid hz2
  clear ht hi hz0 hz1 hz2
  go_enter Tryd.func7, Tryd.ntmps7
  go_wp2
  clear kc
  go_loopw [3, 7] (fun s i wr => ∃ k : Nat, k ≤ 8 ∧ i = .int .u64 k ∧ ShowRel v w wr k s) (fun _ i _ => 8 - (intOf i).toNat)
  case atStart => exact ⟨0, by omega, rfl, show_start v w⟩
  case round =>
    obtain ⟨k, hk, rfl, hb, hsz, hrow⟩ := hrel
    have Htr := Lib.hid (Ht.out.below hb)
    have Hb := Lib.hid hb
    clear hb
    by_cases hlt : k < 8
    · have hcase : k = 0 ∨ k = 1 ∨ k = 2 ∨ k = 3 ∨ k = 4 ∨ k = 5 ∨ k = 6 ∨ k = 7 := by omega
      rcases hcase with rfl | rfl | rfl | rfl | rfl | rfl | rfl | rfl
      · have e := nib_0 h0 h1
        have hd := nib_lt v 0
        have hc := Htr.out (nib v 0) hd
        obtain ⟨x, hx⟩ : ∃ x, dch (nib v 0) = x := ⟨_, rfl⟩
        rw [hx] at hc
        have Hx := Lib.hid hx
        obtain ⟨d, hd'⟩ : ∃ d, nib v 0 = d := ⟨_, rfl⟩
        rw [hd'] at hc e hd
        clear hx hd'
        rcases hrow with ⟨_, rfl, hc0, hc1⟩ | ⟨hbad, _⟩
        rotate_left
        · omega
        have hold : Hid (∀ b, (some ⟨w.heap.size, 0, none⟩ : Option Addr) = some b → ∀ j u, [Value.int .u8 48, .int .u8 120][j]? = some u → (wr.alloc (.cells #[.int .u8 x] 5)).cell? (b.add j) = some u) := by
          intro b hb j u hj
          cases hb
          have hj2 : j = 0 ∨ j = 1 := by have := (List.getElem?_eq_some_iff.1 hj).1; simp at this; omega
          rcases hj2 with rfl | rfl
          · simp at hj; subst hj; exact cell_old _ hc0
          · simp at hj; subst hj; exact cell_old _ hc1
        go_wp2_with (at_builtin; refine wpList_append_grows (wr.alloc (.cells #[.int .u8 x] 5)) rfl _ _ 29 rfl 5 i0 (.int .u8 0) 1 1 Tryd.underlying29 Hi.out Hz0.out Hz1.out Hz2.out rfl (by decide) (some ⟨w.heap.size, 0, none⟩) 2 2 [.int .u8 48, .int .u8 120] rfl (fun h => by cases h) rfl hold.out ⟨wr.heap.size, 0, none⟩ 1 1 [.int .u8 x] rfl rfl (cell_one_new _ _ _) (by simp [Value.oneCell']) (by omega) (by unfold maxLen; omega) (by omega) ?_; intro v' w1 hown1 hgrow)
        exact ⟨⟨1, by omega, by go_num, show_step0 v w wr w1 v' x Hb.out hsz hown1 hgrow Hx.out⟩, by simp [intOf]⟩
      · have e := nib_1 h0 h1
        have hd := nib_lt v 1
        have hc := Htr.out (nib v 1) hd
        obtain ⟨x, hx⟩ : ∃ x, dch (nib v 1) = x := ⟨_, rfl⟩
        rw [hx] at hc
        have Hx := Lib.hid hx
        obtain ⟨d, hd'⟩ : ∃ d, nib v 1 = d := ⟨_, rfl⟩
        rw [hd'] at hc e hd
        clear hx hd'
        rcases hrow with ⟨hbad, _⟩ | ⟨_, hown⟩
        · omega
        go_wp2_with (at_builtin; refine wpList_append_own _ rfl _ _ 29 rfl (w.heap.size + 1) 5 i0 (.int .u8 0) 1 1 Tryd.underlying29 Hi.out Hz0.out Hz1.out Hz2.out rfl (by decide) _ _ _ rfl (hown.alloc _) ⟨wr.heap.size, 0, none⟩ 1 1 [.int .u8 x] rfl rfl (cell_one_new _ _ _) (by simp [Value.oneCell']) (by unfold maxLen; omega) (by omega) (by simp; omega) ?_; intro v' w1 hown1 hgrow _)
        exact ⟨⟨2, by omega, by go_num, show_step v w wr w1 _ v' x 1 (by omega) (by omega) Hb.out hsz hown hown1 hgrow Hx.out⟩, by simp [intOf]⟩
      · have e := nib_2 h0 h1
        have hd := nib_lt v 2
        have hc := Htr.out (nib v 2) hd
        obtain ⟨x, hx⟩ : ∃ x, dch (nib v 2) = x := ⟨_, rfl⟩
        rw [hx] at hc
        have Hx := Lib.hid hx
        obtain ⟨d, hd'⟩ : ∃ d, nib v 2 = d := ⟨_, rfl⟩
        rw [hd'] at hc e hd
        clear hx hd'
        rcases hrow with ⟨hbad, _⟩ | ⟨_, hown⟩
        · omega
        go_wp2_with (at_builtin; refine wpList_append_own _ rfl _ _ 29 rfl (w.heap.size + 1) 5 i0 (.int .u8 0) 1 1 Tryd.underlying29 Hi.out Hz0.out Hz1.out Hz2.out rfl (by decide) _ _ _ rfl (hown.alloc _) ⟨wr.heap.size, 0, none⟩ 1 1 [.int .u8 x] rfl rfl (cell_one_new _ _ _) (by simp [Value.oneCell']) (by unfold maxLen; omega) (by omega) (by simp; omega) ?_; intro v' w1 hown1 hgrow _)
        exact ⟨⟨3, by omega, by go_num, show_step v w wr w1 _ v' x 2 (by omega) (by omega) Hb.out hsz hown hown1 hgrow Hx.out⟩, by simp [intOf]⟩
      · have e := nib_3 h0 h1
        have hd := nib_lt v 3
        have hc := Htr.out (nib v 3) hd
        obtain ⟨x, hx⟩ : ∃ x, dch (nib v 3) = x := ⟨_, rfl⟩
        rw [hx] at hc
        have Hx := Lib.hid hx
        obtain ⟨d, hd'⟩ : ∃ d, nib v 3 = d := ⟨_, rfl⟩
        rw [hd'] at hc e hd
        clear hx hd'
        rcases hrow with ⟨hbad, _⟩ | ⟨_, hown⟩
        · omega
        go_wp2_with (at_builtin; refine wpList_append_own _ rfl _ _ 29 rfl (w.heap.size + 1) 5 i0 (.int .u8 0) 1 1 Tryd.underlying29 Hi.out Hz0.out Hz1.out Hz2.out rfl (by decide) _ _ _ rfl (hown.alloc _) ⟨wr.heap.size, 0, none⟩ 1 1 [.int .u8 x] rfl rfl (cell_one_new _ _ _) (by simp [Value.oneCell']) (by unfold maxLen; omega) (by omega) (by simp; omega) ?_; intro v' w1 hown1 hgrow _)
        exact ⟨⟨4, by omega, by go_num, show_step v w wr w1 _ v' x 3 (by omega) (by omega) Hb.out hsz hown hown1 hgrow Hx.out⟩, by simp [intOf]⟩
      · have e := nib_4 h0 h1
        have hd := nib_lt v 4
        have hc := Htr.out (nib v 4) hd
        obtain ⟨x, hx⟩ : ∃ x, dch (nib v 4) = x := ⟨_, rfl⟩
        rw [hx] at hc
        have Hx := Lib.hid hx
        obtain ⟨d, hd'⟩ : ∃ d, nib v 4 = d := ⟨_, rfl⟩
        rw [hd'] at hc e hd
        clear hx hd'
        rcases hrow with ⟨hbad, _⟩ | ⟨_, hown⟩
        · omega
        go_wp2_with (at_builtin; refine wpList_append_own _ rfl _ _ 29 rfl (w.heap.size + 1) 5 i0 (.int .u8 0) 1 1 Tryd.underlying29 Hi.out Hz0.out Hz1.out Hz2.out rfl (by decide) _ _ _ rfl (hown.alloc _) ⟨wr.heap.size, 0, none⟩ 1 1 [.int .u8 x] rfl rfl (cell_one_new _ _ _) (by simp [Value.oneCell']) (by unfold maxLen; omega) (by omega) (by simp; omega) ?_; intro v' w1 hown1 hgrow _)
        exact ⟨⟨5, by omega, by go_num, show_step v w wr w1 _ v' x 4 (by omega) (by omega) Hb.out hsz hown hown1 hgrow Hx.out⟩, by simp [intOf]⟩
      · have e := nib_5 h0 h1
        have hd := nib_lt v 5
        have hc := Htr.out (nib v 5) hd
        obtain ⟨x, hx⟩ : ∃ x, dch (nib v 5) = x := ⟨_, rfl⟩
        rw [hx] at hc
        have Hx := Lib.hid hx
        obtain ⟨d, hd'⟩ : ∃ d, nib v 5 = d := ⟨_, rfl⟩
        rw [hd'] at hc e hd
        clear hx hd'
        rcases hrow with ⟨hbad, _⟩ | ⟨_, hown⟩
        · omega
        go_wp2_with (at_builtin; refine wpList_append_own _ rfl _ _ 29 rfl (w.heap.size + 1) 5 i0 (.int .u8 0) 1 1 Tryd.underlying29 Hi.out Hz0.out Hz1.out Hz2.out rfl (by decide) _ _ _ rfl (hown.alloc _) ⟨wr.heap.size, 0, none⟩ 1 1 [.int .u8 x] rfl rfl (cell_one_new _ _ _) (by simp [Value.oneCell']) (by unfold maxLen; omega) (by omega) (by simp; omega) ?_; intro v' w1 hown1 hgrow _)
        exact ⟨⟨6, by omega, by go_num, show_step v w wr w1 _ v' x 5 (by omega) (by omega) Hb.out hsz hown hown1 hgrow Hx.out⟩, by simp [intOf]⟩
      · have e := nib_6 h0 h1
        have hd := nib_lt v 6
        have hc := Htr.out (nib v 6) hd
        obtain ⟨x, hx⟩ : ∃ x, dch (nib v 6) = x := ⟨_, rfl⟩
        rw [hx] at hc
        have Hx := Lib.hid hx
        obtain ⟨d, hd'⟩ : ∃ d, nib v 6 = d := ⟨_, rfl⟩
        rw [hd'] at hc e hd
        clear hx hd'
        rcases hrow with ⟨hbad, _⟩ | ⟨_, hown⟩
        · omega
        go_wp2_with (at_builtin; refine wpList_append_own _ rfl _ _ 29 rfl (w.heap.size + 1) 5 i0 (.int .u8 0) 1 1 Tryd.underlying29 Hi.out Hz0.out Hz1.out Hz2.out rfl (by decide) _ _ _ rfl (hown.alloc _) ⟨wr.heap.size, 0, none⟩ 1 1 [.int .u8 x] rfl rfl (cell_one_new _ _ _) (by simp [Value.oneCell']) (by unfold maxLen; omega) (by omega) (by simp; omega) ?_; intro v' w1 hown1 hgrow _)
        exact ⟨⟨7, by omega, by go_num, show_step v w wr w1 _ v' x 6 (by omega) (by omega) Hb.out hsz hown hown1 hgrow Hx.out⟩, by simp [intOf]⟩
      · have e := nib_7 h0 h1
        have hd := nib_lt v 7
        have hc := Htr.out (nib v 7) hd
        obtain ⟨x, hx⟩ : ∃ x, dch (nib v 7) = x := ⟨_, rfl⟩
        rw [hx] at hc
        have Hx := Lib.hid hx
        obtain ⟨d, hd'⟩ : ∃ d, nib v 7 = d := ⟨_, rfl⟩
        rw [hd'] at hc e hd
        clear hx hd'
        rcases hrow with ⟨hbad, _⟩ | ⟨_, hown⟩
        · omega
        go_wp2_with (at_builtin; refine wpList_append_own _ rfl _ _ 29 rfl (w.heap.size + 1) 5 i0 (.int .u8 0) 1 1 Tryd.underlying29 Hi.out Hz0.out Hz1.out Hz2.out rfl (by decide) _ _ _ rfl (hown.alloc _) ⟨wr.heap.size, 0, none⟩ 1 1 [.int .u8 x] rfl rfl (cell_one_new _ _ _) (by simp [Value.oneCell']) (by unfold maxLen; omega) (by omega) (by simp; omega) ?_; intro v' w1 hown1 hgrow _)
        exact ⟨⟨8, by omega, by go_num, show_step v w wr w1 _ v' x 7 (by omega) (by omega) Hb.out hsz hown hown1 hgrow Hx.out⟩, by simp [intOf]⟩
    · obtain rfl : k = 8 := by omega
      rcases hrow with ⟨hbad, _⟩ | ⟨_, hown⟩
      · omega
      obtain ⟨g, cap, rfl, hcell⟩ := show_end v w wr _ hown
      have kb : ∀ W : World, (∀ j (hj : j < (showF v).length), W.cell? ((⟨g, 0, none⟩ : Addr).add j) = some (.int .u8 ((showF v)[j].toNat : Int))) → (convert 29 9 (.slice (some ⟨g, 0, none⟩) 10 cap)).run Tryd.prog W = .ok (.string ⟨(showF v).toArray⟩) W := fun W h => run_convert_bytes_back W 29 9 5 ⟨g, 0, none⟩ cap (showF v) Tryd.underlying29 Tryd.underlying5 Tryd.underlying9 h
      have kb2 := kb wr hcell
      clear kb hown hcell
      go_wp2
      go_ret
      exact ⟨rfl, Hb.out⟩
end Go.Proofs.YteahocaogkhddaaDoor.Word
