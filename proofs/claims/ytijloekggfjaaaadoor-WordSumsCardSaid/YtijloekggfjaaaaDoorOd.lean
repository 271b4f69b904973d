/- What is added is taken away again; the bits of a word are it: the walk of WordBack. -/
import Derived.Test.YtijloekggfjaaaaDoorOc
import Derived.Test.YtijloekggfjaaaaDoorWf
import Derived.Test.YtijloekggfjaaaaDoorRow
import Derived.Deep.QuietTactic
import Derived.BigQuiet
namespace Go.Proofs.YtijloekggfjaaaaDoor.Word
open Go.RowKit Go.ChangeShapes Go.WideShapes Go.ChangeAt
set_option linter.unusedVariables false

theorem wb_add (a b s : Int) (o : Bool) (w : World) (ha : 0 ≤ a) (hb : 0 ≤ b) (ha' : a < 4294967296) (hb' : b < 4294967296) (hs : sumV a b = s) (ho : sumB a b = o) :
    Calls Tryd.prog 14 #[.int .u32 a, .int .u32 b] w fun e w' => e = .returned (.tuple #[.int .u32 s, .bool o]) ∧ w = w' := by
  subst hs; subst ho
  exact add_any a b w ha hb ha' hb'
theorem wb_sub (a b s : Int) (o : Bool) (w : World) (ha : 0 ≤ a) (hb : 0 ≤ b) (ha' : a < 4294967296) (hb' : b < 4294967296) (hs : sumV a b = s) (ho : sumB a b = o) :
    Calls Tryd.prog 16 #[.int .u32 s, .int .u32 b] w fun e w' => e = .returned (.tuple #[.int .u32 a, .bool o]) ∧ w = w' := by
  subst hs; subst ho
  refine (sub_any (sumV a b) b w).mono fun e w' ⟨he, hw⟩ => ⟨he.trans (ret_int_bool ?_ ?_), hw⟩
  · unfold subV sumV; omega
  · unfold subB sumB sumV; rw [decide_eq_decide]; omega
/-- What Ones answers, as its cells read. -/
def OnesRead (x : Nat) (w : World) (e : Ending) (W' : World) : Prop := ∃ a cap, e = .returned (.slice a (onesL x).length cap) ∧ Below w.heap.size w W' ∧
  (onesL x = [] ∨ ∃ g, a = some ⟨g, 0, none⟩ ∧ w.heap.size ≤ g ∧ ∀ k, k < (onesL x).length → W'.cell? ⟨g, 0 + k, none⟩ = some (.int .i64 ((onesL x).getD k 0 : Nat)))
theorem wb_ones (x : Nat) (hx : x < 4294967296) (w : World) (hT : TabZ w) : Calls Tryd.prog 20 #[.int .u32 x] w (OnesRead x w) := by
  refine (ones_any x hx w hT).mono ?_
  rintro e W' ⟨v, rfl, hown, hb⟩
  rcases hown.2 with ⟨rfl, h0⟩ | ⟨g, cap, cur, rfl, hg, _⟩
  · exact ⟨none, 0, by rw [h0], hb, .inl (List.eq_nil_of_length_eq_zero h0)⟩
  · refine ⟨_, cap, rfl, hb, .inr ⟨g, rfl, hg, fun k hk => ?_⟩⟩
    rw [Nat.zero_add, hown.cellAt k (by omega)]
    simp [List.getD_eq_getElem?_getD, hk]
theorem wb_first (x f : Nat) (b : Bool) (hx : x < 4294967296) (w : World) (hT : TabZ w) (hf : firstV x = f) (hb : firstB x = b) :
    Calls Tryd.prog 18 #[.int .u32 x] w fun e W' => e = .returned (.tuple #[.int .i64 f, .bool b]) ∧ Below w.heap.size w W' := by
  subst hf; subst hb
  exact first_any x hx w hT

theorem wb_ones0 (w : World) (hT : TabZ w) : Calls Tryd.prog 20 #[.int .u32 0] w fun e W' => ∃ a cap, e = .returned (.slice a 0 cap) ∧ Below w.heap.size w W' :=
  (wb_ones 0 (by omega) w hT).mono fun e W' ⟨a, cap, he, hb, _⟩ => ⟨a, cap, he, hb⟩
theorem wb_first0 (w : World) (hT : TabZ w) : Calls Tryd.prog 18 #[.int .u32 0] w fun e W' => e = .returned (.tuple #[.int .i64 0, .bool false]) ∧ Below w.heap.size w W' :=
  wb_first 0 0 false (by omega) w hT rfl rfl

set_option maxHeartbeats 1000000 in
theorem back_walk0 (x : Nat) (b : Int) (w : World) (hx : x < 4294967296) (h0 : x ≠ 0) (hb : 0 ≤ b) (hb' : b < 4294967296) (ht : Tab w) (hT : TabZ w) :
    Calls Tryd.prog 8 #[.int .u32 x, .int .u32 b] w fun e w' => e = .returned (.bool true) ∧ Below w.heap.size w w' := by
  obtain ⟨s, hs⟩ : ∃ s, sumV x b = s := ⟨_, rfl⟩
  obtain ⟨o, ho⟩ : ∃ o, sumB x b = o := ⟨_, rfl⟩
  have Hs := Lib.hid hs
  have Ho := Lib.hid ho
  have Ht := Lib.hid ht
  have HT := Lib.hid hT
  clear hs ho ht hT
  go_enter Tryd.func8, Tryd.ntmps8
  go_wp2_with fail
  refine (awake_any _ Ht.out).mono ?_
  rintro e w1 ⟨rfl, hb1⟩
  have Hb1 := Lib.hid hb1
  clear hb1
  go_wp2_with fail
  refine (wb_add x b s o _ (by omega) hb (by omega) hb' Hs.out Ho.out).mono ?_
  rintro e w' ⟨rfl, rfl⟩
  go_wp2_with fail
  refine (wb_sub x b s o _ (by omega) hb (by omega) hb' Hs.out Ho.out).mono ?_
  rintro e w' ⟨rfl, rfl⟩
  go_wp2_with fail
  refine (wb_ones x hx _ (HT.out.below Hb1.out)).mono ?_
  rintro e w2 ⟨a, cap, rfl, hb2, hread⟩
  rcases hread with hnil | ⟨g, rfl, hg, hcells⟩
  · exact absurd hnil (onesL_ne h0 (by omega))
  have Hb2 := Lib.hid (Hb1.out.trans (hb2.mono Hb1.out.size))
  have Hc := Lib.hid hcells
  clear hb2 hcells
  have hl32 := onesL_len x
  obtain ⟨L, hL⟩ : ∃ L, (onesL x).length = L := ⟨_, rfl⟩
  rw [hL] at hl32 ⊢
  have HL := Lib.hid hL
  clear hL
  go_wp2_with fail
  go_loopw [9, 11] (fun sm i wr => ∃ (k sv : Nat), k ≤ L ∧ i = .int .i64 k ∧ sm = .int .u32 sv ∧ sv = psum (onesL x) k ∧ ∃ j, wr = w2.drewN j) (fun _ i _ => L - (intOf i).toNat)
  case atStart => exact ⟨0, 0, by omega, rfl, rfl, rfl, 0, rfl⟩
  case round =>
    obtain ⟨k, sv, hk, rfl, rfl, hsv, j, rfl⟩ := hrel
    have Hsv := Lib.hid hsv
    clear hsv
    by_cases hlt : k < L
    · have c1 := Hc.out k (by rw [HL.out]; exact hlt)
      obtain ⟨y, hy⟩ : ∃ y, (onesL x).getD k 0 = y := ⟨_, rfl⟩
      rw [hy] at c1
      have Hy := Lib.hid hy
      have hy31 : y ≤ 31 := by rw [← hy]; exact onesL_at x (by rw [HL.out]; exact hlt)
      have Hs2 : Hid (psum (onesL x) (k + 1) = sv + 2 ^ y) := by rw [← hy, Hsv.out]; exact psum_succ (by rw [HL.out]; exact hlt)
      have Hw := Lib.hid (sum_wrap (sv := sv) (y := y) (by rw [← Hs2.out]; exact Nat.lt_of_le_of_lt (psum_le x _ hx) hx))
      have d1 : decide ((31 : Int) < (y : Int)) = false := by simp; omega
      have d2 : decide ((y : Int) < 0) = false := by simp
      by_cases hk0 : k = 0
      · subst hk0
        clear hy
        go_wp2_with fail
        go_quiet (fail)
        go_wp2_with fail
        refine ⟨⟨1, sv + 2 ^ y, by omega, rfl, ?_, Hs2.out.symm, _, rfl⟩, by show L - 1 < L - 0; omega⟩
        rw [Hw.out]
      · obtain ⟨m, rfl⟩ : ∃ m, k = m + 1 := ⟨k - 1, by omega⟩
        have c0 := Hc.out m (by rw [HL.out]; omega)
        obtain ⟨z, hz⟩ : ∃ z, (onesL x).getD m 0 = z := ⟨_, rfl⟩
        have hzy : z < y := by rw [← hz, ← hy]; exact onesL_lt x (by rw [HL.out]; exact hlt)
        rw [hz] at c0
        have d3 : decide ((y : Int) ≤ (z : Int)) = false := by simp; omega
        have d4 : decide ((0 : Int) < (m : Int) + 1) = true := decide_eq_true (by omega)
        rw [Nat.zero_add] at c0 c1
        clear hz hy
        go_wp2_with fail
        go_quiet (fail)
        go_wp2_with fail
        refine ⟨⟨m + 2, sv + 2 ^ y, by omega, by go_num, ?_, Hs2.out.symm, _, rfl⟩, by simp [intOf]; omega⟩
        rw [Hw.out]
    · obtain rfl : k = L := by omega
      have Hsx : Hid (sv = x) := by rw [Hsv.out, ← HL.out]; exact psum_end x hx
      have Hne := Lib.hid (onesL_ne h0 (by omega))
      have hpos : 0 < k := by have := HL.out; cases e : onesL x with | nil => exact absurd e Hne.out | cons a l => rw [e] at this; simp at this; omega
      have c0 := Hc.out 0 (by rw [HL.out]; exact hpos)
      obtain ⟨f, hf⟩ : ∃ f, (onesL x).getD 0 0 = f := ⟨_, rfl⟩
      rw [hf] at c0
      have hfirst : firstV x = f ∧ firstB x = true := by
        cases e : onesL x with
        | nil => exact absurd e Hne.out
        | cons a l => rw [e] at hf; obtain ⟨h1, h2⟩ := firstV_head hx e; exact ⟨h1.trans hf, h2⟩
      have Hf := Lib.hid hfirst
      have hgw : g < w2.heap.size := World.block_lt_of_cell? w2 _ c0
      obtain rfl := Hsx.out
      have hx0 : ((sv : Int) != 0) = true := by simp; omega
      clear hf hfirst
      go_wp2_with fail
      refine (wb_first sv f true hx _ (HT.out.below (below_drewN Hb2.out j)) Hf.out.1 Hf.out.2).mono ?_
      rintro e w3 ⟨rfl, hb3⟩
      have Hb3 := Lib.hid ((below_drewN Hb2.out j).trans (hb3.mono (below_drewN Hb2.out j).size))
      have c2 := (hb3.cell (p := ⟨g, 0, none⟩) hgw).trans c0
      clear hb3 c0
      go_wp2_with fail
      go_ret
      exact ⟨rfl, Hb3.out⟩

set_option maxHeartbeats 400000 in
theorem back_walk1 (b : Int) (w : World) (hb : 0 ≤ b) (hb' : b < 4294967296) (ht : Tab w) (hT : TabZ w) :
    Calls Tryd.prog 8 #[.int .u32 0, .int .u32 b] w fun e w' => e = .returned (.bool true) ∧ Below w.heap.size w w' := by
  obtain ⟨s, hs⟩ : ∃ s, sumV 0 b = s := ⟨_, rfl⟩
  obtain ⟨o, ho⟩ : ∃ o, sumB 0 b = o := ⟨_, rfl⟩
  have Hs := Lib.hid hs
  have Ho := Lib.hid ho
  have Ht := Lib.hid ht
  have HT := Lib.hid hT
  clear hs ho ht hT
  go_enter Tryd.func8, Tryd.ntmps8
  go_wp2_with fail
  refine (awake_any _ Ht.out).mono ?_
  rintro e w1 ⟨rfl, hb1⟩
  have Hb1 := Lib.hid hb1
  clear hb1
  go_wp2_with fail
  refine (wb_add 0 b s o _ (by omega) hb (by omega) hb' Hs.out Ho.out).mono ?_
  rintro e w' ⟨rfl, rfl⟩
  go_wp2_with fail
  refine (wb_sub 0 b s o _ (by omega) hb (by omega) hb' Hs.out Ho.out).mono ?_
  rintro e w' ⟨rfl, rfl⟩
  go_wp2_with fail
  refine (wb_ones0 _ (HT.out.below Hb1.out)).mono ?_
  rintro e w2 ⟨a, cap, rfl, hb2⟩
  have Hb2 := Lib.hid (Hb1.out.trans (hb2.mono Hb1.out.size))
  clear hb2
  go_wp2_with fail
  refine wp_loop_rounds 1 ?_
  rw [rounds_succ]
  go_wp2_with fail
  refine (wb_first0 _ (HT.out.below Hb2.out)).mono ?_
  rintro e w3 ⟨rfl, hb3⟩
  have Hb3 := Lib.hid (Hb2.out.trans (hb3.mono Hb2.out.size))
  clear hb3
  go_wp2_with fail
  go_ret
  exact ⟨rfl, Hb3.out⟩

theorem back_walk (a b : Int) (w : World) (ha : (Lit.int .u32 a).wf = true) (hb : (Lit.int .u32 b).wf = true) (hT : TabZ w) (ht : Tab w) :
    Calls Tryd.prog 8 #[.int .u32 a, .int .u32 b] w fun e w' => e = .returned (.bool true) ∧ Below w.heap.size w w' := by
  obtain ⟨a0, a1⟩ := bounds_u32 ha
  obtain ⟨b0, b1⟩ := bounds_u32 hb
  obtain ⟨x, rfl⟩ := Int.eq_ofNat_of_zero_le a0
  by_cases h0 : x = 0
  · subst h0
    exact back_walk1 b w b0 (by omega) ht hT
  · exact back_walk0 x b w (by omega) h0 b0 (by omega) ht hT
end Go.Proofs.YtijloekggfjaaaaDoor.Word
