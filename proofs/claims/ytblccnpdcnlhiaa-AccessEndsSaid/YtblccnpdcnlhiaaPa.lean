/- What is lent, in memory with marks behind; whether it is kept; a number picked. -/
import Derived.Test.YtblccnpdcnlhiaaOc
import Derived.Test.YtblccnpdcnlhiaaWf
import Derived.Test.YtblccnpdcnlhiaaRow
import Derived.Test.YtblccnpdcnlhiaaKeBytes
import Derived.Deep.QuietTactic
import Derived.BigQuiet
namespace Go.Proofs.Ytblccnpdcnlhiaa.Word
open Go.RowKit Go.Maps Go.ChangeShapes Go.WideShapes Go.ChangeAt
set_option linter.unusedVariables false

abbrev bv (l : List Int) : List Value := l.map fun c => Value.int .u8 c
theorem bv_cells {w : World} {a : Option Addr} {n : Nat} {l : List Int} (h : Row .u8 w a n l) : ∀ ad, a = some ad → ∀ j u, (bv l)[j]? = some u → w.cell? (ad.add j) = some u := by
  rintro ad rfl j u hu
  obtain ⟨h1, h2, h3, h4⟩ := h
  rcases h4 with h4 | ⟨b, off, hs, hlt, hc⟩
  · have : l = [] := List.eq_nil_of_length_eq_zero (by omega)
    subst this; simp [bv] at hu
  · have hj : j < l.length := by
      have := (List.getElem?_eq_some_iff.1 hu).1
      simpa [bv] using this
    obtain rfl := Option.some.inj hs
    have := hc j (by omega)
    have hadd : ((⟨b, off, none⟩ : Addr).add j) = ⟨b, off + j, none⟩ := by
      unfold Addr.add; split <;> simp_all
    rw [hadd, this]
    simp [bv, List.getElem?_eq_getElem hj] at hu
    rw [← hu]
    simp [List.getD_eq_getElem?_getD, List.getElem?_eq_getElem hj]
theorem bv_one (l : List Int) : ∀ u ∈ bv l, u.oneCell' = true := by
  intro u hu
  obtain ⟨c, _, rfl⟩ := List.mem_map.1 hu
  rfl
theorem marks1_succ (P : List Value) (k : Nat) : (P ++ KitBytes.marks 1 k) ++ [.int .u8 (KitBytes.mk 1 (k : Nat))] = P ++ KitBytes.marks 1 (k + 1) := by
  rw [KitBytes.marks_succ, List.append_assoc]

/-- What Lent answers. -/
def LentPost (n : Nat) (L : List Value) (w : World) (e : Ending) (W' : World) : Prop := ∃ g, e = .returned (.slice (some ⟨g, 0, none⟩) n (n + 12)) ∧
  W'.ownsRow w.heap.size 5 1 (.slice (some ⟨g, 0, none⟩) (n + 12) (n + 12)) (n + 12) (L ++ KitBytes.marks 1 12) ∧ Below w.heap.size w W'
set_option maxRecDepth 8000 in
set_option maxHeartbeats 400000 in
theorem lent_any (a : Option Addr) (n cap : Nat) (l : List Int) (w : World) (hrow : Row .u8 w a n l) (hnone : a = none → cap = 0) (hn : n ≤ 1000) :
    Calls Try.prog 25 #[.slice a n cap] w (LentPost n (bv l) w) := by
  obtain ⟨i0, hi, hz0, hz1, hz2⟩ := info_parts KitBytes.info_e
  have Hi := Lib.hid hi
  have Hz0 := Lib.hid hz0
  have Hz1 := Lib.hid hz1
  have Hz2 := Lib.hid hz2
  have hnone2 : a = none → n = 0 ∧ cap = 0 := fun h => by
    refine ⟨?_, hnone h⟩
    rcases hrow.2.2.2 with h0 | ⟨b, off, hs, _⟩
    · exact h0
    · rw [h] at hs; cases hs
  have hlen : (bv l).length = n * 1 := by simpa [bv] using hrow.1
  have Hnone := Lib.hid hnone2
  have Hlen := Lib.hid hlen
  have Hrow := Lib.hid hrow
  clear hi hz0 hz1 hz2 hnone hnone2 hlen hrow
  go_enter Try.func25, Try.ntmps25
  go_wp2_with (first | (refine wpList_make_own _ rfl _ _ 27 rfl w.heap.size 5 i0 (.int .u8 0) 1 Try.underlying27 Hi.out Hz0.out Hz1.out _ _ _ (n + 12) rfl rfl (by omega) (by rw [Hz2.out]; omega) (by unfold maxLen; omega) (Nat.le_refl _) ?_; intro w1 hown1 hgrow1) | (at_builtin; refine wpList_append_fits_any w1 rfl _ _ 27 rfl w.heap.size 5 i0 1 Try.underlying27 Hi.out Hz1.out w.heap.size 0 (n + 12) [] rfl hown1 a n cap (bv l) rfl Hlen.out Hnone.out (bv_cells (Hrow.out.below ((Below.refl _ _).grown hgrow1 (Nat.le_refl _) (fun k h => by cases h)))) (bv_one l) (by omega) ?_; intro w2 hown2 hgrow2))
  have Hb1 : Hid (Below w.heap.size w w1) := Lib.hid ((Below.refl _ _).grown hgrow1 (Nat.le_refl _) (fun k h => by cases h))
  have sz1 := Hb1.out.size
  have Hb2 := Lib.hid (Hb1.out.grown hgrow2 sz1 (fun k h => by cases h; exact Nat.le_refl _))
  rw [List.nil_append, Nat.zero_add] at hown2
  have Hown2 := Lib.hid hown2
  clear hgrow2 hown2 sz1 hown1 hgrow1
  go_loopw [3, 4] (fun o i wr => ∃ k : Nat, k ≤ 12 ∧ i = .int .i64 k ∧ o = .slice (some ⟨w.heap.size, 0, none⟩) (n + k) (n + 12) ∧ wr.ownsRow w.heap.size 5 1 (.slice (some ⟨w.heap.size, 0, none⟩) (n + k) (n + 12)) (n + k) (bv l ++ KitBytes.marks 1 k) ∧ Below w.heap.size w wr) (fun _ i _ => 12 - (intOf i).toNat)
  case atStart => exact ⟨0, by omega, rfl, rfl, by simpa [KitBytes.marks] using Hown2.out, Hb2.out⟩
  case round =>
    obtain ⟨k, hk, rfl, rfl, hown, hb⟩ := hrel
    have Hown := Lib.hid hown
    have Hb := Lib.hid hb
    have hsz := hb.size
    clear hown hb
    by_cases hlt : k < 12
    · go_wp2_with (first | (go_at_call 40; refine (KitBytes.mark_any _ _ _ (by omega) (by omega) (by omega) (by omega)).mono ?_; rintro e w' ⟨rfl, rfl⟩) | (at_builtin; refine wpList_append_fits (wr.alloc (.cells #[.int .u8 (KitBytes.mk 1 (k : Nat))] 5)) rfl _ _ 27 rfl w.heap.size 5 i0 1 Try.underlying27 Hi.out Hz1.out w.heap.size (n + k) (n + 12) (bv l ++ KitBytes.marks 1 k) rfl (Hown.out.alloc _) ⟨wr.heap.size, 0, none⟩ 1 1 [.int .u8 (KitBytes.mk 1 (k : Nat))] rfl rfl (cell_one_new _ _ _) (by simp [Value.oneCell']) (by omega) ?_; intro w1' hown1 hgrow))
      refine ⟨⟨k + 1, by omega, by go_num, rfl, ?_, ?_⟩, by simp [intOf]; omega⟩
      · rw [marks1_succ] at hown1
        exact hown1
      · exact (Hb.out.alloc hsz _).grown hgrow (by simp; omega) (fun k h => by cases h; exact Nat.le_refl _)
    · obtain rfl : k = 12 := by omega
      go_wp2_with fail
      go_ret
      exact ⟨_, rfl, Hown.out, Hb.out⟩
end Go.Proofs.Ytblccnpdcnlhiaa.Word
