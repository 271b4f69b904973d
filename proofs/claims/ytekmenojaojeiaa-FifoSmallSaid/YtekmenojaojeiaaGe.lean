/- The walk of FifoDoes. -/
import Derived.Test.YtekmenojaojeiaaGd
import Derived.Deep.RegionHeld3
namespace Go.Proofs.Ytekmenojaojeiaa.Fifo5
open Go.RowKit Go.Maps Fifo FI
set_option linter.unusedVariables false

theorem seed_is (p : Int) : ∃ q : Nat, q < 5 ∧ ∀ w, Calls Try.prog 9 #[.int .i64 p] w fun e w' => e = .returned (.int .i64 (q : Nat)) ∧ w = w' := by
  obtain ⟨q, hq, PK⟩ := pick_is p 5 (by omega) (by omega)
  refine ⟨q, hq, fun w => ?_⟩
  have HPK := Lib.hid PK
  clear PK hq
  go_enter Try.func9, Try.ntmps9
  go_wp2_with fail
  refine (HPK.out _).mono ?_
  rintro e w1 ⟨rfl, rfl⟩
  go_wp2_with fail
  go_ret
  exact ⟨rfl, rfl⟩

set_option maxRecDepth 100000 in
set_option maxHeartbeats 8000000 in
theorem does_core (R : Nat) (a : Option Addr) (len cap : Nat) (w : World) (hR : R < 9223372036854775808) (hrow : RowD w a len) (h3 : len ≤ 300) :
    Calls Try.prog 3 #[.int .i64 (R : Nat), .slice a len cap] w fun e w' => e = .returned (.bool true) ∧ Below w.heap.size w w' := by
  have d1 : decide ((300 : Int) < (len : Int)) = false := decide_eq_false (by omega)
  have d2 : decide ((R : Int) < 0) = false := decide_eq_false (by omega)
  have Hrow := Lib.hid hrow
  clear hrow
  go_enter Try.func3, Try.ntmps3
  go_wp2_with fail
  refine (New_st R _ hR).mono ?_
  rintro e w2 ⟨b, O, rfl, hS, hO, hb2⟩
  obtain ⟨rb, hrb⟩ : ∃ c, w2.heap.size = c := ⟨_, rfl⟩
  have T0 : Two w.heap.size w (w2.alloc (.cells #[.int .i64 (R : Nat), .slice none 0 0] 29)) b w2.heap.size R [] [] O (fun j => j = w2.heap.size) :=
    ⟨hS.keep ((Below.refl _ _).alloc (Nat.le_refl _) _), RSt.new R w2 hR, hO, fun j hj => by have := hb2.size; omega, fun j hj e => by have := hS.lt j hj; omega, hb2.trans (((Below.refl _ w2).alloc (Nat.le_refl _) _).mono hb2.size), Nat.le_refl _⟩
  rw [hrb] at T0
  have HT := Lib.hid T0
  clear hS hO hb2 T0
  go_wp2_with fail
  refine code_letter ?_
  intro W0 hW0
  rw [← hW0.out] at HT
  clear hrb hW0
  go_loopw [5, 7] (fun fp p wr => ∃ (i b : Nat) (l : List Int) (O Q : Nat → Prop), i ≤ len ∧ fp = .pointer (some ⟨b, 0, none⟩) ∧ p = .int .i64 i ∧ Two w.heap.size w wr b rb R l l O Q ∧ l.length ≤ 2 * i) (fun _ p _ => len - (intOf p).toNat)
  case atStart => exact ⟨0, b, [], O, _, by omega, rfl, rfl, HT.out, Nat.zero_le _⟩
  case round =>
    obtain ⟨i, b, l, O, Q, hi, rfl, rfl, ht, hli⟩ := hrel
    have Ht := Lib.hid ht
    have Hli := Lib.hid hli
    clear ht hli HT
    by_cases hil : i < len
    · obtain ⟨g, off, p, x, rfl, hc1, hc2⟩ := Hrow.out i hil
      have q1 := cell_keep Ht.out.bl hc1
      have q2 := cell_keep Ht.out.bl hc2
      have hgl := World.block_lt_of_cell? w _ hc1
      have e1 : decide ((i : Int) < (len : Int)) = true := decide_eq_true (by omega)
      obtain ⟨s, hs⟩ : ∃ s, i + 1 = s := ⟨_, rfl⟩
      have e2 : IntKind.i64.wrap ((i : Int) + 1) = (s : Int) := by rw [i64w (by omega)]; omega
      obtain ⟨q, hq, SD⟩ := seed_is p
      have Hs := Lib.hid hs
      have HSD := Lib.hid SD
      have Hc2 := Lib.hid hc2
      have hl6 : l.length ≤ 600 := by have := Hli.out; omega
      have Hl6 := Lib.hid hl6
      have hii : (i : Int) < (len : Int) := by omega
      have hii0 : (0 : Int) ≤ (i : Int) := by omega
      clear hs SD hc1 hc2 hl6
      go_wp2_with fail
      refine (HSD.out _).mono ?_
      rintro e w3 ⟨rfl, rfl⟩
      clear HSD
      match q, hq with
      | 0, _ =>
        obtain ⟨D, hD⟩ : ∃ D, decide ((vals l).length < R) = D := ⟨_, rfl⟩
        have Hlen5 := Lib.hid (show (putv R l x).length ≤ 2 * s by have := putv_len R l x; have := Hli.out; have := Hs.out; omega)
        have P := fun w' (hb : Below wr.heap.size wr w') => Put_two x (Ht.out.keep hb) (by have := Hl6.out; omega)
        have PR := fun w' fl O (h : Two w.heap.size w w' b rb R fl l O Q) => rPut_two x h (by have := Hl6.out; omega)
        rw [hD] at P PR
        have HP := Lib.hid P
        have HPR := Lib.hid PR
        clear P PR q1 Ht hD
        go_wp2_with fail
        go_region_held3 (fun w' => w'.cell? ⟨g, off + i * 2 + 1, none⟩ = some (.int .i64 x))
          (first | assumption | exact cell_keep (Below.refl _ _).drew (by assumption))
          (first
          | (go_at_call 10; with_reducible refine (HP.out _ (Below.refl _ _).drew).mono ?_; rintro e w4 ⟨rfl, O4, ht4, _, _⟩; have Ht4 := Lib.hid ht4; have S4 : w4.cell? ⟨g, off + i * 2 + 1, none⟩ = some (.int .i64 x) := cell_keep ht4.bl Hc2.out; clear ht4)
          | (go_at_call 11; with_reducible refine (HPR.out _ _ _ Ht4.out).mono ?_; rintro e w5 ⟨rfl, Q5, ht5⟩; have HT5 := Lib.hid ht5; have S5 : w5.cell? ⟨g, off + i * 2 + 1, none⟩ = some (.int .i64 x) := cell_keep ht5.bl Hc2.out; clear ht5))
        all_goals
          rename_i hx
          clear hx S4 S5 HP HPR q2
          go_wp2_with fail
          refine (same_any b rb R (putv R l x) O4 Q5 _ HT5.out.st HT5.out.rs (by have h9 := Hlen5.out; have := Hs.out; rw [vals_len]; omega)).mono ?_
          rintro e w9 ⟨rfl, hb9⟩
          have HT9 := Lib.hid (HT5.out.keep hb9)
          clear hb9 HT5
          go_wp2_with fail
          exact ⟨⟨s, b, putv R l x, O4, Q5, by have := Hs.out; omega, rfl, rfl, HT9.out, Hlen5.out⟩, by have := Hs.out; simp [intOf]; omega⟩
      | 1, _ =>
        obtain ⟨D, hD⟩ : ∃ D, l.isEmpty = D := ⟨_, rfl⟩
        obtain ⟨y, hy⟩ : ∃ y, l.headD 0 = y := ⟨_, rfl⟩
        have Hlen5 := Lib.hid (show l.tail.length ≤ 2 * s by have := Hli.out; have := Hs.out; rw [List.length_tail]; omega)
        have P := Take_two Ht.out
        have PR := fun w' fl O (h : Two w.heap.size w w' b rb R fl l O Q) => rTake_two h (by have := Hl6.out; omega)
        rw [hD, hy] at P PR
        have HP := Lib.hid P
        have HPR := Lib.hid PR
        clear P PR q1 q2 hD hy
        go_wp2_with fail
        refine HP.out.mono ?_
        rintro e w4 ⟨rfl, ht4, _⟩
        have Ht4 := Lib.hid ht4
        clear ht4 HP Ht
        go_wp2_with fail
        refine (HPR.out _ _ _ Ht4.out).mono ?_
        rintro e w5 ⟨rfl, Q5, ht5⟩
        have HT5 := Lib.hid ht5
        clear ht5 HPR Ht4
        go_wp2_with fail
        refine (same_any b rb R (l.tail) O Q5 _ HT5.out.st HT5.out.rs (by have h9 := Hlen5.out; have := Hs.out; rw [vals_len]; omega)).mono ?_
        rintro e w9 ⟨rfl, hb9⟩
        have HT9 := Lib.hid (HT5.out.keep hb9)
        clear hb9 HT5
        go_wp2_with fail
        exact ⟨⟨s, b, l.tail, O, Q5, by have := Hs.out; omega, rfl, rfl, HT9.out, Hlen5.out⟩, by have := Hs.out; simp [intOf]; omega⟩
      | 2, _ =>
        obtain ⟨n, hn⟩ : ∃ n, l.length = n := ⟨_, rfl⟩
        have Hlen5 := Lib.hid (show ([] : List Int).length ≤ 2 * s by simp)
        have P := fun w' (hb : Below wr.heap.size wr w') => Clear_two (Ht.out.keep hb)
        obtain ⟨ar, cr, hr1, hr2, hr3, hrq⟩ := Ht.out.slice
        have hnr : ∀ j, O j → j = rb → False := fun j hO e => Ht.out.sep j hO (e ▸ hrq)
        rw [hn] at P hr1
        have HP := Lib.hid P
        have Hnr := Lib.hid hnr
        clear P q1 q2 hn hrq hnr
        go_wp2_with fail
        go_region_held3 (fun w' => w'.cell? ⟨rb, 1, none⟩ = some (.slice ar n cr))
          (first | assumption | exact cell_keep (Below.refl _ _).drew (by assumption))
          (first
          | (go_at_call 14; with_reducible refine (HP.out _ (Below.refl _ _).drew).mono ?_; rintro e w4 ⟨rfl, O4, ht4, ho4, _⟩; have Ht4 := Lib.hid ht4; have S4 : w4.cell? ⟨rb, 1, none⟩ = some (.slice ar n cr) := drew_keep ho4 hr1 (fun hh => Hnr.out rb hh rfl); clear ht4 ho4))
        all_goals
          rename_i hx
          clear hx HP hr1 hr2 hr3 Ht
          obtain ⟨a4, c4, k1, k2, _, _⟩ := Ht4.out.slice
          obtain ⟨Q5, ht5⟩ := Ht4.out.let
          have HT5 := Lib.hid ht5
          clear ht5 S4
          go_wp2_with fail
          refine (same_any b rb R [] O4 Q5 _ HT5.out.st HT5.out.rs (by simp [vals])).mono ?_
          rintro e w9 ⟨rfl, hb9⟩
          have HT9 := Lib.hid (HT5.out.keep hb9)
          clear hb9 HT5 k1 k2
          go_wp2_with fail
          exact ⟨⟨s, b, [], O4, Q5, by have := Hs.out; omega, rfl, rfl, HT9.out, Hlen5.out⟩, by have := Hs.out; simp [intOf]; omega⟩
      | 3, _ =>
        have Hlen5 := Lib.hid (show l.length ≤ 2 * s by have := Hli.out; have := Hs.out; omega)
        have hQl := Lib.hid (fun j (hj : Q j) => Ht.out.rs.lt j hj)
        have hOl := Lib.hid (fun j (hj : O j) => Ht.out.st.lt j hj)
        have hBl := Nat.le_trans Ht.out.b0 Ht.out.bl.size
        clear q1 q2
        go_wp2_with fail
        refine (Copy_st b R (vals l) O _ Ht.out.st).mono ?_
        rintro e w4 ⟨c, O3, rfl, hs3, ho3, hb3⟩
        have hq3 : ∀ j, O3 j → ¬ Q j := fun j h3 hq => by have := ho3 j h3; have := hQl.out j hq; omega
        have hB3 : ∀ j, O3 j → w.heap.size ≤ j := fun j h3 => Nat.le_trans hBl (ho3 j h3)
        have hd3 : ∀ j, O3 j → ¬ O j := fun j h3 hO => by have := ho3 j h3; have := hOl.out j hO; omega
        have Ht4 := Lib.hid (Ht.out.keep hb3)
        have HS3 := Lib.hid (And.intro hs3 hd3)
        have HQ3 := Lib.hid (And.intro hB3 hq3)
        clear hs3 ho3 hb3 hq3 hd3 hB3 Ht hQl hOl
        go_wp2_with fail
        refine (Put_two 1 Ht4.out (by have := Hl6.out; omega)).mono ?_
        rintro e w5 ⟨rfl, O5, ht5, h2, h3⟩
        have Ht5 := Lib.hid ht5
        have HS4 := Lib.hid (third HS3.out.1 HS3.out.2 h2 h3)
        clear ht5 h2 h3 Ht4 HS3
        go_wp2_with fail
        refine (Take_two Ht5.out).mono ?_
        rintro e w6 ⟨rfl, ht6, h2⟩
        have Ht6 := Lib.hid ht6
        have HS5 := Lib.hid (third (O' := O5) HS4.out.1 HS4.out.2 h2 (fun j h => .inl h))
        clear ht6 h2 Ht5 HS4
        go_wp2_with fail
        refine (Clear_two Ht6.out).mono ?_
        rintro e w7 ⟨rfl, O7, ht7, h2, h3⟩
        have Ht7 := Lib.hid ht7
        have HS6 := Lib.hid (third HS5.out.1 HS5.out.2 h2 (fun j h => .inl (h3 j h)))
        have q2 := cell_keep ht7.bl Hc2.out
        clear ht7 h2 h3 Ht6 HS5
        go_wp2_with fail
        refine (Put_two x Ht7.out (by simp)).mono ?_
        rintro e w8 ⟨rfl, O8, ht8, h2, h3⟩
        have HS7 := Lib.hid (third HS6.out.1 HS6.out.2 h2 h3)
        have HT5 := Lib.hid (ht8.swap HS7.out.1 HQ3.out.1 HQ3.out.2)
        clear ht8 h2 h3 Ht7 HS6 q2
        go_wp2_with fail
        refine (same_any c rb R (l) O3 Q _ HT5.out.st HT5.out.rs (by have h9 := Hlen5.out; have := Hs.out; rw [vals_len]; omega)).mono ?_
        rintro e w9 ⟨rfl, hb9⟩
        have HT9 := Lib.hid (HT5.out.keep hb9)
        clear hb9 HT5
        go_wp2_with fail
        exact ⟨⟨s, c, l, O3, Q, by have := Hs.out; omega, rfl, rfl, HT9.out, Hlen5.out⟩, by have := Hs.out; simp [intOf]; omega⟩
      | 4, _ =>
        obtain ⟨D, hD⟩ : ∃ D, decide ((vals l).length < R) = D := ⟨_, rfl⟩
        obtain ⟨E, hE⟩ : ∃ E, decide ((vals (putv R l x)).length < R) = E := ⟨_, rfl⟩
        have P := fun w' (hb : Below wr.heap.size wr w') => Put_two x (Ht.out.keep hb) (by have := Hl6.out; omega)
        have P2 := fun y w' O (h : Two w.heap.size w w' b rb R (putv R l x) l O Q) => Put_two y h (by have := putv_len R l x; have := Hl6.out; omega)
        have PR := fun w' fl O (h : Two w.heap.size w w' b rb R fl l O Q) => rPut_two x h (by have := Hl6.out; omega)
        have PR2 := fun y w' fl O Q (h : Two w.heap.size w w' b rb R fl (putv R l x) O Q) => rPut_two y h (by have := putv_len R l x; have := Hl6.out; omega)
        rw [hD] at P PR
        rw [hE] at P2 PR2
        have HP := Lib.hid P
        have HPR := Lib.hid PR
        have HP2 := Lib.hid P2
        have HPR2 := Lib.hid PR2
        clear P PR P2 PR2 q1 Ht hD hE
        go_wp2_with fail
        go_region_held3 (fun w' => w'.cell? ⟨g, off + i * 2 + 1, none⟩ = some (.int .i64 x))
          (first | assumption | exact cell_keep (Below.refl _ _).drew (by assumption))
          (first
          | (go_at_call 10; with_reducible refine (HP.out _ (Below.refl _ _).drew).mono ?_; rintro e w4 ⟨rfl, O4, ht4, _, _⟩; have Ht4 := Lib.hid ht4; have S4 : w4.cell? ⟨g, off + i * 2 + 1, none⟩ = some (.int .i64 x) := cell_keep ht4.bl Hc2.out; clear ht4)
          | (go_at_call 10; with_reducible refine (HP2.out _ _ _ Ht4.out).mono ?_; rintro e w5 ⟨rfl, O5, ht5, _, _⟩; have Ht5 := Lib.hid ht5; have S5 : w5.cell? ⟨g, off + i * 2 + 1, none⟩ = some (.int .i64 x) := cell_keep ht5.bl Hc2.out; clear ht5))
        all_goals
          rename_i hx
          clear hx S4 HP HP2 q2
          obtain ⟨z, hz⟩ : ∃ z, bits BinOp.xor IntKind.i64 (-1) x = z := ⟨_, rfl⟩
          rw [hz] at Ht5
          go_wp2_with fail
          go_region_held3 (fun w' => w'.cell? ⟨g, off + i * 2 + 1, none⟩ = some (.int .i64 x))
            (first | assumption | exact cell_keep (Below.refl _ _).drew (by assumption))
            (first
            | (go_at_call 11; with_reducible refine (HPR.out _ _ _ (Ht5.out.keep (Below.refl _ _).drew)).mono ?_; rintro e w6 ⟨rfl, Q6, ht6⟩; have Ht6 := Lib.hid ht6; have S6 : w6.cell? ⟨g, off + i * 2 + 1, none⟩ = some (.int .i64 x) := cell_keep ht6.bl Hc2.out; clear ht6)
            | (go_at_call 11; with_reducible refine (HPR2.out z _ _ _ _ Ht6.out).mono ?_; rintro e w7 ⟨rfl, Q7, ht7⟩; have HT5 := Lib.hid ht7; have S7 : w7.cell? ⟨g, off + i * 2 + 1, none⟩ = some (.int .i64 x) := cell_keep ht7.bl Hc2.out; clear ht7))
          all_goals
            rename_i hx
            have Hlen5 := Lib.hid (show (putv R (putv R l x) z).length ≤ 2 * s by have h1 := putv_len R l x; have h2 := putv_len R (putv R l x) z; have := Hli.out; have := Hs.out; omega)
            clear hx S5 S6 S7 HPR HPR2 hz
            go_wp2_with fail
            refine (same_any b rb R (putv R (putv R l x) z) O5 Q7 _ HT5.out.st HT5.out.rs (by have h9 := Hlen5.out; have := Hs.out; rw [vals_len]; omega)).mono ?_
            rintro e w9 ⟨rfl, hb9⟩
            have HT9 := Lib.hid (HT5.out.keep hb9)
            clear hb9 HT5
            go_wp2_with fail
            exact ⟨⟨s, b, putv R (putv R l x) z, O5, Q7, by have := Hs.out; omega, rfl, rfl, HT9.out, Hlen5.out⟩, by have := Hs.out; simp [intOf]; omega⟩
      | q + 5, hq => exact absurd hq (by omega)
    · obtain rfl : i = len := by omega
      have e1 : decide ((i : Int) < (i : Int)) = false := decide_eq_false (by omega)
      go_wp2_with fail
      refine (awake_any _).mono ?_
      rintro e w3 ⟨rfl, hb3⟩
      have Hb3 := Lib.hid (Ht.out.bl.trans (hb3.mono (Nat.le_trans Ht.out.b0 Ht.out.bl.size)))
      clear hb3
      go_wp2_with fail
      go_ret
      exact ⟨rfl, Hb3.out⟩
end Go.Proofs.Ytekmenojaojeiaa.Fifo5
