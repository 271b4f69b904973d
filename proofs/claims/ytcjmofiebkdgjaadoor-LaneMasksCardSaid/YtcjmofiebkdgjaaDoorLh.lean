/- The walk of LaneMasks: lanes side by side, a word put together of its lanes. -/
import Derived.Test.YtcjmofiebkdgjaaDoorLe
import Derived.Test.YtcjmofiebkdgjaaDoorOc
namespace Go.Proofs.YtcjmofiebkdgjaaDoor.Lane
open Go.RowKit Go.Maps
set_option linter.unusedVariables false

def mNn (s k : Nat) : Nat := (2 ^ k - 1) * 2 ^ s
theorem ones_at {s k : Nat} (hp : Place s k) : (Word.onesL (mNn s k)).length = k ∧ (Word.onesL (mNn s k))[0]? = some s ∧ (Word.onesL (mNn s k))[k - 1]? = some (s + k - 1) := by
  refine Place.all (P := fun s k => (Word.onesL (mNn s k)).length = k ∧ (Word.onesL (mNn s k))[0]? = some s ∧ (Word.onesL (mNn s k))[k - 1]? = some (s + k - 1)) ?_ ?_ ?_ ?_ ?_ ?_ ?_ hp <;> decide
theorem mNn_lt {s k : Nat} (hp : Place s k) : mNn s k < 4294967296 := by
  have := (mN_bd hp).2
  show mNn s k < _
  have e : mN s k = (mNn s k : Int) := rfl
  omega
theorem first_place {s k : Nat} (hp : Place s k) (w : World) (hT : Word.TabZ w) :
    Calls Tryd.prog 19 #[.int .u32 (mN s k)] w fun e w' => e = .returned (.tuple #[.int .i64 s, .bool true]) ∧ Below w.heap.size w w' := by
  obtain ⟨h1, h2, h3⟩ := ones_at hp
  have hh := mNn_lt hp
  have hf : Word.firstV (mNn s k) = s ∧ Word.firstB (mNn s k) = true := by
    cases e : Word.onesL (mNn s k) with
    | nil => rw [e] at h2; cases h2
    | cons b r =>
      have := Word.firstV_head hh e
      rw [e] at h2
      simp at h2
      rw [h2] at this
      exact this
  have := Word.first_any (mNn s k) hh w hT
  rw [hf.1, hf.2] at this
  exact this
theorem ones_place {s k : Nat} (hp : Place s k) (w : World) (hT : Word.TabZ w) :
    Calls Tryd.prog 20 #[.int .u32 (mN s k)] w fun e w' => (∃ g c, e = .returned (.slice (some ⟨g, 0, none⟩) k c) ∧ w'.cell? ⟨g, k - 1, none⟩ = some (.int .i64 ((s : Int) + k - 1)) ∧ k ≤ c) ∧ Below w.heap.size w w' := by
  obtain ⟨h1, h2, h3⟩ := ones_at hp
  have hk : 0 < k := by unfold Place at hp; omega
  refine (Word.ones_any (mNn s k) (mNn_lt hp) w hT).mono ?_
  rintro e w' ⟨v, rfl, hown, hb⟩
  rw [h1] at hown
  refine ⟨?_, hb⟩
  rcases hown.2 with ⟨_, h0⟩ | ⟨g, cap, cur, rfl, hg, hh, hc, hm, hr⟩
  · omega
  · refine ⟨g, cap, rfl, ?_, hc⟩
    rw [hown.cellAt (k - 1) (by omega), List.getElem?_map, h3]
    simp
    omega

theorem al_four (a n : Int) : alB ((a + 4) % 4294967296) n = alB a n := by
  unfold alB
  by_cases hs : Word.sizeB n = true
  · rw [hs, Bool.true_and, Bool.true_and, decide_eq_decide]
    rcases Word.sizeB_yes hs with rfl | rfl | rfl <;> omega
  · rw [show Word.sizeB n = false by simpa using hs]; rfl
theorem mask_four (a n : Int) : maskV ((a + 4) % 4294967296) n = maskV a n := by
  unfold maskV
  rw [al_four, show (a + 4) % 4294967296 % 4 = a % 4 by omega]
theorem build_step {v : Int} {j : Nat} (h0 : 0 ≤ v) (h1 : v < 4294967296) (hj : j < 4) : putV (v % (256 ^ j : Nat)) j 1 (takeV v j 1) = v % (256 ^ (j + 1) : Nat) := by
  have hp : Place j 1 := by unfold Place; omega
  have e1 : takeV v j 1 = tN v j 1 := take_at (k := 1) hp (by omega) rfl
  have e2 : ∀ x d, putV x j 1 d = pN x j 1 d := fun x d => put_at (k := 1) hp (by omega) rfl
  rw [e1, e2]
  have h3 : j = 0 ∨ j = 1 ∨ j = 2 ∨ j = 3 := by omega
  rcases h3 with rfl | rfl | rfl | rfl <;> (simp only [tN, pN, Nat.reduceAdd, Nat.reducePow]; omega)
theorem take_bd {v : Int} {j : Nat} (h0 : 0 ≤ v) (h1 : v < 4294967296) (hj : j < 4) : 0 ≤ takeV v j 1 ∧ takeV v j 1 < 4294967296 := by
  have hp : Place j 1 := by unfold Place; omega
  have e1 : takeV v j 1 = tN v j 1 := take_at (k := 1) hp (by omega) rfl
  rw [e1]
  exact tN_bd hp h0 h1
theorem al_one (j : Int) : alB j 1 = true := by unfold alB; rw [Word.sizeB_1, Bool.true_and, decide_eq_true_eq]; omega
theorem part_bd {v : Int} {j : Nat} (h0 : 0 ≤ v) (h1 : v < 4294967296) : 0 ≤ v % (256 ^ j : Nat) ∧ v % (256 ^ j : Nat) < 4294967296 := by
  have hp : 0 < 256 ^ j := Nat.pow_pos (by decide)
  obtain ⟨x, rfl⟩ := Int.eq_ofNat_of_zero_le h0
  rw [← Int.natCast_emod]
  have := Nat.mod_le x (256 ^ j)
  omega

set_option maxHeartbeats 2000000 in
set_option maxRecDepth 100000 in
theorem masks_core (v a n m : Int) (b : Bool) (w : World) (hv : 0 ≤ v) (hv' : v < 4294967296) (ha : 0 ≤ a) (ha' : a < 4294967296) (hm0 : 0 ≤ m) (hm1 : m ≤ 15) (hZ : Word.TabZ w) (ht : Tab w)
    (M : ∀ w, Tab w → Calls Tryd.prog 15 #[.int .u32 a, .int .i64 n] w fun e w' => e = .returned (.tuple #[.int .u32 m, .bool b]) ∧ Below w.heap.size w w')
    (M4 : ∀ w, Tab w → Calls Tryd.prog 15 #[.int .u32 ((a + 4) % 4294967296), .int .i64 n] w fun e w' => e = .returned (.tuple #[.int .u32 m, .bool b]) ∧ Below w.heap.size w w')
    (C : b = false ∨ (b = true ∧ ∃ s k : Nat, 0 < k ∧ k ≤ 4 ∧ s < 4 ∧ a % 4 = s ∧ n = k ∧
      (∀ w, Word.TabZ w → Calls Tryd.prog 19 #[.int .u32 m] w fun e w' => e = .returned (.tuple #[.int .i64 s, .bool true]) ∧ Below w.heap.size w w') ∧
      (∀ w, Word.TabZ w → Calls Tryd.prog 20 #[.int .u32 m] w fun e w' => (∃ g c, e = .returned (.slice (some ⟨g, 0, none⟩) k c) ∧ w'.cell? ⟨g, k - 1, none⟩ = some (.int .i64 ((s : Int) + k - 1)) ∧ k ≤ c) ∧ Below w.heap.size w w'))) :
    Calls Tryd.prog 7 #[.int .u32 v, .int .u32 a, .int .i64 n] w fun e w' => e = .returned (.bool true) ∧ Below w.heap.size w w' := by
  have H := Lib.hid ht
  have Z := Lib.hid hZ
  have C' := Lib.hid C
  clear ht hZ C
  go_enter Tryd.func7, Tryd.ntmps7
  go_wp2_with fail
  refine (awake_any _ H.out).mono ?_
  rintro e w1 ⟨rfl, hb⟩
  have B := Lib.hid hb
  have T1 := Lib.hid (H.out.below B.out)
  clear hb
  go_wp2_with fail
  refine (M _ T1.out).mono ?_
  rintro e w2 ⟨rfl, hb⟩
  have B := Lib.hid (B.out.trans (hb.mono B.out.size))
  have T2 := Lib.hid (H.out.below B.out)
  clear hb
  go_wp2_with fail
  refine (M4 _ T2.out).mono ?_
  rintro e w3 ⟨rfl, hb⟩
  have B := Lib.hid (B.out.trans (hb.mono B.out.size))
  have Z3 := Lib.hid (Z.out.below B.out)
  clear hb
  rcases C'.out with rfl | ⟨rfl, s, k, hk0, hk4, hs4, hs, rfl, F, O⟩
  · go_wp2_with fail
    go_loopw [14, 15] (fun all i wr => ∃ j : Nat, j ≤ 4 ∧ i = .int .u32 j ∧ all = .int .u32 (v % (256 ^ j : Nat)) ∧ Below w.heap.size w wr) (fun _ i _ => 4 - (intOf i).toNat)
    case atStart => exact ⟨0, by omega, rfl, by simp, B.out⟩
    case round =>
      obtain ⟨j, hj, rfl, rfl, hb⟩ := hrel
      have B := Lib.hid hb
      have T := Lib.hid (H.out.below hb)
      clear hb
      by_cases hlt : j < 4
      · obtain ⟨t0, t1⟩ := take_bd hv hv' hlt
        obtain ⟨p0, p1⟩ := part_bd (j := j) hv hv'
        have hst := build_step hv hv' hlt
        obtain ⟨t, hte⟩ : ∃ t, takeV v j 1 = t := ⟨_, rfl⟩
        obtain ⟨p, hpe⟩ : ∃ p, v % ((256 ^ j : Nat) : Int) = p := ⟨_, rfl⟩
        rw [hte] at t0 t1 hst
        rw [hpe] at p0 p1 hst
        rw [hpe]
        have Tk := fun w ht => Take_any j 1 v t true w (by omega) (by omega) hv hv' ht hte (al_one j)
        have Pt := fun w ht => Put_any j 1 p t _ true w (by omega) (by omega) p0 p1 t0 ht hst (al_one j)
        clear hte hpe hst
        go_wp2_with fail
        refine (Tk _ T.out).mono ?_
        rintro e w7 ⟨rfl, hb⟩
        have B := Lib.hid (B.out.trans (hb.mono B.out.size))
        have T := Lib.hid (T.out.below hb)
        clear hb
        go_wp2_with fail
        refine (Pt _ T.out).mono ?_
        rintro e w8 ⟨rfl, hb⟩
        have B := Lib.hid (B.out.trans (hb.mono B.out.size))
        clear hb
        go_wp2_with fail
        exact ⟨⟨j + 1, by omega, by go_num, rfl, B.out⟩, by simp [intOf]; omega⟩
      · obtain rfl : j = 4 := by omega
        have e4 : v % ((256 ^ 4 : Nat) : Int) = v := by simp only [Nat.reducePow]; omega
        rw [e4]
        go_wp2_with fail
        go_ret
        exact ⟨ret_bool (by simp), B.out⟩
  · go_wp2_with fail
    refine (F _ Z3.out).mono ?_
    rintro e w4 ⟨rfl, hb⟩
    have B := Lib.hid (B.out.trans (hb.mono B.out.size))
    have Z4 := Lib.hid (Z.out.below B.out)
    clear hb
    go_wp2_with fail
    refine (O _ Z4.out).mono ?_
    rintro e w5 ⟨⟨g, c, rfl, hc, hkc⟩, hb⟩
    have B := Lib.hid (B.out.trans (hb.mono B.out.size))
    clear hb
    go_wp2_with fail
    clear hs
    go_loopw [14, 15] (fun all i wr => ∃ j : Nat, j ≤ 4 ∧ i = .int .u32 j ∧ all = .int .u32 (v % (256 ^ j : Nat)) ∧ Below w.heap.size w wr) (fun _ i _ => 4 - (intOf i).toNat)
    case atStart => exact ⟨0, by omega, rfl, by simp, B.out⟩
    case round =>
      obtain ⟨j, hj, rfl, rfl, hb⟩ := hrel
      have B := Lib.hid hb
      have T := Lib.hid (H.out.below hb)
      clear hb
      by_cases hlt : j < 4
      · obtain ⟨t0, t1⟩ := take_bd hv hv' hlt
        obtain ⟨p0, p1⟩ := part_bd (j := j) hv hv'
        have hst := build_step hv hv' hlt
        obtain ⟨t, hte⟩ : ∃ t, takeV v j 1 = t := ⟨_, rfl⟩
        obtain ⟨p, hpe⟩ : ∃ p, v % ((256 ^ j : Nat) : Int) = p := ⟨_, rfl⟩
        rw [hte] at t0 t1 hst
        rw [hpe] at p0 p1 hst
        rw [hpe]
        have Tk := fun w ht => Take_any j 1 v t true w (by omega) (by omega) hv hv' ht hte (al_one j)
        have Pt := fun w ht => Put_any j 1 p t _ true w (by omega) (by omega) p0 p1 t0 ht hst (al_one j)
        clear hte hpe hst
        go_wp2_with fail
        refine (Tk _ T.out).mono ?_
        rintro e w7 ⟨rfl, hb⟩
        have B := Lib.hid (B.out.trans (hb.mono B.out.size))
        have T := Lib.hid (T.out.below hb)
        clear hb
        go_wp2_with fail
        refine (Pt _ T.out).mono ?_
        rintro e w8 ⟨rfl, hb⟩
        have B := Lib.hid (B.out.trans (hb.mono B.out.size))
        clear hb
        go_wp2_with fail
        exact ⟨⟨j + 1, by omega, by go_num, rfl, B.out⟩, by simp [intOf]; omega⟩
      · obtain rfl : j = 4 := by omega
        have e4 : v % ((256 ^ 4 : Nat) : Int) = v := by simp only [Nat.reducePow]; omega
        rw [e4]
        go_wp2_with fail
        go_ret
        exact ⟨ret_bool (by simp), B.out⟩

theorem masks_walk (v a n : Int) (w : World) (wv : (Lit.int .u32 v).wf = true) (wa : (Lit.int .u32 a).wf = true) (wn : (Lit.int .i64 n).wf = true) (hZ : Word.TabZ w) (ht : Tab w) :
    Calls Tryd.prog 7 #[.int .u32 v, .int .u32 a, .int .i64 n] w fun e w' => e = .returned (.bool true) ∧ Below w.heap.size w w' := by
  obtain ⟨hv, hv1⟩ := bounds_u32 wv
  obtain ⟨ha, ha1⟩ := bounds_u32 wa
  have ha' : a < 4294967296 := by omega
  obtain ⟨m0, m1⟩ := maskV_bd a n
  refine masks_core v a n (maskV a n) (alB a n) w hv (by omega) ha ha' m0 m1 hZ ht (fun w ht => Mask_any a n _ _ w ha ha' ht rfl rfl)
    (fun w ht => Mask_any _ n _ _ w (by omega) (by omega) ht (mask_four a n) (al_four a n)) ?_
  by_cases hb : alB a n = true
  · obtain ⟨s, k, hp, hs, hk, _⟩ := place_of hb
    rw [mask_at hp hs hk]
    refine .inr ⟨hb, s, k, ?_, ?_, ?_, hs, hk, fun w h => first_place hp w h, fun w h => ones_place hp w h⟩ <;> (unfold Place at hp; omega)
  · exact .inl (by simpa using hb)
end Go.Proofs.YtcjmofiebkdgjaaDoor.Lane
