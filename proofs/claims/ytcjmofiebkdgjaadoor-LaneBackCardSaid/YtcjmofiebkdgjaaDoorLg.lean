/- The walk of LaneBack: what is put is taken, what is put into other lanes is not touched. -/
import Derived.Test.YtcjmofiebkdgjaaDoorLe
namespace Go.Proofs.YtcjmofiebkdgjaaDoor.Lane
open Go.RowKit
set_option linter.unusedVariables false

theorem back_take {s k : Nat} (hp : Place s k) {v d : Int} (h0 : 0 ≤ v) (h1 : v < 4294967296) (g0 : 0 ≤ d) (g1 : d < 4294967296) : tN (pN v s k d) s k = Word.lowV d k := by
  revert v d
  refine Place.all (P := fun s k => ∀ {v d : Int}, 0 ≤ v → v < 4294967296 → 0 ≤ d → d < 4294967296 → tN (pN v s k d) s k = Word.lowV d k) ?_ ?_ ?_ ?_ ?_ ?_ ?_ hp
  all_goals
    intro v d h0 h1 g0 g1
    simp [tN, pN, Word.lowV]
    try omega
theorem back_four {s k : Nat} (hp : Place s k) (h4 : k = 4) {v d : Int} (h0 : 0 ≤ v) (h1 : v < 4294967296) (g0 : 0 ≤ d) (g1 : d < 4294967296) : pN v s k d = d := by
  have hs : s = 0 := by unfold Place at hp; omega
  subst hs h4
  simp [pN]
  omega
theorem back_other {s k s2 k2 : Nat} (hp : Place s k) (hp2 : Place s2 k2) (h : bits .and .u32 (mN s2 k2) (mN s k) = 0) {v d : Int} (h0 : 0 ≤ v) (h1 : v < 4294967296) (g0 : 0 ≤ d) : tN v s2 k2 = tN (pN v s k d) s2 k2 := by
  revert h v d
  refine Place.all (P := fun s k => bits .and .u32 (mN s2 k2) (mN s k) = 0 → ∀ {v d : Int}, 0 ≤ v → v < 4294967296 → 0 ≤ d → tN v s2 k2 = tN (pN v s k d) s2 k2) ?_ ?_ ?_ ?_ ?_ ?_ ?_ hp
  all_goals
    revert hp2
    refine fun hp2 => Place.all (P := fun s2 k2 => bits .and .u32 (mN s2 k2) (mN _ _) = 0 → ∀ {v d : Int}, 0 ≤ v → v < 4294967296 → 0 ≤ d → tN v s2 k2 = tN (pN v _ _ d) s2 k2) ?_ ?_ ?_ ?_ ?_ ?_ ?_ hp2
    all_goals
      intro h v d h0 h1 g0
      first
        | exact absurd h (by decide)
        | (simp [tN, pN]; omega)

theorem putV_bd (v a n d : Int) (h0 : 0 ≤ v) (h1 : v < 4294967296) : 0 ≤ putV v a n d ∧ putV v a n d < 4294967296 := by
  by_cases h : alB a n = true
  · obtain ⟨s, k, hp, hs, hk, _⟩ := place_of h
    rw [put_at hp hs hk]
    exact pN_bd hp h0 h1
  · rw [put_no (by simpa using h)]; omega

set_option maxHeartbeats 1000000 in
/-- Not aligned. -/
theorem back_no (v a o n wd d : Int) (w : World) (hv : 0 ≤ v) (hv' : v < 4294967296) (ha : 0 ≤ a) (ha' : a < 4294967296) (hd : 0 ≤ d) (hb : alB a n = false) (ht : Tab w) :
    Calls Tryd.prog 6 #[.int .u32 v, .int .u32 a, .int .u32 o, .int .i64 n, .int .i64 wd, .int .u32 d] w fun e w' => e = .returned (.bool true) ∧ Below w.heap.size w w' := by
  have P := fun w ht => Put_any a n v d 0 false w ha ha' hv hv' hd ht (put_no hb) hb
  have M := fun w ht => Mask_any a n 0 false w ha ha' ht (mask_no hb) hb
  have Al := fun w => Aligned_any a n false w ha ha' hb
  have H := Lib.hid ht
  clear ht hb
  go_enter Tryd.func6, Tryd.ntmps6
  go_wp2_with fail
  refine (awake_any _ H.out).mono ?_
  rintro e w1 ⟨rfl, hb⟩
  have B := Lib.hid hb
  have T1 := Lib.hid (H.out.below B.out)
  clear hb
  go_wp2_with fail
  refine (P _ T1.out).mono ?_
  rintro e w2 ⟨rfl, hb⟩
  have B := Lib.hid (B.out.trans (hb.mono B.out.size))
  have T2 := Lib.hid (H.out.below B.out)
  clear hb
  go_wp2_with fail
  refine (M _ T2.out).mono ?_
  rintro e w3 ⟨rfl, hb⟩
  have B := Lib.hid (B.out.trans (hb.mono B.out.size))
  clear hb
  go_wp2_with fail
  refine (Al _).mono ?_
  rintro e w4 ⟨rfl, hb⟩
  have B := Lib.hid (B.out.trans (hb.mono B.out.size))
  clear hb
  go_wp2_with fail
  go_ret
  exact ⟨rfl, B.out⟩

set_option maxHeartbeats 2000000 in
/-- Aligned: by letters. -/
theorem back_yes (v a o n wd d x m lw wm m2 t : Int) (b2 : Bool) (w : World) (hx : 0 ≤ x) (hm0 : 0 ≤ m) (hm1 : m ≤ 15)
    (P : ∀ w, Tab w → Calls Tryd.prog 14 #[.int .u32 v, .int .u32 a, .int .i64 n, .int .u32 d] w fun e w' => e = .returned (.tuple #[.int .u32 x, .bool true]) ∧ Below w.heap.size w w')
    (M : ∀ w, Tab w → Calls Tryd.prog 15 #[.int .u32 a, .int .i64 n] w fun e w' => e = .returned (.tuple #[.int .u32 m, .bool true]) ∧ Below w.heap.size w w')
    (Al : ∀ w, Calls Tryd.prog 16 #[.int .u32 a, .int .i64 n] w fun e w' => e = .returned (.bool true) ∧ Below w.heap.size w w')
    (T : ∀ w, Tab w → Calls Tryd.prog 17 #[.int .u32 x, .int .u32 a, .int .i64 n] w fun e w' => e = .returned (.tuple #[.int .u32 lw, .bool true]) ∧ Below w.heap.size w w')
    (L : ∀ w, Calls Tryd.prog 18 #[.int .u32 d, .int .i64 n] w fun e w' => e = .returned (.tuple #[.int .u32 lw, .bool true]) ∧ w = w')
    (Wd : ∀ w, Tab w → Calls Tryd.prog 10 #[.int .u32 m] w fun e w' => e = .returned (.int .u32 wm) ∧ w = w')
    (M2 : ∀ w, Tab w → Calls Tryd.prog 15 #[.int .u32 o, .int .i64 wd] w fun e w' => e = .returned (.tuple #[.int .u32 m2, .bool b2]) ∧ Below w.heap.size w w')
    (key : bits .andNot .u32 (bits .xor .u32 x v) wm = 0) (four : (n == 4) = false ∨ n = 4 ∧ x = d)
    (C : b2 = false ∨ (b2 = true ∧ (bits .and .u32 m2 m == 0) = false) ∨ (b2 = true ∧ bits .and .u32 m2 m = 0 ∧
      (∀ w, Tab w → Calls Tryd.prog 17 #[.int .u32 v, .int .u32 o, .int .i64 wd] w fun e w' => e = .returned (.tuple #[.int .u32 t, .bool true]) ∧ Below w.heap.size w w') ∧
      (∀ w, Tab w → Calls Tryd.prog 17 #[.int .u32 x, .int .u32 o, .int .i64 wd] w fun e w' => e = .returned (.tuple #[.int .u32 t, .bool true]) ∧ Below w.heap.size w w'))) (ht : Tab w) :
    Calls Tryd.prog 6 #[.int .u32 v, .int .u32 a, .int .u32 o, .int .i64 n, .int .i64 wd, .int .u32 d] w fun e w' => e = .returned (.bool true) ∧ Below w.heap.size w w' := by
  have H := Lib.hid ht
  have C' := Lib.hid C
  have four' := Lib.hid four
  clear ht C four
  go_enter Tryd.func6, Tryd.ntmps6
  go_wp2_with fail
  refine (awake_any _ H.out).mono ?_
  rintro e w1 ⟨rfl, hb⟩
  have B := Lib.hid hb
  have T1 := Lib.hid (H.out.below B.out)
  clear hb
  go_wp2_with fail
  refine (P _ T1.out).mono ?_
  rintro e w2 ⟨rfl, hb⟩
  have B := Lib.hid (B.out.trans (hb.mono B.out.size))
  have T2 := Lib.hid (H.out.below B.out)
  clear hb
  go_wp2_with fail
  refine (M _ T2.out).mono ?_
  rintro e w3 ⟨rfl, hb⟩
  have B := Lib.hid (B.out.trans (hb.mono B.out.size))
  have T3 := Lib.hid (H.out.below B.out)
  clear hb
  go_wp2_with fail
  refine (Al _).mono ?_
  rintro e w4 ⟨rfl, hb⟩
  have B := Lib.hid (B.out.trans (hb.mono B.out.size))
  have T4 := Lib.hid (H.out.below B.out)
  clear hb
  go_wp2_with fail
  refine (T _ T4.out).mono ?_
  rintro e w5 ⟨rfl, hb⟩
  have B := Lib.hid (B.out.trans (hb.mono B.out.size))
  have T5 := Lib.hid (H.out.below B.out)
  clear hb
  go_wp2_with fail
  refine (L _).mono ?_
  rintro e w6 ⟨rfl, rfl⟩
  go_wp2_with fail
  refine (Wd _ T5.out).mono ?_
  rintro e w6 ⟨rfl, rfl⟩
  have E : Hid (∀ Q : Prop, ((n == 4) = false → Q) → ((n == 4) = true → (x == d) = true → Q) → Q) := by
    intro Q h1 h2
    rcases four'.out with h | ⟨rfl, rfl⟩
    · exact h1 h
    · exact h2 rfl (by simp)
  refine E.out _ (fun f1 => ?_) (fun f1 f2 => ?_)
  · go_wp2_with fail
    refine (M2 _ T5.out).mono ?_
    rintro e w6 ⟨rfl, hb⟩
    have B := Lib.hid (B.out.trans (hb.mono B.out.size))
    have T6 := Lib.hid (H.out.below B.out)
    clear hb
    rcases C'.out with rfl | ⟨rfl, hn⟩ | ⟨rfl, hz, Tv, Tx⟩
    · go_wp2_with fail
      go_ret
      exact ⟨rfl, B.out⟩
    · go_wp2_with fail
      go_ret
      exact ⟨rfl, B.out⟩
    · go_wp2_with fail
      refine (Tv _ T6.out).mono ?_
      rintro e w7 ⟨rfl, hb⟩
      have B := Lib.hid (B.out.trans (hb.mono B.out.size))
      have T7 := Lib.hid (H.out.below B.out)
      clear hb
      go_wp2_with fail
      refine (Tx _ T7.out).mono ?_
      rintro e w8 ⟨rfl, hb⟩
      have B := Lib.hid (B.out.trans (hb.mono B.out.size))
      clear hb
      go_wp2_with fail
      go_ret
      exact ⟨rfl, B.out⟩
  · go_wp2_with fail
    refine (M2 _ T5.out).mono ?_
    rintro e w6 ⟨rfl, hb⟩
    have B := Lib.hid (B.out.trans (hb.mono B.out.size))
    have T6 := Lib.hid (H.out.below B.out)
    clear hb
    rcases C'.out with rfl | ⟨rfl, hn⟩ | ⟨rfl, hz, Tv, Tx⟩
    · go_wp2_with fail
      go_ret
      exact ⟨rfl, B.out⟩
    · go_wp2_with fail
      go_ret
      exact ⟨rfl, B.out⟩
    · go_wp2_with fail
      refine (Tv _ T6.out).mono ?_
      rintro e w7 ⟨rfl, hb⟩
      have B := Lib.hid (B.out.trans (hb.mono B.out.size))
      have T7 := Lib.hid (H.out.below B.out)
      clear hb
      go_wp2_with fail
      refine (Tx _ T7.out).mono ?_
      rintro e w8 ⟨rfl, hb⟩
      have B := Lib.hid (B.out.trans (hb.mono B.out.size))
      clear hb
      go_wp2_with fail
      go_ret
      exact ⟨rfl, B.out⟩
theorem back_walk (v a o n wd d : Int) (w : World) (wv : (Lit.int .u32 v).wf = true) (wa : (Lit.int .u32 a).wf = true) (wo : (Lit.int .u32 o).wf = true) (wn : (Lit.int .i64 n).wf = true) (ww : (Lit.int .i64 wd).wf = true) (w0 : (Lit.int .u32 d).wf = true) (ht : Tab w) :
    Calls Tryd.prog 6 #[.int .u32 v, .int .u32 a, .int .u32 o, .int .i64 n, .int .i64 wd, .int .u32 d] w fun e w' => e = .returned (.bool true) ∧ Below w.heap.size w w' := by
  obtain ⟨hv, hv1⟩ := bounds_u32 wv
  obtain ⟨ha, ha1⟩ := bounds_u32 wa
  obtain ⟨ho, ho1⟩ := bounds_u32 wo
  obtain ⟨hd, hd1⟩ := bounds_u32 w0
  have hv' : v < 4294967296 := by omega
  have ha' : a < 4294967296 := by omega
  have ho' : o < 4294967296 := by omega
  have hd' : d < 4294967296 := by omega
  by_cases hb : alB a n = true
  · obtain ⟨s, k, hp, hs, hk, _⟩ := place_of hb
    obtain ⟨m0, m1⟩ := mN_bd hp
    obtain ⟨x0, x1⟩ := pN_bd hp (d := d) hv hv'
    have hz : Word.sizeB n = true := by unfold alB at hb; rw [Bool.and_eq_true] at hb; exact hb.1
    refine back_yes v a o n wd d (pN v s k d) (mN s k) (Word.lowV d k) (wN s k) (maskV o wd) (takeV v o wd) (alB o wd) w x0 (by omega) m1
      (fun w ht => Put_any a n v d _ true w ha ha' hv hv' hd ht (put_at hp hs hk) hb)
      (fun w ht => Mask_any a n _ true w ha ha' ht (mask_at hp hs hk) hb)
      (fun w => Aligned_any a n true w ha ha' hb)
      (fun w ht => Take_any a n _ _ true w ha ha' x0 x1 ht ((take_at hp hs hk).trans (back_take hp hv hv' hd hd')) hb)
      (fun w => Word.low_q d n _ true w hd hd' (by rw [hk]) hz)
      (fun w ht => Wide_val _ _ w (by omega) (by omega) ht (wide_mask hp))
      (fun w ht => Mask_any o wd _ _ w ho ho' ht rfl rfl)
      (stays_bits hp hv hv' hd) ?_ ?_ ht
    · by_cases h4 : n = 4
      · exact .inr ⟨h4, back_four hp (by omega) hv hv' hd hd'⟩
      · exact .inl (beq_eq_false_iff_ne.2 h4)
    · by_cases hb2 : alB o wd = true
      · obtain ⟨s2, k2, hp2, hs2, hk2, _⟩ := place_of hb2
        by_cases hz0 : bits .and .u32 (mN s2 k2) (mN s k) = 0
        · refine .inr (.inr ⟨hb2, by rw [mask_at hp2 hs2 hk2]; exact hz0, fun w ht => Take_any o wd v _ true w ho ho' hv hv' ht rfl hb2, fun w ht => Take_any o wd _ _ true w ho ho' x0 x1 ht ?_ hb2⟩)
          rw [take_at hp2 hs2 hk2, take_at hp2 hs2 hk2]
          exact (back_other hp hp2 hz0 hv hv' hd).symm
        · exact .inr (.inl ⟨hb2, by rw [mask_at hp2 hs2 hk2]; exact beq_eq_false_iff_ne.2 hz0⟩)
      · exact .inl (by simpa using hb2)
  · exact back_no v a o n wd d w hv hv' ha ha' hd (by simpa using hb) ht
end Go.Proofs.YtcjmofiebkdgjaaDoor.Lane
