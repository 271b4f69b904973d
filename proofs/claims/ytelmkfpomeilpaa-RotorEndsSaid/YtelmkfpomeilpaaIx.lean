/- Package rotor: shorts and points: who is none; words, sums, products, turns. -/
import Derived.Test.YtelmkfpomeilpaaIr
import Derived.Test.YtelmkfpomeilpaaIu
import Derived.Handy
import Derived.Outline
import Derived.Laws.BitsAllLaws
import Derived.WalkLawsBesides
namespace Go.Proofs.Ytelmkfpomeilpaa.Rotor
open Go.RowKit Go.Maps Fifo Orow Exact Ring
set_option linter.unusedVariables false

theorem dn_lo : Den 13898108450065350656 (-32768) := by
  have h := den_int (n := -32768) (by decide)
  rwa [show floatOfInt .f64 (-32768) = 13898108450065350656 by decide +kernel] at h
theorem dn_hi : Den 4674736138332667904 32767 := by
  have h := den_int (n := 32767) (by decide)
  rwa [show floatOfInt .f64 32767 = 4674736138332667904 by decide +kernel] at h
def ShortF (x : Nat) : Prop := ∃ n, Den x n ∧ -32768 ≤ n ∧ n ≤ 32767
theorem Trunc_any (x : Nat) (w : World) (h : ∀ s f, Ieee.double.read x ≠ .nan s f) :
    Calls Try.prog 51 #[.float .f64 x] w fun e w' => e = .returned (.float .f64 (truncV x)) ∧ w = w' := by
  have c : ∀ W, (callFunc 55 #[.float .f64 x]).run Try.prog W = .ok (.value (.float .f64 (truncV x))) W := fun W => by
    rw [run_callFunc_extern Try.func55 (by kernel_rfl) (by kernel_rfl) (by kernel_rfl) (e := Extern.MathFloor.toIntegral "math.archTrunc" .zero) (by kernel_rfl), trunc_run x h W]
    rfl
  clear h
  go_enter Try.func51, Try.ntmps51
  go_wp2_with fail
  go_ret
  exact ⟨rfl, rfl⟩
theorem none_no (x bl bh : Nat) (w : World) (hl : w.cell? ⟨bl, 0, none⟩ = some (.float .f64 13898108450065350656)) (hh : w.cell? ⟨bh, 0, none⟩ = some (.float .f64 4674736138332667904)) (h : ShortF x) :
    Calls Try.prog 50 #[.float .f64 x, .pointer (some ⟨bl, 0, none⟩), .pointer (some ⟨bh, 0, none⟩)] w fun e w' => e = .returned (.bool false) ∧ w = w' := by
  obtain ⟨n, hd, h1, h2⟩ := h
  have q1 : (FloatKind.f64.format.order 13898108450065350656 x == some .lt || FloatKind.f64.format.order 13898108450065350656 x == some .eq) = true := by
    rw [ask_lt dn_lo hd, ask_eq dn_lo hd, Bool.or_eq_true, decide_eq_true_iff, decide_eq_true_iff]; omega
  have q2 : (FloatKind.f64.format.order x 4674736138332667904 == some .lt || FloatKind.f64.format.order x 4674736138332667904 == some .eq) = true := by
    rw [ask_lt hd dn_hi, ask_eq hd dn_hi, Bool.or_eq_true, decide_eq_true_iff, decide_eq_true_iff]; omega
  have T := Lib.hid (Trunc_any x w (den_no_nan hd))
  have q3 : (FloatKind.f64.format.order x (truncV x) != some .eq) = false := by
    have e : (FloatKind.f64.format.order x (truncV x) == some .eq) = true := by
      rw [ask_eq hd (trunc_den hd (by omega))]
      exact decide_eq_true rfl
    unfold bne
    rw [e]
    rfl
  generalize truncV x = y at T q3
  clear hd h1 h2
  go_enter Try.func50, Try.ntmps50
  go_wp2_with fail
  refine T.out.mono ?_
  rintro e w' ⟨rfl, rfl⟩
  go_wp2_with fail
  go_ret
  exact ⟨rfl, rfl⟩
theorem none_yes (x bl bh : Nat) (w : World) (hl : w.cell? ⟨bl, 0, none⟩ = some (.float .f64 13898108450065350656)) (hh : w.cell? ⟨bh, 0, none⟩ = some (.float .f64 4674736138332667904)) (h : ¬ ShortF x) :
    Calls Try.prog 50 #[.float .f64 x, .pointer (some ⟨bl, 0, none⟩), .pointer (some ⟨bh, 0, none⟩)] w fun e w' => e = .returned (.bool true) ∧ w = w' := by
  rcases none_cases x dn_lo dn_hi with k | ⟨_, q1 | ⟨q1, q2⟩ | ⟨q1, q2, hn, q3⟩⟩
  · exact absurd k h
  · have q1' : (FloatKind.f64.format.order 13898108450065350656 x == some .lt || FloatKind.f64.format.order 13898108450065350656 x == some .eq) = false := q1
    clear q1 h
    go_enter Try.func50, Try.ntmps50
    go_wp2_with fail
    go_ret
    exact ⟨rfl, rfl⟩
  · have q1' : (FloatKind.f64.format.order 13898108450065350656 x == some .lt || FloatKind.f64.format.order 13898108450065350656 x == some .eq) = true := q1
    have q2' : (FloatKind.f64.format.order x 4674736138332667904 == some .lt || FloatKind.f64.format.order x 4674736138332667904 == some .eq) = false := q2
    clear q1 q2 h
    go_enter Try.func50, Try.ntmps50
    go_wp2_with fail
    go_ret
    exact ⟨rfl, rfl⟩
  · have q1' : (FloatKind.f64.format.order 13898108450065350656 x == some .lt || FloatKind.f64.format.order 13898108450065350656 x == some .eq) = true := q1
    have q2' : (FloatKind.f64.format.order x 4674736138332667904 == some .lt || FloatKind.f64.format.order x 4674736138332667904 == some .eq) = true := q2
    have q3' : (FloatKind.f64.format.order x (truncV x) != some .eq) = true := by
      have e : (FloatKind.f64.format.order x (truncV x) == some .eq) = false := q3
      unfold bne
      rw [e]
      rfl
    have T := Lib.hid (Trunc_any x w hn)
    clear q1 q2 q3 h hn
    generalize truncV x = y at T q3'
    go_enter Try.func50, Try.ntmps50
    go_wp2_with fail
    refine T.out.mono ?_
    rintro e w' ⟨rfl, rfl⟩
    go_wp2_with fail
    go_ret
    exact ⟨rfl, rfl⟩
theorem nof_any (x bl bh : Nat) (b : Bool) (w : World) (hl : w.cell? ⟨bl, 0, none⟩ = some (.float .f64 13898108450065350656)) (hh : w.cell? ⟨bh, 0, none⟩ = some (.float .f64 4674736138332667904)) (hb : b = false ↔ ShortF x) :
    Calls Try.prog 50 #[.float .f64 x, .pointer (some ⟨bl, 0, none⟩), .pointer (some ⟨bh, 0, none⟩)] w fun e w' => e = .returned (.bool b) ∧ w = w' := by
  cases b
  · exact none_no x bl bh w hl hh (hb.1 rfl)
  · exact none_yes x bl bh w hl hh (fun h => by have := hb.2 h; cases this)
/-- The closure over the bounds. -/
def nonev (bl bh : Nat) : Value := .func (.func 50) #[] #[.pointer (some ⟨bl, 0, none⟩), .pointer (some ⟨bh, 0, none⟩)]
theorem noneOf_any (w : World) :
    Calls Try.prog 42 #[.float .f64 13898108450065350656, .float .f64 4674736138332667904] w fun e w' => (∃ bl bh, e = .returned (nonev bl bh) ∧ w'.cell? ⟨bl, 0, none⟩ = some (.float .f64 13898108450065350656) ∧ w'.cell? ⟨bh, 0, none⟩ = some (.float .f64 4674736138332667904)) ∧ Below w.heap.size w w' := by
  go_enter Try.func42, Try.ntmps42
  go_wp2_with fail
  go_ret
  refine ⟨⟨w.heap.size, w.heap.size + 1, rfl, ?_, ?_⟩, ?_⟩
  · simp
  · simp
  · exact ((Below.refl _ _).alloc (Nat.le_refl _) _).alloc (by simp) _
/-- Which parts are shorts, as truth values. -/
def Part (x : Nat) (b : Bool) : Prop := b = false ↔ ShortF x
theorem are_one (g x y : Nat) (p q : Bool) (w : World) (h0 : w.cell? ⟨g, 0, none⟩ = some (.complex .f64 x y)) (hp : Part x p) (hq : Part y q) :
    Calls Try.prog 31 #[.slice (some ⟨g, 0, none⟩) 1 1] w fun e w' => e = .returned (.bool (!(p || q))) ∧ Below w.heap.size w w' := by
  have H0 := Lib.hid h0
  have HP := Lib.hid hp
  have HQ := Lib.hid hq
  clear h0 hp hq
  go_enter Try.func31, Try.ntmps31
  go_wp2_with fail
  refine (noneOf_any w).mono ?_
  rintro e w1 ⟨⟨bl, bh, rfl, hl, hh⟩, hb⟩
  have c0 := Fifo.cell_keep hb H0.out
  have NP := Lib.hid (nof_any x bl bh p w1 hl hh HP.out)
  have NQ := Lib.hid (nof_any y bl bh q w1 hl hh HQ.out)
  have B := Lib.hid hb
  clear hl hh hb HP HQ
  unfold nonev
  go_wp2_with fail
  refine wp_loop_rounds 2 ?_
  rw [rounds_succ]
  go_wp2_with fail
  refine NP.out.mono ?_
  rintro e w2 ⟨rfl, rfl⟩
  cases p
  · go_wp2_with fail
    refine NQ.out.mono ?_
    rintro e w2 ⟨rfl, rfl⟩
    cases q
    · go_wp2_with fail
      rw [rounds_succ]
      go_wp2_with fail
      go_ret
      exact ⟨rfl, B.out⟩
    · go_wp2_with fail
      go_ret
      exact ⟨rfl, B.out⟩
  · go_wp2_with fail
    go_ret
    exact ⟨rfl, B.out⟩
theorem are_two (g x y a b : Nat) (p q r s : Bool) (w : World) (h0 : w.cell? ⟨g, 0, none⟩ = some (.complex .f64 x y)) (h1 : w.cell? ⟨g, 1, none⟩ = some (.complex .f64 a b)) (hp : Part x p) (hq : Part y q) (hr : Part a r) (hs : Part b s) :
    Calls Try.prog 31 #[.slice (some ⟨g, 0, none⟩) 2 2] w fun e w' => e = .returned (.bool (!((p || q) || (r || s)))) ∧ Below w.heap.size w w' := by
  have H0 := Lib.hid h0
  have H1 := Lib.hid h1
  have HP := Lib.hid hp
  have HQ := Lib.hid hq
  have HR := Lib.hid hr
  have HS := Lib.hid hs
  clear h0 h1 hp hq hr hs
  go_enter Try.func31, Try.ntmps31
  go_wp2_with fail
  refine (noneOf_any w).mono ?_
  rintro e w1 ⟨⟨bl, bh, rfl, hl, hh⟩, hb⟩
  have c0 := Fifo.cell_keep hb H0.out
  have c1 := Fifo.cell_keep hb H1.out
  have NP := Lib.hid (nof_any x bl bh p w1 hl hh HP.out)
  have NQ := Lib.hid (nof_any y bl bh q w1 hl hh HQ.out)
  have NR := Lib.hid (nof_any a bl bh r w1 hl hh HR.out)
  have NS := Lib.hid (nof_any b bl bh s w1 hl hh HS.out)
  have B := Lib.hid hb
  clear hl hh hb HP HQ HR HS
  unfold nonev
  go_wp2_with fail
  refine wp_loop_rounds 3 ?_
  rw [rounds_succ]
  go_wp2_with fail
  refine NP.out.mono ?_
  rintro e w2 ⟨rfl, rfl⟩
  cases p
  · go_wp2_with fail
    refine NQ.out.mono ?_
    rintro e w2 ⟨rfl, rfl⟩
    cases q
    · go_wp2_with fail
      rw [rounds_succ]
      go_wp2_with fail
      refine NR.out.mono ?_
      rintro e w2 ⟨rfl, rfl⟩
      cases r
      · go_wp2_with fail
        refine NS.out.mono ?_
        rintro e w2 ⟨rfl, rfl⟩
        cases s
        · go_wp2_with fail
          rw [rounds_succ]
          go_wp2_with fail
          go_ret
          exact ⟨rfl, B.out⟩
        · go_wp2_with fail
          go_ret
          exact ⟨rfl, B.out⟩
      · go_wp2_with fail
        go_ret
        exact ⟨rfl, B.out⟩
    · go_wp2_with fail
      go_ret
      exact ⟨rfl, B.out⟩
  · go_wp2_with fail
    go_ret
    exact ⟨rfl, B.out⟩
/-- Are the parts of a value a point's? -/
theorem part_ex (x : Nat) : ∃ b, Part x b := by
  by_cases h : ShortF x
  · exact ⟨false, Iff.intro (fun _ => h) (fun _ => rfl)⟩
  · exact ⟨true, Iff.intro (fun e => Bool.noConfusion e) (fun k => absurd k h)⟩
theorem pt_parts {x y : Nat} {p : Pt} (h : IsPt x y p) : Part x false ∧ Part y false := ⟨⟨fun _ => ⟨_, h.re, h.ok.1⟩, fun _ => rfl⟩, ⟨fun _ => ⟨_, h.im, h.ok.2⟩, fun _ => rfl⟩⟩
theorem not_parts {x y : Nat} (h : NotPt x y) {p q : Bool} (hp : Part x p) (hq : Part y q) : (p || q) = true := by
  cases p
  · cases q
    · obtain ⟨m, d1, a1⟩ := hp.1 rfl
      obtain ⟨n, d2, a2⟩ := hq.1 rfl
      exact absurd ⟨d1, d2, a1, a2⟩ (h ⟨m, n⟩)
    · rfl
  · rfl
theorem word_bits (p : Pt) : bits .or .u32 (p.re % 65536) (p.im % 65536 * 65536) = wd p := by
  obtain ⟨a, ha⟩ := Int.eq_ofNat_of_zero_le (show 0 ≤ p.re % 65536 by omega)
  obtain ⟨b, hb⟩ := Int.eq_ofNat_of_zero_le (show 0 ≤ p.im % 65536 by omega)
  unfold wd
  rw [ha, hb, show (b : Int) * 65536 = ((b * 65536 : Nat) : Int) by omega, u32_or_nat a (b * 65536) (by omega) (by omega), Nat.or_comm, Nat.mul_comm b, show (65536 : Nat) = 2 ^ 16 from rfl, ← Nat.two_pow_add_eq_or_of_lt (show a < 2 ^ 16 by omega) b]
  omega
theorem wordOf_any (x y : Nat) (p : Pt) (w : World) (h : IsPt x y p) :
    Calls Try.prog 32 #[.complex .f64 x y] w fun e w' => e = .returned (.int .u32 (wd p)) ∧ w = w' := by
  have r := word_bits p
  have o1 := h.ok.1
  have o2 := h.ok.2
  have q1 : ∀ W, (convert 25 2 (.float .f64 x)).run Try.prog W = .ok (.int .i64 p.re) W := fun W => run_convert_float_int (P := Try.prog) W 25 2 .f64 .i64 x p.re (by kernel_rfl) (by kernel_rfl) (to_int_den h.re ⟨by show (-9223372036854775808 : Int) ≤ p.re; omega, by show p.re ≤ (9223372036854775807 : Int); omega⟩)
  have q2 : ∀ W, (convert 25 2 (.float .f64 y)).run Try.prog W = .ok (.int .i64 p.im) W := fun W => run_convert_float_int (P := Try.prog) W 25 2 .f64 .i64 y p.im (by kernel_rfl) (by kernel_rfl) (to_int_den h.im ⟨by show (-9223372036854775808 : Int) ≤ p.im; omega, by show p.im ≤ (9223372036854775807 : Int); omega⟩)
  have e1 : IntKind.u16.wrap p.re = p.re % 65536 := by simp [IntKind.wrap, IntKind.bits, IntKind.signed]
  have e2 : IntKind.u16.wrap p.im = p.im % 65536 := by simp [IntKind.wrap, IntKind.bits, IntKind.signed]
  clear h o1 o2
  obtain ⟨v, hv⟩ : ∃ v, wd p = v := ⟨_, rfl⟩
  rw [hv] at r
  rw [hv]
  go_enter Try.func32, Try.ntmps32
  go_wp2_with fail
  go_ret
  exact ⟨rfl, rfl⟩
end Go.Proofs.Ytelmkfpomeilpaa.Rotor
