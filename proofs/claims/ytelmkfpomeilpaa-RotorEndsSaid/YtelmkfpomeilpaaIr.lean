/- The document's: Point, Word, Plus, Times, Turn in whole numbers; its Rotor. -/
import Derived.Test.YtelmkfpomeilpaaIe
import Derived.LoopN
namespace Go.Proofs.Ytelmkfpomeilpaa.Rotor
open Go.RowKit Go.Maps Fifo Orow Exact Ring
set_option linter.unusedVariables false

theorem tmod_b (n : Int) : -65536 < Int.tmod n 65536 ∧ Int.tmod n 65536 < 65536 := by
  have := tmod_lit n
  split at this <;> omega
theorem short_any (n : Int) (w : World) :
    Calls Try.prog 49 #[.int .i64 n] w fun e w' => e = .returned (.int .i64 (sh n)) ∧ w = w' := by
  have h := ref_short n
  have hb := tmod_b n
  obtain ⟨m, hm⟩ : ∃ m, Int.tmod n 65536 = m := ⟨_, rfl⟩
  rw [hm] at h hb
  have h1 : IntKind.i64.wrap (m + 65536) = m + 65536 := i64w (by omega)
  have h2 : IntKind.i64.wrap (m + 65536 + 32768) = m + 65536 + 32768 := i64w (by omega)
  have hb2 := tmod_b (m + 65536 + 32768)
  have h3 : IntKind.i64.wrap (Int.tmod (m + 65536 + 32768) 65536 - 32768) = sh n := by rw [h]; exact i64w (by have := sh_range n; omega)
  clear hb hb2 h
  go_enter Try.func49, Try.ntmps49
  go_wp2_with fail
  go_ret
  exact ⟨rfl, rfl⟩
theorem rWord_any (a b : Int) (w : World) :
    Calls Try.prog 14 #[.int .i64 a, .int .i64 b] w fun e w' => e = .returned (.int .u32 (wd ⟨sh a, sh b⟩)) ∧ w = w' := by
  have ha := ref_mod a
  have hb := ref_mod b
  have ba := tmod_b a
  have bb := tmod_b b
  obtain ⟨m, hm⟩ : ∃ m, Int.tmod a 65536 = m := ⟨_, rfl⟩
  obtain ⟨n, hn⟩ : ∃ n, Int.tmod b 65536 = n := ⟨_, rfl⟩
  rw [hm] at ha ba
  rw [hn] at hb bb
  have h1 : IntKind.i64.wrap (m + 65536) = m + 65536 := i64w (by omega)
  have h2 : IntKind.i64.wrap (n + 65536) = n + 65536 := i64w (by omega)
  rw [wd_sh]
  clear ba bb
  go_enter Try.func14, Try.ntmps14
  go_wp2_with fail
  go_ret
  exact ⟨rfl, rfl⟩
theorem rPoint_any (v : Int) (w : World) (h : 0 ≤ v ∧ v < 4294967296) :
    Calls Try.prog 41 #[.int .u32 v] w fun e w' => e = .returned (.tuple #[.int .i64 (pt v).re, .int .i64 (pt v).im]) ∧ w = w' := by
  have h1 := h.1
  have h2 := h.2
  have e1 : Int.tmod v 65536 = v % 65536 := Int.tmod_eq_emod_of_nonneg h1
  have A := Lib.hid (short_any (v % 65536) w)
  have B := Lib.hid (short_any (v / 65536) w)
  go_enter Try.func41, Try.ntmps41
  go_wp2_with fail
  refine A.out.mono ?_
  rintro e w1 ⟨rfl, rfl⟩
  go_wp2_with fail
  refine B.out.mono ?_
  rintro e w1 ⟨rfl, rfl⟩
  go_wp2_with fail
  go_ret2
  exact ⟨rfl, rfl⟩
theorem rPlus_any (v u : Int) (w : World) (h : 0 ≤ v ∧ v < 4294967296) (k : 0 ≤ u ∧ u < 4294967296) :
    Calls Try.prog 28 #[.int .u32 v, .int .u32 u] w fun e w' => e = .returned (.int .u32 (wd (add (pt v) (pt u)))) ∧ w = w' := by
  have A := Lib.hid (rPoint_any v w h)
  have B := Lib.hid (rPoint_any u w k)
  have C := Lib.hid (rWord_any ((pt v).re + (pt u).re) ((pt v).im + (pt u).im) w)
  have o1 := ok_pt v
  have o2 := ok_pt u
  rw [show wd (add (pt v) (pt u)) = wd ⟨sh ((pt v).re + (pt u).re), sh ((pt v).im + (pt u).im)⟩ from rfl]
  obtain ⟨a, ha⟩ : ∃ a, (pt v).re = a := ⟨_, rfl⟩
  obtain ⟨b, hb⟩ : ∃ b, (pt v).im = b := ⟨_, rfl⟩
  obtain ⟨c, hc⟩ : ∃ c, (pt u).re = c := ⟨_, rfl⟩
  obtain ⟨d, hd⟩ : ∃ d, (pt u).im = d := ⟨_, rfl⟩
  unfold okP at o1 o2
  rw [ha, hb] at o1 A
  rw [hc, hd] at o2 B
  rw [ha, hb, hc, hd] at C
  rw [ha, hb, hc, hd]
  have h1 : IntKind.i64.wrap (a + c) = a + c := i64w (by omega)
  have h2 : IntKind.i64.wrap (b + d) = b + d := i64w (by omega)
  clear h k o1 o2 ha hb hc hd
  go_enter Try.func28, Try.ntmps28
  go_wp2_with fail
  refine A.out.mono ?_
  rintro e w1 ⟨rfl, rfl⟩
  go_wp2_with fail
  refine B.out.mono ?_
  rintro e w1 ⟨rfl, rfl⟩
  go_wp2_with fail
  refine C.out.mono ?_
  rintro e w1 ⟨rfl, rfl⟩
  go_wp2_with fail
  go_ret
  exact ⟨rfl, rfl⟩
theorem rTimes_any (v u : Int) (w : World) (h : 0 ≤ v ∧ v < 4294967296) (k : 0 ≤ u ∧ u < 4294967296) :
    Calls Try.prog 29 #[.int .u32 v, .int .u32 u] w fun e w' => e = .returned (.int .u32 (wd (mul (pt v) (pt u)))) ∧ w = w' := by
  have A := Lib.hid (rPoint_any v w h)
  have B := Lib.hid (rPoint_any u w k)
  have C := Lib.hid (rWord_any ((pt v).re * (pt u).re - (pt v).im * (pt u).im) ((pt v).re * (pt u).im + (pt v).im * (pt u).re) w)
  have no := no_round (ok_pt v) (ok_pt u)
  rw [show wd (mul (pt v) (pt u)) = wd ⟨sh ((pt v).re * (pt u).re - (pt v).im * (pt u).im), sh ((pt v).re * (pt u).im + (pt v).im * (pt u).re)⟩ from rfl]
  obtain ⟨a, ha⟩ : ∃ a, (pt v).re = a := ⟨_, rfl⟩
  obtain ⟨b, hb⟩ : ∃ b, (pt v).im = b := ⟨_, rfl⟩
  obtain ⟨c, hc⟩ : ∃ c, (pt u).re = c := ⟨_, rfl⟩
  obtain ⟨d, hd⟩ : ∃ d, (pt u).im = d := ⟨_, rfl⟩
  rw [ha, hb] at A
  rw [hc, hd] at B
  rw [ha, hb, hc, hd] at C no
  rw [ha, hb, hc, hd]
  obtain ⟨n1, n2, n3, n4⟩ := no
  have h1 : IntKind.i64.wrap (a * c) = a * c := i64w (by omega)
  have h2 : IntKind.i64.wrap (b * d) = b * d := i64w (by omega)
  have h3 : IntKind.i64.wrap (a * d) = a * d := i64w (by omega)
  have h4 : IntKind.i64.wrap (b * c) = b * c := i64w (by omega)
  have h5 : IntKind.i64.wrap (a * c - b * d) = a * c - b * d := i64w (by omega)
  have h6 : IntKind.i64.wrap (a * d + b * c) = a * d + b * c := i64w (by omega)
  clear h k n1 n2 n3 n4 ha hb hc hd
  go_enter Try.func29, Try.ntmps29
  go_wp2_with fail
  refine A.out.mono ?_
  rintro e w1 ⟨rfl, rfl⟩
  go_wp2_with fail
  refine B.out.mono ?_
  rintro e w1 ⟨rfl, rfl⟩
  go_wp2_with fail
  refine C.out.mono ?_
  rintro e w1 ⟨rfl, rfl⟩
  go_wp2_with fail
  go_ret
  exact ⟨rfl, rfl⟩
theorem pt_i : pt 65536 = ⟨0, 1⟩ := rfl
theorem rTurn_any (v k : Int) (w : World) (h : 0 ≤ v ∧ v < 4294967296) (hk : 0 ≤ k ∧ k < 4294967296) :
    Calls Try.prog 30 #[.int .u32 v, .int .u32 k] w fun e w' => e = .returned (.int .u32 (wd (turn (pt v) k.toNat))) ∧ Below w.heap.size w w' := by
  obtain ⟨n, rfl⟩ := Int.eq_ofNat_of_zero_le hk.1
  have ok := ok_pt v
  have S := Lib.hid (fun (i : Nat) (W : World) => rTimes_any (wd (turn (pt v) i)) 65536 W (wd_range _) (by omega))
  have E := Lib.hid (fun i : Nat => show wd (mul (pt (wd (turn (pt v) i))) (pt 65536)) = wd (turn (pt v) (i + 1)) by
    rw [pt_wd (ok_turn ok i), pt_i]; rfl)
  rw [show ((n : Int).toNat) = n from rfl, turn_mod ok n]
  obtain ⟨m, hm⟩ : ∃ m, n % 4 = m := ⟨_, rfl⟩
  have hm4 : m < 4 := by omega
  have ht : Int.tmod (n : Int) 4 = (m : Int) := tmod_at n 4 m hm
  rw [hm]
  have e0 : v = wd (turn (pt v) 0) := (wd_pt h).symm
  have E0 := Lib.hid e0
  obtain ⟨P, hP⟩ : ∃ P, pt v = P := ⟨_, rfl⟩
  rw [hP] at S E E0
  rw [hP]
  clear h hk ok hm hP e0
  go_enter Try.func30, Try.ntmps30
  go_wp2_with fail
  go_loopw [0, 5] (fun x i wr => ∃ j : Nat, j ≤ m ∧ i = .int .u32 j ∧ x = .int .u32 (wd (turn P j)) ∧ wr = w) (fun _ i _ => m - (intOf i).toNat)
  case atStart => exact ⟨0, Nat.zero_le _, rfl, by rw [← E0.out], rfl⟩
  case round =>
  obtain ⟨j, hj, rfl, rfl, rfl⟩ := hrel
  by_cases hlt : j < m
  · have d1 : decide ((j : Int) < (m : Int)) = true := decide_eq_true (by omega)
    have d2 : decide (j < m) = true := decide_eq_true hlt
    have SJ := Lib.hid (S.out j wr)
    rw [E.out j] at SJ
    go_wp2_with fail
    refine SJ.out.mono ?_
    rintro e w2 ⟨rfl, rfl⟩
    go_wp2_with fail
    exact ⟨⟨j + 1, by omega, by go_num, by first | exact ⟨rfl, rfl⟩ | exact ⟨trivial, rfl⟩ | simp⟩, by simp [intOf]; omega⟩
  · obtain rfl : j = m := by omega
    have d1 : decide ((j : Int) < (j : Int)) = false := decide_eq_false (by omega)
    have d2 : decide (j < j) = false := decide_eq_false (by omega)
    go_wp2_with fail
    go_ret
    exact ⟨rfl, Below.refl _ _⟩
theorem rRead_any (r : Nat) (s : RS) (reg : Int) (w : World) (h : Blk w r 38 [.int .u32 (wd s.p), .int .u32 s.n]) :
    Calls Try.prog 21 #[.pointer (some ⟨r, 0, none⟩), .int .i64 reg] w fun e w' => e = .returned (.int .u32 (readR s reg)) ∧ w = w' := by
  have c0 := h.at 0 rfl
  have c1 := h.at 1 rfl
  obtain ⟨x, hx⟩ : ∃ x, wd s.p = x := ⟨_, rfl⟩
  unfold readR
  rw [hx] at c0
  rw [hx]
  clear h hx
  by_cases h0 : reg = 0
  · subst h0
    rw [if_pos rfl]
    go_enter Try.func21, Try.ntmps21
    go_wp2_with fail
    go_ret
    exact ⟨rfl, rfl⟩
  · have g0 : (reg == 0) = false := by simpa using h0
    rw [if_neg h0]
    by_cases h4 : reg = 4
    · subst h4
      rw [if_pos rfl]
      go_enter Try.func21, Try.ntmps21
      go_wp2_with fail
      go_ret
      exact ⟨rfl, rfl⟩
    · have g4 : (reg == 4) = false := by simpa using h4
      rw [if_neg h4]
      go_enter Try.func21, Try.ntmps21
      go_wp2_with fail
      go_ret
      exact ⟨rfl, rfl⟩
/-- The document's rotor in block r. -/
def RefR (w : World) (r : Nat) (s : RS) : Prop := Blk w r 38 [.int .u32 (wd s.p), .int .u32 s.n] ∧ OkR s
theorem RefR.only {S : Nat → Prop} {w w' : World} {r : Nat} {s : RS} (h : RefR w r s) (ho : Only S w w') (hn : ¬ S r) : RefR w' r s := ⟨h.1.only ho hn, h.2⟩
theorem RefR.keep {w w' : World} {r : Nat} {s : RS} (h : RefR w r s) (hb : Below w.heap.size w w') : RefR w' r s := ⟨h.1.keep hb, h.2⟩
theorem refR_set {w : World} {r : Nat} {s : RS} (h : RefR w r s) (v : Int) (p : Pt) (hp : okP p) (hv : wd p = v) : RefR (w.setCell ⟨r, 0, none⟩ (.int .u32 v)) r ⟨p, s.n⟩ ∧ Only (fun j => j = r) w (w.setCell ⟨r, 0, none⟩ (.int .u32 v)) :=
  ⟨⟨by have := h.1.set 0 (.int .u32 v); rw [← hv] at this ⊢; exact this, hp, h.2.n⟩, (Only.refl (fun j => j = r) w).setCell (p := ⟨r, 0, none⟩) rfl _⟩
theorem refR_inc {w : World} {r : Nat} {s : RS} (h : RefR w r s) : RefR (w.setCell ⟨r, 1, none⟩ (.int .u32 (incR s))) r ⟨s.p, incR s⟩ ∧ Only (fun j => j = r) w (w.setCell ⟨r, 1, none⟩ (.int .u32 (incR s))) :=
  ⟨⟨h.1.set 1 _, h.2.p, by show 0 ≤ incR s ∧ incR s < _; unfold incR; omega⟩, (Only.refl (fun j => j = r) w).setCell (p := ⟨r, 1, none⟩) rfl _⟩
theorem rWrite_0 (r : Nat) (s : RS) (v : Int) (w : World) (hv : 0 ≤ v ∧ v < 4294967296) (h : RefR w r s) :
    Calls Try.prog 18 #[.pointer (some ⟨r, 0, none⟩), .int .i64 0, .int .u32 v] w fun e w' => e = .returned (.tuple #[]) ∧ RefR w' r ⟨pt v, s.n⟩ ∧ Only (fun j => j = r) w w' := by
  have c0 := h.1.at 0 rfl
  have f0 := h.1.frozen 0
  have R := Lib.hid (refR_set h v (pt v) (ok_pt v) (wd_pt hv))
  clear h hv
  go_enter Try.func18, Try.ntmps18
  go_wp2_with fail
  refine bodyPost_ret (results_none rfl _ _ _) rfl ?_
  exact ⟨rfl, R.out⟩
theorem rWrite_1 (r : Nat) (s : RS) (v : Int) (w : World) (hv : 0 ≤ v ∧ v < 4294967296) (h : RefR w r s) :
    Calls Try.prog 18 #[.pointer (some ⟨r, 0, none⟩), .int .i64 1, .int .u32 v] w fun e w' => e = .returned (.tuple #[]) ∧ RefR w' r ⟨add s.p (pt v), incR s⟩ ∧ Only (fun j => j = r) w w' := by
  have c0 := h.1.at 0 rfl
  have f0 := h.1.frozen 0
  have HR := Lib.hid h
  have A := Lib.hid (show ∀ w1, _ from fun w1 => rPlus_any (wd s.p) v w1 (wd_range _) hv)
  rw [pt_wd h.2.p] at A
  have okq : okP (add s.p (pt v)) := ok_add _ _
  have OK := Lib.hid okq
  obtain ⟨x, hx⟩ : ∃ x, wd s.p = x := ⟨_, rfl⟩
  rw [hx] at c0 A
  obtain ⟨q, hq⟩ : ∃ q, add s.p (pt v) = q := ⟨_, rfl⟩
  rw [hq] at A OK
  rw [hq]
  obtain ⟨y, hy⟩ : ∃ y, wd q = y := ⟨_, rfl⟩
  rw [hy] at A
  have HY := Lib.hid hy
  have hsn := h.2.n.1
  have hsn2 := h.2.n.2
  clear h hx hq okq hy hv
  go_enter Try.func18, Try.ntmps18
  go_wp2_with fail
  refine (A.out _).mono ?_
  rintro e w1 ⟨rfl, hb⟩
  have R1 := Lib.hid (show RefR w1 r s by rw [← hb]; exact HR.out)
  have B1 := Lib.hid (show Only (fun j => j = r) w w1 from by rw [hb]; exact Only.refl _ _)
  clear hb
  have R2 := Lib.hid (refR_set R1.out y q OK.out HY.out)
  have R3 := Lib.hid (refR_inc R2.out.1)
  clear c0 f0
  have c0 := R1.out.1.at 0 rfl
  have f0 := R1.out.1.frozen 0
  have c1 := R1.out.1.at 1 rfl
  have f1 := R1.out.1.frozen 1
  go_wp2_with fail
  go_end0
  exact ⟨rfl, R3.out.1, (B1.out.trans R2.out.2).trans R3.out.2⟩
theorem rWrite_2 (r : Nat) (s : RS) (v : Int) (w : World) (hv : 0 ≤ v ∧ v < 4294967296) (h : RefR w r s) :
    Calls Try.prog 18 #[.pointer (some ⟨r, 0, none⟩), .int .i64 2, .int .u32 v] w fun e w' => e = .returned (.tuple #[]) ∧ RefR w' r ⟨mul s.p (pt v), incR s⟩ ∧ Only (fun j => j = r) w w' := by
  have c0 := h.1.at 0 rfl
  have f0 := h.1.frozen 0
  have HR := Lib.hid h
  have A := Lib.hid (show ∀ w1, _ from fun w1 => rTimes_any (wd s.p) v w1 (wd_range _) hv)
  rw [pt_wd h.2.p] at A
  have okq : okP (mul s.p (pt v)) := ok_mul _ _
  have OK := Lib.hid okq
  obtain ⟨x, hx⟩ : ∃ x, wd s.p = x := ⟨_, rfl⟩
  rw [hx] at c0 A
  obtain ⟨q, hq⟩ : ∃ q, mul s.p (pt v) = q := ⟨_, rfl⟩
  rw [hq] at A OK
  rw [hq]
  obtain ⟨y, hy⟩ : ∃ y, wd q = y := ⟨_, rfl⟩
  rw [hy] at A
  have HY := Lib.hid hy
  have hsn := h.2.n.1
  have hsn2 := h.2.n.2
  clear h hx hq okq hy hv
  go_enter Try.func18, Try.ntmps18
  go_wp2_with fail
  refine (A.out _).mono ?_
  rintro e w1 ⟨rfl, hb⟩
  have R1 := Lib.hid (show RefR w1 r s by rw [← hb]; exact HR.out)
  have B1 := Lib.hid (show Only (fun j => j = r) w w1 from by rw [hb]; exact Only.refl _ _)
  clear hb
  have R2 := Lib.hid (refR_set R1.out y q OK.out HY.out)
  have R3 := Lib.hid (refR_inc R2.out.1)
  clear c0 f0
  have c0 := R1.out.1.at 0 rfl
  have f0 := R1.out.1.frozen 0
  have c1 := R1.out.1.at 1 rfl
  have f1 := R1.out.1.frozen 1
  go_wp2_with fail
  go_end0
  exact ⟨rfl, R3.out.1, (B1.out.trans R2.out.2).trans R3.out.2⟩
theorem rWrite_3 (r : Nat) (s : RS) (v : Int) (w : World) (hv : 0 ≤ v ∧ v < 4294967296) (h : RefR w r s) :
    Calls Try.prog 18 #[.pointer (some ⟨r, 0, none⟩), .int .i64 3, .int .u32 v] w fun e w' => e = .returned (.tuple #[]) ∧ RefR w' r ⟨turn s.p v.toNat, incR s⟩ ∧ Only (fun j => j = r) w w' := by
  have c0 := h.1.at 0 rfl
  have f0 := h.1.frozen 0
  have HR := Lib.hid h
  have A := Lib.hid (show ∀ w1, _ from fun w1 => rTurn_any (wd s.p) v w1 (wd_range _) hv)
  rw [pt_wd h.2.p] at A
  have okq : okP (turn s.p v.toNat) := ok_turn h.2.p _
  have OK := Lib.hid okq
  obtain ⟨x, hx⟩ : ∃ x, wd s.p = x := ⟨_, rfl⟩
  rw [hx] at c0 A
  obtain ⟨q, hq⟩ : ∃ q, turn s.p v.toNat = q := ⟨_, rfl⟩
  rw [hq] at A OK
  rw [hq]
  obtain ⟨y, hy⟩ : ∃ y, wd q = y := ⟨_, rfl⟩
  rw [hy] at A
  have HY := Lib.hid hy
  have hsn := h.2.n.1
  have hsn2 := h.2.n.2
  clear h hx hq okq hy hv
  go_enter Try.func18, Try.ntmps18
  go_wp2_with fail
  refine (A.out _).mono ?_
  rintro e w1 ⟨rfl, hb⟩
  have R1 := Lib.hid (show RefR w1 r s from HR.out.keep hb)
  have B1 := Lib.hid (show Only (fun j => j = r) w w1 from Only.of_below hb)
  clear hb
  have R2 := Lib.hid (refR_set R1.out y q OK.out HY.out)
  have R3 := Lib.hid (refR_inc R2.out.1)
  clear c0 f0
  have c0 := R1.out.1.at 0 rfl
  have f0 := R1.out.1.frozen 0
  have c1 := R1.out.1.at 1 rfl
  have f1 := R1.out.1.frozen 1
  go_wp2_with fail
  go_end0
  exact ⟨rfl, R3.out.1, (B1.out.trans R2.out.2).trans R3.out.2⟩
theorem rWrite_4 (r : Nat) (s : RS) (reg v : Int) (w : World) (h0 : ¬ reg = 0) (h1 : ¬ reg = 1) (h2 : ¬ reg = 2) (h3 : ¬ reg = 3) :
    Calls Try.prog 18 #[.pointer (some ⟨r, 0, none⟩), .int .i64 reg, .int .u32 v] w fun e w' => e = .returned (.tuple #[]) ∧ w = w' := by
  have g0 : (reg == 0) = false := by simpa using h0
  have g1 : (reg == 1) = false := by simpa using h1
  have g2 : (reg == 2) = false := by simpa using h2
  have g3 : (reg == 3) = false := by simpa using h3
  go_enter Try.func18, Try.ntmps18
  go_wp2_with fail
  refine bodyPost_ret (results_none rfl _ _ _) rfl ?_
  exact ⟨rfl, rfl⟩
theorem reg_cases (reg : Int) : reg = 0 ∨ reg = 1 ∨ reg = 2 ∨ reg = 3 ∨ (¬ reg = 0 ∧ ¬ reg = 1 ∧ ¬ reg = 2 ∧ ¬ reg = 3) := by omega
theorem rWrite_any (r : Nat) (s : RS) (reg v : Int) (w : World) (hv : 0 ≤ v ∧ v < 4294967296) (h : RefR w r s) :
    Calls Try.prog 18 #[.pointer (some ⟨r, 0, none⟩), .int .i64 reg, .int .u32 v] w fun e w' => e = .returned (.tuple #[]) ∧ RefR w' r (writeR s reg v) ∧ Only (fun j => j = r) w w' := by
  rcases reg_cases reg with rfl | rfl | rfl | rfl | ⟨h0, h1, h2, h3⟩
  · exact rWrite_0 r s v w hv h
  · exact rWrite_1 r s v w hv h
  · exact rWrite_2 r s v w hv h
  · exact rWrite_3 r s v w hv h
  · refine (rWrite_4 r s reg v w h0 h1 h2 h3).mono ?_
    rintro e w' ⟨rfl, rfl⟩
    rw [show writeR s reg v = s by unfold writeR; rw [if_neg h0, if_neg h1, if_neg h2, if_neg h3]]
    exact ⟨rfl, h, Only.refl _ _⟩
end Go.Proofs.Ytelmkfpomeilpaa.Rotor
