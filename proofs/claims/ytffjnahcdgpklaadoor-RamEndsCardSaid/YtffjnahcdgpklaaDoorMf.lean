/- The walk of RamDoes: a memory and the document's, one deed behind the other. -/
import Derived.Test.YtffjnahcdgpklaaDoorMe
import Derived.Deep.RegionHeld3
namespace Go.Proofs.YtffjnahcdgpklaaDoor.Ram
open Go.RowKit Go.Maps Go.ChangeShapes Go.WideShapes Go.ChangeAt Fifo Orow Word
set_option linter.unusedVariables false

theorem pick5 (x : Int) : ∃ p : Nat, p < 5 ∧ ∀ w, Calls Tryd.prog 10 #[.int .i64 x, .int .i64 5] w fun e w' => e = .returned (.int .i64 (p : Nat)) ∧ w = w' := by
  have h1 : -5 < Int.tmod x 5 ∧ Int.tmod x 5 < 5 := by
    rcases Int.lt_or_le x 0 with h | h
    · have e : x = -(-x) := by omega
      rw [e, Int.neg_tmod, Int.tmod_eq_emod_of_nonneg (by omega)]
      omega
    · rw [Int.tmod_eq_emod_of_nonneg h]
      omega
  obtain ⟨r, hr⟩ : ∃ r, Int.tmod x 5 = r := ⟨_, rfl⟩
  rw [hr] at h1
  by_cases hneg : r < 0
  · obtain ⟨p, hp⟩ := Int.eq_ofNat_of_zero_le (show 0 ≤ r + 5 by omega)
    refine ⟨p, by omega, fun w => ?_⟩
    have d1 : decide (r < 0) = true := decide_eq_true hneg
    have d2 : IntKind.i64.wrap (r + 5) = (p : Int) := by rw [i64w (by omega)]; exact hp
    clear hneg hp h1
    go_enter Tryd.func10, Tryd.ntmps10
    go_wp2_with fail
    go_ret
    exact ⟨rfl, rfl⟩
  · obtain ⟨p, hp⟩ := Int.eq_ofNat_of_zero_le (show 0 ≤ r by omega)
    refine ⟨p, by omega, fun w => ?_⟩
    have d1 : decide (r < 0) = false := decide_eq_false hneg
    rw [← hp]
    clear hneg hp h1
    go_enter Tryd.func10, Tryd.ntmps10
    go_wp2_with fail
    go_ret
    exact ⟨rfl, rfl⟩
/-- A block that K names is written over: the two stay. -/
theorem Pair.far {K : Nat → Prop} {w w' : World} {m r d : Nat} {bs cs : List Int} (h : Pair K w m r bs cs) (hd : K d) (hdt : d ≠ tabB) (ho : Only (fun j => j = d) w w') : Pair K w' m r bs cs := by
  obtain ⟨O, g, h1, h2, h3, h4, h5, h6, h7⟩ := h
  exact ⟨O, g, h1.only ho (fun j hj e => (h4 j hj).1 (by rw [e]; exact hd)) (fun e => hdt e.symm), h2.only ho (fun e => h5 (by rw [e]; exact hd)) (fun e => h6 (by rw [e]; exact hd)), h3, h4, h5, h6, fun j hj => Nat.lt_of_lt_of_le (h7 j hj) ho.size⟩
theorem below_only {K : Nat → Prop} {B : Nat} {w w1 w2 : World} (h : Below B w w1) (ho : Only (fun j => ¬ K j) w1 w2) (hB : B ≤ w.heap.size) (hK : ∀ j, j < B → K j) : Below B w w2 :=
  h.trans (ho.below (Nat.le_trans hB h.size) (fun k hk => Nat.le_of_not_lt (fun e => hk (hK k e))))

/-- What Bytes tells, of the two. -/
theorem Bytes_pair {K : Nat → Prop} {m r n : Nat} {bs : List Int} {w : World} (h : Pair K w m r bs bs) (hn : bs.length = n) :
    Calls Tryd.prog 16 #[.pointer (some ⟨m, 0, none⟩)] w fun e w' => (∃ ga ca, e = .returned (.slice (some ⟨ga, 0, none⟩) n ca) ∧ w'.ownsRow w.heap.size 5 1 (.slice (some ⟨ga, 0, none⟩) n ca) n (bv bs)) ∧ Below w.heap.size w w' := by
  obtain ⟨O, g, h1, h2, h3, _⟩ := h
  refine (Bytes_any m bs O w h1).mono ?_
  rintro e w' ⟨⟨a, c, rfl, ho⟩, hb⟩
  rw [hn] at ho
  obtain ⟨ga, ca, e1⟩ := own_pos ho (by have := h3.lo; omega)
  simp only [Value.slice.injEq] at e1
  obtain ⟨rfl, _, rfl⟩ := e1
  rw [hn]
  exact ⟨⟨ga, c, rfl, ho⟩, hb⟩
theorem own_bytes {w : World} {B g n c : Nat} {bs : List Int} (h : w.ownsRow B 5 1 (.slice (some ⟨g, 0, none⟩) n c) n (bv bs)) (hn : bs.length = n) : ∀ i, i < n → w.cell? ⟨g, i, none⟩ = some (.int .u8 (bs.getD i 0)) := fun i hi => by
  have := own_cells h _ rfl i _ (bv_get bs (by omega))
  rwa [Go.WideShapes.add_plain, Nat.zero_add] at this
set_option maxRecDepth 100000 in
set_option maxHeartbeats 4000000 in
theorem does_no (n : Int) (a : Option Addr) (len cap : Nat) (w : World) (hI : I64 n) (hs : sizeM n = false) (ht : Lane.Tab w) :
    Calls Tryd.prog 3 #[.int .i64 n, .slice a len cap] w fun e w' => e = .returned (.bool true) ∧ Below w.heap.size w w' := by
  by_cases h100 : 100 < len
  · have d1 : decide ((100 : Int) < (len : Int)) = true := decide_eq_true (by omega)
    go_enter Tryd.func3, Tryd.ntmps3
    go_wp2_with fail
    refine (awake_any _ ht).mono ?_
    rintro e w1 ⟨rfl, hb⟩
    have Hb := Lib.hid hb
    clear hb
    go_wp2_with fail
    go_ret
    exact ⟨rfl, Hb.out⟩
  · have d1 : decide ((100 : Int) < (len : Int)) = false := decide_eq_false (by omega)
    have HN := Lib.hid (fun w => New_no n w hI hs)
    have HR := Lib.hid (fun w => rNew_no n w hs)
    clear hI hs
    go_enter Tryd.func3, Tryd.ntmps3
    go_wp2_with fail
    refine (HN.out _).mono ?_
    rintro e w1 ⟨rfl, hb⟩
    have B1 := Lib.hid hb
    clear hb
    go_wp2_with fail
    refine (HR.out _).mono ?_
    rintro e w2 ⟨rfl, rfl⟩
    go_wp2_with fail
    refine (awake_any _ (ht.below B1.out)).mono ?_
    rintro e w2 ⟨rfl, hb⟩
    have B2 := Lib.hid (B1.out.trans (hb.mono B1.out.size))
    clear hb
    go_wp2_with fail
    go_ret
    exact ⟨rfl, B2.out⟩
set_option maxRecDepth 100000 in
set_option maxHeartbeats 8000000 in
theorem does_yes (n : Nat) (a : Option Addr) (len cap : Nat) (l : List Dd) (w : World) (hs : sizeM n = true) (hl : RowDd w a len l) (h100 : len ≤ 100) (ht : Lane.Tab w) :
    Calls Tryd.prog 3 #[.int .i64 n, .slice a len cap] w fun e w' => e = .returned (.bool true) ∧ Below w.heap.size w w' := by
  have hsp : 4 ≤ (n : Int) ∧ (n : Int) ≤ 4096 ∧ (n : Int) % 4 = 0 := of_decide_eq_true hs
  have hn0 : n ≤ 4096 := by omega
  have d1 : decide ((100 : Int) < (len : Int)) = false := decide_eq_false (by omega)
  have HN := Lib.hid (fun w ht => New_yes n w hs ht)
  have Ht := Lib.hid ht
  have HtB := Lib.hid (tab_lt ht)
  clear ht
  have HR := Lib.hid (fun w => rNew_yes n w hs)
  have Hl := Lib.hid hl
  clear hs hl hsp
  go_enter Tryd.func3, Tryd.ntmps3
  go_wp2_with fail
  refine (HN.out _ Ht.out).mono ?_
  rintro e w1 ⟨⟨m0, O0, rfl, hm, hO⟩, hb1⟩
  have M1 := Lib.hid hm
  have HO := Lib.hid hO
  have B1 := Lib.hid hb1
  have L1 := Lib.hid hm.lt
  clear hm hO hb1
  go_wp2_with fail
  refine (HR.out _).mono ?_
  rintro e w2 ⟨⟨r, g0, rfl, hR, hr, hg⟩, hb2⟩
  have hB1 := B1.out.size
  have B2 := Lib.hid (B1.out.trans (hb2.mono hB1))
  obtain ⟨B, hB⟩ : ∃ B, w.heap.size = B := ⟨_, rfl⟩
  have P2 := Lib.hid (show Pair (fun j => j < B) w2 m0 r (zerosB n) (zerosB n) from ⟨O0, g0, M1.out.keep hb2, hR, okM_zeros (by have := M1.out.ok; exact sizeM_ok this), fun j hj => ⟨fun k => by have := HO.out j hj; omega, by have := L1.out j hj; omega, by have := L1.out j hj; omega⟩, fun k => by omega, fun k => by omega, fun j hj => by have := hb2.size; omega⟩)
  have HB := Lib.hid hB
  clear hb2 hR hr hg M1 HO L1 hB1 HN HR B1 hB
  have B2 := Lib.hid (show Below B w w2 by rw [← HB.out]; exact B2.out)
  go_wp2_with fail
  go_loopw [5, 9] (fun mv i wr => ∃ (k m : Nat) (bs : List Int), k ≤ len ∧ mv = .pointer (some ⟨m, 0, none⟩) ∧ i = .int .i64 k ∧ bs.length = n ∧ Pair (fun j => j < B) wr m r bs bs ∧ Below B w wr) (fun _ i _ => len - (intOf i).toNat)
  case atStart => exact ⟨0, m0, zerosB n, Nat.zero_le _, rfl, rfl, zeros_length n, P2.out, B2.out⟩
  case round =>
  clear P2 B2
  obtain ⟨k, m, bs, hk, rfl, rfl, hbs, hP, hBl⟩ := hrel
  have Hbs := Lib.hid hbs
  have P := Lib.hid hP
  have BL := Lib.hid hBl
  clear hbs hP hBl
  by_cases hlt : k < len
  · have d1 : decide ((k : Int) < (len : Int)) = true := decide_eq_true (by omega)
    obtain ⟨b, off, rfl, ce⟩ := Hl.out.2.2 k hlt
    have ce := ce.keep (by rw [HB.out]; exact BL.out)
    have hok := Hl.out.2.1 k hlt
    obtain ⟨x, hx⟩ : ∃ x, l[k]! = x := ⟨_, rfl⟩
    rw [hx] at ce hok
    obtain ⟨xw, xo, xs, xv⟩ := x
    obtain ⟨e0, e1, e2, e3⟩ := ce
    obtain ⟨hw, ho, hs, hv⟩ := hok
    obtain ⟨p, hp, HPk⟩ := pick5 xw
    have HPk := Lib.hid HPk
    have i1 : (0 : Int) ≤ (k : Int) := by omega
    have i2 : (k : Int) < (len : Int) := by omega
    clear hx
    go_wp2_with fail
    obtain ⟨D, hD⟩ : ∃ D, wr.heap.size = D := ⟨_, rfl⟩
    rw [hD]
    refine calls_letter ?_
    intro X hX
    have AX := Lib.hid (show AtDd X D 0 ⟨xw, xo, xs, xv⟩ by rw [hX.out, ← hD]; exact atDd_new wr ⟨xw, xo, xs, xv⟩ _)
    have hal := (Below.refl wr.heap.size wr).alloc (Nat.le_refl _) (.cells #[.int .i64 xw, .int .i64 xo, .int .i64 xs, .int .u32 xv] 33)
    obtain ⟨K, hK⟩ : ∃ K : Nat → Prop, K = fun j => j < B ∨ j = D := ⟨_, rfl⟩
    have PX := Lib.hid (show Pair K X m r bs bs by rw [hX.out, hK]; exact P.out.also hal (fun j => j = D) (fun j e => by rw [e, ← hD]; exact ⟨Nat.le_refl _, by simp⟩))
    have KD : K D := by rw [hK]; exact .inr rfl
    have KB := Lib.hid (show ∀ j, j < B → K j by intro j hj; rw [hK]; exact .inl hj)
    have hBL := BL.out.size
    have BX := Lib.hid (show Below B w X by rw [hX.out]; exact BL.out.alloc (by rw [← HB.out]; exact hBL) _)
    clear hX hal hK hD P BL hBL e0 e1 e2 e3
    refine (HPk.out _).mono ?_
    rintro e w1 ⟨rfl, rfl⟩
    clear HPk
    have hcase : p = 2 ∨ p = 3 ∨ p = 4 ∨ p = 0 ∨ p = 1 := by omega
    clear hp
    rcases hcase with rfl | rfl | rfl | hp01
    · -- read
      obtain ⟨c0, c1, c2, c3⟩ := AX.out
      simp only [Nat.zero_add] at c1 c2 c3
      go_wp2_with fail
      refine (reads_any K m r bs xo xs X ho hs PX.out).mono ?_
      rintro e Y ⟨rfl, hb⟩
      have P5 := Lib.hid (PX.out.keep hb)
      have hBX := BX.out.size
      have B5 := Lib.hid (BX.out.trans (hb.mono (by rw [← HB.out]; exact hBX)))
      have HN5 := Lib.hid Hbs.out
      obtain ⟨m5, rfl⟩ : ∃ q, q = m := ⟨_, rfl⟩
      obtain ⟨bs5, rfl⟩ : ∃ q, q = bs := ⟨_, rfl⟩
      clear hb PX BX AX c0 c1 c2 c3
      go_wp2_with fail
      refine (Bytes_pair P5.out HN5.out).mono ?_
      rintro e w5 ⟨⟨ga, ca, rfl, hown⟩, hb5⟩
      have hga : Y.heap.size ≤ ga ∧ ga < w5.heap.size := (own_lt hown) ga (ba_self _ _)
      have P6 := Lib.hid (P5.out.also hb5 (fun j => j = ga) (fun j e => by rw [e]; exact hga))
      have hB5 := B5.out.size
      have B6 := Lib.hid (B5.out.trans (hb5.mono (by rw [← HB.out]; exact hB5)))
      have HA := Lib.hid hown
      have hgB : B ≤ ga := Nat.le_trans (by rw [← HB.out]; exact hB5) hga.1
      clear hown hb5 hga P5
      obtain ⟨O, g, a1, a2, a3, a4, a5, a6, a7⟩ := P6.out
      have HLen := Lib.hid (fun w' (hb : Below w5.heap.size w5 w') => Len_any m5 bs5 O w' (a1.keep hb))
      rw [HN5.out] at HLen
      have HSame := Lib.hid (fun w' (hb : Below w5.heap.size w5 w') => same_true ga g n ca n bs5 w' HN5.out hn0 (own_bytes (own_keep HA.out hb) HN5.out) (fun i hi => (a2.keep hb).cell i (by rw [HN5.out]; exact hi)))
      have c0 : ∀ w', Below w5.heap.size w5 w' → w'.cell? ⟨r, 0, none⟩ = some (.slice (some ⟨g, 0, none⟩) n n) := fun w' hb => by
        have := (a2.keep hb).head.at 0 rfl
        rwa [HN5.out] at this
      have nn : ((n : Int) != (n : Int)) = false := by simp
      clear a1 a2 a3 a4 a5 a6 a7
      go_wp2_with fail
      go_region_held3 (fun w' => Below w5.heap.size w5 w')
        (first | assumption | exact (Below.refl _ _).drew)
        (first
          | (go_at_call 17; refine (HLen.out _ (by assumption)).mono ?_; rintro e w' ⟨rfl, hb⟩; have hbS : Below w5.heap.size w5 w' := Below.trans (by assumption) (Below.mono hb (Below.size (by assumption))))
          | (go_at_call 18; refine (HSame.out _ (by assumption)).mono ?_; rintro e w' ⟨rfl, hb⟩; have hbS : Below w5.heap.size w5 w' := Below.trans (by assumption) (Below.mono hb (Below.size (by assumption)))))
      clear c0 nn
      go_wp2_with fail
      refine calls_letter ?_
      intro Z hZ
      have hbZ : Below w5.heap.size w5 Z := by rw [hZ.out]; assumption
      clear hZ
      refine (over_any Y.heap.size ga n ca (bv bs5) Z hn0 (own_keep HA.out hbZ)).mono ?_
      rintro e w9 ⟨rfl, ho⟩
      have P9 := Lib.hid (((P6.out.keep hbZ).far (.inr rfl) (by have := HtB.out; have := HB.out; omega) ho).less (fun j (hj : j < B) => .inl (KB.out j hj)))
      have hB6 := B6.out.size
      have B7 := Lib.hid (B6.out.trans (hbZ.mono (by rw [← HB.out]; exact hB6)))
      have hB7 := B7.out.size
      have B9 := Lib.hid (B7.out.trans (ho.below (by rw [← HB.out]; exact hB7) (fun k hk => by rw [hk]; exact hgB)))
      clear hbZ ho P6 HLen HSame HA
      go_wp2_with fail
      refine ⟨⟨k + 1, m5, bs5, by omega, rfl, by go_num, HN5.out, P9.out, B9.out⟩, by simp [intOf]; omega⟩
    · -- reset
      obtain ⟨c0, c1, c2, c3⟩ := AX.out
      simp only [Nat.zero_add] at c1 c2 c3
      go_wp2_with fail
      refine (Reset_pair K m r bs bs X PX.out).mono ?_
      rintro e X2 ⟨rfl, hp, hon⟩
      rw [Hbs.out] at hp
      have BX2 := Lib.hid (below_only BX.out hon (by rw [HB.out]; exact Nat.le_refl _) KB.out)
      obtain ⟨O, g, a1, a2, a3, a4, a5, a6, a7⟩ := hp
      have hd := a2.head
      rw [Hbs.out] at hd
      have Hd := Lib.hid hd
      have A8 := Lib.hid (ref_off a2 a3 a1.tab)
      have A1 := Lib.hid a1
      have A2 := Lib.hid a2.lt
      have A4 := Lib.hid a4
      have A5 := Lib.hid a5
      have A6 := Lib.hid a6
      have A7 := Lib.hid a7
      have h0 := hd.at 0 rfl
      obtain ⟨i0, hi, hz0, hz1, hz2⟩ := info_parts info_b
      have Hi := Lib.hid hi
      have Hz0 := Lib.hid hz0
      have Hz1 := Lib.hid hz1
      have Hz2 := Lib.hid hz2
      clear c0 c1 c2 c3 hd a1 a2 a3 a4 a5 a6 a7 hon hi hz0 hz1 hz2 PX BX AX
      go_wp2_with (at_make; refine wpList_make_full X2 rfl _ _ 36 rfl X2.heap.size 5 i0 (.int .u8 0) 1 Tryd.underlying36 Hi.out Hz0.out Hz1.out .i64 .i64 n n n rfl rfl rfl rfl (by rw [Hz2.out]; omega) (by unfold maxLen; omega) (Nat.le_refl _) ?_; intro wm hown hgrow; have hbm := Lib.hid ((Below.refl X2.heap.size X2).grown hgrow (Nat.le_refl _) (fun k h => by cases h)); have Hdm := Lib.hid (Hd.out.keep hbm.out); have hm0 := Hdm.out.at 0 rfl; have fm0 := Hdm.out.frozen 0)
      refine calls_letter ?_
      intro Y hY
      have hl : (madeCells (Value.int .u8 0).cells (n * 1)).toList = bv (zerosB n) := by rw [Nat.mul_one]; exact made_b n
      rw [hl] at hown
      have hBr := own_full hown (by rw [bv_len, zeros_length])
      have hrg : r ≠ X2.heap.size := by have := A2.out.1; omega
      have honr : Only (fun j => j = r) wm Y := by rw [hY.out]; exact (Only.refl (fun j => j = r) wm).setCell (p := ⟨r, 0, none⟩) rfl _
      have hall : Only (fun j => j = r) X2 Y := (Only.of_below hbm.out).trans honr
      have P5 := Lib.hid (show Pair K Y m r (zerosB n) (zerosB n) from ⟨O, X2.heap.size, A1.out.only hall (fun j hj e => (A4.out j hj).2.1 e) (fun e => A8.out.1 e.symm), ⟨by
          rw [zeros_length, hY.out]
          exact Hdm.out.set 0 _, by
          rw [hY.out]
          exact hBr.other (p := ⟨r, 0, none⟩) (fun e => hrg e.symm) _, hrg⟩, okM_zeros (sizeM_ok A1.out.ok), fun j hj => ⟨(A4.out j hj).1, (A4.out j hj).2.1, by have := A1.out.lt j hj; omega⟩, A5.out, fun kk => by have := A7.out _ kk; omega, fun j hj => Nat.lt_of_lt_of_le (A7.out j hj) hall.size⟩)
      have HN5 := Lib.hid (zeros_length n)
      have B5 := Lib.hid (below_only BX2.out (hall.mono (fun j _ e => by rw [e]; exact A5.out)) (by rw [HB.out]; exact Nat.le_refl _) KB.out)
      obtain ⟨m5, rfl⟩ : ∃ q, q = m := ⟨_, rfl⟩
      obtain ⟨bs5, hbs5⟩ : ∃ q, q = zerosB n := ⟨_, rfl⟩
      rw [← hbs5] at P5 HN5
      clear hbs5 hY hl hown hBr hrg honr hall hgrow hm0 fm0 Hdm hbm Hd h0 A1 A2 A4 A5 A6 A7 Hi Hz0 Hz1 Hz2 BX2
      refine (Bytes_pair P5.out HN5.out).mono ?_
      rintro e w5 ⟨⟨ga, ca, rfl, hown⟩, hb5⟩
      have hga : Y.heap.size ≤ ga ∧ ga < w5.heap.size := (own_lt hown) ga (ba_self _ _)
      have P6 := Lib.hid (P5.out.also hb5 (fun j => j = ga) (fun j e => by rw [e]; exact hga))
      have hB5 := B5.out.size
      have B6 := Lib.hid (B5.out.trans (hb5.mono (by rw [← HB.out]; exact hB5)))
      have HA := Lib.hid hown
      have hgB : B ≤ ga := Nat.le_trans (by rw [← HB.out]; exact hB5) hga.1
      clear hown hb5 hga P5
      obtain ⟨O, g, a1, a2, a3, a4, a5, a6, a7⟩ := P6.out
      have HLen := Lib.hid (fun w' (hb : Below w5.heap.size w5 w') => Len_any m5 bs5 O w' (a1.keep hb))
      rw [HN5.out] at HLen
      have HSame := Lib.hid (fun w' (hb : Below w5.heap.size w5 w') => same_true ga g n ca n bs5 w' HN5.out hn0 (own_bytes (own_keep HA.out hb) HN5.out) (fun i hi => (a2.keep hb).cell i (by rw [HN5.out]; exact hi)))
      have c0 : ∀ w', Below w5.heap.size w5 w' → w'.cell? ⟨r, 0, none⟩ = some (.slice (some ⟨g, 0, none⟩) n n) := fun w' hb => by
        have := (a2.keep hb).head.at 0 rfl
        rwa [HN5.out] at this
      have nn : ((n : Int) != (n : Int)) = false := by simp
      clear a1 a2 a3 a4 a5 a6 a7
      go_wp2_with fail
      go_region_held3 (fun w' => Below w5.heap.size w5 w')
        (first | assumption | exact (Below.refl _ _).drew)
        (first
          | (go_at_call 17; refine (HLen.out _ (by assumption)).mono ?_; rintro e w' ⟨rfl, hb⟩; have hbS : Below w5.heap.size w5 w' := Below.trans (by assumption) (Below.mono hb (Below.size (by assumption))))
          | (go_at_call 18; refine (HSame.out _ (by assumption)).mono ?_; rintro e w' ⟨rfl, hb⟩; have hbS : Below w5.heap.size w5 w' := Below.trans (by assumption) (Below.mono hb (Below.size (by assumption)))))
      clear c0 nn
      go_wp2_with fail
      refine calls_letter ?_
      intro Z hZ
      have hbZ : Below w5.heap.size w5 Z := by rw [hZ.out]; assumption
      clear hZ
      refine (over_any Y.heap.size ga n ca (bv bs5) Z hn0 (own_keep HA.out hbZ)).mono ?_
      rintro e w9 ⟨rfl, ho⟩
      have P9 := Lib.hid (((P6.out.keep hbZ).far (.inr rfl) (by have := HtB.out; have := HB.out; omega) ho).less (fun j (hj : j < B) => .inl (KB.out j hj)))
      have hB6 := B6.out.size
      have B7 := Lib.hid (B6.out.trans (hbZ.mono (by rw [← HB.out]; exact hB6)))
      have hB7 := B7.out.size
      have B9 := Lib.hid (B7.out.trans (ho.below (by rw [← HB.out]; exact hB7) (fun k hk => by rw [hk]; exact hgB)))
      clear hbZ ho P6 HLen HSame HA
      go_wp2_with fail
      refine ⟨⟨k + 1, m5, bs5, by omega, rfl, by go_num, HN5.out, P9.out, B9.out⟩, by simp [intOf]; omega⟩
    · -- left for a copy
      obtain ⟨c0, c1, c2, c3⟩ := AX.out
      simp only [Nat.zero_add] at c1 c2 c3
      obtain ⟨O, g, a1, a2, a3, a4, a5, a6, a7⟩ := PX.out
      have A1 := Lib.hid a1
      have A2 := Lib.hid a2
      have A3 := Lib.hid a3
      have A4 := Lib.hid a4
      have A5 := Lib.hid a5
      have A6 := Lib.hid a6
      have A7 := Lib.hid a7
      have L1 := Lib.hid a1.lt
      have L2 := Lib.hid a2.lt
      clear a1 a2 a3 a4 a5 a6 a7
      go_wp2_with fail
      refine (Copy_any m bs O X A1.out).mono ?_
      rintro e X2 ⟨⟨c, O2, rfl, hm2, hO2⟩, hb2⟩
      have C2 := Lib.hid hm2
      have HO2 := Lib.hid hO2
      have LC := Lib.hid hm2.lt
      have HB2 := Lib.hid hb2
      have q3 := cell_keep hb2 c3
      clear hm2 hO2 hb2 c0 c1 c2 c3
      go_wp2_with fail
      refine (Write_any m bs O 0 4 xv _ X2 ⟨by omega, by omega⟩ ⟨by omega, by omega⟩ hv.1 hv.2 (A1.out.keep HB2.out) rfl).mono ?_
      rintro e X3 ⟨rfl, O3, hm3, ho3, hO3⟩
      have C3 := Lib.hid hm3
      have HO3 := Lib.hid hO3
      have HS3 := Lib.hid ho3
      clear hm3 ho3 hO3 q3
      go_wp2_with fail
      refine (Reset_any m _ O3 X3 C3.out).mono ?_
      rintro e Y ⟨rfl, O4, hm4, ho4, hO4⟩
      have HS4 := Lib.hid ho4
      clear hm4 ho4 hO4
      have hX2 := HB2.out.size
      have hX3 := HS3.out.size
      have o3 : ∀ j, O3 j → O j ∨ X2.heap.size ≤ j := HO3.out
      have d3 : ∀ j, O2 j → ¬ O j := fun j hj ho => by have := HO2.out j hj; have := L1.out j ho; omega
      have d4 : ∀ j, O2 j → ¬ O3 j := fun j hj ho => (o3 j ho).elim (d3 j hj) (fun e => by have := LC.out j hj; omega)
      have e3 : ∀ j, j < X.heap.size → ¬ O j → ¬ O3 j := fun j hj ho h3 => (o3 j h3).elim ho (fun e => by omega)
      have P5 := Lib.hid (show Pair K Y c r bs bs from ⟨O2, g, (C2.out.only HS3.out d3 A1.out.off).only HS4.out d4 C3.out.off,
        ((A2.out.keep HB2.out).only HS3.out (fun o => (A4.out r o).2.1 rfl) (fun o => (A4.out g o).2.2 rfl)).only HS4.out (e3 r L2.out.1 (fun o => (A4.out r o).2.1 rfl)) (e3 g L2.out.2 (fun o => (A4.out g o).2.2 rfl)),
        A3.out, fun j hj => ⟨fun kk => by have := A7.out j kk; have := HO2.out j hj; omega, by have := HO2.out j hj; have := L2.out.1; omega, by have := HO2.out j hj; have := L2.out.2; omega⟩, A5.out, A6.out, fun j hj => Nat.lt_of_lt_of_le (A7.out j hj) (Nat.le_trans (Nat.le_trans hX2 hX3) HS4.out.size)⟩)
      have HN5 := Lib.hid Hbs.out
      have hBX := BX.out.size
      have B5 := Lib.hid (((BX.out.trans (HB2.out.mono (by rw [← HB.out]; exact hBX))).trans (HS3.out.below (by rw [← HB.out]; exact Nat.le_trans hBX hX2) (fun j hj => Nat.le_of_not_lt (fun e => (A4.out j hj).1 (KB.out j e))))).trans (HS4.out.below (by rw [← HB.out]; exact Nat.le_trans hBX (Nat.le_trans hX2 hX3)) (fun j hj => (o3 j hj).elim (fun ho => Nat.le_of_not_lt (fun e => (A4.out j ho).1 (KB.out j e))) (fun e => Nat.le_trans (by rw [← HB.out]; exact Nat.le_trans hBX hX2) e))))
      obtain ⟨m5, rfl⟩ : ∃ q, q = c := ⟨_, rfl⟩
      obtain ⟨bs5, rfl⟩ : ∃ q, q = bs := ⟨_, rfl⟩
      clear A1 A2 A3 A4 A5 A6 A7 L1 L2 C2 HO2 LC HB2 C3 HO3 HS3 HS4 hX2 hX3 o3 d3 d4 e3 PX BX AX hBX
      go_wp2_with fail
      refine (Bytes_pair P5.out HN5.out).mono ?_
      rintro e w5 ⟨⟨ga, ca, rfl, hown⟩, hb5⟩
      have hga : Y.heap.size ≤ ga ∧ ga < w5.heap.size := (own_lt hown) ga (ba_self _ _)
      have P6 := Lib.hid (P5.out.also hb5 (fun j => j = ga) (fun j e => by rw [e]; exact hga))
      have hB5 := B5.out.size
      have B6 := Lib.hid (B5.out.trans (hb5.mono (by rw [← HB.out]; exact hB5)))
      have HA := Lib.hid hown
      have hgB : B ≤ ga := Nat.le_trans (by rw [← HB.out]; exact hB5) hga.1
      clear hown hb5 hga P5
      obtain ⟨O, g, a1, a2, a3, a4, a5, a6, a7⟩ := P6.out
      have HLen := Lib.hid (fun w' (hb : Below w5.heap.size w5 w') => Len_any m5 bs5 O w' (a1.keep hb))
      rw [HN5.out] at HLen
      have HSame := Lib.hid (fun w' (hb : Below w5.heap.size w5 w') => same_true ga g n ca n bs5 w' HN5.out hn0 (own_bytes (own_keep HA.out hb) HN5.out) (fun i hi => (a2.keep hb).cell i (by rw [HN5.out]; exact hi)))
      have c0 : ∀ w', Below w5.heap.size w5 w' → w'.cell? ⟨r, 0, none⟩ = some (.slice (some ⟨g, 0, none⟩) n n) := fun w' hb => by
        have := (a2.keep hb).head.at 0 rfl
        rwa [HN5.out] at this
      have nn : ((n : Int) != (n : Int)) = false := by simp
      clear a1 a2 a3 a4 a5 a6 a7
      go_wp2_with fail
      go_region_held3 (fun w' => Below w5.heap.size w5 w')
        (first | assumption | exact (Below.refl _ _).drew)
        (first
          | (go_at_call 17; refine (HLen.out _ (by assumption)).mono ?_; rintro e w' ⟨rfl, hb⟩; have hbS : Below w5.heap.size w5 w' := Below.trans (by assumption) (Below.mono hb (Below.size (by assumption))))
          | (go_at_call 18; refine (HSame.out _ (by assumption)).mono ?_; rintro e w' ⟨rfl, hb⟩; have hbS : Below w5.heap.size w5 w' := Below.trans (by assumption) (Below.mono hb (Below.size (by assumption)))))
      clear c0 nn
      go_wp2_with fail
      refine calls_letter ?_
      intro Z hZ
      have hbZ : Below w5.heap.size w5 Z := by rw [hZ.out]; assumption
      clear hZ
      refine (over_any Y.heap.size ga n ca (bv bs5) Z hn0 (own_keep HA.out hbZ)).mono ?_
      rintro e w9 ⟨rfl, ho⟩
      have P9 := Lib.hid (((P6.out.keep hbZ).far (.inr rfl) (by have := HtB.out; have := HB.out; omega) ho).less (fun j (hj : j < B) => .inl (KB.out j hj)))
      have hB6 := B6.out.size
      have B7 := Lib.hid (B6.out.trans (hbZ.mono (by rw [← HB.out]; exact hB6)))
      have hB7 := B7.out.size
      have B9 := Lib.hid (B7.out.trans (ho.below (by rw [← HB.out]; exact hB7) (fun k hk => by rw [hk]; exact hgB)))
      clear hbZ ho P6 HLen HSame HA
      go_wp2_with fail
      refine ⟨⟨k + 1, m5, bs5, by omega, rfl, by go_num, HN5.out, P9.out, B9.out⟩, by simp [intOf]; omega⟩
    · -- written, and read
      have q1 : ∀ w', Only (fun j => ¬ K j) X w' → w'.cell? ⟨D, 1, none⟩ = some (.int .i64 xo) := fun w' h => by
        have := (AX.out.only h (fun e => e KD)).c1
        rwa [Nat.zero_add] at this
      have q2 : ∀ w', Only (fun j => ¬ K j) X w' → w'.cell? ⟨D, 2, none⟩ = some (.int .i64 xs) := fun w' h => by
        have := (AX.out.only h (fun e => e KD)).c2
        rwa [Nat.zero_add] at this
      have q3 : ∀ w', Only (fun j => ¬ K j) X w' → w'.cell? ⟨D, 3, none⟩ = some (.int .u32 xv) := fun w' h => by
        have := (AX.out.only h (fun e => e KD)).c3
        rwa [Nat.zero_add] at this
      obtain ⟨is, his⟩ : ∃ is, placeB bs.length xo xs = is := ⟨_, rfl⟩
      obtain ⟨bs5, hbs5⟩ : ∃ q, writeV bs xo xs xv.toNat = q := ⟨_, rfl⟩
      have HW1 := Lib.hid (fun W (hP : Pair K W m r bs bs) => Write_pair K m r bs bs xo xs xv is W ho hs hv.1 hv.2 hP his)
      have HW2 := Lib.hid (fun W (hP : Pair K W m r bs5 bs) => rWrite_pair K m r bs5 bs xo xs xv is W hv.1 hv.2 hP his)
      have HRd := Lib.hid (fun W (hP : Pair K W m r bs5 bs5) => reads_any K m r bs5 xo xs W ho hs hP)
      rw [hbs5] at HW1 HW2
      have hp0 : Pair K X.drew m r bs bs := PX.out.keep (Below.refl _ _).drew
      have nis : (is != is) = false := by simp
      have HN5 := Lib.hid (show bs5.length = n by rw [← hbs5, write_length]; exact Hbs.out)
      clear his hbs5 PX
      have c0 := AX.out.c0
      rcases hp01 with rfl | rfl
      all_goals
        go_wp2_with fail
        go_region_held3 (fun w' => Only (fun j => ¬ K j) X w')
          (first | assumption | exact only_drew2 (Only.refl _ _))
          (first
            | (go_at_call 14; refine (HW1.out _ (by assumption)).mono ?_; rintro e w' ⟨rfl, hp1, hoo⟩; have hoS : Only (fun j => ¬ K j) X w' := Only.trans (by assumption) hoo)
            | (go_at_call 15; refine (HW2.out _ (by assumption)).mono ?_; rintro e w' ⟨rfl, hp2, hoo⟩; have hoS : Only (fun j => ¬ K j) X w' := Only.trans (by assumption) hoo)
            | (go_at_call 11; refine (HRd.out _ (by assumption)).mono ?_; rintro e w' ⟨rfl, hb⟩; have hp3 : Pair K w' m r bs5 bs5 := Pair.keep (by assumption) hb; have hoS : Only (fun j => ¬ K j) X w' := Only.trans (by assumption) (Only.of_below hb)))
        go_wp2_with fail
        refine calls_letter ?_
        intro Y hY
        have P5 := Lib.hid (show Pair K Y m r bs5 bs5 by rw [hY.out]; assumption)
        have hOY : Only (fun j => ¬ K j) X Y := by rw [hY.out]; assumption
        have B5 := Lib.hid (below_only BX.out hOY (by rw [HB.out]; exact Nat.le_refl _) KB.out)
        obtain ⟨m5, rfl⟩ : ∃ q, q = m := ⟨_, rfl⟩
        clear hY hOY q1 q2 q3 HW1 HW2 HRd hp0 nis c0 AX BX
        refine (Bytes_pair P5.out HN5.out).mono ?_
        rintro e w5 ⟨⟨ga, ca, rfl, hown⟩, hb5⟩
        have hga : Y.heap.size ≤ ga ∧ ga < w5.heap.size := (own_lt hown) ga (ba_self _ _)
        have P6 := Lib.hid (P5.out.also hb5 (fun j => j = ga) (fun j e => by rw [e]; exact hga))
        have hB5 := B5.out.size
        have B6 := Lib.hid (B5.out.trans (hb5.mono (by rw [← HB.out]; exact hB5)))
        have HA := Lib.hid hown
        have hgB : B ≤ ga := Nat.le_trans (by rw [← HB.out]; exact hB5) hga.1
        clear hown hb5 hga P5
        obtain ⟨O, g, a1, a2, a3, a4, a5, a6, a7⟩ := P6.out
        have HLen := Lib.hid (fun w' (hb : Below w5.heap.size w5 w') => Len_any m5 bs5 O w' (a1.keep hb))
        rw [HN5.out] at HLen
        have HSame := Lib.hid (fun w' (hb : Below w5.heap.size w5 w') => same_true ga g n ca n bs5 w' HN5.out hn0 (own_bytes (own_keep HA.out hb) HN5.out) (fun i hi => (a2.keep hb).cell i (by rw [HN5.out]; exact hi)))
        have c0 : ∀ w', Below w5.heap.size w5 w' → w'.cell? ⟨r, 0, none⟩ = some (.slice (some ⟨g, 0, none⟩) n n) := fun w' hb => by
          have := (a2.keep hb).head.at 0 rfl
          rwa [HN5.out] at this
        have nn : ((n : Int) != (n : Int)) = false := by simp
        clear a1 a2 a3 a4 a5 a6 a7
        go_wp2_with fail
        go_region_held3 (fun w' => Below w5.heap.size w5 w')
          (first | assumption | exact (Below.refl _ _).drew)
          (first
            | (go_at_call 17; refine (HLen.out _ (by assumption)).mono ?_; rintro e w' ⟨rfl, hb⟩; have hbS : Below w5.heap.size w5 w' := Below.trans (by assumption) (Below.mono hb (Below.size (by assumption))))
            | (go_at_call 18; refine (HSame.out _ (by assumption)).mono ?_; rintro e w' ⟨rfl, hb⟩; have hbS : Below w5.heap.size w5 w' := Below.trans (by assumption) (Below.mono hb (Below.size (by assumption)))))
        clear c0 nn
        go_wp2_with fail
        refine calls_letter ?_
        intro Z hZ
        have hbZ : Below w5.heap.size w5 Z := by rw [hZ.out]; assumption
        clear hZ
        refine (over_any Y.heap.size ga n ca (bv bs5) Z hn0 (own_keep HA.out hbZ)).mono ?_
        rintro e w9 ⟨rfl, ho⟩
        have P9 := Lib.hid (((P6.out.keep hbZ).far (.inr rfl) (by have := HtB.out; have := HB.out; omega) ho).less (fun j (hj : j < B) => .inl (KB.out j hj)))
        have hB6 := B6.out.size
        have B7 := Lib.hid (B6.out.trans (hbZ.mono (by rw [← HB.out]; exact hB6)))
        have hB7 := B7.out.size
        have B9 := Lib.hid (B7.out.trans (ho.below (by rw [← HB.out]; exact hB7) (fun k hk => by rw [hk]; exact hgB)))
        clear hbZ ho P6 HLen HSame HA
        go_wp2_with fail
        refine ⟨⟨k + 1, m5, bs5, by omega, rfl, by go_num, HN5.out, P9.out, B9.out⟩, by simp [intOf]; omega⟩
  · obtain rfl : k = len := by omega
    have d1 : decide ((k : Int) < (k : Int)) = false := decide_eq_false (by omega)
    have d2 : decide (k < k) = false := decide_eq_false (by omega)
    obtain ⟨O, g, a1, a2, a3, a4, a5, a6, a7⟩ := P.out
    have HBy := Lib.hid (fun W (hb : Below wr.heap.size wr W) => Bytes_pair (P.out.keep hb) Hbs.out)
    have HSm := Lib.hid (fun W W0 ga ca (hb : Below wr.heap.size wr W) (ho : W.ownsRow W0 5 1 (.slice (some ⟨ga, 0, none⟩) n ca) n (bv bs)) => same_true ga g n ca n bs W Hbs.out hn0 (own_bytes ho Hbs.out) (fun i hi => (a2.keep hb).cell i (by rw [Hbs.out]; exact hi)))
    have c0 : ∀ w', Below wr.heap.size wr w' → w'.cell? ⟨r, 0, none⟩ = some (.slice (some ⟨g, 0, none⟩) n n) := fun w' hb => by
      have := (a2.keep hb).head.at 0 rfl
      rwa [Hbs.out] at this
    have HtR := Lib.hid a1.tab
    clear a1 a2 a3 a4 a5 a6 a7
    go_wp2_with fail
    go_region_held3 (fun w' => Below wr.heap.size wr w')
      (first | assumption | exact (Below.refl _ _).drew)
      (first
        | (go_at_call 16; refine (HBy.out _ (by assumption)).mono ?_; rintro e w' ⟨⟨ga, ca, rfl, how⟩, hb⟩; have hbS : Below wr.heap.size wr w' := Below.trans (by assumption) (Below.mono hb (Below.size (by assumption))))
        | (go_at_call 18; refine (HSm.out _ _ _ _ (by assumption) (by assumption)).mono ?_; rintro e w' ⟨rfl, hb⟩; have hbS : Below wr.heap.size wr w' := Below.trans (by assumption) (Below.mono hb (Below.size (by assumption))))
        | (go_at_call 7; refine (awake_any _ (HtR.out.below (by assumption))).mono ?_; rintro e w' ⟨rfl, hb⟩; have hbS : Below wr.heap.size wr w' := Below.trans (by assumption) (Below.mono hb (Below.size (by assumption)))))
    have hBl := BL.out.size
    have BZ := Lib.hid (BL.out.trans (hbS.mono (by rw [← HB.out]; exact hBl)))
    clear hbS c0
    go_wp2_with fail
    go_ret
    exact ⟨rfl, by rw [HB.out]; exact BZ.out⟩
end Go.Proofs.YtffjnahcdgpklaaDoor.Ram
