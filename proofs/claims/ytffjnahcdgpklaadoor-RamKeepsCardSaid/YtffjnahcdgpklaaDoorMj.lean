/- The walk of RamKeeps. -/
import Derived.Test.YtffjnahcdgpklaaDoorMh
namespace Go.Proofs.YtffjnahcdgpklaaDoor.Ram
open Go.RowKit Go.Maps Go.ChangeShapes Go.WideShapes Go.ChangeAt Fifo Orow Word
set_option linter.unusedVariables false

theorem of_at (g o m cap : Nat) (bs : List Int) (w : World) (hm : m = 1 ∨ m = 2 ∨ m = 4) (ho : o + m ≤ bs.length) (hok : ∀ i, 0 ≤ bs.getD i 0 ∧ bs.getD i 0 < 256) (h : ∀ i, i < bs.length → w.cell? ⟨g, i, none⟩ = some (.int .u8 (bs.getD i 0))) :
    Calls Tryd.prog 23 #[.slice (some ⟨g, o, none⟩) m cap] w fun e w' => e = .returned (.tuple #[.int .u32 (ofV m (bs.drop o)), .bool true]) ∧ w = w' := by
  unfold ofV
  rcases hm with rfl | rfl | rfl
  · rw [if_pos rfl, drop_get]
    exact of_1 g o cap _ w (h o (by omega)) (hok _).1 (hok _).2
  · rw [if_neg (by decide), if_pos rfl, drop_get, drop_get]
    exact of_2 g o cap _ _ w (h o (by omega)) (hok _).1 (hok _).2 (h (o + 1) (by omega)) (hok _).1 (hok _).2
  · rw [if_neg (by decide), if_neg (by decide), if_pos rfl, drop_get, drop_get, drop_get, drop_get]
    exact of_4 g o cap _ _ _ _ w (h o (by omega)) (hok _).1 (hok _).2 (h (o + 1) (by omega)) (hok _).1 (hok _).2 (h (o + 2) (by omega)) (hok _).1 (hok _).2 (h (o + 3) (by omega)) (hok _).1 (hok _).2
theorem row_bytes {w : World} {B g n c : Nat} {bs : List Int} (h : w.ownsRow B 5 1 (.slice (some ⟨g, 0, none⟩) n c) n (bv bs)) (hn : bs.length = n) : ∀ i, i < n → w.cell? ⟨g, i, none⟩ = some (.int .u8 (bs.getD i 0)) := fun i hi => by
  have := own_cells h _ rfl i _ (bv_get bs (by omega))
  rwa [Go.WideShapes.add_plain, Nat.zero_add] at this
/-- Bytes are told, then something is written: what was told stays. -/
theorem Bytes_held {B : Nat} {w0 : World} (m n : Nat) (bs : List Int) (w : World) (h : Mine B w0 w m bs) (hn : bs.length = n) :
    Calls Tryd.prog 16 #[.pointer (some ⟨m, 0, none⟩)] w fun e w' => (∃ ga ca, e = .returned (.slice (some ⟨ga, 0, none⟩) n ca) ∧ w'.ownsRow w.heap.size 5 1 (.slice (some ⟨ga, 0, none⟩) n ca) n (bv bs) ∧ ∃ O, Mem w' m bs O ∧ (∀ j, O j → B ≤ j ∧ j ≠ ga)) ∧ Mine B w0 w' m bs ∧ Below w.heap.size w w' := by
  have h0 := h
  have hk := h.ok
  obtain ⟨O, a1, a2, a3, a4⟩ := h
  have l := a1.lt
  refine (Bytes_any m bs O w a1).mono ?_
  rintro e w' ⟨⟨a, c, rfl, ho⟩, hb⟩
  rw [hn] at ho
  obtain ⟨ga, ca, e1⟩ := own_pos ho (by have := hk.lo; omega)
  simp only [Value.slice.injEq] at e1
  obtain ⟨rfl, _, rfl⟩ := e1
  rw [hn]
  exact ⟨⟨ga, c, rfl, ho, O, a1.keep hb, fun j hj => ⟨a2 j hj, fun e => by have := l j hj; have := ((own_lt ho) ga (ba_self _ _)).1; omega⟩⟩, h0.keep hb, hb⟩
theorem Write_held {B : Nat} {w0 : World} (m : Nat) (bs bs' : List Int) (O : Nat → Prop) (d : Nat) (off size v : Int) (is : Bool) (w : World) (h1 : I64 off) (h2 : I64 size) (h3 : 0 ≤ v) (h4 : v < 4294967296) (h : Mem w m bs O) (hO : ∀ j, O j → B ≤ j ∧ j ≠ d) (k3 : Below B w0 w) (k4 : B ≤ w0.heap.size) (hb : placeB bs.length off size = is) (hw : writeV bs off size v.toNat = bs') :
    Calls Tryd.prog 14 #[.pointer (some ⟨m, 0, none⟩), .int .i64 off, .int .i64 size, .int .u32 v] w fun e w' => e = .returned (.bool is) ∧ Mine B w0 w' m bs' ∧ Only (fun j => j ≠ d) w w' := by
  subst hw
  refine (Write_any m bs O off size v is w h1 h2 h3 h4 h hb).mono ?_
  rintro e w' ⟨rfl, O', b1, b2, b3⟩
  exact ⟨rfl, Mine.step (fun j hj => (hO j hj).1) k3 k4 b1 b2 b3, b2.mono (fun j _ o => (hO j o).2)⟩
set_option maxRecDepth 100000 in
set_option maxHeartbeats 8000000 in
theorem keeps_walk (n0 : Int) (a : Option Addr) (len cap : Nat) (l : List Dd) (off size v at_ by_ : Int) (w : World) (hn : (Lit.int .i64 n0).wf = true) (hl : RowDd w a len l) (hno : a = none → len = 0 ∧ cap = 0) (h2 : len ≤ cap) (h3 : len ≤ maxLen) (hoff : (Lit.int .i64 off).wf = true) (hsize : (Lit.int .i64 size).wf = true) (hv : (Lit.int .u32 v).wf = true) (hat : (Lit.int .i64 at_).wf = true) (hby : (Lit.int .i64 by_).wf = true) (ht : Lane.Tab w) :
    Calls Tryd.prog 5 #[.int .i64 n0, .slice a len cap, .int .i64 off, .int .i64 size, .int .u32 v, .int .i64 at_, .int .i64 by_] w fun e w' => e = .returned (.bool true) ∧ Below w.heap.size w w' := by
  have hI := wf64 hn
  have hO := wf64 hoff
  have hS := wf64 hsize
  have hV := wfu32 hv
  have hA := wf64 hat
  have hY := wf64 hby
  clear hn hoff hv hno h2 h3 hsize hat hby
  have HwI := Lib.hid hI
  have Ht := Lib.hid ht
  clear ht
  by_cases hs : sizeM n0 = true
  · have hsp : 4 ≤ n0 ∧ n0 ≤ 4096 ∧ n0 % 4 = 0 := of_decide_eq_true hs
    obtain ⟨n, rfl⟩ : ∃ n : Nat, n0 = n := ⟨n0.toNat, by omega⟩
    have hn0 : n ≤ 4096 := by omega
    have hn4 : 4 ≤ n := by omega
    have hn5 : n % 4 = 0 := by omega
    have HN := Lib.hid (fun w ht => New_yes n w hs ht)
    have Hl := Lib.hid hl
    obtain ⟨B, hB⟩ : ∃ B, w.heap.size = B := ⟨_, rfl⟩
    have HB := Lib.hid hB
    clear hs hl hsp hB hI
    by_cases h100 : 100 < len
    · have d1 : decide ((100 : Int) < (len : Int)) = true := decide_eq_true (by omega)
      go_enter Tryd.func5, Tryd.ntmps5
      go_wp2_with fail
      refine (awake_any _ Ht.out).mono ?_
      rintro e w1 ⟨rfl, hb⟩
      have B1 := Lib.hid hb
      clear hb
      go_wp2_with fail
      refine (HN.out _ (Ht.out.below B1.out)).mono ?_
      rintro e w2 ⟨⟨m0, O0, rfl, hm, hO⟩, hb1⟩
      have B2 := Lib.hid (B1.out.trans (hb1.mono B1.out.size))
      clear hb1 hm hO
      go_wp2_with fail
      go_ret
      exact ⟨rfl, B2.out⟩
    have d1 : decide ((100 : Int) < (len : Int)) = false := decide_eq_false (by omega)
    go_enter Tryd.func5, Tryd.ntmps5
    go_wp2_with fail
    refine (awake_any _ Ht.out).mono ?_
    rintro e w1 ⟨rfl, hb⟩
    have B1 := Lib.hid hb
    clear hb
    go_wp2_with fail
    refine (HN.out _ (Ht.out.below B1.out)).mono ?_
    rintro e w2 ⟨⟨m0, O0, rfl, hm, hO⟩, hb1⟩
    have M2 := Lib.hid (show Mine B w w2 m0 (zerosB n) from ⟨O0, hm, fun j hj => by have := hO j hj; have := B1.out.size; have := HB.out; omega, by rw [← HB.out]; exact B1.out.trans (hb1.mono B1.out.size), by rw [HB.out]; exact Nat.le_refl _⟩)
    have h100 : len ≤ 100 := by omega
    clear hb1 hm hO B1 HN
    go_wp2_with fail
    clear d1
    go_loopw [17] (fun i wr => ∃ (k : Nat) (bs : List Int), k ≤ len ∧ i = .int .i64 k ∧ bs.length = n ∧ Mine B w wr m0 bs) (fun i _ => len - (intOf i).toNat)
    case atStart => exact ⟨0, zerosB n, Nat.zero_le _, rfl, zeros_length n, M2.out⟩
    case round =>
    clear M2
    obtain ⟨k, bs, hk, rfl, hbs, hM⟩ := hrel
    have Hbs := Lib.hid hbs
    have M := Lib.hid hM
    clear hbs hM
    by_cases hlt : k < len
    · have d1 : decide ((k : Int) < (len : Int)) = true := decide_eq_true (by omega)
      obtain ⟨b, off2, rfl, ce⟩ := Hl.out.2.2 k hlt
      have hok := Hl.out.2.1 k hlt
      obtain ⟨x, hx⟩ : ∃ x, l[k]! = x := ⟨_, rfl⟩
      rw [hx] at ce hok
      obtain ⟨xw, xo, xs, xv⟩ := x
      obtain ⟨hw, ho, hs2, hv2⟩ := hok
      have i1 : (0 : Int) ≤ (k : Int) := by omega
      have i2 : (k : Int) < (len : Int) := by omega
      have q1 : ∀ w', Below B w w' → w'.cell? ⟨b, off2 + k * 4 + 1, none⟩ = some (.int .i64 xo) := fun w' h => (ce.keep (by rw [HB.out]; exact h)).c1
      have q2 : ∀ w', Below B w w' → w'.cell? ⟨b, off2 + k * 4 + 2, none⟩ = some (.int .i64 xs) := fun w' h => (ce.keep (by rw [HB.out]; exact h)).c2
      have q3 : ∀ w', Below B w w' → w'.cell? ⟨b, off2 + k * 4 + 3, none⟩ = some (.int .u32 xv) := fun w' h => (ce.keep (by rw [HB.out]; exact h)).c3
      obtain ⟨is, his⟩ : ∃ is, placeB bs.length xo xs = is := ⟨_, rfl⟩
      obtain ⟨bs5, hbs5⟩ : ∃ q, writeV bs xo xs xv.toNat = q := ⟨_, rfl⟩
      have HW := Lib.hid (fun W (hP : Mine B w W m0 bs) => Write_mine m0 bs bs5 xo xs xv is W ho hs2 hv2.1 hv2.2 hP his hbs5)
      have hp0 : Mine B w wr.drew m0 bs := M.out.keep (Below.refl _ _).drew
      have hq0 : Below B w wr.drew := hp0.below
      have HN5 := Lib.hid (show bs5.length = n by rw [← hbs5, write_length]; exact Hbs.out)
      clear hx ce his hbs5
      go_wp2_with fail
      go_region_held3 (fun w' => Below B w w')
        (first | assumption)
        (first
          | (go_at_call 14; refine (HW.out _ (by assumption)).mono ?_; rintro e w' ⟨rfl, hp1⟩; have hoS : Below B w w' := hp1.below))
      have M9 := Lib.hid hp1
      clear q1 q2 q3 hp0 hq0 HW hp1 hoS
      go_wp2_with fail
      exact ⟨⟨k + 1, bs5, by omega, by go_num, HN5.out, M9.out⟩, by simp [intOf]; omega⟩
    · obtain rfl : k = len := by omega
      have d1 : decide ((k : Int) < (k : Int)) = false := decide_eq_false (by omega)
      have d2 : decide (k < k) = false := decide_eq_false (by omega)
      obtain ⟨x, hx, hx2⟩ : ∃ x : Nat, v = x ∧ x < 4294967296 := ⟨v.toNat, by omega, by omega⟩
      subst hx
      have hk0 := M.out.ok
      have HBy := Lib.hid (Bytes_held (B := B) (w0 := w) m0 n bs wr M.out Hbs.out)
      go_wp2_with fail
      refine HBy.out.mono ?_
      rintro e w3 ⟨⟨ga, ca, rfl, hown, O, hmem, hOO⟩, hm, hb⟩
      have OA := Lib.hid hown
      have M3 := Lib.hid hm
      have HMem := Lib.hid hmem
      have HOO := Lib.hid hOO
      have hB0 : B ≤ w.heap.size := by rw [HB.out]; exact Nat.le_refl _
      clear hown hm hb HBy d1 d2 hmem hOO
      cases hok : placeB bs.length off size with
      | false =>
        have hno : ¬ (sizeB size = true ∧ 0 ≤ off ∧ off < (n : Int) ∧ off % size = 0) := by
          rintro ⟨p1, p2, p3, p4⟩
          unfold placeB at hok
          rw [p1, Hbs.out, Bool.true_and] at hok
          exact of_decide_eq_false hok ⟨p2, p3, p4⟩
        have HW := Lib.hid (Write_mine (B := B) (w0 := w) m0 bs _ off size x false w3 hO hS (by omega) (by omega) M3.out hok rfl)
        clear hok
        go_wp2_with fail
        refine HW.out.mono ?_
        rintro e w4 ⟨rfl, hm⟩
        have B4 := Lib.hid hm.below
        clear hm HW
        cases hsz : sizeB size with
        | false =>
          go_wp2_with (go_at_call 21; refine (size_any _ _).mono ?_; rintro e w' ⟨rfl, rfl⟩)
          go_ret
          exact ⟨rfl, by rw [HB.out]; exact B4.out⟩
        | true =>
          by_cases p0 : off < 0
          · have e0 : decide (off < 0) = true := decide_eq_true p0
            go_wp2_with (go_at_call 21; refine (size_any _ _).mono ?_; rintro e w' ⟨rfl, rfl⟩)
            go_ret
            exact ⟨rfl, by rw [HB.out]; exact B4.out⟩
          · have e0 : decide (off < 0) = false := decide_eq_false p0
            by_cases p1 : (n : Int) ≤ off
            · have e1 : decide ((n : Int) ≤ off) = true := decide_eq_true p1
              go_wp2_with (go_at_call 21; refine (size_any _ _).mono ?_; rintro e w' ⟨rfl, rfl⟩)
              go_ret
              exact ⟨rfl, by rw [HB.out]; exact B4.out⟩
            · have e1 : decide ((n : Int) ≤ off) = false := decide_eq_false p1
              have hs3 : size = 1 ∨ size = 2 ∨ size = 4 := by unfold sizeB at hsz; simpa using hsz
              have hz : ¬ size = 0 := by omega
              have hz' : (size == 0) = false := by simpa using hz
              have p2 : ¬ off % size = 0 := fun e => hno ⟨hsz, by omega, by omega, e⟩
              have e2 : (off % size != 0) = true := by simpa using p2
              have ht : Int.tmod off size = off % size := Int.tmod_eq_emod_of_nonneg (by omega)
              have hw2 : IntKind.i64.wrap (off % size) = off % size := IntWalk.i64_in _ (by rcases hs3 with rfl | rfl | rfl <;> omega)
              go_wp2_with (go_at_call 21; refine (size_any _ _).mono ?_; rintro e w' ⟨rfl, rfl⟩)
              go_ret
              exact ⟨rfl, by rw [HB.out]; exact B4.out⟩
      | true =>
        obtain ⟨o, m, rfl, rfl, hm, hd, hle⟩ := place_parts hok hk0.four
        have hw1 := write_at (x := x) hok
        obtain ⟨bs1, hb1⟩ : ∃ q, putL bs o m x = q := ⟨_, rfl⟩
        rw [hb1] at hw1
        have Hl1 := Lib.hid (show bs1.length = n by rw [← hb1, putL_length]; exact Hbs.out)
        have Hget := Lib.hid (show ∀ i, i < n → bs1.getD i 0 = if o ≤ i ∧ i < o + m then ((x / 256 ^ (i - o) % 256 : Nat) : Int) else bs.getD i 0 by
          intro i hi; rw [← hb1]; exact putL_get _ _ _ _ _ (by rw [Hbs.out]; exact hi))
        have HW := Lib.hid (Write_held (B := B) (w0 := w) m0 bs bs1 O ga o m x true w3 hO hS (by omega) (by omega) HMem.out HOO.out M3.out.below hB0 hok (by rw [Int.toNat_natCast]; exact hw1))
        have hszm : sizeB (m : Int) = true := by rcases hm with rfl | rfl | rfl <;> rfl
        have HBK := Lib.hid (fun w => bytes_row x m hx2 hszm w)
        rw [Hbs.out] at hle
        clear hok hw1 hb1 hszm
        go_wp2_with fail
        refine HW.out.mono ?_
        rintro e w4 ⟨rfl, hm4, hon4⟩
        have M4 := Lib.hid hm4
        have OA4 := Lib.hid (own_only OA.out hon4 (fun j hj e => e (ba_some hj)))
        have HBy := Lib.hid (Bytes_mine (B := B) (w0 := w) m0 n bs1 w4 hm4 Hl1.out)
        clear hm4 HW hon4 HMem HOO M3 OA
        go_wp2_with fail
        refine HBy.out.mono ?_
        rintro e w5 ⟨⟨gb, cb, rfl, hown⟩, hm, hb⟩
        have OB5 := Lib.hid hown
        have OA5 := Lib.hid (own_keep OA4.out hb)
        have M5 := Lib.hid hm
        clear hown hm hb HBy OA4 M4
        go_wp2_with fail
        refine (HBK.out _).mono ?_
        rintro e w6 ⟨al, cl, rfl, hown, hb⟩
        obtain ⟨gl, cl2, e1⟩ := own_pos hown (by omega)
        simp only [Value.slice.injEq] at e1
        obtain ⟨rfl, _, rfl⟩ := e1
        have OL6 := Lib.hid hown
        have OB6 := Lib.hid (own_keep OB5.out hb)
        have OA6 := Lib.hid (own_keep OA5.out hb)
        have M6 := Lib.hid (M5.out.keep hb)
        have nn : ((n : Int) != (n : Int)) = false := by simp
        have mm : ((m : Int) != (m : Int)) = false := by simp
        have o1 : decide ((o : Int) < 0) = false := decide_eq_false (by omega)
        have wnm : IntKind.i64.wrap ((n : Int) - (m : Int)) = (n : Int) - (m : Int) := IntWalk.i64_in _ (by omega)
        have o2 : decide ((n : Int) - (m : Int) < (o : Int)) = false := decide_eq_false (by omega)
        clear hown hb HBK OB5 OA5 M5 hk0
        go_wp2_with fail
        clear nn mm o1 wnm o2
        go_loopw [21] (fun i wr => ∃ (q : Nat), q ≤ n ∧ i = .int .i64 q ∧ Below w6.heap.size w6 wr) (fun i _ => n - (intOf i).toNat)
        case atStart => exact ⟨0, Nat.zero_le _, rfl, Below.refl _ _⟩
        case round =>
        obtain ⟨q, hq, rfl, hbw⟩ := hrel
        have BW := Lib.hid hbw
        clear hbw
        by_cases hlt : q < n
        · have d1 : decide ((q : Int) < (n : Int)) = true := decide_eq_true (by omega)
          have i1 : (0 : Int) ≤ (q : Int) := by omega
          have i2 : (q : Int) < (n : Int) := by omega
          have cB := row_bytes (own_keep OB6.out BW.out) Hl1.out q hlt
          have hg := Hget.out q hlt
          have wom : IntKind.i64.wrap ((o : Int) + (m : Int)) = (o : Int) + (m : Int) := IntWalk.i64_in _ (by omega)
          obtain ⟨W9, hW9⟩ : ∃ W, W = wr := ⟨_, rfl⟩
          by_cases hin : o ≤ q ∧ q < o + m
          · rw [if_pos hin] at hg
            obtain ⟨y, hy⟩ : ∃ y : Int, ((x / 256 ^ (q - o) % 256 : Nat) : Int) = y := ⟨_, rfl⟩
            have cL := bK_at (own_keep OL6.out BW.out) (q - o) (by omega)
            rw [hy] at hg cL
            rw [hg] at cB
            have g1 : decide ((o : Int) ≤ (q : Int)) = true := decide_eq_true (by omega)
            have g2 : decide ((q : Int) < (o : Int) + (m : Int)) = true := decide_eq_true (by omega)
            have g1' : decide (o ≤ q) = true := decide_eq_true hin.1
            have wqo : IntKind.i64.wrap ((q : Int) - (o : Int)) = (q : Int) - (o : Int) := IntWalk.i64_in _ (by omega)
            have j1 : (0 : Int) ≤ (q : Int) - (o : Int) := by omega
            have j2 : (q : Int) - (o : Int) < (m : Int) := by omega
            have j3 : ((q : Int) - (o : Int)).toNat = q - o := by omega
            have yy : (y != y) = false := by simp
            clear hg hy hW9
            go_wp2_with fail
            refine wp_region_ext (by kernel_rfl) (by kernel_rfl) ?_
            intro Y hYW
            obtain rfl := hYW.out
            clear hYW
            have y1 := ext_cell cB
            have y2 := ext_cell cL
            repeat (go_big_quiet_step (fail))
            refine wpQuiet_nil ?_
            intro w9 hw9
            have h9 : Below Y.heap.size Y w9 := by obtain ⟨p9, rfl⟩ := hw9; exact ext_below Y p9
            have hBW := BW.out.size
            have H9 := Lib.hid (BW.out.trans (h9.mono hBW))
            clear hw9 h9 y1 y2 cB cL
            go_wp2_with fail
            exact ⟨⟨q + 1, by omega, by go_num, H9.out⟩, by simp [intOf]; omega⟩
          · rw [if_neg hin] at hg
            have cA := row_bytes (own_keep OA6.out BW.out) Hbs.out q hlt
            obtain ⟨y, hy⟩ : ∃ y : Int, bs.getD q 0 = y := ⟨_, rfl⟩
            rw [hy] at hg cA
            rw [hg] at cB
            have yy : (y != y) = false := by simp
            clear hg hy hW9
            by_cases g0 : o ≤ q
            · have g1 : decide ((o : Int) ≤ (q : Int)) = true := decide_eq_true (by omega)
              have g1' : decide (o ≤ q) = true := decide_eq_true g0
              have g2 : decide ((q : Int) < (o : Int) + (m : Int)) = false := decide_eq_false (by omega)
              go_wp2_with fail
              refine wp_region_ext (by kernel_rfl) (by kernel_rfl) ?_
              intro Y hYW
              obtain rfl := hYW.out
              clear hYW
              have y1 := ext_cell cB
              have y2 := ext_cell cA
              repeat (go_big_quiet_step (fail))
              refine wpQuiet_nil ?_
              intro w9 hw9
              have h9 : Below Y.heap.size Y w9 := by obtain ⟨p9, rfl⟩ := hw9; exact ext_below Y p9
              have hBW := BW.out.size
              have H9 := Lib.hid (BW.out.trans (h9.mono hBW))
              clear hw9 h9 y1 y2 cB cA
              go_wp2_with fail
              exact ⟨⟨q + 1, by omega, by go_num, H9.out⟩, by simp [intOf]; omega⟩
            · have g1 : decide ((o : Int) ≤ (q : Int)) = false := decide_eq_false (by omega)
              have g1' : decide (o ≤ q) = false := decide_eq_false g0
              go_wp2_with fail
              refine wp_region_ext (by kernel_rfl) (by kernel_rfl) ?_
              intro Y hYW
              obtain rfl := hYW.out
              clear hYW
              have y1 := ext_cell cB
              have y2 := ext_cell cA
              repeat (go_big_quiet_step (fail))
              refine wpQuiet_nil ?_
              intro w9 hw9
              have h9 : Below Y.heap.size Y w9 := by obtain ⟨p9, rfl⟩ := hw9; exact ext_below Y p9
              have hBW := BW.out.size
              have H9 := Lib.hid (BW.out.trans (h9.mono hBW))
              clear hw9 h9 y1 y2 cB cA
              go_wp2_with fail
              exact ⟨⟨q + 1, by omega, by go_num, H9.out⟩, by simp [intOf]; omega⟩
        · obtain rfl : q = n := by omega
          have d1 : decide ((q : Int) < (q : Int)) = false := decide_eq_false (by omega)
          have d2 : decide (q < q) = false := decide_eq_false (by omega)
          have M7 := Lib.hid (M6.out.keep BW.out)
          have OB7 := Lib.hid (own_keep OB6.out BW.out)
          have hk1 := M7.out.ok
          have nn : ((q : Int) == (q : Int)) = true := by simp
          clear OA6 OL6 OB6 M6 Hget
          cases hok2 : placeB bs1.length at_ by_ with
          | false =>
            have hz : placeB (zerosB q).length at_ by_ = false := by rw [zeros_length, ← Hl1.out]; exact hok2
            have HR := Lib.hid (Read_mine (B := B) (w0 := w) m0 bs1 at_ by_ 0 false wr hA hY M7.out (read_no hok2) hok2)
            have HZ := Lib.hid (fun W (h : Mine B w W m0 (zerosB q)) => Read_mine m0 (zerosB q) at_ by_ 0 false W hA hY h (read_no hz) hz)
            clear hok2 hz
            go_wp2_with fail
            refine HR.out.mono ?_
            rintro e w8 ⟨rfl, hm, _⟩
            have M8 := Lib.hid hm
            clear hm HR
            go_wp2_with fail
            refine (Reset_mine m0 q bs1 w8 M8.out Hl1.out).mono ?_
            rintro e w9 ⟨rfl, hm⟩
            have M9 := Lib.hid hm
            clear hm
            go_wp2_with fail
            refine (HZ.out _ M9.out).mono ?_
            rintro e w10 ⟨rfl, hm, _⟩
            have M10 := Lib.hid hm
            clear hm
            go_wp2_with fail
            refine (Len_mine m0 q (zerosB q) w10 M10.out (zeros_length q)).mono ?_
            rintro e w11 ⟨rfl, hm⟩
            have B11 := Lib.hid hm.below
            clear hm
            go_wp2_with fail
            go_ret
            exact ⟨rfl, by rw [HB.out]; exact B11.out⟩
          | true =>
            obtain ⟨o2, m2, rfl, rfl, hm2, hd2, hle2⟩ := place_parts hok2 (by rw [Hl1.out]; exact hn5)
            have hz : placeB (zerosB q).length (o2 : Int) (m2 : Int) = true := by rw [zeros_length, ← Hl1.out]; exact hok2
            obtain ⟨z, hz0⟩ : ∃ z, ofV m2 (bs1.drop o2) = z := ⟨_, rfl⟩
            have HR := Lib.hid (Read_mine (B := B) (w0 := w) m0 bs1 o2 m2 z true wr hA hY M7.out (by rw [read_at hok2]; exact hz0) hok2)
            have HZ := Lib.hid (fun W (h : Mine B w W m0 (zerosB q)) => Read_mine m0 (zerosB q) o2 m2 0 true W hA hY h (by rw [read_at hz]; exact read_zeros _ _ _) hz)
            have HOf := Lib.hid (fun W cap (hb : Below wr.heap.size wr W) => of_at gb o2 m2 cap bs1 W hm2 hle2 hk1.byte (fun i hi => row_bytes (own_keep OB7.out hb) Hl1.out i (by rw [← Hl1.out]; exact hi)))
            rw [hz0] at HOf
            rw [Hl1.out] at hle2
            have hcb := own_le OB7.out
            have i1 : (0 : Int) ≤ (o2 : Int) := by omega
            have i2 : (o2 : Int) ≤ (o2 : Int) + (m2 : Int) := by omega
            have i3 : (o2 : Int) + (m2 : Int) ≤ (cb : Int) := by omega
            have wq : IntKind.i64.wrap ((o2 : Int) + (m2 : Int)) = (o2 : Int) + (m2 : Int) := IntWalk.i64_in _ (by omega)
            have wq2 : IntKind.i64.wrap ((q : Int) - (m2 : Int)) = (q : Int) - (m2 : Int) := IntWalk.i64_in _ (by omega)
            have e1 : ((o2 : Int) + (m2 : Int)).toNat - (o2 : Int).toNat = m2 := by omega
            have e2 : ((o2 : Int) + (m2 : Int)).toNat = o2 + m2 := by omega
            have t1 : decide ((o2 : Int) < 0) = false := decide_eq_false (by omega)
            have t2 : decide ((m2 : Int) < 1) = false := decide_eq_false (by omega)
            have t3 : decide ((q : Int) < (m2 : Int)) = false := decide_eq_false (by omega)
            have t3' : decide (q < m2) = false := decide_eq_false (by omega)
            have t4 : decide ((q : Int) - (m2 : Int) < (o2 : Int)) = false := decide_eq_false (by omega)
            have zz : (z != z) = false := by simp
            have hne : ¬ cb = o2 := by omega
            clear hok2 hz hz0 hle2 hcb hk1 hm2
            go_wp2_with fail
            refine HR.out.mono ?_
            rintro e w8 ⟨rfl, hm, hb⟩
            have M8 := Lib.hid hm
            have HB8 := Lib.hid hb
            clear hm hb HR
            go_wp2_with fail
            refine (HOf.out _ _ HB8.out).mono ?_
            rintro e w8' ⟨rfl, rfl⟩
            clear HOf HB8
            go_wp2_with fail
            refine (Reset_mine m0 q bs1 w8 M8.out Hl1.out).mono ?_
            rintro e w9 ⟨rfl, hm⟩
            have M9 := Lib.hid hm
            clear hm
            go_wp2_with fail
            refine (HZ.out _ M9.out).mono ?_
            rintro e w10 ⟨rfl, hm, _⟩
            have M10 := Lib.hid hm
            clear hm
            go_wp2_with fail
            refine (Len_mine m0 q (zerosB q) w10 M10.out (zeros_length q)).mono ?_
            rintro e w11 ⟨rfl, hm⟩
            have B11 := Lib.hid hm.below
            clear hm
            go_wp2_with fail
            go_ret
            exact ⟨rfl, by rw [HB.out]; exact B11.out⟩
  · have hs : sizeM n0 = false := by simpa using hs
    have HN := Lib.hid (fun w => New_no n0 w HwI.out hs)
    clear hs hl hI
    go_enter Tryd.func5, Tryd.ntmps5
    go_wp2_with fail
    refine (awake_any _ Ht.out).mono ?_
    rintro e w1 ⟨rfl, hb⟩
    have B1 := Lib.hid hb
    clear hb
    go_wp2_with fail
    refine (HN.out _).mono ?_
    rintro e w2 ⟨rfl, hb1⟩
    have B2 := Lib.hid (B1.out.trans (hb1.mono B1.out.size))
    clear hb1
    go_wp2_with fail
    go_ret
    exact ⟨rfl, B2.out⟩
end Go.Proofs.YtffjnahcdgpklaaDoor.Ram
