/- The walk of RamApart. -/
import Derived.Test.YtffjnahcdgpklaaDoorMh
namespace Go.Proofs.YtffjnahcdgpklaaDoor.Ram
open Go.RowKit Go.Maps Go.ChangeShapes Go.WideShapes Go.ChangeAt Fifo Orow Word
set_option linter.unusedVariables false

set_option maxRecDepth 100000 in
set_option maxHeartbeats 4000000 in
theorem apart_walk (n0 : Int) (a : Option Addr) (len cap : Nat) (l : List Dd) (off v : Int) (w : World) (hn : (Lit.int .i64 n0).wf = true) (hl : RowDd w a len l) (hno : a = none → len = 0 ∧ cap = 0) (h2 : len ≤ cap) (h3 : len ≤ maxLen) (hoff : (Lit.int .i64 off).wf = true) (hv : (Lit.int .u32 v).wf = true) (ht : Lane.Tab w) :
    Calls Tryd.prog 6 #[.int .i64 n0, .slice a len cap, .int .i64 off, .int .u32 v] w fun e w' => e = .returned (.bool true) ∧ Below w.heap.size w w' := by
  have hI := wf64 hn
  have hO := wf64 hoff
  have hV := wfu32 hv
  have I4 : I64 4 := ⟨by omega, by omega⟩
  clear hn hoff hv hno h2 h3
  have HwI := Lib.hid hI
  have Ht := Lib.hid ht
  clear ht
  by_cases hs : sizeM n0 = true
  · have hsp : 4 ≤ n0 ∧ n0 ≤ 4096 ∧ n0 % 4 = 0 := of_decide_eq_true hs
    obtain ⟨n, rfl⟩ : ∃ n : Nat, n0 = n := ⟨n0.toNat, by omega⟩
    have hn0 : n ≤ 4096 := by omega
    have hn4 : 4 ≤ n := by omega
    have hn5 : n % 4 = 0 := by omega
    have HN := Lib.hid (fun w ht => New_yes n w hs ht)
    have Hl := Lib.hid hl
    obtain ⟨B, hB⟩ : ∃ B, w.heap.size = B := ⟨_, rfl⟩
    have HB := Lib.hid hB
    clear hs hl hsp hB hI
    by_cases h100 : 100 < len
    · have d1 : decide ((100 : Int) < (len : Int)) = true := decide_eq_true (by omega)
      go_enter Tryd.func6, Tryd.ntmps6
      go_wp2_with fail
      refine (awake_any _ Ht.out).mono ?_
      rintro e w1 ⟨rfl, hb⟩
      have B1 := Lib.hid hb
      clear hb
      go_wp2_with fail
      refine (HN.out _ (Ht.out.below B1.out)).mono ?_
      rintro e w2 ⟨⟨m0, O0, rfl, hm, hO⟩, hb1⟩
      have B2 := Lib.hid (B1.out.trans (hb1.mono B1.out.size))
      clear hb1 hm hO
      go_wp2_with fail
      go_ret
      exact ⟨rfl, B2.out⟩
    have d1 : decide ((100 : Int) < (len : Int)) = false := decide_eq_false (by omega)
    go_enter Tryd.func6, Tryd.ntmps6
    go_wp2_with fail
    refine (awake_any _ Ht.out).mono ?_
    rintro e w1 ⟨rfl, hb⟩
    have B1 := Lib.hid hb
    clear hb
    go_wp2_with fail
    refine (HN.out _ (Ht.out.below B1.out)).mono ?_
    rintro e w2 ⟨⟨m0, O0, rfl, hm, hO⟩, hb1⟩
    have M2 := Lib.hid (show Mine B w w2 m0 (zerosB n) from ⟨O0, hm, fun j hj => by have := hO j hj; have := B1.out.size; have := HB.out; omega, by rw [← HB.out]; exact B1.out.trans (hb1.mono B1.out.size), by rw [HB.out]; exact Nat.le_refl _⟩)
    have h100 : len ≤ 100 := by omega
    clear hb1 hm hO B1 HN
    go_wp2_with fail
    clear d1
    go_loopw [11] (fun i wr => ∃ (k : Nat) (bs : List Int), k ≤ len ∧ i = .int .i64 k ∧ bs.length = n ∧ Mine B w wr m0 bs) (fun i _ => len - (intOf i).toNat)
    case atStart => exact ⟨0, zerosB n, Nat.zero_le _, rfl, zeros_length n, M2.out⟩
    case round =>
    clear M2
    obtain ⟨k, bs, hk, rfl, hbs, hM⟩ := hrel
    have Hbs := Lib.hid hbs
    have M := Lib.hid hM
    clear hbs hM
    by_cases hlt : k < len
    · have d1 : decide ((k : Int) < (len : Int)) = true := decide_eq_true (by omega)
      obtain ⟨b, off2, rfl, ce⟩ := Hl.out.2.2 k hlt
      have hok := Hl.out.2.1 k hlt
      obtain ⟨x, hx⟩ : ∃ x, l[k]! = x := ⟨_, rfl⟩
      rw [hx] at ce hok
      obtain ⟨xw, xo, xs, xv⟩ := x
      obtain ⟨hw, ho, hs2, hv2⟩ := hok
      have i1 : (0 : Int) ≤ (k : Int) := by omega
      have i2 : (k : Int) < (len : Int) := by omega
      have q1 : ∀ w', Below B w w' → w'.cell? ⟨b, off2 + k * 4 + 1, none⟩ = some (.int .i64 xo) := fun w' h => (ce.keep (by rw [HB.out]; exact h)).c1
      have q2 : ∀ w', Below B w w' → w'.cell? ⟨b, off2 + k * 4 + 2, none⟩ = some (.int .i64 xs) := fun w' h => (ce.keep (by rw [HB.out]; exact h)).c2
      have q3 : ∀ w', Below B w w' → w'.cell? ⟨b, off2 + k * 4 + 3, none⟩ = some (.int .u32 xv) := fun w' h => (ce.keep (by rw [HB.out]; exact h)).c3
      obtain ⟨is, his⟩ : ∃ is, placeB bs.length xo xs = is := ⟨_, rfl⟩
      obtain ⟨bs5, hbs5⟩ : ∃ q, writeV bs xo xs xv.toNat = q := ⟨_, rfl⟩
      have HW := Lib.hid (fun W (hP : Mine B w W m0 bs) => Write_mine m0 bs bs5 xo xs xv is W ho hs2 hv2.1 hv2.2 hP his hbs5)
      have hp0 : Mine B w wr.drew m0 bs := M.out.keep (Below.refl _ _).drew
      have hq0 : Below B w wr.drew := hp0.below
      have HN5 := Lib.hid (show bs5.length = n by rw [← hbs5, write_length]; exact Hbs.out)
      clear hx ce his hbs5
      go_wp2_with fail
      go_region_held3 (fun w' => Below B w w')
        (first | assumption)
        (first
          | (go_at_call 14; refine (HW.out _ (by assumption)).mono ?_; rintro e w' ⟨rfl, hp1⟩; have hoS : Below B w w' := hp1.below))
      have M9 := Lib.hid hp1
      clear q1 q2 q3 hp0 hq0 HW hp1 hoS
      go_wp2_with fail
      exact ⟨⟨k + 1, bs5, by omega, by go_num, HN5.out, M9.out⟩, by simp [intOf]; omega⟩
    · obtain rfl : k = len := by omega
      have d1 : decide ((k : Int) < (k : Int)) = false := decide_eq_false (by omega)
      have d2 : decide (k < k) = false := decide_eq_false (by omega)
      obtain ⟨x, hx, hx2⟩ : ∃ x : Nat, v = x ∧ x < 4294967296 := ⟨v.toNat, by omega, by omega⟩
      subst hx
      obtain ⟨was, hwas⟩ : ∃ q, readV bs off 4 = q := ⟨_, rfl⟩
      cases hok : placeB bs.length off 4 with
      | false =>
        have HR := Lib.hid (Read_mine (B := B) (w0 := w) m0 bs off 4 was false wr hO I4 M.out hwas hok)
        clear hok hwas
        go_wp2_with fail
        refine HR.out.mono ?_
        rintro e w3 ⟨rfl, hm, _⟩
        have M3 := Lib.hid hm
        clear hm
        go_wp2_with fail
        refine (Copy_duo m0 bs w3 M3.out).mono ?_
        rintro e w4 ⟨c, rfl, hd⟩
        have D4 := Lib.hid hd
        clear hd
        go_wp2_with fail
        refine (Len_mine c n bs w4 D4.out.swap.fst Hbs.out).mono ?_
        rintro e w5 ⟨rfl, hm⟩
        have B5 := Lib.hid hm.below
        clear hm
        have nn : ((n : Int) == (n : Int)) = true := by simp
        go_wp2_with fail
        go_ret
        exact ⟨rfl, by rw [HB.out]; exact B5.out⟩
      | true =>
        have hk0 := M.out.ok
        have hr1 := read_write4 hk0 hx2 hok
        obtain ⟨bs1, hb1⟩ : ∃ q, writeV bs off 4 x = q := ⟨_, rfl⟩
        rw [hb1] at hr1
        have hl1 : bs1.length = bs.length := by rw [← hb1, write_length]
        have HR := Lib.hid (Read_mine (B := B) (w0 := w) m0 bs off 4 was true wr hO I4 M.out hwas hok)
        have Hok := Lib.hid hok
        have Hwas := Lib.hid hwas
        have Hr1 := Lib.hid hr1
        have Hb1 := Lib.hid (show writeV bs off 4 ((x : Int)).toNat = bs1 by rw [Int.toNat_natCast]; exact hb1)
        have Hok1 := Lib.hid (show placeB bs1.length off 4 = true by rw [hl1]; exact hok)
        clear hok hwas hr1 hb1 hl1 hk0
        go_wp2_with fail
        refine HR.out.mono ?_
        rintro e w3 ⟨rfl, hm, _⟩
        have M3 := Lib.hid hm
        clear hm
        go_wp2_with fail
        refine (Copy_duo m0 bs w3 M3.out).mono ?_
        rintro e w4 ⟨c, rfl, hd⟩
        have D4 := Lib.hid hd
        clear hd
        go_wp2_with fail
        refine (Write_duo m0 c bs bs bs1 off 4 x true w4 hO I4 (by omega) (by omega) D4.out Hok.out Hb1.out).mono ?_
        rintro e w5 ⟨rfl, hd⟩
        have D5 := Lib.hid hd
        clear hd
        go_wp2_with fail
        refine (Read_mine m0 bs1 off 4 x true w5 hO I4 D5.out.fst Hr1.out Hok1.out).mono ?_
        rintro e w6 ⟨rfl, hm, hb⟩
        have D6 := Lib.hid (D5.out.keep hb)
        clear hm hb
        go_wp2_with fail
        refine (Read_mine c bs off 4 was true w6 hO I4 D6.out.swap.fst Hwas.out Hok.out).mono ?_
        rintro e w7 ⟨rfl, hm, hb⟩
        have D7 := Lib.hid (D6.out.keep hb)
        clear hm hb
        have hsg : IntKind.u32.signed = false := rfl
        obtain ⟨y, hy⟩ : ∃ y, bits BinOp.xor IntKind.u32 IntKind.u32.max (x : Int) = y := ⟨_, rfl⟩
        have hyw : 0 ≤ y ∧ y < 4294967296 := wfu32 (by have := wf_bits .xor .u32 IntKind.u32.max (x : Int); rwa [hy] at this)
        obtain ⟨bs2, hbs2⟩ : ∃ q, writeV bs off 4 y.toNat = q := ⟨_, rfl⟩
        have Hbs2 := Lib.hid hbs2
        clear hbs2
        go_wp2_with fail
        refine (Write_duo c m0 bs bs1 bs2 off 4 y true w7 hO I4 hyw.1 hyw.2 D7.out.swap Hok.out Hbs2.out).mono ?_
        rintro e w8 ⟨rfl, hd⟩
        have D8 := Lib.hid hd
        clear hd hy hyw hsg
        go_wp2_with fail
        refine (Read_mine m0 bs1 off 4 x true w8 hO I4 D8.out.swap.fst Hr1.out Hok1.out).mono ?_
        rintro e w9 ⟨rfl, hm, hb⟩
        have B9 := Lib.hid hm.below
        have x1 : ((x : Int) == (x : Int)) = true := by simp
        have x2 : (was == was) = true := by simp
        clear hm hb
        go_wp2_with fail
        go_ret
        exact ⟨rfl, by rw [HB.out]; exact B9.out⟩
  · have hs : sizeM n0 = false := by simpa using hs
    have HN := Lib.hid (fun w => New_no n0 w HwI.out hs)
    clear hs hl hI
    go_enter Tryd.func6, Tryd.ntmps6
    go_wp2_with fail
    refine (awake_any _ Ht.out).mono ?_
    rintro e w1 ⟨rfl, hb⟩
    have B1 := Lib.hid hb
    clear hb
    go_wp2_with fail
    refine (HN.out _).mono ?_
    rintro e w2 ⟨rfl, hb1⟩
    have B2 := Lib.hid (B1.out.trans (hb1.mono B1.out.size))
    clear hb1
    go_wp2_with fail
    go_ret
    exact ⟨rfl, B2.out⟩
end Go.Proofs.YtffjnahcdgpklaaDoor.Ram
