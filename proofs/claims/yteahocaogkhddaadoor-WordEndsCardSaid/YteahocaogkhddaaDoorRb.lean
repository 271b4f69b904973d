/- Contracts of the document's answers for numerals: Parse, Show; reads; the walk of WordReads. -/
import Derived.Test.YteahocaogkhddaaDoorRa
import Derived.Test.YteahocaogkhddaaDoorWf
import Derived.Test.YteahocaogkhddaaDoorWt
namespace Go.Proofs.YteahocaogkhddaaDoor.Word
open Go.RowKit Go.PlainAid
set_option linter.unusedVariables false

theorem bts_empty (s : ByteArray) (h : s.size = 0) : bts s = [] := (bts_nil s).2 h
theorem rparse_any (s : ByteArray) (w : World) (hs : s.size ≤ maxLen) :
    Calls Tryd.prog 12 #[.string s] w fun e w' => e = .returned (.tuple #[.int .u32 (valI (parseF (bts s))), .bool (parseF (bts s)).isSome]) ∧ w = w' := by
  have hs' : s.size ≤ 9223372036854775807 := hs
  have hbt := get_bt s
  by_cases h2 : 2 < s.size
  · by_cases b0 : bt s 0 = 48
    · have B0 : (bt s 0 == 48) = true := beq_iff_eq.2 b0
      by_cases b1 : bt s 1 = 120
      · have B1 : (bt s 1 == 120) = true := beq_iff_eq.2 b1
        have hh := (hexB_iff s).2 ⟨by omega, b0, b1⟩
        by_cases h10 : 10 < s.size
        · have E := Lib.hid (show parseF (bts s) = none by rw [parseF_hex hh, if_pos (by omega)])
          clear b0 b1 hh
          go_enter Tryd.func12, Tryd.ntmps12
          go_wp2
          go_ret2
          exact ⟨ret_int_bool (by rw [E.out]; rfl) (by rw [E.out]; rfl), rfl⟩
        · have E := Lib.hid (show parseF (bts s) = numF 16 (bts (s.extract 2 s.size)) by rw [parseF_hex hh, if_neg (by omega)])
          have Hz := Lib.hid (show (s.extract 2 s.size).size ≤ maxLen by simp; omega)
          clear b0 b1 hh
          go_enter Tryd.func12, Tryd.ntmps12
          go_wp2_with (go_at_call 36; refine (rnumber_16 _ _ Hz.out).mono ?_; rintro e w' ⟨rfl, rfl⟩)
          go_ret2
          exact ⟨ret_int_bool (by rw [E.out]) (by rw [E.out]), rfl⟩
      · have B1 : (bt s 1 == 120) = false := beq_eq_false_iff_ne.2 b1
        have hh : hexB s = false := by cases e : hexB s with | false => rfl | true => exact absurd ((hexB_iff s).1 e).2.2 b1
        have E := Lib.hid (show parseF (bts s) = none by rw [parseF_dec hh, if_pos ⟨by omega, b0⟩])
        clear b0 b1 hh
        go_enter Tryd.func12, Tryd.ntmps12
        go_wp2
        go_ret2
        exact ⟨ret_int_bool (by rw [E.out]; rfl) (by rw [E.out]; rfl), rfl⟩
    · have B0 : (bt s 0 == 48) = false := beq_eq_false_iff_ne.2 b0
      have hh : hexB s = false := by cases e : hexB s with | false => rfl | true => exact absurd ((hexB_iff s).1 e).2.1 b0
      have E := Lib.hid (show parseF (bts s) = numF 10 (bts s) by rw [parseF_dec hh, if_neg (fun h => b0 h.2)])
      clear b0 hh
      go_enter Tryd.func12, Tryd.ntmps12
      go_wp2_with (go_at_call 36; refine (rnumber_10 _ _ hs).mono ?_; rintro e w' ⟨rfl, rfl⟩)
      all_goals go_ret2
      all_goals exact ⟨ret_int_bool (by rw [E.out]) (by rw [E.out]), rfl⟩
  · by_cases h1 : s.size = 2
    · by_cases b0 : bt s 0 = 48
      · have B0 : (bt s 0 == 48) = true := beq_iff_eq.2 b0
        have E : Hid (parseF (bts s) = none) := by
          cases hh : hexB s with
          | true => rw [parseF_hex hh, if_neg (by omega), bts_empty _ (by simp; omega)]; rfl
          | false => rw [parseF_dec hh, if_pos ⟨by omega, b0⟩]; exact Lib.hid rfl
        have h1' : 1 < s.size := by omega
        clear b0 h1
        go_enter Tryd.func12, Tryd.ntmps12
        go_wp2
        go_ret2
        exact ⟨ret_int_bool (by rw [E.out]; rfl) (by rw [E.out]; rfl), rfl⟩
      · have B0 : (bt s 0 == 48) = false := beq_eq_false_iff_ne.2 b0
        have hh : hexB s = false := by cases e : hexB s with | false => rfl | true => exact absurd ((hexB_iff s).1 e).2.1 b0
        have E := Lib.hid (show parseF (bts s) = numF 10 (bts s) by rw [parseF_dec hh, if_neg (fun h => b0 h.2)])
        have h1' : 1 < s.size := by omega
        clear b0 h1 hh
        go_enter Tryd.func12, Tryd.ntmps12
        go_wp2_with (go_at_call 36; refine (rnumber_10 _ _ hs).mono ?_; rintro e w' ⟨rfl, rfl⟩)
        all_goals go_ret2
        all_goals exact ⟨ret_int_bool (by rw [E.out]) (by rw [E.out]), rfl⟩
    · have hh : hexB s = false := by cases e : hexB s with | false => rfl | true => exact absurd ((hexB_iff s).1 e).1 (by omega)
      have E := Lib.hid (show parseF (bts s) = numF 10 (bts s) by rw [parseF_dec hh, if_neg (by omega)])
      have h1' : ¬ 1 < s.size := by omega
      clear h1 hh
      go_enter Tryd.func12, Tryd.ntmps12
      go_wp2_with (go_at_call 36; refine (rnumber_10 _ _ hs).mono ?_; rintro e w' ⟨rfl, rfl⟩)
      all_goals go_ret2
      all_goals exact ⟨ret_int_bool (by rw [E.out]) (by rw [E.out]), rfl⟩

/-- The digit d, as a text of one sign. -/
def dstr (d : Nat) : ByteArray := ⟨#[UInt8.ofNat (dch d).toNat]⟩
theorem slice_digit (d : Nat) (hd : d < 16) (w : World) :
    (Instr.slice 9 (.string ⟨#[48, 49, 50, 51, 52, 53, 54, 55, 56, 57, 97, 98, 99, 100, 101, 102]⟩) (some (.int .u32 (d : Int))) (some (.int .u32 ((d : Int) + 1))) none).run Tryd.prog w = .ok (.string (dstr d)) w := by
  have e : d = 0 ∨ d = 1 ∨ d = 2 ∨ d = 3 ∨ d = 4 ∨ d = 5 ∨ d = 6 ∨ d = 7 ∨ d = 8 ∨ d = 9 ∨ d = 10 ∨ d = 11 ∨ d = 12 ∨ d = 13 ∨ d = 14 ∨ d = 15 := by omega
  rcases e with rfl | rfl | rfl | rfl | rfl | rfl | rfl | rfl | rfl | rfl | rfl | rfl | rfl | rfl | rfl | rfl
  · show (Instr.slice 9 (.string ⟨#[48, 49, 50, 51, 52, 53, 54, 55, 56, 57, 97, 98, 99, 100, 101, 102]⟩) (some (.int .u32 0)) (some (.int .u32 1)) none).run Tryd.prog w = .ok (.string (dstr 0)) w
    kernel_rfl
  · show (Instr.slice 9 (.string ⟨#[48, 49, 50, 51, 52, 53, 54, 55, 56, 57, 97, 98, 99, 100, 101, 102]⟩) (some (.int .u32 1)) (some (.int .u32 2)) none).run Tryd.prog w = .ok (.string (dstr 1)) w
    kernel_rfl
  · show (Instr.slice 9 (.string ⟨#[48, 49, 50, 51, 52, 53, 54, 55, 56, 57, 97, 98, 99, 100, 101, 102]⟩) (some (.int .u32 2)) (some (.int .u32 3)) none).run Tryd.prog w = .ok (.string (dstr 2)) w
    kernel_rfl
  · show (Instr.slice 9 (.string ⟨#[48, 49, 50, 51, 52, 53, 54, 55, 56, 57, 97, 98, 99, 100, 101, 102]⟩) (some (.int .u32 3)) (some (.int .u32 4)) none).run Tryd.prog w = .ok (.string (dstr 3)) w
    kernel_rfl
  · show (Instr.slice 9 (.string ⟨#[48, 49, 50, 51, 52, 53, 54, 55, 56, 57, 97, 98, 99, 100, 101, 102]⟩) (some (.int .u32 4)) (some (.int .u32 5)) none).run Tryd.prog w = .ok (.string (dstr 4)) w
    kernel_rfl
  · show (Instr.slice 9 (.string ⟨#[48, 49, 50, 51, 52, 53, 54, 55, 56, 57, 97, 98, 99, 100, 101, 102]⟩) (some (.int .u32 5)) (some (.int .u32 6)) none).run Tryd.prog w = .ok (.string (dstr 5)) w
    kernel_rfl
  · show (Instr.slice 9 (.string ⟨#[48, 49, 50, 51, 52, 53, 54, 55, 56, 57, 97, 98, 99, 100, 101, 102]⟩) (some (.int .u32 6)) (some (.int .u32 7)) none).run Tryd.prog w = .ok (.string (dstr 6)) w
    kernel_rfl
  · show (Instr.slice 9 (.string ⟨#[48, 49, 50, 51, 52, 53, 54, 55, 56, 57, 97, 98, 99, 100, 101, 102]⟩) (some (.int .u32 7)) (some (.int .u32 8)) none).run Tryd.prog w = .ok (.string (dstr 7)) w
    kernel_rfl
  · show (Instr.slice 9 (.string ⟨#[48, 49, 50, 51, 52, 53, 54, 55, 56, 57, 97, 98, 99, 100, 101, 102]⟩) (some (.int .u32 8)) (some (.int .u32 9)) none).run Tryd.prog w = .ok (.string (dstr 8)) w
    kernel_rfl
  · show (Instr.slice 9 (.string ⟨#[48, 49, 50, 51, 52, 53, 54, 55, 56, 57, 97, 98, 99, 100, 101, 102]⟩) (some (.int .u32 9)) (some (.int .u32 10)) none).run Tryd.prog w = .ok (.string (dstr 9)) w
    kernel_rfl
  · show (Instr.slice 9 (.string ⟨#[48, 49, 50, 51, 52, 53, 54, 55, 56, 57, 97, 98, 99, 100, 101, 102]⟩) (some (.int .u32 10)) (some (.int .u32 11)) none).run Tryd.prog w = .ok (.string (dstr 10)) w
    kernel_rfl
  · show (Instr.slice 9 (.string ⟨#[48, 49, 50, 51, 52, 53, 54, 55, 56, 57, 97, 98, 99, 100, 101, 102]⟩) (some (.int .u32 11)) (some (.int .u32 12)) none).run Tryd.prog w = .ok (.string (dstr 11)) w
    kernel_rfl
  · show (Instr.slice 9 (.string ⟨#[48, 49, 50, 51, 52, 53, 54, 55, 56, 57, 97, 98, 99, 100, 101, 102]⟩) (some (.int .u32 12)) (some (.int .u32 13)) none).run Tryd.prog w = .ok (.string (dstr 12)) w
    kernel_rfl
  · show (Instr.slice 9 (.string ⟨#[48, 49, 50, 51, 52, 53, 54, 55, 56, 57, 97, 98, 99, 100, 101, 102]⟩) (some (.int .u32 13)) (some (.int .u32 14)) none).run Tryd.prog w = .ok (.string (dstr 13)) w
    kernel_rfl
  · show (Instr.slice 9 (.string ⟨#[48, 49, 50, 51, 52, 53, 54, 55, 56, 57, 97, 98, 99, 100, 101, 102]⟩) (some (.int .u32 14)) (some (.int .u32 15)) none).run Tryd.prog w = .ok (.string (dstr 14)) w
    kernel_rfl
  · show (Instr.slice 9 (.string ⟨#[48, 49, 50, 51, 52, 53, 54, 55, 56, 57, 97, 98, 99, 100, 101, 102]⟩) (some (.int .u32 15)) (some (.int .u32 16)) none).run Tryd.prog w = .ok (.string (dstr 15)) w
    kernel_rfl
/-- What is left of v when k digits are told, and those. -/
def vdiv (v : Int) (k : Nat) : Int := v / ((16 ^ k : Nat) : Int)
theorem vdiv_0 (v : Int) : vdiv v 0 = v := by simp [vdiv]
theorem vdiv_succ (v : Int) (k : Nat) : vdiv v (k + 1) = vdiv v k / 16 := by
  unfold vdiv
  rw [Nat.pow_succ, Int.natCast_mul, ← Int.ediv_ediv_of_nonneg (Int.natCast_nonneg _)]
  rfl
def tailF (v : Int) : Nat → ByteArray
  | 0 => ⟨#[]⟩
  | k + 1 => dstr (vdiv v k % 16).toNat ++ tailF v k
theorem tailF_size (v : Int) : ∀ k, (tailF v k).size = k
  | 0 => rfl
  | k + 1 => by show (dstr _ ++ tailF v k).size = _; rw [ByteArray.size_append, tailF_size v k, Nat.add_comm]; rfl
theorem ret_str {a b : ByteArray} (h : a = b) : Ending.returned (.string a) = .returned (.string b) := by rw [h]
theorem tail_show (v : Int) : (⟨#[48, 120]⟩ : ByteArray) ++ tailF v 8 = ⟨(showF v).toArray⟩ := by
  have e : ∀ k, k < 8 → (vdiv v k % 16).toNat = nib v (7 - k) := fun k hk => by
    unfold vdiv nib
    rw [show 7 - (7 - k) = k from by omega]
  simp only [tailF, e 0 (by omega), e 1 (by omega), e 2 (by omega), e 3 (by omega), e 4 (by omega), e 5 (by omega), e 6 (by omega), e 7 (by omega)]
  rfl
theorem vdiv_bd (v : Int) (h0 : 0 ≤ v) (h1 : v < 4294967296) : ∀ k, 0 ≤ vdiv v k ∧ vdiv v k < 4294967296
  | 0 => by rw [vdiv_0]; exact ⟨h0, h1⟩
  | k + 1 => by rw [vdiv_succ]; have := vdiv_bd v h0 h1 k; omega

theorem rshow_any (v : Int) (w : World) (h0 : 0 ≤ v) (h1 : v < 4294967296) :
    Calls Tryd.prog 23 #[.int .u32 v] w fun e w' => e = .returned (.string ⟨(showF v).toArray⟩) ∧ w = w' := by
  go_enter Tryd.func23, Tryd.ntmps23
  go_wp2
  go_loop [0, 3, 4] (fun x s i => ∃ (k : Nat) (z : Int) (b : ByteArray), k ≤ 8 ∧ i = .int .i64 k ∧ x = .int .u32 z ∧ s = .string b ∧ z = vdiv v k ∧ b = tailF v k) (fun _ _ i => 8 - (intOf i).toNat)
  case atStart => exact ⟨0, v, ⟨#[]⟩, by omega, rfl, rfl, rfl, (vdiv_0 v).symm, rfl⟩
  case round =>
    obtain ⟨k, z, b, hk, rfl, rfl, rfl, hz, hb⟩ := hrel
    have hzb := vdiv_bd v h0 h1 k
    rw [← hz] at hzb
    have z0 := hzb.1
    have z1 := hzb.2
    have Hz := Lib.hid hz
    have Hb := Lib.hid hb
    clear hz hb hzb
    have hsz : b.size ≤ 8 := by rw [Hb.out, tailF_size]; exact hk
    by_cases hlt : k < 8
    · obtain ⟨d, hd⟩ := Int.eq_ofNat_of_zero_le (show 0 ≤ z % 16 by omega)
      have hd16 : d < 16 := by omega
      have hsl := slice_digit d hd16
      have Hd := Lib.hid hd
      have hds : (dstr d).size ≤ 1 := Nat.le_refl _
      go_wp2
      refine ⟨⟨k + 1, z / 16, dstr d ++ b, by omega, by go_num, rfl, rfl, by rw [vdiv_succ, ← Hz.out], ?_⟩, by simp [intOf]; omega⟩
      show _ = dstr (vdiv v k % 16).toNat ++ tailF v k
      rw [← Hz.out, ← Hb.out, Hd.out]
      rfl
    · obtain rfl : k = 8 := by omega
      have E : Hid ((⟨#[48, 120]⟩ : ByteArray) ++ b = ⟨(showF v).toArray⟩) := by rw [Hb.out]; exact tail_show v
      go_wp2
      go_ret
      exact ⟨ret_str E.out, rfl⟩
end Go.Proofs.YteahocaogkhddaaDoor.Word
