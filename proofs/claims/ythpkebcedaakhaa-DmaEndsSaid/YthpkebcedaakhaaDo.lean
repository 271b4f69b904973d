/- The walk of DmaEnds. -/
import Derived.Test.YthpkebcedaakhaaDn
import Derived.Deep.RegionLaw
namespace Go.Proofs.Ythpkebcedaakhaa.Dma
open Go.RowKit Go.Maps Go.ChangeShapes Go.WideShapes Go.ChangeAt Fifo Orow
set_option linter.unusedVariables false

def regL : List Value := [.int .i64 (-9223372036854775808), .int .i64 (-1), .int .i64 0, .int .i64 1, .int .i64 2, .int .i64 3, .int .i64 4, .int .i64 5, .int .i64 8, .int .i64 9223372036854775807]
theorem reg_at {i : Nat} (h : i < 10) : ∃ z, regL[i]? = some (.int .i64 z) ∧ -9223372036854775808 ≤ z ∧ z ≤ 9223372036854775807 := by
  match i, h with
  | 0, _ => exact ⟨_, rfl, by omega⟩
  | 1, _ => exact ⟨_, rfl, by omega⟩
  | 2, _ => exact ⟨_, rfl, by omega⟩
  | 3, _ => exact ⟨_, rfl, by omega⟩
  | 4, _ => exact ⟨_, rfl, by omega⟩
  | 5, _ => exact ⟨_, rfl, by omega⟩
  | 6, _ => exact ⟨_, rfl, by omega⟩
  | 7, _ => exact ⟨_, rfl, by omega⟩
  | 8, _ => exact ⟨_, rfl, by omega⟩
  | 9, _ => exact ⟨_, rfl, by omega⟩
def OkL (d : List Dd) : Prop := ∀ x, x ∈ d → okDd x
theorem okL_row {d : List Dd} (h : OkL d) : ∀ j, j < d.length → okDd d[j]! := fun j hj => by
  rw [getElem!_pos d j hj]
  exact h _ (List.getElem_mem hj)
theorem row_blk {w : World} {g : Nat} {l : List Dd} (h : Blk w g 34 (flDd l)) (hok : OkL l) : RowDd w (some ⟨g, 0, none⟩) l.length l := by
  refine ⟨rfl, okL_row hok, fun j hj => ⟨g, 0, rfl, ?_⟩⟩
  have c : ∀ t v, t < 4 → (encDd l[j]!)[t]? = some v → w.cell? ⟨g, 0 + j * 4 + t, none⟩ = some v := fun t v ht hv => by
    rw [Nat.zero_add]
    exact h.at (j * 4 + t) (by rw [flDd_get l j t hj ht]; exact hv)
  exact ⟨c 0 _ (by omega) rfl, c 1 _ (by omega) rfl, c 2 _ (by omega) rfl, c 3 _ (by omega) rfl⟩
theorem ok_mk {p q s e : Int} (h1 : -9223372036854775808 ≤ p ∧ p ≤ 9223372036854775807) (h2 : -9223372036854775808 ≤ q ∧ q ≤ 9223372036854775807) (h3 : 0 ≤ s ∧ s < 4294967296) (h4 : -9223372036854775808 ≤ e ∧ e ≤ 9223372036854775807) : okDd ⟨p, q, s, e⟩ := ⟨h1, h2, h3, h4⟩
def dL (k vn m zk t vk : Int) : List Dd := [⟨2, k, vn, 0⟩, ⟨2, k, 6, m⟩, ⟨1, zk, vn, 0⟩, ⟨0, zk, 0, 0⟩, ⟨1, 3, 257, 0⟩, ⟨2, 1, 1, 0⟩, ⟨1, zk, 1, 0⟩, ⟨2, 1, 2, t⟩, ⟨2, -5, 3, 0⟩, ⟨1, 3, vk, 0⟩, ⟨2, 1, 4, 0⟩, ⟨1, 4, 0, 0⟩]
theorem dL_ok {k vn m zk t vk : Int} (h1 : 0 ≤ k ∧ k < 10) (h2 : 0 ≤ vn ∧ vn < 4294967296) (h3 : 0 ≤ m ∧ m < 100) (h4 : -9223372036854775808 ≤ zk ∧ zk ≤ 9223372036854775807) (h5 : 0 ≤ t ∧ t < 10) (h6 : 0 ≤ vk ∧ vk < 4294967296) : OkL (dL k vn m zk t vk) := by
  intro x hx
  simp only [dL, List.mem_cons, List.not_mem_nil, or_false] at hx
  rcases hx with rfl | rfl | rfl | rfl | rfl | rfl | rfl | rfl | rfl | rfl | rfl | rfl <;> exact ok_mk ⟨by omega, by omega⟩ ⟨by omega, by omega⟩ ⟨by omega, by omega⟩ ⟨by omega, by omega⟩
theorem wrap_b (x : Int) : 0 ≤ IntKind.u32.wrap x ∧ IntKind.u32.wrap x < 4294967296 := by
  rw [IntKind.wrap_u32]
  exact ⟨Int.emod_nonneg _ (by decide), Int.emod_lt_of_pos _ (by decide)⟩
theorem m_b {k : Nat} (h : k < 10) : 0 ≤ IntKind.i64.wrap ((k : Int).tmod 2 * 10) ∧ IntKind.i64.wrap ((k : Int).tmod 2 * 10) < 100 := by
  rw [Int.tmod_eq_emod_of_nonneg (by omega), IntWalk.i64_in _ (by omega)]
  omega
theorem t_b {k : Nat} (h : k < 10) : 0 ≤ (k : Int).tmod 3 ∧ (k : Int).tmod 3 < 10 := by
  rw [Int.tmod_eq_emod_of_nonneg (by omega)]
  omega
def sN (n : Nat) : En := ⟨4294967292, 4294967288, (n : Int) % 3, 5, (n : Int) / 3 % 2 == 1, (n : Int) / 6 % 2 == 1, (n : Int) / 12 % 2 == 1, (n : Int) / 24 % 2 == 1, (n : Int) / 48 == 1⟩
theorem sN_ok (n : Nat) : OkE (sN n) := by
  refine ⟨?_, ?_, ?_, ?_⟩ <;> (simp only [sN]; omega)
def eL : List Dd := [⟨1, 2, 4294967295, 0⟩, ⟨1, 3, 4294967295, 0⟩, ⟨2, 7, 1, -1⟩, ⟨0, 3, 0, 0⟩]
theorem eL_ok : OkL eL := by
  intro x hx
  simp only [eL, List.mem_cons, List.not_mem_nil, or_false] at hx
  rcases hx with rfl | rfl | rfl | rfl <;> exact ok_mk ⟨by omega, by omega⟩ ⟨by omega, by omega⟩ ⟨by omega, by omega⟩ ⟨by omega, by omega⟩
theorem zero_okE : OkE zeroE := by
  refine ⟨?_, ?_, ?_, ?_⟩ <;> (simp only [zeroE]; omega)
theorem busy_okE : OkE ⟨0, 0, 1, 0, false, true, false, false, false⟩ := by
  refine ⟨?_, ?_, ?_, ?_⟩ <;> (simp only []; omega)
theorem field5 (F T L H : Int) (has busy den don cal : Bool) (w : World) : (Instr.field 24 (.agg #[.int .u32 F, .int .u32 T, .int .u32 L, .int .u32 H, .bool has, .bool busy, .bool den, .bool don, .bool cal]) 5).run Try.prog w = .ok (.bool busy) w := by
  first
  | rfl
  | (unfold Instr.field; simp [go_sem, Try.underlying24, underlying, part, asAgg, Try.isAgg22, Try.isAgg4])
def stN (n : Nat) : List Value := [.int .u32 4294967292, .int .u32 4294967288, .int .u32 ((n : Int) % 3), .int .u32 5, .bool ((n : Int) / 3 % 2 == 1), .bool ((n : Int) / 6 % 2 == 1), .bool ((n : Int) / 12 % 2 == 1), .bool ((n : Int) / 24 % 2 == 1), .bool ((n : Int) / 48 == 1)]
set_option maxRecDepth 100000 in
set_option maxHeartbeats 8000000 in
theorem ends_walk (w : World) : Calls Try.prog 4 #[] w fun e w' => e = .returned (.bool true) ∧ Below w.heap.size w w' := by
  go_enter Try.func4, Try.ntmps4
  go_wp2_with fail
  obtain ⟨s1, hs1⟩ : ∃ s, w.heap.size = s := ⟨_, rfl⟩
  rw [hs1]
  refine code_letter ?_
  intro W hW
  have CS := Lib.hid (show Blk W s1 3 regL by rw [hW.out, ← hs1]; exact Blk.new w 3 regL)
  have BW := Lib.hid (show Below w.heap.size w W by rw [hW.out]; exact (Below.refl _ _).alloc (Nat.le_refl _) _)
  clear hW hs1
  go_loopw [2] (fun n wr => ∃ n' : Nat, n' ≤ 96 ∧ n = .int .i64 n' ∧ Below W.heap.size W wr) (fun n _ => 96 - (intOf n).toNat)
  case atStart => exact ⟨0, by omega, rfl, Below.refl _ _⟩
  case round =>
  obtain ⟨n, hn, rfl, hb⟩ := hrel
  obtain ⟨v0, rfl⟩ : ∃ V : World, V = wr := ⟨_, rfl⟩
  have Hb0 := Lib.hid hb
  clear hb
  by_cases hln : n < 96
  · have u0 : decide ((n : Int) < 96) = true := decide_eq_true (by omega)
    have u1 : decide (n < 96) = true := decide_eq_true hln
    go_wp2_with fail
    obtain ⟨sb, hsb⟩ : ∃ s, v0.heap.size = s := ⟨_, rfl⟩
    rw [hsb]
    refine code_letter ?_
    intro X hX
    have SX := Lib.hid (show Blk X sb 24 (stN n) by rw [hX.out, ← hsb]; exact Blk.new v0 24 (stN n))
    have BX := Lib.hid (show Below W.heap.size W X by rw [hX.out]; exact Hb0.out.alloc Hb0.out.size _)
    clear hX hsb Hb0 u0 u1
    go_loopw [4] (fun k wr => ∃ k' : Nat, k' ≤ 10 ∧ k = .int .i64 k' ∧ Below X.heap.size X wr) (fun k _ => 10 - (intOf k).toNat)
    case atStart => exact ⟨0, by omega, rfl, Below.refl _ _⟩
    case round =>
    obtain ⟨k, hk, rfl, hb⟩ := hrel
    obtain ⟨v1, rfl⟩ : ∃ V : World, V = wr := ⟨_, rfl⟩
    have Hk := Lib.hid hb
    have SV := Lib.hid (SX.out.keep hb)
    have CV := Lib.hid (CS.out.keep (BX.out.trans (hb.mono BX.out.size)))
    clear hb
    by_cases hlk : k < 10
    · have u2 : decide ((k : Int) < 10) = true := decide_eq_true (by omega)
      have u3 : decide (k < 10) = true := decide_eq_true hlk
      obtain ⟨zk, hzk, zkl, zkh⟩ := reg_at hlk
      have ck : ∀ w', Below v1.heap.size v1 w' → w'.cell? ⟨s1, k, none⟩ = some (.int .i64 zk) := fun w' h => (CV.out.keep h).at k hzk
      have hSd : Below v1.heap.size v1 v1.drew := (Below.refl _ _).drew
      have hAl : ∀ o, Below v1.heap.size v1 (v1.drew.alloc o) := fun o => hSd.alloc (Nat.le_refl _) o
      clear hzk
      have b1 : (0 : Int) ≤ (k : Int) := by omega
      have b2 : (k : Int) < 10 := by omega
      go_wp2_with fail
      go_region_held3 (fun w' => Below v1.heap.size v1 w')
        (first | assumption | exact hAl _)
        (fail)
      refine exit_letter ?_
      intro Y hY
      obtain ⟨g, hg⟩ : ∃ g, v1.heap.size = g := ⟨_, rfl⟩
      rw [hg]
      have RY := Lib.hid (show RowDd Y (some ⟨g, 0, none⟩) 12 (dL (k : Int) (IntKind.u32.wrap (n : Int)) (IntKind.i64.wrap ((k : Int).tmod 2 * 10)) zk ((k : Int).tmod 3) (IntKind.u32.wrap (k : Int))) by
        rw [hY.out, ← hg]
        exact (row_blk (l := dL (k : Int) (IntKind.u32.wrap (n : Int)) (IntKind.i64.wrap ((k : Int).tmod 2 * 10)) zk ((k : Int).tmod 3) (IntKind.u32.wrap (k : Int))) (Blk.new v1 34 _) (dL_ok ⟨by omega, by omega⟩ (wrap_b _) (m_b hlk) ⟨zkl, zkh⟩ (t_b hlk) (wrap_b _))).keep (Below.refl _ _).drew)
      have hS : Below v1.heap.size v1 Y := by rw [hY.out]; exact ((Below.refl _ _).alloc (Nat.le_refl _) _).drew
      have SY := Lib.hid (SV.out.keep hS)
      have BY := Lib.hid (Hk.out.trans (hS.mono Hk.out.size))
      clear hY hg hS ck hSd hAl b1 b2 u2 u3 SV CV Hk
      have ks0 := SY.out.at 0 rfl
      have ks1 := SY.out.at 1 rfl
      have ks2 := SY.out.at 2 rfl
      have ks3 := SY.out.at 3 rfl
      have ks4 := SY.out.at 4 rfl
      have ks5 := SY.out.at 5 rfl
      have ks6 := SY.out.at 6 rfl
      have ks7 := SY.out.at 7 rfl
      have ks8 := SY.out.at 8 rfl
      go_wp2_with fail
      refine (does_any (sN n) _ 12 12 _ Y (sN_ok n) RY.out).mono ?_
      rintro e w5 ⟨rfl, hb⟩
      have B10 := Lib.hid (BY.out.trans (hb.mono BY.out.size))
      clear hb BY RY SY
      go_wp2_with fail
      exact ⟨⟨k + 1, by omega, by go_num, B10.out⟩, by simp [intOf]; omega⟩
    · have u2 : decide ((k : Int) < 10) = false := decide_eq_false (by omega)
      have u3 : decide (k < 10) = false := decide_eq_false hlk
      go_wp2_with fail
      exact ⟨⟨n + 1, by omega, by go_num, BX.out.trans (Hk.out.mono BX.out.size)⟩, by simp [intOf]; omega⟩
  · have u0 : decide ((n : Int) < 96) = false := decide_eq_false (by omega)
    have u1 : decide (n < 96) = false := decide_eq_false hln
    go_wp2_with fail
    obtain ⟨g, hg⟩ : ∃ g, v0.heap.size = g := ⟨_, rfl⟩
    rw [hg]
    refine calls_letter ?_
    intro Y hY
    have RY := Lib.hid (show RowDd Y (some ⟨g, 0, none⟩) 4 eL by rw [hY.out, ← hg]; exact row_blk (l := eL) (Blk.new v0 34 _) eL_ok)
    have BY := Lib.hid (show Below w.heap.size w Y by rw [hY.out]; exact below_al (BW.out.trans (Hb0.out.mono BW.out.size)) _)
    clear hY hg Hb0 BW CS u0 u1 hln hn
    refine (does_any zeroE (some ⟨g, 0, none⟩) 4 4 eL Y zero_okE RY.out).mono ?_
    rintro e w2 ⟨rfl, hb⟩
    have B2 := Lib.hid (BY.out.trans (hb.mono BY.out.size))
    clear hb BY RY
    go_wp2_with fail
    refine (Of_any ⟨0, 0, 1, 0, false, true, false, false, false⟩ w2 busy_okE).mono ?_
    rintro e w3 ⟨⟨b, O, rfl, h1, h2⟩, hb⟩
    have E3 := Lib.hid (show Eng w3 b ⟨0, 0, 1, 0, false, true, false, false, false⟩ O from by simpa [ofE] using h1)
    have B3 := Lib.hid (B2.out.trans (hb.mono B2.out.size))
    clear h1 h2 hb B2
    go_wp2_with fail
    refine (Step_idle b _ O 1 .nilFunc w3 ⟨by omega, by omega⟩ E3.out (.inl rfl)).mono ?_
    rintro e w4 ⟨rfl, hb⟩
    have E4 := Lib.hid (E3.out.keep hb)
    have B4 := Lib.hid (B3.out.trans (hb.mono B3.out.size))
    clear hb E3 B3
    go_wp2_with fail
    refine (State_any b _ O w4 E4.out).mono ?_
    rintro e w5 ⟨rfl, hb⟩
    have B5 := Lib.hid (B4.out.trans (hb.mono B4.out.size))
    clear hb E4 B4
    simp only [stE]
    have hf5 := field5 0 0 1 0 false true false false false
    go_wp2_with fail
    refine (New_any w5).mono ?_
    rintro e w6 ⟨⟨b2, O2, rfl, h1, h2⟩, hb⟩
    have E6 := Lib.hid h1
    have B6 := Lib.hid (B5.out.trans (hb.mono B5.out.size))
    clear h1 h2 hb B5
    go_wp2_with fail
    refine (State_any b2 _ O2 w6 E6.out).mono ?_
    rintro e w7 ⟨rfl, hb⟩
    have B7 := Lib.hid (B6.out.trans (hb.mono B6.out.size))
    clear hb E6 B6
    simp only [stE, zeroE]
    go_wp2_with fail
    obtain ⟨zb, hzb⟩ : ∃ s, w7.heap.size = s := ⟨_, rfl⟩
    rw [hzb]
    refine code_letter ?_
    intro V hV
    have hzl : (w7.alloc (.cells zeroCells 50)).heap.size = zb + 1 := by simp [hzb]
    have NV := Lib.hid (show Non V (.pointer (some ⟨zb, 0, none⟩)) by
      refine .inr ⟨zb, rfl, ?_⟩
      rw [hV.out, ← hzb]
      exact (zero_new w7).keep ((Below.refl _ _).alloc (Nat.le_refl _) _))
    have CP := Lib.hid (show Blk V (zb + 1) 27 [.pointer none, .pointer (some ⟨zb, 0, none⟩)] by
      rw [hV.out, ← hzl]
      exact Blk.new (w7.alloc (.cells zeroCells 50)) 27 [.pointer none, .pointer (some ⟨zb, 0, none⟩)])
    have BV := Lib.hid (show Below w.heap.size w V by
      rw [hV.out]
      exact below_al (below_al B7.out _) _)
    clear hV hzl hzb B7 hf5
    have hmf : ∀ w f r c, (Instr.makeFunc (.func f) r c).run Try.prog w = .ok (.func (.func f) r c) w := fun w f r c => rfl
    go_loopw [8] (fun i wr => ∃ i' : Nat, i' ≤ 2 ∧ i = .int .i64 i' ∧ Below V.heap.size V wr) (fun i _ => 2 - (intOf i).toNat)
    case atStart => exact ⟨0, by omega, rfl, Below.refl _ _⟩
    case round =>
    obtain ⟨k, hk, rfl, hb⟩ := hrel
    have Hb := Lib.hid hb
    clear hb
    by_cases hlk : k < 2
    · have u1 : decide ((k : Int) < 2) = true := decide_eq_true (by omega)
      obtain ⟨v, hv, hN⟩ : ∃ v, [Value.pointer none, .pointer (some ⟨zb, 0, none⟩)][k]? = some v ∧ Non V v := by
        have : k = 0 ∨ k = 1 := by omega
        rcases this with rfl | rfl
        · exact ⟨_, rfl, .inl rfl⟩
        · exact ⟨_, rfl, NV.out⟩
      have q0 := (CP.out.keep Hb.out).at k hv
      have q1 : (0 : Int) ≤ (k : Int) := by omega
      have q2 : (k : Int) < 2 := by omega
      have N0 := Lib.hid (hN.keep Hb.out)
      have hsz : V.heap.size ≤ wr.heap.size := Hb.out.size
      have B0 := Lib.hid (Below.refl wr.heap.size wr)
      clear hv hN
      go_wp2_with fail
      refine (Write_non v 2 1 wr ⟨by omega, by omega⟩ (by omega) N0.out).mono ?_
      rintro e y1 ⟨rfl, hb⟩
      have B1 := Lib.hid (B0.out.trans (hb.mono B0.out.size))
      have N1 := Lib.hid (N0.out.keep hb)
      clear hb
      go_wp2_with fail
      refine (Write_non v 3 257 y1 ⟨by omega, by omega⟩ (by omega) N1.out).mono ?_
      rintro e y2 ⟨rfl, hb⟩
      have B2 := Lib.hid (B1.out.trans (hb.mono B1.out.size))
      have N2 := Lib.hid (N1.out.keep hb)
      clear hb
      go_wp2_with fail
      refine (Read_non v 2 y2 ⟨by omega, by omega⟩ N2.out).mono ?_
      rintro e y3 ⟨rfl, hb⟩
      have B3 := Lib.hid (B2.out.trans (hb.mono B2.out.size))
      have N3 := Lib.hid (N2.out.keep hb)
      clear hb
      go_wp2_with fail
      refine (Read_non v 3 y3 ⟨by omega, by omega⟩ N3.out).mono ?_
      rintro e y4 ⟨rfl, hb⟩
      have B4 := Lib.hid (B3.out.trans (hb.mono B3.out.size))
      have N4 := Lib.hid (N3.out.keep hb)
      clear hb
      go_wp2_with fail
      refine (Line_non v y4 N4.out).mono ?_
      rintro e y5 ⟨rfl, hb⟩
      have B5 := Lib.hid (B4.out.trans (hb.mono B4.out.size))
      have N5 := Lib.hid (N4.out.keep hb)
      clear hb
      go_wp2_with fail
      refine (State_non v y5 N5.out).mono ?_
      rintro e y6 ⟨rfl, hb⟩
      have B6 := Lib.hid (B5.out.trans (hb.mono B5.out.size))
      have N6 := Lib.hid (N5.out.keep hb)
      clear hb
      simp only [stE, zeroE]
      go_wp2_with fail
      refine (Step_non v 0 _ y6 ⟨by omega, by omega⟩ N6.out (.inr ⟨_, _, _, rfl⟩)).mono ?_
      rintro e y7 ⟨rfl, hb⟩
      have B7 := Lib.hid (B6.out.trans (hb.mono B6.out.size))
      have N7 := Lib.hid (N6.out.keep hb)
      clear hb
      go_wp2_with fail
      exact ⟨⟨k + 1, by omega, by go_num, Hb.out.trans (B7.out.mono hsz)⟩, by simp [intOf]; omega⟩
    · obtain rfl : k = 2 := by omega
      go_wp2_with fail
      refine (awake_any _).mono ?_
      rintro e w4 ⟨rfl, hb4⟩
      have hs1 : w.heap.size ≤ V.heap.size := BV.out.size
      have B1 := Lib.hid (BV.out.trans (Hb.out.mono hs1))
      have B4 := Lib.hid (B1.out.trans (hb4.mono B1.out.size))
      clear hb4
      go_wp2_with fail
      go_ret
      exact ⟨rfl, B4.out⟩
end Go.Proofs.Ythpkebcedaakhaa.Dma
