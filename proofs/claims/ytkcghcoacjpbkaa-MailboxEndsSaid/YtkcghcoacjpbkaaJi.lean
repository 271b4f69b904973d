/- The walk of MailboxEnds. -/
import Derived.Test.YtkcghcoacjpbkaaJf
import Derived.Test.YtkcghcoacjpbkaaBn
import Derived.Deep.RegionLaw
namespace Go.Proofs.Ytkcghcoacjpbkaa.Mbox
open Go.RowKit Go.Maps Go.ChangeShapes Go.WideShapes Go.ChangeAt Fifo Orow Word
set_option linter.unusedVariables false

def regL : List Value := [.int .i64 (-9223372036854775808), .int .i64 (-1), .int .i64 0, .int .i64 1, .int .i64 2, .int .i64 3, .int .i64 4, .int .i64 7, .int .i64 8, .int .i64 9223372036854775807]
theorem reg_at {i : Nat} (h : i < 10) : ∃ z, regL[i]? = some (.int .i64 z) ∧ -9223372036854775808 ≤ z ∧ z ≤ 9223372036854775807 := by
  match i, h with
  | 0, _ => exact ⟨_, rfl, by omega⟩
  | 1, _ => exact ⟨_, rfl, by omega⟩
  | 2, _ => exact ⟨_, rfl, by omega⟩
  | 3, _ => exact ⟨_, rfl, by omega⟩
  | 4, _ => exact ⟨_, rfl, by omega⟩
  | 5, _ => exact ⟨_, rfl, by omega⟩
  | 6, _ => exact ⟨_, rfl, by omega⟩
  | 7, _ => exact ⟨_, rfl, by omega⟩
  | 8, _ => exact ⟨_, rfl, by omega⟩
  | 9, _ => exact ⟨_, rfl, by omega⟩
theorem info_d : (Try.prog.info? 32).map (fun i => (i.zero, i.size, i.bytes)) = some (some (.agg #[.int .i64 0, .int .i64 0, .int .u32 0]), 3, 24) := by kernel_rfl
def OkL (d : List Dd) : Prop := ∀ x, x ∈ d → okDd x
theorem okL_row {d : List Dd} (h : OkL d) : ∀ j, j < d.length → okDd d[j]! := fun j hj => by
  rw [getElem!_pos d j hj]
  exact h _ (List.getElem_mem hj)
theorem okL_nil : OkL [] := fun x hx => absurd hx (by simp)
theorem okL_app {d e : List Dd} (h : OkL d) (k : OkL e) : OkL (d ++ e) := fun x hx => (List.mem_append.1 hx).elim (h x) (k x)
theorem ok_mk {p q s : Int} (h1 : -9223372036854775808 ≤ p ∧ p ≤ 9223372036854775807) (h2 : -9223372036854775808 ≤ q ∧ q ≤ 9223372036854775807) (h3 : 0 ≤ s ∧ s < 4294967296) : okDd ⟨p, q, s⟩ := ⟨h1, h2, h3⟩
theorem flDd_app (d e : List Dd) : flDd (d ++ e) = flDd d ++ flDd e := by simp [flDd]
theorem flDd_one (p q s : Int) : flDd [⟨p, q, s⟩] = [.int .i64 p, .int .i64 q, .int .u32 s] := rfl
def d8 (sh n zk zn : Int) : List Dd := [⟨1, 2, sh⟩, ⟨1, 2, n⟩, ⟨2, 0, 5⟩, ⟨0, zk, 0⟩, ⟨1, zk, 7⟩, ⟨1, zn, 9⟩, ⟨0, 0, 0⟩, ⟨1, 3, 1⟩]
theorem d8_ok {sh n zk zn : Int} (h1 : 0 ≤ sh ∧ sh < 4294967296) (h2 : 0 ≤ n ∧ n ≤ 11) (h3 : -9223372036854775808 ≤ zk ∧ zk ≤ 9223372036854775807) (h4 : -9223372036854775808 ≤ zn ∧ zn ≤ 9223372036854775807) : OkL (d8 sh n zk zn) := by
  intro x hx
  simp only [d8, List.mem_cons, List.not_mem_nil, or_false] at hx
  rcases hx with rfl | rfl | rfl | rfl | rfl | rfl | rfl | rfl <;> exact ok_mk ⟨by omega, by omega⟩ ⟨by omega, by omega⟩ ⟨by omega, by omega⟩
set_option maxRecDepth 100000 in
set_option maxHeartbeats 8000000 in
theorem ends_walk (w : World) : Calls Try.prog 4 #[] w fun e w' => e = .returned (.bool true) ∧ Below w.heap.size w w' := by
  obtain ⟨i0, hi, hz0, hz1, hz2⟩ := info_parts info_d
  have Hi := Lib.hid hi
  have Hz0 := Lib.hid hz0
  have Hz1 := Lib.hid hz1
  have Hz2 := Lib.hid hz2
  clear hi hz0 hz1 hz2
  go_enter Try.func4, Try.ntmps4
  go_wp2_with fail
  obtain ⟨s1, hs1⟩ : ∃ s, w.heap.size = s := ⟨_, rfl⟩
  rw [hs1]
  refine code_letter ?_
  intro W hW
  have CS := Lib.hid (show Blk W s1 3 regL by rw [hW.out, ← hs1]; exact Blk.new w 3 regL)
  have BW := Lib.hid (show Below w.heap.size w W by rw [hW.out]; exact (Below.refl _ _).alloc (Nat.le_refl _) _)
  clear hW hs1
  go_loopw [2] (fun n wr => ∃ n' : Nat, n' ≤ 7 ∧ n = .int .i64 n' ∧ Below W.heap.size W wr) (fun n _ => 7 - (intOf n).toNat)
  case atStart => exact ⟨0, by omega, rfl, Below.refl _ _⟩
  case round =>
  obtain ⟨n, hn, rfl, hb⟩ := hrel
  obtain ⟨v0, rfl⟩ : ∃ V : World, V = wr := ⟨_, rfl⟩
  have Hb0 := Lib.hid hb
  clear hb
  by_cases hln : n < 7
  · have u0 : decide ((n : Int) < 7) = true := decide_eq_true (by omega)
    go_wp2_with fail
    go_loopw [3] (fun k wr => ∃ k' : Nat, k' ≤ 10 ∧ k = .int .i64 k' ∧ Below W.heap.size W wr) (fun k _ => 10 - (intOf k).toNat)
    case atStart => exact ⟨0, by omega, rfl, Hb0.out⟩
    case round =>
    clear Hb0
    obtain ⟨k, hk, rfl, hb⟩ := hrel
    obtain ⟨v1, rfl⟩ : ∃ V : World, V = wr := ⟨_, rfl⟩
    have Hb := Lib.hid hb
    have CS1 := Lib.hid (CS.out.keep hb)
    clear hb
    by_cases hlk : k < 10
    · have u1 : decide ((k : Int) < 10) = true := decide_eq_true (by omega)
      go_wp2_with fail
      go_loopw [4, 5] (fun v i wr => ∃ (i' : Nat) (d : List Dd), i' ≤ 7 ∧ i = .int .i64 i' ∧ d.length = i' ∧ OkL d ∧ wr.ownsRow v1.heap.size 32 3 v d.length (flDd d) ∧ Below v1.heap.size v1 wr) (fun _ i _ => 7 - (intOf i).toNat)
      case atStart => exact ⟨0, [], by omega, rfl, rfl, okL_nil, ⟨rfl, .inl ⟨rfl, rfl⟩⟩, Below.refl _ _⟩
      case round =>
      obtain ⟨i, d, hi, rfl, hdl, hok, hown, hb⟩ := hrel
      obtain ⟨v2, rfl⟩ : ∃ V : World, V = wr := ⟨_, rfl⟩
      obtain ⟨dl, hdn⟩ : ∃ q, d.length = q := ⟨_, rfl⟩
      rw [hdn] at hown hdl
      obtain ⟨av, cv, rfl, hcv, hno⟩ := own_shape hown
      have HO := Lib.hid hown
      have Hb1 := Lib.hid hb
      have Hok := Lib.hid hok
      have Hdn := Lib.hid hdn
      have Hdl := Lib.hid hdl
      have hdl7 : dl ≤ 7 := by omega
      clear hown hb hok hcv hno hdn hdl
      by_cases hin : i < n
      · have u2 : decide ((i : Int) < (n : Int)) = true := decide_eq_true (by omega)
        go_wp2_with (with_reducible refine Bench.at_append _ _ _ _ rfl ?_)
        apply Lib.hid
        refine wpList_append_own _ rfl _ _ 22 rfl v1.heap.size 32 i0 (.agg #[.int .i64 0, .int .i64 0, .int .u32 0]) 3 24 Try.underlying22 Hi.out Hz0.out Hz1.out Hz2.out rfl (by decide) (.slice av dl cv) dl (flDd d) rfl (own_keep HO.out ((Below.refl _ _).alloc (Nat.le_refl _) _)) ⟨v2.heap.size, 0, none⟩ 1 1 [.int .i64 1, .int .i64 0, .int .u32 ((i : Int) * 268435457)] rfl rfl (cells_new _ _ _) (by simp [Value.oneCell']) (by unfold maxLen; omega) (by omega) (by have := Hb1.out.size; simp; omega) ?_
        intro v' W5 r1 r2 _
        have hs := Hb1.out.size
        have hoo : Only (PB (.slice av dl cv)) v2 W5 := (Only.of_below ((Below.refl _ _).alloc (Nat.le_refl _) _)).trans (grown_only r2)
        have Hb5 := Lib.hid (Hb1.out.trans (hoo.below hs (fun j hj => (HO.out.lt j hj).1)))
        obtain ⟨av5, cv5, rfl, _, _⟩ := own_shape r1
        obtain ⟨dl5, hdl5⟩ : ∃ q, dl + 1 = q := ⟨_, rfl⟩
        obtain ⟨d5, hd5⟩ : ∃ q, d ++ [⟨1, 0, (i : Int) * 268435457⟩] = q := ⟨_, rfl⟩
        have Hok5 := Lib.hid (show OkL d5 by rw [← hd5]; exact okL_app Hok.out (fun x hx => by rw [List.mem_singleton.1 hx]; exact ok_mk ⟨by omega, by omega⟩ ⟨by omega, by omega⟩ ⟨by omega, by omega⟩))
        have Hdn5 := Lib.hid (show d5.length = dl5 by rw [← hd5, ← hdl5, List.length_append, Hdn.out]; rfl)
        have HO5 := Lib.hid (show W5.ownsRow v1.heap.size 32 3 (.slice av5 dl5 cv5) dl5 (flDd d5) by rw [← hd5, flDd_app, flDd_one, ← hdl5]; exact r1)
        have hdlb5 := Lib.hid (show dl5 = dl + 1 from hdl5.symm)
        rw [hdl5]
        clear r1 r2 hs hoo hdl5 hd5 HO Hb1 Hok Hdn
        go_wp2_with fail
        exact ⟨⟨i + 1, d5, by omega, by go_num, by rw [Hdn5.out, hdlb5.out, Hdl.out], Hok5.out, by rw [Hdn5.out]; exact HO5.out, Hb5.out⟩, by simp [intOf]; omega⟩
      · have u2 : decide ((i : Int) < (n : Int)) = false := decide_eq_false (by omega)
        have u3 : decide (i < n) = false := decide_eq_false hin
        go_wp2_with fail
        go_loopw [4, 6] (fun v q wr => ∃ (q' : Nat) (d : List Dd), q' ≤ 7 ∧ q = .int .i64 q' ∧ d.length ≤ 7 + q' ∧ OkL d ∧ wr.ownsRow v1.heap.size 32 3 v d.length (flDd d) ∧ Below v1.heap.size v1 wr) (fun _ q _ => 7 - (intOf q).toNat)
        case atStart => exact ⟨0, d, by omega, rfl, by rw [Hdn.out]; omega, Hok.out, by rw [Hdn.out]; exact HO.out, Hb1.out⟩
        case round =>
        clear HO Hb1 Hok Hdn Hdl hdl7 u2 u3 hin hi
        obtain ⟨q, d, hq, rfl, hdl, hok, hown, hb⟩ := hrel
        obtain ⟨v2, rfl⟩ : ∃ V : World, V = wr := ⟨_, rfl⟩
        obtain ⟨dl, hdn⟩ : ∃ q, d.length = q := ⟨_, rfl⟩
        rw [hdn] at hown hdl
        obtain ⟨av, cv, rfl, hcv, hno⟩ := own_shape hown
        have HO := Lib.hid hown
        have Hb1 := Lib.hid hb
        have Hok := Lib.hid hok
        have Hdn := Lib.hid hdn
        clear hown hb hok hcv hno hdn
        by_cases hqk : q < k % 7
        · have u2 : decide ((q : Int) < (k : Int) % 7) = true := decide_eq_true (by omega)
          have u3 : decide (q < k % 7) = true := decide_eq_true hqk
          go_wp2_with (with_reducible refine Bench.at_append _ _ _ _ rfl ?_)
          apply Lib.hid
          refine wpList_append_own _ rfl _ _ 22 rfl v1.heap.size 32 i0 (.agg #[.int .i64 0, .int .i64 0, .int .u32 0]) 3 24 Try.underlying22 Hi.out Hz0.out Hz1.out Hz2.out rfl (by decide) (.slice av dl cv) dl (flDd d) rfl (own_keep HO.out ((Below.refl _ _).alloc (Nat.le_refl _) _)) ⟨v2.heap.size, 0, none⟩ 1 1 [.int .i64 0, .int .i64 0, .int .u32 (0)] rfl rfl (cells_new _ _ _) (by simp [Value.oneCell']) (by unfold maxLen; omega) (by omega) (by have := Hb1.out.size; simp; omega) ?_
          intro v' W6 r1 r2 _
          have hs := Hb1.out.size
          have hoo : Only (PB (.slice av dl cv)) v2 W6 := (Only.of_below ((Below.refl _ _).alloc (Nat.le_refl _) _)).trans (grown_only r2)
          have Hb6 := Lib.hid (Hb1.out.trans (hoo.below hs (fun j hj => (HO.out.lt j hj).1)))
          obtain ⟨av6, cv6, rfl, _, _⟩ := own_shape r1
          obtain ⟨dl6, hdl6⟩ : ∃ q, dl + 1 = q := ⟨_, rfl⟩
          obtain ⟨d6, hd6⟩ : ∃ q, d ++ [⟨0, 0, 0⟩] = q := ⟨_, rfl⟩
          have Hok6 := Lib.hid (show OkL d6 by rw [← hd6]; exact okL_app Hok.out (fun x hx => by rw [List.mem_singleton.1 hx]; exact ok_mk ⟨by omega, by omega⟩ ⟨by omega, by omega⟩ ⟨by omega, by omega⟩))
          have Hdn6 := Lib.hid (show d6.length = dl6 by rw [← hd6, ← hdl6, List.length_append, Hdn.out]; rfl)
          have HO6 := Lib.hid (show W6.ownsRow v1.heap.size 32 3 (.slice av6 dl6 cv6) dl6 (flDd d6) by rw [← hd6, flDd_app, flDd_one, ← hdl6]; exact r1)
          have hdlb6 := Lib.hid (show dl6 = dl + 1 from hdl6.symm)
          rw [hdl6]
          clear r1 r2 hs hoo hdl6 hd6 HO Hb1 Hok Hdn
          go_wp2_with fail
          exact ⟨⟨q + 1, d6, by omega, by go_num, by rw [Hdn6.out, hdlb6.out]; omega, Hok6.out, by rw [Hdn6.out]; exact HO6.out, Hb6.out⟩, by simp [intOf]; omega⟩
        · have u2 : decide ((q : Int) < (k : Int) % 7) = false := decide_eq_false (by omega)
          have u3 : decide (q < k % 7) = false := decide_eq_false hqk
          obtain ⟨zk, hzk, zkl, zkh⟩ := reg_at hlk
          obtain ⟨zn, hzn, znl, znh⟩ := reg_at (show n < 10 by omega)
          have ck : ∀ w', Below v1.heap.size v1 w' → w'.cell? ⟨s1, k, none⟩ = some (.int .i64 zk) := fun w' h => (CS1.out.keep h).at k hzk
          have cn : ∀ w', Below v1.heap.size v1 w' → w'.cell? ⟨s1, n, none⟩ = some (.int .i64 zn) := fun w' h => (CS1.out.keep h).at n hzn
          have wn : IntKind.u32.wrap (n : Int) = (n : Int) := IntWalk.u32_in _ (by omega)
          have w3 : IntKind.i64.wrap (3 * (k : Int)) = 3 * (k : Int) := IntWalk.i64_in _ (by omega)
          have b1 : (0 : Int) ≤ (k : Int) := by omega
          have b2 : (k : Int) < 10 := by omega
          have b3 : (0 : Int) ≤ (n : Int) := by omega
          have b4 : (n : Int) < 10 := by omega
          have b5 : (0 : Int) ≤ 3 * (k : Int) := by omega
          have b6 : 3 * (k : Int) < 32 := by omega
          have hs2 : v1.heap.size ≤ v2.heap.size := Hb1.out.size
          have hSd : Below v1.heap.size v1 v2.drew := Hb1.out.drew
          have hAl : ∀ o, Below v1.heap.size v1 (v2.drew.alloc o) := fun o => hSd.alloc hs2 o
          have HOd := Lib.hid (fun o => own_keep HO.out.drew ((Below.refl v2.drew.heap.size v2.drew).alloc (Nat.le_refl _) o))
          have HAl := Lib.hid hAl
          clear hzk hzn
          go_wp2_with fail
          go_region_held3 (fun w' => Below v1.heap.size v1 w')
            (first | assumption | exact hAl _)
            (first
              | (refine (if_pos (by rfl)).mpr ?_; refine wp_append_own _ _ _ 22 rfl v1.heap.size 32 i0 (.agg #[.int .i64 0, .int .i64 0, .int .u32 0]) 3 24 Try.underlying22 Hi.out Hz0.out Hz1.out Hz2.out rfl (by decide) (.slice av dl cv) dl (flDd d) rfl (HOd.out _) ⟨v2.heap.size, 0, none⟩ 8 8 _ rfl rfl (Orow.cells_new _ _ _) (by simp [Value.oneCell']) (by unfold maxLen; omega) (by omega) (by simp; omega) ?_; intro v' W9 r1 r2 _; have hS9 : Below v1.heap.size v1 W9 := (HAl.out _).trans ((grown_only r2).below (by simp; omega) (fun j hj => ((HOd.out (.cells #[] 0)).lt j hj).1))))
          obtain ⟨av9, cv9, rfl, _, _⟩ := own_shape r1
          have R9 := Lib.hid (rowDd_of_own (d := d ++ d8 (IntKind.u32.wrap (2 ^ (3 * (k : Int)).toNat)) n zk zn) (n := dl + 8) (a := av9) (cap := cv9) (B := v1.heap.size) (w := W9) (by rw [List.length_append, Hdn.out]; rfl) (by
            intro j hj
            exact okL_row (okL_app Hok.out (d8_ok (by rw [IntKind.wrap_u32]; exact ⟨Int.emod_nonneg _ (by decide), Int.emod_lt_of_pos _ (by decide)⟩) (by omega) ⟨zkl, zkh⟩ ⟨znl, znh⟩)) j (by rw [List.length_append, Hdn.out]; exact hj)) (by rw [flDd_app]; exact r1))
          have B9 := Lib.hid hS9
          clear r1 r2 hS9 ck cn wn w3 b1 b2 b3 b4 b5 b6 hs2 hSd hAl HOd HAl HO Hb1 Hok Hdn
          go_wp2_with fail
          refine (does_any av9 (dl + 8) cv9 _ W9 R9.out).mono ?_
          rintro e w5 ⟨rfl, hb⟩
          have hs3 := B9.out.size
          have hs4 := Hb.out.size
          have B10 := Lib.hid (Hb.out.trans ((B9.out.trans (hb.mono hs3)).mono hs4))
          clear hb hs3 hs4
          go_wp2_with fail
          exact ⟨⟨k + 1, by omega, by go_num, B10.out⟩, by simp [intOf]; omega⟩
    · have u1 : decide ((k : Int) < 10) = false := decide_eq_false (by omega)
      have u2 : decide (k < 10) = false := decide_eq_false hlk
      go_wp2_with fail
      exact ⟨⟨n + 1, by omega, by go_num, Hb.out⟩, by simp [intOf]; omega⟩
  · have u0 : decide ((n : Int) < 7) = false := decide_eq_false (by omega)
    have u1 : decide (n < 7) = false := decide_eq_false hln
    go_wp2_with fail
    obtain ⟨zb, hzb⟩ : ∃ s, v0.heap.size = s := ⟨_, rfl⟩
    rw [hzb]
    refine code_letter ?_
    intro V hV
    have hzl : (v0.alloc (.cells zeroCells 46)).heap.size = zb + 1 := by simp [hzb]
    have NV := Lib.hid (show Non V (.pointer (some ⟨zb, 0, none⟩)) by
      refine .inr ⟨zb, rfl, ?_⟩
      rw [hV.out, ← hzb]
      exact (zero_new v0).keep ((Below.refl _ _).alloc (Nat.le_refl _) _))
    have CP := Lib.hid (show Blk V (zb + 1) 24 [.pointer none, .pointer (some ⟨zb, 0, none⟩)] by
      rw [hV.out, ← hzl]
      exact Blk.new (v0.alloc (.cells zeroCells 46)) 24 [.pointer none, .pointer (some ⟨zb, 0, none⟩)])
    have BV := Lib.hid (show Below w.heap.size w V by
      have h1 := BW.out.trans (Hb0.out.mono BW.out.size)
      rw [hV.out]
      exact (h1.alloc h1.size _).alloc (by have := h1.size; simp; omega) _)
    clear hV hzl hzb Hb0 CS BW u0 u1 hln hn
    go_loopw [8] (fun i wr => ∃ i' : Nat, i' ≤ 2 ∧ i = .int .i64 i' ∧ Below V.heap.size V wr) (fun i _ => 2 - (intOf i).toNat)
    case atStart => exact ⟨0, by omega, rfl, Below.refl _ _⟩
    case round =>
    obtain ⟨k, hk, rfl, hb⟩ := hrel
    have Hb := Lib.hid hb
    clear hb
    by_cases hlk : k < 2
    · have u1 : decide ((k : Int) < 2) = true := decide_eq_true (by omega)
      obtain ⟨v, hv, hN⟩ : ∃ v, [Value.pointer none, .pointer (some ⟨zb, 0, none⟩)][k]? = some v ∧ Non V v := by
        have : k = 0 ∨ k = 1 := by omega
        rcases this with rfl | rfl
        · exact ⟨_, rfl, .inl rfl⟩
        · exact ⟨_, rfl, NV.out⟩
      have q0 := (CP.out.keep Hb.out).at k hv
      have q1 : (0 : Int) ≤ (k : Int) := by omega
      have q2 : (k : Int) < 2 := by omega
      have N0 := Lib.hid (hN.keep Hb.out)
      have hsz : V.heap.size ≤ wr.heap.size := Hb.out.size
      have B0 := Lib.hid (Below.refl wr.heap.size wr)
      clear hv hN
      go_wp2_with fail
      refine (Write_non v 0 1 wr ⟨by omega, by omega⟩ (by omega) N0.out).mono ?_
      rintro e w1 ⟨rfl, hb⟩
      have B1 := Lib.hid (B0.out.trans (hb.mono B0.out.size))
      have N1 := Lib.hid (N0.out.keep hb)
      clear hb
      go_wp2_with fail
      refine (Write_non v 2 1 w1 ⟨by omega, by omega⟩ (by omega) N1.out).mono ?_
      rintro e w2 ⟨rfl, hb⟩
      have B2 := Lib.hid (B1.out.trans (hb.mono B1.out.size))
      have N2 := Lib.hid (N1.out.keep hb)
      clear hb
      go_wp2_with fail
      refine (State_non v w2 N2.out).mono ?_
      rintro e w3a ⟨⟨a1, c1, rfl⟩, hb⟩
      have B3a := Lib.hid (B2.out.trans (hb.mono B2.out.size))
      have N3a := Lib.hid (N2.out.keep hb)
      obtain ⟨g, hg⟩ : ∃ g, w3a.heap.size = g := ⟨_, rfl⟩
      clear hb
      go_wp2_with (with_reducible refine at_store _ _ _ rfl ?_)
      refine Lib.hid ?_
      have hnew := Blk.new w3a 37 [.slice none 0 0, .int .u32 0, .int .u32 0]
      rw [hg] at hnew
      refine store_all rfl _ _ _ rfl g [.slice a1 0 c1, .int .u32 0, .int .u32 0] rfl rfl _ _ hnew (by kernel_rfl) rfl (by simp [Value.oneCell']) ?_
      intro w3 hX hoX
      have hal := (Below.refl w3a.heap.size w3a).alloc (Nat.le_refl _) (.cells #[.slice none 0 0, .int .u32 0, .int .u32 0] 37)
      have hbX : Below w3a.heap.size w3a w3 := hal.trans (hoX.below hal.size (fun j e => by rw [e, ← hg]; exact Nat.le_refl _))
      have B3 := Lib.hid (B3a.out.trans (hbX.mono B3a.out.size))
      have N3 := Lib.hid (N3a.out.keep hbX)
      have A3 := Lib.hid hX
      clear hX hoX hal hbX hnew hg B3a N3a
      have C3 := Lib.hid (Below.refl w3.heap.size w3)
      go_wp2_with fail
      refine (Read_non v 0 w3 ⟨by omega, by omega⟩ N3.out).mono ?_
      rintro e w4 ⟨rfl, hb⟩
      have B4 := Lib.hid (B3.out.trans (hb.mono B3.out.size))
      have C4 := Lib.hid (C3.out.trans (hb.mono C3.out.size))
      have N4 := Lib.hid (N3.out.keep hb)
      clear hb
      go_wp2_with fail
      refine (Read_non v 1 w4 ⟨by omega, by omega⟩ N4.out).mono ?_
      rintro e w5 ⟨rfl, hb⟩
      have B5 := Lib.hid (B4.out.trans (hb.mono B4.out.size))
      have C5 := Lib.hid (C4.out.trans (hb.mono C4.out.size))
      have N5 := Lib.hid (N4.out.keep hb)
      clear hb
      go_wp2_with fail
      refine (Read_non v 2 w5 ⟨by omega, by omega⟩ N5.out).mono ?_
      rintro e w6 ⟨rfl, hb⟩
      have B6 := Lib.hid (B5.out.trans (hb.mono B5.out.size))
      have C6 := Lib.hid (C5.out.trans (hb.mono C5.out.size))
      have N6 := Lib.hid (N5.out.keep hb)
      clear hb
      go_wp2_with fail
      refine (Line_non v w6 N6.out).mono ?_
      rintro e w7 ⟨rfl, hb⟩
      have B7 := Lib.hid (B6.out.trans (hb.mono B6.out.size))
      have C7 := Lib.hid (C6.out.trans (hb.mono C6.out.size))
      have N7 := Lib.hid (N6.out.keep hb)
      clear hb
      have B37 : Below w3.heap.size w3 w7 := C7.out
      have f0 := (A3.out.keep B37).at 0 rfl
      have f1 := (A3.out.keep B37).at 1 rfl
      have f2 := (A3.out.keep B37).at 2 rfl
      go_wp2_with fail
      refine (Copy_non v w7 N7.out).mono ?_
      rintro e w8 ⟨rfl, hb⟩
      have B8 := Lib.hid (B7.out.trans (hb.mono B7.out.size))
      have N8 := Lib.hid (N7.out.keep hb)
      clear hb
      go_wp2_with fail
      exact ⟨⟨k + 1, by omega, by go_num, Hb.out.trans (B8.out.mono hsz)⟩, by simp [intOf]; omega⟩
    · obtain rfl : k = 2 := by omega
      go_wp2_with fail
      refine (awake_any _).mono ?_
      rintro e w4 ⟨rfl, hb4⟩
      have hs1 : w.heap.size ≤ V.heap.size := BV.out.size
      have B1 := Lib.hid (BV.out.trans (Hb.out.mono hs1))
      have B4 := Lib.hid (B1.out.trans (hb4.mono B1.out.size))
      clear hb4
      go_wp2_with fail
      go_ret
      exact ⟨rfl, B4.out⟩
end Go.Proofs.Ytkcghcoacjpbkaa.Mbox
