/- The walk of TableEnds. -/
import Derived.Test.YtmkponhhinjpkaaGreatUe
import Derived.Test.YtmkponhhinjpkaaGreatTs
import Derived.Deep.RegionHeld3
namespace Go.Proofs.YtmkponhhinjpkaaGreat.Table
open Go.RowKit Fifo Go.Maps Go.ChangeShapes Go.WideShapes Go.ChangeAt Go.Proofs.YtmkponhhinjpkaaGreat.Access
open Go.Proofs.YtmkponhhinjpkaaGreat.Orow (own_keep own_only own_mono own_blk own_lt own_shape own_put own_pos own_none own_some blk_own own_prefix own_le ba_self ba_some BA pb_ba)
open Go.Proofs.YtmkponhhinjpkaaGreat.Region (Eight eight_new)
set_option linter.unusedVariables false

theorem row_grow {w : World} {B n : Nat} {v : Value} {d : List Rg} {o : Bool} {W F T : Int} {rd wt : Bool} {K : Int} {lk : Bool}
    (h : w.ownsRow B 37 8 v (n + 1) (flG d ++ [.bool o, .int .i64 W, .int .u32 F, .int .u32 T, .bool rd, .bool wt, .int .i64 K, .bool lk])) : ∃ x, w.ownsRow B 37 8 v (n + 1) (flG (d ++ [x])) :=
  ⟨⟨o, W, F, T, rd, wt, K, lk⟩, by rw [flG_snoc]; exact h⟩
theorem eight_blk {w : World} {g : Nat} {t : TypeId} {o : Bool} {W F T : Int} {rd wt : Bool} {K : Int} {lk : Bool} (h : Blk w g t [.bool o, .int .i64 W, .int .u32 F, .int .u32 T, .bool rd, .bool wt, .int .i64 K, .bool lk]) : ∃ o W F T rd wt K lk, Eight w g o W F T rd wt K lk :=
  ⟨o, W, F, T, rd, wt, K, lk, ⟨h.at 0 rfl, h.at 1 rfl, h.at 2 rfl, h.at 3 rfl, h.at 4 rfl, h.at 5 rfl, h.at 6 rfl, h.at 7 rfl⟩⟩
theorem at_append {P : Program} {ops : Array Oper} {Q : Exit → Act → World → Prop} {rest : List Oper} {op : Oper} {a : Act} {w : World} (x y : Operand) (t u : TypeId) (ho : op.op = .call { callee := .builtin .append, args := #[x, y], argTypes := #[t, u] }) (h : Hid (wpList P ops Q (op :: rest) a w)) : wpList P ops Q (op :: rest) a w := h.out
def numL : List Value := [.int .i64 (-9223372036854775808), .int .i64 (-1), .int .i64 0, .int .i64 1, .int .i64 31, .int .i64 32, .int .i64 9223372036854775807]
set_option maxRecDepth 100000 in
set_option maxHeartbeats 8000000 in
theorem ends_walk (w : World) :
    Calls Tryz.prog 5 #[] w fun e w' => e = .returned (.bool true) ∧ Below w.heap.size w w' := by
  obtain ⟨i0, hi, hz0, hz1, hz2⟩ := info_parts info_g2
  have Hi := Lib.hid hi
  have Hz0 := Lib.hid hz0
  have Hz1 := Lib.hid hz1
  have Hz2 := Lib.hid hz2
  clear hi hz0 hz1 hz2
  obtain ⟨nb, hnb⟩ : ∃ nb, w.heap.size = nb := ⟨_, rfl⟩
  have hN := Blk.new w 3 numL
  rw [hnb] at hN
  have HN := Lib.hid hN
  have B0 := Lib.hid ((Below.refl w.heap.size w).alloc (Nat.le_refl _) (.cells numL.toArray 3))
  have Hnb := Lib.hid hnb
  unfold numL at HN B0
  clear hN
  go_enter Tryz.func5, Tryz.ntmps5
  go_wp2_with fail
  clear hnb
  go_loopw [2, 3] (fun v i wr => ∃ (i' : Nat) (d : List Rg), i' ≤ 34 ∧ i = .int .u32 i' ∧ d.length = i' ∧ wr.ownsRow (nb + 1) 37 8 v i' (flG d) ∧ Blk wr nb 3 numL ∧ Below w.heap.size w wr) (fun _ i _ => 34 - (intOf i).toNat)
  case atStart => exact ⟨0, [], by omega, rfl, rfl, ⟨rfl, .inl ⟨rfl, rfl⟩⟩, HN.out, B0.out⟩
  case round =>
  obtain ⟨i, d, hi, rfl, hdl, hown, hnb, hb⟩ := hrel
  obtain ⟨v1, rfl⟩ : ∃ W : World, W = wr := ⟨_, rfl⟩
  obtain ⟨av, cv, rfl, hcv, hno⟩ := own_shape hown
  have HO := Lib.hid hown
  have HNb := Lib.hid hnb
  have Hb := Lib.hid hb
  have Hno := Lib.hid hno
  clear hown hnb hb hno
  by_cases hlt : i < 34
  · have HR := Lib.hid (rowG_of_own hdl HO.out)
    have u1 : decide ((i : Int) < 34) = true := decide_eq_true (by omega)
    go_wp2_with fail
    go_loopw [4] (fun k wr => ∃ k' : Nat, k' ≤ 7 ∧ k = .int .i64 k' ∧ Below v1.heap.size v1 wr) (fun k _ => 7 - (intOf k).toNat)
    case atStart => exact ⟨0, by omega, rfl, Below.refl _ _⟩
    case round =>
    obtain ⟨k, hk, rfl, hb⟩ := hrel
    have Hb2 := Lib.hid hb
    have hs2 := hb.size
    clear hb
    by_cases hlk : k < 7
    · obtain ⟨g, hg⟩ : ∃ g, wr.heap.size = g := ⟨_, rfl⟩
      have G0 := Blk.new wr 37 [.bool false, .int .i64 0, .int .u32 0, .int .u32 0, .bool false, .bool false, .int .i64 0, .bool false]
      rw [hg] at G0
      have HG := Lib.hid G0
      have hvg : v1.heap.size ≤ g := by rw [← hg]; exact hs2
      have HA := Lib.hid (Hb2.out.alloc hs2 (.cells #[.bool false, .int .i64 0, .int .u32 0, .int .u32 0, .bool false, .bool false, .int .i64 0, .bool false] 37))
      clear G0
      have hk7 : k = 0 ∨ k = 1 ∨ k = 2 ∨ k = 3 ∨ k = 4 ∨ k = 5 ∨ k = 6 := by omega
      go_wp2_with (with_reducible refine Orow.at_store _ _ _ rfl ?_)
      apply Lib.hid
      refine Orow.store_all rfl _ _ _ rfl g [.bool true, .int .i64 ((k : Int) % 2), .int .u32 ((i : Int) * 8), .int .u32 ((i : Int) * 8 + 8), .bool false, .bool false, .int .i64 (k : Int), .bool false] rfl rfl 37 _ HG.out (by kernel_rfl) rfl (by simp [Value.oneCell']) ?_
      intro X hX hoX
      have BX := Lib.hid (HA.out.trans (hoX.below HA.out.size (fun j hj => by rw [hj]; exact hvg)))
      have hXe : Eight X g true ((k : Int) % 2) ((i : Int) * 8) ((i : Int) * 8 + 8) false false k false := ⟨hX.at 0 rfl, hX.at 1 rfl, hX.at 2 rfl, hX.at 3 rfl, hX.at 4 rfl, hX.at 5 rfl, hX.at 6 rfl, hX.at 7 rfl⟩
      have FX := Lib.hid hXe
      obtain ⟨z, hz⟩ : ∃ z, numL[k]? = some (.int .i64 z) := by
        unfold numL
        rcases hk7 with rfl | rfl | rfl | rfl | rfl | rfl | rfl <;> exact ⟨_, rfl⟩
      have hcz := cell_keep BX.out (HNb.out.at k hz)
      have Hcz := Lib.hid hcz
      have k1 : (0 : Int) ≤ (k : Int) := by omega
      have k2 : (k : Int) < 7 := by omega
      clear hX hoX HG HA hg hXe hz hcz
      go_wp2_with fail
      refine wp_region_ext (by kernel_rfl) (by kernel_rfl) ?_
      intro Y hY
      obtain rfl := hY.out
      clear hY
      have HRY := Lib.hid (fun q => (HR.out.keep BX.out).keep (ext_below Y q))
      have y0 := ext_cell FX.out.c0
      have y1 := ext_cell FX.out.c1
      have y2 := ext_cell FX.out.c2
      have y3 := ext_cell FX.out.c3
      have y4 := ext_cell FX.out.c4
      have y5 := ext_cell FX.out.c5
      have y6 := ext_cell FX.out.c6
      have y7 := ext_cell FX.out.c7
      have yz := ext_cell Hcz.out
      try simp only [Act.put]
      repeat (go_big_quiet_step ((first
        | (go_at_call 14; with_reducible exact ext_of (turns_any av i cv d _ true _ _ _ false false _ false _ (by omega) Hno.out (HRY.out _)))
        | (go_at_call 9; with_reducible exact ext_of (asks_any av i cv d 1 _ ((i : Int) * 8 + (k : Int)) _ 0 _ (by omega) hcv (by omega) (by omega) (by omega) (by omega) (HRY.out _))))))
      refine wpQuiet_nil ?_
      intro w9 hw9
      have h9 : Below Y.heap.size Y w9 := by obtain ⟨p9, rfl⟩ := hw9; exact ext_below Y p9
      have H9 := Lib.hid (BX.out.trans (h9.mono BX.out.size))
      clear hw9 h9 y0 y1 y2 y3 y4 y5 y6 y7 yz
      go_wp2_with fail
      exact ⟨⟨k + 1, by omega, by go_num, H9.out⟩, by simp [intOf]; omega⟩
    · obtain rfl : k = 7 := by omega
      have hle := own_le HO.out
      have HO2 := Lib.hid (own_keep HO.out Hb2.out)
      have HN2 := Lib.hid (HNb.out.keep Hb2.out)
      have Hb3 := Lib.hid (Hb.out.trans (Hb2.out.mono Hb.out.size))
      clear HO HNb Hb HR hk
      obtain ⟨bz, hbz⟩ : ∃ bz, ((i : Int) % 5 == 0) = bz := ⟨_, rfl⟩
      have l1 : (0 : Int) ≤ (i : Int) := by omega
      have l2 : (i : Int) < (i : Int) + 1 := by omega
      go_wp2_with (with_reducible refine at_append _ _ _ _ rfl ?_)
      apply Lib.hid
      refine wpList_append_own _ rfl _ _ 22 rfl (nb + 1) 37 i0 (.agg #[.bool false, .int .i64 0, .int .u32 0, .int .u32 0, .bool false, .bool false, .int .i64 0, .bool false]) 8 48 Tryz.underlying22 Hi.out Hz0.out Hz1.out Hz2.out rfl (by decide) (.slice av i cv) i (flG d) rfl (HO2.out.alloc _) ⟨wr.heap.size, 0, none⟩ 1 1 [.bool (decide (0 < (i : Int) % 5)), .int .i64 1, .int .u32 ((i : Int) * 8), .int .u32 ((i : Int) * 8 + 19), .bool ((i : Int) % 2 == 0), .bool ((i : Int) % 3 == 0), .int .i64 ((i : Int) % 4), .bool ((i : Int) % 7 == 6)] rfl rfl (Orow.cells_new _ _ _) (by simp [Value.oneCell']) (by unfold maxLen; omega) (by omega) (by simp; have := HN2.out.lt; omega) ?_
      intro v' w5 r1 r2 _
      have R2 := Lib.hid r2
      obtain ⟨x, hx⟩ := row_grow r1
      have R1 := Lib.hid hx
      obtain ⟨a5, c5, rfl, hc5, _⟩ := own_shape hx
      have hoo : Only (PB (.slice av i cv)) wr w5 := (Only.of_below ((Below.refl _ _).alloc (Nat.le_refl _) _)).trans (Orow.grown_only R2.out)
      have hbo : Below (nb + 1) wr w5 := hoo.below (by have := HN2.out.lt; omega) (fun j hj => (HO2.out.lt j hj).1)
      have HN5 := Lib.hid (show Blk w5 nb 3 numL from (hbo.block nb (by omega)).trans HN2.out)
      have Hb5 := Lib.hid (Hb3.out.trans (hbo.mono (by have := Hnb.out; omega)))
      have hdl5 : (d ++ [x]).length = i + 1 := by simp [hdl]
      clear r1 r2 hx R2 hoo hbo HO2 HN2 Hb3
      cases bz with
      | false =>
        go_wp2_with fail
        exact ⟨⟨i + 1, d ++ [x], by omega, by go_num, hdl5, R1.out, HN5.out, Hb5.out⟩, by simp [intOf]; omega⟩
      | true =>
        obtain ⟨g, rfl⟩ := own_some R1.out (.inl (by omega))
        go_wp2_with (with_reducible refine Orow.at_store _ _ _ rfl ?_)
        apply Lib.hid
        obtain ⟨cur, u1, u2, u3, u4, u5, u6⟩ := own_blk R1.out
        have hfit : i * 8 + 8 ≤ cur.length := by omega
        refine Orow.store_at rfl _ _ _ rfl g (i * 8) [.bool false, .int .i64 0, .int .u32 0, .int .u32 0, .bool false, .bool false, .int .i64 0, .bool false] rfl rfl 37 cur u1 (by kernel_rfl) (by simpa using hfit) (by simp [Value.oneCell']) ?_
        intro Y hY hoY
        have hrow2 := own_put R1.out u1 (Nat.lt_succ_self i) rfl hY
        rw [show [.bool false, .int .i64 0, .int .u32 0, .int .u32 0, .bool false, .bool false, .int .i64 0, .bool false] = encG zero from rfl] at hrow2
        have e8 : (encG zero).length = 8 := rfl
        rw [e8, flG_put (by omega)] at hrow2
        have R2 := Lib.hid hrow2
        have hby : Below (nb + 1) w5 Y := hoY.below (by have := HN5.out.lt; omega) (fun j hj => by rw [hj]; exact u6)
        have HN6 := Lib.hid (show Blk Y nb 3 numL from (hby.block nb (by omega)).trans HN5.out)
        have Hb6 := Lib.hid (Hb5.out.trans (hby.mono (by have := Hnb.out; omega)))
        clear hY hoY hrow2 u1 u2 u3 hby
        go_wp2_with fail
        exact ⟨⟨i + 1, _, by omega, by go_num, by rw [List.length_set]; exact hdl5, R2.out, HN6.out, Hb6.out⟩, by simp [intOf]; omega⟩
  · have H34 := Lib.hid (show i = 34 by omega)
    have u1 : decide ((i : Int) < 34) = false := decide_eq_false (by omega)
    obtain ⟨g, rfl⟩ := own_some HO.out (.inl (by have := H34.out; omega))
    have HR := Lib.hid ((rowG_of_own hdl HO.out).take (k := 32) (by have := H34.out; omega))
    have c0 : 32 ≤ cv := by omega
    clear hlt hi
    go_wp2_with fail
    go_loopw [6] (fun i wr => ∃ t : Nat, t ≤ 10 ∧ i = .int .i64 ((t : Int) - 1) ∧ Below v1.heap.size v1 wr) (fun i _ => (9 - intOf i).toNat)
    case atStart => exact ⟨0, by omega, rfl, Below.refl _ _⟩
    case round =>
    obtain ⟨t, ht, rfl, hb⟩ := hrel
    obtain ⟨v2, rfl⟩ : ∃ W : World, W = wr := ⟨_, rfl⟩
    have Hb2 := Lib.hid hb
    clear hb
    by_cases hlt2 : t < 10
    · obtain ⟨x, hx⟩ : ∃ x, (t : Int) - 1 = x := ⟨_, rfl⟩
      have Hx := Lib.hid hx
      rw [hx]
      clear hx
      have t1 : decide (x < 9) = true := decide_eq_true (by have := Hx.out; omega)
      have wq : IntKind.i64.wrap (x + 1) = x + 1 := IntWalk.i64_in _ (by have := Hx.out; omega)
      have HR2 := Lib.hid (HR.out.keep Hb2.out)
      obtain ⟨L, hL⟩ : ∃ L, mapL (d.take 32) x = L := ⟨_, rfl⟩
      obtain ⟨l, hl⟩ : ∃ l, L.length = l := ⟨_, rfl⟩
      have hl6 : l ≤ 1000000 := by rw [← hl, ← hL]; have := mapL_length (d.take 32) x; rw [List.length_take] at this; omega
      have HL := Lib.hid hL
      have Hl := Lib.hid hl
      have c1 : (32 : Int) ≤ (cv : Int) := by omega
      have c2 := c0
      clear hL hl
      go_wp2_with fail
      go_region_held3 (fun w' => Below v2.heap.size v2 w')
        (first | assumption | exact (Below.refl _ _).drew)
        (first
          | (go_at_call 8; refine (Map_any _ 32 cv (d.take 32) x _ (by omega) c2 (HR2.out.keep (by assumption))).mono ?_; rintro e w2 ⟨u2, rfl, hu2, hb2⟩; have hS2 : Below v2.heap.size v2 w2 := Below.trans (by assumption) (Below.mono hb2 (Below.size (by assumption))); rw [HL.out, Hl.out] at hu2; obtain ⟨a2, k2, rfl, _, _⟩ := own_shape hu2; have hrr2 := rowG_of_own Hl.out hu2)
          | (go_at_call 11; refine (tMap_any _ 32 cv (d.take 32) x _ (by omega) (HR2.out.keep (by assumption))).mono ?_; rintro e w3 ⟨u3, rfl, hu3, hb3⟩; have hS3 : Below v2.heap.size v2 w3 := Below.trans (by assumption) (Below.mono hb3 (Below.size (by assumption))); rw [HL.out, Hl.out] at hu3; obtain ⟨a3, k3, rfl, _, _⟩ := own_shape hu3; have hrr3 := rowG_of_own Hl.out hu3)
          | (go_at_call 10; refine (same_any a2 a3 l k2 k3 L _ hl6 (RowG.keep hrr2 hb3) hrr3).mono ?_; rintro e w4 ⟨rfl, hb4⟩; have hS4 : Below v2.heap.size v2 w4 := Below.trans (by assumption) (Below.mono hb4 (Below.size (by assumption)))))
      all_goals (
        have H9 := Lib.hid (Hb2.out.trans (hS4.mono Hb2.out.size))
        clear hS4 hb4 hrr2 hrr3
        go_wp2_with fail
        exact ⟨⟨t + 1, by omega, by rw [show ((t + 1 : Nat) : Int) - 1 = x + 1 by have := Hx.out; omega], H9.out⟩, by simp [intOf]; have := Hx.out; omega⟩)
    · obtain rfl : t = 10 := by omega
      go_wp2_with fail
      refine (awake_any _).mono ?_
      rintro e w3 ⟨rfl, hb3⟩
      have H9 := Lib.hid (Hb.out.trans ((Hb2.out.trans (hb3.mono Hb2.out.size)).mono Hb.out.size))
      clear hb3
      go_wp2_with fail
      go_ret
      exact ⟨rfl, H9.out⟩
end Go.Proofs.YtmkponhhinjpkaaGreat.Table
