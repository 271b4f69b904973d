/- The walk of WindowEnds. (ht: what of laid variables package window needs: in the stand-in nothing.) -/
import Derived.Test.YtfpammfcchboaaaVi
import Derived.Test.YtfpammfcchboaaaVh
namespace Go.Proofs.Ytfpammfcchboaaa.Win
open Go.RowKit Fifo Go.Maps Go.ChangeShapes Go.WideShapes Go.ChangeAt Go.Proofs.Ytfpammfcchboaaa.Access
open Go.Proofs.Ytfpammfcchboaaa.Orow (own_keep own_only own_mono own_blk own_lt own_shape own_put own_pos own_none own_some blk_own own_prefix own_le ba_self ba_some BA pb_ba)
set_option linter.unusedVariables false

def sizL : List Value := [.int .i64 1, .int .i64 2, .int .i64 4]
theorem at_append {P : Program} {ops : Array Oper} {Q : Exit → Act → World → Prop} {rest : List Oper} {op : Oper} {a : Act} {w : World} (x y : Operand) (t u : TypeId) (ho : op.op = .call { callee := .builtin .append, args := #[x, y], argTypes := #[t, u] }) (h : Hid (wpList P ops Q (op :: rest) a w)) : wpList P ops Q (op :: rest) a w := h.out
theorem row_growV {w : World} {B n i : Nat} {v : Value} {d : List Dv} (h1 : 0 ≤ (i : Int)) (h2 : i < 18)
    (h : w.ownsRow B 26 5 v n (flV d ++ [.int .i64 2, .int .u32 (32 * (i : Int)), .int .i64 32, .int .i64 ((i : Int) % 9 - 1), .int .i64 (7 - (i : Int) % 9)])) : ∃ x, okD x ∧ w.ownsRow B 26 5 v n (flV (d ++ [x])) := by
  refine ⟨⟨2, 32 * (i : Int), 32, (i : Int) % 9 - 1, 7 - (i : Int) % 9⟩, ?_, by rw [show flV (d ++ [⟨2, 32 * (i : Int), 32, (i : Int) % 9 - 1, 7 - (i : Int) % 9⟩]) = flV d ++ encV ⟨2, 32 * (i : Int), 32, (i : Int) % 9 - 1, 7 - (i : Int) % 9⟩ by simp [flV]]; exact h⟩
  unfold okD
  refine ⟨⟨?_, ?_⟩, ⟨?_, ?_⟩, ⟨?_, ?_⟩, ⟨?_, ?_⟩, ⟨?_, ?_⟩⟩ <;> (try simp only []) <;> omega
theorem ok_snoc {d : List Dv} {x : Dv} {n : Nat} (hl : d.length = n) (h : ∀ j, j < n → okD d[j]!) (hx : okD x) : ∀ j, j < n + 1 → okD (d ++ [x])[j]! := by
  intro j hj
  by_cases hjn : j < n
  · rw [getElem!_pos (d ++ [x]) j (by simp; omega), List.getElem_append_left (by omega), ← getElem!_pos d j (by omega)]
    exact h j hjn
  · obtain rfl : j = n := by omega
    rw [getElem!_pos (d ++ [x]) j (by simp; omega), List.getElem_append_right (by omega)]
    simp
    exact hx
theorem okD_new {k : Nat} (h : k < 40) : okD ⟨1, 4 * (k : Int), 8, 0, 0⟩ := by
  unfold okD
  refine ⟨⟨?_, ?_⟩, ⟨?_, ?_⟩, ⟨?_, ?_⟩, ⟨?_, ?_⟩, ⟨?_, ?_⟩⟩ <;> (try simp only []) <;> omega
theorem row_two (w : World) {d e : Dv} (hd : okD d) (he : okD e) : RowV (w.alloc (.cells #[.int .i64 d.k, .int .u32 d.B, .int .i64 d.S, .int .i64 d.O, .int .i64 d.L, .int .i64 e.k, .int .u32 e.B, .int .i64 e.S, .int .i64 e.O, .int .i64 e.L] 26)) (some ⟨w.heap.size, 0, none⟩) 2 [d, e] := by
  refine ⟨rfl, fun j hj => ?_, fun j hj => ⟨w.heap.size, 0, rfl, ?_⟩⟩
  · match j, hj with
    | 0, _ => exact hd
    | 1, _ => exact he
  · match j, hj with
    | 0, _ => exact ⟨World.cell?_alloc_at _ _ _ _ rfl, World.cell?_alloc_at _ _ _ _ rfl, World.cell?_alloc_at _ _ _ _ rfl, World.cell?_alloc_at _ _ _ _ rfl, World.cell?_alloc_at _ _ _ _ rfl⟩
    | 1, _ => exact ⟨World.cell?_alloc_at _ _ _ _ rfl, World.cell?_alloc_at _ _ _ _ rfl, World.cell?_alloc_at _ _ _ _ rfl, World.cell?_alloc_at _ _ _ _ rfl, World.cell?_alloc_at _ _ _ _ rfl⟩
set_option maxRecDepth 100000 in
set_option maxHeartbeats 8000000 in
theorem wends_of (w : World) (ht : WT w) :
    Calls Try.prog 4 #[] w fun e w' => e = .returned (.bool true) ∧ Below w.heap.size w w' := by
  have Ht := Lib.hid ht
  clear ht
  go_enter Try.func4, Try.ntmps4
  go_wp2_with fail
  go_loopw [1] (fun i wr => ∃ n : Nat, n ≤ 60 ∧ i = .int .i64 n ∧ Below w.heap.size w wr) (fun i _ => 60 - (intOf i).toNat)
  case atStart => exact ⟨0, by omega, rfl, Below.refl _ _⟩
  case round =>
  obtain ⟨n, hn, rfl, hb⟩ := hrel
  obtain ⟨v1, rfl⟩ : ∃ W : World, W = wr := ⟨_, rfl⟩
  have Hb := Lib.hid hb
  clear hb
  by_cases hlt : n < 60
  · have u1 : decide ((n : Int) < 60) = true := decide_eq_true (by omega)
    go_wp2_with fail
    go_loopw [2] (fun k wr => ∃ k' : Nat, k' ≤ 28 ∧ k = .int .i64 k' ∧ Below v1.heap.size v1 wr) (fun k _ => 28 - (intOf k).toNat)
    case atStart => exact ⟨0, by omega, rfl, Below.refl _ _⟩
    case round =>
    obtain ⟨k, hk, rfl, hb⟩ := hrel
    have Hb2 := Lib.hid hb
    clear hb
    by_cases hlk : k < 28
    · have u2 : decide ((k : Int) < 28) = true := decide_eq_true (by omega)
      go_wp2_with fail
      refine (turned_any n k _ hlt hlk).mono ?_
      rintro e w2 ⟨d, hd, rfl, hb2⟩
      have B2 := Lib.hid (Hb2.out.trans (hb2.mono Hb2.out.size))
      clear hb2
      go_wp2_with fail
      refine (one_any d.k d.B d.S d.O d.L _ hd.1.1 hd.1.2 hd.2.1.1 hd.2.1.2 hd.2.2.1.1 hd.2.2.1.2 (Ht.out.keep (Hb.out.trans (B2.out.mono Hb.out.size)))).mono ?_
      rintro e w3 ⟨rfl, hb3⟩
      have B3 := Lib.hid (B2.out.trans (hb3.mono B2.out.size))
      clear hb3 B2
      go_wp2_with fail
      exact ⟨⟨k + 1, by omega, by go_num, B3.out⟩, by simp [intOf]; omega⟩
    · obtain rfl : k = 28 := by omega
      go_wp2_with fail
      exact ⟨⟨n + 1, by omega, by go_num, Hb.out.trans (Hb2.out.mono Hb.out.size)⟩, by simp [intOf]; omega⟩
  · have u0 : decide ((n : Int) < 60) = false := decide_eq_false (by omega)
    clear hlt hn
    obtain ⟨i0, hi, hz0, hz1, hz2⟩ := info_parts KitDevices.info_e
    have Hi := Lib.hid hi
    have Hz0 := Lib.hid hz0
    have Hz1 := Lib.hid hz1
    have Hz2 := Lib.hid hz2
    clear hi hz0 hz1 hz2
    go_wp2_with fail
    go_loopw [3, 4] (fun v i wr => ∃ (i' : Nat) (d : List Dv), i' ≤ 18 ∧ i = .int .i64 i' ∧ d.length = i' ∧ (∀ j, j < i' → okD d[j]!) ∧ wr.ownsRow v1.heap.size 26 5 v i' (flV d) ∧ Below v1.heap.size v1 wr) (fun _ i _ => 18 - (intOf i).toNat)
    case atStart => exact ⟨0, [], by omega, rfl, rfl, fun j hj => by omega, ⟨rfl, .inl ⟨rfl, rfl⟩⟩, Below.refl _ _⟩
    case round =>
    obtain ⟨i, d, hi, rfl, hdl, hok, hown, hb⟩ := hrel
    obtain ⟨v2, rfl⟩ : ∃ W : World, W = wr := ⟨_, rfl⟩
    obtain ⟨av, cv, rfl, hcv, hno⟩ := own_shape hown
    have HO := Lib.hid hown
    have Hb1 := Lib.hid hb
    have Hok := Lib.hid hok
    have HR := Lib.hid (rowV_of_own hdl hok hown)
    clear hown hb hok
    by_cases hlt2 : i < 18
    · have u1 : decide ((i : Int) < 18) = true := decide_eq_true (by omega)
      go_wp2_with fail
      go_loopw [5, 6] (fun k x wr => ∃ k' : Nat, k' ≤ 12 ∧ k = .int .i64 k' ∧ Below v2.heap.size v2 wr) (fun k _ _ => 12 - (intOf k).toNat)
      case atStart => exact ⟨0, by omega, rfl, Below.refl _ _⟩
      case round =>
      obtain ⟨k, hk, rfl, hb⟩ := hrel
      have Hb2 := Lib.hid hb
      clear hb
      by_cases hlk : k < 12
      · have u2 : decide ((k : Int) < 12) = true := decide_eq_true (by omega)
        have hk3 : k % 3 = 0 ∨ k % 3 = 1 ∨ k % 3 = 2 := by omega
        obtain ⟨z, hz⟩ : ∃ z, sizL[k % 3]? = some (.int .i64 z) := by
          unfold sizL
          rcases hk3 with h | h | h <;> rw [h] <;> exact ⟨_, rfl⟩
        have hcz := (Blk.new wr 3 sizL).at (k % 3) hz
        unfold sizL at hcz
        have B2 := Lib.hid (Hb2.out.alloc Hb2.out.size (.cells sizL.toArray 3))
        unfold sizL at B2
        have HR2 := Lib.hid (HR.out.keep B2.out)
        obtain ⟨A, hA⟩ : ∃ A, (32 * (i : Int) - 6 + (k : Int)) % 4294967296 = A := ⟨_, rfl⟩
        have hA1 : 0 ≤ A ∧ A < 4294967296 := by omega
        have q1 : (0 : Int) ≤ (k : Int) % 3 := by omega
        have q2 : (k : Int) % 3 < 3 := by omega
        go_wp2_with fail
        refine (asks_any av i cv d 0 false A z 0 A _ (by omega) hcv hA1.1 hA1.2 (by omega) (by omega) (Ht.out.keep (Hb.out.trans (Hb1.out.mono Hb.out.size |>.trans (B2.out.mono (Nat.le_trans Hb.out.size Hb1.out.size))))) HR2.out).mono ?_
        rintro e w3 ⟨rfl, hb3⟩
        have B3 := Lib.hid (B2.out.trans (hb3.mono B2.out.size))
        clear hb3 B2 hcz hz HR2
        go_wp2_with fail
        exact ⟨⟨k + 1, by omega, by go_num, B3.out⟩, by simp [intOf]; omega⟩
      · obtain rfl : k = 12 := by omega
        have hle := own_le HO.out
        have HO2 := Lib.hid (own_keep HO.out Hb2.out)
        have hs1 : v1.heap.size ≤ wr.heap.size := Nat.le_trans Hb1.out.size Hb2.out.size
        have Hb3 := Lib.hid (Hb1.out.trans (Hb2.out.mono Hb1.out.size))
        clear HO Hb1 Hb2 HR hk
        go_wp2_with (with_reducible refine at_append _ _ _ _ rfl ?_)
        apply Lib.hid
        refine wpList_append_own _ rfl _ _ 22 rfl v1.heap.size 26 i0 (.agg #[.int .i64 0, .int .u32 0, .int .i64 0, .int .i64 0, .int .i64 0]) 5 40 Try.underlying22 Hi.out Hz0.out Hz1.out Hz2.out rfl (by decide) (.slice av i cv) i (flV d) rfl (HO2.out.alloc _) ⟨wr.heap.size, 0, none⟩ 1 1 [.int .i64 2, .int .u32 (32 * (i : Int)), .int .i64 32, .int .i64 ((i : Int) % 9 - 1), .int .i64 (7 - (i : Int) % 9)] rfl rfl (Orow.cells_new _ _ _) (by simp [Value.oneCell']) (by unfold maxLen; omega) (by omega) (by simp; omega) ?_
        intro v' w5 r1 r2 _
        have R2 := Lib.hid r2
        obtain ⟨x, hx5, hx⟩ := row_growV (by omega) (by omega) r1
        have R1 := Lib.hid hx
        obtain ⟨a5, c5, rfl, hc5, _⟩ := own_shape hx
        have hoo : Only (PB (.slice av i cv)) wr w5 := (Only.of_below ((Below.refl _ _).alloc (Nat.le_refl _) _)).trans (Orow.grown_only R2.out)
        have hbo : Below v1.heap.size wr w5 := hoo.below hs1 (fun j hj => (HO2.out.lt j hj).1)
        have Hb5 := Lib.hid (Hb3.out.trans hbo)
        have hdl5 : (d ++ [x]).length = i + 1 := by simp [hdl]
        have hok5 : ∀ j, j < i + 1 → okD (d ++ [x])[j]! := ok_snoc hdl Hok.out hx5
        clear r1 r2 hx R2 hoo hbo HO2 Hb3
        go_wp2_with fail
        exact ⟨⟨i + 1, d ++ [x], by omega, by go_num, hdl5, hok5, R1.out, Hb5.out⟩, by simp [intOf]; omega⟩
    · have H18 := Lib.hid (show i = 18 by omega)
      have u1 : decide ((i : Int) < 18) = false := decide_eq_false (by omega)
      obtain ⟨g, rfl⟩ := own_some HO.out (.inl (by have := H18.out; omega))
      obtain ⟨b2, o2, hbo2, h2⟩ := HR.out.2.2 2 (by have := H18.out; omega)
      obtain ⟨rfl, rfl⟩ : g = b2 ∧ 0 = o2 := by cases hbo2; exact ⟨rfl, rfl⟩
      have H2 := Lib.hid h2
      have hd2 := Hok.out 2 (by have := H18.out; omega)
      obtain ⟨d2, hd2e⟩ : ∃ x, d[2]! = x := ⟨_, rfl⟩
      rw [hd2e] at H2 hd2
      clear hlt2 hi h2 hd2e hbo2
      go_wp2_with fail
      go_loopw [7] (fun k wr => ∃ k' : Nat, k' ≤ 40 ∧ k = .int .i64 k' ∧ Below v2.heap.size v2 wr) (fun k _ => 40 - (intOf k).toNat)
      case atStart => exact ⟨0, by omega, rfl, Below.refl _ _⟩
      case round =>
      obtain ⟨k, hk, rfl, hb⟩ := hrel
      have Hb2 := Lib.hid hb
      clear hb
      by_cases hlk : k < 40
      · have u2 : decide ((k : Int) < 40) = true := decide_eq_true (by omega)
        have G2 := Lib.hid (H2.out.keep Hb2.out)
        obtain ⟨e0, e1, e2, e3, e4⟩ := G2.out
        have i1 : (2 : Int) < (i : Int) := by have := H18.out; omega
        go_wp2_with fail
        have B2 := Lib.hid (Hb2.out.alloc Hb2.out.size (.cells #[.int .i64 d2.k, .int .u32 d2.B, .int .i64 d2.S, .int .i64 d2.O, .int .i64 d2.L, .int .i64 1, .int .u32 (4 * (k : Int)), .int .i64 8, .int .i64 0, .int .i64 0] 26))
        refine (asks_any _ 2 2 [d2, ⟨1, 4 * (k : Int), 8, 0, 0⟩] 0 false (4 * (k : Int)) 4 0 64 _ (by omega) (by omega) (by omega) (by omega) (by omega) (by omega) (Ht.out.keep (Hb.out.trans (Hb1.out.mono Hb.out.size |>.trans (B2.out.mono (Nat.le_trans Hb.out.size Hb1.out.size))))) (row_two wr hd2 (okD_new hlk))).mono ?_
        rintro e w3 ⟨rfl, hb3⟩
        have B3 := Lib.hid (B2.out.trans (hb3.mono B2.out.size))
        clear hb3 B2 e0 e1 e2 e3 e4 G2
        go_wp2_with fail
        exact ⟨⟨k + 1, by omega, by go_num, B3.out⟩, by simp [intOf]; omega⟩
      · obtain rfl : k = 40 := by omega
        have Hw := Lib.hid (Hb.out.trans ((Hb1.out.trans (Hb2.out.mono Hb1.out.size)).mono Hb.out.size))
        go_wp2_with fail
        refine (asks_any _ 0 0 [] 0 false 0 4 0 0 _ (by omega) (by omega) (by omega) (by omega) (by omega) (by omega) (Ht.out.keep Hw.out) (RowV.nil _)).mono ?_
        rintro e w3 ⟨rfl, hb3⟩
        have B3 := Lib.hid (Hw.out.trans (hb3.mono Hw.out.size))
        clear hb3
        go_wp2_with fail
        refine (awake_any _ (Ht.out.keep B3.out)).mono ?_
        rintro e w4 ⟨rfl, hb4⟩
        have B4 := Lib.hid (B3.out.trans (hb4.mono B3.out.size))
        clear hb4
        go_wp2_with fail
        go_ret
        exact ⟨rfl, B4.out⟩
theorem wends_walk (w : World) : Calls Try.prog 4 #[] w fun e w' => e = .returned (.bool true) ∧ Below w.heap.size w w' := wends_of w trivial
end Go.Proofs.Ytfpammfcchboaaa.Win
