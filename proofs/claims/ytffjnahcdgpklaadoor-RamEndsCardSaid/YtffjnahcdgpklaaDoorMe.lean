/- What is told is written over; the chapter's example. -/
import Derived.Test.YtffjnahcdgpklaaDoorMc
namespace Go.Proofs.YtffjnahcdgpklaaDoor.Ram
open Go.RowKit Go.Maps Go.ChangeShapes Go.WideShapes Go.ChangeAt Fifo Orow Word
set_option linter.unusedVariables false

set_option maxHeartbeats 1000000 in
theorem over_any (B g n c : Nat) (L : List Value) (w : World) (hn : n ≤ 4096) (h : w.ownsRow B 5 1 (.slice (some ⟨g, 0, none⟩) n c) n L) :
    Calls Tryd.prog 19 #[.slice (some ⟨g, 0, none⟩) n c] w fun e w' => e = .returned (.tuple #[]) ∧ Only (fun j => j = g) w w' := by
  have hnc := own_le h
  have hmx := own_max h
  obtain ⟨cur, u1, u2, u3, u4, u5, u6⟩ := own_blk h
  have hcur : cur.length = c := by omega
  have hU := Lib.hid u1
  have hC := Lib.hid hcur
  unfold maxLen at hmx
  have wq : IntKind.i64.wrap ((n : Int) + 12) = (n : Int) + 12 := IntWalk.i64_in _ (by omega)
  clear h u1 u2 u3 u4 u5 u6 hcur
  by_cases hle : (c : Int) ≤ (n : Int) + 12
  · skip
    go_enter Tryd.func19, Tryd.ntmps19
    go_wp2_with fail
    go_loopw [3] (fun i wr => ∃ k : Nat, k ≤ c ∧ i = .int .i64 k ∧ (∃ cur, Blk wr g 5 cur ∧ cur.length = c) ∧ Only (fun j => j = g) w wr) (fun i _ => c - (intOf i).toNat)
    case atStart => exact ⟨0, Nat.zero_le _, rfl, ⟨_, hU.out, hC.out⟩, Only.refl _ _⟩
    case round =>
    clear hU hC
    obtain ⟨k, hk, rfl, ⟨cur2, hu, hc⟩, hon⟩ := hrel
    have HO := Lib.hid hon
    have HU := Lib.hid hu
    have HC := Lib.hid hc
    clear hon hu hc
    by_cases hlt : k < c
    · have d1 : decide ((k : Int) < (c : Int)) = true := decide_eq_true (by omega)
      have i1 : (0 : Int) ≤ (k : Int) := by omega
      have i2 : (k : Int) < (c : Int) := by omega
      obtain ⟨y, hy⟩ : ∃ y, cur2[k]? = some y := ⟨_, List.getElem?_eq_getElem (by rw [HC.out]; omega)⟩
      have q0 := HU.out.at k hy
      have f0 := HU.out.frozen k
      clear hy
      go_wp2_with fail
      refine (KitBytes.mark_any 2 (k : Nat) _ (by omega) (by omega) (by omega) (by omega)).mono ?_
      rintro e w1 ⟨rfl, rfl⟩
      go_wp2_with fail
      refine ⟨⟨k + 1, by omega, by go_num, ⟨_, HU.out.set k _, by rw [List.length_set]; exact HC.out⟩, HO.out.setCell (p := ⟨g, k, none⟩) rfl _⟩, by simp [intOf]; omega⟩
    · have d1 : decide ((k : Int) < (c : Int)) = false := decide_eq_false (by omega)
      have d2 : decide (k < c) = false := decide_eq_false (by omega)
      go_wp2_with fail
      go_end0
      exact ⟨rfl, HO.out⟩
  · have e1 : ((n : Int) + 12).toNat = n + 12 := by omega
    have hc2 : n + 12 ≤ c := by omega
    go_enter Tryd.func19, Tryd.ntmps19
    go_wp2_with fail
    go_loopw [3] (fun i wr => ∃ k : Nat, k ≤ (n + 12) ∧ i = .int .i64 k ∧ (∃ cur, Blk wr g 5 cur ∧ cur.length = c) ∧ Only (fun j => j = g) w wr) (fun i _ => (n + 12) - (intOf i).toNat)
    case atStart => exact ⟨0, Nat.zero_le _, rfl, ⟨_, hU.out, hC.out⟩, Only.refl _ _⟩
    case round =>
    clear hU hC
    obtain ⟨k, hk, rfl, ⟨cur2, hu, hc⟩, hon⟩ := hrel
    have HO := Lib.hid hon
    have HU := Lib.hid hu
    have HC := Lib.hid hc
    clear hon hu hc
    by_cases hlt : k < (n + 12)
    · have d1 : decide ((k : Int) < ((n : Int) + 12)) = true := decide_eq_true (by omega)
      have i1 : (0 : Int) ≤ (k : Int) := by omega
      have i2 : (k : Int) < ((n : Int) + 12) := by omega
      obtain ⟨y, hy⟩ : ∃ y, cur2[k]? = some y := ⟨_, List.getElem?_eq_getElem (by rw [HC.out]; omega)⟩
      have q0 := HU.out.at k hy
      have f0 := HU.out.frozen k
      clear hy
      go_wp2_with fail
      refine (KitBytes.mark_any 2 (k : Nat) _ (by omega) (by omega) (by omega) (by omega)).mono ?_
      rintro e w1 ⟨rfl, rfl⟩
      go_wp2_with fail
      refine ⟨⟨k + 1, by omega, by go_num, ⟨_, HU.out.set k _, by rw [List.length_set]; exact HC.out⟩, HO.out.setCell (p := ⟨g, k, none⟩) rfl _⟩, by simp [intOf]; omega⟩
    · have d1 : decide ((k : Int) < ((n : Int) + 12)) = false := decide_eq_false (by omega)
      have d2 : decide (k < (n + 12)) = false := decide_eq_false (by omega)
      go_wp2_with fail
      go_end0
      exact ⟨rfl, HO.out⟩

/-- The chapter's example. -/
theorem ex_0 : sizeM (8 : Nat) = true := by decide
theorem ex_1 : placeB (zerosB 8).length 2 2 = true := by decide
theorem ex_2 : readV (writeV (zerosB 8) 2 2 (4660 : Int).toNat) 0 4 = 305397760 := by decide
theorem ex_3 : placeB (writeV (zerosB 8) 2 2 (4660 : Int).toNat).length 0 4 = true := by decide
theorem ex_4 : placeB (writeV (zerosB 8) 2 2 (4660 : Int).toNat).length 2 4 = false := by decide
theorem ex_5 : placeB (writeV (zerosB 8) 2 2 (4660 : Int).toNat).length 8 4 = false := by decide
set_option maxHeartbeats 1000000 in
theorem awake_any (w : World) (ht : Lane.Tab w) : Calls Tryd.prog 7 #[] w fun e w' => e = .returned (.bool true) ∧ Below w.heap.size w w' := by
  have i64 : ∀ x : Int, 0 ≤ x → x ≤ 100 → I64 x := fun x h1 h2 => ⟨by omega, by omega⟩
  go_enter Tryd.func7, Tryd.ntmps7
  go_wp2_with fail
  refine (New_yes 8 w ex_0 ht).mono ?_
  rintro e w1 ⟨⟨b, O, rfl, hm, hO⟩, hb1⟩
  have B1 := Lib.hid hb1
  have M1 := Lib.hid hm
  have HO := Lib.hid hO
  clear hb1 hm hO
  go_wp2_with fail
  refine (Write_any b (zerosB 8) O 2 2 4660 true _ (i64 _ (by omega) (by omega)) (i64 _ (by omega) (by omega)) (by omega) (by omega) M1.out ex_1).mono ?_
  rintro e w2 ⟨rfl, O2, hm, ho, hO2⟩
  have B2 := Lib.hid (B1.out.trans (ho.below (Nat.le_trans B1.out.size (Nat.le_refl _)) (fun k hk => HO.out k hk)))
  have M2 := Lib.hid hm
  clear hm ho hO2
  obtain ⟨bs, hbs⟩ : ∃ bs, writeV (zerosB 8) 2 2 (4660 : Int).toNat = bs := ⟨_, rfl⟩
  have x2 := ex_2
  have x3 := ex_3
  have x4 := ex_4
  have x5 := ex_5
  rw [hbs] at M2 x2 x3 x4 x5
  have X2 := Lib.hid x2
  have X3 := Lib.hid x3
  have X4 := Lib.hid x4
  have X5 := Lib.hid x5
  clear hbs x2 x3 x4 x5
  go_wp2_with fail
  refine (Read_any b bs O2 0 4 _ true _ (i64 _ (by omega) (by omega)) (i64 _ (by omega) (by omega)) M2.out X2.out X3.out).mono ?_
  rintro e w3 ⟨rfl, hb⟩
  have B3 := Lib.hid (B2.out.trans (hb.mono B2.out.size))
  have M3 := Lib.hid (M2.out.keep hb)
  clear hb
  go_wp2_with fail
  refine (Read_any b bs O2 2 4 0 false _ (i64 _ (by omega) (by omega)) (i64 _ (by omega) (by omega)) M3.out (read_no X4.out) X4.out).mono ?_
  rintro e w4 ⟨rfl, hb⟩
  have B4 := Lib.hid (B3.out.trans (hb.mono B3.out.size))
  have M4 := Lib.hid (M3.out.keep hb)
  clear hb
  go_wp2_with fail
  refine (Read_any b bs O2 8 4 0 false _ (i64 _ (by omega) (by omega)) (i64 _ (by omega) (by omega)) M4.out (read_no X5.out) X5.out).mono ?_
  rintro e w5 ⟨rfl, hb⟩
  have B5 := Lib.hid (B4.out.trans (hb.mono B4.out.size))
  clear hb
  go_wp2_with fail
  go_ret
  exact ⟨rfl, B5.out⟩
end Go.Proofs.YtffjnahcdgpklaaDoor.Ram
