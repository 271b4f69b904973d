/- Package scrub: the hold of a device; what may be done to a hold, what becomes of it. -/
import Derived.Test.YtmdepkehpohgeaaGreatS6wd
import Derived.Test.YtmdepkehpohgeaaGreatS6wt
import Derived.Test.YtmdepkehpohgeaaGreatBa
namespace Go.Proofs.YtmdepkehpohgeaaGreat.Scr
open Go.RowKit Go.Maps Go.ChangeShapes Go.WideShapes Go.ChangeAt Fifo Orow Word
set_option linter.unusedVariables false
attribute [local go_sem] Oper.semAt_some

theorem at_no (n : Int) (a : Option Addr) (m c : Nat) (w : World) (hn : n < 0 ∨ (m : Int) ≤ n) :
    Calls Tryz.prog 42 #[.slice a m c, .int .i64 n] w fun e w' => e = .returned (.tuple #[.agg #[.int .i64 0, .int .i64 0, .int .i64 0, .int .i64 0], .bool false]) ∧ Below w.heap.size w w' := by
  have hb := Blk.new w 81 [.int .i64 0, .int .i64 0, .int .i64 0, .int .i64 0]
  have r0 := hb.at 0 rfl
  have r1 := hb.at 1 rfl
  have r2 := hb.at 2 rfl
  have r3 := hb.at 3 rfl
  clear hb
  by_cases h0 : n < 0
  · have d1 : decide (n < 0) = true := decide_eq_true h0
    clear hn h0
    go_enter Tryz.func42, Tryz.ntmps42
    go_wp2_with fail
    refine bodyPost_ret (v := .tuple #[.agg #[.int .i64 0, .int .i64 0, .int .i64 0, .int .i64 0], .bool false]) ?_ rfl ⟨rfl, (Below.refl _ _).alloc (Nat.le_refl _) _⟩
    simp [results, Tryz.results42, go_sem]
  · have d1 : decide (n < 0) = false := decide_eq_false h0
    have d2 : decide ((m : Int) ≤ n) = true := decide_eq_true (hn.resolve_left h0)
    clear hn h0
    go_enter Tryz.func42, Tryz.ntmps42
    go_wp2_with fail
    refine bodyPost_ret (v := .tuple #[.agg #[.int .i64 0, .int .i64 0, .int .i64 0, .int .i64 0], .bool false]) ?_ rfl ⟨rfl, (Below.refl _ _).alloc (Nat.le_refl _) _⟩
    simp [results, Tryz.results42, go_sem]
theorem at_yes (g k m c : Nat) (o l nn kk : Int) (w : World) (hk : k < m) (h : AtHk w g (k * 4) ⟨o, l, nn, kk⟩) :
    Calls Tryz.prog 42 #[.slice (some ⟨g, 0, none⟩) m c, .int .i64 (k : Nat)] w fun e w' => e = .returned (.tuple #[.agg #[.int .i64 o, .int .i64 l, .int .i64 nn, .int .i64 kk], .bool true]) ∧ Below w.heap.size w w' := by
  have hb := Blk.new w 81 [.int .i64 o, .int .i64 l, .int .i64 nn, .int .i64 kk]
  have r0 := hb.at 0 rfl
  have r1 := hb.at 1 rfl
  have r2 := hb.at 2 rfl
  have r3 := hb.at 3 rfl
  have H := Lib.hid h
  have hal : ∀ O, AtHk (w.alloc O) g (k * 4) ⟨o, l, nn, kk⟩ := fun O => h.keep ((Below.refl _ _).alloc (Nat.le_refl _) O)
  have c0 := fun O => (hal O).c0
  have c1 := fun O => (hal O).c1
  have c2 := fun O => (hal O).c2
  have c3 := fun O => (hal O).c3
  have d1 : decide ((k : Int) < 0) = false := decide_eq_false (by omega)
  have d2 : decide ((m : Int) ≤ (k : Int)) = false := decide_eq_false (by omega)
  have d3 : decide (m ≤ k) = false := decide_eq_false (by omega)
  have i1 : (0 : Int) ≤ (k : Int) := by omega
  have i2 : (k : Int) < (m : Int) := by omega
  clear hb h hal hk
  go_enter Tryz.func42, Tryz.ntmps42
  go_wp2_with fail
  refine bodyPost_ret (v := .tuple #[.agg #[.int .i64 o, .int .i64 l, .int .i64 nn, .int .i64 kk], .bool true]) ?_ rfl ⟨rfl, (Below.refl _ _).alloc (Nat.le_refl _) _⟩
  simp [results, Tryz.results42, go_sem]
theorem free_num (w : World) : Calls Tryz.prog 64 #[] w fun e w' => e = .returned (.agg #[.int .i64 (-1), .int .i64 0, .int .i64 (-1)]) ∧ Below w.heap.size w w' := free_any' w
def giveE (o l n : Int) : Int := if (⟨o, l, n⟩ : Hd) = freeH then 0 else 14
def takeE (o l n : Int) : Int := if (⟨o, l, n⟩ : Hd) = freeH then 5 else if 0 < l then 14 else 0
theorem mayGive_any (o l n k : Int) (w : World) :
    Calls Tryz.prog 47 #[.agg #[.int .i64 o, .int .i64 l, .int .i64 n, .int .i64 k]] w fun e w' => e = .returned (.int .i64 (giveE o l n)) ∧ Below w.heap.size w w' := by
  have hb := Blk.new w 81 [.int .i64 o, .int .i64 l, .int .i64 n, .int .i64 k]
  have e0 := ext_cell (hb.at 0 rfl)
  have e1 := ext_cell (hb.at 1 rfl)
  have e2 := ext_cell (hb.at 2 rfl)
  have B0 := Lib.hid ((Below.refl w.heap.size w).alloc (Nat.le_refl _) (.cells #[.int .i64 o, .int .i64 l, .int .i64 n, .int .i64 k] 81))
  have ne : ∀ w : World, (binOp .neq 52 (.agg #[.int .i64 o, .int .i64 l, .int .i64 n]) (.agg #[.int .i64 (-1), .int .i64 0, .int .i64 (-1)])).run Tryz.prog w = .ok (.bool (!eqH ⟨o, l, n⟩ freeH)) w := fun w => run_neH ⟨o, l, n⟩ freeH w
  obtain ⟨q, hq⟩ : ∃ q, eqH ⟨o, l, n⟩ freeH = q := ⟨_, rfl⟩
  rw [hq] at ne
  have hE : giveE o l n = if q then 0 else 14 := by
    unfold giveE
    cases q
    · rw [if_neg (fun h => by rw [eqH_iff.2 h] at hq; cases hq)]; rfl
    · rw [if_pos (eqH_iff.1 hq)]; rfl
  rw [hE]
  clear hb hq hE
  cases q
  all_goals
    go_enter Tryz.func47, Tryz.ntmps47
    go_wp2_with fail
    refine wp_region_ext (by kernel_rfl) (by kernel_rfl) ?_
    intro Y hY
    obtain rfl := hY.out
    repeat (go_big_quiet_step ((go_at_call 64; with_reducible exact ext_of (free_num _))))
    refine wpQuiet_nil ?_
    intro w9 hw9
    have h9 : Below (w.alloc (.cells #[.int .i64 o, .int .i64 l, .int .i64 n, .int .i64 k] 81)).heap.size (w.alloc (.cells #[.int .i64 o, .int .i64 l, .int .i64 n, .int .i64 k] 81)) w9 := by obtain ⟨p9, rfl⟩ := hw9; exact ext_below _ p9
    have H9 := Lib.hid (B0.out.trans (h9.mono B0.out.size))
    clear hw9 h9 e0 e1 e2
    go_wp2_with fail
    go_ret
    exact ⟨rfl, H9.out⟩
theorem mayTake_any (o l n k : Int) (w : World) :
    Calls Tryz.prog 65 #[.agg #[.int .i64 o, .int .i64 l, .int .i64 n, .int .i64 k]] w fun e w' => e = .returned (.int .i64 (takeE o l n)) ∧ Below w.heap.size w w' := by
  have hb := Blk.new w 81 [.int .i64 o, .int .i64 l, .int .i64 n, .int .i64 k]
  have HB := Lib.hid hb
  have e0 := ext_cell (hb.at 0 rfl)
  have e1 := ext_cell (hb.at 1 rfl)
  have e2 := ext_cell (hb.at 2 rfl)
  have B0 := Lib.hid ((Below.refl w.heap.size w).alloc (Nat.le_refl _) (.cells #[.int .i64 o, .int .i64 l, .int .i64 n, .int .i64 k] 81))
  have eq : ∀ w : World, (binOp .eql 52 (.agg #[.int .i64 o, .int .i64 l, .int .i64 n]) (.agg #[.int .i64 (-1), .int .i64 0, .int .i64 (-1)])).run Tryz.prog w = .ok (.bool (eqH ⟨o, l, n⟩ freeH)) w := fun w => run_eqH ⟨o, l, n⟩ freeH w
  obtain ⟨q, hq⟩ : ∃ q, eqH ⟨o, l, n⟩ freeH = q := ⟨_, rfl⟩
  rw [hq] at eq
  obtain ⟨sb, hsb⟩ : ∃ sb, decide (0 < l) = sb := ⟨_, rfl⟩
  have SC := Lib.hid (fun w => scrubbed_any o l n k w)
  rw [hsb] at SC
  have hE : takeE o l n = if q then 5 else if sb then 14 else 0 := by
    unfold takeE
    cases q
    · rw [if_neg (fun h => by rw [eqH_iff.2 h] at hq; cases hq)]
      cases sb
      · rw [if_neg (of_decide_eq_false hsb)]; rfl
      · rw [if_pos (of_decide_eq_true hsb)]; rfl
    · rw [if_pos (eqH_iff.1 hq)]; rfl
  rw [hE]
  clear hb hq hE hsb
  cases q
  all_goals
    go_enter Tryz.func65, Tryz.ntmps65
    go_wp2_with fail
    refine wp_region_ext (by kernel_rfl) (by kernel_rfl) ?_
    intro Y hY
    obtain rfl := hY.out
    repeat (go_big_quiet_step ((go_at_call 64; with_reducible exact ext_of (free_num _))))
    refine wpQuiet_nil ?_
    intro w9 hw9
    have h9 : Below (w.alloc (.cells #[.int .i64 o, .int .i64 l, .int .i64 n, .int .i64 k] 81)).heap.size (w.alloc (.cells #[.int .i64 o, .int .i64 l, .int .i64 n, .int .i64 k] 81)) w9 := by obtain ⟨p9, rfl⟩ := hw9; exact ext_below _ p9
    have H9 := Lib.hid (B0.out.trans (h9.mono B0.out.size))
    have z0 := (HB.out.keep h9).at 0 rfl
    have z1 := (HB.out.keep h9).at 1 rfl
    have z2 := (HB.out.keep h9).at 2 rfl
    have z3 := (HB.out.keep h9).at 3 rfl
    clear hw9 h9 e0 e1 e2 hY
  · cases sb
    all_goals
      go_wp2_with fail
      refine (SC.out _).mono ?_
      rintro e w2 ⟨rfl, hb2⟩
      have H2 := Lib.hid (H9.out.trans (hb2.mono H9.out.size))
      clear hb2 z0 z1 z2 z3
      go_wp2_with fail
      go_ret
      exact ⟨rfl, H2.out⟩
  · go_wp2_with fail
    go_ret
    exact ⟨rfl, H9.out⟩
set_option maxHeartbeats 1000000 in
theorem taken_any (o l n k x : Int) (w : World) (hk : I64 k) :
    Calls Tryz.prog 67 #[.agg #[.int .i64 o, .int .i64 l, .int .i64 n, .int .i64 k], .int .i64 x] w fun e w' => e = .returned (.agg #[.int .i64 (-1), .int .i64 (timeV k), .int .i64 x]) ∧ Below w.heap.size w w' := by
  have TM := Lib.hid (fun w => Time_any k w hk)
  obtain ⟨tv, htv⟩ : ∃ tv, timeV k = tv := ⟨_, rfl⟩
  rw [htv] at TM ⊢
  clear htv hk
  obtain ⟨M, hM⟩ : ∃ M, M = (w.alloc (.cells #[.int .i64 o, .int .i64 l, .int .i64 n, .int .i64 k] 81)).alloc (.cells #[.int .i64 0, .int .i64 0, .int .i64 0] 52) := ⟨_, rfl⟩
  have BM := Lib.hid (show Below w.heap.size w M by rw [hM]; exact ((Below.refl _ _).alloc (Nat.le_refl _) _).alloc (by simp) _)
  obtain ⟨g, hg⟩ : ∃ g, w.heap.size + 1 = g := ⟨_, rfl⟩
  have HGW := Lib.hid (show w.heap.size ≤ g by omega)
  have Z0 := Lib.hid (show Blk M g 52 [.int .i64 0, .int .i64 0, .int .i64 0] by
    rw [hM, ← hg]
    have := Blk.new (w.alloc (.cells #[.int .i64 o, .int .i64 l, .int .i64 n, .int .i64 k] 81)) 52 [.int .i64 0, .int .i64 0, .int .i64 0]
    rwa [World.size_alloc] at this)
  have HM := Lib.hid hM
  rw [hM] at Z0
  clear hM
  have Z0 := Lib.hid (show Blk M g 52 [.int .i64 0, .int .i64 0, .int .i64 0] by rw [HM.out]; exact Z0.out)
  go_enter Tryz.func67, Tryz.ntmps67
  go_wp2_with fail
  refine (TM.out _).mono ?_
  rintro e w1 ⟨rfl, hb⟩
  rw [← HM.out] at hb
  have B1 := Lib.hid (BM.out.trans (hb.mono BM.out.size))
  have Z1 := Lib.hid (Z0.out.keep hb)
  have S1 := Lib.hid hb.size
  clear hb
  go_wp2_with (with_reducible refine at_st 52 _ _ rfl ?_)
  refine Lib.hid ?_
  refine store_all rfl _ _ _ rfl g [.int .i64 (-1), .int .i64 tv, .int .i64 x] rfl rfl _ _ Z1.out (by kernel_rfl) rfl (by simp [Value.oneCell']) ?_
  intro X hX hoX
  go_wp2_with fail
  have r0 := hX.at 0 rfl
  have r1 := hX.at 1 rfl
  have r2 := hX.at 2 rfl
  refine bodyPost_ret (v := .agg #[.int .i64 (-1), .int .i64 tv, .int .i64 x]) ?_ rfl ⟨rfl, B1.out.trans (hoX.below (by have := S1.out; have := BM.out.size; omega) (fun j e => by have e : j = g := e; have := HGW.out; omega))⟩
  simp [results, Tryz.results67, go_sem, r0, r1, r2]
set_option maxHeartbeats 1000000 in
theorem give1_any (o l n k x : Int) (q : Nat) (w : World) (h : w.cell? ⟨q, 0, none⟩ = some (.int .i64 x)) :
    Calls Tryz.prog 48 #[.agg #[.int .i64 o, .int .i64 l, .int .i64 n, .int .i64 k], .pointer (some ⟨q, 0, none⟩)] w fun e w' => e = .returned (.agg #[.int .i64 x, .int .i64 0, .int .i64 (-1)]) ∧ Below w.heap.size w w' := by
  have HD : Hid (∀ w, Calls Tryz.prog 49 #[.int .i64 x] w fun e w' => e = .returned (.agg #[.int .i64 x, .int .i64 0, .int .i64 (-1)]) ∧ Below w.heap.size w w') := Lib.hid (fun w => had_any x w)
  obtain ⟨M, hM⟩ : ∃ M, M = (w.alloc (.cells #[.int .i64 o, .int .i64 l, .int .i64 n, .int .i64 k] 81)).alloc (.cells #[.int .i64 0, .int .i64 0, .int .i64 0] 52) := ⟨_, rfl⟩
  have BM := Lib.hid (show Below w.heap.size w M by rw [hM]; exact ((Below.refl _ _).alloc (Nat.le_refl _) _).alloc (by simp) _)
  obtain ⟨g, hg⟩ : ∃ g, w.heap.size + 1 = g := ⟨_, rfl⟩
  have HGW := Lib.hid (show w.heap.size ≤ g by omega)
  have Z0 := Lib.hid (show Blk M g 52 [.int .i64 0, .int .i64 0, .int .i64 0] by
    rw [hM, ← hg]
    have := Blk.new (w.alloc (.cells #[.int .i64 o, .int .i64 l, .int .i64 n, .int .i64 k] 81)) 52 [.int .i64 0, .int .i64 0, .int .i64 0]
    rwa [World.size_alloc] at this)
  have HM := Lib.hid hM
  rw [hM] at Z0
  clear hM
  have Z0 := Lib.hid (show Blk M g 52 [.int .i64 0, .int .i64 0, .int .i64 0] by rw [HM.out]; exact Z0.out)
  have q0 := cell_keep BM.out h
  rw [HM.out] at q0
  clear h
  go_enter Tryz.func48, Tryz.ntmps48
  go_wp2_with fail
  refine (HD.out _).mono ?_
  rintro e w1 ⟨rfl, hb⟩
  rw [← HM.out] at hb
  have B1 := Lib.hid (BM.out.trans (hb.mono BM.out.size))
  have Z1 := Lib.hid (Z0.out.keep hb)
  have S1 := Lib.hid hb.size
  clear hb
  go_wp2_with (with_reducible refine at_st 52 _ _ rfl ?_)
  refine Lib.hid ?_
  refine store_all rfl _ _ _ rfl g [.int .i64 x, .int .i64 0, .int .i64 (-1)] rfl rfl _ _ Z1.out (by kernel_rfl) rfl (by simp [Value.oneCell']) ?_
  intro X hX hoX
  go_wp2_with fail
  have r0 := hX.at 0 rfl
  have r1 := hX.at 1 rfl
  have r2 := hX.at 2 rfl
  refine bodyPost_ret (v := .agg #[.int .i64 x, .int .i64 0, .int .i64 (-1)]) ?_ rfl ⟨rfl, B1.out.trans (hoX.below (by have := S1.out; have := BM.out.size; omega) (fun j e => by have e : j = g := e; have := HGW.out; omega))⟩
  simp [results, Tryz.results48, go_sem, r0, r1, r2]
set_option maxHeartbeats 1000000 in
theorem scrub1_any (o l n k x : Int) (q : Nat) (w : World) (hk : I64 k) (h : w.cell? ⟨q, 0, none⟩ = some (.int .i64 x)) :
    Calls Tryz.prog 66 #[.agg #[.int .i64 o, .int .i64 l, .int .i64 n, .int .i64 k], .pointer (some ⟨q, 0, none⟩)] w fun e w' => e = .returned (.agg #[.int .i64 (-1), .int .i64 (timeV k), .int .i64 x]) ∧ Below w.heap.size w w' := by
  have HD := Lib.hid (fun w => taken_any o l n k x w hk)
  obtain ⟨tv, htv⟩ : ∃ tv, timeV k = tv := ⟨_, rfl⟩
  rw [htv] at HD ⊢
  clear htv hk
  obtain ⟨M, hM⟩ : ∃ M, M = (w.alloc (.cells #[.int .i64 o, .int .i64 l, .int .i64 n, .int .i64 k] 81)).alloc (.cells #[.int .i64 0, .int .i64 0, .int .i64 0] 52) := ⟨_, rfl⟩
  have BM := Lib.hid (show Below w.heap.size w M by rw [hM]; exact ((Below.refl _ _).alloc (Nat.le_refl _) _).alloc (by simp) _)
  obtain ⟨g, hg⟩ : ∃ g, w.heap.size + 1 = g := ⟨_, rfl⟩
  have HGW := Lib.hid (show w.heap.size ≤ g by omega)
  have Z0 := Lib.hid (show Blk M g 52 [.int .i64 0, .int .i64 0, .int .i64 0] by
    rw [hM, ← hg]
    have := Blk.new (w.alloc (.cells #[.int .i64 o, .int .i64 l, .int .i64 n, .int .i64 k] 81)) 52 [.int .i64 0, .int .i64 0, .int .i64 0]
    rwa [World.size_alloc] at this)
  have HM := Lib.hid hM
  rw [hM] at Z0
  clear hM
  have Z0 := Lib.hid (show Blk M g 52 [.int .i64 0, .int .i64 0, .int .i64 0] by rw [HM.out]; exact Z0.out)
  have q0 := cell_keep BM.out h
  rw [HM.out] at q0
  clear h
  go_enter Tryz.func66, Tryz.ntmps66
  go_wp2_with fail
  refine (HD.out _).mono ?_
  rintro e w1 ⟨rfl, hb⟩
  rw [← HM.out] at hb
  have B1 := Lib.hid (BM.out.trans (hb.mono BM.out.size))
  have Z1 := Lib.hid (Z0.out.keep hb)
  have S1 := Lib.hid hb.size
  clear hb
  go_wp2_with (with_reducible refine at_st 52 _ _ rfl ?_)
  refine Lib.hid ?_
  refine store_all rfl _ _ _ rfl g [.int .i64 (-1), .int .i64 tv, .int .i64 x] rfl rfl _ _ Z1.out (by kernel_rfl) rfl (by simp [Value.oneCell']) ?_
  intro X hX hoX
  go_wp2_with fail
  have r0 := hX.at 0 rfl
  have r1 := hX.at 1 rfl
  have r2 := hX.at 2 rfl
  refine bodyPost_ret (v := .agg #[.int .i64 (-1), .int .i64 tv, .int .i64 x]) ?_ rfl ⟨rfl, B1.out.trans (hoX.below (by have := S1.out; have := BM.out.size; omega) (fun j e => by have e : j = g := e; have := HGW.out; omega))⟩
  simp [results, Tryz.results66, go_sem, r0, r1, r2]
end Go.Proofs.YtmdepkehpohgeaaGreat.Scr
