/- The document's engine: an answer is told; RefE: it lies in a block. -/
import Derived.Test.YthpkebcedaakhaaDr
namespace Go.Proofs.Ythpkebcedaakhaa.Dma
open Go.RowKit Go.Maps Fifo Orow
set_option linter.unusedVariables false

/-- What a step of writing cells leaves: the engine's block and blocks that are new may have turned. -/
def BN (w0 w : World) (r : Nat) (l : List Value) : Prop := Blk w r 31 l ∧ Only (fun j => j = r) w0 w
theorem BN.alloc {w : World} {r : Nat} {l : List Value} (h : Blk w r 31 l) (o : Obj) : BN w (w.alloc o) r l := ⟨h.alloc o, Only.of_below ((Below.refl _ _).alloc (Nat.le_refl _) o)⟩
theorem BN.al {w0 w : World} {r : Nat} {l : List Value} (h : BO w0 w r l) (o : Obj) : BN w0 (w.alloc o) r l := ⟨h.1.alloc o, h.2.alloc o⟩
theorem BN.set {w0 w : World} {r : Nat} {l : List Value} (h : BN w0 w r l) (k : Nat) (v : Value) : BN w0 (w.setCell ⟨r, k, none⟩ v) r (l.set k v) := ⟨h.1.set k v, h.2.setCell (p := ⟨r, k, none⟩) rfl v⟩
theorem cells_new (w : World) (a b : Value) (t : TypeId) : (w.alloc (.cells #[a, b] t)).cell? ⟨w.heap.size, 0, none⟩ = some a ∧ (w.alloc (.cells #[a, b] t)).cell? ⟨w.heap.size, 1, none⟩ = some b := ⟨World.cell?_alloc_at _ _ _ 0 rfl, World.cell?_alloc_at _ _ _ 1 rfl⟩
set_option maxHeartbeats 1000000 in
theorem told_no (r : Nat) (F T L H v err : Int) (has busy den don cal : Bool) (w : World) (he : (err == 0) = false) (h : Blk w r 31 (cellsE ⟨F, T, L, H, has, busy, den, don, cal⟩)) :
    Calls Try.prog 34 #[.pointer (some ⟨r, 0, none⟩), .agg #[.int .u32 v, .int .i64 err]] w fun e w' => e = .returned (.tuple #[]) ∧ Blk w' r 31 (cellsE (⟨F, T, L, 0, false, false, true, don, cal⟩)) ∧ Only (fun j => j = r) w w' := by
  have N := Lib.hid (BN.alloc h (.cells #[.int .u32 v, .int .i64 err] 41))
  obtain ⟨g, hg⟩ : ∃ g, w.heap.size = g := ⟨_, rfl⟩
  have HG := Lib.hid hg
  have hlt := h.lt
  have NR := Lib.hid (cells_new w (.int .u32 v) (.int .i64 err) 41)
  rw [hg] at hlt NR
  clear h
  obtain ⟨n0, n1⟩ := NR.out
  go_enter Try.func34, Try.ntmps34
  go_wp2_with fail
  refine calls_letter ?_
  intro W hW
  have R1 := Lib.hid (show BN w W r (cellsE ⟨F, T, L, H, has, busy, den, don, cal⟩) by rw [hW.out]; exact N.out)
  clear hW n0 n1 N NR
  refine (rlet_any r _ W R1.out.1).mono ?_
  rintro e w2 ⟨rfl, k1, k2⟩
  have R2 := Lib.hid (show BN w w2 r _ from And.intro k1 (R1.out.2.trans k2))
  have c6 := k1.at 6 rfl
  have f6 := k1.frozen 6
  have c5 := k1.at 5 rfl
  have f5 := k1.frozen 5
  clear k1 k2
  have R3 := Lib.hid (show BN w _ r (cellsE ⟨F, T, L, 0, false, false, true, don, cal⟩) from (R2.out.set 6 (.bool true)).set 5 (.bool false))
  go_wp2_with fail
  first | go_end0 | refine bodyPost_ret (results_none rfl _ _ _) rfl ?_
  exact ⟨rfl, R3.out⟩
set_option maxHeartbeats 1000000 in
theorem told_read (r : Nat) (F T L H v : Int) (busy den don cal : Bool) (w : World) (hF : 0 ≤ F ∧ F < 4294967296) (h : Blk w r 31 (cellsE ⟨F, T, L, H, false, busy, den, don, cal⟩)) :
    Calls Try.prog 34 #[.pointer (some ⟨r, 0, none⟩), .agg #[.int .u32 v, .int .i64 0]] w fun e w' => e = .returned (.tuple #[]) ∧ Blk w' r 31 (cellsE (⟨(plus4 F), T, L, v, true, busy, den, don, cal⟩)) ∧ Only (fun j => j = r) w w' := by
  have N3 := Lib.hid (show BN w _ r (cellsE ⟨(plus4 F), T, L, v, true, busy, den, don, cal⟩) from BN.al ((((BO.of h).set 4 (.bool true)).set 3 (.int .u32 v)).set 0 (.int .u32 (plus4 F))) (.cells #[.int .u32 v, .int .i64 0] 41))
  have b4 := h.at 4 rfl
  have e4 := h.frozen 4
  have b3 := h.at 3 rfl
  have e3 := h.frozen 3
  have b0 := h.at 0 rfl
  have e0 := h.frozen 0
  have f1 := hF.1
  have f2 := hF.2
  have N := Lib.hid (BN.alloc h (.cells #[.int .u32 v, .int .i64 0] 41))
  obtain ⟨g, hg⟩ : ∃ g, w.heap.size = g := ⟨_, rfl⟩
  have HG := Lib.hid hg
  have hlt := h.lt
  have NR := Lib.hid (cells_new w (.int .u32 v) (.int .i64 0) 41)
  rw [hg] at hlt NR
  clear h
  obtain ⟨n0, n1⟩ := NR.out
  have c4 := N.out.1.at 4 rfl
  have c3 := N.out.1.at 3 rfl
  have c0 := N.out.1.at 0 rfl
  have f4 := N.out.1.frozen 4
  have f3 := N.out.1.frozen 3
  have f0 := N.out.1.frozen 0
  clear hF N NR
  go_enter Try.func34, Try.ntmps34
  go_wp2_with fail
  first | go_end0 | refine bodyPost_ret (results_none rfl _ _ _) rfl ?_
  exact ⟨rfl, N3.out⟩
set_option maxHeartbeats 1000000 in
theorem told_last (r : Nat) (F T L H v : Int) (busy den don cal : Bool) (w : World) (hT : 0 ≤ T ∧ T < 4294967296) (hL : L = 1) (h : Blk w r 31 (cellsE ⟨F, T, L, H, true, busy, den, don, cal⟩)) :
    Calls Try.prog 34 #[.pointer (some ⟨r, 0, none⟩), .agg #[.int .u32 v, .int .i64 0]] w fun e w' => e = .returned (.tuple #[]) ∧ Blk w' r 31 (cellsE (⟨F, (plus4 T), 0, 0, false, false, den, true, cal⟩)) ∧ Only (fun j => j = r) w w' := by
  have t1 := hT.1
  have t2 := hT.2
  have N := Lib.hid (BN.alloc h (.cells #[.int .u32 v, .int .i64 0] 41))
  obtain ⟨g, hg⟩ : ∃ g, w.heap.size = g := ⟨_, rfl⟩
  have HG := Lib.hid hg
  have hlt := h.lt
  have NR := Lib.hid (cells_new w (.int .u32 v) (.int .i64 0) 41)
  rw [hg] at hlt NR
  clear h
  obtain ⟨n0, n1⟩ := NR.out
  have c4 := N.out.1.at 4 rfl
  subst hL
  clear hT
  go_enter Try.func34, Try.ntmps34
  go_wp2_with fail
  refine calls_letter ?_
  intro W hW
  have R1 := Lib.hid (show BN w W r (cellsE ⟨F, T, 1, H, true, busy, den, don, cal⟩) by rw [hW.out]; exact N.out)
  clear hW n0 n1 N NR c4
  refine (rlet_any r _ W R1.out.1).mono ?_
  rintro e w2 ⟨rfl, k1, k2⟩
  have R2 := Lib.hid (show BN w w2 r _ from And.intro k1 (R1.out.2.trans k2))
  have c1 := k1.at 1 rfl
  have c2 := k1.at 2 rfl
  have c5 := k1.at 5 rfl
  have c7 := k1.at 7 rfl
  have f1 := k1.frozen 1
  have f2 := k1.frozen 2
  have f5 := k1.frozen 5
  have f7 := k1.frozen 7
  clear k1 k2
  have R3 := Lib.hid (show BN w _ r (cellsE ⟨F, (plus4 T), 0, 0, false, false, den, true, cal⟩) from (((R2.out.set 1 (.int .u32 (plus4 T))).set 2 (.int .u32 0)).set 7 (.bool true)).set 5 (.bool false))
  go_wp2_with fail
  first | go_end0 | refine bodyPost_ret (results_none rfl _ _ _) rfl ?_
  exact ⟨rfl, R3.out⟩
set_option maxHeartbeats 1000000 in
theorem told_more (r : Nat) (F T L H v : Int) (busy den don cal : Bool) (w : World) (hT : 0 ≤ T ∧ T < 4294967296) (hL : 0 ≤ L ∧ L < 4294967296) (hl : ¬ L = 1) (h : Blk w r 31 (cellsE ⟨F, T, L, H, true, busy, den, don, cal⟩)) :
    Calls Try.prog 34 #[.pointer (some ⟨r, 0, none⟩), .agg #[.int .u32 v, .int .i64 0]] w fun e w' => e = .returned (.tuple #[]) ∧ Blk w' r 31 (cellsE (⟨F, (plus4 T), ((L - 1) % 4294967296), 0, false, busy, den, don, cal⟩)) ∧ Only (fun j => j = r) w w' := by
  have t1 := hT.1
  have t2 := hT.2
  have N := Lib.hid (BN.alloc h (.cells #[.int .u32 v, .int .i64 0] 41))
  obtain ⟨g, hg⟩ : ∃ g, w.heap.size = g := ⟨_, rfl⟩
  have HG := Lib.hid hg
  have hlt := h.lt
  have NR := Lib.hid (cells_new w (.int .u32 v) (.int .i64 0) 41)
  rw [hg] at hlt NR
  clear h
  obtain ⟨n0, n1⟩ := NR.out
  have c4 := N.out.1.at 4 rfl
  have l1 := hL.1
  have l2 := hL.2
  have d : ((L - 1) % 4294967296 == 0) = false := by
    have : ¬ (L - 1) % 4294967296 = 0 := by omega
    simpa using this
  clear hL hl
  clear hT
  go_enter Try.func34, Try.ntmps34
  go_wp2_with fail
  refine calls_letter ?_
  intro W hW
  have R1 := Lib.hid (show BN w W r (cellsE ⟨F, T, L, H, true, busy, den, don, cal⟩) by rw [hW.out]; exact N.out)
  clear hW n0 n1 N NR c4
  refine (rlet_any r _ W R1.out.1).mono ?_
  rintro e w2 ⟨rfl, k1, k2⟩
  have R2 := Lib.hid (show BN w w2 r _ from And.intro k1 (R1.out.2.trans k2))
  have c1 := k1.at 1 rfl
  have c2 := k1.at 2 rfl
  have c5 := k1.at 5 rfl
  have c7 := k1.at 7 rfl
  have f1 := k1.frozen 1
  have f2 := k1.frozen 2
  have f5 := k1.frozen 5
  have f7 := k1.frozen 7
  clear k1 k2
  have R3 := Lib.hid (show BN w _ r (cellsE ⟨F, (plus4 T), ((L - 1) % 4294967296), 0, false, busy, den, don, cal⟩) from ((R2.out.set 1 (.int .u32 (plus4 T))).set 2 (.int .u32 ((L - 1) % 4294967296))))
  go_wp2_with fail
  first | go_end0 | refine bodyPost_ret (results_none rfl _ _ _) rfl ?_
  exact ⟨rfl, R3.out⟩
theorem rTold_any (r : Nat) (s : En) (v err : Int) (w : World) (hs : OkE s) (hv : 0 ≤ v ∧ v < 4294967296) (h : Blk w r 31 (cellsE s)) :
    Calls Try.prog 34 #[.pointer (some ⟨r, 0, none⟩), .agg #[.int .u32 v, .int .i64 err]] w fun e w' => e = .returned (.tuple #[]) ∧ Blk w' r 31 (cellsE (toldE s v err)) ∧ Only (fun j => j = r) w w' := by
  obtain ⟨F, T, L, H, has, busy, den, don, cal⟩ := s
  have hF := hs.f
  have hT := hs.t
  have hL := hs.l
  unfold toldE
  by_cases he : err = 0
  · subst he
    rw [if_neg (fun k => k rfl)]
    cases has
    · rw [if_neg (show ¬ (false = true) by decide)]
      exact told_read r F T L H v busy den don cal w hF h
    · rw [if_pos rfl]
      by_cases hl : L = 1
      · rw [if_pos (show (⟨F, T, L, H, true, busy, den, don, cal⟩ : En).L = 1 from hl)]
        exact told_last r F T L H v busy den don cal w hT hl h
      · rw [if_neg (show ¬ (⟨F, T, L, H, true, busy, den, don, cal⟩ : En).L = 1 from hl)]
        exact told_more r F T L H v busy den don cal w hT hL hl h
  · rw [if_pos he]
    exact told_no r F T L H v err has busy den don cal w (by simpa using he) h
/-- The document's engine in block r. -/
def RefE (w : World) (r : Nat) (s : En) : Prop := Blk w r 31 (cellsE s) ∧ OkE s
theorem RefE.only {S : Nat → Prop} {w w' : World} {r : Nat} {s : En} (h : RefE w r s) (ho : Only S w w') (hn : ¬ S r) : RefE w' r s := ⟨h.1.only ho hn, h.2⟩
theorem RefE.keep {w w' : World} {r : Nat} {s : En} (h : RefE w r s) (hb : Below w.heap.size w w') : RefE w' r s := ⟨h.1.keep hb, h.2⟩
theorem RefE.lt {w : World} {r : Nat} {s : En} (h : RefE w r s) : r < w.heap.size := h.1.lt
end Go.Proofs.Ythpkebcedaakhaa.Dma
