/- Package table's Decides, May, Among. -/
import Derived.Test.YtmkponhhinjpkaaGreatTi
import Derived.Deep.RegionHeld3
namespace Go.Proofs.YtmkponhhinjpkaaGreat.Table
open Go.RowKit Fifo Go.Proofs.YtmkponhhinjpkaaGreat.Access
open Go.Proofs.YtmkponhhinjpkaaGreat.Region (Eight eight_new)
set_option linter.unusedVariables false

theorem load_below {B : Nat} {w : World} {a : Addr} {v : Value} (h : w.cell? a = some v) : ∀ w', Below w.heap.size w w' → w'.cell? a = some v := fun w' hb => cell_keep hb h
theorem tableOf_yes (a : Option Addr) (n cap : Nat) (d : List Rg) (w : World) (hn : n ≤ 1000000) (hc : n ≤ cap) (h : RowG w a n d) (hb : tabB d = true) :
    Calls Tryz.prog 22 #[.slice a n cap] w fun e w' => e = .returned (.agg #[.slice a n cap]) ∧ Below w.heap.size w w' := by
  have R := Lib.hid (Right_any a n cap d true (w.alloc (.cells #[.slice none 0 0] 56)) hn hc (h.keep ((Below.refl _ _).alloc (Nat.le_refl _) _)) hb)
  clear h hb
  go_enter Tryz.func22, Tryz.ntmps22
  go_wp2_with fail
  refine R.out.mono ?_
  rintro e w1 ⟨rfl, hb⟩
  have ha := (Below.refl w.heap.size w).alloc (Nat.le_refl _) (.cells #[.slice none 0 0] 56)
  have Hb := Lib.hid (ha.trans (hb.mono ha.size))
  have c0 : w1.cell? ⟨w.heap.size, 0, none⟩ = some (.slice none 0 0) := ((Blk.new w 56 [.slice none 0 0]).keep hb).at 0 rfl
  have f0 : w1.frozen? ⟨w.heap.size, 0, none⟩ = false := ((Blk.new w 56 [.slice none 0 0]).keep hb).frozen 0
  clear hb ha
  go_wp2_with fail
  refine bodyPost_ret (v := .agg #[.slice a n cap]) ?_ rfl ⟨rfl, Hb.out.setCell (p := ⟨w.heap.size, 0, none⟩) (Nat.le_refl _) _⟩
  simp [results, Tryz.results22, go_sem, c0]
theorem tableOf_no (a : Option Addr) (n cap : Nat) (d : List Rg) (w : World) (hn : n ≤ 1000000) (hc : n ≤ cap) (h : RowG w a n d) (hb : tabB d = false) :
    Calls Tryz.prog 22 #[.slice a n cap] w fun e w' => e = .returned (.agg #[.slice none 0 0]) ∧ Below w.heap.size w w' := by
  have R := Lib.hid (Right_any a n cap d false (w.alloc (.cells #[.slice none 0 0] 56)) hn hc (h.keep ((Below.refl _ _).alloc (Nat.le_refl _) _)) hb)
  clear h hb
  go_enter Tryz.func22, Tryz.ntmps22
  go_wp2_with fail
  refine R.out.mono ?_
  rintro e w1 ⟨rfl, hb⟩
  have ha := (Below.refl w.heap.size w).alloc (Nat.le_refl _) (.cells #[.slice none 0 0] 56)
  have Hb := Lib.hid (ha.trans (hb.mono ha.size))
  have c0 : w1.cell? ⟨w.heap.size, 0, none⟩ = some (.slice none 0 0) := ((Blk.new w 56 [.slice none 0 0]).keep hb).at 0 rfl
  have f0 : w1.frozen? ⟨w.heap.size, 0, none⟩ = false := ((Blk.new w 56 [.slice none 0 0]).keep hb).frozen 0
  clear hb ha
  go_wp2_with fail
  refine bodyPost_ret (v := .agg #[.slice none 0 0]) ?_ rfl ⟨rfl, Hb.out.setCell (p := ⟨w.heap.size, 0, none⟩) (Nat.le_refl _) _⟩
  simp [results, Tryz.results22, go_sem, c0]

theorem both_below {P : Program} {f : FuncId} {args : Array Value} {B : Nat} {w W : World} {v : Value} (h0 : Below B w W) (h : Calls P f args W fun e w' => e = .returned v ∧ Below W.heap.size W w') (hB : B ≤ W.heap.size) :
    Calls P f args W fun e w' => e = .returned v ∧ Below W.heap.size W w' ∧ Below B w w' := h.mono fun e w' ⟨he, hb⟩ => ⟨he, hb, h0.trans (hb.mono hB)⟩
/-- A numbered region's cells, to be written. -/
theorem nine {w : World} {g : Nat} {o : Bool} {V F T : Int} {rd wt : Bool} {K : Int} {lk : Bool} {i : Int} (B : Blk w g 51 [.bool o, .int .i64 V, .int .u32 F, .int .u32 T, .bool rd, .bool wt, .int .i64 K, .bool lk, .int .i64 i]) :
    w.cell? ⟨g, 0, none⟩ = some (.bool o) ∧ w.cell? ⟨g, 1, none⟩ = some (.int .i64 V) ∧ w.cell? ⟨g, 2, none⟩ = some (.int .u32 F) ∧ w.cell? ⟨g, 3, none⟩ = some (.int .u32 T) ∧ w.cell? ⟨g, 4, none⟩ = some (.bool rd) ∧
    w.cell? ⟨g, 5, none⟩ = some (.bool wt) ∧ w.cell? ⟨g, 6, none⟩ = some (.int .i64 K) ∧ w.cell? ⟨g, 7, none⟩ = some (.bool lk) ∧ w.cell? ⟨g, 8, none⟩ = some (.int .i64 i) ∧
    w.frozen? ⟨g, 0, none⟩ = false ∧ w.frozen? ⟨g, 1, none⟩ = false ∧ w.frozen? ⟨g, 2, none⟩ = false ∧ w.frozen? ⟨g, 3, none⟩ = false ∧ w.frozen? ⟨g, 4, none⟩ = false ∧ w.frozen? ⟨g, 5, none⟩ = false ∧ w.frozen? ⟨g, 6, none⟩ = false ∧ w.frozen? ⟨g, 7, none⟩ = false ∧ w.frozen? ⟨g, 8, none⟩ = false :=
  ⟨B.at 0 rfl, B.at 1 rfl, B.at 2 rfl, B.at 3 rfl, B.at 4 rfl, B.at 5 rfl, B.at 6 rfl, B.at 7 rfl, B.at 8 rfl, B.frozen 0, B.frozen 1, B.frozen 2, B.frozen 3, B.frozen 4, B.frozen 5, B.frozen 6, B.frozen 7, B.frozen 8⟩
theorem new_blk (w : World) (t : TypeId) (vs : List Value) {w' : World} (hb : Below (w.alloc (.cells vs.toArray t)).heap.size (w.alloc (.cells vs.toArray t)) w') : Blk w' w.heap.size t vs := (Blk.new w t vs).keep hb
theorem new_drew (w : World) (t : TypeId) (vs : List Value) {w' : World} (hb : Below (w.alloc (.cells vs.toArray t)).drew.heap.size (w.alloc (.cells vs.toArray t)).drew w') : Blk w' w.heap.size t vs := ((Blk.new w t vs).keep (Below.refl _ _).drew).keep hb
/-- The table at work: what came in, or none. -/
def tabL (d : List Rg) : List Rg := if tabB d then d else []
theorem tableOf_any (a : Option Addr) (n cap : Nat) (d : List Rg) (w : World) (hn : n ≤ 1000000) (hc : n ≤ cap) (h : RowG w a n d) : ∃ a' n' cap', n' ≤ 1000000 ∧ n' ≤ cap' ∧ RowG w a' n' (tabL d) ∧
    ∀ W, Below w.heap.size w W → Calls Tryz.prog 22 #[.slice a n cap] W fun e w' => e = .returned (.agg #[.slice a' n' cap']) ∧ Below W.heap.size W w' := by
  cases hb : tabB d with
  | true =>
    refine ⟨a, n, cap, hn, hc, by unfold tabL; rw [if_pos hb]; exact h, fun W hW => tableOf_yes a n cap d W hn hc (h.keep hW) hb⟩
  | false =>
    refine ⟨none, 0, 0, by omega, by omega, by unfold tabL; rw [if_neg (by simp [hb])]; exact RowG.nil w, fun W hW => tableOf_no a n cap d W hn hc (h.keep hW) hb⟩
theorem dec_tab (d : List Rg) (ac : Ac) : decTo (tabL d) ac (tabL d).length = dec d ac := by
  unfold tabL dec
  cases tabB d <;> rfl

set_option maxRecDepth 100000 in
set_option maxHeartbeats 2000000 in
theorem Decides_any (a : Option Addr) (n cap : Nat) (d : List Rg) (W2 : Int) (r2 : Bool) (A S D : Int) (i : Nat) (ob : Bool) (w : World) (hn : n ≤ 1000000) (hc : n ≤ cap) (hA : 0 ≤ A) (hA' : A < 4294967296) (hD : 0 ≤ D) (hD' : D < 4294967296) (h : RowG w a n d)
    (hi : (dec d ⟨W2, r2, A, S, D⟩).getD 0 = i) (hob : (dec d ⟨W2, r2, A, S, D⟩).isSome = ob) :
    Calls Tryz.prog 16 #[.slice a n cap, acc W2 r2 A S D] w fun e w' => e = .returned (.tuple #[.int .i64 (i : Nat), .bool ob]) ∧ Below w.heap.size w w' := by
  obtain ⟨a', n', cap', hn', hc', hr, hT⟩ := tableOf_any a n cap d w hn hc h
  have hrl := hr.1
  obtain ⟨⟨⟨xo, xV, xF, xT, xr, xw, xK, xl⟩, ix⟩, hx⟩ : ∃ ox, decV (tabL d) (decTo (tabL d) ⟨W2, r2, A, S, D⟩ n') = ox := ⟨_, rfl⟩
  have hix : ix = i := by
    rw [← hi, ← dec_tab, hrl]
    rw [← hrl] at hx ⊢
    cases e : decTo (tabL d) ⟨W2, r2, A, S, D⟩ (tabL d).length with
    | none => rw [e] at hx; exact (congrArg Prod.snd hx).symm
    | some b => rw [e] at hx; exact (congrArg Prod.snd hx).symm
  have hob' : (decTo (tabL d) ⟨W2, r2, A, S, D⟩ n').isSome = ob := by rw [← hob, ← dec_tab, hrl]
  have hDc := fun W (hW : Below w.heap.size w W) => decider_any a' n' cap' (tabL d) W2 r2 A S D _ ob W hn' hA hA' hD hD' (hr.keep hW) hx hob'
  have HT0 := Lib.hid hT
  have HDc0 := Lib.hid hDc
  subst hix
  clear hi hob hx hob' hT hDc h hr hrl
  obtain ⟨c, hcz⟩ : ∃ c, w.heap.size = c := ⟨_, rfl⟩
  go_enter Tryz.func16, Tryz.ntmps16
  go_wp2_with fail
  refine code_letter ?_
  intro W hW
  have HB := Lib.hid (show Below w.heap.size w W by rw [hW.out]; exact (Below.refl _ _).alloc (Nat.le_refl _) _)
  have HT := Lib.hid (fun Y (hY : Below W.heap.size W Y) => both_below hY (HT0.out Y (HB.out.trans (hY.mono HB.out.size))) hY.size)
  have HDc := Lib.hid (fun Y (hY : Below W.heap.size W Y) => both_below hY (HDc0.out Y (HB.out.trans (hY.mono HB.out.size))) hY.size)
  have h5 := Lib.hid (show Five W c W2 r2 A S D by rw [hW.out, ← hcz]; exact five_new w W2 r2 A S D 25)
  clear hW
  obtain ⟨a0, a1, a2, a3, a4⟩ := h5.out
  have cl := World.block_lt_of_cell? W _ a0
  simp only at cl
  go_region_with ((first
    | (go_at_call 22; with_reducible show Calls _ _ _ (World.drew (World.alloc _ _)) _; refine (HT.out _ (by repeat (first | with_reducible exact Below.refl _ _ | refine Below.drew ?_ | refine Below.alloc ?_ (by simp) _))).mono ?_; rintro e w1 ⟨rfl, hb1, B1⟩; have a0 := cell_keep B1 a0; have a1 := cell_keep B1 a1; have a2 := cell_keep B1 a2; have a3 := cell_keep B1 a3; have a4 := cell_keep B1 a4; have cl : c < w1.heap.size := World.block_lt_of_cell? w1 _ a0; have B9 := new_drew _ 51 [.bool false, .int .i64 0, .int .u32 0, .int .u32 0, .bool false, .bool false, .int .i64 0, .bool false, .int .i64 0] hb1)
    | (go_at_call 22; refine (HT.out _ (by repeat (first | with_reducible exact Below.refl _ _ | refine Below.drew ?_ | refine Below.alloc ?_ (by simp) _))).mono ?_; rintro e w1 ⟨rfl, hb1, B1⟩; have a0 := cell_keep B1 a0; have a1 := cell_keep B1 a1; have a2 := cell_keep B1 a2; have a3 := cell_keep B1 a3; have a4 := cell_keep B1 a4; have cl : c < w1.heap.size := World.block_lt_of_cell? w1 _ a0)
    | (go_at_call 36; with_reducible show Calls _ _ _ (World.alloc _ _) _; refine (HDc.out _ (by repeat (first | with_reducible exact B1 | refine Below.drew ?_ | refine Below.alloc ?_ (by have := B1.size; simp; omega) _))).mono ?_; rintro e w2 ⟨rfl, hb2, B2⟩; obtain ⟨n0, n1, n2, n3, n4, n5, n6, n7, n8, z0, z1, z2, z3, z4, z5, z6, z7, z8⟩ := nine (new_blk _ 51 [.bool false, .int .i64 0, .int .u32 0, .int .u32 0, .bool false, .bool false, .int .i64 0, .bool false, .int .i64 0] hb2))
    | (have B8 := B9; clear B9; go_at_call 36; refine (HDc.out _ (by repeat (first | with_reducible exact B1 | refine Below.drew ?_ | refine Below.alloc ?_ (by have := B1.size; simp; omega) _))).mono ?_; rintro e w2 ⟨rfl, hb2, B2⟩; obtain ⟨n0, n1, n2, n3, n4, n5, n6, n7, n8, z0, z1, z2, z3, z4, z5, z6, z7, z8⟩ := nine (B8.keep hb2))
    | (go_at_call 36; refine (HDc.out _ (by repeat (first | with_reducible exact B1 | refine Below.drew ?_ | refine Below.alloc ?_ (by have := B1.size; simp; omega) _))).mono ?_; rintro e w2 ⟨rfl, hb2, B2⟩)))
  all_goals
    have hs0 := HB.out.size
    have hs1 := B1.size
    have hs2 := B2.size
    have hs3 := hb2.size
    have B3 := Lib.hid (HB.out.trans (B2.mono hs0))
    clear B1 B2 hb1 hb2 HT HDc HT0 HDc0 HB a0 a1 a2 a3 a4
    go_wp2_with fail
    go_ret2
    refine ⟨rfl, ?_⟩
    repeat (first | with_reducible exact B3.out | refine Below.setCell ?_ (by first | omega | (simp; omega)) _ | refine Below.alloc ?_ (by first | omega | (simp; omega)) _ | refine Below.drew ?_)
end Go.Proofs.YtmkponhhinjpkaaGreat.Table
