/- Package table's May. -/
import Derived.Test.YtmkponhhinjpkaaGreatTj
namespace Go.Proofs.YtmkponhhinjpkaaGreat.Table
open Go.RowKit Fifo Go.Proofs.YtmkponhhinjpkaaGreat.Access
open Go.Proofs.YtmkponhhinjpkaaGreat.Region (Eight eight_new)
set_option linter.unusedVariables false

set_option maxRecDepth 100000 in
set_option maxHeartbeats 4000000 in
theorem May_any (a : Option Addr) (n cap : Nat) (d : List Rg) (W2 : Int) (r2 : Bool) (A S D : Int) (mb : Bool) (w : World) (hn : n ≤ 1000000) (hc : n ≤ cap) (hA : 0 ≤ A) (hA' : A < 4294967296) (hD : 0 ≤ D) (hD' : D < 4294967296) (h : RowG w a n d)
    (hm : may d ⟨W2, r2, A, S, D⟩ = mb) :
    Calls Tryz.prog 19 #[.slice a n cap, acc W2 r2 A S D] w fun e w' => e = .returned (.bool mb) ∧ Below w.heap.size w w' := by
  obtain ⟨a', n', cap', hn', hc', hr, hT⟩ := tableOf_any a n cap d w hn hc h
  have hrl := hr.1
  obtain ⟨⟨⟨xo, xV, xF, xT, xr, xw, xK, xl⟩, ix⟩, hx⟩ : ∃ ox, decV (tabL d) (decTo (tabL d) ⟨W2, r2, A, S, D⟩ n') = ox := ⟨_, rfl⟩
  obtain ⟨ob, hob'⟩ : ∃ ob, (decTo (tabL d) ⟨W2, r2, A, S, D⟩ n').isSome = ob := ⟨_, rfl⟩
  have hlets : (ob && Region.letsV xo xV xF xT xr xw xK W2 r2 A S D) = mb := by
    rw [← hm, ← hob']
    unfold may
    rw [← dec_tab, hrl]
    cases e : decTo (tabL d) ⟨W2, r2, A, S, D⟩ n' with
    | none => rfl
    | some b =>
      rw [e] at hx
      have hl : tabL d = d := by
        unfold tabL at e hrl ⊢
        cases ht : tabB d with
        | true => rfl
        | false => rw [ht] at e hrl; simp at hrl; subst hrl; cases e
      rw [hl] at hx
      have hx1 : d[b]! = ⟨xo, xV, xF, xT, xr, xw, xK, xl⟩ := congrArg Prod.fst hx
      show Region.letsV xo xV xF xT xr xw xK W2 r2 A S D = (d[b]!).lets ⟨W2, r2, A, S, D⟩
      rw [hx1]; rfl
  have Hl := Lib.hid hlets
  have hDc := fun W (hW : Below w.heap.size w W) => decider_any a' n' cap' (tabL d) W2 r2 A S D _ ob W hn' hA hA' hD hD' (hr.keep hW) hx hob'
  have HT0 := Lib.hid hT
  have HDc0 := Lib.hid hDc
  clear hm hlets hx hob' hT hDc h hr hrl
  obtain ⟨c, hcz⟩ : ∃ c, w.heap.size = c := ⟨_, rfl⟩
  go_enter Tryz.func19, Tryz.ntmps19
  go_wp2_with fail
  refine code_letter ?_
  intro W hW
  have HB := Lib.hid (show Below w.heap.size w W by rw [hW.out]; exact (Below.refl _ _).alloc (Nat.le_refl _) _)
  have HT := Lib.hid (fun Y (hY : Below W.heap.size W Y) => both_below hY (HT0.out Y (HB.out.trans (hY.mono HB.out.size))) hY.size)
  have HDc := Lib.hid (fun Y (hY : Below W.heap.size W Y) => both_below hY (HDc0.out Y (HB.out.trans (hY.mono HB.out.size))) hY.size)
  have h5 := Lib.hid (show Five W c W2 r2 A S D by rw [hW.out, ← hcz]; exact five_new w W2 r2 A S D 25)
  clear hW
  obtain ⟨a0, a1, a2, a3, a4⟩ := h5.out
  have cl := World.block_lt_of_cell? W _ a0
  simp only at cl
  go_region_with ((first
    | (go_at_call 22; with_reducible show Calls _ _ _ (World.drew (World.alloc _ _)) _; refine (HT.out _ (by repeat (first | with_reducible exact Below.refl _ _ | refine Below.drew ?_ | refine Below.alloc ?_ (by simp) _))).mono ?_; rintro e w1 ⟨rfl, hb1, B1⟩; have a0 := cell_keep B1 a0; have a1 := cell_keep B1 a1; have a2 := cell_keep B1 a2; have a3 := cell_keep B1 a3; have a4 := cell_keep B1 a4; have cl : c < w1.heap.size := World.block_lt_of_cell? w1 _ a0; have B9 := new_drew _ 51 [.bool false, .int .i64 0, .int .u32 0, .int .u32 0, .bool false, .bool false, .int .i64 0, .bool false, .int .i64 0] hb1)
    | (go_at_call 22; refine (HT.out _ (by repeat (first | with_reducible exact Below.refl _ _ | refine Below.drew ?_ | refine Below.alloc ?_ (by simp) _))).mono ?_; rintro e w1 ⟨rfl, hb1, B1⟩; have a0 := cell_keep B1 a0; have a1 := cell_keep B1 a1; have a2 := cell_keep B1 a2; have a3 := cell_keep B1 a3; have a4 := cell_keep B1 a4; have cl : c < w1.heap.size := World.block_lt_of_cell? w1 _ a0)
    | (go_at_call 36; with_reducible show Calls _ _ _ (World.alloc _ _) _; refine (HDc.out _ (by repeat (first | with_reducible exact B1 | refine Below.drew ?_ | refine Below.alloc ?_ (by have := B1.size; simp; omega) _))).mono ?_; rintro e w2 ⟨rfl, hb2, B2⟩; obtain ⟨n0, n1, n2, n3, n4, n5, n6, n7, n8, z0, z1, z2, z3, z4, z5, z6, z7, z8⟩ := nine (new_blk _ 51 [.bool false, .int .i64 0, .int .u32 0, .int .u32 0, .bool false, .bool false, .int .i64 0, .bool false, .int .i64 0] hb2); have B7 := new_blk _ 51 [.bool false, .int .i64 0, .int .u32 0, .int .u32 0, .bool false, .bool false, .int .i64 0, .bool false, .int .i64 0] hb2)
    | (have B8 := B9; clear B9; go_at_call 36; refine (HDc.out _ (by repeat (first | with_reducible exact B1 | refine Below.drew ?_ | refine Below.alloc ?_ (by have := B1.size; simp; omega) _))).mono ?_; rintro e w2 ⟨rfl, hb2, B2⟩; obtain ⟨n0, n1, n2, n3, n4, n5, n6, n7, n8, z0, z1, z2, z3, z4, z5, z6, z7, z8⟩ := nine (B8.keep hb2); have B7 := B8.keep hb2)
    | (go_at_call 36; refine (HDc.out _ (by repeat (first | with_reducible exact B1 | refine Below.drew ?_ | refine Below.alloc ?_ (by have := B1.size; simp; omega) _))).mono ?_; rintro e w2 ⟨rfl, hb2, B2⟩)))
  all_goals
    have hs0 := HB.out.size
    have hs1 := B1.size
    have hs2 := B2.size
    have hs3 := hb2.size
    refine exit_letter ?_
    intro Y hY
    have BY : Below W.heap.size W Y := by
      rw [hY.out]
      repeat (first | with_reducible exact B2 | with_reducible refine Below.setCell ?_ (by first | exact Nat.le_refl _ | omega | (simp; omega)) _ | with_reducible refine Below.alloc ?_ (by first | omega | (simp; omega)) _ | with_reducible refine Below.drew ?_)
    have HBY := Lib.hid (HB.out.trans (BY.mono hs0))
    have h5Y := h5.out.keep BY
    first
      | (have E8 := (((((((((B7.set 0 (.bool xo)).set 1 (.int .i64 xV)).set 2 (.int .u32 xF)).set 3 (.int .u32 xT)).set 4 (.bool xr)).set 5 (.bool xw)).set 6 (.int .i64 xK)).set 7 (.bool xl)).set 8 (.int .i64 (ix : Nat)))
         rw [← hY.out] at E8)
      | (have E8 := Blk.new w2 51 [.bool xo, .int .i64 xV, .int .u32 xF, .int .u32 xT, .bool xr, .bool xw, .int .i64 xK, .bool xl, .int .i64 (ix : Nat)]
         rw [← hY.out] at E8)
    have e0 := E8.at 0 rfl
    have e1 := E8.at 1 rfl
    have e2 := E8.at 2 rfl
    have e3 := E8.at 3 rfl
    have e4 := E8.at 4 rfl
    have e5 := E8.at 5 rfl
    have e6 := E8.at 6 rfl
    have e7 := E8.at 7 rfl
    obtain ⟨a0, a1, a2, a3, a4⟩ := h5Y
    clear E8 BY hY HT HDc HT0 HDc0 B2 hb2 B1 hb1
    cases ob
    · have hmb : false = mb := Hl.out
      subst hmb
      go_wp2_with fail
      go_ret
      exact ⟨rfl, HBY.out⟩
    · have hmb : Region.letsV xo xV xF xT xr xw xK W2 r2 A S D = mb := Hl.out
      have HL := Lib.hid hmb
      clear hmb
      go_wp2_with fail
      refine (Region.Lets_any xo xV xF xT xr xw xK xl W2 r2 A S D mb _ hA hA' hD hD' HL.out).mono ?_
      rintro e w5 ⟨rfl, hb5⟩
      have HB5 := Lib.hid (HBY.out.trans (hb5.mono HBY.out.size))
      clear hb5
      go_wp2_with fail
      go_ret
      exact ⟨rfl, HB5.out⟩
end Go.Proofs.YtmkponhhinjpkaaGreat.Table
