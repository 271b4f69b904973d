/- The table of package lane, as any world holds it that is shaped as the program asks: four words. -/
import Derived.Test.YtknhgfofmkpnfaaGreatBa
import Derived.Test.YtknhgfofmkpnfaaGreatLn
import Derived.HandedShaped
import Derived.Shelf.Vars
namespace Go.Proofs.YtknhgfofmkpnfaaGreat.Lane
open Go.RowKit

/-- The place of the table's type. -/
theorem row_cells {P : Program} {w : World} {g n : Nat} {t u : TypeId} {zero : Array Value} {ts : List TypeId} {k : IntKind}
    (h : w.ShapedOpen P) (hg : g < P.globals.size)
    (h0 : ((begin P (fun _ _ => 0) default).world.heap[g]?).bind Obj.row? = some (zero, t)) (hz : zero.size = n)
    (hb : P.buildable t = true) (hc : P.cellTypes P.depth t = some ts) (hl : ts.length = n) (ha : ∀ i, i < n → ts[i]? = some u) (hu : P.underlying u = some (.int k)) :
    ∀ i, i < n → ∃ m, w.cell? ⟨g, i, none⟩ = some (.int k m) ∧ k.has m := by
  obtain ⟨cs, hh, hs, hr⟩ := h.1 g zero t hg h0
  obtain ⟨ts', hts, _, hall⟩ := hr hb
  rw [hc] at hts
  cases hts
  intro i hi
  have h1 : i < cs.size := by omega
  obtain ⟨u', hu', hok⟩ := hall i cs[i] (by simp [h1])
  rw [hl, Nat.mod_eq_of_lt hi, ha i hi] at hu'
  cases hu'
  have hcell : w.cell? ⟨g, i, none⟩ = some cs[i] := by simp [World.cell?, hh, h1]
  rw [hcell]
  unfold Cell.ok at hok
  rw [hu] at hok
  cases hv : cs[i] <;> rw [hv] at hok <;> simp at hok
  case int k' m =>
    obtain ⟨rfl, hm⟩ := hok
    exact ⟨m, rfl, hm⟩
set_option maxRecDepth 100000 in
theorem tab_shaped {w : World} (h : w.ShapedOpen Tryz.prog) : ∃ t : OTab, @Tab ⟨t⟩ w := by
  have H := row_cells (P := Tryz.prog) (g := 0) (n := 4) (t := 255) (u := 23) (k := .u32) (zero := #[.int .u32 0, .int .u32 0, .int .u32 0, .int .u32 0]) (ts := [23, 23, 23, 23]) h
    (of_decide_eq_true (by kernel_rfl)) (by kernel_rfl) rfl (by kernel_rfl) (by kernel_rfl) rfl (fun i hi => by match i, hi with | 0, _ => rfl | 1, _ => rfl | 2, _ => rfl | 3, _ => rfl) Tryz.underlying23
  have key : ∀ x, IntKind.u32.has x → 0 ≤ x ∧ x < 4294967296 := fun x hx => by
    simp [IntKind.has] at hx
    have e1 : IntKind.u32.min = 0 := rfl
    have e2 : IntKind.u32.max = 4294967295 := rfl
    omega
  refine ⟨⟨fun i => if hi : i < 4 then (H i hi).choose else 0, fun i => ?_⟩, fun i hi => ?_⟩
  · by_cases hi : i < 4
    · rw [dif_pos hi]
      exact key _ (H i hi).choose_spec.2
    · rw [dif_neg hi]; omega
  · show w.cell? _ = some (.int .u32 (if hi : i < 4 then (H i hi).choose else 0))
    rw [dif_pos hi]
    exact (H i hi).choose_spec.1
end Go.Proofs.YtknhgfofmkpnfaaGreat.Lane
