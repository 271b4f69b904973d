/- A slice of septumlaw13.Deed that came in, opened. -/
import Derived.Lib.SmallJoins
import Derived.Test.YtelmkfpomeilpaaId
import Derived.Deep.Slices
namespace Go.Proofs.Ytelmkfpomeilpaa.IdD
open Go.ChangeShapes Go.WideShapes Go.RowKit Go.Deep Go.WideElems Go.Maps Go.Joins
set_option linter.unusedVariables false
variable {H : Type} {enc : TypeId × Value → H} {w : World} {base : Nat} {spare : Nat → Bool} {held : Bool}

theorem k0 : Try.prog.cellsOf 3 = 1 := by kernel_rfl
theorem k1 : Try.prog.cellsOf 22 = 1 := by kernel_rfl
theorem cG : Try.prog.cellsOf 40 = 2 := by kernel_rfl
theorem wf_i64 {x : Int} (h : (Lit.int .i64 x).wf = true) : -9223372036854775808 ≤ x ∧ x ≤ 9223372036854775807 := by
  simp only [Lit.wf, Bool.and_eq_true, decide_eq_true_eq] at h
  have h1 : IntKind.i64.min = -9223372036854775808 := rfl
  have h2 : IntKind.i64.max = 9223372036854775807 := rfl
  omega
theorem wf_u32 {x : Int} (h : (Lit.int .u32 x).wf = true) : 0 ≤ x ∧ x < 4294967296 := by
  simp only [Lit.wf, Bool.and_eq_true, decide_eq_true_eq] at h
  have h1 : IntKind.u32.min = 0 := rfl
  have h2 : IntKind.u32.max = 4294967295 := rfl
  omega
theorem wf_u8 {x : Int} (h : (Lit.int .u8 x).wf = true) : 0 ≤ x ∧ x < 256 := by
  simp only [Lit.wf, Bool.and_eq_true, decide_eq_true_eq] at h
  have h1 : IntKind.u8.min = 0 := rfl
  have h2 : IntKind.u8.max = 255 := rfl
  omega
set_option maxRecDepth 100000 in
theorem elem_cells {n : Nat} {cs : List Value} {x : DataW H × List MemPlace} (hlen : cs.length = 2) (h : DataW.trod enc Try.prog w base spare held n 40 cs = some x) :
    ∃ g : Rotor.Dd, cs = [Value.int .i64 g.rg, .int .u32 g.v] ∧ Rotor.okDd g := by
  obtain ⟨c0, c1, rfl⟩ : ∃ c0 c1, cs = [c0, c1] := by
    match cs, hlen with
    | [c0, c1], _ => exact ⟨c0, c1, rfl⟩
  obtain ⟨xs, k, _, hx, hl, hxl, hg⟩ := DataW.trod_struct Try.underlying40 h
  obtain ⟨y0, y1, rfl⟩ : ∃ y0 y1, xs = [y0, y1] := by
    have hl : xs.length = 2 := by simpa using hxl
    match xs, hl with
    | [y0, y1], _ => exact ⟨y0, y1, rfl⟩
  have g0 := hg 0 _ rfl
  have g1 := hg 1 _ rfl
  simp [k0, k1] at g0 g1
  obtain ⟨z0, e0, _, w0⟩ := DataW.trod_int Try.underlying3 g0
  obtain ⟨z1, e1, _, w1⟩ := DataW.trod_int Try.underlying22 g1
  simp at e0 e1
  subst e0 e1
  exact ⟨⟨z0, z1⟩, rfl, wf_i64 w0, wf_u32 w1⟩
set_option maxRecDepth 100000 in
theorem elem_row {fuel : Nat} {a : Option Addr} {len cap : Nat} {x : DataW H × List MemPlace} (h : DataW.trod enc Try.prog w base spare held fuel 33 [.slice a len cap] = some x) :
    ∃ l, Rotor.RowDd w a len l ∧ (a = none → len = 0 ∧ cap = 0) ∧ len ≤ cap ∧ len ≤ maxLen := by
  rcases open_slice Try.underlying33 h with ⟨hcs, _⟩ | ⟨ad, len', cap', m, n, D, Pl, hcs, hb, hl, hm, hmm, _, hx⟩
  · simp at hcs
    obtain ⟨rfl, rfl, rfl⟩ := hcs
    exact ⟨[], Rotor.RowDd.nil w none, fun _ => ⟨rfl, rfl⟩, Nat.le_refl _, Nat.zero_le _⟩
  · simp at hcs
    obtain ⟨rfl, rfl, rfl⟩ := hcs
    have hlm : len ≤ m := by split at hmm <;> omega
    have each : ∀ i, i < m → ∃ g : Rotor.Dd, Rotor.okDd g ∧ ∀ j v, [Value.int .i64 g.rg, .int .u32 g.v][j]? = some v → w.cell? ((ad.add (i * 2)).add j) = some v := by
      intro i hi
      obtain ⟨cs', h1, h2⟩ := hx i hi
      rw [cG] at h1
      obtain ⟨_, hlen, hcell⟩ := World.cells?_some h1
      obtain ⟨g, rfl, hok⟩ := elem_cells hlen h2
      refine ⟨g, hok, fun j v hj => ?_⟩
      have hj8 : j < 2 := by
        have := (List.getElem?_eq_some_iff.1 hj).1
        simpa using this
      rw [hcell j hj8]
      exact hj
    obtain ⟨q, hq⟩ := choose_lt each
    have eq : ∀ j, j < len → ((List.range len).map q)[j]! = q j := fun j hj => by rw [getElem!_pos _ j (by simpa using hj)]; simp
    refine ⟨(List.range len).map q, ⟨by simp, fun j hj => by rw [eq j hj]; exact (hq j (by omega)).1, fun j hj => ?_⟩, (fun h => by cases h), hl, Nat.le_trans hl hm⟩
    obtain ⟨b, off, sp⟩ := ad
    have hsp : sp = none := by
      cases sp with
      | none => rfl
      | some s =>
        exfalso
        have g := (hq 0 (by omega)).2 0 _ rfl
        rw [show ((⟨b, off, some s⟩ : Addr).add (0 * 2)).add 0 = ⟨b, off, some s⟩ from rfl] at g
        unfold World.cell? at g
        split at g
        · simp at g
        · cases g
    subst hsp
    rw [eq j hj]
    have c : ∀ t v, [Value.int .i64 (q j).rg, .int .u32 (q j).v][t]? = some v → w.cell? ⟨b, off + j * 2 + t, none⟩ = some v := fun t v hv => by
      have := (hq j (by omega)).2 t v hv
      rw [add_plain, add_plain] at this
      exact this
    exact ⟨b, off, rfl, ⟨c 0 _ rfl, c 1 _ rfl⟩⟩
end Go.Proofs.Ytelmkfpomeilpaa.IdD
