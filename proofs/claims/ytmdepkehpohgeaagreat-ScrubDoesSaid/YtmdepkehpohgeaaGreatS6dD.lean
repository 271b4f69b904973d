/- A slice of septumlaw16.Deed that came in, opened. -/
import Derived.Lib.SmallJoins
import Derived.Test.YtmdepkehpohgeaaGreatS6d
import Derived.Deep.Slices
namespace Go.Proofs.YtmdepkehpohgeaaGreat.S6dD
open Go.ChangeShapes Go.WideShapes Go.RowKit Go.Deep Go.WideElems Go.Maps Go.Joins
set_option linter.unusedVariables false
variable {H : Type} {enc : TypeId × Value → H} {w : World} {base : Nat} {spare : Nat → Bool} {held : Bool}

theorem k0 : Tryz.prog.cellsOf 3 = 1 := by kernel_rfl
theorem cG : Tryz.prog.cellsOf 39 = 3 := by kernel_rfl
theorem wf_i64 {x : Int} (h : (Lit.int .i64 x).wf = true) : -9223372036854775808 ≤ x ∧ x ≤ 9223372036854775807 := by
  simp only [Lit.wf, Bool.and_eq_true, decide_eq_true_eq] at h
  have h1 : IntKind.i64.min = -9223372036854775808 := rfl
  have h2 : IntKind.i64.max = 9223372036854775807 := rfl
  omega
theorem wf_u32 {x : Int} (h : (Lit.int .u32 x).wf = true) : 0 ≤ x ∧ x < 4294967296 := by
  simp only [Lit.wf, Bool.and_eq_true, decide_eq_true_eq] at h
  have h1 : IntKind.u32.min = 0 := rfl
  have h2 : IntKind.u32.max = 4294967295 := rfl
  omega
theorem wf_u8 {x : Int} (h : (Lit.int .u8 x).wf = true) : 0 ≤ x ∧ x < 256 := by
  simp only [Lit.wf, Bool.and_eq_true, decide_eq_true_eq] at h
  have h1 : IntKind.u8.min = 0 := rfl
  have h2 : IntKind.u8.max = 255 := rfl
  omega
set_option maxRecDepth 100000 in
theorem elem_cells {n : Nat} {cs : List Value} {x : DataW H × List MemPlace} (hlen : cs.length = 3) (h : DataW.trod enc Tryz.prog w base spare held n 39 cs = some x) :
    ∃ g : Scr.Dd, cs = [Value.int .i64 g.wh, .int .i64 g.n, .int .i64 g.w] ∧ Scr.okDd g := by
  obtain ⟨c0, c1, c2, rfl⟩ : ∃ c0 c1 c2, cs = [c0, c1, c2] := by
    match cs, hlen with
    | [c0, c1, c2], _ => exact ⟨c0, c1, c2, rfl⟩
  obtain ⟨xs, k, _, hx, hl, hxl, hg⟩ := DataW.trod_struct Tryz.underlying39 h
  obtain ⟨y0, y1, y2, rfl⟩ : ∃ y0 y1 y2, xs = [y0, y1, y2] := by
    have hl : xs.length = 3 := by simpa using hxl
    match xs, hl with
    | [y0, y1, y2], _ => exact ⟨y0, y1, y2, rfl⟩
  have g0 := hg 0 _ rfl
  have g1 := hg 1 _ rfl
  have g2 := hg 2 _ rfl
  simp [k0] at g0 g1 g2
  obtain ⟨z0, e0, _, w0⟩ := DataW.trod_int Tryz.underlying3 g0
  obtain ⟨z1, e1, _, w1⟩ := DataW.trod_int Tryz.underlying3 g1
  obtain ⟨z2, e2, _, w2⟩ := DataW.trod_int Tryz.underlying3 g2
  simp at e0 e1 e2
  subst e0 e1 e2
  exact ⟨⟨z0, z1, z2⟩, rfl, wf_i64 w0, wf_i64 w1, wf_i64 w2⟩
set_option maxRecDepth 100000 in
theorem elem_row {fuel : Nat} {a : Option Addr} {len cap : Nat} {x : DataW H × List MemPlace} (h : DataW.trod enc Tryz.prog w base spare held fuel 23 [.slice a len cap] = some x) :
    ∃ l, Scr.RowDd w a len l ∧ (a = none → len = 0 ∧ cap = 0) ∧ len ≤ cap ∧ len ≤ maxLen := by
  rcases open_slice Tryz.underlying23 h with ⟨hcs, _⟩ | ⟨ad, len', cap', m, n, D, Pl, hcs, hb, hl, hm, hmm, _, hx⟩
  · simp at hcs
    obtain ⟨rfl, rfl, rfl⟩ := hcs
    exact ⟨[], Scr.RowDd.nil w none, fun _ => ⟨rfl, rfl⟩, Nat.le_refl _, Nat.zero_le _⟩
  · simp at hcs
    obtain ⟨rfl, rfl, rfl⟩ := hcs
    have hlm : len ≤ m := by split at hmm <;> omega
    have each : ∀ i, i < m → ∃ g : Scr.Dd, Scr.okDd g ∧ ∀ j v, [Value.int .i64 g.wh, .int .i64 g.n, .int .i64 g.w][j]? = some v → w.cell? ((ad.add (i * 3)).add j) = some v := by
      intro i hi
      obtain ⟨cs', h1, h2⟩ := hx i hi
      rw [cG] at h1
      obtain ⟨_, hlen, hcell⟩ := World.cells?_some h1
      obtain ⟨g, rfl, hok⟩ := elem_cells hlen h2
      refine ⟨g, hok, fun j v hj => ?_⟩
      have hj8 : j < 3 := by
        have := (List.getElem?_eq_some_iff.1 hj).1
        simpa using this
      rw [hcell j hj8]
      exact hj
    obtain ⟨q, hq⟩ := choose_lt each
    have eq : ∀ j, j < len → ((List.range len).map q)[j]! = q j := fun j hj => by rw [getElem!_pos _ j (by simpa using hj)]; simp
    refine ⟨(List.range len).map q, ⟨by simp, fun j hj => by rw [eq j hj]; exact (hq j (by omega)).1, fun j hj => ?_⟩, (fun h => by cases h), hl, Nat.le_trans hl hm⟩
    obtain ⟨b, off, sp⟩ := ad
    have hsp : sp = none := by
      cases sp with
      | none => rfl
      | some s =>
        exfalso
        have g := (hq 0 (by omega)).2 0 _ rfl
        rw [show ((⟨b, off, some s⟩ : Addr).add (0 * 3)).add 0 = ⟨b, off, some s⟩ from rfl] at g
        unfold World.cell? at g
        split at g
        · simp at g
        · cases g
    subst hsp
    rw [eq j hj]
    have c : ∀ t v, [Value.int .i64 (q j).wh, .int .i64 (q j).n, .int .i64 (q j).w][t]? = some v → w.cell? ⟨b, off + j * 3 + t, none⟩ = some v := fun t v hv => by
      have := (hq j (by omega)).2 t v hv
      rw [add_plain, add_plain] at this
      exact this
    exact ⟨b, off, rfl, ⟨c 0 _ rfl, c 1 _ rfl, c 2 _ rfl⟩⟩
end Go.Proofs.YtmdepkehpohgeaaGreat.S6dD
