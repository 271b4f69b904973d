/- A slice of devices that came in, opened. -/
import Derived.Lib.SmallJoins
import Derived.Test.YtmdepkehpohgeaaGreatVb
import Derived.Deep.Slices
namespace Go.Proofs.YtmdepkehpohgeaaGreat.Regv
open Go.ChangeShapes Go.WideShapes Go.RowKit Go.Deep Go.WideElems Go.Maps Go.Joins
set_option linter.unusedVariables false
variable {H : Type} {enc : TypeId × Value → H} {w : World} {base : Nat} {spare : Nat → Bool} {held : Bool}

theorem cK : Tryz.prog.cellsOf 42 = 1 := by kernel_rfl
theorem cU : Tryz.prog.cellsOf 43 = 1 := by kernel_rfl
theorem cI : Tryz.prog.cellsOf 3 = 1 := by kernel_rfl
theorem cG : Tryz.prog.cellsOf 45 = 5 := by kernel_rfl
theorem wf_i64 {x : Int} (h : (Lit.int .i64 x).wf = true) : -9223372036854775808 ≤ x ∧ x ≤ 9223372036854775807 := by
  simp only [Lit.wf, Bool.and_eq_true, decide_eq_true_eq] at h
  have h1 : IntKind.i64.min = -9223372036854775808 := rfl
  have h2 : IntKind.i64.max = 9223372036854775807 := rfl
  omega
theorem wf_u32 {x : Int} (h : (Lit.int .u32 x).wf = true) : 0 ≤ x ∧ x < 4294967296 := by
  simp only [Lit.wf, Bool.and_eq_true, decide_eq_true_eq] at h
  have h1 : IntKind.u32.min = 0 := rfl
  have h2 : IntKind.u32.max = 4294967295 := rfl
  omega
set_option maxRecDepth 100000 in
theorem device_cells {n : Nat} {cs : List Value} {x : DataW H × List MemPlace} (hlen : cs.length = 5) (h : DataW.trod enc Tryz.prog w base spare held n 45 cs = some x) :
    ∃ g : Win.Dv, cs = [.int .i64 g.k, .int .u32 g.B, .int .i64 g.S, .int .i64 g.O, .int .i64 g.L] ∧ Win.okD g := by
  obtain ⟨c0, c1, c2, c3, c4, rfl⟩ : ∃ c0 c1 c2 c3 c4, cs = [c0, c1, c2, c3, c4] := by
    match cs, hlen with
    | [c0, c1, c2, c3, c4], _ => exact ⟨c0, c1, c2, c3, c4, rfl⟩
  obtain ⟨xs, k, _, hx, hl, hxl, hg⟩ := DataW.trod_struct Tryz.underlying45 h
  obtain ⟨y0, y1, y2, y3, y4, rfl⟩ : ∃ y0 y1 y2 y3 y4, xs = [y0, y1, y2, y3, y4] := by
    have hl : xs.length = 5 := by simpa using hxl
    match xs, hl with
    | [y0, y1, y2, y3, y4], _ => exact ⟨y0, y1, y2, y3, y4, rfl⟩
  have g0 := hg 0 _ rfl
  have g1 := hg 1 _ rfl
  have g2 := hg 2 _ rfl
  have g3 := hg 3 _ rfl
  have g4 := hg 4 _ rfl
  simp [cK, cI, cU] at g0 g1 g2 g3 g4
  obtain ⟨k, e0, _, w0⟩ := DataW.trod_int Tryz.underlying42 g0
  obtain ⟨B, e1, _, w1⟩ := DataW.trod_int Tryz.underlying43 g1
  obtain ⟨S, e2, _, w2⟩ := DataW.trod_int Tryz.underlying3 g2
  obtain ⟨O, e3, _, w3⟩ := DataW.trod_int Tryz.underlying3 g3
  obtain ⟨L, e4, _, w4⟩ := DataW.trod_int Tryz.underlying3 g4
  simp at e0 e1 e2 e3 e4
  subst e0 e1 e2 e3 e4
  exact ⟨⟨k, B, S, O, L⟩, rfl, wf_i64 w0, wf_u32 w1, wf_i64 w2, wf_i64 w3, wf_i64 w4⟩

set_option maxRecDepth 100000 in
theorem device_row {fuel : Nat} {a : Option Addr} {len cap : Nat} {x : DataW H × List MemPlace} (h : DataW.trod enc Tryz.prog w base spare held fuel 22 [.slice a len cap] = some x) :
    ∃ l, Win.RowV w a len l ∧ (a = none → len = 0 ∧ cap = 0) ∧ len ≤ cap ∧ len ≤ maxLen := by
  rcases open_slice Tryz.underlying22 h with ⟨hcs, _⟩ | ⟨ad, len', cap', m, n, D, Pl, hcs, hb, hl, hm, hmm, _, hx⟩
  · simp at hcs
    obtain ⟨rfl, rfl, rfl⟩ := hcs
    exact ⟨[], Win.RowV.nil w, fun _ => ⟨rfl, rfl⟩, Nat.le_refl _, Nat.zero_le _⟩
  · simp at hcs
    obtain ⟨rfl, rfl, rfl⟩ := hcs
    have hlm : len ≤ m := by split at hmm <;> omega
    have each : ∀ i, i < m → ∃ g : Win.Dv, Win.okD g ∧ ∀ j v, [Value.int .i64 g.k, .int .u32 g.B, .int .i64 g.S, .int .i64 g.O, .int .i64 g.L][j]? = some v → w.cell? ((ad.add (i * 5)).add j) = some v := by
      intro i hi
      obtain ⟨cs', h1, h2⟩ := hx i hi
      rw [cG] at h1
      obtain ⟨_, hlen, hcell⟩ := World.cells?_some h1
      obtain ⟨g, rfl, hok⟩ := device_cells hlen h2
      refine ⟨g, hok, fun j v hj => ?_⟩
      have hj8 : j < 5 := by
        have := (List.getElem?_eq_some_iff.1 hj).1
        simpa using this
      rw [hcell j hj8]
      exact hj
    obtain ⟨q, hq⟩ := choose_lt each
    have eq : ∀ j, j < len → ((List.range len).map q)[j]! = q j := fun j hj => by rw [getElem!_pos _ j (by simpa using hj)]; simp
    refine ⟨(List.range len).map q, ⟨by simp, fun j hj => by rw [eq j hj]; exact (hq j (by omega)).1, fun j hj => ?_⟩, (fun h => by cases h), hl, Nat.le_trans hl hm⟩
    obtain ⟨b, off, sp⟩ := ad
    have hsp : sp = none := by
      cases sp with
      | none => rfl
      | some s =>
        exfalso
        have g := (hq 0 (by omega)).2 0 _ rfl
        rw [show ((⟨b, off, some s⟩ : Addr).add (0 * 5)).add 0 = ⟨b, off, some s⟩ from rfl] at g
        unfold World.cell? at g
        split at g
        · simp at g
        · cases g
    subst hsp
    rw [eq j hj]
    have c : ∀ t v, [Value.int .i64 (q j).k, .int .u32 (q j).B, .int .i64 (q j).S, .int .i64 (q j).O, .int .i64 (q j).L][t]? = some v → w.cell? ⟨b, off + j * 5 + t, none⟩ = some v := fun t v hv => by
      have := (hq j (by omega)).2 t v hv
      rw [add_plain, add_plain] at this
      exact this
    exact ⟨b, off, rfl, ⟨c 0 _ rfl, c 1 _ rfl, c 2 _ rfl, c 3 _ rfl, c 4 _ rfl⟩⟩
end Go.Proofs.YtmdepkehpohgeaaGreat.Regv
