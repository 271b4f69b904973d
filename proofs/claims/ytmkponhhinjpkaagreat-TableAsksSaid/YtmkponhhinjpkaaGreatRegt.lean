/- A slice of regions that came in, opened. -/
import Derived.Test.YtmkponhhinjpkaaGreatRegs
import Derived.Test.YtmkponhhinjpkaaGreatTc
import Derived.Deep.Slices
namespace Go.Proofs.YtmkponhhinjpkaaGreat.Regs
open Go.ChangeShapes Go.WideShapes Go.RowKit Go.Deep Go.WideElems Go.Maps Go.Joins
set_option linter.unusedVariables false
variable {H : Type} {enc : TypeId × Value → H} {w : World} {base : Nat} {spare : Nat → Bool} {held : Bool}

set_option maxRecDepth 100000 in
theorem region_cells {n : Nat} {cs : List Value} {x : DataW H × List MemPlace} (hlen : cs.length = 8) (h : DataW.trod enc Tryz.prog w base spare held n 37 cs = some x) :
    ∃ g : Table.Rg, cs = [.bool g.o, .int .i64 g.W, .int .u32 g.F, .int .u32 g.T, .bool g.rd, .bool g.wr, .int .i64 g.K, .bool g.lk] := by
  obtain ⟨c0, c1, c2, c3, c4, c5, c6, c7, rfl⟩ : ∃ c0 c1 c2 c3 c4 c5 c6 c7, cs = [c0, c1, c2, c3, c4, c5, c6, c7] := by
    match cs, hlen with
    | [c0, c1, c2, c3, c4, c5, c6, c7], _ => exact ⟨c0, c1, c2, c3, c4, c5, c6, c7, rfl⟩
  obtain ⟨xs, k, _, hx, hl, hxl, hg⟩ := DataW.trod_struct Tryz.underlying37 h
  obtain ⟨y0, y1, y2, y3, y4, y5, y6, rfl⟩ : ∃ y0 y1 y2 y3 y4 y5 y6, xs = [y0, y1, y2, y3, y4, y5, y6] := by
    have hl : xs.length = 7 := by simpa using hxl
    match xs, hl with
    | [y0, y1, y2, y3, y4, y5, y6], _ => exact ⟨y0, y1, y2, y3, y4, y5, y6, rfl⟩
  have g0 := hg 0 _ rfl
  have g1 := hg 1 _ rfl
  have g2 := hg 2 _ rfl
  have g3 := hg 3 _ rfl
  have g4 := hg 4 _ rfl
  have g5 := hg 5 _ rfl
  have g6 := hg 6 _ rfl
  simp [cB, cI, cR] at g0 g1 g2 g3 g4 g5 g6
  obtain ⟨zs, n2, _, hx2, _, hlen2, hg2⟩ := DataW.trod_struct Tryz.underlying35 g2
  obtain ⟨z0, z1, rfl⟩ : ∃ z0 z1, zs = [z0, z1] := by
    have hl : zs.length = 2 := by simpa using hlen2
    match zs, hl with
    | [z0, z1], _ => exact ⟨z0, z1, rfl⟩
  have i0 := hg2 0 _ rfl
  have i1 := hg2 1 _ rfl
  simp [cU] at i0 i1
  obtain ⟨o, e0, _⟩ := DataW.trod_bool Tryz.underlying4 g0
  obtain ⟨W, e1, _, _⟩ := DataW.trod_int Tryz.underlying3 g1
  obtain ⟨F, e2, _, _⟩ := DataW.trod_int Tryz.underlying23 i0
  obtain ⟨T, e3, _, _⟩ := DataW.trod_int Tryz.underlying23 i1
  obtain ⟨rd, e4, _⟩ := DataW.trod_bool Tryz.underlying4 g3
  obtain ⟨wr, e5, _⟩ := DataW.trod_bool Tryz.underlying4 g4
  obtain ⟨K, e6, _, _⟩ := DataW.trod_int Tryz.underlying3 g5
  obtain ⟨lk, e7, _⟩ := DataW.trod_bool Tryz.underlying4 g6
  simp at e0 e1 e2 e3 e4 e5 e6 e7
  subst e0 e1 e2 e3 e4 e5 e6 e7
  exact ⟨⟨o, W, F, T, rd, wr, K, lk⟩, rfl⟩

set_option maxRecDepth 100000 in
theorem table_row {fuel : Nat} {a : Option Addr} {len cap : Nat} {x : DataW H × List MemPlace} (h : DataW.trod enc Tryz.prog w base spare held fuel 22 [.slice a len cap] = some x) :
    ∃ l, Table.RowG w a len l ∧ (a = none → len = 0 ∧ cap = 0) ∧ len ≤ cap ∧ len ≤ maxLen := by
  rcases open_slice Tryz.underlying22 h with ⟨hcs, _⟩ | ⟨ad, len', cap', m, n, D, Pl, hcs, hb, hl, hm, hmm, _, hx⟩
  · simp at hcs
    obtain ⟨rfl, rfl, rfl⟩ := hcs
    exact ⟨[], Table.RowG.nil w, fun _ => ⟨rfl, rfl⟩, Nat.le_refl _, Nat.zero_le _⟩
  · simp at hcs
    obtain ⟨rfl, rfl, rfl⟩ := hcs
    have hlm : len ≤ m := by split at hmm <;> omega
    have each : ∀ i, i < m → ∃ g : Table.Rg, ∀ j v, [Value.bool g.o, .int .i64 g.W, .int .u32 g.F, .int .u32 g.T, .bool g.rd, .bool g.wr, .int .i64 g.K, .bool g.lk][j]? = some v → w.cell? ((ad.add (i * 8)).add j) = some v := by
      intro i hi
      obtain ⟨cs', h1, h2⟩ := hx i hi
      rw [cG] at h1
      obtain ⟨_, hlen, hcell⟩ := World.cells?_some h1
      obtain ⟨g, rfl⟩ := region_cells hlen h2
      refine ⟨g, fun j v hj => ?_⟩
      have hj8 : j < 8 := by
        have := (List.getElem?_eq_some_iff.1 hj).1
        simpa using this
      rw [hcell j hj8]
      exact hj
    obtain ⟨q, hq⟩ := choose_lt each
    refine ⟨(List.range len).map q, ⟨by simp, fun j hj => ?_⟩, (fun h => by cases h), hl, Nat.le_trans hl hm⟩
    obtain ⟨b, off, sp⟩ := ad
    have hsp : sp = none := by
      cases sp with
      | none => rfl
      | some s =>
        exfalso
        have g := hq 0 (by omega) 0 _ rfl
        rw [show ((⟨b, off, some s⟩ : Addr).add (0 * 8)).add 0 = ⟨b, off, some s⟩ from rfl] at g
        unfold World.cell? at g
        split at g
        · simp at g
        · cases g
    subst hsp
    have e : ((List.range len).map q)[j]! = q j := by rw [getElem!_pos _ j (by simpa using hj)]; simp
    rw [e]
    have c : ∀ t v, [Value.bool (q j).o, .int .i64 (q j).W, .int .u32 (q j).F, .int .u32 (q j).T, .bool (q j).rd, .bool (q j).wr, .int .i64 (q j).K, .bool (q j).lk][t]? = some v → w.cell? ⟨b, off + j * 8 + t, none⟩ = some v := fun t v hv => by
      have := hq j (by omega) t v hv
      rw [add_plain, add_plain] at this
      exact this
    exact ⟨b, off, rfl, ⟨c 0 _ rfl, c 1 _ rfl, c 2 _ rfl, c 3 _ rfl, c 4 _ rfl, c 5 _ rfl, c 6 _ rfl, c 7 _ rfl⟩⟩
end Go.Proofs.YtmkponhhinjpkaaGreat.Regs
