/- A region by value: opened, shut (a struct with a struct in it). -/
import Derived.Lib.SmallJoins
import Derived.Test.YtmkponhhinjpkaaGreatProg
namespace Go.Proofs.YtmkponhhinjpkaaGreat.Regs
open Go.ChangeShapes Go.WideShapes Go.RowKit Go.Deep Go.WideElems Go.Maps Go.Joins
set_option linter.unusedVariables false
variable {H : Type} {enc : TypeId × Value → H} {w : World} {base : Nat} {spare : Nat → Bool} {held : Bool}

theorem cB : Tryz.prog.cellsOf 4 = 1 := by kernel_rfl
theorem cI : Tryz.prog.cellsOf 3 = 1 := by kernel_rfl
theorem cU : Tryz.prog.cellsOf 23 = 1 := by kernel_rfl
theorem cR : Tryz.prog.cellsOf 35 = 2 := by kernel_rfl
theorem cG : Tryz.prog.cellsOf 37 = 8 := by kernel_rfl
/-- What a region reads as. -/
abbrev rdata (o : Bool) (W F T : Int) (rd wr : Bool) (K : Int) (lk : Bool) : DataW H :=
  .agg [.lit (.bool o), .lit (.int .i64 W), .agg [.lit (.int .u32 F), .lit (.int .u32 T)], .lit (.bool rd), .lit (.bool wr), .lit (.int .i64 K), .lit (.bool lk)]

set_option maxRecDepth 100000 in
theorem open_region {r : Reach} {b0 : Nat} {v : Value} {d : DataW H} {p : List MemPlace}
    (hv : Value.okWide Tryz.prog w r b0 37 v) (h : DataW.Trod enc Tryz.prog w base spare held 37 v d p) :
    ∃ (o : Bool) (W F T : Int) (rd wr : Bool) (K : Int) (lk : Bool), v = .agg #[.bool o, .int .i64 W, .int .u32 F, .int .u32 T, .bool rd, .bool wr, .int .i64 K, .bool lk] ∧ d = rdata o W F T rd wr K lk ∧ p = [] ∧
      (Lit.int .i64 W).wf = true ∧ (Lit.int .u32 F).wf = true ∧ (Lit.int .u32 T).wf = true ∧ (Lit.int .i64 K).wf = true := by
  obtain ⟨cs, rfl, hsz⟩ := okWide_struct Tryz.underlying37 hv
  obtain ⟨c0, c1, c2, c3, c4, c5, c6, c7, rfl⟩ : ∃ c0 c1 c2 c3 c4 c5 c6 c7, cs = #[c0, c1, c2, c3, c4, c5, c6, c7] := by
    obtain ⟨l⟩ := cs
    have hl : l.length = 8 := hsz.trans cG
    match l, hl with
    | [c0, c1, c2, c3, c4, c5, c6, c7], _ => exact ⟨c0, c1, c2, c3, c4, c5, c6, c7, rfl⟩
  obtain ⟨fuel, hf⟩ := h
  obtain ⟨xs, n, _, hx, hl, hlen, hg⟩ := DataW.trod_struct Tryz.underlying37 hf
  obtain ⟨y0, y1, y2, y3, y4, y5, y6, rfl⟩ : ∃ y0 y1 y2 y3 y4 y5 y6, xs = [y0, y1, y2, y3, y4, y5, y6] := by
    have hl : xs.length = 7 := by simpa using hlen
    match xs, hl with
    | [y0, y1, y2, y3, y4, y5, y6], _ => exact ⟨y0, y1, y2, y3, y4, y5, y6, rfl⟩
  have g0 := hg 0 _ rfl
  have g1 := hg 1 _ rfl
  have g2 := hg 2 _ rfl
  have g3 := hg 3 _ rfl
  have g4 := hg 4 _ rfl
  have g5 := hg 5 _ rfl
  have g6 := hg 6 _ rfl
  simp [Value.cells, cB, cI, cR] at g0 g1 g2 g3 g4 g5 g6
  obtain ⟨zs, n2, _, hx2, _, hlen2, hg2⟩ := DataW.trod_struct Tryz.underlying35 g2
  obtain ⟨z0, z1, rfl⟩ : ∃ z0 z1, zs = [z0, z1] := by
    have hl : zs.length = 2 := by simpa using hlen2
    match zs, hl with
    | [z0, z1], _ => exact ⟨z0, z1, rfl⟩
  have i0 := hg2 0 _ rfl
  have i1 := hg2 1 _ rfl
  simp [cU] at i0 i1
  obtain ⟨o, e0, rfl⟩ := DataW.trod_bool Tryz.underlying4 g0
  obtain ⟨W, e1, rfl, w1⟩ := DataW.trod_int Tryz.underlying3 g1
  obtain ⟨F, e2, rfl, w2⟩ := DataW.trod_int Tryz.underlying23 i0
  obtain ⟨T, e3, rfl, w3⟩ := DataW.trod_int Tryz.underlying23 i1
  obtain ⟨rd, e4, rfl⟩ := DataW.trod_bool Tryz.underlying4 g3
  obtain ⟨wr, e5, rfl⟩ := DataW.trod_bool Tryz.underlying4 g4
  obtain ⟨K, e6, rfl, w6⟩ := DataW.trod_int Tryz.underlying3 g5
  obtain ⟨lk, e7, rfl⟩ := DataW.trod_bool Tryz.underlying4 g6
  simp at e0 e1 e2 e3 e4 e5 e6 e7
  subst e0 e1 e2 e3 e4 e5 e6 e7
  simp at hx2
  subst hx2
  simp at hx
  exact ⟨o, W, F, T, rd, wr, K, lk, rfl, hx.1, hx.2, w1, w2, w3, w6⟩

set_option maxRecDepth 100000 in
theorem shut_region {o : Bool} {W F T : Int} {rd wr : Bool} {K : Int} {lk : Bool} (w1 : (Lit.int .i64 W).wf = true) (w2 : (Lit.int .u32 F).wf = true) (w3 : (Lit.int .u32 T).wf = true) (w6 : (Lit.int .i64 K).wf = true) :
    DataW.Trod enc Tryz.prog w base spare held 37 (.agg #[.bool o, .int .i64 W, .int .u32 F, .int .u32 T, .bool rd, .bool wr, .int .i64 K, .bool lk]) (rdata o W F T rd wr K lk) [] := by
  have r := trod_struct_mk (enc := enc) (w := w) (base := base) (spare := spare) (held := held) (n := 1) (cs := [.int .u32 F, .int .u32 T]) (xs := [(.lit (.int .u32 F), []), (.lit (.int .u32 T), [])]) Tryz.underlying35 (by simp [cR])
    (by simp [cU, DataW.trod, Tryz.underlying23, w2, w3])
  simp at r
  have b : ∀ x : Bool, DataW.trod enc Tryz.prog w base spare held 2 4 [.bool x] = some (.lit (.bool x), []) := fun x => by simp [DataW.trod, Tryz.underlying4]
  have i : ∀ x : Int, (Lit.int .i64 x).wf = true → DataW.trod enc Tryz.prog w base spare held 2 3 [.int .i64 x] = some (.lit (.int .i64 x), []) := fun x h => by simp [DataW.trod, Tryz.underlying3, h]
  have ts := trod_struct_mk (enc := enc) (w := w) (base := base) (spare := spare) (held := held) (n := 2) (cs := [.bool o, .int .i64 W, .int .u32 F, .int .u32 T, .bool rd, .bool wr, .int .i64 K, .bool lk])
    (xs := [(.lit (.bool o), []), (.lit (.int .i64 W), []), (.agg [.lit (.int .u32 F), .lit (.int .u32 T)], []), (.lit (.bool rd), []), (.lit (.bool wr), []), (.lit (.int .i64 K), []), (.lit (.bool lk), [])]) Tryz.underlying37 (by simp [cG])
    (by simp [cB, cI, cR, b, i, r, w1, w6])
  exact ⟨_, by simpa [Value.cells] using ts⟩
end Go.Proofs.YtmkponhhinjpkaaGreat.Regs
