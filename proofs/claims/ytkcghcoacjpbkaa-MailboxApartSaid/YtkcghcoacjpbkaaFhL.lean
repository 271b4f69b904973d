/- Package fifo's ring of uint32: take. -/
import Derived.Test.YtkcghcoacjpbkaaFgL
import Derived.BigRegion
namespace Go.Proofs.Ytkcghcoacjpbkaa.FL
open Go.RowKit Fifo
set_option linter.unusedVariables false

theorem zero_run : ∀ w, (zeroValue 28).run Try.prog w = .ok (.int .u32 0) w := fun w => by
  obtain ⟨i0, hi, hz0, hz1, hz2⟩ := info_parts info_e
  simp [zeroValue, typeInfo, hi, hz0]
theorem clear_one (g f c ty : Nat) (y : Value) (W : World) (h : W.cell? ⟨g, f, none⟩ = some y) (hf : W.frozen? ⟨g, f, none⟩ = false) :
    (Builtin.clear_ #[27] ty #[.slice (some ⟨g, f, none⟩) 1 c]).run Try.prog W = .ok (.tuple #[]) (W.setCell ⟨g, f, none⟩ (.int .u32 0)) := by
  have e : (Builtin.zeroCells #[(.int .u32 0 : Value)] 1).toList = [.int .u32 0] := by
    apply List.ext_getElem
    · simp [Builtin.zeroCells]
    · intro i h1 h2
      simp [Builtin.zeroCells, Nat.mod_one]
  simp [Builtin.clear_, run_underlying Try.underlying27, Value.cells, e, storeCells, go_sem, h, hf]
set_option maxHeartbeats 1000000 in
theorem take_any {sf : Value} (b room f : Nat) (t vs : List Value) (pv x : Value) (w : World) (h : Ring sf w b room (x :: t) pv f vs) :
    Calls Try.prog 57 #[.pointer (some ⟨b, 0, none⟩)] w fun e w' => e = .returned x ∧
      ∃ f' vs', Ring sf w' b room t pv f' vs' ∧ Only (RB b pv) w w' := by
  obtain ⟨hB, hP, hR, hle, hbig, hfew, helm⟩ := h
  obtain ⟨hx, hfn⟩ := ringL_head hR
  have htake := ringL_take hR (.int .u32 0)
  obtain ⟨g, rfl, hG⟩ := hP.some (by omega)
  obtain ⟨n, hn⟩ : ∃ n, vs.length = n := ⟨_, rfl⟩
  obtain ⟨i, hi⟩ : ∃ i, (f + 1) % n = i := ⟨_, rfl⟩
  obtain ⟨s, hs⟩ : ∃ s, f + 1 = s := ⟨_, rfl⟩
  rw [hn] at hfew hB hfn htake ⊢
  rw [hi] at htake
  have C := fun w h1 h2 hx => first_any b g f n x w h1 h2 hfew hfn hx
  have hbg : b ≠ g := Blk.ne hB hG (by decide)
  have hgb : g ≠ b := Ne.symm hbg
  have ht4 : t.length ≤ 4000 := by have := hR.1; simp only [List.length_cons] at this; omega
  simp only [List.length_cons] at hB hle
  have d1 : IntKind.i64.wrap ((f : Int) + 1) = (s : Int) := by rw [i64w (by omega)]; omega
  have d2 : ¬ ((n : Int) = 0) := by omega
  have d3 : Int.tmod (s : Int) (n : Int) = (i : Int) := tmod_at s n i (by rw [← hs]; exact hi)
  have d4 : IntKind.i64.wrap (((t.length + 1 : Nat) : Int) - 1) = (t.length : Int) := by rw [i64w (by omega)]; omega
  have d5 : (f : Int) ≤ (s : Int) := by omega
  have d6 : (s : Int) ≤ (n : Int) := by omega
  have d7 : s - f = 1 := by omega
  have d8 : s ≤ n := by omega
  have d9 : f ≤ s := by omega
  have HX := Lib.hid (And.intro htake (And.intro (show t.length ≤ room by omega) (And.intro hbig (And.intro (show (vs.set f (.int .u32 0)).length ≤ 4000 by rw [List.length_set]; omega) (show ∀ v ∈ t, Elm v from fun v hv => helm v (List.mem_cons_of_mem _ hv))))))
  have HB := Lib.hid hB
  have HG := Lib.hid hG
  have HC := Lib.hid (C w (hB.at 1 rfl) (hB.at 2 rfl) (hG.at f hx))
  have Hx := Lib.hid hx
  have Hn := Lib.hid hn
  clear hB hG C hx hn hi hs hR hle hbig hfew helm hP htake
  go_enter Try.func57, Try.ntmps57
  go_wp2_with fail
  refine HC.out.mono ?_
  rintro e w1 ⟨rfl, hb1⟩
  have G1 := HG.out.keep hb1
  have B1 := HB.out.keep hb1
  have p1 := B1.at 1 rfl
  have p2 := B1.at 2 rfl
  have p3 := B1.at 3 rfl
  have f2 := B1.frozen 2
  have f3 := B1.frozen 3
  have q1 := G1.at f Hx.out
  have g1 := G1.frozen f
  have HB1 := Lib.hid B1
  have HG1 := Lib.hid G1
  have HO1 := Lib.hid (Only.of_below (S := RB b (.slice (some ⟨g, 0, none⟩) n n)) hb1)
  have hcl := fun c ty => clear_one g f c ty x w1.drew (by exact q1) (by exact g1)
  clear HC HB HG B1 G1 hb1
  go_wp2_with fail
  go_region
  refine exit_letter ?_
  intro W hW
  have B2 : Blk W b 76 [.int .i64 (room : Nat), .slice (some ⟨g, 0, none⟩) n n, .int .i64 (f : Nat), .int .i64 ((t.length + 1 : Nat) : Int), sf] := by rw [hW.out]; exact (HB1.out.other (p := ⟨g, f, none⟩) hbg (.int .u32 0)).keep (Below.refl _ _).drew
  have G2 : Blk W g 28 (vs.set f (.int .u32 0)) := by rw [hW.out]; exact (HG1.out.set f (.int .u32 0)).keep (Below.refl _ _).drew
  have O2 : Only (RB b (.slice (some ⟨g, 0, none⟩) n n)) w W := by rw [hW.out]; exact (HO1.out.setCell (p := ⟨g, f, none⟩) (.inr rfl) (.int .u32 0)).trans (Only.of_below (Below.refl _ _).drew)
  clear hW hcl p1 p2 p3 f2 f3 q1 g1 HB1 HG1 HO1
  have p1 := B2.at 1 rfl
  have p2 := B2.at 2 rfl
  have f2 := B2.frozen 2
  have HB2 := Lib.hid B2
  have HG2 := Lib.hid G2
  have HO2 := Lib.hid O2
  clear B2 G2 O2
  go_wp2_with fail
  go_region
  refine exit_letter ?_
  intro W3 hW
  have B3 : Blk W3 b 76 [.int .i64 (room : Nat), .slice (some ⟨g, 0, none⟩) n n, .int .i64 (i : Nat), .int .i64 ((t.length + 1 : Nat) : Int), sf] := by rw [hW.out]; exact (HB2.out.set 2 (.int .i64 (i : Nat))).keep (Below.refl _ _).drew
  have G3 : Blk W3 g 28 (vs.set f (.int .u32 0)) := by rw [hW.out]; exact (HG2.out.other (p := ⟨b, 2, none⟩) hgb (.int .i64 (i : Nat))).keep (Below.refl _ _).drew
  have O3 : Only (RB b (.slice (some ⟨g, 0, none⟩) n n)) w W3 := by rw [hW.out]; exact (HO2.out.setCell (p := ⟨b, 2, none⟩) (.inl rfl) (.int .i64 (i : Nat))).trans (Only.of_below (Below.refl _ _).drew)
  clear hW p1 p2 f2 HB2 HG2 HO2
  have p3 := B3.at 3 rfl
  have f3 := B3.frozen 3
  have HB4 := Lib.hid (B3.set 3 (.int .i64 (t.length : Nat)))
  have HG4 := Lib.hid (G3.other (p := ⟨b, 3, none⟩) hgb (.int .i64 (t.length : Nat)))
  have HO4 := Lib.hid (O3.setCell (p := ⟨b, 3, none⟩) (.inl rfl) (.int .i64 (t.length : Nat)))
  clear B3 G3 O3
  go_wp2_with fail
  go_ret
  obtain ⟨r1, r2, r3, r4, r5⟩ := HX.out
  exact ⟨rfl, i, vs.set f (.int .u32 0), ⟨HB4.out, .inr ⟨g, by rw [List.length_set, Hn.out], HG4.out⟩, r1, r2, r3, r4, r5⟩, HO4.out⟩
end Go.Proofs.Ytkcghcoacjpbkaa.FL
