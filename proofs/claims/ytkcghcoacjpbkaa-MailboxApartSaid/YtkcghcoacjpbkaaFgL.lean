/- Package fifo's ring of uint32: put. -/
import Derived.Test.YtkcghcoacjpbkaaFfL
namespace Go.Proofs.Ytkcghcoacjpbkaa.FL
open Go.RowKit Fifo
set_option linter.unusedVariables false

theorem Blk.ne {w : World} {b g : Nat} {t e : TypeId} {cs vs : List Value} (h : Blk w b t cs) (k : Blk w g e vs) (hte : t ≠ e) : b ≠ g := by
  rintro rfl
  unfold Blk at h k
  rw [h] at k
  simp only [Option.some.injEq, Obj.cells.injEq] at k
  exact hte k.2.1
theorem Elm.one {v : Value} (h : Elm v) : v.oneCell' = true := by obtain ⟨z, rfl⟩ := h; rfl

theorem put_no {sf : Value} (b room f : Nat) (l vs : List Value) (pv x : Value) (w : World) (h : Ring sf w b room l pv f vs) (hl : l.length = room) :
    Calls Try.prog 58 #[.pointer (some ⟨b, 0, none⟩), x] w fun e w' => e = .returned (.bool false) ∧ Below w.heap.size w w' := by
  have L := left_any b room l.length w (h.blk.at 0 rfl) (h.blk.at 3 rfl) h.le h.big
  rw [show room - l.length = 0 by omega] at L
  clear h hl
  go_enter Try.func58, Try.ntmps58
  go_wp2_with fail
  refine L.mono ?_
  rintro e w1 ⟨rfl, hb1⟩
  clear L
  go_wp2_with fail
  go_ret
  exact ⟨rfl, hb1⟩

set_option maxHeartbeats 1000000 in
theorem put_fits {sf : Value} (b room f : Nat) (l vs : List Value) (pv x : Value) (w : World) (h : Ring sf w b room l pv f vs) (hl : l.length < room) (hv : l.length < vs.length) (hx : Elm x) :
    Calls Try.prog 58 #[.pointer (some ⟨b, 0, none⟩), x] w fun e w' => e = .returned (.bool true) ∧
      ∃ vs', Ring sf w' b room (l ++ [x]) pv f vs' ∧ Only (RB b pv) w w' := by
  have L := left_any b room l.length w (h.blk.at 0 rfl) (h.blk.at 3 rfl) h.le h.big
  obtain ⟨hB, hP, hR, hle, hbig, hfew, helm⟩ := h
  obtain ⟨g, rfl, hG⟩ := hP.some (by omega)
  obtain ⟨z, rfl⟩ := hx
  obtain ⟨d, hd⟩ : ∃ d, room - l.length = d := ⟨_, rfl⟩
  rw [hd] at L
  obtain ⟨n, hn⟩ : ∃ n, vs.length = n := ⟨_, rfl⟩
  obtain ⟨i, hi⟩ : ∃ i, (f + l.length) % n = i := ⟨_, rfl⟩
  have hin : i < n := by rw [← hi]; exact Nat.mod_lt _ (by omega)
  have hfn : f < n := by rw [← hn]; exact hR.2.2.1 (by omega)
  have A := fun w h1 h2 => at_any b g f n l.length w h1 h2 (by omega) (by omega) hfn (by omega)
  rw [hi] at A
  obtain ⟨y, hy⟩ : ∃ y, vs[i]? = some y := ⟨_, List.getElem?_eq_getElem (by omega)⟩
  have hput := ringL_put hR hv (.int .u32 z)
  rw [hn, hi] at hput
  rw [hn] at hB hv ⊢
  have hbg : b ≠ g := Blk.ne hB hG (by decide)
  have d0 : ¬ ((d : Int) = 0) := by omega
  have d1 : ¬ ((l.length : Int) = (n : Int)) := by omega
  have d2 : IntKind.i64.wrap ((l.length : Int) + 1) = ((l.length + 1 : Nat) : Int) := by rw [i64w (by omega)]; omega
  have HX := Lib.hid (And.intro hput (And.intro (show (l ++ [(.int .u32 z : Value)]).length ≤ room by simp; omega) (And.intro hbig (And.intro (show (vs.set i (.int .u32 z)).length ≤ 4000 by simpa using hfew) (show ∀ v ∈ l ++ [.int .u32 z], Elm v from fun v hv => (List.mem_append.1 hv).elim (helm v) (fun h => ⟨z, by simpa using h⟩))))))
  have HB := Lib.hid hB
  have HG := Lib.hid hG
  have HA := Lib.hid A
  have HY := Lib.hid hy
  have Hn := Lib.hid hn
  clear hB hG A hy hn hi hd hR hle hbig hfew helm hP hput hl hv hfn
  go_enter Try.func58, Try.ntmps58
  go_wp2_with fail
  refine L.mono ?_
  rintro e w1 ⟨rfl, hb1⟩
  clear L
  have p1 := (HB.out.keep hb1).at 1 rfl
  have p3 := (HB.out.keep hb1).at 3 rfl
  have Hb := Lib.hid hb1
  clear hb1
  go_wp2_with fail
  go_quiet (fail)
  go_wp2_with fail
  refine (HA.out _ ((HB.out.keep (Hb.out.trans (below_drewN _ _ |>.mono Hb.out.size))).at 1 rfl) ((HB.out.keep (Hb.out.trans (below_drewN _ _ |>.mono Hb.out.size))).at 2 rfl)).mono ?_
  rintro e w2 ⟨rfl, hb2⟩
  have hb3 : Below w.heap.size w w2 := (Hb.out.trans (below_drewN _ _ |>.mono Hb.out.size)).trans (hb2.mono Hb.out.size)
  clear p1 p3 hb2
  have G3 := HG.out.keep hb3
  have B3 := HB.out.keep hb3
  have p3 := B3.at 3 rfl
  have f3 := B3.frozen 3
  have q3 := G3.at i HY.out
  have g3 := G3.frozen i
  have HB3 := Lib.hid B3
  have HG3 := Lib.hid G3
  have Hb3 := Lib.hid hb3
  have hgb : g ≠ b := Ne.symm hbg
  clear B3 G3 hb3 Hb
  go_wp2_with fail
  go_ret
  have B4 := (HB3.out.other (p := ⟨g, i, none⟩) hbg (.int .u32 z)).set 3 (.int .i64 ((l.length : Int) + 1))
  have G4 := (HG3.out.set i (.int .u32 z)).other (p := ⟨b, 3, none⟩) hgb (.int .i64 ((l.length : Int) + 1))
  obtain ⟨r1, r2, r3, r4, r5⟩ := HX.out
  have e : (((l ++ [(.int .u32 z : Value)]).length : Nat) : Int) = l.length + 1 := by simp
  refine ⟨rfl, vs.set i (.int .u32 z), ⟨by rw [e]; exact B4, .inr ⟨g, by rw [List.length_set, Hn.out], G4⟩, r1, r2, r3, r4, r5⟩, ?_⟩
  exact ((Only.of_below Hb3.out).setCell (p := ⟨g, i, none⟩) (.inr rfl) _).setCell (p := ⟨b, 3, none⟩) (.inl rfl) _

set_option maxHeartbeats 1000000 in
theorem put_wide {sf : Value} (b room f : Nat) (l vs : List Value) (pv x : Value) (w : World) (h : Ring sf w b room l pv f vs) (hl : l.length < room) (hv : l.length = vs.length) (h9 : l.length ≤ 1900) (hx : Elm x) :
    Calls Try.prog 58 #[.pointer (some ⟨b, 0, none⟩), x] w fun e w' => e = .returned (.bool true) ∧
      ∃ pv' vs', Ring sf w' b room (l ++ [x]) pv' 0 vs' ∧ Only (RB b pv) w w' ∧ ∀ j, PB pv' j → w.heap.size ≤ j := by
  have L := left_any b room l.length w (h.blk.at 0 rfl) (h.blk.at 3 rfl) h.le h.big
  have WD := fun w1 (hb : Below w.heap.size w w1) => widen_any b room f l vs pv w1 (h.keep hb) hl h9
  have hB := h.blk
  have hbl := hB.lt
  have hpv : ∃ a, pv = .slice a vs.length vs.length := by
    rcases h.plc with ⟨rfl, rfl⟩ | ⟨g, rfl, _⟩
    · exact ⟨_, rfl⟩
    · exact ⟨_, rfl⟩
  clear h
  obtain ⟨a, rfl⟩ := hpv
  obtain ⟨z, rfl⟩ := hx
  obtain ⟨d, hd⟩ : ∃ d, room - l.length = d := ⟨_, rfl⟩
  rw [hd] at L
  have d0 : ¬ ((d : Int) = 0) := by omega
  rw [← hv] at hB
  have d2 : IntKind.i64.wrap ((l.length : Int) + 1) = ((l.length + 1 : Nat) : Int) := by rw [i64w (by omega)]; omega
  have HB := Lib.hid hB
  have HWD := Lib.hid WD
  have Hl := Lib.hid hl
  have Hbl := Lib.hid hbl
  have Hv := Lib.hid hv
  clear hB WD hd hl hbl h9 hv
  go_enter Try.func58, Try.ntmps58
  go_wp2_with fail
  refine L.mono ?_
  rintro e w1 ⟨rfl, hb1⟩
  clear L
  have p1 := (HB.out.keep hb1).at 1 rfl
  have p3 := (HB.out.keep hb1).at 3 rfl
  have Hb := Lib.hid hb1
  clear hb1
  go_wp2_with fail
  go_quiet (fail)
  go_wp2_with fail
  refine (HWD.out _ (Hb.out.trans (below_drewN _ _ |>.mono Hb.out.size))).mono ?_
  rintro e w2 ⟨⟨v, rfl⟩, pv', vs', hfr, hv', ⟨hB, hP, hR, hle, hbig, hfew, helm⟩, ho⟩
  have O2 : Only (RB b (.slice a vs.length vs.length)) w w2 := (Only.of_below (Hb.out.trans (below_drewN _ _ |>.mono Hb.out.size))).trans ((ho.mono (fun j _ h => .inl h)))
  have hfr2 : ∀ j, PB pv' j → w.heap.size ≤ j := fun j hj => Nat.le_trans Hb.out.size (hfr j hj)
  clear p1 p3 hfr ho HB HWD Hb
  obtain ⟨g, rfl, hG⟩ := hP.some (by omega)
  have hgf : w.heap.size ≤ g := hfr2 g rfl
  obtain ⟨n, hn⟩ : ∃ n, vs'.length = n := ⟨_, rfl⟩
  obtain ⟨i, hi⟩ : ∃ i, (0 + l.length) % n = i := ⟨_, rfl⟩
  have hin : i < n := by rw [← hi]; exact Nat.mod_lt _ (by omega)
  have A := fun w h1 h2 => at_any b g 0 n l.length w h1 h2 (by omega) (by omega) (by omega) (by omega)
  rw [hi] at A
  obtain ⟨y, hy⟩ : ∃ y, vs'[i]? = some y := ⟨_, List.getElem?_eq_getElem (by omega)⟩
  have hput := ringL_put hR hv' (.int .u32 z)
  rw [hn, hi] at hput
  rw [hn] at hB hv' hfr2
  have hbg : b ≠ g := Blk.ne hB hG (by decide)
  have HX := Lib.hid (And.intro hput (And.intro (show (l ++ [(.int .u32 z : Value)]).length ≤ room by simp; exact Hl.out) (And.intro hbig (And.intro (show (vs'.set i (.int .u32 z)).length ≤ 4000 by simpa using hfew) (show ∀ v ∈ l ++ [.int .u32 z], Elm v from fun v hv => (List.mem_append.1 hv).elim (helm v) (fun h => ⟨z, by simpa using h⟩))))))
  have HB := Lib.hid hB
  have HG := Lib.hid hG
  have HA := Lib.hid A
  have HY := Lib.hid hy
  have Hn := Lib.hid hn
  have HO := Lib.hid O2
  have Hfr := Lib.hid hfr2
  clear hB hG A hy hn hi hR hle hbig hfew helm hP hput hv' O2 hfr2 hgf
  have p3 := HB.out.at 3 rfl
  go_wp2_with fail
  refine (HA.out _ (HB.out.at 1 rfl) (HB.out.at 2 rfl)).mono ?_
  rintro e w3 ⟨rfl, hb3⟩
  clear p3
  have G3 := HG.out.keep hb3
  have B3 := HB.out.keep hb3
  have p3 := B3.at 3 rfl
  have f3 := B3.frozen 3
  have q3 := G3.at i HY.out
  have g3 := G3.frozen i
  have HB3 := Lib.hid B3
  have HG3 := Lib.hid G3
  have HO3 := Lib.hid (HO.out.trans (Only.of_below hb3))
  have hgb : g ≠ b := Ne.symm hbg
  clear B3 G3 hb3 HO
  go_wp2_with fail
  go_ret
  have B4 := (HB3.out.other (p := ⟨g, i, none⟩) hbg (.int .u32 z)).set 3 (.int .i64 ((l.length : Int) + 1))
  have G4 := (HG3.out.set i (.int .u32 z)).other (p := ⟨b, 3, none⟩) hgb (.int .i64 ((l.length : Int) + 1))
  obtain ⟨r1, r2, r3, r4, r5⟩ := HX.out
  have e : (((l ++ [(.int .u32 z : Value)]).length : Nat) : Int) = l.length + 1 := by simp
  refine ⟨rfl, _, vs'.set i (.int .u32 z), ⟨by rw [e]; exact B4, .inr ⟨g, by rw [List.length_set, Hn.out], G4⟩, r1, r2, r3, r4, r5⟩, ?_, Hfr.out⟩
  exact (HO3.out.setCell_new (p := ⟨g, i, none⟩) (Hfr.out g rfl) _).setCell (p := ⟨b, 3, none⟩) (.inl rfl) _
end Go.Proofs.Ytkcghcoacjpbkaa.FL
