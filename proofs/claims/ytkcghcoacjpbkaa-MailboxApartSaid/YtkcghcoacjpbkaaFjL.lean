/- Package fifo's rows of uint32: is, row, and what is asked of a row. -/
import Derived.Test.YtkcghcoacjpbkaaFiL
import Derived.LaidEqlPtr
namespace Go.Proofs.Ytkcghcoacjpbkaa.FL
open Go.RowKit Fifo
set_option linter.unusedVariables false

/-- A row that is one: it bears its own address. -/
abbrev Fif (w : World) (b room : Nat) (l : List Value) (pv : Value) (f : Nat) (vs : List Value) : Prop := Ring ((Value.pointer (some ⟨b, 0, none⟩))) w b room l pv f vs
/-- No row: none, or a zero one. -/
def Non (w : World) (p : Value) : Prop := p = .pointer none ∨ ∃ b, p = (Value.pointer (some ⟨b, 0, none⟩)) ∧ Ring (.pointer none) w b 0 [] (.slice none 0 0) 0 []
theorem Non.keep {w w' : World} {p : Value} (h : Non w p) (hb : Below w.heap.size w w') : Non w' p := by
  rcases h with h | ⟨b, h, k⟩
  · exact .inl h
  · exact .inr ⟨b, h, k.keep hb⟩

theorem row_info : (Try.prog.info? 76).isSome = true := by kernel_rfl
theorem eq_own (a : Addr) (w : World) : (binOp .eql 42 (.pointer (some a)) (.pointer (some a))).run Try.prog w = .ok (.bool true) w := by
  obtain ⟨j, hj⟩ := Option.isSome_iff_exists.1 row_info
  exact run_eql_ptr_same w a Try.underlying42 hj
theorem eq_nil (a : Addr) (w : World) : (binOp .eql 42 (.pointer none) (.pointer (some a))).run Try.prog w = .ok (.bool false) w := by
  have h : ∀ d : Nat, (Op.equalIn (d + 1) 42 (.pointer none) (.pointer (some a))).run Try.prog w = .ok false w := fun d => by
    simp [Op.equalIn, run_underlying Try.underlying42]
  simp only [binOp]
  simp [Op.equal, Op.maxDepth, h 9999]
theorem is_some (b room f : Nat) (l vs : List Value) (pv : Value) (w : World) (h : Fif w b room l pv f vs) :
    Calls Try.prog 47 #[(Value.pointer (some ⟨b, 0, none⟩))] w fun e w' => e = .returned (.bool true) ∧ w = w' := by
  have p4 : w.cell? ⟨b, 4, none⟩ = some (.pointer (some ⟨b, 0, none⟩)) := h.blk.at 4 rfl
  have he := eq_own ⟨b, 0, none⟩ w
  clear h
  go_enter Try.func47, Try.ntmps47
  go_wp2_with fail
  go_ret
  exact ⟨rfl, rfl⟩
theorem is_non (p : Value) (w : World) (h : Non w p) :
    Calls Try.prog 47 #[p] w fun e w' => e = .returned (.bool false) ∧ w = w' := by
  rcases h with rfl | ⟨b, rfl, h⟩
  · go_enter Try.func47, Try.ntmps47
    go_wp2_with fail
    go_ret
    exact ⟨rfl, rfl⟩
  · have p4 := h.blk.at 4 rfl
    have he := eq_nil ⟨b, 0, none⟩ w
    clear h
    go_enter Try.func47, Try.ntmps47
    go_wp2_with fail
    go_ret
    exact ⟨rfl, rfl⟩
theorem row_some (b room f : Nat) (l vs : List Value) (pv : Value) (w : World) (h : Fif w b room l pv f vs) :
    Calls Try.prog 50 #[(Value.pointer (some ⟨b, 0, none⟩))] w fun e w' => e = .returned ((Value.pointer (some ⟨b, 0, none⟩))) ∧ w = w' := by
  have A := is_some b room f l vs pv w h
  clear h
  go_enter Try.func50, Try.ntmps50
  go_wp2_with fail
  refine A.mono ?_
  rintro e w1 ⟨rfl, rfl⟩
  clear A
  go_wp2_with fail
  go_ret
  exact ⟨rfl, rfl⟩
theorem zero_ring (w : World) : Ring (.pointer none) (w.alloc (.cells #[.int .i64 0, .slice none 0 0, .int .i64 0, .int .i64 0, .pointer none] 76)) w.heap.size 0 [] (.slice none 0 0) 0 [] :=
  ⟨Blk.new w _ _, .inl ⟨rfl, rfl⟩, ringL_self [], Nat.le_refl _, by omega, by simp, fun v h => absurd h (by simp)⟩
theorem row_non (p : Value) (w : World) (h : Non w p) :
    Calls Try.prog 50 #[p] w fun e w' => e = .returned (.pointer (some ⟨w.heap.size, 0, none⟩)) ∧ Ring (.pointer none) w' w.heap.size 0 [] (.slice none 0 0) 0 [] ∧ Below w.heap.size w w' := by
  have A := is_non p w h
  clear h
  go_enter Try.func50, Try.ntmps50
  go_wp2_with fail
  refine A.mono ?_
  rintro e w1 ⟨rfl, rfl⟩
  clear A
  go_wp2_with fail
  go_ret
  exact ⟨rfl, zero_ring _, (Below.refl _ _).alloc (Nat.le_refl _) _⟩

/-! ### Rows -/
theorem Put_row (b room f : Nat) (l vs : List Value) (pv x : Value) (w : World) (h : Fif w b room l pv f vs) (h9 : l.length ≤ 1900) (hx : Elm x) (ok : Bool) (l' : List Value)
    (hok : decide (l.length < room) = ok) (hl' : (if ok then l ++ [x] else l) = l') :
    Calls Try.prog 53 #[(Value.pointer (some ⟨b, 0, none⟩)), x] w fun e w' => e = .returned (.bool ok) ∧
      ∃ pv' f' vs', Fif w' b room l' pv' f' vs' ∧ Only (RB b pv) w w' ∧ ∀ j, PB pv' j → PB pv j ∨ w.heap.size ≤ j := by
  have A := row_some b room f l vs pv w h
  have B : Calls Try.prog 58 #[(Value.pointer (some ⟨b, 0, none⟩)), x] w fun e w' => e = .returned (.bool ok) ∧
      ∃ pv' f' vs', Fif w' b room l' pv' f' vs' ∧ Only (RB b pv) w w' ∧ ∀ j, PB pv' j → PB pv j ∨ w.heap.size ≤ j := by
    subst hl' hok
    by_cases hl : l.length < room
    · rw [decide_eq_true hl]
      by_cases hv : l.length < vs.length
      · refine (put_fits b room f l vs pv x w h hl hv hx).mono ?_
        rintro e w' ⟨rfl, vs', h1, h2⟩
        exact ⟨rfl, pv, f, vs', h1, h2, fun j h => .inl h⟩
      · refine (put_wide b room f l vs pv x w h hl (by have := h.ring.1; omega) h9 hx).mono ?_
        rintro e w' ⟨rfl, pv', vs', h1, h2, h3⟩
        exact ⟨rfl, pv', 0, vs', h1, h2, fun j h => .inr (h3 j h)⟩
    · rw [decide_eq_false hl]
      refine (put_no b room f l vs pv x w h (by have := h.le; omega)).mono ?_
      rintro e w' ⟨rfl, h1⟩
      exact ⟨rfl, pv, f, vs, h.keep h1, Only.of_below h1, fun j h => .inl h⟩
  have HB := Lib.hid B
  clear h hx hok hl' B h9
  go_enter Try.func53, Try.ntmps53
  go_wp2_with fail
  refine A.mono ?_
  rintro e w1 ⟨rfl, rfl⟩
  clear A
  go_wp2_with fail
  refine HB.out.mono ?_
  rintro e w1 ⟨rfl, hr⟩
  have Hr := Lib.hid hr
  clear hr HB
  go_wp2_with fail
  go_ret
  exact ⟨rfl, Hr.out⟩
theorem Len_row (b room f : Nat) (l vs : List Value) (pv : Value) (w : World) (h : Fif w b room l pv f vs) :
    Calls Try.prog 37 #[(Value.pointer (some ⟨b, 0, none⟩))] w fun e w' => e = .returned (.int .i64 (l.length : Nat)) ∧ w = w' := by
  have A := row_some b room f l vs pv w h
  have p3 := h.blk.at 3 rfl
  clear h
  go_enter Try.func37, Try.ntmps37
  go_wp2_with fail
  refine A.mono ?_
  rintro e w1 ⟨rfl, rfl⟩
  clear A
  go_wp2_with fail
  go_ret
  exact ⟨rfl, rfl⟩
end Go.Proofs.Ytkcghcoacjpbkaa.FL
