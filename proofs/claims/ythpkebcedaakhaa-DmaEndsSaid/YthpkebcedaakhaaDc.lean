/- An engine and the document's side by side; they are the same; an asker of the law. -/
import Derived.Test.YthpkebcedaakhaaDw
import Derived.Test.YthpkebcedaakhaaDs
import Derived.Test.YthpkebcedaakhaaDd
import Derived.Handy
namespace Go.Proofs.Ythpkebcedaakhaa.Dma
open Go.RowKit Go.Maps Fifo Orow
set_option linter.unusedVariables false

theorem below_onlyE {K : Nat → Prop} {B : Nat} {w w1 w2 : World} (h : Below B w w1) (ho : Only (fun j => ¬ K j) w1 w2) (hB : B ≤ w.heap.size) (hK : ∀ j, j < B → K j) : Below B w w2 :=
  h.trans (ho.below (Nat.le_trans hB h.size) (fun j hj => Nat.le_of_not_lt (fun e => hj (hK j e))))
/-- The engine in block b has s, the document's in block r has s'; none of their blocks is one of K. -/
def PairE (K : Nat → Prop) (w : World) (b r : Nat) (s s' : En) : Prop :=
  ∃ O, Eng w b s O ∧ RefE w r s' ∧ (∀ j, O j → ¬ K j ∧ j ≠ r) ∧ ¬ K r ∧ ∀ j, K j → j < w.heap.size
theorem PairE.keep {K : Nat → Prop} {w w' : World} {b r : Nat} {s s' : En} (h : PairE K w b r s s') (hb : Below w.heap.size w w') : PairE K w' b r s s' := by
  obtain ⟨O, h1, h2, h3, h4, h5⟩ := h
  exact ⟨O, h1.keep hb, h2.keep hb, h3, h4, fun j hj => Nat.lt_of_lt_of_le (h5 j hj) hb.size⟩
theorem PairE.ok {K : Nat → Prop} {w : World} {b r : Nat} {s s' : En} (h : PairE K w b r s s') : OkE s ∧ InvE s := by
  obtain ⟨O, h1, _⟩ := h
  exact h1.ok
theorem PairE.less {K K' : Nat → Prop} {w : World} {b r : Nat} {s s' : En} (h : PairE K w b r s s') (hK : ∀ j, K' j → K j) : PairE K' w b r s s' := by
  obtain ⟨O, h1, h2, h3, h4, h5⟩ := h
  exact ⟨O, h1, h2, fun j hj => ⟨fun k => (h3 j hj).1 (hK j k), (h3 j hj).2⟩, fun k => h4 (hK r k), fun j hj => h5 j (hK j hj)⟩
/-- New blocks (D) are laid: they are neither's. -/
theorem PairE.also {K : Nat → Prop} {w w' : World} {b r : Nat} {s s' : En} (h : PairE K w b r s s') (hb : Below w.heap.size w w') (D : Nat → Prop) (h1 : ∀ j, D j → w.heap.size ≤ j ∧ j < w'.heap.size) : PairE (fun j => K j ∨ D j) w' b r s s' := by
  obtain ⟨O, a1, a2, a3, a4, a5⟩ := h
  have l1 := a1.lt
  have l2 := a2.lt
  exact ⟨O, a1.keep hb, a2.keep hb, fun j hj => ⟨fun k => k.elim (a3 j hj).1 (fun d => by have := (h1 j d).1; have := l1 j hj; omega), (a3 j hj).2⟩, fun k => k.elim a4 (fun d => by have := (h1 r d).1; omega), fun j hj => hj.elim (fun k => Nat.lt_of_lt_of_le (a5 j k) hb.size) (fun d => (h1 j d).2)⟩
theorem PairE.far {K S : Nat → Prop} {w w' : World} {b r : Nat} {s s' : En} (h : PairE K w b r s s') (hS : ∀ j, S j → K j) (ho : Only S w w') : PairE K w' b r s s' := by
  obtain ⟨O, h1, h2, h3, h4, h5⟩ := h
  exact ⟨O, h1.only ho (fun j hj e => (h3 j hj).1 (hS j e)), h2.only ho (fun e => h4 (hS r e)), h3, h4, fun j hj => Nat.lt_of_lt_of_le (h5 j hj) ho.size⟩
theorem Read_pair (K : Nat → Prop) (b r : Nat) (s s' : En) (reg : Int) (w : World) (h1 : I64 reg) (h : PairE K w b r s s') :
    Calls Try.prog 12 #[.pointer (some ⟨b, 0, none⟩), .int .i64 reg] w fun e w' => e = .returned (.int .u32 (readE s reg)) ∧ Below w.heap.size w w' := by
  obtain ⟨O, a1, _⟩ := h
  exact Read_any b s O reg w h1 a1
theorem rRead_pair (K : Nat → Prop) (b r : Nat) (s s' : En) (reg : Int) (w : World) (h : PairE K w b r s s') :
    Calls Try.prog 13 #[.pointer (some ⟨r, 0, none⟩), .int .i64 reg] w fun e w' => e = .returned (.int .u32 (readE s' reg)) ∧ Below w.heap.size w w' := by
  obtain ⟨O, a1, a2, _⟩ := h
  exact rRead_any r s' reg w a2.1
theorem State_pair (K : Nat → Prop) (b r : Nat) (s s' : En) (w : World) (h : PairE K w b r s s') :
    Calls Try.prog 18 #[.pointer (some ⟨b, 0, none⟩)] w fun e w' => e = .returned (stE s) ∧ Below w.heap.size w w' := by
  obtain ⟨O, a1, _⟩ := h
  exact State_any b s O w a1
theorem Line_pair (K : Nat → Prop) (b r : Nat) (s s' : En) (w : World) (h : PairE K w b r s s') :
    Calls Try.prog 20 #[.pointer (some ⟨b, 0, none⟩)] w fun e w' => e = .returned (.bool (lineE s)) ∧ Below w.heap.size w w' := by
  obtain ⟨O, a1, _⟩ := h
  exact Line_any b s O w a1
theorem rLine_pair (K : Nat → Prop) (b r : Nat) (s s' : En) (w : World) (h : PairE K w b r s s') :
    Calls Try.prog 26 #[.pointer (some ⟨r, 0, none⟩)] w fun e w' => e = .returned (.bool (lineE s')) ∧ w = w' := by
  obtain ⟨O, a1, a2, _⟩ := h
  exact rLine_any r s' w a2.1
theorem Write_pair (K : Nat → Prop) (b r : Nat) (s s' : En) (reg x : Int) (w : World) (h1 : I64 reg) (h2 : 0 ≤ x ∧ x < 4294967296) (h : PairE K w b r s s') :
    Calls Try.prog 14 #[.pointer (some ⟨b, 0, none⟩), .int .i64 reg, .int .u32 x] w fun e w' => e = .returned (.tuple #[]) ∧ PairE K w' b r (writeE s reg x) s' ∧ Only (fun j => ¬ K j) w w' := by
  obtain ⟨O, a1, a2, a3, a4, a5⟩ := h
  have l2 := a2.lt
  refine (Write_any b s O reg x w h1 h2 a1).mono ?_
  rintro e w' ⟨rfl, O', k1, k2, k3⟩
  exact ⟨rfl, ⟨O', k1, a2.only k2 (fun e => (a3 r e).2 rfl), fun j hj => (k3 j hj).elim (a3 j) (fun e => ⟨fun k => by have := a5 j k; omega, fun k => by omega⟩), a4, fun j hj => Nat.lt_of_lt_of_le (a5 j hj) k2.size⟩, k2.mono (fun j _ o => (a3 j o).1)⟩
theorem rWrite_pair (K : Nat → Prop) (b r : Nat) (s s' : En) (reg x : Int) (w : World) (h2 : 0 ≤ x ∧ x < 4294967296) (h : PairE K w b r s s') :
    Calls Try.prog 15 #[.pointer (some ⟨r, 0, none⟩), .int .i64 reg, .int .u32 x] w fun e w' => e = .returned (.tuple #[]) ∧ PairE K w' b r s (writeE s' reg x) ∧ Only (fun j => ¬ K j) w w' := by
  obtain ⟨O, a1, a2, a3, a4, a5⟩ := h
  refine (rWrite_any r s' reg x w h2 a2.1).mono ?_
  rintro e w' ⟨rfl, k1, k2⟩
  exact ⟨rfl, ⟨O, a1.only k2 (fun j hj e => (a3 j hj).2 e), ⟨k1, ok_write a2.2 reg x h2⟩, a3, a4, fun j hj => Nat.lt_of_lt_of_le (a5 j hj) k2.size⟩, k2.mono (fun j _ e => by have : j = r := e; rw [this]; exact a4)⟩

set_option maxHeartbeats 1000000 in
theorem same_any (K : Nat → Prop) (b r : Nat) (s : En) (w : World) (h : PairE K w b r s s) :
    Calls Try.prog 10 #[.pointer (some ⟨b, 0, none⟩), .pointer (some ⟨r, 0, none⟩)] w fun e w' => e = .returned (.bool true) ∧ Below w.heap.size w w' := by
  have HH := Lib.hid h
  clear h
  go_enter Try.func10, Try.ntmps10
  go_wp2_with fail
  go_loopw [5] (fun i wr => ∃ k : Nat, k ≤ 9 ∧ i = .int .i64 ((k : Int) - 1) ∧ Below w.heap.size w wr) (fun i _ => 9 - ((intOf i) + 1).toNat)
  case atStart => exact ⟨0, by omega, rfl, Below.refl _ _⟩
  case round =>
  obtain ⟨k, hk, rfl, hb⟩ := hrel
  have Hb := Lib.hid hb
  clear hb
  by_cases hlt : k < 9
  · have d1 : decide ((k : Int) - 1 < 8) = true := decide_eq_true (by omega)
    obtain ⟨x, hx⟩ : ∃ x, readE s ((k : Int) - 1) = x := ⟨_, rfl⟩
    have HRd := Lib.hid (fun W' (hb : Below w.heap.size w W') => Read_pair K b r s s ((k : Int) - 1) W' ⟨by omega, by omega⟩ (HH.out.keep hb))
    have HRr := Lib.hid (fun W' (hb : Below w.heap.size w W') => rRead_pair K b r s s ((k : Int) - 1) W' (HH.out.keep hb))
    rw [hx] at HRd HRr
    have xx : (x != x) = false := by simp
    have wk : IntKind.i64.wrap ((k : Int) - 1 + 1) = (k : Int) := by rw [IntWalk.i64_in _ (by omega)]; omega
    clear hx
    go_wp2_with fail
    refine (HRd.out _ Hb.out).mono ?_
    rintro e w1 ⟨rfl, hb⟩
    have B1 := Lib.hid (Hb.out.trans (hb.mono Hb.out.size))
    clear hb
    go_wp2_with fail
    refine (HRr.out _ B1.out).mono ?_
    rintro e w2 ⟨rfl, hb⟩
    have B2 := Lib.hid (B1.out.trans (hb.mono B1.out.size))
    clear hb
    go_wp2_with fail
    exact ⟨⟨k + 1, by omega, by go_num, B2.out⟩, by simp [intOf]; omega⟩
  · have H10 := Lib.hid (show k = 9 by omega)
    have d1 : decide ((k : Int) - 1 < 8) = false := decide_eq_false (by omega)
    have HP := Lib.hid (HH.out.keep Hb.out)
    obtain ⟨O, a1, a2, a3, a4, a5⟩ := HP.out
    have c0 := a2.1.at 0 rfl
    have c1 := a2.1.at 1 rfl
    have c2 := a2.1.at 2 rfl
    have c3 := a2.1.at 3 rfl
    have c4 := a2.1.at 4 rfl
    have c5 := a2.1.at 5 rfl
    have c6 := a2.1.at 6 rfl
    have c7 := a2.1.at 7 rfl
    have c8 := a2.1.at 8 rfl
    have HSt := Lib.hid (fun W' (hb : Below wr.heap.size wr W') => State_pair K b r s s W' (HP.out.keep hb))
    have HLn := Lib.hid (fun W' (hb : Below wr.heap.size wr W') => Line_pair K b r s s W' (HP.out.keep hb))
    have HLr := Lib.hid (fun W' (hb : Below wr.heap.size wr W') => rLine_pair K b r s s W' (HP.out.keep hb))
    obtain ⟨ln, hln⟩ : ∃ x, lineE s = x := ⟨_, rfl⟩
    rw [hln] at HLn HLr
    obtain ⟨F, T, L, H, has, busy, den, don, cal⟩ := s
    have x1 : (F == F) = true := by simp
    have x2 : (L == L) = true := by simp
    have x3 : (T == T) = true := by simp
    have x4 : (H == H) = true := by simp
    have x5 : (ln == ln) = true := by simp
    clear hln a1 a2 a3 a4 a5
    go_wp2_with fail
    refine wp_region_ext (by kernel_rfl) (by kernel_rfl) ?_
    intro Y hY
    obtain rfl : Y = wr := hY.out
    clear hY
    have y0 := ext_cell c0
    have y1 := ext_cell c1
    have y2 := ext_cell c2
    have y3 := ext_cell c3
    have y4 := ext_cell c4
    have y5 := ext_cell c5
    have y6 := ext_cell c6
    have y7 := ext_cell c7
    have y8 := ext_cell c8
    have hEx := Lib.hid (fun q => ext_below Y q)
    repeat (go_big_quiet_step ((first
      | (go_at_call 18; with_reducible exact ext_of (HSt.out _ (hEx.out _)))
      | (go_at_call 20; with_reducible exact ext_of (HLn.out _ (hEx.out _)))
      | (go_at_call 26; with_reducible exact ext_same (HLr.out _ (hEx.out _))))))
    refine wpQuiet_nil ?_
    intro w9 hw9
    have h9 : Below Y.heap.size Y w9 := by obtain ⟨p9, rfl⟩ := hw9; exact ext_below Y p9
    have H9 := Lib.hid (Hb.out.trans (h9.mono Hb.out.size))
    clear hw9 h9 y0 y1 y2 y3 y4 y5 y6 y7 y8 c0 c1 c2 c3 c4 c5 c6 c7 c8 hEx
    go_wp2_with fail
    go_ret
    exact ⟨rfl, H9.out⟩
end Go.Proofs.Ythpkebcedaakhaa.Dma
