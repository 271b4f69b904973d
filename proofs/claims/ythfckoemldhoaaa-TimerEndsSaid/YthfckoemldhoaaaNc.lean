/- A timer whose blocks are none of K; same; the chapter's examples. -/
import Derived.Test.YthfckoemldhoaaaNw
import Derived.Test.YthfckoemldhoaaaNd
import Derived.Test.YthfckoemldhoaaaGr
import Derived.LoopN
namespace Go.Proofs.Ythfckoemldhoaaa.Timer
open Go.RowKit Go.Maps Go.ChangeShapes Go.WideShapes Go.ChangeAt Fifo Orow Word
set_option linter.unusedVariables false

/-- The timer in block b has the words s; none of its blocks is one of K. -/
def Hold (K : Nat → Prop) (w : World) (b : Nat) (s : St) : Prop := ∃ O, Tim w b s O ∧ (∀ j, O j → ¬ K j) ∧ ∀ j, K j → j < w.heap.size
theorem Hold.keep {K : Nat → Prop} {w w' : World} {b : Nat} {s : St} (h : Hold K w b s) (hb : Below w.heap.size w w') : Hold K w' b s := by
  obtain ⟨O, h1, h2, h3⟩ := h
  exact ⟨O, h1.keep hb, h2, fun j hj => Nat.lt_of_lt_of_le (h3 j hj) hb.size⟩
theorem Hold.ok {K : Nat → Prop} {w : World} {b : Nat} {s : St} (h : Hold K w b s) : OkS s ∧ s.K < 8 := by
  obtain ⟨O, h1, _⟩ := h
  exact h1.ok
theorem Hold.less {K K' : Nat → Prop} {w : World} {b : Nat} {s : St} (h : Hold K w b s) (hK : ∀ j, K' j → K j) : Hold K' w b s := by
  obtain ⟨O, h1, h2, h3⟩ := h
  exact ⟨O, h1, fun j hj k => h2 j hj (hK j k), fun j hj => h3 j (hK j hj)⟩
theorem Hold.also {K : Nat → Prop} {w w' : World} {b : Nat} {s : St} (h : Hold K w b s) (hb : Below w.heap.size w w') (D : Nat → Prop) (h1 : ∀ j, D j → w.heap.size ≤ j ∧ j < w'.heap.size) : Hold (fun j => K j ∨ D j) w' b s := by
  obtain ⟨O, a1, a2, a3⟩ := h
  have l1 := a1.lt
  exact ⟨O, a1.keep hb, fun j hj k => k.elim (a2 j hj) (fun d => by have := (h1 j d).1; have := l1 j hj; omega), fun j hj => hj.elim (fun k => Nat.lt_of_lt_of_le (a3 j k) hb.size) (fun d => (h1 j d).2)⟩
/-- A block that K names is written over. -/
theorem Hold.far {K : Nat → Prop} {w w' : World} {b d : Nat} {s : St} (h : Hold K w b s) (hd : K d) (ho : Only (fun j => j = d) w w') : Hold K w' b s := by
  obtain ⟨O, h1, h2, h3⟩ := h
  exact ⟨O, h1.only ho (fun j hj e => h2 j hj (by rw [e]; exact hd)), h2, fun j hj => Nat.lt_of_lt_of_le (h3 j hj) ho.size⟩
theorem Hold.step {K O O' : Nat → Prop} {w w' : World} {b : Nat} {s : St} (h2 : ∀ j, O j → ¬ K j) (h3 : ∀ j, K j → j < w.heap.size) (k1 : Tim w' b s O') (k2 : Only O w w') (k3 : ∀ j, O' j → O j ∨ w.heap.size ≤ j) : Hold K w' b s ∧ Only (fun j => ¬ K j) w w' :=
  ⟨⟨O', k1, fun j hj k => (k3 j hj).elim (fun o => h2 j o k) (fun e => by have := h3 j k; omega), fun j hj => Nat.lt_of_lt_of_le (h3 j hj) k2.size⟩, k2.mono (fun j _ o => h2 j o)⟩
theorem Write_hold (K : Nat → Prop) (b : Nat) (s : St) (reg v : Int) (w : World) (h1 : I64 reg) (h2 : 0 ≤ v ∧ v < 4294967296) (h : Hold K w b s) :
    Calls Try.prog 11 #[.pointer (some ⟨b, 0, none⟩), .int .i64 reg, .int .u32 v] w fun e w' => e = .returned (.tuple #[]) ∧ Hold K w' b (writeS s reg v) ∧ Only (fun j => ¬ K j) w w' := by
  obtain ⟨O, a1, a2, a3⟩ := h
  refine (Write_any b s O reg v w h1 h2 a1).mono ?_
  rintro e w' ⟨rfl, O', b1, b2, b3⟩
  exact ⟨rfl, Hold.step a2 a3 b1 b2 b3⟩
theorem Tick_hold (K : Nat → Prop) (b : Nat) (s : St) (w : World) (h : Hold K w b s) :
    Calls Try.prog 13 #[.pointer (some ⟨b, 0, none⟩)] w fun e w' => e = .returned (.tuple #[]) ∧ Hold K w' b (tickS s) ∧ Only (fun j => ¬ K j) w w' := by
  obtain ⟨O, a1, a2, a3⟩ := h
  refine (Tick_any b s O w a1).mono ?_
  rintro e w' ⟨rfl, O', b1, b2, b3⟩
  exact ⟨rfl, Hold.step a2 a3 b1 b2 b3⟩
theorem Read_hold (K : Nat → Prop) (b : Nat) (s : St) (reg : Int) (w : World) (h1 : I64 reg) (h : Hold K w b s) :
    Calls Try.prog 17 #[.pointer (some ⟨b, 0, none⟩), .int .i64 reg] w fun e w' => e = .returned (.int .u32 (readS s reg)) ∧ Below w.heap.size w w' := by
  obtain ⟨O, a1, _⟩ := h
  exact Read_any b s O reg w h1 a1
theorem Line_hold (K : Nat → Prop) (b : Nat) (s : St) (w : World) (h : Hold K w b s) :
    Calls Try.prog 18 #[.pointer (some ⟨b, 0, none⟩)] w fun e w' => e = .returned (.bool (lineS s)) ∧ Below w.heap.size w w' := by
  obtain ⟨O, a1, _⟩ := h
  exact Line_any b s O w a1
theorem State_hold (K : Nat → Prop) (b : Nat) (s : St) (w : World) (h : Hold K w b s) :
    Calls Try.prog 16 #[.pointer (some ⟨b, 0, none⟩)] w fun e w' => e = .returned (stv s) ∧ Below w.heap.size w w' := by
  obtain ⟨O, a1, _⟩ := h
  exact State_any b s O w a1
theorem Of_hold (K : Nat → Prop) (s : St) (w : World) (h : OkS s) (hK : ∀ j, K j → j < w.heap.size) :
    Calls Try.prog 8 #[stv s] w fun e w' => (∃ b, e = .returned (.pointer (some ⟨b, 0, none⟩)) ∧ Hold K w' b (ofS s)) ∧ Below w.heap.size w w' := by
  refine (Of_any s w h).mono ?_
  rintro e w' ⟨⟨b, O, rfl, h1, h2⟩, hb⟩
  exact ⟨⟨b, rfl, O, h1, fun j hj k => by have := hK j k; have := h2 j hj; omega, fun j hj => Nat.lt_of_lt_of_le (hK j hj) hb.size⟩, hb⟩
theorem below_only {K : Nat → Prop} {B : Nat} {w w1 w2 : World} (h : Below B w w1) (ho : Only (fun j => ¬ K j) w1 w2) (hB : B ≤ w.heap.size) (hK : ∀ j, j < B → K j) : Below B w w2 :=
  h.trans (ho.below (Nat.le_trans hB h.size) (fun k hk => Nat.le_of_not_lt (fun e => hk (hK k e))))
theorem only_drew2 {S : Nat → Prop} {w w' : World} (h : Only S w w') : Only S w w'.drew := ⟨h.os, h.tape, h.output, h.size, h.block⟩
/-- The document's words in a block. -/
structure AtS (w : World) (r : Nat) (s : St) : Prop where
  c0 : w.cell? ⟨r, 0, none⟩ = some (.int .u32 s.C)
  c1 : w.cell? ⟨r, 1, none⟩ = some (.int .u32 s.L)
  c2 : w.cell? ⟨r, 2, none⟩ = some (.int .u32 s.K)
  c3 : w.cell? ⟨r, 3, none⟩ = some (.int .u32 s.H)
abbrev cells (s : St) : List Value := [.int .u32 s.C, .int .u32 s.L, .int .u32 s.K, .int .u32 s.H]
theorem AtS.of {w : World} {r : Nat} {t : TypeId} {s : St} (h : Blk w r t (cells s)) : AtS w r s := ⟨h.at 0 rfl, h.at 1 rfl, h.at 2 rfl, h.at 3 rfl⟩
theorem AtS.keep {w w' : World} {r : Nat} {s : St} (h : AtS w r s) (hb : Below w.heap.size w w') : AtS w' r s := ⟨cell_keep hb h.c0, cell_keep hb h.c1, cell_keep hb h.c2, cell_keep hb h.c3⟩

set_option maxHeartbeats 1000000 in
theorem same_any (K : Nat → Prop) (b : Nat) (s : St) (w : World) (h : Hold K w b s) :
    Calls Try.prog 9 #[.pointer (some ⟨b, 0, none⟩), stv s] w fun e w' => e = .returned (.bool true) ∧ Below w.heap.size w w' := by
  obtain ⟨R, hR⟩ : ∃ R, w.heap.size = R := ⟨_, rfl⟩
  obtain ⟨W, hW⟩ : ∃ W, W = w.alloc (.cells (cells s).toArray 29) := ⟨_, rfl⟩
  have AW := Lib.hid (show AtS W R s by rw [hW, ← hR]; exact AtS.of (Blk.new w _ _))
  have BW := Lib.hid (show Below w.heap.size w W by rw [hW]; exact (Below.refl _ _).alloc (Nat.le_refl _) _)
  have HH := Lib.hid (h.keep BW.out)
  have Ok := Lib.hid h.ok.1
  have HRg := Lib.hid hR
  have HWe := Lib.hid hW
  obtain ⟨C, L, Q, H⟩ := s
  clear h hW hR
  go_enter Try.func9, Try.ntmps9
  go_wp2_with fail
  rw [HRg.out]
  refine code_letter ?_
  intro W2 hW2
  obtain rfl : W2 = W := by rw [hW2.out, HWe.out]
  clear hW2
  go_loopw [5] (fun i wr => ∃ k : Nat, k ≤ 10 ∧ i = .int .i64 ((k : Int) - 1) ∧ Below W2.heap.size W2 wr) (fun i _ => 10 - ((intOf i) + 1).toNat)
  case atStart => exact ⟨0, by omega, rfl, Below.refl _ _⟩
  case round =>
  obtain ⟨k, hk, rfl, hb⟩ := hrel
  have Hb := Lib.hid hb
  clear hb
  obtain ⟨a0, a1, a2, a3⟩ := AW.out.keep Hb.out
  by_cases hlt : k < 10
  · have d1 : decide ((k : Int) - 1 < 9) = true := decide_eq_true (by omega)
    obtain ⟨x, hx⟩ : ∃ x, readS ⟨C, L, Q, H⟩ ((k : Int) - 1) = x := ⟨_, rfl⟩
    have HRd := Lib.hid (fun W' (hb : Below wr.heap.size wr W') => Read_hold K b ⟨C, L, Q, H⟩ ((k : Int) - 1) W' ⟨by omega, by omega⟩ (((HH.out.keep Hb.out)).keep hb))
    have HRr := Lib.hid (fun W' => rRead_any ⟨C, L, Q, H⟩ ((k : Int) - 1) W')
    rw [hx] at HRd HRr
    have xx : (x != x) = false := by simp
    have wk : IntKind.i64.wrap ((k : Int) - 1 + 1) = (k : Int) := by rw [IntWalk.i64_in _ (by omega)]; omega
    clear hx
    go_wp2_with fail
    refine wp_region_ext (by kernel_rfl) (by kernel_rfl) ?_
    intro Y hY
    obtain rfl := hY.out
    clear hY
    have y0 := ext_cell a0
    have y1 := ext_cell a1
    have y2 := ext_cell a2
    have y3 := ext_cell a3
    have hEx := Lib.hid (fun q => ext_below Y q)
    repeat (go_big_quiet_step ((first
      | (go_at_call 17; with_reducible exact ext_of (HRd.out _ (hEx.out _)))
      | (go_at_call 20; with_reducible exact ext_of (HRr.out _)))))
    refine wpQuiet_nil ?_
    intro w9 hw9
    have h9 : Below Y.heap.size Y w9 := by obtain ⟨p9, rfl⟩ := hw9; exact ext_below Y p9
    have hsz := Hb.out.size
    have H9 := Lib.hid (Hb.out.trans (h9.mono hsz))
    clear hw9 h9 y0 y1 y2 y3 a0 a1 a2 a3 hEx
    go_wp2_with fail
    exact ⟨⟨k + 1, by omega, by go_num, H9.out⟩, by simp [intOf]; omega⟩
  · have H10 := Lib.hid (show k = 10 by omega)
    have d1 : decide ((k : Int) - 1 < 9) = false := decide_eq_false (by omega)
    obtain ⟨ln, hln⟩ : ∃ x, lineS ⟨C, L, Q, H⟩ = x := ⟨_, rfl⟩
    have HSt := Lib.hid (fun W' (hb : Below wr.heap.size wr W') => State_hold K b ⟨C, L, Q, H⟩ W' (((HH.out.keep Hb.out)).keep hb))
    have HLn := Lib.hid (fun W' (hb : Below wr.heap.size wr W') => Line_hold K b ⟨C, L, Q, H⟩ W' (((HH.out.keep Hb.out)).keep hb))
    have HLr := Lib.hid (fun W' => rLine_any ⟨C, L, Q, H⟩ W' Ok.out)
    rw [hln] at HLn HLr
    have x1 : (C == C) = true := by simp
    have x2 : (L == L) = true := by simp
    have x3 : (Q == Q) = true := by simp
    have x4 : (H == H) = true := by simp
    have x5 : (ln == ln) = true := by simp
    clear hln
    go_wp2_with fail
    refine wp_region_ext (by kernel_rfl) (by kernel_rfl) ?_
    intro Y hY
    obtain rfl := hY.out
    clear hY
    have y0 := ext_cell a0
    have y1 := ext_cell a1
    have y2 := ext_cell a2
    have y3 := ext_cell a3
    have hEx := Lib.hid (fun q => ext_below Y q)
    repeat (go_big_quiet_step ((first
      | (go_at_call 16; with_reducible exact ext_of (HSt.out _ (hEx.out _)))
      | (go_at_call 18; with_reducible exact ext_of (HLn.out _ (hEx.out _)))
      | (go_at_call 21; with_reducible exact ext_of (HLr.out _)))))
    refine wpQuiet_nil ?_
    intro w9 hw9
    have h9 : Below Y.heap.size Y w9 := by obtain ⟨p9, rfl⟩ := hw9; exact ext_below Y p9
    have hsz := Hb.out.size
    have H9 := Lib.hid (Hb.out.trans (h9.mono hsz))
    clear hw9 h9 y0 y1 y2 y3 a0 a1 a2 a3 hEx
    go_wp2_with fail
    go_ret
    exact ⟨rfl, BW.out.trans (H9.out.mono BW.out.size)⟩
end Go.Proofs.Ythfckoemldhoaaa.Timer
