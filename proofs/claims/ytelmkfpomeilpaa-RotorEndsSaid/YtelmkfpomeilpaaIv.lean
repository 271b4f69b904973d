/- Package rotor: the object. RW w b s x: a rotor with the point and steps s lies in block b; x is what it says of where it lies. -/
import Derived.Test.YtelmkfpomeilpaaIy
import Derived.Test.YtelmkfpomeilpaaZa
import Derived.Test.YtelmkfpomeilpaaBa
import Derived.Deep.RegionHeld3
import Derived.Deep.RegionWith
import Derived.LaidEqlPtr
namespace Go.Proofs.Ytelmkfpomeilpaa.Rotor
open Go.RowKit Go.Maps Fifo Orow Exact Ring Fmap
set_option linter.unusedVariables false

theorem run_store_complex {P : Program} {w : World} {a : Addr} {m : Mode} (k : FloatKind) (x y : Nat) : (store a (.complex k x y) m).run P w = stored P w a (.complex k x y) m := run_store P w a _ m rfl
attribute [local go_sem] run_store_complex
def I64 (x : Int) : Prop := -9223372036854775808 ≤ x ∧ x ≤ 9223372036854775807
abbrev cellsR (x y : Nat) (n : Int) (v : Value) : List Value := [.complex .f64 x y, .int .u32 n, v]
structure RX (w : World) (b x y : Nat) (s : RS) (v : Value) : Prop where
  blk : Blk w b 51 (cellsR x y s.n v)
  pt : IsPt x y s.p
  n : 0 ≤ s.n ∧ s.n < 4294967296
def RW (w : World) (b : Nat) (s : RS) (v : Value) : Prop := ∃ x y, RX w b x y s v
theorem RX.only {S : Nat → Prop} {w w' : World} {b x y : Nat} {s : RS} {v : Value} (h : RX w b x y s v) (ho : Only S w w') (hn : ¬ S b) : RX w' b x y s v := ⟨h.blk.only ho hn, h.pt, h.n⟩
theorem RX.keep {w w' : World} {b x y : Nat} {s : RS} {v : Value} (h : RX w b x y s v) (hb : Below w.heap.size w w') : RX w' b x y s v := ⟨h.blk.keep hb, h.pt, h.n⟩
theorem RW.only {S : Nat → Prop} {w w' : World} {b : Nat} {s : RS} {v : Value} (h : RW w b s v) (ho : Only S w w') (hn : ¬ S b) : RW w' b s v := by
  obtain ⟨x, y, h⟩ := h
  exact ⟨x, y, h.only ho hn⟩
theorem RW.keep {w w' : World} {b : Nat} {s : RS} {v : Value} (h : RW w b s v) (hb : Below w.heap.size w w') : RW w' b s v := by
  obtain ⟨x, y, h⟩ := h
  exact ⟨x, y, h.keep hb⟩
theorem RW.lt {w : World} {b : Nat} {s : RS} {v : Value} (h : RW w b s v) : b < w.heap.size := by
  obtain ⟨x, y, h⟩ := h
  exact h.blk.lt
theorem RW.ok {w : World} {b : Nat} {s : RS} {v : Value} (h : RW w b s v) : OkR s := by
  obtain ⟨x, y, h⟩ := h
  exact ⟨h.pt.ok, h.n⟩
theorem drew_to {w w' : World} (hb : Below w.drew.heap.size w.drew w') : Below w.heap.size w w' := (Below.refl w.heap.size w).drew.trans (hb.mono (by simp))
theorem RX.c0 {w : World} {b x y : Nat} {s : RS} {v : Value} (h : RX w b x y s v) : w.cell? ⟨b, 0, none⟩ = some (.complex .f64 x y) := h.blk.at 0 rfl
theorem RX.c1 {w : World} {b x y : Nat} {s : RS} {v : Value} (h : RX w b x y s v) : w.cell? ⟨b, 1, none⟩ = some (.int .u32 s.n) := h.blk.at 1 rfl
theorem RX.c2 {w : World} {b x y : Nat} {s : RS} {v : Value} (h : RX w b x y s v) : w.cell? ⟨b, 2, none⟩ = some v := h.blk.at 2 rfl
theorem RW.c2 {w : World} {b : Nat} {s : RS} {v : Value} (h : RW w b s v) : w.cell? ⟨b, 2, none⟩ = some v := by
  obtain ⟨x, y, h⟩ := h
  exact h.c2
theorem word_any (b : Nat) (s : RS) (v : Value) (w : World) (h : RW w b s v) :
    Calls Try.prog 36 #[.pointer (some ⟨b, 0, none⟩)] w fun e w' => e = .returned (.int .u32 (wd s.p)) ∧ w = w' := by
  obtain ⟨x, y, h⟩ := h
  have c := h.c0
  have C := Lib.hid (fun W => wordOf_any x y s.p W h.pt)
  clear h
  go_enter Try.func36, Try.ntmps36
  go_wp2_with fail
  refine (C.out _).mono ?_
  rintro e w' ⟨rfl, rfl⟩
  go_wp2_with fail
  go_ret
  exact ⟨rfl, rfl⟩
theorem stepsNow_any (b : Nat) (s : RS) (v : Value) (w : World) (h : RW w b s v) :
    Calls Try.prog 47 #[.pointer (some ⟨b, 0, none⟩)] w fun e w' => e = .returned (.int .u32 s.n) ∧ w = w' := by
  obtain ⟨x, y, h⟩ := h
  have c := h.c1
  clear h
  go_enter Try.func47, Try.ntmps47
  go_wp2_with fail
  go_ret
  exact ⟨rfl, rfl⟩
/-- A point is stored. -/
theorem rx_set {w : World} {b x y : Nat} {s : RS} {v : Value} (h : RX w b x y s v) (c d : Nat) (p : Pt) (hp : IsPt c d p) : RW (w.setCell ⟨b, 0, none⟩ (.complex .f64 c d)) b ⟨p, s.n⟩ v ∧ Only (fun j => j = b) w (w.setCell ⟨b, 0, none⟩ (.complex .f64 c d)) :=
  ⟨⟨c, d, h.blk.set 0 _, hp, h.n⟩, (Only.refl (fun j => j = b) w).setCell (p := ⟨b, 0, none⟩) rfl _⟩
theorem rx_inc {w : World} {b x y : Nat} {s : RS} {v : Value} (h : RX w b x y s v) (n : Int) (hn : 0 ≤ n ∧ n < 4294967296) : RW (w.setCell ⟨b, 1, none⟩ (.int .u32 n)) b ⟨s.p, n⟩ v ∧ Only (fun j => j = b) w (w.setCell ⟨b, 1, none⟩ (.int .u32 n)) :=
  ⟨⟨x, y, h.blk.set 1 _, h.pt, hn⟩, (Only.refl (fun j => j = b) w).setCell (p := ⟨b, 1, none⟩) rfl _⟩
theorem become_any (b : Nat) (s : RS) (x : Value) (v : Int) (w : World) (hv : 0 ≤ v ∧ v < 4294967296) (h : RW w b s x) :
    Calls Try.prog 43 #[.pointer (some ⟨b, 0, none⟩), .int .u32 v] w fun e w' => e = .returned (.tuple #[]) ∧ RW w' b ⟨pt v, s.n⟩ x ∧ Only (fun j => j = b) w w' := by
  obtain ⟨x0, y0, h⟩ := h
  have P := Lib.hid (Point_any v w hv)
  have H := Lib.hid h
  clear h hv
  go_enter Try.func43, Try.ntmps43
  go_wp2_with fail
  refine P.out.mono ?_
  rintro e w1 ⟨⟨c, d, rfl, hp⟩, hb⟩
  have H1 := Lib.hid (H.out.keep hb)
  have T := Lib.hid (rx_set H1.out c d _ hp)
  have O := Lib.hid (Only.of_below (S := fun j => j = b) hb)
  clear hb hp
  have c0 := H1.out.c0
  have f0 := H1.out.blk.frozen 0
  go_wp2_with fail
  go_end0
  exact ⟨rfl, T.out.1, O.out.trans T.out.2⟩
theorem add_obj (b : Nat) (s : RS) (x : Value) (v : Int) (w : World) (hv : 0 ≤ v ∧ v < 4294967296) (h : RW w b s x) :
    Calls Try.prog 52 #[.pointer (some ⟨b, 0, none⟩), .int .u32 v] w fun e w' => e = .returned (.tuple #[]) ∧ RW w' b ⟨add s.p (pt v), s.n⟩ x ∧ Only (fun j => j = b) w w' := by
  obtain ⟨x0, y0, h⟩ := h
  have o1 := h.pt.ok.1
  have o2 := h.pt.ok.2
  have o3 := (ok_pt v).1
  have o4 := (ok_pt v).2
  have K := Lib.hid (fun a b' (hab : IsPt a b' (pt v)) => by
    obtain ⟨c, d, hm, dx, dy⟩ := sum_parts h.pt.re h.pt.im hab.re hab.im (by omega) (by omega)
    exact (⟨c, d, fun W t => run_complex_sum W .add (.inl rfl) t .f64 x0 y0 a b' c d hm, fun W => wrapped_any c d _ _ W dx dy (by omega) (by omega)⟩ : ∃ c d, (∀ W t, (binOp .add t (.complex .f64 x0 y0) (.complex .f64 a b')).run Try.prog W = .ok (.complex .f64 c d) W) ∧ ∀ W, Calls Try.prog 39 #[.complex .f64 c d] W fun e w' => (∃ c d, e = .returned (.complex .f64 c d) ∧ IsPt c d (add s.p (pt v))) ∧ W = w'))
  have P := Lib.hid (fun W => Point_any v W hv)
  have H := Lib.hid h
  clear h hv o1 o2 o3 o4
  obtain ⟨q, hq⟩ : ∃ q, pt v = q := ⟨_, rfl⟩
  go_enter Try.func52, Try.ntmps52
  go_wp2_with fail
  have c0 := H.out.c0
  have f0 := H.out.blk.frozen 0
  go_region_with (first
      | (go_at_call 23; with_reducible refine (P.out _).mono ?_; rintro e w1 ⟨⟨c, d, rfl, hp⟩, hb⟩; have H1 := Lib.hid (RX.keep H.out (drew_to hb)); have O1 := Lib.hid (Only.of_below (S := fun j => j = b) (drew_to hb)); obtain ⟨c1, d1, hr1, hw1⟩ := K.out _ _ hp; have C1 := Lib.hid hw1; have c0' := H1.out.c0; have f0' := H1.out.blk.frozen 0; clear hp hb hw1)
      | (go_at_call 39; with_reducible refine (C1.out _).mono ?_; rintro e w2 ⟨⟨c2, d2, rfl, hp2⟩, rfl⟩; have T := Lib.hid (rx_set H1.out c2 d2 _ hp2); clear hp2))
  all_goals
    have R := Lib.hid (And.intro T.out.1 (O1.out.trans T.out.2))
    go_wp2_with fail
    go_end0
    exact ⟨rfl, R.out⟩
theorem multiply_obj (b : Nat) (s : RS) (x : Value) (v : Int) (w : World) (hv : 0 ≤ v ∧ v < 4294967296) (h : RW w b s x) :
    Calls Try.prog 53 #[.pointer (some ⟨b, 0, none⟩), .int .u32 v] w fun e w' => e = .returned (.tuple #[]) ∧ RW w' b ⟨mul s.p (pt v), s.n⟩ x ∧ Only (fun j => j = b) w w' := by
  obtain ⟨x0, y0, h⟩ := h
  have o1 := h.pt.ok
  have K := Lib.hid (fun a b' (hab : IsPt a b' (pt v)) => by
    obtain ⟨k1, k2, k3, k4⟩ := no_round h.pt.ok hab.ok
    obtain ⟨c, d, hm, dx, dy⟩ := mul_parts h.pt.re h.pt.im hab.re hab.im k1 k2 k3 k4
    exact (⟨c, d, fun W t => run_complex_mul W t x0 y0 a b' c d hm, fun W => wrapped_any c d _ _ W dx dy (by omega) (by omega)⟩ : ∃ c d, (∀ W t, (binOp .mul t (.complex .f64 x0 y0) (.complex .f64 a b')).run Try.prog W = .ok (.complex .f64 c d) W) ∧ ∀ W, Calls Try.prog 39 #[.complex .f64 c d] W fun e w' => (∃ c d, e = .returned (.complex .f64 c d) ∧ IsPt c d (mul s.p (pt v))) ∧ W = w'))
  have P := Lib.hid (fun W => Point_any v W hv)
  have H := Lib.hid h
  clear h hv o1
  obtain ⟨q, hq⟩ : ∃ q, pt v = q := ⟨_, rfl⟩
  go_enter Try.func53, Try.ntmps53
  go_wp2_with fail
  have c0 := H.out.c0
  have f0 := H.out.blk.frozen 0
  go_region_with (first
      | (go_at_call 23; with_reducible refine (P.out _).mono ?_; rintro e w1 ⟨⟨c, d, rfl, hp⟩, hb⟩; have H1 := Lib.hid (RX.keep H.out (drew_to hb)); have O1 := Lib.hid (Only.of_below (S := fun j => j = b) (drew_to hb)); obtain ⟨c1, d1, hr1, hw1⟩ := K.out _ _ hp; have C1 := Lib.hid hw1; have c0' := H1.out.c0; have f0' := H1.out.blk.frozen 0; clear hp hb hw1)
      | (go_at_call 39; with_reducible refine (C1.out _).mono ?_; rintro e w2 ⟨⟨c2, d2, rfl, hp2⟩, rfl⟩; have T := Lib.hid (rx_set H1.out c2 d2 _ hp2); clear hp2))
  all_goals
    have R := Lib.hid (And.intro T.out.1 (O1.out.trans T.out.2))
    go_wp2_with fail
    go_end0
    exact ⟨rfl, R.out⟩
theorem turn_obj (b : Nat) (s : RS) (x : Value) (v : Int) (w : World) (hv : 0 ≤ v ∧ v < 4294967296) (h : RW w b s x) :
    Calls Try.prog 54 #[.pointer (some ⟨b, 0, none⟩), .int .u32 v] w fun e w' => e = .returned (.tuple #[]) ∧ RW w' b ⟨turn s.p v.toNat, s.n⟩ x ∧ Only (fun j => j = b) w w' := by
  obtain ⟨x0, y0, h⟩ := h
  have P := Lib.hid (fun W => turned_any x0 y0 s.p v W h.pt hv)
  have H := Lib.hid h
  have c0 := h.c0
  have f0 := h.blk.frozen 0
  clear h hv
  go_enter Try.func54, Try.ntmps54
  go_wp2_with fail
  refine (P.out _).mono ?_
  rintro e w1 ⟨⟨c, d, rfl, hp⟩, rfl⟩
  have T := Lib.hid (rx_set H.out c d _ hp)
  clear hp
  go_wp2_with fail
  go_end0
  exact ⟨rfl, T.out⟩
theorem incR_b (s : RS) : 0 ≤ incR s ∧ incR s < 4294967296 := by unfold incR; omega
theorem stepPlus_any (b : Nat) (s : RS) (x : Value) (v : Int) (w : World) (hv : 0 ≤ v ∧ v < 4294967296) (h : RW w b s x) :
    Calls Try.prog 44 #[.pointer (some ⟨b, 0, none⟩), .int .u32 v] w fun e w' => e = .returned (.tuple #[]) ∧ RW w' b ⟨add s.p (pt v), incR s⟩ x ∧ Only (fun j => j = b) w w' := by
  have P := Lib.hid (add_obj b s x v w hv h)
  have ei : IntKind.u32.wrap (s.n + 1) = incR s := IntKind.wrap_u32 _
  have ei2 : (s.n + 1) % 4294967296 = incR s := rfl
  have ib := Lib.hid (incR_b s)
  obtain ⟨n, hn⟩ : ∃ n, incR s = n := ⟨_, rfl⟩
  rw [hn] at ei ei2 ib
  rw [hn]
  obtain ⟨p, hp⟩ : ∃ p, add s.p (pt v) = p := ⟨_, rfl⟩
  rw [hp] at P
  rw [hp]
  clear h hv hn hp
  go_enter Try.func44, Try.ntmps44
  go_wp2_with fail
  refine P.out.mono ?_
  rintro e w1 ⟨rfl, ⟨x1, y1, h1⟩, h2⟩
  have O := Lib.hid h2
  have T := Lib.hid (rx_inc h1 n ib.out)
  have c1 := h1.c1
  have f1 := h1.blk.frozen 1
  clear h1 h2
  go_wp2_with fail
  go_end0
  exact ⟨rfl, T.out.1, O.out.trans T.out.2⟩
theorem stepTimes_any (b : Nat) (s : RS) (x : Value) (v : Int) (w : World) (hv : 0 ≤ v ∧ v < 4294967296) (h : RW w b s x) :
    Calls Try.prog 45 #[.pointer (some ⟨b, 0, none⟩), .int .u32 v] w fun e w' => e = .returned (.tuple #[]) ∧ RW w' b ⟨mul s.p (pt v), incR s⟩ x ∧ Only (fun j => j = b) w w' := by
  have P := Lib.hid (multiply_obj b s x v w hv h)
  have ei : IntKind.u32.wrap (s.n + 1) = incR s := IntKind.wrap_u32 _
  have ei2 : (s.n + 1) % 4294967296 = incR s := rfl
  have ib := Lib.hid (incR_b s)
  obtain ⟨n, hn⟩ : ∃ n, incR s = n := ⟨_, rfl⟩
  rw [hn] at ei ei2 ib
  rw [hn]
  obtain ⟨p, hp⟩ : ∃ p, mul s.p (pt v) = p := ⟨_, rfl⟩
  rw [hp] at P
  rw [hp]
  clear h hv hn hp
  go_enter Try.func45, Try.ntmps45
  go_wp2_with fail
  refine P.out.mono ?_
  rintro e w1 ⟨rfl, ⟨x1, y1, h1⟩, h2⟩
  have O := Lib.hid h2
  have T := Lib.hid (rx_inc h1 n ib.out)
  have c1 := h1.c1
  have f1 := h1.blk.frozen 1
  clear h1 h2
  go_wp2_with fail
  go_end0
  exact ⟨rfl, T.out.1, O.out.trans T.out.2⟩
theorem stepTurn_any (b : Nat) (s : RS) (x : Value) (v : Int) (w : World) (hv : 0 ≤ v ∧ v < 4294967296) (h : RW w b s x) :
    Calls Try.prog 46 #[.pointer (some ⟨b, 0, none⟩), .int .u32 v] w fun e w' => e = .returned (.tuple #[]) ∧ RW w' b ⟨turn s.p v.toNat, incR s⟩ x ∧ Only (fun j => j = b) w w' := by
  have P := Lib.hid (turn_obj b s x v w hv h)
  have ei : IntKind.u32.wrap (s.n + 1) = incR s := IntKind.wrap_u32 _
  have ei2 : (s.n + 1) % 4294967296 = incR s := rfl
  have ib := Lib.hid (incR_b s)
  obtain ⟨n, hn⟩ : ∃ n, incR s = n := ⟨_, rfl⟩
  rw [hn] at ei ei2 ib
  rw [hn]
  obtain ⟨p, hp⟩ : ∃ p, turn s.p v.toNat = p := ⟨_, rfl⟩
  rw [hp] at P
  rw [hp]
  clear h hv hn hp
  go_enter Try.func46, Try.ntmps46
  go_wp2_with fail
  refine P.out.mono ?_
  rintro e w1 ⟨rfl, ⟨x1, y1, h1⟩, h2⟩
  have O := Lib.hid h2
  have T := Lib.hid (rx_inc h1 n ib.out)
  have c1 := h1.c1
  have f1 := h1.blk.frozen 1
  clear h1 h2
  go_wp2_with fail
  go_end0
  exact ⟨rfl, T.out.1, O.out.trans T.out.2⟩
theorem rotor_info : (Try.prog.info? 51).isSome = true := by kernel_rfl
theorem eq_own (a : Addr) (w : World) : (binOp .eql 34 (.pointer (some a)) (.pointer (some a))).run Try.prog w = .ok (.bool true) w := by
  obtain ⟨j, hj⟩ := Option.isSome_iff_exists.1 rotor_info
  exact run_eql_ptr_same w a Try.underlying34 hj
theorem eq_nil (a : Addr) (w : World) : (binOp .eql 34 (.pointer none) (.pointer (some a))).run Try.prog w = .ok (.bool false) w := by
  have h : ∀ d : Nat, (Op.equalIn (d + 1) 34 (.pointer none) (.pointer (some a))).run Try.prog w = .ok false w := fun d => by
    simp [Op.equalIn, run_underlying Try.underlying34]
  simp only [binOp]
  simp [Op.equal, Op.maxDepth, h 9999]
abbrev me (b : Nat) : Value := .pointer (some ⟨b, 0, none⟩)
theorem is_yes (b : Nat) (w : World) (h : w.cell? ⟨b, 2, none⟩ = some (.pointer (some ⟨b, 0, none⟩))) :
    Calls Try.prog 38 #[.pointer (some ⟨b, 0, none⟩)] w fun e w' => e = .returned (.bool true) ∧ w = w' := by
  have he := eq_own ⟨b, 0, none⟩ w
  go_enter Try.func38, Try.ntmps38
  go_wp2_with fail
  go_ret
  exact ⟨rfl, rfl⟩
/-- The cells of one that was not answered. -/
def zeroCells : Array Value := #[.complex .f64 0 0, .int .u32 0, .pointer none]
/-- No rotor: none at all, or one that was not answered. -/
def ZeroAt (w : World) (b : Nat) : Prop := RW w b zeroR (.pointer none)
theorem pt_zero : IsPt 0 0 zeroR.p := ⟨den_nought, den_nought, ⟨by show (-32768 : Int) ≤ 0; omega, by show (0 : Int) ≤ 32767; omega⟩, ⟨by show (-32768 : Int) ≤ 0; omega, by show (0 : Int) ≤ 32767; omega⟩⟩
theorem zero_new (w : World) : ZeroAt (w.alloc (.cells zeroCells 51)) w.heap.size := ⟨0, 0, Blk.new w _ (cellsR 0 0 0 (.pointer none)), pt_zero, by show (0 : Int) ≤ 0; omega, by show (0 : Int) < _; omega⟩
theorem ZeroAt.keep {w w' : World} {b : Nat} (h : ZeroAt w b) (hb : Below w.heap.size w w') : ZeroAt w' b := RW.keep h hb
def Non (w : World) (v : Value) : Prop := v = .pointer none ∨ ∃ b, v = .pointer (some ⟨b, 0, none⟩) ∧ ZeroAt w b
theorem Non.keep {w w' : World} {v : Value} (h : Non w v) (hb : Below w.heap.size w w') : Non w' v := by
  rcases h with rfl | ⟨b, rfl, h⟩
  · exact .inl rfl
  · exact .inr ⟨b, rfl, h.keep hb⟩
theorem is_non (v : Value) (w : World) (h : Non w v) :
    Calls Try.prog 38 #[v] w fun e w' => e = .returned (.bool false) ∧ w = w' := by
  rcases h with rfl | ⟨b, rfl, h⟩
  · go_enter Try.func38, Try.ntmps38
    go_wp2_with fail
    go_ret
    exact ⟨rfl, rfl⟩
  · have c1 := RW.c2 h
    have he := eq_nil ⟨b, 0, none⟩ w
    clear h
    go_enter Try.func38, Try.ntmps38
    go_wp2_with fail
    go_ret
    exact ⟨rfl, rfl⟩
theorem rotor_yes (b : Nat) (w : World) (h : w.cell? ⟨b, 2, none⟩ = some (.pointer (some ⟨b, 0, none⟩))) :
    Calls Try.prog 34 #[.pointer (some ⟨b, 0, none⟩)] w fun e w' => e = .returned (.pointer (some ⟨b, 0, none⟩)) ∧ w = w' := by
  have H := Lib.hid (is_yes b w h)
  clear h
  go_enter Try.func34, Try.ntmps34
  go_wp2_with fail
  refine H.out.mono ?_
  rintro e w1 ⟨rfl, rfl⟩
  go_wp2_with fail
  go_ret
  exact ⟨rfl, rfl⟩
/-- A fresh one that nobody has: its block is new. -/
theorem rotor_non (v : Value) (w : World) (h : Non w v) :
    Calls Try.prog 34 #[v] w fun e w' => (∃ b, e = .returned (me b) ∧ ZeroAt w' b ∧ w.heap.size ≤ b) ∧ Below w.heap.size w w' := by
  have H := Lib.hid (is_non v w h)
  clear h
  go_enter Try.func34, Try.ntmps34
  go_wp2_with fail
  refine H.out.mono ?_
  rintro e w1 ⟨rfl, rfl⟩
  go_wp2_with fail
  go_ret
  exact ⟨⟨_, rfl, zero_new w, Nat.le_refl _⟩, (Below.refl _ _).alloc (Nat.le_refl _) _⟩
theorem laid_any (x y : Nat) (s : RS) (v : Value) (w : World) (h : IsPt x y s.p) (hn : 0 ≤ s.n ∧ s.n < 4294967296) :
    Calls Try.prog 33 #[.agg #[.complex .f64 x y, .int .u32 s.n, v]] w fun e w' => (∃ b, e = .returned (me b) ∧ RW w' b s (me b) ∧ w.heap.size ≤ b) ∧ Below w.heap.size w w' := by
  have H := Lib.hid (And.intro h hn)
  clear h hn
  go_enter Try.func33, Try.ntmps33
  go_wp2_with fail
  go_ret
  refine ⟨⟨w.heap.size, rfl, ⟨x, y, Blk.new w _ (cellsR x y s.n (me w.heap.size)), H.out.1, H.out.2⟩, Nat.le_refl _⟩, ?_⟩
  exact (Below.refl _ _).alloc (Nat.le_refl _) _
theorem keyK : Keyed Try.prog 3 := int_keyed Try.underlying3
theorem key_mk (k : Int) (hk : I64 k) : keyOf Try.prog 3 (.int .i64 k) = some (.int .i64 k) := keyOf_int_mk Try.underlying3 (WalkArith.wf_i64 ⟨hk.1, hk.2⟩)
def meth (f : Nat) (b : Nat) : Value := .func (.func f) #[.pointer (some ⟨b, 0, none⟩)] #[]
def readL (b : Nat) : List (Int × Value) := [(4, meth 47 b), (0, meth 36 b)]
def writeL (b : Nat) : List (Int × Value) := [(3, meth 46 b), (2, meth 45 b), (1, meth 44 b), (0, meth 43 b)]
theorem reads_any (b : Nat) (w : World) :
    Calls Try.prog 37 #[.pointer (some ⟨b, 0, none⟩)] w fun e w' => (∃ g, e = .returned (.map (some g)) ∧ FM Try.prog 3 .i64 w' g (readL b)) ∧ Below w.heap.size w w' := by
  have hmm := @run_makeMap Try.prog
  have hmf : ∀ w f r, (Instr.makeFunc (.func f) r #[]).run Try.prog w = .ok (.func (.func f) r #[]) w := fun w f r => rfl
  go_enter Try.func37, Try.ntmps37
  go_wp2_with (with_reducible refine at_insert _ _ _ _ rfl ?_)
  refine Lib.hid ?_
  refine list_letter ?_
  intro W hW
  have B0 := Lib.hid (show Below w.heap.size w W by rw [hW.out]; exact (Below.refl w.heap.size w).alloc (Nat.le_refl _) _)
  have H0 := Lib.hid (show FM Try.prog 3 .i64 W w.heap.size [] by rw [hW.out]; exact FM.made _ _ _ w)
  clear hW
  obtain ⟨g, hg⟩ : ∃ g, w.heap.size = g := ⟨_, rfl⟩
  rw [hg] at B0 H0
  rw [hg]
  refine wpList_insert_fm _ rfl _ _ _ _ rfl 3 66 .i64 keyK Try.underlying68 g _ rfl H0.out (by simp [maxLen]) 0 (meth 36 b) rfl rfl (key_mk 0 ⟨by decide, by decide⟩) ?_
  intro w1 hown hon
  have H1 := Lib.hid hown
  have B1 := Lib.hid (B0.out.trans (hon.below (Nat.le_of_lt H0.out.lt) (fun k e => by have : k = g := e; omega)))
  clear hown hon
  go_wp2_with (with_reducible refine at_insert _ _ _ _ rfl ?_)
  refine Lib.hid ?_
  refine wpList_insert_fm _ rfl _ _ _ _ rfl 3 66 .i64 keyK Try.underlying68 g _ rfl H1.out (by simp [maxLen]) 4 (meth 47 b) rfl rfl (key_mk 4 ⟨by decide, by decide⟩) ?_
  intro w2 hown hon
  have H2 := Lib.hid hown
  have B2 := Lib.hid (B1.out.trans (hon.below (Nat.le_of_lt H1.out.lt) (fun k e => by have : k = g := e; omega)))
  clear hown hon
  go_wp2_with fail
  go_ret
  exact ⟨⟨g, rfl, H2.out⟩, by rw [hg]; exact B2.out⟩
theorem writes_any (b : Nat) (w : World) :
    Calls Try.prog 35 #[.pointer (some ⟨b, 0, none⟩)] w fun e w' => (∃ g, e = .returned (.map (some g)) ∧ FM Try.prog 3 .i64 w' g (writeL b)) ∧ Below w.heap.size w w' := by
  have hmm := @run_makeMap Try.prog
  have hmf : ∀ w f r, (Instr.makeFunc (.func f) r #[]).run Try.prog w = .ok (.func (.func f) r #[]) w := fun w f r => rfl
  go_enter Try.func35, Try.ntmps35
  go_wp2_with (with_reducible refine at_insert _ _ _ _ rfl ?_)
  refine Lib.hid ?_
  refine list_letter ?_
  intro W hW
  have B0 := Lib.hid (show Below w.heap.size w W by rw [hW.out]; exact (Below.refl w.heap.size w).alloc (Nat.le_refl _) _)
  have H0 := Lib.hid (show FM Try.prog 3 .i64 W w.heap.size [] by rw [hW.out]; exact FM.made _ _ _ w)
  clear hW
  obtain ⟨g, hg⟩ : ∃ g, w.heap.size = g := ⟨_, rfl⟩
  rw [hg] at B0 H0
  rw [hg]
  refine wpList_insert_fm _ rfl _ _ _ _ rfl 3 62 .i64 keyK Try.underlying64 g _ rfl H0.out (by simp [maxLen]) 0 (meth 43 b) rfl rfl (key_mk 0 ⟨by decide, by decide⟩) ?_
  intro w1 hown hon
  have H1 := Lib.hid hown
  have B1 := Lib.hid (B0.out.trans (hon.below (Nat.le_of_lt H0.out.lt) (fun k e => by have : k = g := e; omega)))
  clear hown hon
  go_wp2_with (with_reducible refine at_insert _ _ _ _ rfl ?_)
  refine Lib.hid ?_
  refine wpList_insert_fm _ rfl _ _ _ _ rfl 3 62 .i64 keyK Try.underlying64 g _ rfl H1.out (by simp [maxLen]) 1 (meth 44 b) rfl rfl (key_mk 1 ⟨by decide, by decide⟩) ?_
  intro w2 hown hon
  have H2 := Lib.hid hown
  have B2 := Lib.hid (B1.out.trans (hon.below (Nat.le_of_lt H1.out.lt) (fun k e => by have : k = g := e; omega)))
  clear hown hon
  go_wp2_with (with_reducible refine at_insert _ _ _ _ rfl ?_)
  refine Lib.hid ?_
  refine wpList_insert_fm _ rfl _ _ _ _ rfl 3 62 .i64 keyK Try.underlying64 g _ rfl H2.out (by simp [maxLen]) 2 (meth 45 b) rfl rfl (key_mk 2 ⟨by decide, by decide⟩) ?_
  intro w3 hown hon
  have H3 := Lib.hid hown
  have B3 := Lib.hid (B2.out.trans (hon.below (Nat.le_of_lt H2.out.lt) (fun k e => by have : k = g := e; omega)))
  clear hown hon
  go_wp2_with (with_reducible refine at_insert _ _ _ _ rfl ?_)
  refine Lib.hid ?_
  refine wpList_insert_fm _ rfl _ _ _ _ rfl 3 62 .i64 keyK Try.underlying64 g _ rfl H3.out (by simp [maxLen]) 3 (meth 46 b) rfl rfl (key_mk 3 ⟨by decide, by decide⟩) ?_
  intro w4 hown hon
  have H4 := Lib.hid hown
  have B4 := Lib.hid (B3.out.trans (hon.below (Nat.le_of_lt H3.out.lt) (fun k e => by have : k = g := e; omega)))
  clear hown hon
  go_wp2_with fail
  go_ret
  exact ⟨⟨g, rfl, H4.out⟩, by rw [hg]; exact B4.out⟩
end Go.Proofs.Ytelmkfpomeilpaa.Rotor
