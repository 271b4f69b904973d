/- Put together: S6wg, S6wh. -/
import Derived.Test.YtmdepkehpohgeaaGreatS6wf
/- Package scrub: given, taken, moved; what is told of a row, of none. -/
namespace Go.Proofs.YtmdepkehpohgeaaGreat.Scr
open Go.RowKit Go.Maps Go.ChangeShapes Go.WideShapes Go.ChangeAt Fifo Orow Word
set_option linter.unusedVariables false
attribute [local go_sem] Oper.semAt_some

/-- A function's value that bears what it needs. -/
abbrev fnV (F : Nat) (q : Nat) : Value := .func (.func F) #[] #[.pointer (some ⟨q, 0, none⟩)]
theorem scrub_of (v : Value) (n x : Int) (w : World) (R : Int → World → Prop) (hv : ∃ p, v = .pointer p)
    (h : Calls Tryz.prog 46 #[v, .int .i64 n, .func (.func 65) #[] #[], fnV 66 w.heap.size] (w.alloc (.cells #[.int .i64 x] 3)) fun e w' => ∃ er, e = .returned (.int .i64 er) ∧ R er w') :
    Calls Tryz.prog 50 #[v, .int .i64 n, .int .i64 x] w fun e w' => ∃ er, e = .returned (.int .i64 er) ∧ R er w' := by
  have hmf : ∀ (fn : Fn) (first cap : Array Value) (w : World), (Instr.makeFunc fn first cap).run Tryz.prog w = .ok (.func fn first cap) w := fun _ _ _ _ => rfl
  have H := Lib.hid h
  obtain ⟨p, rfl⟩ := hv
  clear h
  go_enter Tryz.func50, Tryz.ntmps50
  go_wp2_with fail
  refine H.out.mono ?_
  rintro e w1 ⟨er, rfl, hr⟩
  have HR := Lib.hid hr
  clear hr H
  go_wp2_with fail
  go_ret
  exact ⟨er, rfl, HR.out⟩
theorem take_of (v : Value) (n : Int) (w : World) (R : Int → World → Prop) (hv : ∃ p, v = .pointer p)
    (h : Calls Tryz.prog 50 #[v, .int .i64 n, .int .i64 (-1)] w fun e w' => ∃ er, e = .returned (.int .i64 er) ∧ R er w') :
    Calls Tryz.prog 16 #[v, .int .i64 n] w fun e w' => ∃ er, e = .returned (.int .i64 er) ∧ R er w' := by
  have H := Lib.hid h
  obtain ⟨p, rfl⟩ := hv
  clear h
  go_enter Tryz.func16, Tryz.ntmps16
  go_wp2_with fail
  refine H.out.mono ?_
  rintro e w1 ⟨er, rfl, hr⟩
  have HR := Lib.hid hr
  clear hr H
  go_wp2_with fail
  go_ret
  exact ⟨er, rfl, HR.out⟩
/-- The row, at any place. -/
theorem take_scrub (s : RS) (n : Int) : takeV s n = if isN s n then takenV s n (-1) else (6, s) := rfl
theorem isN_no {s : RS} {n : Int} {m : Nat} (hm : m = s.H.length) (h : ¬ isN s n = true) : n < 0 ∨ (m : Int) ≤ n := by
  subst hm
  by_cases h0 : n < 0
  · exact .inl h0
  · exact .inr (by
      by_cases h1 : (s.H.length : Int) ≤ n
      · exact h1
      · exact absurd (isN_iff.2 ⟨by omega, by omega⟩) h)
set_option maxHeartbeats 1000000 in
theorem scrub_row (Bk b : Nat) (s : RS) (O : Nat → Prop) (n x : Int) (w : World) (hx : -1 ≤ x ∧ x < 8) (h : Row Bk w b s O) :
    Calls Tryz.prog 50 #[.pointer (some ⟨b, 0, none⟩), .int .i64 n, .int .i64 x] w fun e w' => ∃ er, e = .returned (.int .i64 er) ∧ er = (if isN s n then takenV s n x else (6, s)).1 ∧ Left Bk w w' b (if isN s n then takenV s n x else (6, s)).2 O := by
  obtain ⟨a, c, L, hi, h1, h2, h3⟩ := h
  have hb : Below w.heap.size w (w.alloc (.cells #[.int .i64 x] 3)) := (Below.refl _ _).alloc (Nat.le_refl _) _
  have hi' := hi.keep hb
  have hq : (w.alloc (.cells #[.int .i64 x] 3)).cell? ⟨w.heap.size, 0, none⟩ = some (.int .i64 x) := World.cell?_alloc_at _ _ _ 0 rfl
  have hrow : Row Bk w b s O := ⟨a, c, L, hi, h1, h2, h3⟩
  refine scrub_of _ n x w _ ⟨_, rfl⟩ ?_
  by_cases hN : isN s n = true
  · rw [if_pos hN]
    obtain ⟨n0, n1⟩ := isN_iff.1 hN
    obtain ⟨k, rfl⟩ : ∃ k : Nat, n = (k : Nat) := ⟨n.toNat, by omega⟩
    have hk : k < L.length := by rw [hi.len]; omega
    obtain ⟨g, rfl⟩ := own_some hi.row (.inl (by omega))
    obtain ⟨e, he⟩ : ∃ e, L[k]! = e := ⟨_, rfl⟩
    obtain ⟨o, l, nn, kk⟩ := e
    have hat : at' s (k : Nat) = ⟨o, l, nn⟩ := by
      show s.H[(k : Int).toNat]! = _
      rw [Int.toNat_natCast, ← (hi.at hk).1, he]; rfl
    have hkk : s.K[(k : Int).toNat]! = kk := by rw [Int.toNat_natCast, ← (hi.at hk).2, he]
    unfold takenV
    rw [hat, hkk]
    by_cases hf : (⟨o, l, nn⟩ : Hd) = freeH
    · rw [if_pos hf]
      refine (change_take_err b c k w.heap.size g s L o l nn kk x 5 _ hi' hk he hq (by unfold takeE; rw [if_pos hf]) (by decide)).mono ?_
      rintro e w' ⟨rfl, hb'⟩
      exact ⟨_, rfl, rfl, Left.same hrow (hb.trans (hb'.mono hb.size))⟩
    · rw [if_neg hf]
      by_cases hl : 0 < l
      · rw [if_pos hl]
        refine (change_take_err b c k w.heap.size g s L o l nn kk x 14 _ hi' hk he hq (by unfold takeE; rw [if_neg hf, if_pos hl]) (by decide)).mono ?_
        rintro e w' ⟨rfl, hb'⟩
        exact ⟨_, rfl, rfl, Left.same hrow (hb.trans (hb'.mono hb.size))⟩
      · rw [if_neg hl]
        have hkb : 1 ≤ kk ∧ kk ≤ 6 := by
          have := hi.ok.kin k (by rw [← hi.kn, List.length_map]; exact hk)
          rw [← (hi.at hk).2, he] at this
          exact this
        have hot : OkH ⟨-1, timeV kk, x⟩ := by
          have ht := time_b hkb
          exact ⟨by show 0 ≤ timeV kk ∧ timeV kk ≤ 16; omega, by show (-1 : Int) ≤ -1 ∧ (-1 : Int) < 8; omega, hx, fun e => absurd e (by show ¬ (0 : Int) ≤ -1; omega), fun e => by have e : timeV kk = 0 := e; omega⟩
        refine (change_take_ok b c k w.heap.size g s L o l nn kk x _ hi' hk he hq (by unfold takeE; rw [if_neg hf, if_neg hl]) hot).mono ?_
        rintro e w' ⟨rfl, hin, hon⟩
        exact ⟨_, rfl, rfl, O, ⟨_, _, _, hin, h1, h2, h3⟩, ((Only.of_below hb).trans hon).mono (fun j _ e => (h3 j).2 (.inr (by have e : j = g := e; rw [e]; exact ba_self _ _))), fun j hj => .inl hj⟩
  · rw [if_neg hN]
    refine (change_take_no b c a s L n w.heap.size _ hi' (isN_no hi.len hN)).mono ?_
    rintro e w' ⟨rfl, hb'⟩
    exact ⟨_, rfl, rfl, Left.same hrow (hb.trans (hb'.mono hb.size))⟩
theorem Left.pre {O : Nat → Prop} {Bk : Nat} {w w1 w' : World} {b : Nat} {s : RS} (hb : Below w.heap.size w w1) (h : Left Bk w1 w' b s O) : Left Bk w w' b s O := by
  obtain ⟨O', h1, h2, h3⟩ := h
  exact ⟨O', h1, (Only.of_below hb).trans h2, fun j hj => (h3 j hj).imp (fun h => h) (fun h => Nat.le_trans hb.size h)⟩
section
variable (Bk b : Nat) (s : RS) (O : Nat → Prop)
theorem Take_any (n : Int) (w : World) (h1 : I64 n) (h : Row Bk w b s O) :
    Calls Tryz.prog 16 #[.pointer (some ⟨b, 0, none⟩), .int .i64 n] w fun e w' => e = .returned (.int .i64 (takeV s n).1) ∧ Left Bk w w' b (takeV s n).2 O := by
  refine (take_of _ n w _ ⟨_, rfl⟩ (scrub_row Bk b s O n (-1) w (by omega) h)).mono ?_
  rintro e w' ⟨er, rfl, rfl, hl⟩
  exact ⟨rfl, hl⟩
theorem Move_any (n x : Int) (w : World) (h1 : I64 n) (h2 : I64 x) (h : Row Bk w b s O) :
    Calls Tryz.prog 17 #[.pointer (some ⟨b, 0, none⟩), .int .i64 n, .int .i64 x] w fun e w' => e = .returned (.int .i64 (moveV s n x).1) ∧ Left Bk w w' b (moveV s n x).2 O := by
  have IS := Lib.hid (show Calls Tryz.prog 44 #[.pointer (some ⟨b, 0, none⟩)] w fun e w' => e = .returned (.bool true) ∧ w = w' by
    obtain ⟨a, c, L, hi, -⟩ := h
    exact is_yes b w (hi.blk.at 1 rfl))
  have IW := Lib.hid (isWorld_any x w)
  obtain ⟨q, hq⟩ : ∃ q, isW x = q := ⟨_, rfl⟩
  rw [hq] at IW
  have HRow := Lib.hid h
  cases q with
  | false =>
    have hm : moveV s n x = (6, s) := by unfold moveV; rw [hq, Bool.and_false]; rfl
    rw [hm]
    clear h h1 h2 hq hm
    go_enter Tryz.func17, Tryz.ntmps17
    go_wp2_with (first
      | (go_at_call 44; refine (IS.out).mono ?_; rintro e w1 ⟨rfl, rfl⟩)
      | (go_at_call 45; refine (IW.out).mono ?_; rintro e w2 ⟨rfl, hb2⟩; have B2 := Lib.hid hb2; clear hb2))
    go_ret
    exact ⟨rfl, Left.same HRow.out B2.out⟩
  | true =>
    have hm : moveV s n x = if isN s n then takenV s n x else (6, s) := by unfold moveV; rw [hq, Bool.and_true]
    have hx := isW_iff.1 hq
    have CH := Lib.hid (fun w2 (hb : Below w.heap.size w w2) => scrub_row Bk b s O n x w2 (by omega) (HRow.out.keep hb))
    obtain ⟨res, hres⟩ : ∃ res, (if isN s n then takenV s n x else (6, s)) = res := ⟨_, rfl⟩
    rw [hm]
    rw [hres] at CH ⊢
    clear h h1 h2 hq hm hx hres
    go_enter Tryz.func17, Tryz.ntmps17
    go_wp2_with (first
      | (go_at_call 44; refine (IS.out).mono ?_; rintro e w1 ⟨rfl, rfl⟩)
      | (go_at_call 45; refine (IW.out).mono ?_; rintro e w2 ⟨rfl, hb2⟩; have B2 := Lib.hid hb2; clear hb2)
      | (go_at_call 50; refine (CH.out w2 B2.out).mono ?_; rintro e w3 ⟨er, rfl, hr⟩; have HR := Lib.hid hr; clear hr))
    go_ret
    exact ⟨by rw [HR.out.1]; rfl, Left.pre B2.out HR.out.2⟩
theorem give_row (n x : Int) (w : World) (q : Nat) (hx : isW x = true) (hq : w.cell? ⟨q, 0, none⟩ = some (.int .i64 x)) (h : Row Bk w b s O) :
    Calls Tryz.prog 46 #[.pointer (some ⟨b, 0, none⟩), .int .i64 n, .func (.func 47) #[] #[], fnV 48 q] w fun e w' => ∃ er, e = .returned (.int .i64 er) ∧ er = (giveV s n x).1 ∧ Left Bk w w' b (giveV s n x).2 O := by
  have hrow := h
  obtain ⟨a, c, L, hi, h1, h2, h3⟩ := h
  unfold giveV
  rw [hx, Bool.and_true]
  by_cases hN : isN s n = true
  · rw [if_pos hN]
    obtain ⟨n0, n1⟩ := isN_iff.1 hN
    obtain ⟨k, rfl⟩ : ∃ k : Nat, n = (k : Nat) := ⟨n.toNat, by omega⟩
    have hk : k < L.length := by rw [hi.len]; omega
    obtain ⟨g, rfl⟩ := own_some hi.row (.inl (by omega))
    obtain ⟨e, he⟩ : ∃ e, L[k]! = e := ⟨_, rfl⟩
    obtain ⟨o, l, nn, kk⟩ := e
    have hat : at' s (k : Nat) = ⟨o, l, nn⟩ := by
      show s.H[(k : Int).toNat]! = _
      rw [Int.toNat_natCast, ← (hi.at hk).1, he]; rfl
    rw [hat]
    by_cases hf : (⟨o, l, nn⟩ : Hd) = freeH
    · rw [if_pos hf]
      have hx2 := isW_iff.1 hx
      have hot : OkH ⟨x, 0, -1⟩ := ⟨by show (0 : Int) ≤ 0 ∧ (0 : Int) ≤ 16; omega, by show -1 ≤ x ∧ x < 8; omega, by show (-1 : Int) ≤ -1 ∧ (-1 : Int) < 8; omega, fun _ => rfl, fun _ => rfl⟩
      refine (change_give_ok b c k q g s L o l nn kk x w hi hk he hq (by unfold giveE; rw [if_pos hf]) hot).mono ?_
      rintro e w' ⟨rfl, hin, hon⟩
      exact ⟨_, rfl, rfl, O, ⟨_, _, _, hin, h1, h2, h3⟩, hon.mono (fun j _ e => (h3 j).2 (.inr (by have e : j = g := e; rw [e]; exact ba_self _ _))), fun j hj => .inl hj⟩
    · rw [if_neg hf]
      refine (change_give_err b c k q g s L o l nn kk x 14 w hi hk he hq (by unfold giveE; rw [if_neg hf]) (by decide)).mono ?_
      rintro e w' ⟨rfl, hb'⟩
      exact ⟨_, rfl, rfl, Left.same hrow hb'⟩
  · rw [if_neg hN]
    refine (change_give_no b c a s L n q w hi (isN_no hi.len hN)).mono ?_
    rintro e w' ⟨rfl, hb'⟩
    exact ⟨_, rfl, rfl, Left.same hrow hb'⟩
theorem Give_any (n x : Int) (w : World) (h1 : I64 n) (h2 : I64 x) (h : Row Bk w b s O) :
    Calls Tryz.prog 15 #[.pointer (some ⟨b, 0, none⟩), .int .i64 n, .int .i64 x] w fun e w' => e = .returned (.int .i64 (giveV s n x).1) ∧ Left Bk w w' b (giveV s n x).2 O := by
  have hmf : ∀ (fn : Fn) (first cap : Array Value) (w : World), (Instr.makeFunc fn first cap).run Tryz.prog w = .ok (.func fn first cap) w := fun _ _ _ _ => rfl
  have HRow := Lib.hid h
  have B0 := Lib.hid ((Below.refl w.heap.size w).alloc (Nat.le_refl _) (.cells #[.int .i64 x] 3))
  have hcell : (w.alloc (.cells #[.int .i64 x] 3)).cell? ⟨w.heap.size, 0, none⟩ = some (.int .i64 x) := World.cell?_alloc_at _ _ _ 0 rfl
  have HC := Lib.hid hcell
  have IS := Lib.hid (show Calls Tryz.prog 44 #[.pointer (some ⟨b, 0, none⟩)] (w.alloc (.cells #[.int .i64 x] 3)) fun e w' => e = .returned (.bool true) ∧ w.alloc (.cells #[.int .i64 x] 3) = w' by
    obtain ⟨a, c, L, hi, -⟩ := h
    exact is_yes b _ ((hi.keep B0.out).blk.at 1 rfl))
  have IW := Lib.hid (isWorld_any x (w.alloc (.cells #[.int .i64 x] 3)))
  obtain ⟨q, hq⟩ : ∃ q, isW x = q := ⟨_, rfl⟩
  rw [hq] at IW
  cases q with
  | false =>
    have hm : giveV s n x = (6, s) := by unfold giveV; rw [hq, Bool.and_false]; rfl
    rw [hm]
    clear h h1 h2 hq hm hcell
    go_enter Tryz.func15, Tryz.ntmps15
    go_wp2_with (first
      | (go_at_call 44; refine (IS.out).mono ?_; rintro e w1 ⟨rfl, rfl⟩)
      | (go_at_call 45; refine (IW.out).mono ?_; rintro e w2 ⟨rfl, hb2⟩; have B2 := Lib.hid (B0.out.trans (hb2.mono B0.out.size)); clear hb2))
    go_ret
    exact ⟨rfl, Left.same HRow.out B2.out⟩
  | true =>
    have CH := Lib.hid (fun w2 (hb : Below (w.alloc (.cells #[.int .i64 x] 3)).heap.size (w.alloc (.cells #[.int .i64 x] 3)) w2) => give_row Bk b s O n x w2 w.heap.size hq (cell_keep hb HC.out) (HRow.out.keep (B0.out.trans (hb.mono B0.out.size))))
    obtain ⟨res, hres⟩ : ∃ res, giveV s n x = res := ⟨_, rfl⟩
    rw [hres] at CH ⊢
    clear h h1 h2 hq hres hcell
    go_enter Tryz.func15, Tryz.ntmps15
    go_wp2_with (first
      | (go_at_call 44; refine (IS.out).mono ?_; rintro e w1 ⟨rfl, rfl⟩)
      | (go_at_call 45; refine (IW.out).mono ?_; rintro e w2 ⟨rfl, hb2⟩; have B2 := Lib.hid hb2; clear hb2)
      | (go_at_call 46; refine (CH.out w2 B2.out).mono ?_; rintro e w3 ⟨er, rfl, hr⟩; have HR := Lib.hid hr; clear hr))
    go_ret
    exact ⟨by rw [HR.out.1]; rfl, Left.pre (B0.out.trans (B2.out.mono B0.out.size)) HR.out.2⟩
end
end Go.Proofs.YtmdepkehpohgeaaGreat.Scr
/- Package scrub: what is told of a row, and of none. -/
namespace Go.Proofs.YtmdepkehpohgeaaGreat.Scr
open Go.RowKit Go.Maps Go.ChangeShapes Go.WideShapes Go.ChangeAt Fifo Orow Word
set_option linter.unusedVariables false
attribute [local go_sem] Oper.semAt_some

section
variable (Bk b : Nat) (s : RS) (O : Nat → Prop)
theorem Len_any (w : World) (h : Row Bk w b s O) :
    Calls Tryz.prog 18 #[.pointer (some ⟨b, 0, none⟩)] w fun e w' => e = .returned (.int .i64 (s.H.length : Nat)) ∧ Below w.heap.size w w' := by
  obtain ⟨a, c, L, hi, -⟩ := h
  have q0 := hi.blk.at 0 rfl
  rw [hi.len] at q0
  have RY := Lib.hid (row_yes b w (hi.blk.at 1 rfl))
  obtain ⟨m, hm⟩ : ∃ m, s.H.length = m := ⟨_, rfl⟩
  rw [hm] at q0 ⊢
  clear hi hm
  go_enter Tryz.func18, Tryz.ntmps18
  go_wp2_with fail
  refine RY.out.mono ?_
  rintro e w1 ⟨rfl, rfl⟩
  clear RY
  go_wp2_with fail
  go_ret
  exact ⟨rfl, Below.refl _ _⟩
/-- What at tells of a row. -/
theorem at_row (n : Int) (w : World) (h1 : I64 n) (a : Option Addr) (c : Nat) (L : List Hk) (hi : InB w b s a c L) :
    ∃ kk, Calls Tryz.prog 42 #[.slice a L.length c, .int .i64 n] w fun e w' => e = .returned (.tuple #[.agg #[.int .i64 (holdV s n).1.o, .int .i64 (holdV s n).1.l, .int .i64 (holdV s n).1.n, .int .i64 kk], .bool (isN s n)]) ∧ Below w.heap.size w w' := by
  by_cases hN : isN s n = true
  · obtain ⟨n0, n1⟩ := isN_iff.1 hN
    obtain ⟨k, rfl⟩ : ∃ k : Nat, n = (k : Nat) := ⟨n.toNat, by omega⟩
    have hk : k < L.length := by rw [hi.len]; omega
    obtain ⟨g, rfl, hc⟩ := hi.cells hk
    obtain ⟨e, he⟩ : ∃ e, L[k]! = e := ⟨_, rfl⟩
    rw [he] at hc
    obtain ⟨o, l, nn, kk⟩ := e
    have hat : at' s (k : Nat) = ⟨o, l, nn⟩ := by
      show s.H[(k : Int).toNat]! = _
      rw [Int.toNat_natCast, ← (hi.at hk).1, he]; rfl
    refine ⟨kk, ?_⟩
    unfold holdV
    rw [hN, hat]
    exact at_yes g k L.length c o l nn kk w hk hc
  · refine ⟨0, ?_⟩
    have hf : isN s n = false := by cases hh : isN s n; rfl; exact absurd hh hN
    unfold holdV
    rw [hf]
    exact at_no n a L.length c w (isN_no hi.len hN)
theorem Hold_any (n : Int) (w : World) (h1 : I64 n) (h : Row Bk w b s O) :
    Calls Tryz.prog 13 #[.pointer (some ⟨b, 0, none⟩), .int .i64 n] w fun e w' => e = .returned (.tuple #[.agg #[.int .i64 (holdV s n).1.o, .int .i64 (holdV s n).1.l, .int .i64 (holdV s n).1.n], .bool (holdV s n).2]) ∧ Below w.heap.size w w' := by
  obtain ⟨a, c, L, hi, -⟩ := h
  obtain ⟨M, hM⟩ : ∃ M, M = w.alloc (.cells #[.int .i64 0, .int .i64 0, .int .i64 0] 52) := ⟨_, rfl⟩
  have BM := Lib.hid (show Below w.heap.size w M by rw [hM]; exact (Below.refl _ _).alloc (Nat.le_refl _) _)
  have Z0 := Lib.hid (show Blk M w.heap.size 52 [.int .i64 0, .int .i64 0, .int .i64 0] by rw [hM]; exact Blk.new w _ [.int .i64 0, .int .i64 0, .int .i64 0])
  have hi' := hi.keep BM.out
  obtain ⟨kk, ha⟩ := at_row b s n M h1 a c L hi'
  have q0 := hi'.blk.at 0 rfl
  have RY := Lib.hid (row_yes b M (hi'.blk.at 1 rfl))
  have h2 : (holdV s n).2 = isN s n := by unfold holdV; cases isN s n <;> rfl
  rw [h2]
  obtain ⟨q, hq⟩ : ∃ q, isN s n = q := ⟨_, rfl⟩
  obtain ⟨hd, hhd⟩ : ∃ hd, (holdV s n).1 = hd := ⟨_, rfl⟩
  rw [hq, hhd] at ha
  rw [hq, hhd]
  obtain ⟨o, l, nn⟩ := hd
  have HA := Lib.hid ha
  have HM := Lib.hid hM
  rw [hM] at HA RY q0
  clear hi hi' ha hM h1 h2 hq hhd
  go_enter Tryz.func13, Tryz.ntmps13
  go_wp2_with fail
  refine RY.out.mono ?_
  rintro e w1 ⟨rfl, rfl⟩
  clear RY
  go_wp2_with fail
  refine HA.out.mono ?_
  rintro e w2 ⟨rfl, hb⟩
  rw [← HM.out] at hb
  have B2 := Lib.hid (BM.out.trans (hb.mono BM.out.size))
  have Z2 := Lib.hid (Z0.out.keep hb)
  have S2 := Lib.hid hb.size
  clear hb HA
  go_wp2_with (with_reducible refine at_st 52 _ _ rfl ?_)
  refine Lib.hid ?_
  refine store_all rfl _ _ _ rfl w.heap.size [.int .i64 o, .int .i64 l, .int .i64 nn] rfl rfl _ _ (Z2.out.alloc _) (by kernel_rfl) rfl (by simp [Value.oneCell']) ?_
  intro X hX hoX
  go_wp2_with fail
  have r0 := hX.at 0 rfl
  have r1 := hX.at 1 rfl
  have r2 := hX.at 2 rfl
  refine bodyPost_ret (v := .tuple #[.agg #[.int .i64 o, .int .i64 l, .int .i64 nn], .bool q]) ?_ rfl ⟨rfl, (B2.out.alloc B2.out.size _).trans (hoX.below (by have := S2.out; have := BM.out.size; simp; omega) (fun j e => by have e : j = w.heap.size := e; omega))⟩
  simp [results, Tryz.results13, go_sem, r0, r1, r2]
theorem Owner_any (n : Int) (w : World) (h1 : I64 n) (h : Row Bk w b s O) :
    Calls Tryz.prog 14 #[.pointer (some ⟨b, 0, none⟩), .int .i64 n] w fun e w' => e = .returned (.tuple #[.int .i64 (ownerV s n).1, .bool (ownerV s n).2]) ∧ Below w.heap.size w w' := by
  obtain ⟨a, c, L, hi, -⟩ := h
  obtain ⟨kk, ha⟩ := at_row b s n w h1 a c L hi
  have q0 := hi.blk.at 0 rfl
  have RY := Lib.hid (row_yes b w (hi.blk.at 1 rfl))
  have ho : ownerV s n = if isN s n && !((holdV s n).1.o == -1) then ((holdV s n).1.o, true) else (0, false) := by
    unfold ownerV holdV
    by_cases hN : isN s n = true
    · have hk := isN_iff.1 hN
      have hok := (hi.ok.hol n.toNat (by omega)).2.1.1
      have hok : -1 ≤ (at' s n).o := hok
      rw [hN, Bool.true_and, Bool.true_and, if_pos rfl]
      by_cases he : (at' s n).o = -1
      · rw [decide_eq_false (by omega), beq_iff_eq.2 he]; rfl
      · rw [decide_eq_true (by omega), beq_eq_false_iff_ne.2 he]; rfl
    · have hf : isN s n = false := by cases hh : isN s n; rfl; exact absurd hh hN
      rw [hf]; rfl
  rw [ho]
  obtain ⟨q, hq⟩ : ∃ q, isN s n = q := ⟨_, rfl⟩
  obtain ⟨hd, hhd⟩ : ∃ hd, (holdV s n).1 = hd := ⟨_, rfl⟩
  rw [hq, hhd] at ha
  rw [hq, hhd]
  obtain ⟨o, l, nn⟩ := hd
  have OW := Lib.hid (fun w => owned_any o l nn kk w)
  obtain ⟨ob, hob⟩ : ∃ ob, (!(o == -1)) = ob := ⟨_, rfl⟩
  show Calls _ _ _ _ fun e w' => e = .returned (.tuple #[.int .i64 (if q && (!(o == -1)) then (o, true) else (0, false)).1, .bool (if q && (!(o == -1)) then (o, true) else (0, false)).2]) ∧ Below w.heap.size w w'
  rw [hob] at OW ⊢
  have HA := Lib.hid ha
  clear hi ha h1 hq hhd ho hob
  cases q with
  | false =>
    go_enter Tryz.func14, Tryz.ntmps14
    go_wp2_with fail
    refine RY.out.mono ?_
    rintro e w1 ⟨rfl, rfl⟩
    clear RY
    go_wp2_with fail
    refine HA.out.mono ?_
    rintro e w2 ⟨rfl, hb⟩
    have B2 := Lib.hid (hb.alloc hb.size (.cells #[.int .i64 o, .int .i64 l, .int .i64 nn, .int .i64 kk] 81))
    clear hb HA
    go_wp2_with fail
    go_ret2
    exact ⟨rfl, B2.out⟩
  | true =>
    cases ob
    all_goals
      go_enter Tryz.func14, Tryz.ntmps14
      go_wp2_with fail
      refine RY.out.mono ?_
      rintro e w1 ⟨rfl, rfl⟩
      clear RY
      go_wp2_with fail
      refine HA.out.mono ?_
      rintro e w2 ⟨rfl, hb⟩
      have B2 := Lib.hid (hb.alloc hb.size (.cells #[.int .i64 o, .int .i64 l, .int .i64 nn, .int .i64 kk] 81))
      have K2 := Lib.hid (Blk.new w2 81 [.int .i64 o, .int .i64 l, .int .i64 nn, .int .i64 kk])
      clear hb HA
      go_wp2_with fail
      refine (OW.out _).mono ?_
      rintro e w3 ⟨rfl, hb⟩
      have B3 := Lib.hid (B2.out.trans (hb.mono B2.out.size))
      have z0 := (K2.out.keep hb).at 0 rfl
      have z1 := (K2.out.keep hb).at 1 rfl
      have z2 := (K2.out.keep hb).at 2 rfl
      have z3 := (K2.out.keep hb).at 3 rfl
      clear hb K2
      go_wp2_with fail
      go_ret2
      exact ⟨rfl, B3.out⟩
theorem Of_any (x : Int) (w : World) (h1 : I64 x) (h : Row Bk w b s O) :
    Calls Tryz.prog 19 #[.pointer (some ⟨b, 0, none⟩), .int .i64 x] w fun e w' => (∃ a c, e = .returned (.slice a (ofV s x).length c) ∧ w'.ownsRow w.heap.size 3 1 (.slice a (ofV s x).length c) (ofV s x).length (Word.iv (ofV s x))) ∧ Below w.heap.size w w' := by
  obtain ⟨a, c, L, hi, -⟩ := h
  refine (Of_core b c a s L x w hi).mono ?_
  rintro e w' ⟨⟨v, rfl, hr⟩, hb⟩
  obtain ⟨a', c', rfl, -, -⟩ := Orow.own_shape hr
  exact ⟨⟨a', c', rfl, hr⟩, hb⟩
theorem Tick_any (w : World) (h : Row Bk w b s O) :
    Calls Tryz.prog 20 #[.pointer (some ⟨b, 0, none⟩)] w fun e w' => ∃ a c O', e = .returned (.slice a (doneV s).length c) ∧ w'.ownsRow w.heap.size 3 1 (.slice a (doneV s).length c) (doneV s).length (Word.iv (doneV s)) ∧ Row Bk w' b (tickV s) O' ∧ Only O w w' ∧ (∀ j, O' j → O j ∨ w.heap.size ≤ j) ∧ ∀ j, PB (.slice a (doneV s).length c) j → ¬ O' j := by
  have hlt := h.lt
  obtain ⟨a, c, L, hi, h1, h2, h3⟩ := h
  refine (Tick_core b c a s L w hi).mono ?_
  rintro e w' ⟨⟨v, rfl, hr⟩, hin, hon⟩
  obtain ⟨a', c', rfl, -, -⟩ := Orow.own_shape hr
  refine ⟨a', c', O, rfl, hr, ⟨a, c, _, hin, h1, h2, h3⟩, hon.mono (fun j _ hj => (h3 j).2 (.inr hj)), fun j hj => .inl hj, fun j hj hO => ?_⟩
  have e1 := (World.ownsRow.lt hr j hj).1
  have e2 := (hlt j hO).2
  omega
theorem All_any (w : World) (h : Row Bk w b s O) :
    Calls Tryz.prog 21 #[.pointer (some ⟨b, 0, none⟩)] w fun e w' => (∃ a c, e = .returned (.slice a s.H.length c) ∧ w'.ownsRow w.heap.size 52 3 (.slice a s.H.length c) s.H.length (flHd s.H)) ∧ Below w.heap.size w w' := by
  obtain ⟨a, c, L, hi, -⟩ := h
  refine (All_core b c a s L w hi).mono ?_
  rintro e w' ⟨⟨v, rfl, hr⟩, hb⟩
  obtain ⟨a', c', rfl, -, -⟩ := Orow.own_shape hr
  exact ⟨⟨a', c', rfl, hr⟩, hb⟩
end
end Go.Proofs.YtmdepkehpohgeaaGreat.Scr
