/- Package scrub: given, taken, moved; what is told of a row, of none. -/
import Derived.Test.YtmdepkehpohgeaaS6wf
namespace Go.Proofs.Ytmdepkehpohgeaa.Scr
open Go.RowKit Go.Maps Go.ChangeShapes Go.WideShapes Go.ChangeAt Fifo Orow Word
set_option linter.unusedVariables false
attribute [local go_sem] Oper.semAt_some

/-- A function's value that bears what it needs. -/
abbrev fnV (F : Nat) (q : Nat) : Value := .func (.func F) #[] #[.pointer (some ⟨q, 0, none⟩)]
theorem scrub_of (v : Value) (n x : Int) (w : World) (R : Int → World → Prop) (hv : ∃ p, v = .pointer p)
    (h : Calls Try.prog 30 #[v, .int .i64 n, .func (.func 39) #[] #[], fnV 40 w.heap.size] (w.alloc (.cells #[.int .i64 x] 3)) fun e w' => ∃ er, e = .returned (.int .i64 er) ∧ R er w') :
    Calls Try.prog 23 #[v, .int .i64 n, .int .i64 x] w fun e w' => ∃ er, e = .returned (.int .i64 er) ∧ R er w' := by
  have hmf : ∀ (fn : Fn) (first cap : Array Value) (w : World), (Instr.makeFunc fn first cap).run Try.prog w = .ok (.func fn first cap) w := fun _ _ _ _ => rfl
  have H := Lib.hid h
  obtain ⟨p, rfl⟩ := hv
  clear h
  go_enter Try.func23, Try.ntmps23
  go_wp2_with fail
  refine H.out.mono ?_
  rintro e w1 ⟨er, rfl, hr⟩
  have HR := Lib.hid hr
  clear hr H
  go_wp2_with fail
  go_ret
  exact ⟨er, rfl, HR.out⟩
theorem take_of (v : Value) (n : Int) (w : World) (R : Int → World → Prop) (hv : ∃ p, v = .pointer p)
    (h : Calls Try.prog 23 #[v, .int .i64 n, .int .i64 (-1)] w fun e w' => ∃ er, e = .returned (.int .i64 er) ∧ R er w') :
    Calls Try.prog 9 #[v, .int .i64 n] w fun e w' => ∃ er, e = .returned (.int .i64 er) ∧ R er w' := by
  have H := Lib.hid h
  obtain ⟨p, rfl⟩ := hv
  clear h
  go_enter Try.func9, Try.ntmps9
  go_wp2_with fail
  refine H.out.mono ?_
  rintro e w1 ⟨er, rfl, hr⟩
  have HR := Lib.hid hr
  clear hr H
  go_wp2_with fail
  go_ret
  exact ⟨er, rfl, HR.out⟩
/-- The row, at any place. -/
theorem take_scrub (s : RS) (n : Int) : takeV s n = if isN s n then takenV s n (-1) else (6, s) := rfl
theorem isN_no {s : RS} {n : Int} {m : Nat} (hm : m = s.H.length) (h : ¬ isN s n = true) : n < 0 ∨ (m : Int) ≤ n := by
  subst hm
  by_cases h0 : n < 0
  · exact .inl h0
  · exact .inr (by
      by_cases h1 : (s.H.length : Int) ≤ n
      · exact h1
      · exact absurd (isN_iff.2 ⟨by omega, by omega⟩) h)
set_option maxHeartbeats 1000000 in
theorem scrub_row (Bk b : Nat) (s : RS) (O : Nat → Prop) (n x : Int) (w : World) (hx : -1 ≤ x ∧ x < 8) (h : Row Bk w b s O) :
    Calls Try.prog 23 #[.pointer (some ⟨b, 0, none⟩), .int .i64 n, .int .i64 x] w fun e w' => ∃ er, e = .returned (.int .i64 er) ∧ er = (if isN s n then takenV s n x else (6, s)).1 ∧ Left Bk w w' b (if isN s n then takenV s n x else (6, s)).2 O := by
  obtain ⟨a, c, L, hi, h1, h2, h3⟩ := h
  have hb : Below w.heap.size w (w.alloc (.cells #[.int .i64 x] 3)) := (Below.refl _ _).alloc (Nat.le_refl _) _
  have hi' := hi.keep hb
  have hq : (w.alloc (.cells #[.int .i64 x] 3)).cell? ⟨w.heap.size, 0, none⟩ = some (.int .i64 x) := World.cell?_alloc_at _ _ _ 0 rfl
  have hrow : Row Bk w b s O := ⟨a, c, L, hi, h1, h2, h3⟩
  refine scrub_of _ n x w _ ⟨_, rfl⟩ ?_
  by_cases hN : isN s n = true
  · rw [if_pos hN]
    obtain ⟨n0, n1⟩ := isN_iff.1 hN
    obtain ⟨k, rfl⟩ : ∃ k : Nat, n = (k : Nat) := ⟨n.toNat, by omega⟩
    have hk : k < L.length := by rw [hi.len]; omega
    obtain ⟨g, rfl⟩ := own_some hi.row (.inl (by omega))
    obtain ⟨e, he⟩ : ∃ e, L[k]! = e := ⟨_, rfl⟩
    obtain ⟨o, l, nn, kk⟩ := e
    have hat : at' s (k : Nat) = ⟨o, l, nn⟩ := by
      show s.H[(k : Int).toNat]! = _
      rw [Int.toNat_natCast, ← (hi.at hk).1, he]; rfl
    have hkk : s.K[(k : Int).toNat]! = kk := by rw [Int.toNat_natCast, ← (hi.at hk).2, he]
    unfold takenV
    rw [hat, hkk]
    by_cases hf : (⟨o, l, nn⟩ : Hd) = freeH
    · rw [if_pos hf]
      refine (change_take_err b c k w.heap.size g s L o l nn kk x 5 _ hi' hk he hq (by unfold takeE; rw [if_pos hf]) (by decide)).mono ?_
      rintro e w' ⟨rfl, hb'⟩
      exact ⟨_, rfl, rfl, Left.same hrow (hb.trans (hb'.mono hb.size))⟩
    · rw [if_neg hf]
      by_cases hl : 0 < l
      · rw [if_pos hl]
        refine (change_take_err b c k w.heap.size g s L o l nn kk x 14 _ hi' hk he hq (by unfold takeE; rw [if_neg hf, if_pos hl]) (by decide)).mono ?_
        rintro e w' ⟨rfl, hb'⟩
        exact ⟨_, rfl, rfl, Left.same hrow (hb.trans (hb'.mono hb.size))⟩
      · rw [if_neg hl]
        have hkb : 1 ≤ kk ∧ kk ≤ 6 := by
          have := hi.ok.kin k (by rw [← hi.kn, List.length_map]; exact hk)
          rw [← (hi.at hk).2, he] at this
          exact this
        have hot : OkH ⟨-1, timeV kk, x⟩ := by
          have ht := time_b hkb
          exact ⟨by show 0 ≤ timeV kk ∧ timeV kk ≤ 16; omega, by show (-1 : Int) ≤ -1 ∧ (-1 : Int) < 8; omega, hx, fun e => absurd e (by show ¬ (0 : Int) ≤ -1; omega), fun e => by have e : timeV kk = 0 := e; omega⟩
        refine (change_take_ok b c k w.heap.size g s L o l nn kk x _ hi' hk he hq (by unfold takeE; rw [if_neg hf, if_neg hl]) hot).mono ?_
        rintro e w' ⟨rfl, hin, hon⟩
        exact ⟨_, rfl, rfl, O, ⟨_, _, _, hin, h1, h2, h3⟩, ((Only.of_below hb).trans hon).mono (fun j _ e => (h3 j).2 (.inr (by have e : j = g := e; rw [e]; exact ba_self _ _))), fun j hj => .inl hj⟩
  · rw [if_neg hN]
    refine (change_take_no b c a s L n w.heap.size _ hi' (isN_no hi.len hN)).mono ?_
    rintro e w' ⟨rfl, hb'⟩
    exact ⟨_, rfl, rfl, Left.same hrow (hb.trans (hb'.mono hb.size))⟩
theorem Left.pre {O : Nat → Prop} {Bk : Nat} {w w1 w' : World} {b : Nat} {s : RS} (hb : Below w.heap.size w w1) (h : Left Bk w1 w' b s O) : Left Bk w w' b s O := by
  obtain ⟨O', h1, h2, h3⟩ := h
  exact ⟨O', h1, (Only.of_below hb).trans h2, fun j hj => (h3 j hj).imp (fun h => h) (fun h => Nat.le_trans hb.size h)⟩
section
variable (Bk b : Nat) (s : RS) (O : Nat → Prop)
theorem Take_any (n : Int) (w : World) (h1 : I64 n) (h : Row Bk w b s O) :
    Calls Try.prog 9 #[.pointer (some ⟨b, 0, none⟩), .int .i64 n] w fun e w' => e = .returned (.int .i64 (takeV s n).1) ∧ Left Bk w w' b (takeV s n).2 O := by
  refine (take_of _ n w _ ⟨_, rfl⟩ (scrub_row Bk b s O n (-1) w (by omega) h)).mono ?_
  rintro e w' ⟨er, rfl, rfl, hl⟩
  exact ⟨rfl, hl⟩
theorem Move_any (n x : Int) (w : World) (h1 : I64 n) (h2 : I64 x) (h : Row Bk w b s O) :
    Calls Try.prog 10 #[.pointer (some ⟨b, 0, none⟩), .int .i64 n, .int .i64 x] w fun e w' => e = .returned (.int .i64 (moveV s n x).1) ∧ Left Bk w w' b (moveV s n x).2 O := by
  have IS := Lib.hid (show Calls Try.prog 24 #[.pointer (some ⟨b, 0, none⟩)] w fun e w' => e = .returned (.bool true) ∧ w = w' by
    obtain ⟨a, c, L, hi, -⟩ := h
    exact is_yes b w (hi.blk.at 1 rfl))
  have IW := Lib.hid (isWorld_any x w)
  obtain ⟨q, hq⟩ : ∃ q, isW x = q := ⟨_, rfl⟩
  rw [hq] at IW
  have HRow := Lib.hid h
  cases q with
  | false =>
    have hm : moveV s n x = (6, s) := by unfold moveV; rw [hq, Bool.and_false]; rfl
    rw [hm]
    clear h h1 h2 hq hm
    go_enter Try.func10, Try.ntmps10
    go_wp2_with (first
      | (go_at_call 24; refine (IS.out).mono ?_; rintro e w1 ⟨rfl, rfl⟩)
      | (go_at_call 25; refine (IW.out).mono ?_; rintro e w2 ⟨rfl, hb2⟩; have B2 := Lib.hid hb2; clear hb2))
    go_ret
    exact ⟨rfl, Left.same HRow.out B2.out⟩
  | true =>
    have hm : moveV s n x = if isN s n then takenV s n x else (6, s) := by unfold moveV; rw [hq, Bool.and_true]
    have hx := isW_iff.1 hq
    have CH := Lib.hid (fun w2 (hb : Below w.heap.size w w2) => scrub_row Bk b s O n x w2 (by omega) (HRow.out.keep hb))
    obtain ⟨res, hres⟩ : ∃ res, (if isN s n then takenV s n x else (6, s)) = res := ⟨_, rfl⟩
    rw [hm]
    rw [hres] at CH ⊢
    clear h h1 h2 hq hm hx hres
    go_enter Try.func10, Try.ntmps10
    go_wp2_with (first
      | (go_at_call 24; refine (IS.out).mono ?_; rintro e w1 ⟨rfl, rfl⟩)
      | (go_at_call 25; refine (IW.out).mono ?_; rintro e w2 ⟨rfl, hb2⟩; have B2 := Lib.hid hb2; clear hb2)
      | (go_at_call 23; refine (CH.out w2 B2.out).mono ?_; rintro e w3 ⟨er, rfl, hr⟩; have HR := Lib.hid hr; clear hr))
    go_ret
    exact ⟨by rw [HR.out.1]; rfl, Left.pre B2.out HR.out.2⟩
theorem give_row (n x : Int) (w : World) (q : Nat) (hx : isW x = true) (hq : w.cell? ⟨q, 0, none⟩ = some (.int .i64 x)) (h : Row Bk w b s O) :
    Calls Try.prog 30 #[.pointer (some ⟨b, 0, none⟩), .int .i64 n, .func (.func 31) #[] #[], fnV 32 q] w fun e w' => ∃ er, e = .returned (.int .i64 er) ∧ er = (giveV s n x).1 ∧ Left Bk w w' b (giveV s n x).2 O := by
  have hrow := h
  obtain ⟨a, c, L, hi, h1, h2, h3⟩ := h
  unfold giveV
  rw [hx, Bool.and_true]
  by_cases hN : isN s n = true
  · rw [if_pos hN]
    obtain ⟨n0, n1⟩ := isN_iff.1 hN
    obtain ⟨k, rfl⟩ : ∃ k : Nat, n = (k : Nat) := ⟨n.toNat, by omega⟩
    have hk : k < L.length := by rw [hi.len]; omega
    obtain ⟨g, rfl⟩ := own_some hi.row (.inl (by omega))
    obtain ⟨e, he⟩ : ∃ e, L[k]! = e := ⟨_, rfl⟩
    obtain ⟨o, l, nn, kk⟩ := e
    have hat : at' s (k : Nat) = ⟨o, l, nn⟩ := by
      show s.H[(k : Int).toNat]! = _
      rw [Int.toNat_natCast, ← (hi.at hk).1, he]; rfl
    rw [hat]
    by_cases hf : (⟨o, l, nn⟩ : Hd) = freeH
    · rw [if_pos hf]
      have hx2 := isW_iff.1 hx
      have hot : OkH ⟨x, 0, -1⟩ := ⟨by show (0 : Int) ≤ 0 ∧ (0 : Int) ≤ 16; omega, by show -1 ≤ x ∧ x < 8; omega, by show (-1 : Int) ≤ -1 ∧ (-1 : Int) < 8; omega, fun _ => rfl, fun _ => rfl⟩
      refine (change_give_ok b c k q g s L o l nn kk x w hi hk he hq (by unfold giveE; rw [if_pos hf]) hot).mono ?_
      rintro e w' ⟨rfl, hin, hon⟩
      exact ⟨_, rfl, rfl, O, ⟨_, _, _, hin, h1, h2, h3⟩, hon.mono (fun j _ e => (h3 j).2 (.inr (by have e : j = g := e; rw [e]; exact ba_self _ _))), fun j hj => .inl hj⟩
    · rw [if_neg hf]
      refine (change_give_err b c k q g s L o l nn kk x 14 w hi hk he hq (by unfold giveE; rw [if_neg hf]) (by decide)).mono ?_
      rintro e w' ⟨rfl, hb'⟩
      exact ⟨_, rfl, rfl, Left.same hrow hb'⟩
  · rw [if_neg hN]
    refine (change_give_no b c a s L n q w hi (isN_no hi.len hN)).mono ?_
    rintro e w' ⟨rfl, hb'⟩
    exact ⟨_, rfl, rfl, Left.same hrow hb'⟩
theorem Give_any (n x : Int) (w : World) (h1 : I64 n) (h2 : I64 x) (h : Row Bk w b s O) :
    Calls Try.prog 14 #[.pointer (some ⟨b, 0, none⟩), .int .i64 n, .int .i64 x] w fun e w' => e = .returned (.int .i64 (giveV s n x).1) ∧ Left Bk w w' b (giveV s n x).2 O := by
  have hmf : ∀ (fn : Fn) (first cap : Array Value) (w : World), (Instr.makeFunc fn first cap).run Try.prog w = .ok (.func fn first cap) w := fun _ _ _ _ => rfl
  have HRow := Lib.hid h
  have B0 := Lib.hid ((Below.refl w.heap.size w).alloc (Nat.le_refl _) (.cells #[.int .i64 x] 3))
  have hcell : (w.alloc (.cells #[.int .i64 x] 3)).cell? ⟨w.heap.size, 0, none⟩ = some (.int .i64 x) := World.cell?_alloc_at _ _ _ 0 rfl
  have HC := Lib.hid hcell
  have IS := Lib.hid (show Calls Try.prog 24 #[.pointer (some ⟨b, 0, none⟩)] (w.alloc (.cells #[.int .i64 x] 3)) fun e w' => e = .returned (.bool true) ∧ w.alloc (.cells #[.int .i64 x] 3) = w' by
    obtain ⟨a, c, L, hi, -⟩ := h
    exact is_yes b _ ((hi.keep B0.out).blk.at 1 rfl))
  have IW := Lib.hid (isWorld_any x (w.alloc (.cells #[.int .i64 x] 3)))
  obtain ⟨q, hq⟩ : ∃ q, isW x = q := ⟨_, rfl⟩
  rw [hq] at IW
  cases q with
  | false =>
    have hm : giveV s n x = (6, s) := by unfold giveV; rw [hq, Bool.and_false]; rfl
    rw [hm]
    clear h h1 h2 hq hm hcell
    go_enter Try.func14, Try.ntmps14
    go_wp2_with (first
      | (go_at_call 24; refine (IS.out).mono ?_; rintro e w1 ⟨rfl, rfl⟩)
      | (go_at_call 25; refine (IW.out).mono ?_; rintro e w2 ⟨rfl, hb2⟩; have B2 := Lib.hid (B0.out.trans (hb2.mono B0.out.size)); clear hb2))
    go_ret
    exact ⟨rfl, Left.same HRow.out B2.out⟩
  | true =>
    have CH := Lib.hid (fun w2 (hb : Below (w.alloc (.cells #[.int .i64 x] 3)).heap.size (w.alloc (.cells #[.int .i64 x] 3)) w2) => give_row Bk b s O n x w2 w.heap.size hq (cell_keep hb HC.out) (HRow.out.keep (B0.out.trans (hb.mono B0.out.size))))
    obtain ⟨res, hres⟩ : ∃ res, giveV s n x = res := ⟨_, rfl⟩
    rw [hres] at CH ⊢
    clear h h1 h2 hq hres hcell
    go_enter Try.func14, Try.ntmps14
    go_wp2_with (first
      | (go_at_call 24; refine (IS.out).mono ?_; rintro e w1 ⟨rfl, rfl⟩)
      | (go_at_call 25; refine (IW.out).mono ?_; rintro e w2 ⟨rfl, hb2⟩; have B2 := Lib.hid hb2; clear hb2)
      | (go_at_call 30; refine (CH.out w2 B2.out).mono ?_; rintro e w3 ⟨er, rfl, hr⟩; have HR := Lib.hid hr; clear hr))
    go_ret
    exact ⟨by rw [HR.out.1]; rfl, Left.pre (B0.out.trans (B2.out.mono B0.out.size)) HR.out.2⟩
end
end Go.Proofs.Ytmdepkehpohgeaa.Scr
