/- Package table's Set and Clear. -/
import Derived.Test.YtmkponhhinjpkaaGreatTq
namespace Go.Proofs.YtmkponhhinjpkaaGreat.Table
open Go.RowKit Fifo Go.Maps Go.ChangeShapes Go.WideShapes Go.ChangeAt
open Go.Proofs.YtmkponhhinjpkaaGreat.Region (Eight eight_new)
set_option linter.unusedVariables false

/-- What Set and Clear tell. -/
def setR (d : List Rg) (m : Int) (r : Rg) : List Rg := if setE d m r = 0 then setL d m.toNat r else []
def clrR (d : List Rg) (m : Int) : List Rg := if openE d m = 0 then clrL d m.toNat else []

theorem openE_cases (d : List Rg) (m : Int) : (tabB d = false ∧ openE d m = 4) ∨ (tabB d = true ∧ m < 0 ∧ openE d m = 6) ∨ (tabB d = true ∧ 32 ≤ m ∧ openE d m = 6) ∨
    (∃ k : Nat, tabB d = true ∧ m = k ∧ k < 32 ∧ lockB d k = true ∧ openE d m = 15) ∨ (∃ k : Nat, tabB d = true ∧ m = k ∧ k < 32 ∧ lockB d k = false ∧ openE d m = 0) := by
  cases ht : tabB d with
  | false => exact .inl ⟨rfl, by unfold openE; rw [ht]; rfl⟩
  | true =>
    have e : openE d m = if m < 0 ∨ 32 ≤ m then 6 else if lockB d m then 15 else 0 := by unfold openE; rw [ht]; rfl
    by_cases h1 : m < 0
    · exact .inr (.inl ⟨rfl, h1, by rw [e, if_pos (.inl h1)]⟩)
    · by_cases h2 : 32 ≤ m
      · exact .inr (.inr (.inl ⟨rfl, h2, by rw [e, if_pos (.inr h2)]⟩))
      · rw [if_neg (by omega)] at e
        obtain ⟨k, hk⟩ := Int.eq_ofNat_of_zero_le (show 0 ≤ m by omega)
        subst hk
        cases hl : lockB d (k : Nat) with
        | true => exact .inr (.inr (.inr (.inl ⟨k, rfl, rfl, by omega, hl, by rw [e, hl]; rfl⟩)))
        | false => exact .inr (.inr (.inr (.inr ⟨k, rfl, rfl, by omega, hl, by rw [e, hl]; rfl⟩)))
theorem open_err (a : Option Addr) (n cap : Nat) (d : List Rg) (m : Int) (x : Int) (w : World) (hn : n ≤ 1000000) (hc : n ≤ cap) (h : RowG w a n d) (hx : openE d m = x) (h0 : x ≠ 0) :
    Calls Tryz.prog 37 #[.slice a n cap, .int .i64 m] w fun e w' => e = .returned (.tuple #[.agg #[.slice none 0 0], .int .i64 x]) ∧ Below w.heap.size w w' := by
  rcases openE_cases d m with ⟨h1, h2⟩ | ⟨h1, h3, h2⟩ | ⟨h1, h3, h2⟩ | ⟨k, h1, rfl, h3, h4, h2⟩ | ⟨k, h1, rfl, h3, h4, h2⟩
  · rw [h2] at hx; subst hx; exact open_shape a n cap d m w hn hc h h1
  · rw [h2] at hx; subst hx; exact open_neg a n cap d m w hn hc h h1 h3
  · rw [h2] at hx; subst hx; exact open_big a n cap d m w hn hc h h1 h3
  · rw [h2] at hx; subst hx; exact open_held a n cap d k w hn hc h h1 h3 h4
  · exact absurd (hx.symm.trans h2) h0
theorem open_ok2 (a : Option Addr) (n cap : Nat) (d : List Rg) (k : Nat) (w : World) (hn : n ≤ 1000000) (hc : n ≤ cap) (h : RowG w a n d) (hx : openE d (k : Nat) = 0) :
    Calls Tryz.prog 37 #[.slice a n cap, .int .i64 (k : Nat)] w fun e w' => e = .returned (.tuple #[.agg #[.slice a n cap], .int .i64 0]) ∧ Below w.heap.size w w' := by
  obtain ⟨h1, h2, h3, h4⟩ := open_ok hx
  exact open_yes a n cap d k w hn hc h (tabB_iff.2 h1) (by omega) h4

set_option maxRecDepth 100000 in
set_option maxHeartbeats 1000000 in
theorem Set_err (a : Option Addr) (n cap : Nat) (d : List Rg) (m : Int) (o : Bool) (W F T : Int) (rd wt : Bool) (K : Int) (lk : Bool) (x : Int) (w : World) (hn : n ≤ 1000000) (hc : n ≤ cap) (h : RowG w a n d) (hx : openE d m = x) (h0 : x ≠ 0) :
    Calls Tryz.prog 18 #[.slice a n cap, .int .i64 m, Region.reg o W F T rd wt K lk] w fun e w' => e = .returned (.tuple #[.slice none 0 0, .int .i64 x]) ∧ Below w.heap.size w w' := by
  have ha := (Below.refl w.heap.size w).alloc (Nat.le_refl _) (.cells #[.bool o, .int .i64 W, .int .u32 F, .int .u32 T, .bool rd, .bool wt, .int .i64 K, .bool lk] 37)
  have O := Lib.hid (open_err a n cap d m x _ hn hc (h.keep ha) hx h0)
  have Ha := Lib.hid ha
  have hq : (x != 0) = true := by simpa using h0
  clear h ha hx h0
  go_enter Tryz.func18, Tryz.ntmps18
  go_wp2_with fail
  refine O.out.mono ?_
  rintro e w1 ⟨rfl, hb1⟩
  have Hb1 := Lib.hid (Ha.out.trans (hb1.mono Ha.out.size))
  clear hb1 O Ha
  go_wp2_with fail
  go_ret2
  exact ⟨rfl, Hb1.out.alloc Hb1.out.size _⟩
/-- What Set ends with, once the place is open. -/
def SetPost (o q c : Bool) (L : List Rg) (B : Nat) (e : Ending) (w' : World) : Prop :=
  ((o && q) = false ∧ e = .returned (.tuple #[.slice none 0 0, .int .i64 4])) ∨ ((o && q) = true ∧ c = true ∧ e = .returned (.tuple #[.slice none 0 0, .int .i64 13])) ∨
    ((o && q) = true ∧ c = false ∧ ∃ v, e = .returned (.tuple #[v, .int .i64 0]) ∧ w'.ownsRow B 37 8 v L.length (flG L))
set_option maxRecDepth 100000 in
set_option maxHeartbeats 2000000 in
theorem Set_core (a : Option Addr) (n cap : Nat) (d : List Rg) (k : Nat) (o : Bool) (W F T : Int) (rd wt : Bool) (K : Int) (lk : Bool) (q c : Bool) (w : World) (hn : n ≤ 1000000) (hc : n ≤ cap) (h : RowG w a n d) (hx : openE d (k : Nat) = 0)
    (hq : Region.regB o W F T rd wt K lk = q) (hcl : clB d ⟨o, W, F, T, rd, wt, K, lk⟩ (k : Nat) = c) :
    Calls Tryz.prog 18 #[.slice a n cap, .int .i64 (k : Nat), Region.reg o W F T rd wt K lk] w fun e w' => Below w.heap.size w w' ∧ SetPost o q c (setL d k ⟨o, W, F, T, rd, wt, K, lk⟩) w.heap.size e w' := by
  have hk6 : k ≤ 1000000 := by have := (open_ok hx).2.2.1; omega
  have ha := (Below.refl w.heap.size w).alloc (Nat.le_refl _) (.cells #[.bool o, .int .i64 W, .int .u32 F, .int .u32 T, .bool rd, .bool wt, .int .i64 K, .bool lk] 37)
  have O := Lib.hid (open_ok2 a n cap d k _ hn hc (h.keep ha) hx)
  have Ha := Lib.hid ha
  have He := Lib.hid (eight_new w o W F T rd wt K lk 37)
  have Hr := Lib.hid h
  have HQ := Lib.hid hq
  have HC := Lib.hid hcl
  clear h ha hx hq hcl
  go_enter Tryz.func18, Tryz.ntmps18
  go_wp2_with fail
  refine O.out.mono ?_
  rintro e w1 ⟨rfl, hb1⟩
  have hb1' := hb1
  have B1 := Lib.hid (Ha.out.trans (hb1.mono Ha.out.size))
  have hs1 := B1.out.size
  have E1 := Lib.hid ((He.out.keep hb1).alloc (.cells #[.slice a n cap] 56))
  have HT1 := Lib.hid (Blk.new w1 56 [.slice a n cap])
  have ha1 := (Below.refl w1.heap.size w1).alloc (Nat.le_refl _) (.cells #[.slice a n cap] 56)
  have B2 := Lib.hid (B1.out.trans (ha1.mono hs1))
  clear hb1 hb1' O Ha He ha1 B1
  obtain ⟨c0, c1, c2, c3, c4, c5, c6, c7⟩ := E1.out
  cases o with
  | false =>
    go_wp2_with fail
    go_ret2
    exact ⟨B2.out, Or.inl ⟨rfl, rfl⟩⟩
  | true =>
    go_wp2_with fail
    refine (Region.Right_any true W F T rd wt K lk q _ HQ.out).mono ?_
    rintro e w3 ⟨rfl, hb3⟩
    have B3 := Lib.hid (B2.out.trans (hb3.mono (by have := hs1; simp; omega)))
    have E3 := Lib.hid (E1.out.keep hb3)
    have T3 := Lib.hid (HT1.out.keep hb3)
    clear hb3 c0 c1 c2 c3 c4 c5 c6 c7 E1 HT1
    obtain ⟨c0, c1, c2, c3, c4, c5, c6, c7⟩ := E3.out
    have t0 := T3.out.at 0 rfl
    cases q with
    | false =>
      go_wp2_with fail
      go_ret2
      exact ⟨B3.out, Or.inl ⟨rfl, rfl⟩⟩
    | true =>
      go_wp2_with fail
      refine (clashes_val a n cap d true W F T rd wt K lk (k : Nat) c _ hn (Hr.out.keep B3.out) HC.out).mono ?_
      rintro e w4 ⟨rfl, hb4⟩
      have B4 := Lib.hid (B3.out.trans (hb4.mono B3.out.size))
      have E4 := Lib.hid (E3.out.keep hb4)
      have T4 := Lib.hid (T3.out.keep hb4)
      clear hb4 c0 c1 c2 c3 c4 c5 c6 c7 E3 T3 t0
      cases c with
      | true =>
        go_wp2_with fail
        go_ret2
        exact ⟨B4.out, Or.inr (Or.inl ⟨rfl, rfl, rfl⟩)⟩
      | false =>
        obtain ⟨c0, c1, c2, c3, c4, c5, c6, c7⟩ := E4.out
        have t0 := T4.out.at 0 rfl
        go_wp2_with fail
        refine (with_any a n cap d k true W F T rd wt K lk _ hn hk6 (Hr.out.keep B4.out)).mono ?_
        rintro e w5 ⟨v, rfl, h5, hb5⟩
        have R5 := Lib.hid (ok_mono h5 B4.out.size)
        have B5 := Lib.hid (B4.out.trans (hb5.mono B4.out.size))
        clear h5 hb5 c0 c1 c2 c3 c4 c5 c6 c7 t0
        go_wp2_with fail
        go_ret2
        exact ⟨B5.out, Or.inr (Or.inr ⟨rfl, rfl, v, rfl, R5.out⟩)⟩
/-- Set: the error, and the table or none. -/
theorem Set_any (a : Option Addr) (n cap : Nat) (d : List Rg) (m : Int) (o : Bool) (W F T : Int) (rd wt : Bool) (K : Int) (lk : Bool) (x : Int) (L : List Rg) (w : World) (hn : n ≤ 1000000) (hc : n ≤ cap) (h : RowG w a n d) (hx : setE d m ⟨o, W, F, T, rd, wt, K, lk⟩ = x) (hL : setR d m ⟨o, W, F, T, rd, wt, K, lk⟩ = L) :
    Calls Tryz.prog 18 #[.slice a n cap, .int .i64 m, Region.reg o W F T rd wt K lk] w fun e w' => ∃ v, e = .returned (.tuple #[v, .int .i64 x]) ∧ w'.ownsRow w.heap.size 37 8 v L.length (flG L) ∧ Below w.heap.size w w' := by
  subst hL
  by_cases h0 : openE d m = 0
  · obtain ⟨k, rfl⟩ := Int.eq_ofNat_of_zero_le (open_ok h0).2.1
    refine (Set_core a n cap d k o W F T rd wt K lk _ _ w hn hc h h0 rfl rfl).mono ?_
    rintro e w' ⟨hb, ⟨h1, rfl⟩ | ⟨h1, h2, rfl⟩ | ⟨h1, h2, v, rfl, hv⟩⟩
    · have e4 : setE d (k : Nat) ⟨o, W, F, T, rd, wt, K, lk⟩ = 4 := by unfold setE; rw [if_pos h0, if_neg (by show ¬ (o && Region.regB o W F T rd wt K lk) = true; rw [h1]; simp)]
      rw [e4] at hx; subst hx
      refine ⟨_, rfl, ?_, hb⟩
      unfold setR; rw [e4]
      exact ⟨rfl, .inl ⟨rfl, rfl⟩⟩
    · have e13 : setE d (k : Nat) ⟨o, W, F, T, rd, wt, K, lk⟩ = 13 := by unfold setE; rw [if_pos h0]; exact (if_pos h1).trans (if_pos h2)
      rw [e13] at hx; subst hx
      refine ⟨_, rfl, ?_, hb⟩
      unfold setR; rw [e13]
      exact ⟨rfl, .inl ⟨rfl, rfl⟩⟩
    · have e0 : setE d (k : Nat) ⟨o, W, F, T, rd, wt, K, lk⟩ = 0 := by unfold setE; rw [if_pos h0]; exact (if_pos h1).trans (if_neg (by rw [h2]; simp))
      rw [e0] at hx; subst hx
      refine ⟨_, rfl, ?_, hb⟩
      unfold setR; rw [if_pos e0]
      exact hv
  · have e : setE d m ⟨o, W, F, T, rd, wt, K, lk⟩ = openE d m := by unfold setE; rw [if_neg h0]
    have hx0 : x ≠ 0 := by rw [← hx, e]; exact h0
    refine (Set_err a n cap d m o W F T rd wt K lk x w hn hc h (e.symm.trans hx) hx0).mono ?_
    rintro e' w' ⟨rfl, hb⟩
    refine ⟨_, rfl, ?_, hb⟩
    unfold setR; rw [if_neg (by rw [hx]; exact hx0)]
    exact ⟨rfl, .inl ⟨rfl, rfl⟩⟩

set_option maxRecDepth 100000 in
set_option maxHeartbeats 1000000 in
theorem Clear_err (a : Option Addr) (n cap : Nat) (d : List Rg) (m : Int) (x : Int) (w : World) (hn : n ≤ 1000000) (hc : n ≤ cap) (h : RowG w a n d) (hx : openE d m = x) (h0 : x ≠ 0) :
    Calls Tryz.prog 34 #[.slice a n cap, .int .i64 m] w fun e w' => e = .returned (.tuple #[.slice none 0 0, .int .i64 x]) ∧ Below w.heap.size w w' := by
  have O := Lib.hid (open_err a n cap d m x _ hn hc h hx h0)
  have hq : (x != 0) = true := by simpa using h0
  clear h hx h0
  go_enter Tryz.func34, Tryz.ntmps34
  go_wp2_with fail
  refine O.out.mono ?_
  rintro e w1 ⟨rfl, hb1⟩
  have Hb1 := Lib.hid hb1
  clear hb1 O
  go_wp2_with fail
  go_ret2
  exact ⟨rfl, Hb1.out.alloc Hb1.out.size _⟩
set_option maxRecDepth 100000 in
set_option maxHeartbeats 1000000 in
theorem Clear_ok (a : Option Addr) (n cap : Nat) (d : List Rg) (k : Nat) (w : World) (hn : n ≤ 1000000) (hc : n ≤ cap) (h : RowG w a n d) (hno : a = none → cap = 0) (hx : openE d (k : Nat) = 0) :
    Calls Tryz.prog 34 #[.slice a n cap, .int .i64 (k : Nat)] w fun e w' => ∃ v, e = .returned (.tuple #[v, .int .i64 0]) ∧ w'.ownsRow w.heap.size 37 8 v n (flG (clrL d k)) ∧ Below w.heap.size w w' := by
  have O := Lib.hid (open_ok2 a n cap d k _ hn hc h hx)
  have Hr := Lib.hid h
  clear h hx
  go_enter Tryz.func34, Tryz.ntmps34
  go_wp2_with fail
  refine O.out.mono ?_
  rintro e w1 ⟨rfl, hb1⟩
  have ha1 := (Below.refl w1.heap.size w1).alloc (Nat.le_refl _) (.cells #[.slice a n cap] 56)
  have B1 := Lib.hid (hb1.trans (ha1.mono hb1.size))
  have C := Lib.hid (without_any a n cap d k _ hn (Hr.out.keep B1.out) hno)
  clear hb1 O ha1
  go_wp2_with fail
  refine C.out.mono ?_
  rintro e w2 ⟨v, rfl, h2, hb2⟩
  have R2 := Lib.hid (ok_mono h2 B1.out.size)
  have B2 := Lib.hid (B1.out.trans (hb2.mono B1.out.size))
  clear h2 hb2 C
  go_wp2_with fail
  go_ret2
  exact ⟨v, rfl, R2.out, B2.out⟩
theorem Clear_any (a : Option Addr) (n cap : Nat) (d : List Rg) (m : Int) (x : Int) (L : List Rg) (w : World) (hn : n ≤ 1000000) (hc : n ≤ cap) (h : RowG w a n d) (hno : a = none → cap = 0) (hx : openE d m = x) (hL : clrR d m = L) :
    Calls Tryz.prog 34 #[.slice a n cap, .int .i64 m] w fun e w' => ∃ v, e = .returned (.tuple #[v, .int .i64 x]) ∧ w'.ownsRow w.heap.size 37 8 v L.length (flG L) ∧ Below w.heap.size w w' := by
  subst hL
  by_cases h0 : openE d m = 0
  · obtain ⟨k, rfl⟩ := Int.eq_ofNat_of_zero_le (open_ok h0).2.1
    refine (Clear_ok a n cap d k w hn hc h hno h0).mono ?_
    rintro e w' ⟨v, rfl, hv, hb⟩
    rw [h0] at hx; subst hx
    refine ⟨_, rfl, ?_, hb⟩
    unfold clrR; rw [if_pos h0]
    rw [show (clrL d ((k : Nat) : Int).toNat).length = n by unfold clrL; rw [List.length_set, h.1]]
    exact hv
  · have hx0 : x ≠ 0 := by rw [← hx]; exact h0
    refine (Clear_err a n cap d m x w hn hc h hx hx0).mono ?_
    rintro e' w' ⟨rfl, hb⟩
    refine ⟨_, rfl, ?_, hb⟩
    unfold clrR; rw [if_neg h0]
    exact ⟨rfl, .inl ⟨rfl, rfl⟩⟩
end Go.Proofs.YtmkponhhinjpkaaGreat.Table
