/- What is asked of an access: asks. -/
import Derived.Test.YtblccnpdcnlhiaaCn
import Derived.Deep.RegionHeld3
namespace Go.Proofs.Ytblccnpdcnlhiaa.Access
open Go.RowKit Go.Maps Go.ChangeShapes Go.WideShapes Go.ChangeAt Kit Word
set_option linter.unusedVariables false

theorem same_own {w : World} {b b' n c c' : Nat} {a a' : Option Addr} {l : List Int} (hn : n ≤ 1000000) (h : w.ownsRow b 5 1 (.slice a n c) n (bv l)) (h' : w.ownsRow b' 5 1 (.slice a' n c') n (bv l)) :
    Calls Try.prog 18 #[.slice a n c, .slice a' n c'] w fun e w' => e = .returned (.bool true) ∧ Below w.heap.size w w' := by
  have hl : l.length = n := by have := h.1; simpa [bv] using this
  rcases Nat.eq_zero_or_pos n with h0 | h0
  · subst h0
    refine (same_bytes_nil a a' c c' w).mono ?_
    rintro e w' ⟨rfl, rfl⟩
    exact ⟨rfl, Below.refl _ _⟩
  · obtain ⟨g, rfl⟩ := KitBytes.r_some h (.inl h0)
    obtain ⟨g', rfl⟩ := KitBytes.r_some h' (.inl h0)
    exact same_lit g g' n c c' l w hn hl (rec_at h hl) (rec_at h' hl)
/-- A reach in a block. -/
def Two (w : World) (b : Nat) (x y : Int) : Prop := w.cell? ⟨b, 0, none⟩ = some (.int .u32 x) ∧ w.cell? ⟨b, 1, none⟩ = some (.int .u32 y)
theorem Two.keep {w1 w' : World} {b : Nat} {x y : Int} (h : Two w1 b x y) (hb : Below w1.heap.size w1 w') : Two w' b x y := ⟨cell_keep hb h.1, cell_keep hb h.2⟩
theorem two_new (w : World) (x y : Int) (t : TypeId) : Two (w.alloc (.cells #[.int .u32 x, .int .u32 y] t)) w.heap.size x y :=
  ⟨World.cell?_alloc_at _ _ _ 0 rfl, World.cell?_alloc_at _ _ _ 1 rfl⟩
/-- Two rows handed out lie apart: it is told, and only they turn. -/
theorem apart_own {w : World} {b b' n c c' : Nat} {a a' : Option Addr} {xs : List Value} (hn : n ≤ 1000000) (h : w.ownsRow b 5 1 (.slice a n c) n xs) (h' : w.ownsRow b' 5 1 (.slice a' n c') n xs) (hne : ∀ k, SA a k → ¬ SA a' k) :
    Calls Try.prog 22 #[.slice (some ⟨w.heap.size, 0, none⟩) 2 2] (w.alloc (.cells #[.slice a n c, .slice a' n c'] 27)) fun e w' => e = .returned (.bool true) ∧ Only (fun k => SA a k ∨ SA a' k) w w' := by
  have hk := (Below.refl w.heap.size w).alloc (Nat.le_refl _) (.cells #[.slice a n c, .slice a' n c'] 27)
  refine (KitBytes.apart_two w.heap.size 2 n c n c' a a' xs xs _ (KitBytes.own_base (bown_below h hk) (Nat.zero_le _)) (KitBytes.own_base (bown_below h' hk) (Nat.zero_le _)) hne hn hn (World.cell?_alloc_at _ _ _ 0 rfl) (World.cell?_alloc_at _ _ _ 1 rfl)).mono ?_
  rintro e w' ⟨rfl, ho⟩
  exact ⟨rfl, (Only.of_below hk).trans ho⟩
set_option maxRecDepth 100000 in
set_option maxHeartbeats 2000000 in
theorem asks_core (W : Int) (r : Bool) (A S D f t er : Int) (b : Bool) (n : Nat) (l : List Int) (w : World) (hn : n ≤ 1000000)
    (Re : ∀ w, Calls Try.prog 16 #[acc W r A S D] w fun e w' => e = .returned (.tuple #[.agg #[.int .u32 f, .int .u32 t], .bool b]) ∧ Below w.heap.size w w')
    (rRe : ∀ w, Calls Try.prog 20 #[acc W r A S D] w fun e w' => e = .returned (.tuple #[.agg #[.int .u32 f, .int .u32 t], .bool b]) ∧ Below w.heap.size w w')
    (En : ∀ w, Calls Try.prog 13 #[acc W r A S D] w (EncRow n l er w))
    (rEn : ∀ w, Calls Try.prog 11 #[acc W r A S D] w (EncRow n l er w))
    (Ri : ∀ w, Calls Try.prog 14 #[acc W r A S D] w fun e w' => e = .returned (.bool b) ∧ Below w.heap.size w w')
    (rRi : ∀ w, Calls Try.prog 21 #[acc W r A S D] w fun e w' => e = .returned (.bool b) ∧ Below w.heap.size w w') :
    Calls Try.prog 8 #[acc W r A S D] w fun e w' => e = .returned (.bool true) ∧ Below w.heap.size w w' := by
  go_enter Try.func8, Try.ntmps8
  go_wp2_with fail
  refine (Re _).mono ?_
  rintro e w1 ⟨rfl, hb⟩
  have F := Lib.hid ((five_new w W r A S D _).keep hb)
  have B1 := Lib.hid (((Below.refl w.heap.size w).alloc (Nat.le_refl _) _).trans (hb.mono (by simp)))
  obtain ⟨Z, hZ⟩ : ∃ Z, w.heap.size = Z := ⟨_, rfl⟩
  rw [hZ] at F
  rw [hZ]
  have HZ := Lib.hid hZ
  clear hb Re hZ
  have F1 := Lib.hid (F.out.alloc (.cells #[.int .u32 f, .int .u32 t] 38))
  obtain ⟨k0, k1, k2, k3, k4⟩ := F1.out
  have T1 := two_new w1 f t 38
  have B2 := Lib.hid (B1.out.alloc B1.out.size (.cells #[.int .u32 f, .int .u32 t] 38))
  go_wp2_with fail
  refine (rRe _).mono ?_
  rintro e w2 ⟨rfl, hb⟩
  have F2 := Lib.hid (F1.out.keep hb)
  have T2 := Lib.hid (T1.keep hb)
  have B3 := Lib.hid (B2.out.trans (hb.mono B2.out.size))
  obtain ⟨C, hC⟩ : ∃ C, w1.heap.size = C := ⟨_, rfl⟩
  rw [hC] at T2
  rw [hC]
  clear hb rRe hC F F1 T1 B1 B2 k0 k1 k2 k3 k4
  have F3 := Lib.hid (F2.out.alloc (.cells #[.int .u32 f, .int .u32 t] 38))
  obtain ⟨k0, k1, k2, k3, k4⟩ := F3.out
  have hk := (Below.refl w2.heap.size w2).alloc (Nat.le_refl _) (.cells #[.int .u32 f, .int .u32 t] 38)
  have T3 := Lib.hid (T2.out.keep hk)
  have U3 := Lib.hid (two_new w2 f t 38)
  have B4 := Lib.hid (B3.out.trans (hk.mono B3.out.size))
  clear hk
  go_wp2_with fail
  refine (En _).mono ?_
  rintro e w3 ⟨ax, cx, rfl, hown, hb⟩
  have F4 := Lib.hid (F3.out.keep hb)
  have T4 := Lib.hid (T3.out.keep hb)
  have U4 := Lib.hid (U3.out.keep hb)
  have X4 := Lib.hid (KitBytes.own_base hown B4.out.size)
  have hZ := World.block_lt_of_cell? w2 _ F2.out.c0
  have hC := World.block_lt_of_cell? w2 _ T2.out.1
  have Hx : Hid (∀ k, SA ax k → w2.heap.size < k) := fun k hk => by
    have := (KitBytes.r_lt hown k hk).1
    simp at this
    omega
  have B5 := Lib.hid (B4.out.trans (hb.mono B4.out.size))
  obtain ⟨E, hE⟩ : ∃ E, w2.heap.size = E := ⟨_, rfl⟩
  rw [hE] at U4 Hx hZ hC
  rw [hE]
  clear hb hE hown F2 T2 F3 T3 U3 B3 B4 k0 k1 k2 k3 k4
  obtain ⟨k0, k1, k2, k3, k4⟩ := F4.out
  go_wp2_with fail
  refine (rEn _).mono ?_
  rintro e w4 ⟨ay, cy, rfl, hown, hb⟩
  have F5 := Lib.hid (F4.out.keep hb)
  have T5 := Lib.hid (T4.out.keep hb)
  have U5 := Lib.hid (U4.out.keep hb)
  have X5 := Lib.hid (bown_below X4.out hb)
  have Y5 := Lib.hid (KitBytes.own_base hown B5.out.size)
  have B6 := Lib.hid (B5.out.trans (hb.mono B5.out.size))
  clear hb hown F4 T4 U4 X4 B5 rEn k0 k1 k2 k3 k4
  obtain ⟨k0, k1, k2, k3, k4⟩ := F5.out
  go_wp2_with fail
  refine (En _).mono ?_
  rintro e w5 ⟨az, cz, rfl, hown, hb⟩
  have hne : Hid (∀ k, SA ax k → ¬ SA az k) := fun k hk hk' => by
    have h1 := (KitBytes.r_lt X5.out k hk).2
    have h2 := (KitBytes.r_lt hown k hk').1
    omega
  have Hz : Hid (∀ k, SA az k → E < k) := fun k hk => by
    have h1 := World.block_lt_of_cell? w4 _ U5.out.1
    have h2 := (KitBytes.r_lt hown k hk).1
    simp only at h1
    omega
  have F6 := Lib.hid (F5.out.keep hb)
  have T6 := Lib.hid (T5.out.keep hb)
  have U6 := Lib.hid (U5.out.keep hb)
  have X6 := Lib.hid (bown_below X5.out hb)
  have Y6 := Lib.hid (bown_below Y5.out hb)
  have Z6 := Lib.hid (KitBytes.own_base hown B6.out.size)
  have B7 := Lib.hid (B6.out.trans (hb.mono B6.out.size))
  clear hb hown F5 T5 U5 X5 Y5 B6 En k0 k1 k2 k3 k4
  have nZ : ¬ (SA ax Z ∨ SA az Z) := fun e => e.elim (fun e => by have := Hx.out Z e; omega) (fun e => by have := Hz.out Z e; omega)
  have nC : ¬ (SA ax C ∨ SA az C) := fun e => e.elim (fun e => by have := Hx.out C e; omega) (fun e => by have := Hz.out C e; omega)
  have nE : ¬ (SA ax E ∨ SA az E) := fun e => e.elim (fun e => by have := Hx.out E e; omega) (fun e => by have := Hz.out E e; omega)
  have k0 := fun w' (ho : Only (fun k => SA ax k ∨ SA az k) w5 w') => ho.cell nZ F6.out.c0
  have k1 := fun w' (ho : Only (fun k => SA ax k ∨ SA az k) w5 w') => ho.cell nZ F6.out.c1
  have k2 := fun w' (ho : Only (fun k => SA ax k ∨ SA az k) w5 w') => ho.cell nZ F6.out.c2
  have k3 := fun w' (ho : Only (fun k => SA ax k ∨ SA az k) w5 w') => ho.cell nZ F6.out.c3
  have k4 := fun w' (ho : Only (fun k => SA ax k ∨ SA az k) w5 w') => ho.cell nZ F6.out.c4
  have t0 := fun w' (ho : Only (fun k => SA ax k ∨ SA az k) w5 w') => ho.cell nC T6.out.1
  have t1 := fun w' (ho : Only (fun k => SA ax k ∨ SA az k) w5 w') => ho.cell nC T6.out.2
  have u0 := fun w' (ho : Only (fun k => SA ax k ∨ SA az k) w5 w') => ho.cell nE U6.out.1
  have u1 := fun w' (ho : Only (fun k => SA ax k ∨ SA az k) w5 w') => ho.cell nE U6.out.2
  clear nZ nC nE hZ hC
  go_wp2_with fail
  go_region_held3 (fun w' => Only (fun k => SA ax k ∨ SA az k) w5 w')
    (first | assumption | exact (Only.refl _ _).drew | exact Only.of_below (C8.out.alloc C8.out.size _))
    (first
    | (go_at_call 14; refine (Ri _).mono ?_; rintro e w6 ⟨rfl, hb6⟩; have C6 := Lib.hid ((Below.refl _ _).drew.trans hb6); have D6 : Only (fun k => SA ax k ∨ SA az k) w5 w6 := Only.of_below C6.out)
    | (go_at_call 21; refine (rRi _).mono ?_; rintro e w7 ⟨rfl, hb7⟩; have C7 := Lib.hid (C6.out.trans (hb7.mono C6.out.size)); have D7 : Only (fun k => SA ax k ∨ SA az k) w5 w7 := Only.of_below C7.out)
    | (go_at_call 18; refine (same_own hn (bown_below X6.out C7.out) (bown_below Y6.out C7.out)).mono ?_; rintro e w8 ⟨rfl, hb8⟩; have C8 := Lib.hid (C7.out.trans (hb8.mono C7.out.size)); have D8 : Only (fun k => SA ax k ∨ SA az k) w5 w8 := Only.of_below C8.out)
    | (go_at_call 22; refine (apart_own hn (bown_below X6.out C8.out) (bown_below Z6.out C8.out) hne).mono ?_; rintro e w9 ⟨rfl, hb9⟩; have D9 : Only (fun k => SA ax k ∨ SA az k) w5 w9 := (Only.of_below C8.out).trans hb9))
  all_goals
    rename_i hH
    have HH := Lib.hid (B7.out.trans (hH.below B7.out.size (fun k hk => hk.elim (fun e => (KitBytes.r_lt X6.out k e).1) (fun e => (KitBytes.r_lt Z6.out k e).1))))
    go_wp2_with fail
    go_ret
    exact ⟨rfl, HH.out⟩
theorem enc_is (b : Bool) (W : Int) (r : Bool) (A S D : Int) : ∃ n l er, Enc b W r A S D n l er := by
  cases b
  · exact ⟨_, _, _, .inr ⟨rfl, rfl, rfl, rfl⟩⟩
  · exact ⟨_, _, _, .inl ⟨rfl, rfl, rfl, rfl⟩⟩
theorem enc_n {b : Bool} {W : Int} {r : Bool} {A S D : Int} {n : Nat} {l : List Int} {er : Int} (h : Enc b W r A S D n l er) : n ≤ 12 := by
  rcases h with ⟨_, h, _⟩ | ⟨_, h, _⟩ <;> omega
theorem asks_any (W : Int) (r : Bool) (A S D : Int) (w : World) (hA : 0 ≤ A) (hA' : A < 4294967296) (hD : 0 ≤ D) (hD' : D < 4294967296) :
    Calls Try.prog 8 #[acc W r A S D] w fun e w' => e = .returned (.bool true) ∧ Below w.heap.size w w' := by
  obtain ⟨b, hb⟩ : ∃ b, rightB W r A S D = b := ⟨_, rfl⟩
  obtain ⟨n, l, er, he⟩ := enc_is b W r A S D
  have hn := enc_n he
  exact asks_core W r A S D _ _ er b n l w (by omega) (fun w => Reach_any W r A S D _ _ b w hA hA' hD hD' hb rfl rfl) (fun w => rReach_any W r A S D _ _ b w hA hA' hD hD' hb rfl rfl)
    (fun w => Encode_any W r A S D b n l er w hA hA' hD hD' hb he) (fun w => rEncode_any W r A S D b n l er w hA hA' hD hD' hb he) (fun w => Right_any W r A S D b w hA hA' hD hD' hb) (fun w => rRight_any W r A S D b w hA hA' hD hD' hb)
end Go.Proofs.Ytblccnpdcnlhiaa.Access
