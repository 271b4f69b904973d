/- Sums, differences, first bits and bits are the document's, and the bits are new with every call: the walk of WordSums. -/
import Derived.Test.YteahocaogkhddaaDoorSb
namespace Go.Proofs.YteahocaogkhddaaDoor.Word
open Go.RowKit Go.Maps Go.ChangeShapes Go.WideShapes Go.ChangeAt
set_option linter.unusedVariables false

set_option maxHeartbeats 1000000 in
theorem sums_walk0 (x : Nat) (b : Int) (w : World) (hx : x < 4294967296) (hb : 0 ≤ b) (hb' : b < 4294967296) (ht : Tab w) (hT : TabZ w) :
    Calls Tryd.prog 5 #[.int .u32 x, .int .u32 b] w fun e w' => e = .returned (.bool true) ∧ Below w.heap.size w w' := by
  obtain ⟨s, hs⟩ : ∃ s, sumV x b = s := ⟨_, rfl⟩
  obtain ⟨o, ho⟩ : ∃ o, sumB x b = o := ⟨_, rfl⟩
  obtain ⟨r, hr⟩ : ∃ r, subV x b = r := ⟨_, rfl⟩
  obtain ⟨u, hu⟩ : ∃ u, subB x b = u := ⟨_, rfl⟩
  obtain ⟨f, hf⟩ : ∃ f, firstV x = f := ⟨_, rfl⟩
  obtain ⟨i, hi⟩ : ∃ i, firstB x = i := ⟨_, rfl⟩
  obtain ⟨n, hn⟩ : ∃ n, (onesL x).length = n := ⟨_, rfl⟩
  obtain ⟨L, hL⟩ : ∃ L, iv (onesL x) = L := ⟨_, rfl⟩
  have hn32 : n ≤ 32 := by rw [← hn]; exact onesL_len x
  have Hs := Lib.hid hs
  have Ho := Lib.hid ho
  have Hr := Lib.hid hr
  have Hu := Lib.hid hu
  have Hf := Lib.hid hf
  have Hi := Lib.hid hi
  have Hn := Lib.hid hn
  have HL := Lib.hid hL
  have Ht := Lib.hid ht
  have HT := Lib.hid hT
  clear hs ho hr hu hf hi hn hL ht hT
  go_enter Tryd.func5, Tryd.ntmps5
  go_wp2_with fail
  refine (wb_add x b s o _ (by omega) hb (by omega) hb' Hs.out Ho.out).mono ?_
  rintro e w' ⟨rfl, rfl⟩
  go_wp2_with fail
  refine (ws_radd x b s o _ (by omega) hb (by omega) hb' Hs.out Ho.out).mono ?_
  rintro e w' ⟨rfl, rfl⟩
  go_wp2_with fail
  refine (ws_sub x b r u _ Hr.out Hu.out).mono ?_
  rintro e w' ⟨rfl, rfl⟩
  go_wp2_with fail
  refine (ws_rsub x b r u _ (by omega) hb (by omega) hb' Hr.out Hu.out).mono ?_
  rintro e w' ⟨rfl, rfl⟩
  go_wp2_with fail
  refine (wb_first x f i hx _ HT.out Hf.out Hi.out).mono ?_
  rintro e w1 ⟨rfl, hb1⟩
  have Hb1 := Lib.hid hb1
  clear hb1
  go_wp2_with fail
  refine (rfirst_any x f i hx _ Hf.out Hi.out).mono ?_
  rintro e w2 ⟨rfl, hb2⟩
  have Hb2 := Lib.hid (Hb1.out.trans (hb2.mono Hb1.out.size))
  clear hb2 Hb1
  go_wp2_with fail
  refine (ws_ones x n L hx _ (HT.out.below Hb2.out) Hn.out HL.out).mono ?_
  rintro e w3 ⟨ax, cx, rfl, hox, hb3⟩
  have Hb3 := Lib.hid (Hb2.out.trans (hb3.mono Hb2.out.size))
  have Hox := Lib.hid hox
  clear hox hb3
  go_wp2_with fail
  refine (ws_ones x n L hx _ (HT.out.below Hb3.out) Hn.out HL.out).mono ?_
  rintro e w4 ⟨ay, cy, rfl, hoy, hb4⟩
  have Hox4 := Lib.hid (own_below Hox.out hb4)
  have Hoy := Lib.hid hoy
  have Hne : Hid (∀ k, Kit.SA ax k → ¬ Kit.SA ay k) := Lib.hid fun k h1 h2 => by
    have a1 := (KitInts.r_lt Hox.out k h1).2
    have a2 := (KitInts.r_lt hoy k h2).1
    omega
  have Hb4 := Lib.hid (Hb3.out.trans (hb4.mono Hb3.out.size))
  clear hoy hb4
  go_wp2_with fail
  refine (ws_rones x n L hx _ Hn.out HL.out).mono ?_
  rintro e w5 ⟨az, cz, rfl, hoz, hb5⟩
  have Hox5 := Lib.hid (own_below Hox4.out hb5)
  have Hoy5 := Lib.hid (own_below Hoy.out hb5)
  have Hoz := Lib.hid hoz
  have Hb5 := Lib.hid (Hb4.out.trans (hb5.mono Hb4.out.size))
  clear hoz hb5 Hox Hox4
  go_wp2_with fail
  refine (same_ints (HL.out.symm ▸ Hox5.out) (HL.out.symm ▸ Hoz.out)).mono ?_
  rintro e w6 ⟨rfl, j, rfl⟩
  go_wp2_with fail
  have sz2 := Hb2.out.size
  have sz3 := Hb3.out.size
  have sz5 := Hb5.out.size
  refine (KitInts.apart_two w5.heap.size 2 n cx n cy ax ay L L ((w5.drewN j).alloc (.cells #[.slice ax n cx, .slice ay n cy] 31)) (KitInts.own_base ((own_below Hox5.out (below_drewN (Below.refl _ _) j)).alloc _) (Nat.zero_le _)) (KitInts.own_base ((own_below Hoy5.out (below_drewN (Below.refl _ _) j)).alloc _) (Nat.zero_le _)) Hne.out (by omega) (by omega) (World.cell?_alloc_at #[.slice ax n cx, .slice ay n cy] _ w5.heap.size 0 rfl) (World.cell?_alloc_at #[.slice ax n cx, .slice ay n cy] _ w5.heap.size 1 rfl)).mono ?_
  rintro e w7 ⟨rfl, ho7⟩
  have Hb7 := Lib.hid (((below_drewN Hb5.out j).alloc (by show w.heap.size ≤ w5.heap.size; omega) _).trans (ho7.below (by rw [World.size_alloc]; show w.heap.size ≤ w5.heap.size + 1; omega) (fun k hk => by
    rcases hk with hk | hk
    · have := (KitInts.r_lt Hox5.out k hk).1; omega
    · have := (KitInts.r_lt Hoy5.out k hk).1; omega)))
  clear ho7
  go_wp2_with fail
  refine (awake_any _ (Ht.out.below Hb7.out)).mono ?_
  rintro e w8 ⟨rfl, hb8⟩
  have Hb8 := Lib.hid (Hb7.out.trans (hb8.mono Hb7.out.size))
  clear hb8
  go_wp2_with fail
  go_ret
  exact ⟨rfl, Hb8.out⟩
theorem sums_walk (a b : Int) (w : World) (ha : (Lit.int .u32 a).wf = true) (hb : (Lit.int .u32 b).wf = true) (hT : TabZ w) (ht : Tab w) :
    Calls Tryd.prog 5 #[.int .u32 a, .int .u32 b] w fun e w' => e = .returned (.bool true) ∧ Below w.heap.size w w' := by
  obtain ⟨a0, a1⟩ := bounds_u32 ha
  obtain ⟨b0, b1⟩ := bounds_u32 hb
  obtain ⟨x, rfl⟩ := Int.eq_ofNat_of_zero_le a0
  exact sums_walk0 x b w (by omega) b0 (by omega) ht hT
end Go.Proofs.YteahocaogkhddaaDoor.Word
