/- What is told of any table and access, of any table that is turned, is what the document tells. -/
import Derived.Test.YtmkponhhinjpkaaGreatUc
import Derived.Test.YtmkponhhinjpkaaGreatUd
import Derived.Test.YtmkponhhinjpkaaGreatTv
import Derived.Test.YtmkponhhinjpkaaGreatTy
import Derived.Test.YtmkponhhinjpkaaGreatKiRegions
import Derived.Test.YtmkponhhinjpkaaGreatKlRegions
namespace Go.Proofs.YtmkponhhinjpkaaGreat.Table
open Go.RowKit Fifo Go.Maps Go.ChangeShapes Go.WideShapes Go.ChangeAt Go.Proofs.YtmkponhhinjpkaaGreat.Access
open Go.Proofs.YtmkponhhinjpkaaGreat.Orow (own_keep own_only own_mono own_blk own_lt own_shape own_put own_pos own_none own_some blk_own own_prefix ba_self ba_some BA pb_ba)
open Go.Proofs.YtmkponhhinjpkaaGreat.KitRegions (apart_many Rows Dis UU marks)
open Go.Proofs.YtmkponhhinjpkaaGreat.Region (Eight eight_new)
set_option linter.unusedVariables false

/-- One of three. -/
def pick3 {α : Type} (x y z : α) : Nat → α
  | 0 => x
  | 1 => y
  | _ => z
theorem apart_three (a1 a2 a3 : Option Addr) (n1 n2 n3 c1 c2 c3 : Nat) (X1 X2 X3 : List Value) (H : Nat) (w : World) (h1 : w.ownsRow 0 37 8 (.slice a1 n1 c1) n1 X1) (h2 : w.ownsRow 0 37 8 (.slice a2 n2 c2) n2 X2) (h3 : w.ownsRow 0 37 8 (.slice a3 n3 c3) n3 X3)
    (d12 : ∀ j, BA a1 j → ¬ BA a2 j) (d13 : ∀ j, BA a1 j → ¬ BA a3 j) (d23 : ∀ j, BA a2 j → ¬ BA a3 j) (b1 : n1 ≤ 1000000) (b2 : n2 ≤ 1000000) (b3 : n3 ≤ 1000000)
    (g0 : w.cell? ⟨H, 0, none⟩ = some (.slice a1 n1 c1)) (g1 : w.cell? ⟨H, 1, none⟩ = some (.slice a2 n2 c2)) (g2 : w.cell? ⟨H, 2, none⟩ = some (.slice a3 n3 c3)) :
    Calls Tryz.prog 13 #[.slice (some ⟨H, 0, none⟩) 3 3] w fun e w' => e = .returned (.bool true) ∧ Only (fun j => BA a1 j ∨ BA a2 j ∨ BA a3 j) w w' := by
  refine (apart_many 3 (pick3 a1 a2 a3) (pick3 n1 n2 n3) (pick3 c1 c2 c3) (pick3 X1 X2 X3) H 3 w (by omega) (by omega) (fun q hq => ?_) (fun q p hq hp hne j hj => ?_) (fun q hq => ?_) (fun q hq => ?_)).mono ?_
  · match q, hq with
    | 0, _ => exact h1
    | 1, _ => exact h2
    | 2, _ => exact h3
  · match q, hq, p, hp with
    | 0, _, 0, _ => exact absurd rfl hne
    | 0, _, 1, _ => exact d12 j hj
    | 0, _, 2, _ => exact d13 j hj
    | 1, _, 0, _ => exact fun h => d12 j h hj
    | 1, _, 1, _ => exact absurd rfl hne
    | 1, _, 2, _ => exact d23 j hj
    | 2, _, 0, _ => exact fun h => d13 j h hj
    | 2, _, 1, _ => exact fun h => d23 j h hj
    | 2, _, 2, _ => exact absurd rfl hne
  · match q, hq with
    | 0, _ => exact b1
    | 1, _ => exact b2
    | 2, _ => exact b3
  · match q, hq with
    | 0, _ => exact g0
    | 1, _ => exact g1
    | 2, _ => exact g2
  · rintro e w' ⟨h, ho⟩
    refine ⟨h, ho.mono (fun j _ hj => ?_)⟩
    obtain ⟨q, hq, hb⟩ := hj
    match q, hq with
    | 0, _ => exact .inl hb
    | 1, _ => exact .inr (.inl hb)
    | 2, _ => exact .inr (.inr hb)

set_option maxRecDepth 100000 in
set_option maxHeartbeats 4000000 in
theorem asks_any (a : Option Addr) (n cap : Nat) (d : List Rg) (W2 : Int) (r2 : Bool) (A S D : Int) (w : World) (hn : n ≤ 1000000) (hc : n ≤ cap) (hA : 0 ≤ A) (hA' : A < 4294967296) (hD : 0 ≤ D) (hD' : D < 4294967296) (h : RowG w a n d) :
    Calls Tryz.prog 9 #[.slice a n cap, acc W2 r2 A S D] w fun e w' => e = .returned (.bool true) ∧ Below w.heap.size w w' := by
  obtain ⟨g, hg⟩ : ∃ g, w.heap.size = g := ⟨_, rfl⟩
  have h5 := five_new w W2 r2 A S D 25
  rw [hg] at h5
  have H5 := Lib.hid h5
  have B0 := Lib.hid ((Below.refl w.heap.size w).alloc (Nat.le_refl _) (.cells #[.int .i64 W2, .bool r2, .int .u32 A, .int .i64 S, .int .u32 D] 25))
  have Hr := Lib.hid h
  clear h
  obtain ⟨i, hi⟩ : ∃ i, (dec d ⟨W2, r2, A, S, D⟩).getD 0 = i := ⟨_, rfl⟩
  obtain ⟨ob, hob⟩ : ∃ ob, (dec d ⟨W2, r2, A, S, D⟩).isSome = ob := ⟨_, rfl⟩
  obtain ⟨tb, htb⟩ : ∃ tb, tabB d = tb := ⟨_, rfl⟩
  obtain ⟨mb, hmb⟩ : ∃ mb, may d ⟨W2, r2, A, S, D⟩ = mb := ⟨_, rfl⟩
  obtain ⟨ab, hab⟩ : ∃ ab, among d ⟨W2, r2, A, S, D⟩ = ab := ⟨_, rfl⟩
  have Hi := Lib.hid hi
  have Hob := Lib.hid hob
  have Htb := Lib.hid htb
  have Hmb := Lib.hid hmb
  have Hab := Lib.hid hab
  clear hi hob htb hmb hab
  obtain ⟨q0, q1, q2, q3, q4⟩ := h5
  go_enter Tryz.func9, Tryz.ntmps9
  go_wp2_with fail
  refine (Decides_any a n cap d W2 r2 A S D i ob _ hn hc hA hA' hD hD' (Hr.out.keep B0.out) Hi.out Hob.out).mono ?_
  rintro e w1 ⟨rfl, hb1⟩
  have B1 := Lib.hid (B0.out.trans (hb1.mono B0.out.size))
  have F1 := Lib.hid (H5.out.keep hb1)
  clear hb1 B0 H5 hg q0 q1 q2 q3 q4
  obtain ⟨q0, q1, q2, q3, q4⟩ := F1.out
  go_wp2_with fail
  refine (tDecides_any a n cap d W2 r2 A S D i ob _ hn hA hA' hD hD' (Hr.out.keep B1.out) Hi.out Hob.out).mono ?_
  rintro e w2 ⟨rfl, hb2⟩
  have B2 := Lib.hid (B1.out.trans (hb2.mono B1.out.size))
  have F2 := Lib.hid (F1.out.keep hb2)
  clear hb2 B1 F1 q0 q1 q2 q3 q4
  go_wp2_with fail
  refine wp_region_ext (by kernel_rfl) (by kernel_rfl) ?_
  intro Y hY
  obtain rfl := hY.out
  clear hY
  have q0 := ext_cell F2.out.c0
  have q1 := ext_cell F2.out.c1
  have q2 := ext_cell F2.out.c2
  have q3 := ext_cell F2.out.c3
  have q4 := ext_cell F2.out.c4
  have HR := Lib.hid (fun p => (Hr.out.keep B2.out).keep (ext_below Y p))
  have e1 : (tb == tb) = true := by simp
  have e2 : ((i : Int) == (i : Int)) = true := by simp
  have e3 : (ob == ob) = true := by simp
  have e4 : (mb == mb) = true := by simp
  have e5 : (ab == ab) = true := by simp
  repeat (go_big_quiet_step ((first
    | (go_at_call 26; with_reducible exact ext_of (Right_any a n cap d tb _ hn hc (HR.out _) Htb.out))
    | (go_at_call 27; with_reducible exact ext_of (tRight_any a n cap d tb _ hn (HR.out _) Htb.out))
    | (go_at_call 19; with_reducible exact ext_of (May_any a n cap d W2 r2 A S D mb _ hn hc hA hA' hD hD' (HR.out _) Hmb.out))
    | (go_at_call 28; with_reducible exact ext_of (tMay_any a n cap d W2 r2 A S D mb _ hn hA hA' hD hD' (HR.out _) Hmb.out))
    | (go_at_call 29; with_reducible exact ext_of (Among_any a n cap d W2 r2 A S D ab _ hn hA hA' hD hD' (HR.out _) Hab.out))
    | (go_at_call 30; with_reducible exact ext_of (tAmong_any a n cap d W2 r2 A S D ab _ hn hA hA' hD hD' (HR.out _) Hab.out)))))
  refine wpQuiet_nil ?_
  intro w9 hw9
  have h9 : Below Y.heap.size Y w9 := by obtain ⟨p9, rfl⟩ := hw9; exact ext_below Y p9
  have H9 := Lib.hid (B2.out.trans (h9.mono B2.out.size))
  clear hw9 h9 q0 q1 q2 q3 q4
  go_wp2_with fail
  go_ret
  exact ⟨rfl, H9.out⟩

theorem setR_length (d : List Rg) (m : Int) (r : Rg) : (setR d m r).length ≤ d.length + 32 := by
  unfold setR
  split
  · rename_i h
    have := (open_ok (set_ok h).1).2.2.1
    have h0 := (open_ok (set_ok h).1).2.1
    rw [setL_length]
    omega
  · simp
theorem clrR_length (d : List Rg) (m : Int) : (clrR d m).length ≤ d.length := by
  unfold clrR
  split
  · unfold clrL; simp
  · simp
set_option maxRecDepth 100000 in
set_option maxHeartbeats 4000000 in
theorem turns_any (a : Option Addr) (n cap : Nat) (d : List Rg) (m : Int) (o : Bool) (W F T : Int) (rd wt : Bool) (K : Int) (lk : Bool) (w : World) (hn : n ≤ 1000) (hno : a = none → n = 0 ∧ cap = 0) (h : RowG w a n d) :
    Calls Tryz.prog 14 #[.slice a n cap, .int .i64 m, Region.reg o W F T rd wt K lk] w fun e w' => e = .returned (.bool true) ∧ Below w.heap.size w w' := by
  obtain ⟨g, hg⟩ : ∃ g, w.heap.size = g := ⟨_, rfl⟩
  have h8 := eight_new w o W F T rd wt K lk 37
  rw [hg] at h8
  have H8 := Lib.hid h8
  have B0 := Lib.hid ((Below.refl w.heap.size w).alloc (Nat.le_refl _) (.cells #[.bool o, .int .i64 W, .int .u32 F, .int .u32 T, .bool rd, .bool wt, .int .i64 K, .bool lk] 37))
  have Hr := Lib.hid h
  have hdl : d.length = n := h.1
  have Hdl := Lib.hid hdl
  have Hno := Lib.hid hno
  obtain ⟨x, hx⟩ : ∃ x, setE d m ⟨o, W, F, T, rd, wt, K, lk⟩ = x := ⟨_, rfl⟩
  obtain ⟨y, hy⟩ : ∃ y, openE d m = y := ⟨_, rfl⟩
  obtain ⟨L, hL⟩ : ∃ L, setR d m ⟨o, W, F, T, rd, wt, K, lk⟩ = L := ⟨_, rfl⟩
  obtain ⟨M, hM⟩ : ∃ M, clrR d m = M := ⟨_, rfl⟩
  obtain ⟨l, hl⟩ : ∃ l, L.length = l := ⟨_, rfl⟩
  obtain ⟨k, hk⟩ : ∃ k, M.length = k := ⟨_, rfl⟩
  have hl6 : l ≤ 1000000 := by rw [← hl, ← hL]; have := setR_length d m ⟨o, W, F, T, rd, wt, K, lk⟩; omega
  have hk6 : k ≤ 1000000 := by rw [← hk, ← hM]; have := clrR_length d m; omega
  have hn6 : n ≤ 1000000 := by omega
  have Hx := Lib.hid hx
  have Hy := Lib.hid hy
  have HL := Lib.hid hL
  have HM := Lib.hid hM
  have Hl := Lib.hid hl
  have Hk := Lib.hid hk
  clear h h8 hno hx hy hL hM hl hk hdl
  go_enter Tryz.func14, Tryz.ntmps14
  go_wp2_with fail
  refine (lent_any a n cap d _ (Hr.out.keep B0.out) Hno.out hn).mono ?_
  rintro e w1 ⟨i, rfl, hown, hb1⟩
  have B1 := Lib.hid (B0.out.trans (hb1.mono B0.out.size))
  have F1 := Lib.hid (H8.out.keep hb1)
  have HI := Lib.hid (own_mono hown B0.out.size)
  have hi1 : w.heap.size ≤ i := (HI.out.lt i rfl).1
  have hi2 : i < w1.heap.size := (HI.out.lt i rfl).2
  have HRi := Lib.hid (lent_row hown Hdl.out)
  clear hb1 hown B0 H8 hg
  obtain ⟨c0, c1, c2, c3, c4, c5, c6, c7⟩ := F1.out
  go_wp2_with fail
  refine (Set_any (some ⟨i, 0, none⟩) n (n + 12) d m o W F T rd wt K lk x L _ hn6 (by omega) HRi.out Hx.out HL.out).mono ?_
  rintro e w2 ⟨v2, rfl, hv2, hb2⟩
  rw [Hl.out] at hv2
  obtain ⟨a2, k2, rfl, _, _⟩ := own_shape hv2
  have B2 := Lib.hid (B1.out.trans (hb2.mono B1.out.size))
  have F2 := Lib.hid (F1.out.keep hb2)
  have HI2 := Lib.hid (own_keep HI.out hb2)
  have HV2 := Lib.hid hv2
  have hs12 := hb2.size
  clear hb2 hv2 F1 HI HRi c0 c1 c2 c3 c4 c5 c6 c7
  obtain ⟨c0, c1, c2, c3, c4, c5, c6, c7⟩ := F2.out
  go_wp2_with fail
  refine (tSet_any a n cap d m o W F T rd wt K lk x L _ hn6 (Hr.out.keep B2.out) (fun e => (Hno.out e).2) Hx.out HL.out).mono ?_
  rintro e w3 ⟨v3, rfl, hv3, hb3⟩
  rw [Hl.out] at hv3
  obtain ⟨a3, k3, rfl, _, _⟩ := own_shape hv3
  have B3 := Lib.hid (B2.out.trans (hb3.mono B2.out.size))
  have HI3 := Lib.hid (own_keep HI2.out hb3)
  have HV3 := Lib.hid (own_keep HV2.out hb3)
  have HW3 := Lib.hid hv3
  have hs23 := hb3.size
  have hl2 : ∀ j, BA a2 j → w1.heap.size ≤ j ∧ j < w3.heap.size := fun j hj => by have := own_lt HV2.out j hj; omega
  have Hl2 := Lib.hid hl2
  clear hb3 hv3 HI2 HV2 F2 hl2 c0 c1 c2 c3 c4 c5 c6 c7
  go_wp2_with fail
  refine (Clear_any (some ⟨i, 0, none⟩) n (n + 12) d m y M _ hn6 (by omega) (lent_row HI3.out Hdl.out) (fun e => by cases e) Hy.out HM.out).mono ?_
  rintro e w4 ⟨v4, rfl, hv4, hb4⟩
  rw [Hk.out] at hv4
  obtain ⟨a4, k4, rfl, _, _⟩ := own_shape hv4
  have B4 := Lib.hid (B3.out.trans (hb4.mono B3.out.size))
  have HI4 := Lib.hid (own_keep HI3.out hb4)
  have HV4 := Lib.hid (own_keep HV3.out hb4)
  have HW4 := Lib.hid (own_keep HW3.out hb4)
  have HZ4 := Lib.hid hv4
  have Hl4 := Lib.hid (show ∀ j, BA a4 j → w3.heap.size ≤ j from fun j hj => (own_lt HZ4.out j hj).1)
  clear hb4 hv4 HI3 HV3 HW3
  go_wp2_with fail
  refine (tClear_any a n cap d m y M _ hn6 (Hr.out.keep B4.out) (fun e => (Hno.out e).2) Hy.out HM.out).mono ?_
  rintro e w5 ⟨v5, rfl, hv5, hb5⟩
  rw [Hk.out] at hv5
  obtain ⟨a5, k5, rfl, _, _⟩ := own_shape hv5
  have B5 := Lib.hid (B4.out.trans (hb5.mono B4.out.size))
  have HI5 := Lib.hid (own_keep HI4.out hb5)
  have HV5 := Lib.hid (own_keep HV4.out hb5)
  have HW5 := Lib.hid (own_keep HW4.out hb5)
  have HZ5 := Lib.hid (own_keep HZ4.out hb5)
  have HU5 := Lib.hid hv5
  have e1 : (x == x) = true := by simp
  have e2 : (y == y) = true := by simp
  clear hb5 hv5 HI4 HV4 HW4 HZ4
  go_wp2_with fail
  refine (same_any a2 a3 l k2 k3 L _ hl6 (rowG_of_own Hl.out HV5.out) (rowG_of_own Hl.out HW5.out)).mono ?_
  rintro e w6 ⟨rfl, hb6⟩
  have B6 := Lib.hid (B5.out.trans (hb6.mono B5.out.size))
  have HI6 := Lib.hid (own_keep HI5.out hb6)
  have HV6 := Lib.hid (own_keep HV5.out hb6)
  have HZ6 := Lib.hid (own_keep HZ5.out hb6)
  have HU6 := Lib.hid (own_keep HU5.out hb6)
  clear hb6 HI5 HV5 HZ5 HU5 HW5
  go_wp2_with fail
  refine (same_any a4 a5 k k4 k5 M _ hk6 (rowG_of_own Hk.out HZ6.out) (rowG_of_own Hk.out HU6.out)).mono ?_
  rintro e w7 ⟨rfl, hb7⟩
  have B7 := Lib.hid (B6.out.trans (hb7.mono B6.out.size))
  have HI7 := Lib.hid (own_keep HI6.out hb7)
  have HV7 := Lib.hid (own_keep HV6.out hb7)
  have HZ7 := Lib.hid (own_keep HZ6.out hb7)
  clear hb7 HI6 HV6 HZ6 HU6
  go_wp2_with fail
  refine (kept_any w.heap.size i n cap a d _ hn (Hr.out.keep B7.out) HI7.out).mono ?_
  rintro e w8 ⟨rfl, hb8⟩
  have B8 := Lib.hid (B7.out.trans (hb8.mono B7.out.size))
  have HI8 := Lib.hid (own_keep HI7.out hb8)
  have HV8 := Lib.hid (own_keep HV7.out hb8)
  have HZ8 := Lib.hid (own_keep HZ7.out hb8)
  clear hb8 HI7 HV7 HZ7
  go_wp2_with fail
  have hA := (Below.refl w8.heap.size w8).alloc (Nat.le_refl _) (.cells #[.slice a2 l k2, .slice a4 k k4, .slice (some ⟨i, 0, none⟩) n (n + 12)] 22)
  have hB := Blk.new w8 22 [.slice a2 l k2, .slice a4 k k4, .slice (some ⟨i, 0, none⟩) n (n + 12)]
  refine (apart_three a2 a4 (some ⟨i, 0, none⟩) l k n k2 k4 (n + 12) _ _ _ w8.heap.size _ (own_mono (own_keep HV8.out hA) (Nat.zero_le _)) (own_mono (own_keep HZ8.out hA) (Nat.zero_le _)) (own_mono (own_prefix (n := n) (own_keep HI8.out hA) (by omega)) (Nat.zero_le _))
    (fun j h1 h2 => ?_) (fun j h1 h2 => ?_) (fun j h1 h2 => ?_) hl6 hk6 hn6 (hB.at 0 rfl) (hB.at 1 rfl) (hB.at 2 rfl)).mono ?_
  · have := Hl2.out j h1; have := Hl4.out j h2; omega
  · have := Hl2.out j h1; have := ba_some h2; omega
  · have := Hl4.out j h1; have := ba_some h2; omega
  · rintro e w9 ⟨rfl, ho9⟩
    have B9 := Lib.hid ((B8.out.trans (hA.mono B8.out.size)).trans (ho9.below (Nat.le_trans B8.out.size hA.size) (fun j hj => by
      have hw1 := B1.out.size
      rcases hj with hj | hj | hj
      · have := Hl2.out j hj; omega
      · have := Hl4.out j hj; omega
      · have := ba_some hj; omega)))
    clear ho9 hA hB
    go_wp2_with fail
    go_ret
    exact ⟨rfl, B9.out⟩
end Go.Proofs.YtmkponhhinjpkaaGreat.Table
