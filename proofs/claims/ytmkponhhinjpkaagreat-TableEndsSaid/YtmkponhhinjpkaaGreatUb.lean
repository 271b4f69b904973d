/- The document's table: place, Clear, Set. -/
import Derived.Test.YtmkponhhinjpkaaGreatUa
import Derived.Test.YtmkponhhinjpkaaGreatTr
import Derived.Test.YtmkponhhinjpkaaGreatOw
namespace Go.Proofs.YtmkponhhinjpkaaGreat.Table
open Go.RowKit Fifo Go.Maps Go.ChangeShapes Go.WideShapes Go.ChangeAt
open Go.Proofs.YtmkponhhinjpkaaGreat.Orow (own_keep own_only own_mono own_blk own_lt own_shape own_put own_pos own_none own_some blk_own ba_self ba_some BA pb_ba)
open Go.Proofs.YtmkponhhinjpkaaGreat.Region (Eight eight_new)
set_option linter.unusedVariables false

set_option maxRecDepth 100000 in
set_option maxHeartbeats 1000000 in
theorem tPlace_err (a : Option Addr) (n cap : Nat) (d : List Rg) (m : Int) (x : Int) (w : World) (hn : n ≤ 1000000) (h : RowG w a n d) (hx : openE d m = x) (h0 : x ≠ 0) :
    Calls Tryz.prog 71 #[.slice a n cap, .int .i64 m] w fun e w' => e = .returned (.tuple #[.slice none 0 0, .int .i64 x]) ∧ Below w.heap.size w w' := by
  have Hr := Lib.hid h
  rcases openE_cases d m with ⟨h1, h2⟩ | ⟨h1, h3, h2⟩ | ⟨h1, h3, h2⟩ | ⟨k, h1, rfl, h3, h4, h2⟩ | ⟨k, h1, rfl, h3, h4, h2⟩
  · obtain rfl : x = 4 := by omega
    clear h hx h0 h2
    go_enter Tryz.func71, Tryz.ntmps71
    go_wp2_with fail
    refine (tRight_any a n cap d false _ hn Hr.out h1).mono ?_
    rintro e w1 ⟨rfl, hb⟩
    have Hb := Lib.hid hb
    clear hb h1
    go_wp2_with fail
    go_ret2
    exact ⟨rfl, Hb.out⟩
  · obtain rfl : x = 6 := by omega
    have d1 : decide (m < 0) = true := decide_eq_true h3
    clear h hx h0 h2
    go_enter Tryz.func71, Tryz.ntmps71
    go_wp2_with fail
    refine (tRight_any a n cap d true _ hn Hr.out h1).mono ?_
    rintro e w1 ⟨rfl, hb⟩
    have Hb := Lib.hid hb
    clear hb h1
    go_wp2_with fail
    go_ret2
    exact ⟨rfl, Hb.out⟩
  · obtain rfl : x = 6 := by omega
    have d1 : decide (m < 0) = false := decide_eq_false (by omega)
    have d2 : decide (32 ≤ m) = true := decide_eq_true h3
    clear h hx h0 h2
    go_enter Tryz.func71, Tryz.ntmps71
    go_wp2_with fail
    refine (tRight_any a n cap d true _ hn Hr.out h1).mono ?_
    rintro e w1 ⟨rfl, hb⟩
    have Hb := Lib.hid hb
    clear hb h1
    go_wp2_with fail
    go_ret2
    exact ⟨rfl, Hb.out⟩
  · obtain rfl : x = 15 := by omega
    have d1 : decide ((k : Int) < 0) = false := decide_eq_false (by omega)
    have d2 : decide ((32 : Int) ≤ (k : Int)) = false := decide_eq_false (by omega)
    obtain ⟨hkn, hlk⟩ : k < n ∧ d[k]!.lk = true := by
      unfold lockB at h4
      simp only [Bool.and_eq_true, decide_eq_true_eq, Int.toNat_natCast] at h4
      exact ⟨by have := h4.1; rw [h.1] at this; omega, h4.2⟩
    have d3 : decide ((k : Int) < (n : Int)) = true := decide_eq_true (by omega)
    have d4 : decide (k < n) = true := decide_eq_true hkn
    have i1 : (0 : Int) ≤ (k : Int) := by omega
    have i2 : (k : Int) < (n : Int) := by omega
    obtain ⟨b, off, rfl, ce⟩ := Hr.out.2 k hkn
    have e6 := ce.c7
    rw [hlk] at e6
    have E6 := Lib.hid e6
    clear h hx h0 h2 ce e6 h4 hlk
    go_enter Tryz.func71, Tryz.ntmps71
    go_wp2_with fail
    refine (tRight_any _ n cap d true _ hn Hr.out h1).mono ?_
    rintro e w1 ⟨rfl, hb⟩
    have Hb := Lib.hid hb
    have e6 := cell_keep hb E6.out
    clear hb h1
    go_wp2_with fail
    go_ret2
    exact ⟨rfl, Hb.out⟩
  · exact absurd (hx.symm.trans h2) h0
theorem info_g2 : (Tryz.prog.info? 37).map (fun i => (i.zero, i.size, i.bytes)) = some (some (.agg #[.bool false, .int .i64 0, .int .u32 0, .int .u32 0, .bool false, .bool false, .int .i64 0, .bool false]), 8, 48) := by kernel_rfl
set_option maxRecDepth 100000 in
set_option maxHeartbeats 2000000 in
theorem tPlace_ok (a : Option Addr) (n cap : Nat) (d : List Rg) (k : Nat) (w : World) (hn : n ≤ 1000000) (h : RowG w a n d) (hno : a = none → cap = 0) (hx : openE d (k : Nat) = 0) :
    Calls Tryz.prog 71 #[.slice a n cap, .int .i64 (k : Nat)] w fun e w' => ∃ v, e = .returned (.tuple #[v, .int .i64 0]) ∧ w'.ownsRow w.heap.size 37 8 v n (flG d) ∧ Below w.heap.size w w' := by
  obtain ⟨i0, hi, hz0, hz1, hz2⟩ := info_parts info_g2
  have Hi := Lib.hid hi
  have Hz0 := Lib.hid hz0
  have Hz1 := Lib.hid hz1
  have Hz2 := Lib.hid hz2
  have Hr := Lib.hid h
  have Hno := Lib.hid hno
  obtain ⟨h1, h2, h3, h4⟩ := open_ok hx
  have d1 : decide ((k : Int) < 0) = false := decide_eq_false (by omega)
  have d2 : decide ((32 : Int) ≤ (k : Int)) = false := decide_eq_false (by omega)
  have Ht := Lib.hid (tabB_iff.2 h1)
  have H4 := Lib.hid h4
  have i1 : (0 : Int) ≤ (k : Int) := by omega
  clear hi hz0 hz1 hz2 h hno hx h1 h2 h3 h4
  go_enter Tryz.func71, Tryz.ntmps71
  go_wp2_with fail
  refine (tRight_any a n cap d true _ hn Hr.out Ht.out).mono ?_
  rintro e w1 ⟨rfl, hb⟩
  have Hb := Lib.hid hb
  have hsz := hb.size
  clear hb
  have HN := Lib.hid (show (w1.alloc (.cells #[] 37)).ownsRow w.heap.size 37 8 (.slice (some ⟨w1.heap.size, 0, none⟩) 0 0) 0 [] from blk_own (Blk.new w1 37 []) rfl rfl (Nat.le_refl _) (Nat.zero_le _) hsz)
  have HA := Lib.hid (Hb.out.alloc hsz (.cells #[] 37))
  have HRA := Lib.hid (Hr.out.keep HA.out)
  have hlen : (flG d).length = n * 8 := by rw [flG_len, Hr.out.1]
  have Hlen := Lib.hid hlen
  clear hlen
  by_cases hkn : k < n
  · have d3 : decide ((k : Int) < (n : Int)) = true := decide_eq_true (by omega)
    have d4 : decide (k < n) = true := decide_eq_true hkn
    have i2 : (k : Int) < (n : Int) := by omega
    have hlk : d[k]!.lk = false := by
      have := H4.out
      unfold lockB at this
      have h9 : ((k : Nat) : Int) < (d.length : Int) := by rw [Hr.out.1]; omega
      simpa [h9] using this
    obtain ⟨b, off, rfl, ce⟩ := Hr.out.2 k hkn
    have e6 := cell_keep Hb.out ce.c7
    rw [hlk] at e6
    clear ce hlk
    go_wp2_with (at_builtin; refine wpList_append_grows (w1.alloc (.cells #[] 37)) rfl _ _ 22 rfl 37 i0 (.agg #[.bool false, .int .i64 0, .int .u32 0, .int .u32 0, .bool false, .bool false, .int .i64 0, .bool false]) 8 48 Tryz.underlying22 Hi.out Hz0.out Hz1.out Hz2.out rfl (by decide) (some ⟨w1.heap.size, 0, none⟩) 0 0 [] rfl (fun h => by cases h) rfl (fun b hb j u hu => by simp at hu) ⟨b, off, none⟩ n cap (flG d) rfl Hlen.out (rowG_cells HRA.out _ rfl) flG_cells (by omega) (by unfold maxLen; omega) (by omega) ?_; intro v' w2 hown hgrow)
    have HO := Lib.hid hown
    have HB2 := Lib.hid (HA.out.grown hgrow HA.out.size (fun k h => by cases h))
    have hs2 := HA.out.size
    clear hown hgrow e6
    go_wp2_with fail
    go_ret2
    refine ⟨_, rfl, ?_, HB2.out⟩
    have := own_mono HO.out hs2
    simpa using this
  · have d3 : decide ((k : Int) < (n : Int)) = false := decide_eq_false (by omega)
    have d4 : decide (k < n) = false := decide_eq_false hkn
    by_cases h0 : 0 < n
    · obtain ⟨b, off, rfl, _⟩ := Hr.out.2 0 h0
      go_wp2_with (at_builtin; refine wpList_append_grows (w1.alloc (.cells #[] 37)) rfl _ _ 22 rfl 37 i0 (.agg #[.bool false, .int .i64 0, .int .u32 0, .int .u32 0, .bool false, .bool false, .int .i64 0, .bool false]) 8 48 Tryz.underlying22 Hi.out Hz0.out Hz1.out Hz2.out rfl (by decide) (some ⟨w1.heap.size, 0, none⟩) 0 0 [] rfl (fun h => by cases h) rfl (fun b hb j u hu => by simp at hu) ⟨b, off, none⟩ n cap (flG d) rfl Hlen.out (rowG_cells HRA.out _ rfl) flG_cells (by omega) (by unfold maxLen; omega) (by omega) ?_; intro v' w2 hown hgrow)
      have HO := Lib.hid hown
      have HB2 := Lib.hid (HA.out.grown hgrow HA.out.size (fun k h => by cases h))
      have hs2 := HA.out.size
      clear hown hgrow
      go_wp2_with fail
      go_ret2
      refine ⟨_, rfl, ?_, HB2.out⟩
      have := own_mono HO.out hs2
      simpa using this
    · obtain rfl : n = 0 := by omega
      go_wp2_with (at_builtin; refine wpList_append_fits_any (w1.alloc (.cells #[] 37)) rfl _ _ 22 rfl w.heap.size 37 i0 8 Tryz.underlying22 Hi.out Hz1.out w1.heap.size 0 0 [] rfl HN.out a 0 cap (flG d) rfl Hlen.out (fun h => ⟨rfl, Hno.out h⟩) (rowG_cells HRA.out) flG_cells (by omega) ?_; intro w2 hown hgrow)
      have HO := Lib.hid hown
      have HB2 := Lib.hid (HA.out.grown hgrow HA.out.size (fun k h => by cases h; exact hsz))
      clear hown hgrow
      go_wp2_with fail
      go_ret2
      refine ⟨_, rfl, ?_, HB2.out⟩
      simpa using HO.out

set_option maxRecDepth 100000 in
set_option maxHeartbeats 1000000 in
theorem tClear_err (a : Option Addr) (n cap : Nat) (d : List Rg) (m : Int) (x : Int) (w : World) (hn : n ≤ 1000000) (h : RowG w a n d) (hx : openE d m = x) (h0 : x ≠ 0) :
    Calls Tryz.prog 35 #[.slice a n cap, .int .i64 m] w fun e w' => e = .returned (.tuple #[.slice none 0 0, .int .i64 x]) ∧ Below w.heap.size w w' := by
  have O := Lib.hid (tPlace_err a n cap d m x _ hn h hx h0)
  have hq : (x != 0) = true := by simpa using h0
  clear h hx h0
  go_enter Tryz.func35, Tryz.ntmps35
  go_wp2_with fail
  refine O.out.mono ?_
  rintro e w1 ⟨rfl, hb1⟩
  have Hb1 := Lib.hid hb1
  clear hb1 O
  go_wp2_with fail
  go_ret2
  exact ⟨rfl, Hb1.out⟩
set_option maxRecDepth 100000 in
set_option maxHeartbeats 1000000 in
theorem tClear_ok (a : Option Addr) (n cap : Nat) (d : List Rg) (k : Nat) (w : World) (hn : n ≤ 1000000) (h : RowG w a n d) (hno : a = none → cap = 0) (hx : openE d (k : Nat) = 0) :
    Calls Tryz.prog 35 #[.slice a n cap, .int .i64 (k : Nat)] w fun e w' => ∃ v, e = .returned (.tuple #[v, .int .i64 0]) ∧ w'.ownsRow w.heap.size 37 8 v n (flG (clrL d k)) ∧ Below w.heap.size w w' := by
  have O := Lib.hid (tPlace_ok a n cap d k _ hn h hno hx)
  have hdl := h.1
  have i1 : (0 : Int) ≤ (k : Int) := by omega
  clear h hx
  go_enter Tryz.func35, Tryz.ntmps35
  go_wp2_with fail
  refine O.out.mono ?_
  rintro e w1 ⟨v, rfl, hv, hb1⟩
  have Hb1 := Lib.hid hb1
  have HV := Lib.hid hv
  obtain ⟨av, cv, rfl, _⟩ := own_shape hv
  clear hb1 O hv
  by_cases hkn : k < n
  · have d3 : decide ((k : Int) < (n : Int)) = true := decide_eq_true (by omega)
    have d4 : decide (k < n) = true := decide_eq_true hkn
    have i2 : (k : Int) < (n : Int) := by omega
    obtain ⟨g, rfl⟩ := own_some HV.out (.inl (by omega))
    go_wp2_with (with_reducible refine Orow.at_store _ _ _ rfl ?_)
    apply Lib.hid
    obtain ⟨cur, u1, u2, u3, u4, u5, u6⟩ := own_blk HV.out
    have hfit : k * 8 + 8 ≤ cur.length := by omega
    refine Orow.store_at rfl _ _ _ rfl g (k * 8) [.bool false, .int .i64 0, .int .u32 0, .int .u32 0, .bool false, .bool false, .int .i64 0, .bool false] rfl rfl 37 cur u1 (by kernel_rfl) (by simpa using hfit) (by simp [Value.oneCell']) ?_
    intro Y hY hoY
    have hrow2 := own_put HV.out u1 hkn rfl hY
    rw [show [.bool false, .int .i64 0, .int .u32 0, .int .u32 0, .bool false, .bool false, .int .i64 0, .bool false] = encG zero from rfl] at hrow2
    have e8 : (encG zero).length = 8 := rfl
    rw [e8, flG_put (by omega)] at hrow2
    have R2 := Lib.hid hrow2
    have B2 := Lib.hid (Hb1.out.trans (hoY.below Hb1.out.size (fun j hj => by rw [hj]; exact u6)))
    clear hY hoY hrow2 u1 u2 u3
    go_wp2_with fail
    go_ret2
    exact ⟨_, rfl, R2.out, B2.out⟩
  · have d3 : decide ((k : Int) < (n : Int)) = false := decide_eq_false (by omega)
    have d4 : decide (k < n) = false := decide_eq_false hkn
    go_wp2_with fail
    go_ret2
    have e : clrL d k = d := by unfold clrL; exact List.set_eq_of_length_le (by omega)
    exact ⟨_, rfl, by rw [e]; exact HV.out, Hb1.out⟩
theorem tClear_any (a : Option Addr) (n cap : Nat) (d : List Rg) (m : Int) (x : Int) (L : List Rg) (w : World) (hn : n ≤ 1000000) (h : RowG w a n d) (hno : a = none → cap = 0) (hx : openE d m = x) (hL : clrR d m = L) :
    Calls Tryz.prog 35 #[.slice a n cap, .int .i64 m] w fun e w' => ∃ v, e = .returned (.tuple #[v, .int .i64 x]) ∧ w'.ownsRow w.heap.size 37 8 v L.length (flG L) ∧ Below w.heap.size w w' := by
  subst hL
  by_cases h0 : openE d m = 0
  · obtain ⟨k, rfl⟩ := Int.eq_ofNat_of_zero_le (open_ok h0).2.1
    refine (tClear_ok a n cap d k w hn h hno h0).mono ?_
    rintro e w' ⟨v, rfl, hv, hb⟩
    rw [h0] at hx; subst hx
    refine ⟨_, rfl, ?_, hb⟩
    unfold clrR; rw [if_pos h0]
    rw [show (clrL d ((k : Nat) : Int).toNat).length = n by unfold clrL; rw [List.length_set, h.1]]
    exact hv
  · have hx0 : x ≠ 0 := by rw [← hx]; exact h0
    refine (tClear_err a n cap d m x w hn h hx hx0).mono ?_
    rintro e' w' ⟨rfl, hb⟩
    refine ⟨_, rfl, ?_, hb⟩
    unfold clrR; rw [if_neg h0]
    exact ⟨rfl, .inl ⟨rfl, rfl⟩⟩
end Go.Proofs.YtmkponhhinjpkaaGreat.Table
