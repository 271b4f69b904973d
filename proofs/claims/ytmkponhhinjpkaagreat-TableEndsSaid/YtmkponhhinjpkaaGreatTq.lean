/- Package table's without: a new row without a region. -/
import Derived.Test.YtmkponhhinjpkaaGreatTp
import Derived.Laws.Cover3
namespace Go.Proofs.YtmkponhhinjpkaaGreat.Table
open Go.RowKit Fifo Go.Maps Go.ChangeShapes Go.WideShapes Go.ChangeAt
set_option linter.unusedVariables false

theorem eql_nil (a : Option Addr) (n cap : Nat) (w : World) : (binOp .eql 54 (.slice a n cap) (.slice none 0 0)).run Tryz.prog w = .ok (.bool a.isNone) w := by
  simp [binOp, run_equal_slice_nil w 54 37 a n cap Tryz.underlying54]
set_option maxRecDepth 100000 in
theorem Clone_nil (w : World) :
    Calls Tryz.prog 98 #[.slice none 0 0] w fun e w' => e = .returned (.slice none 0 0) ∧ w = w' := by
  have hq := eql_nil none 0 0
  rw [show (none : Option Addr).isNone = true from rfl] at hq
  go_enter Tryz.func98, Tryz.ntmps98
  go_wp2_with fail
  go_ret
  exact ⟨rfl, rfl⟩
set_option maxRecDepth 100000 in
set_option maxHeartbeats 1000000 in
theorem Clone_some (ad : Addr) (n cap : Nat) (d : List Rg) (w : World) (hn : n ≤ 1000000) (h : RowG w (some ad) n d) :
    Calls Tryz.prog 98 #[.slice (some ad) n cap] w fun e w' => ∃ v, e = .returned v ∧ w'.ownsRow w.heap.size 37 8 v n (flG d) ∧ Below w.heap.size w w' := by
  obtain ⟨i0, hi, hz0, hz1, hz2⟩ := info_parts info_g
  have Hi := Lib.hid hi
  have Hz0 := Lib.hid hz0
  have Hz1 := Lib.hid hz1
  have Hz2 := Lib.hid hz2
  have Hr := Lib.hid h
  have hq := eql_nil (some ad) n cap
  rw [show (some ad).isNone = false from rfl] at hq
  clear hi hz0 hz1 hz2 h
  go_enter Tryz.func98, Tryz.ntmps98
  go_wp2_with (at_builtin; refine wpList_append_own _ rfl _ _ 54 rfl w.heap.size 37 i0 (.agg #[.bool false, .int .i64 0, .int .u32 0, .int .u32 0, .bool false, .bool false, .int .i64 0, .bool false]) 8 48 Tryz.underlying54 Hi.out Hz0.out Hz1.out Hz2.out rfl (by decide) _ _ _ rfl (own_of_blk (sz := 8) (n := 0) (Blk.new w 37 []) rfl (Nat.le_refl _) (Nat.zero_le _)) ad n cap (flG d) rfl (by rw [flG_len, Hr.out.1]) (rowG_cells (Hr.out.keep ((Below.refl _ _).alloc (Nat.le_refl _) _)) ad rfl) flG_cells (by unfold maxLen; omega) (by omega) (by simp) ?_; intro v' w5 r1 r2 _; have R1 := Lib.hid r1; have R2 := Lib.hid r2; obtain ⟨a5, c5, hv5, _⟩ := ok_shape r1; subst hv5; clear r1 r2)
  go_ret
  have ha := (Below.refl w.heap.size w).alloc (Nat.le_refl _) (.cells #[] 37)
  refine ⟨_, rfl, by simpa using R1.out, ha.grown R2.out ha.size (fun k hk => by
    have hk : some w.heap.size = some k := hk
    simp only [Option.some.injEq] at hk
    omega)⟩
theorem Clone_any (a : Option Addr) (n cap : Nat) (d : List Rg) (w : World) (hn : n ≤ 1000000) (h : RowG w a n d) (hno : a = none → cap = 0) :
    Calls Tryz.prog 98 #[.slice a n cap] w fun e w' => ∃ v, e = .returned v ∧ w'.ownsRow w.heap.size 37 8 v n (flG d) ∧ Below w.heap.size w w' := by
  cases a with
  | some ad => exact Clone_some ad n cap d w hn h
  | none =>
    obtain rfl : cap = 0 := hno rfl
    obtain rfl : n = 0 := by
      cases n with
      | zero => rfl
      | succ m => obtain ⟨b, off, e, _⟩ := h.2 0 (by omega); cases e
    refine (Clone_nil w).mono ?_
    rintro e w' ⟨rfl, rfl⟩
    obtain rfl : d = [] := List.eq_nil_of_length_eq_zero h.1
    exact ⟨_, rfl, ⟨rfl, .inl ⟨rfl, rfl⟩⟩, Below.refl _ _⟩

set_option maxRecDepth 100000 in
set_option maxHeartbeats 2000000 in
theorem without_any (a : Option Addr) (n cap : Nat) (d : List Rg) (k : Nat) (w : World) (hn : n ≤ 1000000) (h : RowG w a n d) (hno : a = none → cap = 0) :
    Calls Tryz.prog 72 #[.slice a n cap, .int .i64 (k : Nat)] w fun e w' => ∃ v, e = .returned v ∧ w'.ownsRow w.heap.size 37 8 v n (flG (clrL d k)) ∧ Below w.heap.size w w' := by
  have hd := h.1
  have C := Lib.hid (Clone_any a n cap d w hn h hno)
  clear h hno
  by_cases hlt : k < n
  · have d1 : decide ((k : Int) < (n : Int)) = true := decide_eq_true (by omega)
    have i1 : (0 : Int) ≤ (k : Int) := by omega
    have i2 : (k : Int) < (n : Int) := by omega
    go_enter Tryz.func72, Tryz.ntmps72
    go_wp2_with fail
    refine C.out.mono ?_
    rintro e w1 ⟨v, rfl, h1, h2⟩
    obtain ⟨av, cv, hv, _⟩ := ok_shape h1
    subst hv
    obtain ⟨g, cur, rfl, hBg, hg, hcs, hcur⟩ : ∃ g cur, av = some ⟨g, 0, none⟩ ∧ w.heap.size ≤ g ∧ Blk w1 g 37 cur ∧ cur.length = cv * 8 ∧ cur.take (n * 8) = flG d := by
      rcases h1.2 with ⟨_, h0⟩ | ⟨g, c', cur, hv, hb, hh, hc1, hc2, hc3, hc4⟩
      · omega
      · simp only [Value.slice.injEq] at hv
        obtain ⟨rfl, _, rfl⟩ := hv
        exact ⟨g, cur.toList, rfl, hb, hh, by simpa using hc3, hc4⟩
    have HO := Lib.hid h1
    have HG := Lib.hid hg
    have HL := Lib.hid h2
    have Hcs := Lib.hid hcs
    have Hcur := Lib.hid hcur
    clear h1 h2 hg hcs hcur C
    go_wp2_with (with_reducible refine at_store 37 (.tmp 15) (.tmp 14) rfl ?_)
    apply Lib.hid
    have hdl : (flG d).length = n * 8 := by rw [flG_len, hd]
    refine store_at_blk rfl _ _ _ rfl g (k * 8) (encG zero) rfl rfl 37 cur HG.out (by kernel_rfl) (by have := congrArg List.length Hcur.out; rw [hdl, List.length_take] at this; simp [encG]; omega) (by simp [encG, Value.oneCell']) ?_
    intro X hX hoX
    have HX := Lib.hid hX
    have HoX := Lib.hid hoX
    clear hX hoX
    go_wp2_with fail
    go_ret
    refine ⟨_, rfl, ?_, HL.out.trans (HoX.out.below HL.out.size (fun j hj => by omega))⟩
    rcases HO.out.2 with ⟨_, h0⟩ | ⟨g', c', cur', hv, hb, hh, hc1, hc2, hc3, hc4⟩
    · omega
    · simp only [Value.slice.injEq, Option.some.injEq, Addr.mk.injEq, and_true, true_and] at hv
      obtain ⟨rfl, rfl⟩ := hv
      have hcl := Hcs.out
      have hfit : k * 8 + 8 ≤ n * 8 := by omega
      have hnc : n * 8 ≤ cv * 8 := Nat.mul_le_mul_right 8 hc1
      refine ⟨by unfold clrL; rw [flG_len, List.length_set, hd], .inr ⟨g, cv, _, rfl, hb, HX.out, hc1, hc2, ?_, ?_⟩⟩
      · simp [encG, Hcs.out]; omega
      · have hput := flG_put (l := d) (n := k) (g := zero) (by omega)
        unfold clrL
        rw [← hput, ← Hcur.out]
        have e8 : (encG zero).length = 8 := rfl
        rw [e8, List.take_append, List.take_append, List.length_append, List.length_take, e8, List.take_take, List.take_take, List.drop_take, Nat.min_eq_left (by omega : k * 8 ≤ cur.length)]
        have t1 : min (n * 8) (k * 8) = k * 8 := by omega
        have t2 : min (k * 8) (n * 8) = k * 8 := by omega
        rw [t1, t2, List.take_of_length_le (l := encG zero) (by rw [e8]; omega)]
  · have d1 : decide ((k : Int) < (n : Int)) = false := decide_eq_false (by omega)
    go_enter Tryz.func72, Tryz.ntmps72
    go_wp2_with fail
    refine C.out.mono ?_
    rintro e w1 ⟨v, rfl, h1, h2⟩
    obtain ⟨av, cv, hv, _⟩ := ok_shape h1
    subst hv
    have HO := Lib.hid h1
    have HL := Lib.hid h2
    clear h1 h2 C
    go_wp2_with fail
    go_ret
    have e : clrL d k = d := by unfold clrL; exact List.set_eq_of_length_le (by omega)
    rw [e]
    exact ⟨_, rfl, HO.out, HL.out⟩
end Go.Proofs.YtmkponhhinjpkaaGreat.Table
