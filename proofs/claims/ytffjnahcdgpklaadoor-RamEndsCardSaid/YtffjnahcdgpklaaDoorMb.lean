/- The document's memory: New, place, Read, Write. -/
import Derived.Test.YtffjnahcdgpklaaDoorMa
import Derived.Test.YtffjnahcdgpklaaDoorOw
import Derived.Test.YtffjnahcdgpklaaDoorGr
namespace Go.Proofs.YtffjnahcdgpklaaDoor.Ram
open Go.RowKit Go.Maps Go.ChangeShapes Go.WideShapes Go.ChangeAt Fifo Orow Word
set_option linter.unusedVariables false

/-- The document's memory in block r, its bytes in block g. -/
structure RefS (w : World) (r g : Nat) (bs : List Int) : Prop where
  head : Blk w r 38 [.slice (some ⟨g, 0, none⟩) bs.length bs.length]
  row : Blk w g 5 (bv bs)
  ne : r ≠ g
theorem RefS.only {S : Nat → Prop} {w w' : World} {r g : Nat} {bs : List Int} (h : RefS w r g bs) (ho : Only S w w') (hr : ¬ S r) (hg : ¬ S g) : RefS w' r g bs := ⟨h.head.only ho hr, h.row.only ho hg, h.ne⟩
theorem RefS.keep {w w' : World} {r g : Nat} {bs : List Int} (h : RefS w r g bs) (hb : Below w.heap.size w w') : RefS w' r g bs := ⟨h.head.keep hb, h.row.keep hb, h.ne⟩
theorem only_drew2 {S : Nat → Prop} {w w' : World} (h : Only S w w') : Only S w w'.drew := ⟨h.os, h.tape, h.output, h.size, h.block⟩
theorem bv_get (bs : List Int) {i : Nat} (h : i < bs.length) : (bv bs)[i]? = some (.int .u8 (bs.getD i 0)) := by
  simp [bv, List.getD_eq_getElem?_getD, List.getElem?_eq_getElem h]
theorem bv_len (bs : List Int) : (bv bs).length = bs.length := by simp [bv]
theorem bv_set (bs : List Int) (i : Nat) (x : Int) : (bv bs).set i (.int .u8 x) = bv (bs.set i x) := by simp [bv, List.map_set]
theorem RefS.cell {w : World} {r g : Nat} {bs : List Int} (h : RefS w r g bs) (i : Nat) (hi : i < bs.length) : w.cell? ⟨g, i, none⟩ = some (.int .u8 (bs.getD i 0)) := h.row.at i (bv_get bs hi)

theorem place_any (r g : Nat) (bs : List Int) (off size : Int) (b : Bool) (w : World) (h : RefS w r g bs) (hb : placeB bs.length off size = b) :
    Calls Tryd.prog 32 #[.pointer (some ⟨r, 0, none⟩), .int .i64 off, .int .i64 size] w fun e w' => e = .returned (.bool b) ∧ w = w' := by
  have c0 := h.head.at 0 rfl
  obtain ⟨n, hn⟩ : ∃ n, bs.length = n := ⟨_, rfl⟩
  rw [hn] at c0 hb
  clear h hn
  by_cases hs : sizeB size = true
  · by_cases h0 : 0 ≤ off
    · by_cases h1 : off < (n : Int)
      · have d0 : decide (0 ≤ off) = true := decide_eq_true h0
        have d1 : decide (off < (n : Int)) = true := decide_eq_true h1
        have hz : ¬ size = 0 := by intro e; subst e; simp [sizeB] at hs
        have hz' : (size == 0) = false := by simpa using hz
        have hr : b = (off % size == 0) := by
          rw [← hb]
          unfold placeB
          rw [hs, Bool.true_and, Bool.eq_iff_iff]
          simp only [decide_eq_true_eq, beq_iff_eq]
          omega
        have ht : IntKind.i64.wrap (Int.tmod off size) = Int.tmod off size := by
          rw [Int.tmod_eq_emod_of_nonneg h0]
          have hs2 : size = 1 ∨ size = 2 ∨ size = 4 := by unfold sizeB at hs; simpa using hs
          exact IntWalk.i64_in _ (by rcases hs2 with rfl | rfl | rfl <;> omega)
        subst hr
        clear hb
        go_enter Tryd.func32, Tryd.ntmps32
        go_wp2_with (go_at_call 43; refine (rsize_any _ _).mono ?_; rintro e w' ⟨rfl, rfl⟩)
        go_ret
        exact ⟨rfl, rfl⟩
      · have d0 : decide (0 ≤ off) = true := decide_eq_true h0
        have d1 : decide (off < (n : Int)) = false := decide_eq_false h1
        have hr : b = false := by rw [← hb]; unfold placeB; rw [hs, Bool.true_and]; exact decide_eq_false (fun e => h1 e.2.1)
        subst hr
        clear hb
        go_enter Tryd.func32, Tryd.ntmps32
        go_wp2_with (go_at_call 43; refine (rsize_any _ _).mono ?_; rintro e w' ⟨rfl, rfl⟩)
        go_ret
        exact ⟨rfl, rfl⟩
    · have d0 : decide (0 ≤ off) = false := decide_eq_false h0
      have hr : b = false := by rw [← hb]; unfold placeB; rw [hs, Bool.true_and]; exact decide_eq_false (fun e => h0 e.1)
      subst hr
      clear hb
      go_enter Tryd.func32, Tryd.ntmps32
      go_wp2_with (go_at_call 43; refine (rsize_any _ _).mono ?_; rintro e w' ⟨rfl, rfl⟩)
      go_ret
      exact ⟨rfl, rfl⟩
  · have hs : sizeB size = false := by simpa using hs
    have hr : b = false := by rw [← hb]; unfold placeB; rw [hs]; rfl
    subst hr
    clear hb
    go_enter Tryd.func32, Tryd.ntmps32
    go_wp2_with (go_at_call 43; refine (rsize_any _ _).mono ?_; rintro e w' ⟨rfl, rfl⟩)
    go_ret
    exact ⟨rfl, rfl⟩
theorem rof_at (g o m cap : Nat) (bs : List Int) (w : World) (hm : m = 1 ∨ m = 2 ∨ m = 4) (ho : o + m ≤ bs.length) (hok : ∀ i, 0 ≤ bs.getD i 0 ∧ bs.getD i 0 < 256) (h : ∀ i, i < bs.length → w.cell? ⟨g, i, none⟩ = some (.int .u8 (bs.getD i 0))) :
    Calls Tryd.prog 39 #[.slice (some ⟨g, o, none⟩) m cap] w fun e w' => e = .returned (.tuple #[.int .u32 (ofV m (bs.drop o)), .bool true]) ∧ w = w' := by
  unfold ofV
  rcases hm with rfl | rfl | rfl
  · rw [if_pos rfl, drop_get]
    exact rof_1 g o cap _ w (h o (by omega)) (hok _).1 (hok _).2
  · rw [if_neg (by decide), if_pos rfl, drop_get, drop_get]
    exact rof_2 g o cap _ _ w (h o (by omega)) (hok _).1 (hok _).2 (h (o + 1) (by omega)) (hok _).1 (hok _).2
  · rw [if_neg (by decide), if_neg (by decide), if_pos rfl, drop_get, drop_get, drop_get, drop_get]
    exact rof_4 g o cap _ _ _ _ w (h o (by omega)) (hok _).1 (hok _).2 (h (o + 1) (by omega)) (hok _).1 (hok _).2 (h (o + 2) (by omega)) (hok _).1 (hok _).2 (h (o + 3) (by omega)) (hok _).1 (hok _).2
theorem rRead_any (r g : Nat) (bs : List Int) (off size : Int) (v : Int) (b : Bool) (w : World) (hk : OkM bs) (h : RefS w r g bs) (hv : readV bs off size = v) (hb : placeB bs.length off size = b) :
    Calls Tryd.prog 25 #[.pointer (some ⟨r, 0, none⟩), .int .i64 off, .int .i64 size] w fun e w' => e = .returned (.tuple #[.int .u32 v, .bool b]) ∧ w = w' := by
  have HP := Lib.hid (place_any r g bs off size b w h hb)
  cases b with
  | false =>
    rw [read_no hb] at hv
    subst hv
    clear hb h
    go_enter Tryd.func25, Tryd.ntmps25
    go_wp2_with fail
    refine HP.out.mono ?_
    rintro e w1 ⟨rfl, rfl⟩
    go_wp2_with fail
    go_ret2
    exact ⟨rfl, rfl⟩
  | true =>
    obtain ⟨o, m, rfl, rfl, hm, hd, hle⟩ := place_parts hb hk.four
    rw [read_at hb] at hv
    subst hv
    have HO := Lib.hid (fun cap => rof_at g o m cap bs w hm hle hk.byte h.cell)
    have c0 := h.head.at 0 rfl
    have hhi := hk.hi
    obtain ⟨n, hn⟩ : ∃ n, bs.length = n := ⟨_, rfl⟩
    rw [hn] at c0 hle hhi
    obtain ⟨z, hz⟩ : ∃ z, ofV m (bs.drop o) = z := ⟨_, rfl⟩
    rw [hz] at HO
    rw [hz]
    have i1 : (0 : Int) ≤ (o : Int) := by omega
    have i2 : (o : Int) ≤ (o : Int) + (m : Int) := by omega
    have i3 : (o : Int) + (m : Int) ≤ (n : Int) := by omega
    have wq : IntKind.i64.wrap ((o : Int) + (m : Int)) = (o : Int) + (m : Int) := IntWalk.i64_in _ (by rcases hm with rfl | rfl | rfl <;> omega)
    have e1 : ((o : Int) + (m : Int)).toNat - (o : Int).toNat = m := by omega
    have e2 : ((o : Int) + (m : Int)).toNat = o + m := by omega
    clear hb h hn hz hk
    go_enter Tryd.func25, Tryd.ntmps25
    go_wp2_with fail
    refine HP.out.mono ?_
    rintro e w1 ⟨rfl, rfl⟩
    go_wp2_with fail
    refine (HO.out _).mono ?_
    rintro e w1 ⟨rfl, rfl⟩
    go_wp2_with fail
    go_ret2
    exact ⟨rfl, rfl⟩
set_option maxHeartbeats 1000000 in
theorem rWrite_any (r g : Nat) (bs : List Int) (off size v : Int) (b : Bool) (w : World) (hv : 0 ≤ v) (hv' : v < 4294967296) (hk : OkM bs) (h : RefS w r g bs) (hb : placeB bs.length off size = b) :
    Calls Tryd.prog 15 #[.pointer (some ⟨r, 0, none⟩), .int .i64 off, .int .i64 size, .int .u32 v] w fun e w' => e = .returned (.bool b) ∧ RefS w' r g (writeV bs off size v.toNat) ∧ Only (fun j => j = g) w w' := by
  obtain ⟨x, rfl⟩ : ∃ x : Nat, v = (x : Int) := ⟨v.toNat, by omega⟩
  rw [Int.toNat_natCast]
  have hx : x < 4294967296 := by omega
  have HP := Lib.hid (place_any r g bs off size b w h hb)
  cases b with
  | false =>
    have Hw := Lib.hid (write_no (x := x) hb)
    have Hh := Lib.hid h
    clear hb h
    go_enter Tryd.func15, Tryd.ntmps15
    go_wp2_with fail
    refine HP.out.mono ?_
    rintro e w1 ⟨rfl, rfl⟩
    go_wp2_with fail
    go_ret
    exact ⟨rfl, by rw [Hw.out]; exact Hh.out, Only.refl _ _⟩
  | true =>
    obtain ⟨o, m, rfl, rfl, hm, hd, hle⟩ := place_parts hb hk.four
    have Hw := Lib.hid (write_at (x := x) hb)
    have HB := Lib.hid (rbytes_any x m hx (by rcases hm with rfl | rfl | rfl <;> rfl) (by omega) w)
    have hhi := hk.hi
    have Hh := Lib.hid h
    have m4 : m ≤ 4 := by omega
    clear hb h hk hm hd
    go_enter Tryd.func15, Tryd.ntmps15
    go_wp2_with fail
    refine HP.out.mono ?_
    rintro e w1 ⟨rfl, rfl⟩
    go_wp2_with fail
    refine HB.out.mono ?_
    rintro e w1 ⟨a, c, rfl, hown, hb1⟩
    have Ho := Lib.hid hown
    have B1 := Lib.hid hb1
    have R1 := Lib.hid (Hh.out.keep hb1)
    have Hg := Lib.hid (Hh.out.row.lt)
    clear hown hb1 HP HB
    go_wp2_with fail
    go_loopw [10] (fun i wr => ∃ k : Nat, k ≤ m ∧ i = .int .i64 k ∧ RefS wr r g (putL bs o k x) ∧ wr.ownsRow w.heap.size 5 1 (.slice a m c) m (bv (bK x m)) ∧ Only (fun j => j = g) w wr) (fun i _ => m - (intOf i).toNat)
    case atStart => exact ⟨0, Nat.zero_le _, rfl, by rw [putL_zero]; exact R1.out, Ho.out, Only.of_below B1.out⟩
    case round =>
    clear R1 Ho B1
    obtain ⟨k, hk, rfl, hR, hO, hon⟩ := hrel
    have HR := Lib.hid hR
    have HO := Lib.hid hO
    have HN := Lib.hid hon
    clear hR hO hon
    by_cases hlt : k < m
    · have d1 : decide ((k : Int) < (m : Int)) = true := decide_eq_true (by omega)
      obtain ⟨gl, cl, e1⟩ := own_pos HO.out (by omega)
      simp only [Value.slice.injEq] at e1
      obtain ⟨rfl, _, rfl⟩ := e1
      have s0 := bK_at HO.out k hlt
      have c0 := HR.out.head.at 0 rfl
      have q0 := HR.out.cell (o + k) (by rw [putL_length]; omega)
      have f0 := HR.out.row.frozen (o + k)
      rw [putL_length] at c0
      obtain ⟨n, hn⟩ : ∃ n, bs.length = n := ⟨_, rfl⟩
      rw [hn] at c0 hle hhi
      obtain ⟨y, hy⟩ : ∃ y, (putL bs o k x).getD (o + k) 0 = y := ⟨_, rfl⟩
      rw [hy] at q0
      have Hn := Lib.hid hn
      have i1 : (0 : Int) ≤ (k : Int) := by omega
      have i2 : (k : Int) < (m : Int) := by omega
      have i3 : (0 : Int) ≤ (o : Int) + (k : Int) := by omega
      have i4 : (o : Int) + (k : Int) < (n : Int) := by omega
      have wq : IntKind.i64.wrap ((o : Int) + (k : Int)) = (o : Int) + (k : Int) := IntWalk.i64_in _ (by omega)
      have e2 : ((o : Int) + (k : Int)).toNat = o + k := by omega
      clear hy hn
      go_wp2_with fail
      go_region
      have hs := HR.out.row.set (o + k) (.int .u8 ((x / 256 ^ k % 256 : Nat) : Int))
      rw [bv_set, putL_step _ _ _ _ (by rw [Hn.out]; omega)] at hs
      have hp := (HR.out.head.other (p := ⟨g, o + k, none⟩) HR.out.ne (.int .u8 ((x / 256 ^ k % 256 : Nat) : Int)))
      go_wp2_with fail
      refine ⟨⟨k + 1, by omega, by go_num, ⟨?_, ?_, HR.out.ne⟩, ?_, ?_⟩, by simp [intOf]; omega⟩
      · simp only [putL_length] at hp ⊢
        exact hp
      · exact hs
      · refine own_only HO.out (only_drew2 ((Only.refl (fun j => j = g) wr).setCell (p := ⟨g, o + k, none⟩) rfl _)) (fun j hj e => ?_)
        have h1 := (own_lt HO.out j hj).1
        have h2 := Hg.out
        omega
      · exact only_drew2 (HN.out.setCell (p := ⟨g, o + k, none⟩) rfl _)
    · obtain rfl : k = m := by omega
      have d1 : decide ((k : Int) < (k : Int)) = false := decide_eq_false (by omega)
      go_wp2_with fail
      go_ret
      exact ⟨rfl, by rw [Hw.out]; exact HR.out, HN.out⟩
theorem info_b : (Tryd.prog.info? 5).map (fun i => (i.zero, i.size, i.bytes)) = some (some (.int .u8 0), 1, 1) := by kernel_rfl
theorem made_b (n : Nat) : (madeCells #[Value.int .u8 0] n).toList = bv (zerosB n) := by
  apply List.ext_getElem
  · simp [madeCells, bv, zerosB]
  · intro i h1 h2
    simp [madeCells, bv, zerosB, Nat.mod_one]
theorem own_full {w : World} {g n : Nat} {L : List Value} (h : w.ownsRow g 5 1 (.slice (some ⟨g, 0, none⟩) n n) n L) (hl : L.length = n) : Blk w g 5 L := by
  obtain ⟨cur, u1, u2, u3, u4, u5, u6⟩ := own_blk h
  have e : cur = L := by
    rw [← u2]
    exact (List.take_of_length_le (by omega)).symm
  rw [← e]
  exact u1
theorem rNew_no (n : Int) (w : World) (h : sizeM n = false) :
    Calls Tryd.prog 9 #[.int .i64 n] w fun e w' => e = .returned (.tuple #[.pointer none, .bool false]) ∧ w = w' := by
  by_cases h1 : n < 4
  · have d1 : decide (n < 4) = true := decide_eq_true h1
    go_enter Tryd.func9, Tryd.ntmps9
    go_wp2_with fail
    go_ret2
    exact ⟨rfl, rfl⟩
  · have d1 : decide (n < 4) = false := decide_eq_false h1
    by_cases h2 : 4096 < n
    · have d2 : decide (4096 < n) = true := decide_eq_true h2
      go_enter Tryd.func9, Tryd.ntmps9
      go_wp2_with fail
      go_ret2
      exact ⟨rfl, rfl⟩
    · have d2 : decide (4096 < n) = false := decide_eq_false h2
      have h3 : ¬ n % 4 = 0 := by
        unfold sizeM at h
        have := of_decide_eq_false h
        omega
      have d3 : (n % 4 != 0) = true := by simpa using h3
      have hn : 0 ≤ n := by omega
      obtain ⟨m, rfl⟩ : ∃ m : Nat, n = m := ⟨n.toNat, by omega⟩
      clear h h1 h2 h3 hn
      go_enter Tryd.func9, Tryd.ntmps9
      go_wp2_with fail
      go_ret2
      exact ⟨rfl, rfl⟩
set_option maxHeartbeats 1000000 in
theorem rNew_yes (n : Nat) (w : World) (h : sizeM n = true) :
    Calls Tryd.prog 9 #[.int .i64 n] w fun e w' => (∃ r g, e = .returned (.tuple #[.pointer (some ⟨r, 0, none⟩), .bool true]) ∧ RefS w' r g (zerosB n) ∧ w.heap.size ≤ r ∧ w.heap.size ≤ g) ∧ Below w.heap.size w w' := by
  have hp : 4 ≤ (n : Int) ∧ (n : Int) ≤ 4096 ∧ (n : Int) % 4 = 0 := of_decide_eq_true h
  obtain ⟨i0, hi, hz0, hz1, hz2⟩ := info_parts info_b
  have Hi := Lib.hid hi
  have Hz0 := Lib.hid hz0
  have Hz1 := Lib.hid hz1
  have Hz2 := Lib.hid hz2
  have d1 : decide ((n : Int) < 4) = false := decide_eq_false (by omega)
  have d2 : decide (4096 < (n : Int)) = false := decide_eq_false (by omega)
  have d3 : ((n : Int) % 4 != 0) = false := by have := hp.2.2; simpa using this
  have h3 : n ≤ 4096 := by omega
  clear hi hz0 hz1 hz2 h hp
  go_enter Tryd.func9, Tryd.ntmps9
  go_wp2_with (at_make; refine wpList_make_full w rfl _ _ 36 rfl w.heap.size 5 i0 (.int .u8 0) 1 Tryd.underlying36 Hi.out Hz0.out Hz1.out .i64 .i64 n n n rfl rfl rfl rfl (by rw [Hz2.out]; omega) (by unfold maxLen; omega) (Nat.le_refl _) ?_; intro wm hown hgrow)
  have hl : (madeCells (Value.int .u8 0).cells (n * 1)).toList = bv (zerosB n) := by rw [Nat.mul_one]; exact made_b n
  rw [hl] at hown
  have hB := own_full hown (by rw [bv_len, zeros_length])
  have hb := (Below.refl w.heap.size w).grown hgrow (Nat.le_refl _) (fun k h => by cases h)
  have hlt := hB.lt
  go_ret2
  refine ⟨⟨wm.heap.size, w.heap.size, rfl, ⟨?_, hB.alloc _, by omega⟩, hb.size, Nat.le_refl _⟩, hb.alloc hb.size _⟩
  rw [zeros_length]
  exact Blk.new wm _ [_]
end Go.Proofs.YtffjnahcdgpklaaDoor.Ram
