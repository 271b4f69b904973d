/- The windows of a row of devices. -/
import Derived.Test.YtmdepkehpohgeaaGreatYc
import Derived.Test.YtmdepkehpohgeaaGreatVc
import Derived.Test.YtmdepkehpohgeaaGreatRtp
namespace Go.Proofs.YtmdepkehpohgeaaGreat.Win
open Go.RowKit Go.Maps Go.ChangeShapes Go.WideShapes Go.ChangeAt Fifo Orow
open Go.Proofs.YtmdepkehpohgeaaGreat.Reach (ret_bool bcell RowR made_two ApartP apartB fl)
set_option linter.unusedVariables false

/-- The windows, as pairs. -/
def wl (l : List Dv) : List (Int × Int) := l.map fun x => (x.F, x.T)
theorem wl_length (l : List Dv) : (wl l).length = l.length := List.length_map ..
theorem wl_get {l : List Dv} {i : Nat} (hi : i < l.length) : (wl l)[i]! = (l[i]!.F, l[i]!.T) := by
  rw [getElem!_pos (wl l) i (by rw [wl_length]; exact hi), getElem!_pos l i hi]
  simp [wl]
theorem apart_row {l : List Dv} (h16 : l.length ≤ 16) (hr : ∀ i, i < l.length → l[i]!.right = true) : apartB (wl l) = rowB l := by
  have hm : ∀ i k, i < l.length → k < l.length → Reach.meetsP (wl l)[i]! (wl l)[k]! = meet l[i]! l[k]! := fun i k hi hk => by
    rw [wl_get hi, wl_get hk]
    unfold Reach.meetsP meet Reach.meetB
    rw [decide_eq_decide]
  cases e : rowB l with
  | true =>
    have hp := rowB_iff.1 e
    refine Reach.apart_yes (fun i hi => ?_) (fun i k hk hi => ?_)
    · rw [wl_length] at hi
      rw [wl_get hi]
      have h1 := dev_parts (hr i hi)
      have h2 := win_on (hr i hi)
      exact decide_eq_true (by simp only; omega)
    · rw [wl_length] at hi
      rw [hm i k hi (by omega)]
      exact (hp.2 i hi).2 k hk
  | false =>
    cases f : apartB (wl l) with
    | false => rfl
    | true =>
      have hp : ApartP (wl l) := of_decide_eq_true f
      rw [← e]
      refine (row_yes h16 (fun i hi => ⟨hr i hi, fun k hk => ?_⟩)).symm
      rw [← hm i k hi (by omega)]
      exact hp.2 i k hk (by rw [wl_length]; exact hi)
theorem info_r : (Tryz.prog.info? 99).map (fun i => (i.zero, i.size, i.bytes)) = some (some (.agg #[.int .u32 0, .int .u32 0]), 2, 8) := by kernel_rfl
/-- An own row of reaches, as what came in. -/
theorem win_row {w : World} {g n : Nat} {d : List (Int × Int)} (hd : d.length = n) (h : w.ownsRow g 99 2 (.slice (some ⟨g, 0, none⟩) n n) n (fl d)) : RowR w (some ⟨g, 0, none⟩) n d := by
  refine ⟨hd, fun j hj => ⟨g, 0, rfl, ?_, ?_⟩⟩
  · rw [Nat.zero_add, h.cellAt (j * 2) (by omega), Reach.fl_get d _ (by omega)]
    simp [Reach.encS]
  · rw [Nat.zero_add, h.cellAt (j * 2 + 1) (by omega), Reach.fl_get d _ (by omega), show (j * 2 + 1) / 2 = j by omega, show (j * 2 + 1) % 2 = 1 by omega]
    simp [Reach.encS]

set_option maxRecDepth 100000 in
set_option maxHeartbeats 4000000 in
theorem windows_any (a : Option Addr) (n cap : Nat) (l : List Dv) (w : World) (hn : n < 140737488355328) (h : RowV w a n l) :
    Calls Tryz.prog 57 #[.slice a n cap] w fun e w' => (e = .returned (.tuple #[.slice none 0 0, .bool false]) ∧ rowB l = false ∨ e = .returned (.tuple #[.slice (some ⟨w.heap.size, 0, none⟩) n n, .bool true]) ∧ rowB l = true ∧ RowR w' (some ⟨w.heap.size, 0, none⟩) n (wl l) ∧ w.heap.size < w'.heap.size) ∧ Below w.heap.size w w' := by
  have Hr := Lib.hid h
  clear h
  by_cases h16 : 16 < n
  · have d1 : decide ((16 : Int) < (n : Int)) = true := decide_eq_true (by omega)
    go_enter Tryz.func57, Tryz.ntmps57
    go_wp2_with fail
    go_ret2
    exact ⟨.inl ⟨rfl, row_no_long (by rw [Hr.out.1]; exact h16)⟩, Below.refl _ _⟩
  have d1 : decide ((16 : Int) < (n : Int)) = false := decide_eq_false (by omega)
  have H16 := Lib.hid h16
  have hn : n ≤ 1000000 := by omega
  obtain ⟨i0, hi, hz0, hz1, hz2⟩ := info_parts info_r
  have Hi := Lib.hid hi
  have Hz0 := Lib.hid hz0
  have Hz1 := Lib.hid hz1
  have Hz2 := Lib.hid hz2
  clear hi hz0 hz1 hz2 h16
  go_enter Tryz.func57, Tryz.ntmps57
  go_wp2_with (at_make; refine wpList_make_full w rfl _ _ 95 rfl w.heap.size 99 i0 (.agg #[.int .u32 0, .int .u32 0]) 2 Tryz.underlying95 Hi.out Hz0.out Hz1.out .i64 .i64 n n n rfl rfl rfl rfl (by rw [Hz2.out]; omega) (by unfold maxLen; omega) (Nat.le_refl _) ?_; intro wm hown hgrow)
  have Hown := Lib.hid hown
  have Hgr := Lib.hid hgrow
  clear hown hgrow d1
  go_loopw [17] (fun i wr => ∃ k : Nat, k ≤ n ∧ i = .int .i64 k ∧ Hid (∀ i, i < k → l[i]!.right = true) ∧ wr.ownsRow w.heap.size 99 2 (.slice (some ⟨w.heap.size, 0, none⟩) n n) n (Reach.part (wl l) n k) ∧ Below w.heap.size w wr) (fun i _ => n - (intOf i).toNat)
  case atStart =>
    refine ⟨0, Nat.zero_le _, rfl, Lib.hid (fun j hj => by omega), ?_, (Below.refl _ _).grown Hgr.out (Nat.le_refl _) (fun k h => by cases h)⟩
    have := Hown.out
    rw [show (Value.agg #[Value.int .u32 0, .int .u32 0]).cells = #[Value.int .u32 0, .int .u32 0] from rfl, made_two] at this
    rw [Reach.part_zero]
    exact this
  case round =>
    obtain ⟨k, hk, rfl, hno, hrow, hb⟩ := hrel
    have Hrow := Lib.hid hrow
    have Hb := Lib.hid hb
    have hsz := hb.size
    clear hrow hb
    by_cases hlt : k < n
    · obtain ⟨b, off, rfl, ce⟩ := Hr.out.2.2 k hlt
      have ce := ce.keep Hb.out
      have hok := Hr.out.2.1 k hlt
      obtain ⟨x, hx⟩ : ∃ x, l[k]! = x := ⟨_, rfl⟩
      rw [hx] at ce hok
      have Hx := Lib.hid hx
      obtain ⟨f, hf⟩ : ∃ f, x.F = f := ⟨_, rfl⟩
      obtain ⟨t, ht⟩ : ∃ t, x.T = t := ⟨_, rfl⟩
      obtain ⟨r, hr⟩ : ∃ r, x.right = r := ⟨_, rfl⟩
      have RX := Lib.hid (fun w => Reach_any x.k x.B x.S x.O x.L f t r w hok.1.1 hok.1.2 hok.2.1.1 hok.2.1.2 hok.2.2.1.1 hok.2.2.1.2 hr (by rw [← hf, ← hr]; rfl) (by rw [← ht, ← hr]; rfl))
      have Hf := Lib.hid hf
      have Ht := Lib.hid ht
      have Hrr := Lib.hid hr
      obtain ⟨xk, xB, xS, xO, xL⟩ := x
      obtain ⟨e0, e1, e2, e3, e4⟩ := ce
      have i1 : (0 : Int) ≤ (k : Int) := by omega
      have i2 : (k : Int) < (n : Int) := by omega
      clear hx hok hf ht hr
      go_wp2_with fail
      refine (RX.out _).mono ?_
      rintro e w2 ⟨rfl, hb2⟩
      have ha := (Below.refl wr.heap.size wr).alloc (Nat.le_refl _) (.cells #[.int .i64 xk, .int .u32 xB, .int .i64 xS, .int .i64 xO, .int .i64 xL] 45)
      have hb3 := ha.trans (hb2.mono ha.size)
      have Hb2 := Lib.hid (Hb.out.trans (hb3.mono hsz))
      have Hrow2 := Lib.hid (own_keep Hrow.out hb3)
      clear hb2 hb3 ha e0 e1 e2 e3 e4 RX
      cases r
      · go_wp2_with fail
        go_ret2
        exact ⟨.inl ⟨rfl, row_no_right (i := k) (by rw [Hr.out.1]; exact hlt) (by rw [Hx.out]; exact Hrr.out)⟩, Hb2.out.alloc Hb2.out.size _⟩
      · have o := Hrow2.out
        have s0 := (o.cellAt (k * 2) (by omega)).trans (Reach.part_get (wl l) n k 0 (by rw [wl_length]; exact Hr.out.1) hlt (by omega))
        have s1 := (o.cellAt (k * 2 + 1) (by omega)).trans (Reach.part_get (wl l) n k 1 (by rw [wl_length]; exact Hr.out.1) hlt (by omega))
        have f0 := o.frozenAt (k * 2)
        have f1 := o.frozenAt (k * 2 + 1)
        have Ho := Lib.hid o
        have hgsz : w.heap.size < w2.heap.size := cell_lt ((Hrow2.out.cellAt (k * 2) (by omega)).trans (Reach.part_get (wl l) n k 0 (by rw [wl_length]; exact Hr.out.1) hlt (by omega)))
        clear o
        go_wp2_with fail
        refine ⟨⟨k + 1, by omega, by go_num, Lib.hid (fun i hi => ?_), ?_, ?_⟩, by simp [intOf]; omega⟩
        · by_cases e : i = k
          · subst e; rw [Hx.out]; exact Hrr.out
          · exact hno.out i (by omega)
        · have p := Reach.part_step (wl l) n k (by rw [wl_length]; exact Hr.out.1) hlt
          rw [wl_get (by rw [Hr.out.1]; exact hlt), Hx.out] at p
          simp only [Hf.out, Ht.out] at p
          rw [← p]
          exact ((Ho.out.stored (k * 2) _).1.stored (k * 2 + 1) _).1.alloc _
        · exact ((Hb2.out.setCell (p := ⟨w.heap.size, k * 2, none⟩) (Nat.le_refl _) _).setCell (p := ⟨w.heap.size, k * 2 + 1, none⟩) (Nat.le_refl _) _).alloc (by simp; omega) _
    · obtain rfl : k = n := by omega
      have HR := Lib.hid (win_row (d := wl l) ((wl_length l).trans Hr.out.1) (by have := Hrow.out; rwa [Reach.part_all (wl l) k (by rw [wl_length]; exact Hr.out.1)] at this))
      have he : apartB (wl l) = rowB l := apart_row (by rw [Hr.out.1]; have := H16.out; omega) (fun i hi => hno.out i (by rw [Hr.out.1] at hi; exact hi))
      have AP := Reach.apart_any (some ⟨w.heap.size, 0, none⟩) k k (wl l) wr hn HR.out
      rw [he] at AP
      have AP := Lib.hid AP
      obtain ⟨rb, hrb⟩ : ∃ rb, rowB l = rb := ⟨_, rfl⟩
      rw [hrb] at AP
      have Hrb := Lib.hid hrb
      clear he hrb
      go_wp2_with fail
      refine AP.out.mono ?_
      rintro e w2 ⟨rfl, hb2⟩
      have Hb2 := Lib.hid (Hb.out.trans (hb2.mono hsz))
      have HR2 := Lib.hid (HR.out.keep hb2)
      have hlt2 : w.heap.size < w2.heap.size := Nat.lt_of_lt_of_le ((own_lt Hrow.out) _ (ba_self _ _)).2 hb2.size
      clear hb2
      cases rb
      · go_wp2_with fail
        go_ret2
        exact ⟨.inl ⟨rfl, Hrb.out⟩, Hb2.out⟩
      · go_wp2_with fail
        go_ret2
        exact ⟨.inr ⟨rfl, Hrb.out, HR2.out, hlt2⟩, Hb2.out⟩
end Go.Proofs.YtmdepkehpohgeaaGreat.Win
