/- SortedFunc over a world's regions. -/
import Derived.Test.YtmkponhhinjpkaaGreatTg
import Derived.Test.YtmkponhhinjpkaaGreatTn
namespace Go.Proofs.YtmkponhhinjpkaaGreat.Table
open Go.RowKit Fifo Go.Maps Go.ChangeShapes Go.WideShapes Go.ChangeAt
set_option linter.unusedVariables false

theorem Collect_any (lb wb : Nat) (a : Option Addr) (n cap : Nat) (d : List Rg) (world : Int) (w : World) (hn : n ≤ 1000000) (hl : Blk w lb 54 [.slice a n cap]) (hw : Blk w wb 3 [.int .i64 world]) (hr : RowG w a n d) :
    Calls Tryz.prog 43 #[.func (.func 45) #[] #[.pointer (some ⟨lb, 0, none⟩), .pointer (some ⟨wb, 0, none⟩)]] w fun e w' =>
      ∃ v, e = .returned v ∧ w'.ownsRow w.heap.size 51 9 v (nums d world).length (flN (nums d world)) ∧ Below w.heap.size w w' := by
  have A := Lib.hid (append_any lb wb a n cap d world w hn hl hw hr)
  clear hl hw hr
  go_enter Tryz.func43, Tryz.ntmps43
  go_wp2_with fail
  refine A.out.mono ?_
  rintro e w1 ⟨v, rfl, h1, h2⟩
  have H1 := Lib.hid h1
  have H2 := Lib.hid h2
  clear h1 h2
  go_wp2_with fail
  go_ret
  exact ⟨v, rfl, H1.out, H2.out⟩
/-- What is told in order. -/
def InOrder (d : List Rg) (world : Int) (d' : List (Rg × Nat)) : Prop := d'.Perm (nums d world) ∧ ∀ i j, i < j → j < d'.length → ¬ ahead d'[j]! d'[i]!
set_option maxHeartbeats 1000000 in
theorem Sorted_any (lb wb : Nat) (a : Option Addr) (n cap : Nat) (d : List Rg) (world : Int) (w : World) (hn : n ≤ 1000000) (hl : Blk w lb 54 [.slice a n cap]) (hw : Blk w wb 3 [.int .i64 world]) (hr : RowG w a n d) :
    Calls Tryz.prog 21 #[.func (.func 45) #[] #[.pointer (some ⟨lb, 0, none⟩), .pointer (some ⟨wb, 0, none⟩)], .func (.func 24) #[] #[]] w fun e w' =>
      ∃ av cv d', e = .returned (.slice av (nums d world).length cv) ∧ InOrder d world d' ∧ RowN w' av (nums d world).length d' ∧ Below w.heap.size w w' := by
  have A := Lib.hid (Collect_any lb wb a n cap d world w hn hl hw hr)
  have hlen : (nums d world).length ≤ 1000000 := Nat.le_trans (nums_length d world) (by rw [hr.1]; exact hn)
  obtain ⟨l, hll⟩ : ∃ l, nums d world = l := ⟨_, rfl⟩
  unfold InOrder
  rw [hll] at A hlen ⊢
  obtain ⟨m, hm⟩ : ∃ m, l.length = m := ⟨_, rfl⟩
  rw [hm] at A hlen ⊢
  have Hm := Lib.hid hm
  have Hlen := Lib.hid hlen
  clear hl hw hr hll hm hlen
  go_enter Tryz.func21, Tryz.ntmps21
  go_wp2_with fail
  refine A.out.mono ?_
  rintro e w1 ⟨v, rfl, h1, h2⟩
  have H1 := Lib.hid h1
  have H2 := Lib.hid h2
  obtain ⟨av, cv, hv, _⟩ := ok_shape h1
  subst hv
  clear h1 h2 A
  go_wp2_with fail
  by_cases h0 : m = 0
  · subst h0
    refine (sort_none av cv _ _).mono ?_
    rintro e w2 ⟨rfl, rfl⟩
    go_wp2_with fail
    go_ret
    refine ⟨_, _, [], rfl, ⟨?_, fun i j hij hj => by simp at hj⟩, ⟨rfl, fun j hj => by omega⟩, H2.out⟩
    rw [List.length_eq_zero_iff.1 Hm.out]
  · obtain ⟨g, rfl, hBg, hg⟩ : ∃ g, av = some ⟨g, 0, none⟩ ∧ w.heap.size ≤ g ∧ g < w1.heap.size := by
      rcases H1.out.2 with ⟨h, h'⟩ | ⟨g, c, cur, h, hb, hh, _⟩
      · exact absurd h' h0
      · simp only [Value.slice.injEq] at h
        exact ⟨g, h.1, hb, (Array.getElem?_eq_some_iff.1 hh).1⟩
    refine (sort_row w.heap.size g m cv l _ Hlen.out Hm.out hBg hg H1.out).mono ?_
    rintro e w2 ⟨rfl, ⟨d', hp, hs, hr⟩, hb⟩
    have Hp := Lib.hid hp
    have Hs := Lib.hid hs
    have Hr := Lib.hid hr
    have Hb := Lib.hid hb
    clear hp hs hr hb
    go_wp2_with fail
    go_ret
    exact ⟨_, _, d', rfl, ⟨Hp.out, Hs.out⟩, Hr.out, H2.out.trans Hb.out⟩
end Go.Proofs.YtmkponhhinjpkaaGreat.Table
