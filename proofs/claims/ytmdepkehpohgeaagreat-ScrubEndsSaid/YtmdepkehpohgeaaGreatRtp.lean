/- Apart of many: put in order in new memory, neighbours asked. -/
import Derived.Test.YtmdepkehpohgeaaGreatShA
import Derived.Test.YtmdepkehpohgeaaGreatRn
namespace Go.Proofs.YtmdepkehpohgeaaGreat.Reach
open Go.RowKit Go.Maps Go.ChangeShapes Go.WideShapes Go.ChangeAt Go.Shelf Go.Lib Go.Sort
set_option linter.unusedVariables false

def encS (x : Int × Int) : List Value := [.int .u32 x.1, .int .u32 x.2]
def cfS (x y : Int × Int) : Int := ordV x.1 x.2 y.1 y.2
theorem lt_cfS (x y : Int × Int) : ltOf cfS x y = lessP x y := ordV_less x.1 x.2 y.1 y.2
theorem swoS : SWO (ltOf cfS) where
  irrefl x := by rw [lt_cfS]; unfold lessP; exact decide_eq_false (by omega)
  trans x y z h1 h2 := by rw [lt_cfS] at *; unfold lessP at *; simp at *; omega
  ntrans x y z h1 h2 := by rw [lt_cfS] at *; unfold lessP at *; simp at *; omega
theorem cmpS (blk off size : Nat) (w : World) : CmpLays Tryz.prog 100 #[] encS 2 cfS blk off size w :=
  fun _ _ _ _ x y => order_any x.1 x.2 y.1 y.2 _
theorem predS (w : World) : PredBelow Tryz.prog 98 #[] (fun x => .agg (encS x).toArray) (fun x => !rightP x) w := fun W x hb =>
  (wrong_any x.1 x.2 W).mono fun e w' ⟨he, h⟩ => ⟨he, hb.trans (h.mono hb.size)⟩

theorem fl_get : ∀ (d : List (Int × Int)) (t : Nat), t < d.length * 2 → (fl d)[t]? = some ((encS d[t / 2]!)[t % 2]!)
  | [], t, h => by simp at h
  | x :: d, 0, h => by simp [fl, encS]
  | x :: d, 1, h => by simp [fl, encS]
  | x :: d, t + 2, h => by
    have := fl_get d t (by simp at h; omega)
    rw [show (t + 2) / 2 = t / 2 + 1 by omega, show (t + 2) % 2 = t % 2 by omega]
    simp [fl] at this ⊢
    exact this
theorem holds_of_own {w : World} {g n : Nat} {d : List (Int × Int)} (hd : d.length = n) (h : w.ownsRow g 153 2 (.slice (some ⟨g, 0, none⟩) n n) n (fl d)) : HoldsK encS 2 w g 0 d.toArray := by
  intro j hj
  rw [size_flatK] at hj
  have hj' : j < n * 2 := by simpa [hd] using hj
  rw [get_flatK _ _ _ _ hj, Nat.zero_add]
  refine ⟨?_, h.frozenAt j⟩
  rw [h.cellAt j hj', fl_get d j (by omega)]
  simp
theorem row_of_holds {w : World} {g : Nat} {d : Array (Int × Int)} (h : HoldsK encS 2 w g 0 d) : RowR w (some ⟨g, 0, none⟩) d.size d.toList := by
  refine ⟨by simp, fun j hj => ⟨g, 0, rfl, ?_, ?_⟩⟩
  · have := (h.cell hj (c := 0) (by omega)).1
    simpa [encS, hj] using this
  · have := (h.cell hj (c := 1) (by omega)).1
    simpa [encS, hj] using this
theorem sort_below {B : Nat} {w : World} {blk n : Nat} {d : Array (Int × Int)} {os : Array Obj} (hB : B ≤ blk) (hlt : blk < w.heap.size) : RowKit.Below B w (sortWorldK encS 2 w blk 0 n d os) := by
  have e : (putRowK encS 2 (Sort.ahead w n) blk 0 d).heap.size = w.heap.size := by
    unfold putRowK putRow mapBlock Sort.ahead; simp
  refine ⟨rfl, rfl, rfl, ?_, fun k hk => ?_⟩
  · unfold sortWorldK; rw [size_grow, e]; omega
  · unfold sortWorldK
    rw [heap_grow_old _ _ (by rw [e]; omega)]
    unfold putRowK putRow mapBlock Sort.ahead
    simp [Array.getElem?_modify]
    omega

theorem own_lt {w : World} {g n : Nat} {L : List Value} (h : w.ownsRow g 153 2 (.slice (some ⟨g, 0, none⟩) n n) n L) : g < w.heap.size := by
  rcases h.2 with ⟨h', _⟩ | ⟨g', cap, cur, h', hb, hg, _⟩
  · simp at h'
  · simp only [Value.slice.injEq, Option.some.injEq, Addr.mk.injEq, and_true, true_and] at h'
    obtain ⟨rfl, rfl⟩ := h'
    exact (Array.getElem?_eq_some_iff.1 hg).1
theorem own_keep {w w' : World} {g n : Nat} {L : List Value} (h : w.ownsRow g 153 2 (.slice (some ⟨g, 0, none⟩) n n) n L) (hb : RowKit.Below w.heap.size w w') : w'.ownsRow g 153 2 (.slice (some ⟨g, 0, none⟩) n n) n L := by
  refine ⟨h.1, ?_⟩
  rcases h.2 with h2 | ⟨g', cap, cur, h', hg, hh, r⟩
  · exact .inl h2
  · exact .inr ⟨g', cap, cur, h', hg, (hb.block g' (Array.getElem?_eq_some_iff.1 hh).1).trans hh, r⟩
theorem contains_any (g n : Nat) (d : List (Int × Int)) (b : Bool) (w : World) (hn : n ≤ 1000000) (hd : d.length = n) (hb : d.any (fun x => !rightP x) = b) (h : w.ownsRow g 153 2 (.slice (some ⟨g, 0, none⟩) n n) n (fl d)) :
    Calls Tryz.prog 97 #[.slice (some ⟨g, 0, none⟩) n n, .func (.func 98) #[] #[]] w fun e w' => e = .returned (.bool b) ∧ RowKit.Below w.heap.size w w' := by
  have eg : ∀ args w, (callFunc 98 args).run Tryz.prog w = .ok (.enter 98 args) w := enters_of Tryz.func98 (by kernel_rfl) rfl
  have hc := AnyQ.slices_ContainsFunc Tryz.containsSpan 2 Tryz.isAgg153 Tryz.sizeOf153 encS (fun _ => rfl) (fun x => !rightP x) 98 #[] eg g 0 n n d w (predS w) (by omega) (by omega) (own_lt h) (fun j hj i v hi => by
    have h0 := h.cellAt (j * 2 + i) (by
      match i, hi with
      | 0, _ => omega
      | 1, _ => omega
      | i + 2, hi => simp [encS] at hi)
    rw [Nat.zero_add, h0, fl_get d _ (by
      match i, hi with
      | 0, _ => omega
      | 1, _ => omega
      | i + 2, hi => simp [encS] at hi)]
    match i, hi with
    | 0, hi => simp [encS] at hi ⊢; exact hi
    | 1, hi => simp [encS] at hi ⊢; rw [show (j * 2 + 1) / 2 = j by omega]; exact hi
    | i + 2, hi => simp [encS] at hi)
  rw [show d.take n = d from List.take_of_length_le (by omega), hb] at hc
  exact hc
theorem sorted_any (g n : Nat) (d : List (Int × Int)) (w : World) (hn : n ≤ 1000000) (hd : d.length = n) (h : w.ownsRow g 153 2 (.slice (some ⟨g, 0, none⟩) n n) n (fl d)) :
    Calls Tryz.prog 99 #[.slice (some ⟨g, 0, none⟩) n n, .func (.func 100) #[] #[]] w fun e w' => e = .returned (.tuple #[]) ∧ (∃ d' : List (Int × Int), d'.Perm d ∧ (∀ i j, i < j → j < d'.length → lessP d'[j]! d'[i]! = false) ∧ RowR w' (some ⟨g, 0, none⟩) n d') ∧ RowKit.Below g w w' := by
  have eg : ∀ args w, (callFunc 100 args).run Tryz.prog w = .ok (.enter 100 args) w := enters_of Tryz.func100 (by kernel_rfl) rfl
  have hH := holds_of_own hd h
  have hs : d.toArray.size = n := by simpa using hd
  have hc := AnyQ.slices_SortFunc Tryz.sortSpan 2 Tryz.isAgg153 Tryz.sizeOf153 encS (fun _ => rfl) (fun x v hv => by simp [encS] at hv; rcases hv with rfl | rfl <;> rfl) cfS swoS 100 #[] g 0 n d.toArray w eg (cmpS g 0 d.toArray.size w) hH (own_lt h) (by omega)
  rw [hs] at hc
  refine Calls.mono hc ?_
  rintro e w' ⟨rfl, d', m, os, hp, hso, rfl⟩
  have hsz : d'.size = n := by rw [hp.1, hs]
  refine ⟨rfl, ⟨d'.toList, ?_, ?_, ?_⟩, sort_below (Nat.le_refl _) (own_lt h)⟩
  · have := hp.2.2
    rw [show d'.extract 0 n = d' by rw [← hsz]; simp, show d.toArray.extract 0 n = d.toArray by rw [← hs]; simp] at this
    simpa using this
  · intro i j hij hj
    have := hso i j (Nat.zero_le _) hij (by simpa [hsz] using hj)
    rw [lt_cfS] at this
    have e : ∀ q : Nat, d'.toList[q]! = d'[q]! := fun q => by
      by_cases hq : q < d'.size
      · rw [getElem!_pos d' q hq, getElem!_pos d'.toList q (by simpa using hq)]; simp
      · rw [getElem!_neg d' q hq, getElem!_neg d'.toList q (by simpa using hq)]
    rw [e, e]
    exact this
  · have := row_of_holds (holdsK_sortWorldK_c encS 2 w g 0 d.toArray d' m os hH (own_lt h) (by rw [hsz, hs]))
    rw [hsz] at this
    exact this

set_option maxHeartbeats 1000000 in
theorem apart_any (a : Option Addr) (n cap : Nat) (d : List (Int × Int)) (w : World) (hn : n ≤ 1000000) (h : RowR w a n d) :
    Calls Tryz.prog 71 #[.slice a n cap] w fun e w' => e = .returned (.bool (apartB d)) ∧ RowKit.Below w.heap.size w w' := by
  have hd := h.1
  obtain ⟨b, hb⟩ : ∃ b, d.any (fun x => !rightP x) = b := ⟨_, rfl⟩
  have Hh := Lib.hid h
  have Hd := Lib.hid hd
  have HB := Lib.hid hb
  obtain ⟨G, hG⟩ : ∃ G, w.heap.size = G := ⟨_, rfl⟩
  have HG := Lib.hid hG
  clear h hd hb hG
  cases b
  · go_enter Tryz.func71, Tryz.ntmps71
    go_wp2_with fail
    refine (spans_any a n cap d w hn Hh.out).mono ?_
    rw [HG.out]
    rintro e w1 ⟨rfl, ho, hb⟩
    have Ho := Lib.hid ho
    have Hb := Lib.hid hb
    clear ho hb
    go_wp2_with fail
    refine (contains_any G n d false w1 hn Hd.out HB.out Ho.out).mono ?_
    rintro e w2 ⟨rfl, hb⟩
    have Ho2 := Lib.hid (own_keep Ho.out hb)
    have Hb2 := Lib.hid (Hb.out.trans (hb.mono (by have := Hb.out.size; rw [HG.out] at this; exact this)))
    clear hb
    go_wp2_with fail
    refine (sorted_any G n d w2 hn Hd.out Ho2.out).mono ?_
    rintro e w3 ⟨rfl, ⟨d', hp, hs, hr⟩, hb⟩
    have Hp := Lib.hid hp
    have Hs := Lib.hid hs
    have Hr := Lib.hid hr
    have Hb3 := Lib.hid (Hb2.out.trans hb)
    clear hb hp hs hr
    go_wp2_with fail
    refine (neigh_any G n n d' w3 hn Hr.out).mono ?_
    rintro e w4 ⟨rfl, hb⟩
    have Hb4 := Lib.hid (Hb3.out.trans (hb.mono (by have := Hb3.out.size; rw [HG.out] at this; exact this)))
    clear hb
    go_wp2_with fail
    go_ret
    refine ⟨ret_bool ?_, by rw [HG.out]; exact Hb4.out⟩
    have e1 : apartB d = apartB d' := by
      unfold apartB; rw [decide_eq_decide]; exact apartP_perm Hp.out.symm
    rw [e1, apart_sorted ?_ Hs.out]
    intro x hx
    have := HB.out
    rw [List.any_eq_false] at this
    have := this x (Hp.out.mem_iff.1 hx)
    simpa using this
  · go_enter Tryz.func71, Tryz.ntmps71
    go_wp2_with fail
    refine (spans_any a n cap d w hn Hh.out).mono ?_
    rw [HG.out]
    rintro e w1 ⟨rfl, ho, hb⟩
    have Ho := Lib.hid ho
    have Hb := Lib.hid hb
    clear ho hb
    go_wp2_with fail
    refine (contains_any G n d true w1 hn Hd.out HB.out Ho.out).mono ?_
    rintro e w2 ⟨rfl, hb⟩
    have Hb2 := Lib.hid (Hb.out.trans (hb.mono (by have := Hb.out.size; rw [HG.out] at this; exact this)))
    clear hb
    go_wp2_with fail
    go_ret
    refine ⟨ret_bool ?_, by rw [HG.out]; exact Hb2.out⟩
    have := HB.out
    rw [List.any_eq_true] at this
    obtain ⟨x, hx, hr⟩ := this
    obtain ⟨i, hi, rfl⟩ := List.getElem_of_mem hx
    exact (apart_no_right hi (by rw [getElem!_pos d i hi]; simpa using hr)).symm
end Go.Proofs.YtmdepkehpohgeaaGreat.Reach
