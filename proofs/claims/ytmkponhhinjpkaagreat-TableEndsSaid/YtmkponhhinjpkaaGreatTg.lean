/- A world's regions collected and put in order: the map, numbered. -/
import Derived.Test.YtmkponhhinjpkaaGreatTf
import Derived.Shelf.SlSortCmp.WholeK
namespace Go.Proofs.YtmkponhhinjpkaaGreat.Table
open Go.RowKit Fifo Go.Maps Go.ChangeShapes Go.WideShapes Go.ChangeAt Go.Shelf Go.Lib Go.Sort
open Go.Proofs.YtmkponhhinjpkaaGreat.Reach (Grew)
set_option linter.unusedVariables false

theorem ltN (x y : Rg × Nat) : ltOf cfN x y = decide (ahead x y) := cf_ahead x y
theorem swoN : SWO (ltOf cfN) where
  irrefl x := by rw [ltN]; unfold ahead; exact decide_eq_false (by omega)
  trans x y z h1 h2 := by rw [ltN, decide_eq_true_eq] at *; unfold ahead at *; omega
  ntrans x y z h1 h2 := by rw [ltN, decide_eq_false_iff_not] at *; unfold ahead at *; omega
theorem cmpN (blk off size : Nat) (w : World) : CmpLays Tryz.prog 24 #[] encN 9 cfN blk off size w :=
  fun _ _ _ _ x y => order_any x.1.o x.1.W x.1.F x.1.T x.1.rd x.1.wr x.1.K x.1.lk (x.2 : Nat) y.1.o y.1.W y.1.F y.1.T y.1.rd y.1.wr y.1.K y.1.lk (y.2 : Nat) _

theorem flN_get : ∀ (d : List (Rg × Nat)) (t : Nat), t < d.length * 9 → (flN d)[t]? = some ((encN (d[t / 9]!))[t % 9]!)
  | [], t, h => by simp at h
  | x :: d, t, h => by
    by_cases h9 : t < 9
    · rw [show t / 9 = 0 by omega, show t % 9 = t by omega]
      show (encN x ++ flN d)[t]? = _
      rw [List.getElem?_append_left (by simpa [encN] using h9)]
      show (encN x)[t]? = some ((encN x)[t]!)
      rw [getElem!_pos (encN x) t (by simpa [encN] using h9), List.getElem?_eq_getElem]
    · have := flN_get d (t - 9) (by simp at h; omega)
      show (encN x ++ flN d)[t]? = _
      rw [List.getElem?_append_right (by simp [encN]; omega), show (encN x).length = 9 from rfl, this]
      rw [show t / 9 = (t - 9) / 9 + 1 by omega, show t % 9 = (t - 9) % 9 by omega]
      simp
theorem holds_of_own {w : World} {B g n cap : Nat} {d : List (Rg × Nat)} (hd : d.length = n) (h : w.ownsRow B 51 9 (.slice (some ⟨g, 0, none⟩) n cap) n (flN d)) : HoldsK encN 9 w g 0 d.toArray := by
  intro j hj
  rw [size_flatK] at hj
  have hj' : j < n * 9 := by simpa [hd] using hj
  rw [get_flatK _ _ _ _ hj, Nat.zero_add]
  refine ⟨?_, h.frozenAt j⟩
  rw [h.cellAt j hj', flN_get d j (by omega)]
  simp
/-- A numbered region that lies from a cell of a block on. -/
structure At9 (w : World) (b p : Nat) (x : Rg × Nat) : Prop where
  at8 : At8 w b p x.1
  c8 : w.cell? ⟨b, p + 8, none⟩ = some (.int .i64 (x.2 : Nat))
theorem At9.keep {w w' : World} {b p : Nat} {x : Rg × Nat} (h : At9 w b p x) (hb : Below w.heap.size w w') : At9 w' b p x := ⟨h.at8.keep hb, cell_keep hb h.c8⟩
/-- A slice of numbered regions, to be read. -/
def RowN (w : World) (a : Option Addr) (n : Nat) (d : List (Rg × Nat)) : Prop :=
  d.length = n ∧ ∀ j, j < n → ∃ b, a = some ⟨b, 0, none⟩ ∧ At9 w b (j * 9) d[j]!
theorem RowN.keep {w w' : World} {a : Option Addr} {n : Nat} {d : List (Rg × Nat)} (h : RowN w a n d) (hb : Below w.heap.size w w') : RowN w' a n d :=
  ⟨h.1, fun j hj => by
    obtain ⟨b, ha, h1⟩ := h.2 j hj
    exact ⟨b, ha, h1.keep hb⟩⟩
theorem row_of_holds {w : World} {g : Nat} {d : Array (Rg × Nat)} (h : HoldsK encN 9 w g 0 d) : RowN w (some ⟨g, 0, none⟩) d.size d.toList := by
  refine ⟨by simp, fun j hj => ⟨g, rfl, ?_⟩⟩
  have c : ∀ c (hc : c < 9), w.cell? ⟨g, 0 + j * 9 + c, none⟩ = some ((encN d[j]!)[c]!) := fun c hc => by
    have := (h.cell hj (c := c) hc).1
    simpa using this
  have e : d.toList[j]! = d[j]! := by rw [getElem!_pos d j hj, getElem!_pos d.toList j (by simpa using hj)]; simp
  rw [e]
  refine ⟨⟨?_, ?_, ?_, ?_, ?_, ?_, ?_, ?_⟩, ?_⟩
  · have := c 0 (by omega); simpa [encN] using this
  · have := c 1 (by omega); simpa [encN] using this
  · have := c 2 (by omega); simpa [encN] using this
  · have := c 3 (by omega); simpa [encN] using this
  · have := c 4 (by omega); simpa [encN] using this
  · have := c 5 (by omega); simpa [encN] using this
  · have := c 6 (by omega); simpa [encN] using this
  · have := c 7 (by omega); simpa [encN] using this
  · have := c 8 (by omega); simpa [encN] using this
theorem sort_below {B : Nat} {w : World} {blk n : Nat} {d : Array (Rg × Nat)} {os : Array Obj} (hB : B ≤ blk) (hlt : blk < w.heap.size) : RowKit.Below B w (sortWorldK encN 9 w blk 0 n d os) := by
  have e : (putRowK encN 9 (Sort.ahead w n) blk 0 d).heap.size = w.heap.size := by
    unfold putRowK putRow mapBlock Sort.ahead; simp
  refine ⟨rfl, rfl, rfl, ?_, fun k hk => ?_⟩
  · unfold sortWorldK; rw [size_grow, e]; omega
  · unfold sortWorldK
    rw [heap_grow_old _ _ (by rw [e]; omega)]
    unfold putRowK putRow mapBlock Sort.ahead
    simp [Array.getElem?_modify]
    omega
theorem sort_row (B g n cap : Nat) (d : List (Rg × Nat)) (w : World) (hn : n ≤ 1000000) (hd : d.length = n) (hB : B ≤ g) (hg : g < w.heap.size) (h : w.ownsRow B 51 9 (.slice (some ⟨g, 0, none⟩) n cap) n (flN d)) :
    Calls Tryz.prog 44 #[.slice (some ⟨g, 0, none⟩) n cap, .func (.func 24) #[] #[]] w fun e w' => e = .returned (.tuple #[]) ∧ (∃ d' : List (Rg × Nat), d'.Perm d ∧ (∀ i j, i < j → j < d'.length → ¬ ahead d'[j]! d'[i]!) ∧ RowN w' (some ⟨g, 0, none⟩) n d') ∧ RowKit.Below B w w' := by
  have eg : ∀ args w, (callFunc 24 args).run Tryz.prog w = .ok (.enter 24 args) w := enters_of Tryz.func24 (by kernel_rfl) rfl
  have hH := holds_of_own hd h
  have hs : d.toArray.size = n := by simpa using hd
  have hc := AnyQ.slices_SortFunc Tryz.sortNum 9 Tryz.isAgg51 Tryz.sizeOf51 encN (fun _ => rfl) (fun x v hv => by simp [encN] at hv; rcases hv with rfl | rfl | rfl | rfl | rfl | rfl | rfl | rfl | rfl <;> rfl) cfN swoN 24 #[] g 0 cap d.toArray w eg (cmpN g 0 d.toArray.size w) hH hg (by omega)
  rw [hs] at hc
  refine Calls.mono hc ?_
  rintro e w' ⟨rfl, d', m, os, hp, hso, rfl⟩
  have hsz : d'.size = n := by rw [hp.1, hs]
  refine ⟨rfl, ⟨d'.toList, ?_, ?_, ?_⟩, sort_below hB hg⟩
  · have := hp.2.2
    rw [show d'.extract 0 n = d' by rw [← hsz]; simp, show d.toArray.extract 0 n = d.toArray by rw [← hs]; simp] at this
    simpa using this
  · intro i j hij hj
    have := hso i j (Nat.zero_le _) hij (by simpa [hsz] using hj)
    rw [ltN, decide_eq_false_iff_not] at this
    have e : ∀ q : Nat, d'.toList[q]! = d'[q]! := fun q => by
      by_cases hq : q < d'.size
      · rw [getElem!_pos d' q hq, getElem!_pos d'.toList q (by simpa using hq)]; simp
      · rw [getElem!_neg d' q hq, getElem!_neg d'.toList q (by simpa using hq)]
    rw [e, e]
    exact this
  · have := row_of_holds (holdsK_sortWorldK_c encN 9 w g 0 d.toArray d' m os hH hg (by rw [hsz, hs]))
    rw [hsz] at this
    exact this
end Go.Proofs.YtmkponhhinjpkaaGreat.Table
