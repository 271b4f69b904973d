/- Package table's locked, open, with, without: what a changed table is made of. -/
import Derived.Test.YtmkponhhinjpkaaGreatTm
import Derived.Test.YtmkponhhinjpkaaGreatTi
namespace Go.Proofs.YtmkponhhinjpkaaGreat.Table
open Go.RowKit Fifo Go.Maps Go.ChangeShapes Go.WideShapes Go.ChangeAt
open Go.Proofs.YtmkponhhinjpkaaGreat.Region (Eight eight_new)
set_option linter.unusedVariables false

/- copy, of elements of any size, into a block that is known. -/
theorem run_copy_k {P : Program} (w : World) (dT sT ty elem : TypeId) (sz g dLen dCap : Nat) (sp : Option Addr) (sLen sCap : Nat) (cur : Array Value) (t : TypeId) (cs : List Value)
    (hu : P.underlying dT = some (.slice elem)) (hs : (P.info? elem).map (·.size) = some sz) (hg : w.heap[g]? = some (.cells cur t (0, 0))) (hle : sLen ≤ dLen) (hn : cs.length = sLen * sz)
    (hsrc : ∀ ad, sp = some ad → ∀ j v, cs[j]? = some v → w.cell? (ad.add j) = some v) (hnone : sp = none → sLen = 0) (hfit : cs.length ≤ cur.size) (h1 : ∀ v ∈ cs, v.oneCell' = true) :
    (Builtin.copy_ #[dT, sT] ty #[.slice (some ⟨g, 0, none⟩) dLen dCap, .slice sp sLen sCap]).run P w = .ok (goInt sLen) (w.setRow g (cs ++ cur.toList.drop cs.length).toArray) := by
  have hmin : Nat.min sLen dLen = sLen := Nat.min_eq_left hle
  have hst := run_storeCells_at P g 0 t cs 0 cur w hg (by simpa using hfit) h1
  cases hq : P.info? elem with
  | none => simp [hq] at hs
  | some i =>
    have hi : i.size = sz := by simpa [hq] using hs
    cases sp with
    | none =>
      obtain rfl : sLen = 0 := hnone rfl
      obtain rfl : cs = [] := List.eq_nil_of_length_eq_zero (by simpa using hn)
      have hm0 : Nat.min 0 dLen = 0 := Nat.min_eq_left (Nat.zero_le _)
      simp [Builtin.copy_, run_underlying hu, Builtin.lenOf, Builtin.firstCells, sizeOf, typeInfo, hq, storeCells, setRow_self w g cur t (0, 0) hg, hm0]
    | some ad =>
      have hl := run_loadCells_list (P := P) w ad cs (hsrc ad rfl)
      simp [Builtin.copy_, run_underlying hu, Builtin.lenOf, Builtin.firstCells, sizeOf, typeInfo, hq, hi, hmin, ← hn, hl, hst]
theorem copy_blk {P : Program} {w : World} {ops : Array Oper} {rest : List Oper} {o : Oper} {a : Act} {Q : Exit → Act → World → Prop} (hgd : o.guard = none) (d s : Operand) (dT sT : TypeId)
    (ho : o.op = .call { callee := .builtin .copy, args := #[d, s], argTypes := #[dT, sT] }) (elem : TypeId) (hu : P.underlying dT = some (.slice elem)) (sz : Nat) (hsz : (P.info? elem).map (·.size) = some sz)
    (g dLen dCap : Nat) (sp : Option Addr) (sLen sCap : Nat) (hd : a.eval d = .slice (some ⟨g, 0, none⟩) dLen dCap) (hs : a.eval s = .slice sp sLen sCap) (t : TypeId) (cur : List Value) (hg : Blk w g t cur) (cs : List Value) (hle : sLen ≤ dLen) (hn : cs.length = sLen * sz)
    (hsrc : ∀ ad, sp = some ad → ∀ j v, cs[j]? = some v → w.cell? (ad.add j) = some v) (hnone : sp = none → sLen = 0) (hfit : cs.length ≤ cur.length) (h1 : ∀ v ∈ cs, v.oneCell' = true)
    (h : ∀ X, Blk X g t (cs ++ cur.drop cs.length) → Only (fun j => j = g) w X → wpList P ops Q rest (a.put o.dst (goInt sLen)) X) : wpList P ops Q (o :: rest) a w := by
  refine wpList_plain hgd fun K hK => ?_
  have hrun := run_copy_k (P := P) w dT sT o.type elem sz g dLen dCap sp sLen sCap cur.toArray t cs hu hsz hg hle hn hsrc hnone (by simpa using hfit) h1
  unfold Oper.wp
  simp [execOp, ho, resolve, invoke, builtin, hd, hs, hrun, Result.andThen]
  exact hK _ _ (h _ (set_blk hg) (set_only w g _))

theorem locked_any (a : Option Addr) (n cap : Nat) (d : List Rg) (m : Nat) (b : Bool) (w : World) (h : RowG w a n d) (hb : lockB d (m : Nat) = b) :
    Calls Tryz.prog 74 #[.slice a n cap, .int .i64 (m : Nat)] w fun e w' => e = .returned (.bool b) ∧ Below w.heap.size w w' := by
  by_cases hlt : m < n
  · obtain ⟨g, off, rfl, c⟩ := h.2 m hlt
    have d1 : decide ((m : Int) < (n : Int)) = true := decide_eq_true (by omega)
    have i1 : (0 : Int) ≤ (m : Int) := by omega
    have i2 : (m : Int) < (n : Int) := by omega
    have hbb : d[m]!.lk = b := by
      rw [← hb]; unfold lockB
      have : ((m : Nat) : Int) < (d.length : Int) := by rw [h.1]; omega
      simp [this]
    have e6 := c.c7
    rw [hbb] at e6
    clear hbb hb c h
    go_enter Tryz.func74, Tryz.ntmps74
    go_wp2_with fail
    go_ret
    exact ⟨rfl, Below.refl _ _⟩
  · have d1 : decide ((m : Int) < (n : Int)) = false := decide_eq_false (by omega)
    have hbb : false = b := by
      rw [← hb]; unfold lockB
      have : ¬ ((m : Nat) : Int) < (d.length : Int) := by rw [h.1]; omega
      simp [this]
    subst hbb
    clear hb h
    go_enter Tryz.func74, Tryz.ntmps74
    go_wp2_with fail
    go_ret
    exact ⟨rfl, Below.refl _ _⟩
theorem open_shape (a : Option Addr) (n cap : Nat) (d : List Rg) (m : Int) (w : World) (hn : n ≤ 1000000) (hc : n ≤ cap) (h : RowG w a n d) (hb : tabB d = false) :
    Calls Tryz.prog 37 #[.slice a n cap, .int .i64 m] w fun e w' => e = .returned (.tuple #[.agg #[.slice none 0 0], .int .i64 4]) ∧ Below w.heap.size w w' := by
  have R := Lib.hid (Right_any a n cap d false (w.alloc (.cells #[.slice none 0 0] 56)) hn hc (h.keep ((Below.refl _ _).alloc (Nat.le_refl _) _)) hb)
  have Hr := Lib.hid h
  clear h hb
  go_enter Tryz.func37, Tryz.ntmps37
  go_wp2_with fail
  refine R.out.mono ?_
  rintro e w1 ⟨rfl, hb⟩
  have ha := (Below.refl w.heap.size w).alloc (Nat.le_refl _) (.cells #[.slice none 0 0] 56)
  have Hb := Lib.hid (ha.trans (hb.mono ha.size))
  have c0 : w1.cell? ⟨w.heap.size, 0, none⟩ = some (.slice none 0 0) := ((Blk.new w 56 [.slice none 0 0]).keep hb).at 0 rfl
  have f0 : w1.frozen? ⟨w.heap.size, 0, none⟩ = false := ((Blk.new w 56 [.slice none 0 0]).keep hb).frozen 0
  have hs1 := Hb.out.size
  have hlt1 := World.block_lt_of_cell? w1 _ c0
  have hlt2 : w.heap.size < w1.heap.size := hlt1
  have B0 := (Blk.new w 56 [.slice none 0 0]).keep hb
  have c9 : ∀ v ob, ((w1.setCell ⟨w.heap.size, 0, none⟩ v).alloc ob).cell? ⟨w.heap.size, 0, none⟩ = some v := fun v ob => ((B0.set 0 v).alloc ob).at 0 rfl
  clear hb ha R B0
  go_wp2_with fail
  refine bodyPost_ret (v := .tuple #[.agg #[.slice none 0 0], .int .i64 4]) ?_ rfl ⟨rfl, ?_⟩
  · simp [results, Tryz.f37, go_sem, c0]
  · repeat (first | with_reducible exact Hb.out | refine Below.setCell ?_ (by first | exact Nat.le_refl _ | omega) _ | refine Below.alloc ?_ (by first | exact hs1 | omega | (simp; omega)) _)
theorem open_neg (a : Option Addr) (n cap : Nat) (d : List Rg) (m : Int) (w : World) (hn : n ≤ 1000000) (hc : n ≤ cap) (h : RowG w a n d) (hb : tabB d = true) (hm : m < 0) :
    Calls Tryz.prog 37 #[.slice a n cap, .int .i64 m] w fun e w' => e = .returned (.tuple #[.agg #[.slice none 0 0], .int .i64 6]) ∧ Below w.heap.size w w' := by
  have R := Lib.hid (Right_any a n cap d true (w.alloc (.cells #[.slice none 0 0] 56)) hn hc (h.keep ((Below.refl _ _).alloc (Nat.le_refl _) _)) hb)
  have Hr := Lib.hid h
  have d1 : decide (m < 0) = true := decide_eq_true hm
  clear h hb
  go_enter Tryz.func37, Tryz.ntmps37
  go_wp2_with fail
  refine R.out.mono ?_
  rintro e w1 ⟨rfl, hb⟩
  have ha := (Below.refl w.heap.size w).alloc (Nat.le_refl _) (.cells #[.slice none 0 0] 56)
  have Hb := Lib.hid (ha.trans (hb.mono ha.size))
  have c0 : w1.cell? ⟨w.heap.size, 0, none⟩ = some (.slice none 0 0) := ((Blk.new w 56 [.slice none 0 0]).keep hb).at 0 rfl
  have f0 : w1.frozen? ⟨w.heap.size, 0, none⟩ = false := ((Blk.new w 56 [.slice none 0 0]).keep hb).frozen 0
  have hs1 := Hb.out.size
  have hlt1 := World.block_lt_of_cell? w1 _ c0
  have hlt2 : w.heap.size < w1.heap.size := hlt1
  have B0 := (Blk.new w 56 [.slice none 0 0]).keep hb
  have c9 : ∀ v ob, ((w1.setCell ⟨w.heap.size, 0, none⟩ v).alloc ob).cell? ⟨w.heap.size, 0, none⟩ = some v := fun v ob => ((B0.set 0 v).alloc ob).at 0 rfl
  clear hb ha R B0
  go_wp2_with fail
  refine bodyPost_ret (v := .tuple #[.agg #[.slice none 0 0], .int .i64 6]) ?_ rfl ⟨rfl, ?_⟩
  · simp [results, Tryz.f37, go_sem, c9]
  · repeat (first | with_reducible exact Hb.out | refine Below.setCell ?_ (by first | exact Nat.le_refl _ | omega) _ | refine Below.alloc ?_ (by first | exact hs1 | omega | (simp; omega)) _)
theorem open_big (a : Option Addr) (n cap : Nat) (d : List Rg) (m : Int) (w : World) (hn : n ≤ 1000000) (hc : n ≤ cap) (h : RowG w a n d) (hb : tabB d = true) (hm : 32 ≤ m) :
    Calls Tryz.prog 37 #[.slice a n cap, .int .i64 m] w fun e w' => e = .returned (.tuple #[.agg #[.slice none 0 0], .int .i64 6]) ∧ Below w.heap.size w w' := by
  have R := Lib.hid (Right_any a n cap d true (w.alloc (.cells #[.slice none 0 0] 56)) hn hc (h.keep ((Below.refl _ _).alloc (Nat.le_refl _) _)) hb)
  have Hr := Lib.hid h
  have d1 : decide (m < 0) = false := decide_eq_false (by omega)
  have d2 : decide (32 ≤ m) = true := decide_eq_true hm
  clear h hb
  go_enter Tryz.func37, Tryz.ntmps37
  go_wp2_with fail
  refine R.out.mono ?_
  rintro e w1 ⟨rfl, hb⟩
  have ha := (Below.refl w.heap.size w).alloc (Nat.le_refl _) (.cells #[.slice none 0 0] 56)
  have Hb := Lib.hid (ha.trans (hb.mono ha.size))
  have c0 : w1.cell? ⟨w.heap.size, 0, none⟩ = some (.slice none 0 0) := ((Blk.new w 56 [.slice none 0 0]).keep hb).at 0 rfl
  have f0 : w1.frozen? ⟨w.heap.size, 0, none⟩ = false := ((Blk.new w 56 [.slice none 0 0]).keep hb).frozen 0
  have hs1 := Hb.out.size
  have hlt1 := World.block_lt_of_cell? w1 _ c0
  have hlt2 : w.heap.size < w1.heap.size := hlt1
  have B0 := (Blk.new w 56 [.slice none 0 0]).keep hb
  have c9 : ∀ v ob, ((w1.setCell ⟨w.heap.size, 0, none⟩ v).alloc ob).cell? ⟨w.heap.size, 0, none⟩ = some v := fun v ob => ((B0.set 0 v).alloc ob).at 0 rfl
  clear hb ha R B0
  go_wp2_with fail
  refine bodyPost_ret (v := .tuple #[.agg #[.slice none 0 0], .int .i64 6]) ?_ rfl ⟨rfl, ?_⟩
  · simp [results, Tryz.f37, go_sem, c9]
  · repeat (first | with_reducible exact Hb.out | refine Below.setCell ?_ (by first | exact Nat.le_refl _ | omega) _ | refine Below.alloc ?_ (by first | exact hs1 | omega | (simp; omega)) _)
theorem open_held (a : Option Addr) (n cap : Nat) (d : List Rg) (k : Nat) (w : World) (hn : n ≤ 1000000) (hc : n ≤ cap) (h : RowG w a n d) (hb : tabB d = true) (hm : k < 32) (hl : lockB d (k : Nat) = true) :
    Calls Tryz.prog 37 #[.slice a n cap, .int .i64 (k : Nat)] w fun e w' => e = .returned (.tuple #[.agg #[.slice none 0 0], .int .i64 15]) ∧ Below w.heap.size w w' := by
  have R := Lib.hid (Right_any a n cap d true (w.alloc (.cells #[.slice none 0 0] 56)) hn hc (h.keep ((Below.refl _ _).alloc (Nat.le_refl _) _)) hb)
  have Hr := Lib.hid h
  have d1 : decide ((k : Int) < 0) = false := decide_eq_false (by omega)
  have d2 : decide ((32 : Int) ≤ (k : Int)) = false := decide_eq_false (by omega)
  have HL := Lib.hid hl
  clear h hb
  go_enter Tryz.func37, Tryz.ntmps37
  go_wp2_with fail
  refine R.out.mono ?_
  rintro e w1 ⟨rfl, hb⟩
  have ha := (Below.refl w.heap.size w).alloc (Nat.le_refl _) (.cells #[.slice none 0 0] 56)
  have Hb := Lib.hid (ha.trans (hb.mono ha.size))
  have c0 : w1.cell? ⟨w.heap.size, 0, none⟩ = some (.slice none 0 0) := ((Blk.new w 56 [.slice none 0 0]).keep hb).at 0 rfl
  have f0 : w1.frozen? ⟨w.heap.size, 0, none⟩ = false := ((Blk.new w 56 [.slice none 0 0]).keep hb).frozen 0
  have hs1 := Hb.out.size
  have hlt1 := World.block_lt_of_cell? w1 _ c0
  have hlt2 : w.heap.size < w1.heap.size := hlt1
  have B0 := (Blk.new w 56 [.slice none 0 0]).keep hb
  have c9 : ∀ v ob, ((w1.setCell ⟨w.heap.size, 0, none⟩ v).alloc ob).cell? ⟨w.heap.size, 0, none⟩ = some v := fun v ob => ((B0.set 0 v).alloc ob).at 0 rfl
  clear hb ha R B0
  go_wp2_with fail
  refine (locked_any a n cap d k true _ ((Hr.out.keep Hb.out).keep ((Below.refl _ _).alloc (Nat.le_refl _) _)) HL.out).mono ?_
  rintro e w2 ⟨rfl, hb2⟩
  have ha2 := (Below.refl w1.heap.size w1).alloc (Nat.le_refl _) (.cells #[.slice a n cap] 56)
  have Hb2 := Lib.hid (Hb.out.trans ((ha2.trans (hb2.mono ha2.size)).mono hs1))
  have c2 := cell_keep (ha2.trans (hb2.mono ha2.size)) c0
  have f2 : w2.frozen? ⟨w.heap.size, 0, none⟩ = false := by
    have := (((Blk.new w 56 [.slice none 0 0]))).frozen 0
    rw [← f0]
    exact (Reach.bcell (ha2.trans (hb2.mono ha2.size))).2 _ _ hlt2
  have b2 : w2.cell? ⟨w1.heap.size, 0, none⟩ = some (.slice a n cap) := ((Blk.new w1 56 [.slice a n cap]).keep hb2).at 0 rfl
  clear hb2 ha2 c0 f0
  go_wp2_with fail
  refine bodyPost_ret (v := .tuple #[.agg #[.slice none 0 0], .int .i64 15]) ?_ rfl ⟨rfl, ?_⟩
  · simp [results, Tryz.f37, go_sem, c2]
  · repeat (first | with_reducible exact Hb2.out | refine Below.setCell ?_ (by first | exact Nat.le_refl _ | omega) _ | refine Below.alloc ?_ (by first | exact hs1 | omega | (simp; omega)) _)
theorem open_yes (a : Option Addr) (n cap : Nat) (d : List Rg) (k : Nat) (w : World) (hn : n ≤ 1000000) (hc : n ≤ cap) (h : RowG w a n d) (hb : tabB d = true) (hm : k < 32) (hl : lockB d (k : Nat) = false) :
    Calls Tryz.prog 37 #[.slice a n cap, .int .i64 (k : Nat)] w fun e w' => e = .returned (.tuple #[.agg #[.slice a n cap], .int .i64 0]) ∧ Below w.heap.size w w' := by
  have R := Lib.hid (Right_any a n cap d true (w.alloc (.cells #[.slice none 0 0] 56)) hn hc (h.keep ((Below.refl _ _).alloc (Nat.le_refl _) _)) hb)
  have Hr := Lib.hid h
  have d1 : decide ((k : Int) < 0) = false := decide_eq_false (by omega)
  have d2 : decide ((32 : Int) ≤ (k : Int)) = false := decide_eq_false (by omega)
  have HL := Lib.hid hl
  clear h hb
  go_enter Tryz.func37, Tryz.ntmps37
  go_wp2_with fail
  refine R.out.mono ?_
  rintro e w1 ⟨rfl, hb⟩
  have ha := (Below.refl w.heap.size w).alloc (Nat.le_refl _) (.cells #[.slice none 0 0] 56)
  have Hb := Lib.hid (ha.trans (hb.mono ha.size))
  have c0 : w1.cell? ⟨w.heap.size, 0, none⟩ = some (.slice none 0 0) := ((Blk.new w 56 [.slice none 0 0]).keep hb).at 0 rfl
  have f0 : w1.frozen? ⟨w.heap.size, 0, none⟩ = false := ((Blk.new w 56 [.slice none 0 0]).keep hb).frozen 0
  have hs1 := Hb.out.size
  have hlt1 := World.block_lt_of_cell? w1 _ c0
  have hlt2 : w.heap.size < w1.heap.size := hlt1
  have B0 := (Blk.new w 56 [.slice none 0 0]).keep hb
  have c9 : ∀ v ob, ((w1.setCell ⟨w.heap.size, 0, none⟩ v).alloc ob).cell? ⟨w.heap.size, 0, none⟩ = some v := fun v ob => ((B0.set 0 v).alloc ob).at 0 rfl
  clear hb ha R B0
  go_wp2_with fail
  refine (locked_any a n cap d k false _ ((Hr.out.keep Hb.out).keep ((Below.refl _ _).alloc (Nat.le_refl _) _)) HL.out).mono ?_
  rintro e w2 ⟨rfl, hb2⟩
  have ha2 := (Below.refl w1.heap.size w1).alloc (Nat.le_refl _) (.cells #[.slice a n cap] 56)
  have Hb2 := Lib.hid (Hb.out.trans ((ha2.trans (hb2.mono ha2.size)).mono hs1))
  have c2 := cell_keep (ha2.trans (hb2.mono ha2.size)) c0
  have f2 : w2.frozen? ⟨w.heap.size, 0, none⟩ = false := by
    have := (((Blk.new w 56 [.slice none 0 0]))).frozen 0
    rw [← f0]
    exact (Reach.bcell (ha2.trans (hb2.mono ha2.size))).2 _ _ hlt2
  have b2 : w2.cell? ⟨w1.heap.size, 0, none⟩ = some (.slice a n cap) := ((Blk.new w1 56 [.slice a n cap]).keep hb2).at 0 rfl
  clear hb2 ha2 c0 f0
  go_wp2_with fail
  refine bodyPost_ret (v := .tuple #[.agg #[.slice a n cap], .int .i64 0]) ?_ rfl ⟨rfl, ?_⟩
  · simp [results, Tryz.f37, go_sem, c2]
  · repeat (first | with_reducible exact Hb2.out | refine Below.setCell ?_ (by first | exact Nat.le_refl _ | omega) _ | refine Below.alloc ?_ (by first | exact hs1 | omega | (simp; omega)) _)
end Go.Proofs.YtmkponhhinjpkaaGreat.Table
