/- The example turned: contracts. -/
import Derived.Test.YtploggfaihfeeaaHf
import Derived.Laws.CopyOwn
namespace Go.Proofs.Ytploggfaihfeeaa.Region
open Go.RowKit Go.Proofs.Ytploggfaihfeeaa.Access
set_option linter.unusedVariables false

/-- The walk stops ahead of a store of a whole struct: 'go_wp2_with (with_reducible refine at_store t x y rfl ?_)'. -/
theorem at_store {P : Program} {ops : Array Oper} {Q : Exit → Act → World → Prop} {rest : List Oper} {op : Oper} {a : Act} {w : World} (ty : TypeId) (x y : Operand) (ho : op.op = .store ty x y) (h : Hid (wpList P ops Q (op :: rest) a w)) : wpList P ops Q (op :: rest) a w := h.out
/-- A region is stored into a block that holds one. -/
theorem store_eight {P : Program} {ops : Array Oper} {rest : List Oper} {op : Oper} {a : Act} {w : World} {Q : Exit → Act → World → Prop} (hgd : op.guard = none) (ty : TypeId) (x y : Operand) (ho : op.op = .store ty x y)
    (g : Nat) (o : Bool) (W F T : Int) (rd wr : Bool) (K : Int) (lk : Bool) (hx : a.eval x = .pointer (some ⟨g, 0, none⟩)) (hy : a.eval y = reg o W F T rd wr K lk)
    (t : TypeId) (old : Array Value) (hg : w.heap[g]? = some (.cells old t (0, 0))) (hi : (P.info? ty).map (·.size) = some 8) (hold : old.size = 8)
    (h : ∀ X, Eight X g o W F T rd wr K lk → (∀ B w0, Below B w0 w → B ≤ g → Below B w0 X) → wpList P ops Q rest (a.put op.dst undef) X) : wpList P ops Q (op :: rest) a w := by
  refine wpList_store_row hgd ty x y ho g #[.bool o, .int .i64 W, .int .u32 F, .int .u32 T, .bool rd, .bool wr, .int .i64 K, .bool lk] hx hy t old hg hi hold (by simp [Value.oneCell']) (h _ ?_ fun B w0 hb hB => below_setRow hb hB _)
  constructor <;> rw [cell_setRow_same _ _ _ _ _ _ _ hg] <;> rfl

set_option maxRecDepth 100000 in
set_option maxHeartbeats 1000000 in
theorem turned_0 (v : Int) (w : World) (h0 : 0 ≤ v) (h1 : v < 12) :
    Calls Try.prog 9 #[.int .i64 0, .int .i64 v] w fun e w' => e = .returned (reg false 1 256 511 true false 3 false) ∧ Below w.heap.size w w' := by
  go_enter Try.func9, Try.ntmps9
  go_wp2_with fail
  refine (example_any _).mono ?_
  rintro e w1 ⟨rfl, hb⟩
  have hg1 : w1.heap[w.heap.size]? = some (.cells #[.bool false, .int .i64 0, .int .u32 0, .int .u32 0, .bool false, .bool false, .int .i64 0, .bool false] 26 (0, 0)) := (hb.block _ (by simp)).trans (by show (w.heap.push _)[w.heap.size]? = _; exact Array.getElem?_push_size)
  have hlt : w.heap.size < w1.heap.size := by have := hb.size; simp at this; omega
  have Hg := Lib.hid hg1
  have B1 := Lib.hid (((Below.refl w.heap.size w).alloc (Nat.le_refl _) (.cells #[.bool false, .int .i64 0, .int .u32 0, .int .u32 0, .bool false, .bool false, .int .i64 0, .bool false] 26)).trans (hb.mono (by simp)))
  clear hb hg1
  go_wp2_with (with_reducible refine at_store 26 (.tmp 4) (.tmp 57) rfl ?_)
  apply Lib.hid
  refine store_eight rfl _ _ _ rfl w.heap.size _ _ _ _ _ _ _ _ rfl rfl 26 _ ((((Below.refl w1.heap.size w1).alloc (Nat.le_refl _) _).block _ hlt).trans Hg.out) (by kernel_rfl) rfl ?_
  intro X E hX
  have hbX : Below w.heap.size w X := hX _ _ (B1.out.alloc B1.out.size _) (Nat.le_refl _)
  obtain ⟨e0, e1, e2, e3, e4, e5, e6, e7⟩ := E
  clear hX Hg B1
  go_wp2_with fail
  refine bodyPost_ret (v := reg false 1 256 511 true false 3 false) ?_ rfl ⟨rfl, hbX⟩
  simp [results, Try.results9, go_sem, e0, e1, e2, e3, e4, e5, e6, e7]

set_option maxRecDepth 100000 in
set_option maxHeartbeats 1000000 in
theorem turned_1 (v : Int) (w : World) (h0 : 0 ≤ v) (h1 : v < 12) :
    Calls Try.prog 9 #[.int .i64 1, .int .i64 v] w fun e w' => e = .returned (reg true (v - 2) 256 511 true false 3 false) ∧ Below w.heap.size w w' := by
  go_enter Try.func9, Try.ntmps9
  go_wp2_with fail
  refine (example_any _).mono ?_
  rintro e w1 ⟨rfl, hb⟩
  have hg1 : w1.heap[w.heap.size]? = some (.cells #[.bool false, .int .i64 0, .int .u32 0, .int .u32 0, .bool false, .bool false, .int .i64 0, .bool false] 26 (0, 0)) := (hb.block _ (by simp)).trans (by show (w.heap.push _)[w.heap.size]? = _; exact Array.getElem?_push_size)
  have hlt : w.heap.size < w1.heap.size := by have := hb.size; simp at this; omega
  have Hg := Lib.hid hg1
  have B1 := Lib.hid (((Below.refl w.heap.size w).alloc (Nat.le_refl _) (.cells #[.bool false, .int .i64 0, .int .u32 0, .int .u32 0, .bool false, .bool false, .int .i64 0, .bool false] 26)).trans (hb.mono (by simp)))
  clear hb hg1
  go_wp2_with (with_reducible refine at_store 26 (.tmp 4) (.tmp 57) rfl ?_)
  apply Lib.hid
  refine store_eight rfl _ _ _ rfl w.heap.size _ _ _ _ _ _ _ _ rfl rfl 26 _ ((((Below.refl w1.heap.size w1).alloc (Nat.le_refl _) _).block _ hlt).trans Hg.out) (by kernel_rfl) rfl ?_
  intro X E hX
  have hbX : Below w.heap.size w X := hX _ _ (B1.out.alloc B1.out.size _) (Nat.le_refl _)
  obtain ⟨e0, e1, e2, e3, e4, e5, e6, e7⟩ := E
  clear hX Hg B1
  go_wp2_with fail
  refine bodyPost_ret (v := reg true (v - 2) 256 511 true false 3 false) ?_ rfl ⟨rfl, hbX⟩
  simp [results, Try.results9, go_sem, e0, e1, e2, e3, e4, e5, e6, e7]

set_option maxRecDepth 100000 in
set_option maxHeartbeats 1000000 in
theorem turned_2 (v : Int) (w : World) (h0 : 0 ≤ v) (h1 : v < 12) :
    Calls Try.prog 9 #[.int .i64 2, .int .i64 v] w fun e w' => e = .returned (reg true 1 (v * 64) 511 true false 3 false) ∧ Below w.heap.size w w' := by
  go_enter Try.func9, Try.ntmps9
  go_wp2_with fail
  refine (example_any _).mono ?_
  rintro e w1 ⟨rfl, hb⟩
  have hg1 : w1.heap[w.heap.size]? = some (.cells #[.bool false, .int .i64 0, .int .u32 0, .int .u32 0, .bool false, .bool false, .int .i64 0, .bool false] 26 (0, 0)) := (hb.block _ (by simp)).trans (by show (w.heap.push _)[w.heap.size]? = _; exact Array.getElem?_push_size)
  have hlt : w.heap.size < w1.heap.size := by have := hb.size; simp at this; omega
  have Hg := Lib.hid hg1
  have B1 := Lib.hid (((Below.refl w.heap.size w).alloc (Nat.le_refl _) (.cells #[.bool false, .int .i64 0, .int .u32 0, .int .u32 0, .bool false, .bool false, .int .i64 0, .bool false] 26)).trans (hb.mono (by simp)))
  clear hb hg1
  go_wp2_with (with_reducible refine at_store 26 (.tmp 4) (.tmp 57) rfl ?_)
  apply Lib.hid
  refine store_eight rfl _ _ _ rfl w.heap.size _ _ _ _ _ _ _ _ rfl rfl 26 _ ((((Below.refl w1.heap.size w1).alloc (Nat.le_refl _) _).block _ hlt).trans Hg.out) (by kernel_rfl) rfl ?_
  intro X E hX
  have hbX : Below w.heap.size w X := hX _ _ (B1.out.alloc B1.out.size _) (Nat.le_refl _)
  obtain ⟨e0, e1, e2, e3, e4, e5, e6, e7⟩ := E
  clear hX Hg B1
  go_wp2_with fail
  refine bodyPost_ret (v := reg true 1 (v * 64) 511 true false 3 false) ?_ rfl ⟨rfl, hbX⟩
  simp [results, Try.results9, go_sem, e0, e1, e2, e3, e4, e5, e6, e7]

set_option maxRecDepth 100000 in
set_option maxHeartbeats 1000000 in
theorem turned_3 (v : Int) (w : World) (h0 : 0 ≤ v) (h1 : v < 12) :
    Calls Try.prog 9 #[.int .i64 3, .int .i64 v] w fun e w' => e = .returned (reg true 1 256 (v * 64) true false 3 false) ∧ Below w.heap.size w w' := by
  go_enter Try.func9, Try.ntmps9
  go_wp2_with fail
  refine (example_any _).mono ?_
  rintro e w1 ⟨rfl, hb⟩
  have hg1 : w1.heap[w.heap.size]? = some (.cells #[.bool false, .int .i64 0, .int .u32 0, .int .u32 0, .bool false, .bool false, .int .i64 0, .bool false] 26 (0, 0)) := (hb.block _ (by simp)).trans (by show (w.heap.push _)[w.heap.size]? = _; exact Array.getElem?_push_size)
  have hlt : w.heap.size < w1.heap.size := by have := hb.size; simp at this; omega
  have Hg := Lib.hid hg1
  have B1 := Lib.hid (((Below.refl w.heap.size w).alloc (Nat.le_refl _) (.cells #[.bool false, .int .i64 0, .int .u32 0, .int .u32 0, .bool false, .bool false, .int .i64 0, .bool false] 26)).trans (hb.mono (by simp)))
  clear hb hg1
  go_wp2_with (with_reducible refine at_store 26 (.tmp 4) (.tmp 57) rfl ?_)
  apply Lib.hid
  refine store_eight rfl _ _ _ rfl w.heap.size _ _ _ _ _ _ _ _ rfl rfl 26 _ ((((Below.refl w1.heap.size w1).alloc (Nat.le_refl _) _).block _ hlt).trans Hg.out) (by kernel_rfl) rfl ?_
  intro X E hX
  have hbX : Below w.heap.size w X := hX _ _ (B1.out.alloc B1.out.size _) (Nat.le_refl _)
  obtain ⟨e0, e1, e2, e3, e4, e5, e6, e7⟩ := E
  clear hX Hg B1
  go_wp2_with fail
  refine bodyPost_ret (v := reg true 1 256 (v * 64) true false 3 false) ?_ rfl ⟨rfl, hbX⟩
  simp [results, Try.results9, go_sem, e0, e1, e2, e3, e4, e5, e6, e7]

set_option maxRecDepth 100000 in
set_option maxHeartbeats 1000000 in
theorem turned_4 (v : Int) (w : World) (h0 : 0 ≤ v) (h1 : v < 12) :
    Calls Try.prog 9 #[.int .i64 4, .int .i64 v] w fun e w' => e = .returned (reg true 1 256 511 false false 3 false) ∧ Below w.heap.size w w' := by
  go_enter Try.func9, Try.ntmps9
  go_wp2_with fail
  refine (example_any _).mono ?_
  rintro e w1 ⟨rfl, hb⟩
  have hg1 : w1.heap[w.heap.size]? = some (.cells #[.bool false, .int .i64 0, .int .u32 0, .int .u32 0, .bool false, .bool false, .int .i64 0, .bool false] 26 (0, 0)) := (hb.block _ (by simp)).trans (by show (w.heap.push _)[w.heap.size]? = _; exact Array.getElem?_push_size)
  have hlt : w.heap.size < w1.heap.size := by have := hb.size; simp at this; omega
  have Hg := Lib.hid hg1
  have B1 := Lib.hid (((Below.refl w.heap.size w).alloc (Nat.le_refl _) (.cells #[.bool false, .int .i64 0, .int .u32 0, .int .u32 0, .bool false, .bool false, .int .i64 0, .bool false] 26)).trans (hb.mono (by simp)))
  clear hb hg1
  go_wp2_with (with_reducible refine at_store 26 (.tmp 4) (.tmp 57) rfl ?_)
  apply Lib.hid
  refine store_eight rfl _ _ _ rfl w.heap.size _ _ _ _ _ _ _ _ rfl rfl 26 _ ((((Below.refl w1.heap.size w1).alloc (Nat.le_refl _) _).block _ hlt).trans Hg.out) (by kernel_rfl) rfl ?_
  intro X E hX
  have hbX : Below w.heap.size w X := hX _ _ (B1.out.alloc B1.out.size _) (Nat.le_refl _)
  obtain ⟨e0, e1, e2, e3, e4, e5, e6, e7⟩ := E
  clear hX Hg B1
  go_wp2_with fail
  refine bodyPost_ret (v := reg true 1 256 511 false false 3 false) ?_ rfl ⟨rfl, hbX⟩
  simp [results, Try.results9, go_sem, e0, e1, e2, e3, e4, e5, e6, e7]

set_option maxRecDepth 100000 in
set_option maxHeartbeats 1000000 in
theorem turned_5 (v : Int) (w : World) (h0 : 0 ≤ v) (h1 : v < 12) :
    Calls Try.prog 9 #[.int .i64 5, .int .i64 v] w fun e w' => e = .returned (reg true 1 256 511 true (v % 2 == 0) 3 false) ∧ Below w.heap.size w w' := by
  go_enter Try.func9, Try.ntmps9
  go_wp2_with fail
  refine (example_any _).mono ?_
  rintro e w1 ⟨rfl, hb⟩
  have hg1 : w1.heap[w.heap.size]? = some (.cells #[.bool false, .int .i64 0, .int .u32 0, .int .u32 0, .bool false, .bool false, .int .i64 0, .bool false] 26 (0, 0)) := (hb.block _ (by simp)).trans (by show (w.heap.push _)[w.heap.size]? = _; exact Array.getElem?_push_size)
  have hlt : w.heap.size < w1.heap.size := by have := hb.size; simp at this; omega
  have Hg := Lib.hid hg1
  have B1 := Lib.hid (((Below.refl w.heap.size w).alloc (Nat.le_refl _) (.cells #[.bool false, .int .i64 0, .int .u32 0, .int .u32 0, .bool false, .bool false, .int .i64 0, .bool false] 26)).trans (hb.mono (by simp)))
  clear hb hg1
  go_wp2_with (with_reducible refine at_store 26 (.tmp 4) (.tmp 57) rfl ?_)
  apply Lib.hid
  refine store_eight rfl _ _ _ rfl w.heap.size _ _ _ _ _ _ _ _ rfl rfl 26 _ ((((Below.refl w1.heap.size w1).alloc (Nat.le_refl _) _).block _ hlt).trans Hg.out) (by kernel_rfl) rfl ?_
  intro X E hX
  have hbX : Below w.heap.size w X := hX _ _ (B1.out.alloc B1.out.size _) (Nat.le_refl _)
  obtain ⟨e0, e1, e2, e3, e4, e5, e6, e7⟩ := E
  clear hX Hg B1
  go_wp2_with fail
  refine bodyPost_ret (v := reg true 1 256 511 true (v % 2 == 0) 3 false) ?_ rfl ⟨rfl, hbX⟩
  simp [results, Try.results9, go_sem, e0, e1, e2, e3, e4, e5, e6, e7]

set_option maxRecDepth 100000 in
set_option maxHeartbeats 1000000 in
theorem turned_6 (v : Int) (w : World) (h0 : 0 ≤ v) (h1 : v < 12) :
    Calls Try.prog 9 #[.int .i64 6, .int .i64 v] w fun e w' => e = .returned (reg true 1 256 511 true false (v * 32 - 32) false) ∧ Below w.heap.size w w' := by
  go_enter Try.func9, Try.ntmps9
  go_wp2_with fail
  refine (example_any _).mono ?_
  rintro e w1 ⟨rfl, hb⟩
  have hg1 : w1.heap[w.heap.size]? = some (.cells #[.bool false, .int .i64 0, .int .u32 0, .int .u32 0, .bool false, .bool false, .int .i64 0, .bool false] 26 (0, 0)) := (hb.block _ (by simp)).trans (by show (w.heap.push _)[w.heap.size]? = _; exact Array.getElem?_push_size)
  have hlt : w.heap.size < w1.heap.size := by have := hb.size; simp at this; omega
  have Hg := Lib.hid hg1
  have B1 := Lib.hid (((Below.refl w.heap.size w).alloc (Nat.le_refl _) (.cells #[.bool false, .int .i64 0, .int .u32 0, .int .u32 0, .bool false, .bool false, .int .i64 0, .bool false] 26)).trans (hb.mono (by simp)))
  clear hb hg1
  go_wp2_with (with_reducible refine at_store 26 (.tmp 4) (.tmp 57) rfl ?_)
  apply Lib.hid
  refine store_eight rfl _ _ _ rfl w.heap.size _ _ _ _ _ _ _ _ rfl rfl 26 _ ((((Below.refl w1.heap.size w1).alloc (Nat.le_refl _) _).block _ hlt).trans Hg.out) (by kernel_rfl) rfl ?_
  intro X E hX
  have hbX : Below w.heap.size w X := hX _ _ (B1.out.alloc B1.out.size _) (Nat.le_refl _)
  obtain ⟨e0, e1, e2, e3, e4, e5, e6, e7⟩ := E
  clear hX Hg B1
  go_wp2_with fail
  refine bodyPost_ret (v := reg true 1 256 511 true false (v * 32 - 32) false) ?_ rfl ⟨rfl, hbX⟩
  simp [results, Try.results9, go_sem, e0, e1, e2, e3, e4, e5, e6, e7]

set_option maxRecDepth 100000 in
set_option maxHeartbeats 1000000 in
theorem turned_7 (v : Int) (w : World) (h0 : 0 ≤ v) (h1 : v < 12) :
    Calls Try.prog 9 #[.int .i64 7, .int .i64 v] w fun e w' => e = .returned (reg true 1 256 511 true false 3 true) ∧ Below w.heap.size w w' := by
  go_enter Try.func9, Try.ntmps9
  go_wp2_with fail
  refine (example_any _).mono ?_
  rintro e w1 ⟨rfl, hb⟩
  have hg1 : w1.heap[w.heap.size]? = some (.cells #[.bool false, .int .i64 0, .int .u32 0, .int .u32 0, .bool false, .bool false, .int .i64 0, .bool false] 26 (0, 0)) := (hb.block _ (by simp)).trans (by show (w.heap.push _)[w.heap.size]? = _; exact Array.getElem?_push_size)
  have hlt : w.heap.size < w1.heap.size := by have := hb.size; simp at this; omega
  have Hg := Lib.hid hg1
  have B1 := Lib.hid (((Below.refl w.heap.size w).alloc (Nat.le_refl _) (.cells #[.bool false, .int .i64 0, .int .u32 0, .int .u32 0, .bool false, .bool false, .int .i64 0, .bool false] 26)).trans (hb.mono (by simp)))
  clear hb hg1
  go_wp2_with (with_reducible refine at_store 26 (.tmp 4) (.tmp 57) rfl ?_)
  apply Lib.hid
  refine store_eight rfl _ _ _ rfl w.heap.size _ _ _ _ _ _ _ _ rfl rfl 26 _ ((((Below.refl w1.heap.size w1).alloc (Nat.le_refl _) _).block _ hlt).trans Hg.out) (by kernel_rfl) rfl ?_
  intro X E hX
  have hbX : Below w.heap.size w X := hX _ _ (B1.out.alloc B1.out.size _) (Nat.le_refl _)
  obtain ⟨e0, e1, e2, e3, e4, e5, e6, e7⟩ := E
  clear hX Hg B1
  go_wp2_with fail
  refine bodyPost_ret (v := reg true 1 256 511 true false 3 true) ?_ rfl ⟨rfl, hbX⟩
  simp [results, Try.results9, go_sem, e0, e1, e2, e3, e4, e5, e6, e7]

set_option maxRecDepth 100000 in
set_option maxHeartbeats 1000000 in
theorem turned_8 (v : Int) (w : World) (h0 : 0 ≤ v) (h1 : v < 12) :
    Calls Try.prog 9 #[.int .i64 8, .int .i64 v] w fun e w' => e = .returned (reg false v 0 0 false false v false) ∧ Below w.heap.size w w' := by
  go_enter Try.func9, Try.ntmps9
  go_wp2_with fail
  refine (example_any _).mono ?_
  rintro e w1 ⟨rfl, hb⟩
  have hg1 : w1.heap[w.heap.size]? = some (.cells #[.bool false, .int .i64 0, .int .u32 0, .int .u32 0, .bool false, .bool false, .int .i64 0, .bool false] 26 (0, 0)) := (hb.block _ (by simp)).trans (by show (w.heap.push _)[w.heap.size]? = _; exact Array.getElem?_push_size)
  have hlt : w.heap.size < w1.heap.size := by have := hb.size; simp at this; omega
  have Hg := Lib.hid hg1
  have B1 := Lib.hid (((Below.refl w.heap.size w).alloc (Nat.le_refl _) (.cells #[.bool false, .int .i64 0, .int .u32 0, .int .u32 0, .bool false, .bool false, .int .i64 0, .bool false] 26)).trans (hb.mono (by simp)))
  clear hb hg1
  go_wp2_with (with_reducible refine at_store 26 (.tmp 4) (.tmp 57) rfl ?_)
  apply Lib.hid
  refine store_eight rfl _ _ _ rfl w.heap.size _ _ _ _ _ _ _ _ rfl rfl 26 _ ((((Below.refl w1.heap.size w1).alloc (Nat.le_refl _) _).block _ hlt).trans Hg.out) (by kernel_rfl) rfl ?_
  intro X E hX
  have hbX : Below w.heap.size w X := hX _ _ (B1.out.alloc B1.out.size _) (Nat.le_refl _)
  obtain ⟨e0, e1, e2, e3, e4, e5, e6, e7⟩ := E
  clear hX Hg B1
  go_wp2_with fail
  refine bodyPost_ret (v := reg false v 0 0 false false v false) ?_ rfl ⟨rfl, hbX⟩
  simp [results, Try.results9, go_sem, e0, e1, e2, e3, e4, e5, e6, e7]

set_option maxRecDepth 100000 in
set_option maxHeartbeats 1000000 in
theorem turned_9 (v : Int) (w : World) (h0 : 0 ≤ v) (h1 : v < 12) :
    Calls Try.prog 9 #[.int .i64 9, .int .i64 v] w fun e w' => e = .returned (reg true 1 256 511 true false (256 - v % 3) false) ∧ Below w.heap.size w w' := by
  go_enter Try.func9, Try.ntmps9
  go_wp2_with fail
  refine (example_any _).mono ?_
  rintro e w1 ⟨rfl, hb⟩
  have hg1 : w1.heap[w.heap.size]? = some (.cells #[.bool false, .int .i64 0, .int .u32 0, .int .u32 0, .bool false, .bool false, .int .i64 0, .bool false] 26 (0, 0)) := (hb.block _ (by simp)).trans (by show (w.heap.push _)[w.heap.size]? = _; exact Array.getElem?_push_size)
  have hlt : w.heap.size < w1.heap.size := by have := hb.size; simp at this; omega
  have Hg := Lib.hid hg1
  have B1 := Lib.hid (((Below.refl w.heap.size w).alloc (Nat.le_refl _) (.cells #[.bool false, .int .i64 0, .int .u32 0, .int .u32 0, .bool false, .bool false, .int .i64 0, .bool false] 26)).trans (hb.mono (by simp)))
  clear hb hg1
  go_wp2_with (with_reducible refine at_store 26 (.tmp 4) (.tmp 57) rfl ?_)
  apply Lib.hid
  refine store_eight rfl _ _ _ rfl w.heap.size _ _ _ _ _ _ _ _ rfl rfl 26 _ ((((Below.refl w1.heap.size w1).alloc (Nat.le_refl _) _).block _ hlt).trans Hg.out) (by kernel_rfl) rfl ?_
  intro X E hX
  have hbX : Below w.heap.size w X := hX _ _ (B1.out.alloc B1.out.size _) (Nat.le_refl _)
  obtain ⟨e0, e1, e2, e3, e4, e5, e6, e7⟩ := E
  clear hX Hg B1
  go_wp2_with fail
  refine bodyPost_ret (v := reg true 1 256 511 true false (256 - v % 3) false) ?_ rfl ⟨rfl, hbX⟩
  simp [results, Try.results9, go_sem, e0, e1, e2, e3, e4, e5, e6, e7]

theorem turned_ex (n v : Int) (h0 : 0 ≤ v) (h1 : v < 12) (g0 : 0 ≤ n) (g1 : n < 10) : ∃ (o : Bool) (W F T : Int) (rd wr : Bool) (K : Int) (lk : Bool), ∀ w,
    Calls Try.prog 9 #[.int .i64 n, .int .i64 v] w fun e w' => e = .returned (reg o W F T rd wr K lk) ∧ Below w.heap.size w w' := by
  have : n = 0 ∨ n = 1 ∨ n = 2 ∨ n = 3 ∨ n = 4 ∨ n = 5 ∨ n = 6 ∨ n = 7 ∨ n = 8 ∨ n = 9 := by omega
  rcases this with rfl | rfl | rfl | rfl | rfl | rfl | rfl | rfl | rfl | rfl
  · exact ⟨_, _, _, _, _, _, _, _, fun w => turned_0 v w h0 h1⟩
  · exact ⟨_, _, _, _, _, _, _, _, fun w => turned_1 v w h0 h1⟩
  · exact ⟨_, _, _, _, _, _, _, _, fun w => turned_2 v w h0 h1⟩
  · exact ⟨_, _, _, _, _, _, _, _, fun w => turned_3 v w h0 h1⟩
  · exact ⟨_, _, _, _, _, _, _, _, fun w => turned_4 v w h0 h1⟩
  · exact ⟨_, _, _, _, _, _, _, _, fun w => turned_5 v w h0 h1⟩
  · exact ⟨_, _, _, _, _, _, _, _, fun w => turned_6 v w h0 h1⟩
  · exact ⟨_, _, _, _, _, _, _, _, fun w => turned_7 v w h0 h1⟩
  · exact ⟨_, _, _, _, _, _, _, _, fun w => turned_8 v w h0 h1⟩
  · exact ⟨_, _, _, _, _, _, _, _, fun w => turned_9 v w h0 h1⟩
end Go.Proofs.Ytploggfaihfeeaa.Region
