/- Package ram: its small functions. Mem w b bs O: the memory in block b has the bytes bs; O: the blocks that are its own; the lanes' table lies apart from them. -/
import Derived.Test.YtffjnahcdgpklaaDoorMv
import Derived.Deep.RegionHeld3
import Derived.Lib.SliceRun
import Derived.LaidEqlPtr
namespace Go.Proofs.YtffjnahcdgpklaaDoor.Ram
open Go.RowKit Go.Maps Go.ChangeShapes Go.WideShapes Go.ChangeAt Fifo Orow Word
open Lane (takeV putV alB)
set_option linter.unusedVariables false

def I64 (x : Int) : Prop := -9223372036854775808 ≤ x ∧ x ≤ 9223372036854775807
/-- The block of the lanes' table. -/
def tabB : Nat := 0
theorem tab_only {S : Nat → Prop} {w w' : World} (h : Lane.Tab w) (ho : Only S w w') (hn : ¬ S tabB) : Lane.Tab w' := fun i hi => only_cell ho hn (h i hi)
theorem tab_lt {w : World} (h : Lane.Tab w) : tabB < w.heap.size := cell_lt (h 0 (by decide))
/-- A memory in block b, its words in block g. -/
structure MemS (w : World) (b g c : Nat) (bs : List Int) : Prop where
  head : Blk w b 50 [.slice (some ⟨g, 0, none⟩) (bs.length / 4) c, .pointer (some ⟨b, 0, none⟩)]
  row : w.ownsRow 0 31 1 (.slice (some ⟨g, 0, none⟩) (bs.length / 4) c) (bs.length / 4) (wv bs)
  tab : Lane.Tab w
  ne : b ≠ g
  nb : b ≠ tabB
  ng : g ≠ tabB
  ok : OkM bs
theorem MemS.only {S : Nat → Prop} {w w' : World} {b g c : Nat} {bs : List Int} (h : MemS w b g c bs) (ho : Only S w w') (hb : ¬ S b) (hg : ¬ S g) (ht : ¬ S tabB) : MemS w' b g c bs :=
  ⟨h.head.only ho hb, own_only h.row ho (fun j hj e => hg (by rw [← ba_some hj]; exact e)), tab_only h.tab ho ht, h.ne, h.nb, h.ng, h.ok⟩
theorem MemS.keep {w w' : World} {b g c : Nat} {bs : List Int} (h : MemS w b g c bs) (hb : Below w.heap.size w w') : MemS w' b g c bs :=
  ⟨h.head.keep hb, own_keep h.row hb, h.tab.below hb, h.ne, h.nb, h.ng, h.ok⟩
theorem MemS.cell {w : World} {b g c : Nat} {bs : List Int} (h : MemS w b g c bs) (k : Nat) (hk : k < bs.length / 4) : w.cell? ⟨g, k, none⟩ = some (.int .u32 (wordAt bs k)) := by
  have := own_cells h.row _ rfl k _ (wv_get bs hk)
  rwa [Go.WideShapes.add_plain, Nat.zero_add] at this
def Mem (w : World) (b : Nat) (bs : List Int) (O : Nat → Prop) : Prop := ∃ g c, MemS w b g c bs ∧ ∀ j, O j ↔ j = b ∨ j = g
theorem Mem.only {S O : Nat → Prop} {w w' : World} {b : Nat} {bs : List Int} (h : Mem w b bs O) (ho : Only S w w') (hn : ∀ j, O j → ¬ S j) (ht : ¬ S tabB) : Mem w' b bs O := by
  obtain ⟨g, c, h1, h2⟩ := h
  exact ⟨g, c, h1.only ho (hn b ((h2 b).2 (.inl rfl))) (hn g ((h2 g).2 (.inr rfl))) ht, h2⟩
theorem Mem.keep {O : Nat → Prop} {w w' : World} {b : Nat} {bs : List Int} (h : Mem w b bs O) (hb : Below w.heap.size w w') : Mem w' b bs O := by
  obtain ⟨g, c, h1, h2⟩ := h
  exact ⟨g, c, h1.keep hb, h2⟩
theorem Mem.lt {O : Nat → Prop} {w : World} {b : Nat} {bs : List Int} (h : Mem w b bs O) : ∀ j, O j → j < w.heap.size := by
  obtain ⟨g, c, h1, h2⟩ := h
  intro j hj
  rcases (h2 j).1 hj with rfl | rfl
  · exact h1.head.lt
  · exact (own_lt h1.row _ (ba_self _ _)).2
theorem Mem.ok {O : Nat → Prop} {w : World} {b : Nat} {bs : List Int} (h : Mem w b bs O) : OkM bs := by
  obtain ⟨g, c, h1, h2⟩ := h
  exact h1.ok
theorem Mem.tab {O : Nat → Prop} {w : World} {b : Nat} {bs : List Int} (h : Mem w b bs O) : Lane.Tab w := by
  obtain ⟨g, c, h1, h2⟩ := h
  exact h1.tab
theorem Mem.off {O : Nat → Prop} {w : World} {b : Nat} {bs : List Int} (h : Mem w b bs O) : ¬ O tabB := by
  obtain ⟨g, c, h1, h2⟩ := h
  intro e
  rcases (h2 _).1 e with e | e
  · exact h1.nb e.symm
  · exact h1.ng e.symm
/-- No memory: none at all, or one that was not answered. -/
def zeroCells : Array Value := #[.slice none 0 0, .pointer none]
def ZeroAt (w : World) (b : Nat) : Prop := Blk w b 50 zeroCells.toList
def Non (w : World) (v : Value) : Prop := v = .pointer none ∨ ∃ b, v = .pointer (some ⟨b, 0, none⟩) ∧ ZeroAt w b
theorem zero_new (w : World) : ZeroAt (w.alloc (.cells zeroCells 50)) w.heap.size := Blk.new w _ _
theorem ZeroAt.keep {w w' : World} {b : Nat} (h : ZeroAt w b) (hb : Below w.heap.size w w') : ZeroAt w' b := Blk.keep h hb
theorem Non.keep {w w' : World} {v : Value} (h : Non w v) (hb : Below w.heap.size w w') : Non w' v := by
  rcases h with rfl | ⟨b, rfl, h⟩
  · exact .inl rfl
  · exact .inr ⟨b, rfl, h.keep hb⟩

theorem ram_info : (Tryd.prog.info? 50).isSome = true := by kernel_rfl
theorem eq_own (a : Addr) (w : World) : (binOp .eql 24 (.pointer (some a)) (.pointer (some a))).run Tryd.prog w = .ok (.bool true) w := by
  obtain ⟨j, hj⟩ := Option.isSome_iff_exists.1 ram_info
  exact run_eql_ptr_same w a Tryd.underlying24 hj
theorem eq_nil (a : Addr) (w : World) : (binOp .eql 24 (.pointer none) (.pointer (some a))).run Tryd.prog w = .ok (.bool false) w := by
  have h : ∀ d : Nat, (Op.equalIn (d + 1) 24 (.pointer none) (.pointer (some a))).run Tryd.prog w = .ok false w := fun d => by
    simp [Op.equalIn, run_underlying Tryd.underlying24]
  simp only [binOp]
  simp [Op.equal, Op.maxDepth, h 9999]
theorem is_yes (b : Nat) (w : World) (h : w.cell? ⟨b, 1, none⟩ = some (.pointer (some ⟨b, 0, none⟩))) :
    Calls Tryd.prog 28 #[.pointer (some ⟨b, 0, none⟩)] w fun e w' => e = .returned (.bool true) ∧ w = w' := by
  have he := eq_own ⟨b, 0, none⟩ w
  go_enter Tryd.func28, Tryd.ntmps28
  go_wp2_with fail
  go_ret
  exact ⟨rfl, rfl⟩
theorem is_non (v : Value) (w : World) (h : Non w v) :
    Calls Tryd.prog 28 #[v] w fun e w' => e = .returned (.bool false) ∧ w = w' := by
  rcases h with rfl | ⟨b, rfl, h⟩
  · go_enter Tryd.func28, Tryd.ntmps28
    go_wp2_with fail
    go_ret
    exact ⟨rfl, rfl⟩
  · have c1 : w.cell? ⟨b, 1, none⟩ = some (.pointer none) := Blk.at h 1 rfl
    have he := eq_nil ⟨b, 0, none⟩ w
    clear h
    go_enter Tryd.func28, Tryd.ntmps28
    go_wp2_with fail
    go_ret
    exact ⟨rfl, rfl⟩
theorem memory_yes (b : Nat) (w : World) (h : w.cell? ⟨b, 1, none⟩ = some (.pointer (some ⟨b, 0, none⟩))) :
    Calls Tryd.prog 26 #[.pointer (some ⟨b, 0, none⟩)] w fun e w' => e = .returned (.pointer (some ⟨b, 0, none⟩)) ∧ w = w' := by
  have H := Lib.hid (is_yes b w h)
  clear h
  go_enter Tryd.func26, Tryd.ntmps26
  go_wp2_with fail
  refine H.out.mono ?_
  rintro e w1 ⟨rfl, rfl⟩
  go_wp2_with fail
  go_ret
  exact ⟨rfl, rfl⟩
theorem memory_non (v : Value) (w : World) (h : Non w v) :
    Calls Tryd.prog 26 #[v] w fun e w' => (∃ b, e = .returned (.pointer (some ⟨b, 0, none⟩)) ∧ ZeroAt w' b) ∧ Below w.heap.size w w' := by
  have H := Lib.hid (is_non v w h)
  clear h
  go_enter Tryd.func26, Tryd.ntmps26
  go_wp2_with fail
  refine H.out.mono ?_
  rintro e w1 ⟨rfl, rfl⟩
  go_wp2_with fail
  go_ret
  exact ⟨⟨_, rfl, zero_new w⟩, (Below.refl _ _).alloc (Nat.le_refl _) _⟩
theorem size_w (a : Option Addr) (n c : Nat) (w : World) (hn : n ≤ 1024) :
    Calls Tryd.prog 35 #[.slice a n c] w fun e w' => e = .returned (.int .i64 (4 * (n : Int))) ∧ w = w' := by
  have h1 : IntKind.i64.wrap (4 * (n : Int)) = 4 * (n : Int) := IntWalk.i64_in _ (by omega)
  go_enter Tryd.func35, Tryd.ntmps35
  go_wp2_with fail
  go_ret
  exact ⟨rfl, rfl⟩
theorem has_w (a : Option Addr) (n c : Nat) (off : Int) (b : Bool) (w : World) (hn : n ≤ 1024) (hb : decide (0 ≤ off ∧ off < 4 * (n : Int)) = b) :
    Calls Tryd.prog 45 #[.slice a n c, .int .i64 off] w fun e w' => e = .returned (.bool b) ∧ w = w' := by
  have H := Lib.hid (fun w => size_w a n c w hn)
  subst hb
  by_cases h0 : 0 ≤ off
  · have d0 : decide (0 ≤ off) = true := decide_eq_true h0
    have d1 : decide (0 ≤ off ∧ off < 4 * (n : Int)) = decide (off < 4 * (n : Int)) := by simp [h0]
    rw [d1]
    go_enter Tryd.func45, Tryd.ntmps45
    go_wp2_with (go_at_call 35; refine (H.out _).mono ?_; rintro e w' ⟨rfl, rfl⟩)
    go_ret
    exact ⟨rfl, rfl⟩
  · have d0 : decide (0 ≤ off) = false := decide_eq_false h0
    have d1 : decide (0 ≤ off ∧ off < 4 * (n : Int)) = false := by simp [h0]
    rw [d1]
    go_enter Tryd.func45, Tryd.ntmps45
    go_wp2_with (go_at_call 35; refine (H.out _).mono ?_; rintro e w' ⟨rfl, rfl⟩)
    go_ret
    exact ⟨rfl, rfl⟩
theorem told_no (a : Option Addr) (n c : Nat) (off : Int) (f : Value) (w : World) (hn : n ≤ 1024) (hb : decide (0 ≤ off ∧ off < 4 * (n : Int)) = false) :
    Calls Tryd.prog 37 #[.slice a n c, .int .i64 off, f] w fun e w' => e = .returned (.tuple #[.int .u32 0, .bool false]) ∧ w = w' := by
  have H := Lib.hid (has_w a n c off false w hn hb)
  clear hb
  go_enter Tryd.func37, Tryd.ntmps37
  go_wp2_with fail
  refine H.out.mono ?_
  rintro e w1 ⟨rfl, rfl⟩
  go_wp2_with fail
  go_ret2
  exact ⟨rfl, rfl⟩
theorem taken_w (o : Nat) (size v x : Int) (is : Bool) (w : World) (ho : o < 4096) (hv : 0 ≤ v) (hv' : v < 4294967296) (ht : Lane.Tab w) (hx : takeV v o size = x) (hb : alB o size = is) :
    Calls Tryd.prog 38 #[.agg #[.int .i64 o, .int .i64 size], .int .u32 v] w fun e w' => e = .returned (.tuple #[.int .u32 x, .bool is]) ∧ Below w.heap.size w w' := by
  have h1 : IntKind.u32.wrap (o : Int) = (o : Int) := IntWalk.u32_in _ (by omega)
  have H := Lib.hid (fun w ht => Lane.Take_any o size v x is w (by omega) (by omega) hv hv' ht hx hb)
  have Ht := Lib.hid ht
  clear hx hb ht hv hv' ho
  go_enter Tryd.func38, Tryd.ntmps38
  go_wp2_with fail
  refine (H.out _ (Ht.out.below ((Below.refl _ _).alloc (Nat.le_refl _) _))).mono ?_
  rintro e w1 ⟨rfl, hb⟩
  have Hb := Lib.hid (((Below.refl w.heap.size w).alloc (Nat.le_refl _) _).trans (hb.mono (by simp)))
  clear hb
  go_wp2_with fail
  go_ret2
  exact ⟨rfl, Hb.out⟩
end Go.Proofs.YtffjnahcdgpklaaDoor.Ram
