/- A memory and the document's side by side; what the statements ask of bytes; Pick. -/
import Derived.Test.YtffjnahcdgpklaaDoorMw
import Derived.Test.YtffjnahcdgpklaaDoorMd
namespace Go.Proofs.YtffjnahcdgpklaaDoor.Ram
open Go.RowKit Go.Maps Go.ChangeShapes Go.WideShapes Go.ChangeAt Fifo Orow Word
set_option linter.unusedVariables false

/-- A memory in block m with the bytes bs, the document's in block r with the bytes cs; none of their blocks is one of K. -/
def Pair (K : Nat → Prop) (w : World) (m r : Nat) (bs cs : List Int) : Prop :=
  ∃ O g, Mem w m bs O ∧ RefS w r g cs ∧ OkM cs ∧ (∀ j, O j → ¬ K j ∧ j ≠ r ∧ j ≠ g) ∧ ¬ K r ∧ ¬ K g ∧ ∀ j, K j → j < w.heap.size
theorem RefS.lt {w : World} {r g : Nat} {bs : List Int} (h : RefS w r g bs) : r < w.heap.size ∧ g < w.heap.size := ⟨h.head.lt, h.row.lt⟩
theorem Pair.keep {K : Nat → Prop} {w w' : World} {m r : Nat} {bs cs : List Int} (h : Pair K w m r bs cs) (hb : Below w.heap.size w w') : Pair K w' m r bs cs := by
  obtain ⟨O, g, h1, h2, h3, h4, h5, h6, h7⟩ := h
  exact ⟨O, g, h1.keep hb, h2.keep hb, h3, h4, h5, h6, fun j hj => Nat.lt_of_lt_of_le (h7 j hj) hb.size⟩
theorem Pair.ok {K : Nat → Prop} {w : World} {m r : Nat} {bs cs : List Int} (h : Pair K w m r bs cs) : OkM bs ∧ OkM cs := by
  obtain ⟨O, g, h1, h2, h3, _⟩ := h
  exact ⟨h1.ok, h3⟩
theorem ref_off {w : World} {r g : Nat} {bs : List Int} (h : RefS w r g bs) (hk : OkM bs) (ht : Lane.Tab w) : r ≠ tabB ∧ g ≠ tabB := by
  have h0 := ht 0 (by decide)
  have h1 := h.head.at 0 rfl
  have h2 := h.cell 0 (by have := hk.lo; omega)
  refine ⟨fun e => ?_, fun e => ?_⟩
  · rw [e] at h1
    exact absurd (h1.symm.trans h0) (by simp)
  · rw [e] at h2
    exact absurd (h2.symm.trans h0) (by simp)
theorem only_below {K : Nat → Prop} {w w' : World} (h : Below w.heap.size w w') : Only (fun j => ¬ K j) w w' := Only.of_below h
/-- K grows by blocks that are no one's. -/
theorem Pair.more {K K' : Nat → Prop} {w : World} {m r : Nat} {bs cs : List Int} (h : Pair K w m r bs cs) (hK : ∀ O g, Mem w m bs O → RefS w r g cs → (∀ j, O j → ¬ K' j) ∧ ¬ K' r ∧ ¬ K' g) (hlt : ∀ j, K' j → j < w.heap.size) : Pair K' w m r bs cs := by
  obtain ⟨O, g, h1, h2, h3, h4, h5, h6, h7⟩ := h
  obtain ⟨a, b, c⟩ := hK O g h1 h2
  exact ⟨O, g, h1, h2, h3, fun j hj => ⟨a j hj, (h4 j hj).2⟩, b, c, hlt⟩
theorem Pair.less {K K' : Nat → Prop} {w : World} {m r : Nat} {bs cs : List Int} (h : Pair K w m r bs cs) (hK : ∀ j, K' j → K j) : Pair K' w m r bs cs := by
  obtain ⟨O, g, h1, h2, h3, h4, h5, h6, h7⟩ := h
  exact ⟨O, g, h1, h2, h3, fun j hj => ⟨fun k => (h4 j hj).1 (hK j k), (h4 j hj).2⟩, fun k => h5 (hK r k), fun k => h6 (hK g k), fun j hj => h7 j (hK j hj)⟩
/-- A block that is new is no one's: K may have it. -/
theorem Pair.also {K : Nat → Prop} {w w' : World} {m r : Nat} {bs cs : List Int} (h : Pair K w m r bs cs) (hb : Below w.heap.size w w') (D : Nat → Prop) (h1 : ∀ j, D j → w.heap.size ≤ j ∧ j < w'.heap.size) : Pair (fun j => K j ∨ D j) w' m r bs cs := by
  obtain ⟨O, g, a1, a2, a3, a4, a5, a6, a7⟩ := h
  have l1 := a1.lt
  have l2 := a2.lt
  refine ⟨O, g, a1.keep hb, a2.keep hb, a3, fun j hj => ⟨fun k => k.elim (a4 j hj).1 (fun d => ?_), (a4 j hj).2⟩, fun k => k.elim a5 (fun d => ?_), fun k => k.elim a6 (fun d => ?_), fun j hj => hj.elim (fun k => Nat.lt_of_lt_of_le (a7 j k) hb.size) (fun d => (h1 j d).2)⟩
  · have := (h1 j d).1; have := l1 j hj; omega
  · have := (h1 r d).1; omega
  · have := (h1 g d).1; omega
/-- What the document's does to its own bytes, and a memory to its own. -/
theorem Pair.mem_step {K O O' : Nat → Prop} {w w' : World} {m r g : Nat} {bs bs' cs : List Int} (h1 : Mem w m bs O) (h2 : RefS w r g cs) (h3 : OkM cs) (h4 : ∀ j, O j → ¬ K j ∧ j ≠ r ∧ j ≠ g) (h5 : ¬ K r) (h6 : ¬ K g) (h7 : ∀ j, K j → j < w.heap.size)
    (h8 : Mem w' m bs' O') (h9 : Only O w w') (h10 : ∀ j, O' j → O j ∨ w.heap.size ≤ j) : Pair K w' m r bs' cs ∧ Only (fun j => ¬ K j) w w' := by
  have l2 := h2.lt
  refine ⟨⟨O', g, h8, h2.only h9 (fun o => (h4 r o).2.1 rfl) (fun o => (h4 g o).2.2 rfl), h3, fun j hj => ?_, h5, h6, fun j hj => Nat.lt_of_lt_of_le (h7 j hj) h9.size⟩, h9.mono (fun j _ o => (h4 j o).1)⟩
  rcases h10 j hj with o | o
  · exact h4 j o
  · exact ⟨fun k => by have := h7 j k; omega, by omega, by omega⟩
theorem Write_pair (K : Nat → Prop) (m r : Nat) (bs cs : List Int) (off size v : Int) (is : Bool) (w : World) (h1 : I64 off) (h2 : I64 size) (h3 : 0 ≤ v) (h4 : v < 4294967296) (h : Pair K w m r bs cs) (hb : placeB bs.length off size = is) :
    Calls Tryd.prog 14 #[.pointer (some ⟨m, 0, none⟩), .int .i64 off, .int .i64 size, .int .u32 v] w fun e w' => e = .returned (.bool is) ∧ Pair K w' m r (writeV bs off size v.toNat) cs ∧ Only (fun j => ¬ K j) w w' := by
  obtain ⟨O, g, a1, a2, a3, a4, a5, a6, a7⟩ := h
  refine (Write_any m bs O off size v is w h1 h2 h3 h4 a1 hb).mono ?_
  rintro e w' ⟨rfl, O', b1, b2, b3⟩
  exact ⟨rfl, Pair.mem_step a1 a2 a3 a4 a5 a6 a7 b1 b2 b3⟩
theorem Reset_pair (K : Nat → Prop) (m r : Nat) (bs cs : List Int) (w : World) (h : Pair K w m r bs cs) :
    Calls Tryd.prog 12 #[.pointer (some ⟨m, 0, none⟩)] w fun e w' => e = .returned (.tuple #[]) ∧ Pair K w' m r (zerosB bs.length) cs ∧ Only (fun j => ¬ K j) w w' := by
  obtain ⟨O, g, a1, a2, a3, a4, a5, a6, a7⟩ := h
  refine (Reset_any m bs O w a1).mono ?_
  rintro e w' ⟨rfl, O', b1, b2, b3⟩
  exact ⟨rfl, Pair.mem_step a1 a2 a3 a4 a5 a6 a7 b1 b2 b3⟩
theorem Read_pair (K : Nat → Prop) (m r : Nat) (bs cs : List Int) (off size v : Int) (is : Bool) (w : World) (h1 : I64 off) (h2 : I64 size) (h : Pair K w m r bs cs) (hv : readV bs off size = v) (hb : placeB bs.length off size = is) :
    Calls Tryd.prog 20 #[.pointer (some ⟨m, 0, none⟩), .int .i64 off, .int .i64 size] w fun e w' => e = .returned (.tuple #[.int .u32 v, .bool is]) ∧ Below w.heap.size w w' := by
  obtain ⟨O, g, a1, _⟩ := h
  exact Read_any m bs O off size v is w h1 h2 a1 hv hb
theorem rRead_pair (K : Nat → Prop) (m r : Nat) (bs cs : List Int) (off size v : Int) (is : Bool) (w : World) (h : Pair K w m r bs cs) (hv : readV cs off size = v) (hb : placeB cs.length off size = is) :
    Calls Tryd.prog 25 #[.pointer (some ⟨r, 0, none⟩), .int .i64 off, .int .i64 size] w fun e w' => e = .returned (.tuple #[.int .u32 v, .bool is]) ∧ w = w' := by
  obtain ⟨O, g, a1, a2, a3, _⟩ := h
  exact rRead_any r g cs off size v is w a3 a2 hv hb
theorem rWrite_pair (K : Nat → Prop) (m r : Nat) (bs cs : List Int) (off size v : Int) (is : Bool) (w : World) (h3 : 0 ≤ v) (h4 : v < 4294967296) (h : Pair K w m r bs cs) (hb : placeB cs.length off size = is) :
    Calls Tryd.prog 15 #[.pointer (some ⟨r, 0, none⟩), .int .i64 off, .int .i64 size, .int .u32 v] w fun e w' => e = .returned (.bool is) ∧ Pair K w' m r bs (writeV cs off size v.toNat) ∧ Only (fun j => ¬ K j) w w' := by
  obtain ⟨O, g, a1, a2, a3, a4, a5, a6, a7⟩ := h
  refine (rWrite_any r g cs off size v is w h3 h4 a3 a2 hb).mono ?_
  rintro e w' ⟨rfl, b1, b2⟩
  exact ⟨rfl, ⟨O, g, a1.only b2 (fun j hj e => (a4 j hj).2.2 e) (fun e => (ref_off a2 a3 a1.tab).2 e.symm), b1, write_ok a3 _ _ _, a4, a5, a6, fun j hj => Nat.lt_of_lt_of_le (a7 j hj) b2.size⟩, b2.mono (fun j _ e => by subst e; exact a6)⟩
/-- Both are asked at one place. -/
theorem reads_any (K : Nat → Prop) (m r : Nat) (bs : List Int) (off size : Int) (w : World) (h1 : I64 off) (h2 : I64 size) (h : Pair K w m r bs bs) :
    Calls Tryd.prog 11 #[.pointer (some ⟨m, 0, none⟩), .pointer (some ⟨r, 0, none⟩), .int .i64 off, .int .i64 size] w fun e w' => e = .returned (.bool true) ∧ Below w.heap.size w w' := by
  obtain ⟨v, hv⟩ : ∃ v, readV bs off size = v := ⟨_, rfl⟩
  obtain ⟨b, hb⟩ : ∃ b, placeB bs.length off size = b := ⟨_, rfl⟩
  have HR := Lib.hid (Read_pair K m r bs bs off size v b w h1 h2 h hv hb)
  have HS := Lib.hid (fun w (h : Pair K w m r bs bs) => rRead_pair K m r bs bs off size v b w h hv hb)
  have Hp := Lib.hid h
  have q1 : (v == v) = true := by simp
  have q2 : (b == b) = true := by simp
  clear h hv hb
  go_enter Tryd.func11, Tryd.ntmps11
  go_wp2_with fail
  refine HR.out.mono ?_
  rintro e w1 ⟨rfl, hb1⟩
  have B1 := Lib.hid hb1
  have P1 := Lib.hid (Hp.out.keep hb1)
  clear hb1
  go_wp2_with fail
  refine (HS.out _ P1.out).mono ?_
  rintro e w2 ⟨rfl, rfl⟩
  go_wp2_with fail
  go_ret
  exact ⟨rfl, B1.out⟩
theorem eqB_self (l : List Int) : eqB l l = true := by unfold eqB; simp
/-- Two slices of the same bytes are the same. -/
theorem same_true (a a' n c c' : Nat) (bs : List Int) (w : World) (hn : bs.length = n) (hn2 : n ≤ 4096) (h : ∀ i, i < n → w.cell? ⟨a, i, none⟩ = some (.int .u8 (bs.getD i 0))) (h' : ∀ i, i < n → w.cell? ⟨a', i, none⟩ = some (.int .u8 (bs.getD i 0))) :
    Calls Tryd.prog 18 #[.slice (some ⟨a, 0, none⟩) n c, .slice (some ⟨a', 0, none⟩) n c'] w fun e w' => e = .returned (.bool true) ∧ Below w.heap.size w w' := by
  refine (same_bytes a 0 a' 0 n c c' bs bs w (by omega) hn hn (fun i hi => by rw [Nat.zero_add]; exact h i hi) (fun i hi => by rw [Nat.zero_add]; exact h' i hi)).mono ?_
  rintro e w' ⟨rfl, j, rfl⟩
  exact ⟨by rw [eqB_self], Fifo.below_drewN w j⟩
end Go.Proofs.YtffjnahcdgpklaaDoor.Ram
