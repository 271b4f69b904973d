/- A memory of the walk's own, and two; the walk of RamApart. -/
import Derived.Test.YtffjnahcdgpklaaDoorMe
import Derived.Deep.RegionHeld3
namespace Go.Proofs.YtffjnahcdgpklaaDoor.Ram
open Go.RowKit Go.Maps Go.ChangeShapes Go.WideShapes Go.ChangeAt Fifo Orow Word
set_option linter.unusedVariables false

/-- The memory in block m has the bytes bs; its blocks lie from B on; nothing below B has turned. -/
def Mine (B : Nat) (w0 w : World) (m : Nat) (bs : List Int) : Prop := ∃ O, Mem w m bs O ∧ (∀ j, O j → B ≤ j) ∧ Below B w0 w ∧ B ≤ w0.heap.size
theorem Mine.keep {B : Nat} {w0 w w' : World} {m : Nat} {bs : List Int} (h : Mine B w0 w m bs) (hb : Below w.heap.size w w') : Mine B w0 w' m bs := by
  obtain ⟨O, h1, h2, h3, h4⟩ := h
  exact ⟨O, h1.keep hb, h2, h3.trans (hb.mono (Nat.le_trans h4 h3.size)), h4⟩
theorem Mine.ok {B : Nat} {w0 w : World} {m : Nat} {bs : List Int} (h : Mine B w0 w m bs) : OkM bs := by
  obtain ⟨O, h1, _⟩ := h
  exact h1.ok
theorem Mine.below {B : Nat} {w0 w : World} {m : Nat} {bs : List Int} (h : Mine B w0 w m bs) : Below B w0 w := by
  obtain ⟨O, _, _, h1, _⟩ := h
  exact h1
theorem Mine.step {B : Nat} {w0 w w' : World} {m : Nat} {bs : List Int} {O O' : Nat → Prop} (h2 : ∀ j, O j → B ≤ j) (h3 : Below B w0 w) (h4 : B ≤ w0.heap.size) (k1 : Mem w' m bs O') (k2 : Only O w w') (k3 : ∀ j, O' j → O j ∨ w.heap.size ≤ j) : Mine B w0 w' m bs :=
  ⟨O', k1, fun j hj => (k3 j hj).elim (h2 j) (fun e => Nat.le_trans (Nat.le_trans h4 h3.size) e), h3.trans (k2.below (Nat.le_trans h4 h3.size) h2), h4⟩
theorem Write_mine {B : Nat} {w0 : World} (m : Nat) (bs bs' : List Int) (off size v : Int) (is : Bool) (w : World) (h1 : I64 off) (h2 : I64 size) (h3 : 0 ≤ v) (h4 : v < 4294967296) (h : Mine B w0 w m bs) (hb : placeB bs.length off size = is) (hw : writeV bs off size v.toNat = bs') :
    Calls Tryd.prog 14 #[.pointer (some ⟨m, 0, none⟩), .int .i64 off, .int .i64 size, .int .u32 v] w fun e w' => e = .returned (.bool is) ∧ Mine B w0 w' m bs' := by
  subst hw
  obtain ⟨O, a1, a2, a3, a4⟩ := h
  refine (Write_any m bs O off size v is w h1 h2 h3 h4 a1 hb).mono ?_
  rintro e w' ⟨rfl, O', b1, b2, b3⟩
  exact ⟨rfl, Mine.step a2 a3 a4 b1 b2 b3⟩
theorem Reset_mine {B : Nat} {w0 : World} (m n : Nat) (bs : List Int) (w : World) (h : Mine B w0 w m bs) (hn : bs.length = n) :
    Calls Tryd.prog 12 #[.pointer (some ⟨m, 0, none⟩)] w fun e w' => e = .returned (.tuple #[]) ∧ Mine B w0 w' m (zerosB n) := by
  subst hn
  obtain ⟨O, a1, a2, a3, a4⟩ := h
  refine (Reset_any m bs O w a1).mono ?_
  rintro e w' ⟨rfl, O', b1, b2, b3⟩
  exact ⟨rfl, Mine.step a2 a3 a4 b1 b2 b3⟩
theorem Read_mine {B : Nat} {w0 : World} (m : Nat) (bs : List Int) (off size v : Int) (is : Bool) (w : World) (h1 : I64 off) (h2 : I64 size) (h : Mine B w0 w m bs) (hv : readV bs off size = v) (hb : placeB bs.length off size = is) :
    Calls Tryd.prog 20 #[.pointer (some ⟨m, 0, none⟩), .int .i64 off, .int .i64 size] w fun e w' => e = .returned (.tuple #[.int .u32 v, .bool is]) ∧ Mine B w0 w' m bs ∧ Below w.heap.size w w' := by
  have h0 := h
  obtain ⟨O, a1, a2, a3, a4⟩ := h
  refine (Read_any m bs O off size v is w h1 h2 a1 hv hb).mono ?_
  rintro e w' ⟨rfl, b1⟩
  exact ⟨rfl, h0.keep b1, b1⟩
theorem Len_mine {B : Nat} {w0 : World} (m n : Nat) (bs : List Int) (w : World) (h : Mine B w0 w m bs) (hn : bs.length = n) :
    Calls Tryd.prog 17 #[.pointer (some ⟨m, 0, none⟩)] w fun e w' => e = .returned (.int .i64 (n : Nat)) ∧ Mine B w0 w' m bs := by
  subst hn
  have h0 := h
  obtain ⟨O, a1, a2, a3, a4⟩ := h
  refine (Len_any m bs O w a1).mono ?_
  rintro e w' ⟨rfl, b1⟩
  exact ⟨rfl, h0.keep b1⟩
theorem Bytes_mine {B : Nat} {w0 : World} (m n : Nat) (bs : List Int) (w : World) (h : Mine B w0 w m bs) (hn : bs.length = n) :
    Calls Tryd.prog 16 #[.pointer (some ⟨m, 0, none⟩)] w fun e w' => (∃ ga ca, e = .returned (.slice (some ⟨ga, 0, none⟩) n ca) ∧ w'.ownsRow w.heap.size 5 1 (.slice (some ⟨ga, 0, none⟩) n ca) n (bv bs)) ∧ Mine B w0 w' m bs ∧ Below w.heap.size w w' := by
  have h0 := h
  have hk := h.ok
  obtain ⟨O, a1, a2, a3, a4⟩ := h
  refine (Bytes_any m bs O w a1).mono ?_
  rintro e w' ⟨⟨a, c, rfl, ho⟩, hb⟩
  rw [hn] at ho
  obtain ⟨ga, ca, e1⟩ := own_pos ho (by have := hk.lo; omega)
  simp only [Value.slice.injEq] at e1
  obtain ⟨rfl, _, rfl⟩ := e1
  rw [hn]
  exact ⟨⟨ga, c, rfl, ho⟩, h0.keep hb, hb⟩
/-- Two memories, apart. -/
def Duo (B : Nat) (w0 w : World) (m c : Nat) (bs cs : List Int) : Prop := ∃ O P, Mem w m bs O ∧ Mem w c cs P ∧ (∀ j, O j → ¬ P j) ∧ (∀ j, O j → B ≤ j) ∧ (∀ j, P j → B ≤ j) ∧ Below B w0 w ∧ B ≤ w0.heap.size
theorem Duo.swap {B : Nat} {w0 w : World} {m c : Nat} {bs cs : List Int} (h : Duo B w0 w m c bs cs) : Duo B w0 w c m cs bs := by
  obtain ⟨O, P, h1, h2, h3, h4, h5, h6, h7⟩ := h
  exact ⟨P, O, h2, h1, fun j p o => h3 j o p, h5, h4, h6, h7⟩
theorem Duo.fst {B : Nat} {w0 w : World} {m c : Nat} {bs cs : List Int} (h : Duo B w0 w m c bs cs) : Mine B w0 w m bs := by
  obtain ⟨O, P, h1, h2, h3, h4, h5, h6, h7⟩ := h
  exact ⟨O, h1, h4, h6, h7⟩
theorem Duo.keep {B : Nat} {w0 w w' : World} {m c : Nat} {bs cs : List Int} (h : Duo B w0 w m c bs cs) (hb : Below w.heap.size w w') : Duo B w0 w' m c bs cs := by
  obtain ⟨O, P, h1, h2, h3, h4, h5, h6, h7⟩ := h
  exact ⟨O, P, h1.keep hb, h2.keep hb, h3, h4, h5, h6.trans (hb.mono (Nat.le_trans h7 h6.size)), h7⟩
theorem Copy_duo {B : Nat} {w0 : World} (m : Nat) (bs : List Int) (w : World) (h : Mine B w0 w m bs) :
    Calls Tryd.prog 13 #[.pointer (some ⟨m, 0, none⟩)] w fun e w' => ∃ c, e = .returned (.pointer (some ⟨c, 0, none⟩)) ∧ Duo B w0 w' m c bs bs := by
  obtain ⟨O, a1, a2, a3, a4⟩ := h
  have l := a1.lt
  refine (Copy_any m bs O w a1).mono ?_
  rintro e w' ⟨⟨c, P, rfl, b1, b2⟩, hb⟩
  have h5 := Nat.le_trans a4 a3.size
  exact ⟨c, rfl, O, P, a1.keep hb, b1, fun j o p => by have := l j o; have := b2 j p; omega, a2, fun j p => Nat.le_trans h5 (b2 j p), a3.trans (hb.mono h5), a4⟩
theorem Write_duo {B : Nat} {w0 : World} (m c : Nat) (bs cs bs' : List Int) (off size v : Int) (is : Bool) (w : World) (h1 : I64 off) (h2 : I64 size) (h3 : 0 ≤ v) (h4 : v < 4294967296) (h : Duo B w0 w m c bs cs) (hb : placeB bs.length off size = is) (hw : writeV bs off size v.toNat = bs') :
    Calls Tryd.prog 14 #[.pointer (some ⟨m, 0, none⟩), .int .i64 off, .int .i64 size, .int .u32 v] w fun e w' => e = .returned (.bool is) ∧ Duo B w0 w' m c bs' cs := by
  subst hw
  obtain ⟨O, P, a1, a2, a3, a4, a5, a6, a7⟩ := h
  have l := a2.lt
  refine (Write_any m bs O off size v is w h1 h2 h3 h4 a1 hb).mono ?_
  rintro e w' ⟨rfl, O', b1, b2, b3⟩
  have h5 := Nat.le_trans a7 a6.size
  exact ⟨rfl, O', P, b1, a2.only b2 (fun j p o => a3 j o p) a1.off, fun j o p => (b3 j o).elim (fun o => a3 j o p) (fun e => by have := l j p; omega), fun j o => (b3 j o).elim (a4 j) (Nat.le_trans h5), a5, a6.trans (b2.below h5 a4), a7⟩
theorem read_write4 {bs : List Int} {off : Int} {x : Nat} (hk : OkM bs) (hx : x < 4294967296) (h : placeB bs.length off 4 = true) : readV (writeV bs off 4 x) off 4 = x := by
  obtain ⟨o, m, rfl, hm, hmm, hd, hle⟩ := place_parts h hk.four
  obtain rfl : m = 4 := by omega
  have hw : writeV bs (o : Int) 4 x = putL bs o 4 x := write_at (m := 4) h
  rw [hw]
  have hp : placeB (putL bs o 4 x).length (o : Int) ((4 : Nat) : Int) = true := by rw [putL_length]; exact h
  rw [show (4 : Int) = ((4 : Nat) : Int) from rfl, read_at hp]
  exact read_put4 bs o x hle hx

theorem wf64 {x : Int} (h : (Lit.int .i64 x).wf = true) : I64 x := by
  simp only [Lit.wf, Bool.and_eq_true, decide_eq_true_eq] at h
  have h1 : IntKind.i64.min = -9223372036854775808 := rfl
  have h2 : IntKind.i64.max = 9223372036854775807 := rfl
  unfold I64
  omega
theorem wfu32 {x : Int} (h : (Lit.int .u32 x).wf = true) : 0 ≤ x ∧ x < 4294967296 := by
  simp only [Lit.wf, Bool.and_eq_true, decide_eq_true_eq] at h
  have h1 : IntKind.u32.min = 0 := rfl
  have h2 : IntKind.u32.max = 4294967295 := rfl
  omega
end Go.Proofs.YtffjnahcdgpklaaDoor.Ram
