/- Contracts: the bytes of a record; Encode. -/
import Derived.Test.YtblccnpdcnlhiaaCg
import Derived.Deep.RegionWith
namespace Go.Proofs.Ytblccnpdcnlhiaa.Access
open Go.RowKit Go.Maps Go.ChangeShapes Go.WideShapes Go.ChangeAt Kit Word
set_option linter.unusedVariables false

theorem code_letter {P : Program} {c : Code} {Q : Exit → Act → World → Prop} {a : Act} {w : World} (h : ∀ W, Hid (W = w) → c.wp P Q a W) : c.wp P Q a w := h w (Lib.hid rfl)
theorem wrap_u8 {W : Int} (h0 : 0 ≤ W) (h1 : W < 256) : IntKind.u8.wrap W = W := by
  have e : IntKind.u8.bits = 8 := rfl
  have e2 : IntKind.u8.signed = false := rfl
  simp [IntKind.wrap, e, e2]
  omega
theorem set_at {w : World} {p : Nat} {u v : Value} (h : w.cell? ⟨p, 0, none⟩ = some u) : (w.setCell ⟨p, 0, none⟩ v).cell? ⟨p, 0, none⟩ = some v := by simp [go_sem, h]
/-- A record that is being made: it in block B, its row in g, the row's slice in block P. -/
structure Work (w0 w : World) (B P g n : Nat) (W : Int) (r : Bool) (A S D : Int) (L : List Value) : Prop where
  five : Five w B W r A S D
  cp : w.cell? ⟨P, 0, none⟩ = some (.slice (some ⟨g, 0, none⟩) n 12)
  fp : w.frozen? ⟨P, 0, none⟩ = false
  own : w.ownsRow w0.heap.size 5 1 (.slice (some ⟨g, 0, none⟩) n 12) n L
  gP : g ≠ P
  BP : B ≠ P
  Bg : B ≠ g
  hP : w0.heap.size ≤ P
  hg : w0.heap.size ≤ g
  below : Below w0.heap.size w0 w
theorem Work.keep {w0 w w' : World} {B P g n : Nat} {W : Int} {r : Bool} {A S D : Int} {L : List Value} (h : Work w0 w B P g n W r A S D L) (hb : Below w.heap.size w w') : Work w0 w' B P g n W r A S D L :=
  ⟨h.five.keep hb, cell_keep hb h.cp, (hb.frozen (p := ⟨P, 0, none⟩) (World.block_lt_of_cell? w _ h.cp)).trans h.fp, bown_below h.own hb, h.gP, h.BP, h.Bg, h.hP, h.hg, h.below.trans (hb.mono h.below.size)⟩
theorem Work.drew {w0 w : World} {B P g n : Nat} {W : Int} {r : Bool} {A S D : Int} {L : List Value} (h : Work w0 w B P g n W r A S D L) : Work w0 w.drew B P g n W r A S D L := h.keep (Below.refl _ _).drew
theorem Work.alloc {w0 w : World} {B P g n : Nat} {W : Int} {r : Bool} {A S D : Int} {L : List Value} (h : Work w0 w B P g n W r A S D L) (o : Obj) : Work w0 (w.alloc o) B P g n W r A S D L := h.keep ((Below.refl _ _).alloc (Nat.le_refl _) _)
theorem put_work {w0 w : World} {B P g n : Nat} {W : Int} {r : Bool} {A S D : Int} {L : List Value} (h : Work w0 w B P g n W r A S D L) (m mc : Nat) (xs : List Value) (ad : Addr) (hfit : n + m ≤ 12) (hl : xs.length = m) (hc : ∀ j u, xs[j]? = some u → w.cell? (ad.add j) = some u) (h1 : ∀ u ∈ xs, u.oneCell' = true) :
    Calls Try.prog 43 #[.pointer (some ⟨P, 0, none⟩), .slice (some ad) m mc] w fun e w' => (∃ u, e = .returned u) ∧ Work w0 w' B P g (n + m) W r A S D (L ++ xs) := by
  refine (put_fits w0.heap.size P g n 12 m mc L xs ad w h.cp h.fp h.own h.gP hfit hl hc h1).mono ?_
  rintro e w' ⟨hu, h2, h3, h4, h5⟩
  refine ⟨hu, ⟨?_, h2, h3, h4, h.gP, h.BP, h.Bg, h.hP, h.hg, h.below.trans (h5.below h.below.size (fun k hk => ?_))⟩⟩
  · have hn : ¬ (B = P ∨ B = g) := fun e => e.elim h.BP h.Bg
    exact ⟨h5.cell hn h.five.c0, h5.cell hn h.five.c1, h5.cell hn h.five.c2, h5.cell hn h.five.c3, h5.cell hn h.five.c4⟩
  · rcases hk with rfl | rfl
    · exact h.hP
    · exact h.hg
theorem cells_new (w : World) (cs : Array Value) (t : TypeId) : ∀ j u, cs.toList[j]? = some u → (w.alloc (.cells cs t)).cell? ((⟨w.heap.size, 0, none⟩ : Addr).add j) = some u := by
  intro j u hu
  rw [Addr.add_lit, Nat.zero_add, World.cell?_alloc_at _ _ _ _ rfl]
  simpa using hu
theorem work_new (W : Int) (r : Bool) (A S D : Int) (w w1 : World) (t : TypeId)
    (hown : w1.ownsRow w.heap.size 5 1 (.slice (some ⟨(w.alloc (.cells #[.int .i64 W, .bool r, .int .u32 A, .int .i64 S, .int .u32 D] t)).heap.size, 0, none⟩) 0 12) 0 [])
    (hgrow : (w.alloc (.cells #[.int .i64 W, .bool r, .int .u32 A, .int .i64 S, .int .u32 D] t)).grownBy w1 none) :
    Work w (w1.alloc (.cells #[.slice (some ⟨w.heap.size + 1, 0, none⟩) 0 12] 87)) w.heap.size w1.heap.size (w.heap.size + 1) 0 W r A S D [] := by
  have e : (w.alloc (.cells #[.int .i64 W, .bool r, .int .u32 A, .int .i64 S, .int .u32 D] t)).heap.size = w.heap.size + 1 := by simp
  rw [e] at hown
  have hlt := (KitBytes.r_lt hown (w.heap.size + 1) ⟨_, rfl, rfl⟩).2
  have hb := (Below.refl _ _).grown hgrow (Nat.le_refl _) (fun k h => by cases h)
  refine ⟨((five_new w W r A S D t).keep hb).alloc _, World.cell?_alloc_at _ _ _ 0 rfl, ?_, bown_below hown ((Below.refl _ _).alloc (Nat.le_refl _) _), by omega, by omega, by omega, by omega, by omega, (((Below.refl _ _).alloc (Nat.le_refl _) _).trans (hb.mono (by simp))).alloc (by omega) _⟩
  simp [go_sem]
set_option maxRecDepth 8000 in
set_option maxHeartbeats 2000000 in
theorem bytes_any (W : Int) (r : Bool) (A S D : Int) (w : World) (hW : 0 ≤ W) (hW' : W < 256) (hA : 0 ≤ A) (hA' : A < 4294967296) (hD : 0 ≤ D) (hD' : D < 4294967296) :
    Calls Try.prog 29 #[acc W r A S D] w fun e w' => ∃ g, e = .returned (.slice (some ⟨g, 0, none⟩) 12 12) ∧ w'.ownsRow w.heap.size 5 1 (.slice (some ⟨g, 0, none⟩) 12 12) 12 (bv (recL W r A S D)) ∧ Below w.heap.size w w' := by
  obtain ⟨i0, hi, hz0, hz1, hz2⟩ := info_parts KitBytes.info_e
  have Hi := Lib.hid hi
  have Hz0 := Lib.hid hz0
  have Hz1 := Lib.hid hz1
  have Hz2 := Lib.hid hz2
  clear hi hz0 hz1 hz2
  obtain ⟨f, hf⟩ : ∃ f, flagV r S = f := ⟨_, rfl⟩
  go_enter Try.func29, Try.ntmps29
  go_wp2_with (at_make; refine wpList_make_own _ rfl _ _ 87 rfl w.heap.size 5 i0 (.int .u8 0) 1 Try.underlying87 Hi.out Hz0.out Hz1.out _ _ _ 12 rfl rfl (by omega) (by rw [Hz2.out]; omega) (by unfold maxLen; omega) (by simp) ?_; intro w1 hown1 hgrow1)
  refine code_letter ?_
  intro W2 hW2
  have HW : Hid (Work w W2 w.heap.size w1.heap.size (w.heap.size + 1) 0 W r A S D []) := by
    rw [hW2.out]
    exact work_new W r A S D w w1 _ hown1 hgrow1
  obtain ⟨P, hP⟩ : ∃ P, w1.heap.size = P := ⟨_, rfl⟩
  obtain ⟨g, hg⟩ : ∃ g, w.heap.size + 1 = g := ⟨_, rfl⟩
  obtain ⟨B, hB⟩ : ∃ B, w.heap.size = B := ⟨_, rfl⟩
  rw [hP, hg, hB] at HW
  rw [hP, hg, hB]
  clear hP hg hB hW2 hown1 hgrow1
  obtain ⟨k0, k1, k2, k3, k4⟩ := HW.out.five
  go_region_with ((first | (go_at_call 44; refine (flags_any W r A S D f _ hf).mono ?_; rintro e w3 ⟨rfl, hb⟩; have Hw3 := Lib.hid (HW.out.drew.keep hb); obtain ⟨q0, q1, q2, q3, q4⟩ := Hw3.out.five) | (go_at_call 43; refine (put_work (Hw3.out.alloc _) 4 4 (bv [IntKind.u8.wrap W, f, 0, 0]) ⟨_, 0, none⟩ (by omega) rfl (cells_new _ _ _) (bv_one _)).mono ?_; rintro e w4 ⟨⟨u, rfl⟩, hw4⟩)))
  all_goals
    have Hw4 := Lib.hid hw4
    clear hw4 Hw3 q0 q1 q2 q3 q4 k0 k1 k2 k3 k4 hb
    have k2 := Hw4.out.five.c2
    go_wp2_with fail
    refine (bytes_4 A _ hA hA').mono ?_
    rintro e w' ⟨rfl, rfl⟩
    go_wp2_with fail
    refine (put_work (Hw4.out.alloc _) 4 4 (bv [A % 256, A / 256 % 256, A / 65536 % 256, A / 16777216]) ⟨_, 0, none⟩ (by omega) rfl (cells_new _ _ _) (bv_one _)).mono ?_
    rintro e w5 ⟨⟨u2, rfl⟩, hw5⟩
    have Hw5 := Lib.hid hw5
    clear hw5 k2
    have k4 := Hw5.out.five.c4
    go_wp2_with fail
    refine (bytes_4 D _ hD hD').mono ?_
    rintro e w' ⟨rfl, rfl⟩
    go_wp2_with fail
    refine (put_work (Hw5.out.alloc _) 4 4 (bv [D % 256, D / 256 % 256, D / 65536 % 256, D / 16777216]) ⟨_, 0, none⟩ (by omega) rfl (cells_new _ _ _) (bv_one _)).mono ?_
    rintro e w6 ⟨⟨u3, rfl⟩, hw6⟩
    have Hw6 := Lib.hid hw6
    clear hw6 k4
    have kp := Hw6.out.cp
    go_wp2_with fail
    go_ret
    refine ⟨g, rfl, ?_, Hw6.out.below⟩
    have := Hw6.out.own
    have e1 := wrap_u8 hW hW'
    rw [e1, ← hf] at this
    exact this

/-- What Encode answers: an own row of n bytes, and an error. -/
def EncRow (n : Nat) (l : List Int) (er : Int) (w : World) (e : Ending) (w' : World) : Prop :=
  ∃ a c, e = .returned (.tuple #[.slice a n c, .int .i64 er]) ∧ w'.ownsRow w.heap.size 5 1 (.slice a n c) n (bv l) ∧ Below w.heap.size w w'
/-- Which bytes, which error. -/
def Enc (b : Bool) (W : Int) (r : Bool) (A S D : Int) (n : Nat) (l : List Int) (er : Int) : Prop := (b = true ∧ n = 12 ∧ l = recL W r A S D ∧ er = 0) ∨ (b = false ∧ n = 0 ∧ l = [] ∧ er = 2)
theorem Encode_no (W : Int) (r : Bool) (A S D : Int) (w : World)
    (R : ∀ w, Calls Try.prog 14 #[acc W r A S D] w fun e w' => e = .returned (.bool false) ∧ Below w.heap.size w w') :
    Calls Try.prog 13 #[acc W r A S D] w (EncRow 0 [] 2 w) := by
  go_enter Try.func13, Try.ntmps13
  go_wp2_with fail
  refine (R _).mono ?_
  rintro e w1 ⟨rfl, hb⟩
  have Hb := Lib.hid (((Below.refl w.heap.size w).alloc (Nat.le_refl _) _).trans (hb.mono (by simp)))
  clear hb
  go_wp2_with fail
  go_ret2
  exact ⟨none, 0, rfl, World.ownsRow_nil _ _ _ _, Hb.out⟩
theorem Encode_yes (W : Int) (r : Bool) (A S D : Int) (w : World)
    (R : ∀ w, Calls Try.prog 14 #[acc W r A S D] w fun e w' => e = .returned (.bool true) ∧ Below w.heap.size w w')
    (B : ∀ w, Calls Try.prog 29 #[acc W r A S D] w fun e w' => ∃ g, e = .returned (.slice (some ⟨g, 0, none⟩) 12 12) ∧ w'.ownsRow w.heap.size 5 1 (.slice (some ⟨g, 0, none⟩) 12 12) 12 (bv (recL W r A S D)) ∧ Below w.heap.size w w') :
    Calls Try.prog 13 #[acc W r A S D] w (EncRow 12 (recL W r A S D) 0 w) := by
  go_enter Try.func13, Try.ntmps13
  go_wp2_with fail
  refine (R _).mono ?_
  rintro e w1 ⟨rfl, hb⟩
  obtain ⟨k0, k1, k2, k3, k4⟩ := (five_new w W r A S D _).keep hb
  have Hb := Lib.hid (((Below.refl w.heap.size w).alloc (Nat.le_refl _) _).trans (hb.mono (by simp)))
  clear hb
  go_wp2_with fail
  refine (B _).mono ?_
  rintro e w2 ⟨g, rfl, hown, hb⟩
  have Hown := Lib.hid (KitBytes.own_base hown Hb.out.size)
  have Hb2 := Lib.hid (Hb.out.trans (hb.mono Hb.out.size))
  clear hown hb k0 k1 k2 k3 k4
  go_wp2_with fail
  go_ret2
  exact ⟨_, _, rfl, Hown.out, Hb2.out⟩
theorem Encode_any (W : Int) (r : Bool) (A S D : Int) (b : Bool) (n : Nat) (l : List Int) (er : Int) (w : World) (hA : 0 ≤ A) (hA' : A < 4294967296) (hD : 0 ≤ D) (hD' : D < 4294967296) (hb : rightB W r A S D = b) (h : Enc b W r A S D n l er) :
    Calls Try.prog 13 #[acc W r A S D] w (EncRow n l er w) := by
  rcases h with ⟨rfl, rfl, rfl, rfl⟩ | ⟨rfl, rfl, rfl, rfl⟩
  · obtain ⟨h0, h8, _⟩ := right_parts hb
    exact Encode_yes W r A S D w (fun w => Right_any W r A S D _ w hA hA' hD hD' hb) (fun w => bytes_any W r A S D w h0 (by omega) hA hA' hD hD')
  · exact Encode_no W r A S D w (fun w => Right_any W r A S D _ w hA hA' hD hD' hb)
end Go.Proofs.Ytblccnpdcnlhiaa.Access
