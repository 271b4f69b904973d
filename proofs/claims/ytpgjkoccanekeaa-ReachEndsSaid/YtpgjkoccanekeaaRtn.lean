/- spans: a new row of what came in. -/
import Derived.Test.YtpgjkoccanekeaaRtm
import Derived.Test.YtpgjkoccanekeaaRtc
import Derived.Test.YtpgjkoccanekeaaRte
import Derived.Laws.OwnMore
import Derived.OwnWalk
namespace Go.Proofs.Ytpgjkoccanekeaa.Reach
open Go.RowKit Go.Maps Go.ChangeShapes Go.WideShapes Go.ChangeAt
set_option linter.unusedVariables false

/-- A slice of reaches, to be read. -/
def RowR (w : World) (a : Option Addr) (n : Nat) (d : List (Int × Int)) : Prop :=
  d.length = n ∧ ∀ j, j < n → ∃ b off, a = some ⟨b, off, none⟩ ∧ w.cell? ⟨b, off + j * 2, none⟩ = some (.int .u32 d[j]!.1) ∧ w.cell? ⟨b, off + j * 2 + 1, none⟩ = some (.int .u32 d[j]!.2)
theorem RowR.keep {w w' : World} {a : Option Addr} {n : Nat} {d : List (Int × Int)} (h : RowR w a n d) (hb : Below w.heap.size w w') : RowR w' a n d :=
  ⟨h.1, fun j hj => by
    obtain ⟨b, off, ha, h1, h2⟩ := h.2 j hj
    exact ⟨b, off, ha, cell_keep hb h1, cell_keep hb h2⟩⟩

/-- The cells of reaches, one behind the other. -/
def fl (d : List (Int × Int)) : List Value := d.flatMap fun x => [.int .u32 x.1, .int .u32 x.2]
theorem fl_length (d : List (Int × Int)) : (fl d).length = d.length * 2 := by
  induction d with
  | nil => rfl
  | cons x d ih => simp [fl] at ih ⊢; omega
theorem fl_snoc (d : List (Int × Int)) (x : Int × Int) : fl (d ++ [x]) = fl d ++ [.int .u32 x.1, .int .u32 x.2] := by simp [fl]
def part (d : List (Int × Int)) (n k : Nat) : List Value := fl (d.take k) ++ List.replicate ((n - k) * 2) (.int .u32 0)
theorem part_zero (d : List (Int × Int)) (n : Nat) : part d n 0 = List.replicate (n * 2) (.int .u32 0) := by simp [part, fl]
theorem part_all (d : List (Int × Int)) (n : Nat) (h : d.length = n) : part d n n = fl d := by simp [part, ← h]
theorem part_step (d : List (Int × Int)) (n k : Nat) (h : d.length = n) (hk : k < n) :
    ((part d n k).set (k * 2) (.int .u32 d[k]!.1)).set (k * 2 + 1) (.int .u32 d[k]!.2) = part d n (k + 1) := by
  have hA : (fl (d.take k)).length = k * 2 := by rw [fl_length, List.length_take]; congr 1; omega
  have hr : (n - k) * 2 = (n - (k + 1)) * 2 + 1 + 1 := by omega
  have ht : d.take (k + 1) = d.take k ++ [d[k]!] := by
    rw [List.take_succ_eq_append_getElem (by omega), getElem!_pos d k (by omega)]
  unfold part
  rw [hr, List.replicate_succ, List.replicate_succ, ht, fl_snoc, List.set_append_right _ _ (by omega), hA, Nat.sub_self, List.set_cons_zero, List.set_append_right _ _ (by omega), hA]
  rw [show k * 2 + 1 - k * 2 = 1 by omega]
  simp

theorem made_two (m : Nat) : (madeCells #[Value.int .u32 0, .int .u32 0] m).toList = List.replicate m (.int .u32 0) := by
  apply List.ext_getElem
  · simp [madeCells]
  · intro i h1 h2
    simp [madeCells]
    have : i % 2 = 0 ∨ i % 2 = 1 := by omega
    rcases this with h | h <;> rw [h] <;> rfl

theorem info_s : (Try.prog.info? 45).map (fun i => (i.zero, i.size, i.bytes)) = some (some (.agg #[.int .u32 0, .int .u32 0]), 2, 8) := by kernel_rfl

theorem part_get (d : List (Int × Int)) (n k j : Nat) (h : d.length = n) (hk : k < n) (hj : j < 2) : (part d n k)[k * 2 + j]? = some (.int .u32 0) := by
  have hA : (fl (d.take k)).length = k * 2 := by rw [fl_length, List.length_take]; congr 1; omega
  unfold part
  rw [List.getElem?_append_right (by omega), hA, List.getElem?_replicate, if_pos (by omega)]
set_option maxHeartbeats 1000000 in
theorem spans_any (a : Option Addr) (n cap : Nat) (d : List (Int × Int)) (w : World) (hn : n ≤ 1000000) (h : RowR w a n d) :
    Calls Try.prog 31 #[.slice a n cap] w fun e w' => e = .returned (.slice (some ⟨w.heap.size, 0, none⟩) n n) ∧ w'.ownsRow w.heap.size 45 2 (.slice (some ⟨w.heap.size, 0, none⟩) n n) n (fl d) ∧ Below w.heap.size w w' := by
  obtain ⟨i0, hi, hz0, hz1, hz2⟩ := info_parts info_s
  have Hi := Lib.hid hi
  have Hz0 := Lib.hid hz0
  have Hz1 := Lib.hid hz1
  have Hz2 := Lib.hid hz2
  have Hr := Lib.hid h
  clear hi hz0 hz1 hz2 h
  go_enter Try.func31, Try.ntmps31
  go_wp2_with (at_make; refine wpList_make_full w rfl _ _ 47 rfl w.heap.size 45 i0 (.agg #[.int .u32 0, .int .u32 0]) 2 Try.underlying47 Hi.out Hz0.out Hz1.out .i64 .i64 n n n rfl rfl rfl rfl (by rw [Hz2.out]; omega) (by unfold maxLen; omega) (Nat.le_refl _) ?_; intro wm hown hgrow)
  have Hown := Lib.hid hown
  have Hgr := Lib.hid hgrow
  clear hown hgrow
  go_loopw [11] (fun i wr => ∃ k : Nat, k ≤ n ∧ i = .int .i64 k ∧ wr.ownsRow w.heap.size 45 2 (.slice (some ⟨w.heap.size, 0, none⟩) n n) n (part d n k) ∧ Below w.heap.size w wr) (fun i _ => n - (intOf i).toNat)
  case atStart =>
    refine ⟨0, Nat.zero_le _, rfl, ?_, (Below.refl _ _).grown Hgr.out (Nat.le_refl _) (fun k h => by cases h)⟩
    have := Hown.out
    rw [show (Value.agg #[Value.int .u32 0, .int .u32 0]).cells = #[Value.int .u32 0, .int .u32 0] from rfl, made_two] at this
    rw [part_zero]
    exact this
  case round =>
    obtain ⟨k, hk, rfl, hrow, hb⟩ := hrel
    have Hrow := Lib.hid hrow
    have Hb := Lib.hid hb
    have hsz := hb.size
    clear hrow hb
    by_cases hlt : k < n
    · obtain ⟨b, off, rfl, c0, c1⟩ := Hr.out.2 k hlt
      have d0 := cell_keep Hb.out c0
      have d1 := cell_keep Hb.out c1
      clear c0 c1
      obtain ⟨x, hx⟩ : ∃ x, d[k]!.1 = x := ⟨_, rfl⟩
      obtain ⟨y, hy⟩ : ∃ y, d[k]!.2 = y := ⟨_, rfl⟩
      rw [hx] at d0
      rw [hy] at d1
      have Hx := Lib.hid hx
      have Hy := Lib.hid hy
      clear hx hy
      have o := Hrow.out
      have s0 := (o.cellAt (k * 2) (by omega)).trans (part_get d n k 0 Hr.out.1 hlt (by omega))
      have s1 := (o.cellAt (k * 2 + 1) (by omega)).trans (part_get d n k 1 Hr.out.1 hlt (by omega))
      have f0 := o.frozenAt (k * 2)
      have f1 := o.frozenAt (k * 2 + 1)
      clear o
      have hgsz : w.heap.size < wr.heap.size := cell_lt ((Hrow.out.cellAt (k * 2) (by omega)).trans (part_get d n k 0 Hr.out.1 hlt (by omega)))
      go_wp2_with fail
      refine ⟨⟨k + 1, by omega, by go_num, ?_, ?_⟩, by simp [intOf]; omega⟩
      · have p := part_step d n k Hr.out.1 hlt
        rw [Hx.out, Hy.out] at p
        rw [← p]
        exact ((Hrow.out.stored (k * 2) _).1.stored (k * 2 + 1) _).1.alloc _
      · exact ((Hb.out.setCell (p := ⟨w.heap.size, k * 2, none⟩) (Nat.le_refl _) _).setCell (p := ⟨w.heap.size, k * 2 + 1, none⟩) (Nat.le_refl _) _).alloc (by simp; omega) _
    · obtain rfl : k = n := by omega
      go_wp2_with fail
      go_ret
      exact ⟨rfl, by have := Hrow.out; rwa [part_all d k Hr.out.1] at this, Hb.out⟩
end Go.Proofs.Ytpgjkoccanekeaa.Reach
