/- Put together: Rtm, Rtn, Rto. -/
import Derived.Sort.Statements
import Derived.Test.YtmdepkehpohgeaaGreatRt
import Derived.Laws.OwnMore
import Derived.OwnWalk
/- Reaches as pairs: which lists of them are apart, and that neighbours tell it of a list in order. Plain. -/
namespace Go.Proofs.YtmdepkehpohgeaaGreat.Reach
open Go.Sort

def rightP (x : Int × Int) : Bool := decide (x.1 ≤ x.2)
def meetsP (x y : Int × Int) : Bool := decide (max x.1 y.1 ≤ min x.2 y.2)
def lessP (x y : Int × Int) : Bool := decide (x.1 < y.1 ∨ x.1 = y.1 ∧ x.2 < y.2)
/-- Are all right, and no two meet? -/
def ApartP (d : List (Int × Int)) : Prop := (∀ i, i < d.length → rightP d[i]! = true) ∧ ∀ i k, k < i → i < d.length → meetsP d[i]! d[k]! = false
noncomputable instance (d : List (Int × Int)) : Decidable (ApartP d) := Classical.propDecidable _
noncomputable def apartB (d : List (Int × Int)) : Bool := decide (ApartP d)
theorem apart_no_right {d : List (Int × Int)} {i : Nat} (hi : i < d.length) (h : rightP d[i]! = false) : apartB d = false :=
  decide_eq_false fun a => by rw [a.1 i hi] at h; cases h
theorem apart_no_meet {d : List (Int × Int)} {i k : Nat} (hk : k < i) (hi : i < d.length) (h : meetsP d[i]! d[k]! = true) : apartB d = false :=
  decide_eq_false fun a => by rw [a.2 i k hk hi] at h; cases h
theorem apart_yes {d : List (Int × Int)} (h1 : ∀ i, i < d.length → rightP d[i]! = true) (h2 : ∀ i k, k < i → i < d.length → meetsP d[i]! d[k]! = false) : apartB d = true :=
  decide_eq_true ⟨h1, h2⟩
theorem meetsP_comm (x y : Int × Int) : meetsP x y = meetsP y x := by
  unfold meetsP; rw [decide_eq_decide]; omega

theorem apartP_iff (d : List (Int × Int)) : ApartP d ↔ (∀ x ∈ d, rightP x = true) ∧ d.Pairwise fun x y => meetsP x y = false := by
  rw [List.pairwise_iff_getElem]
  constructor
  · rintro ⟨h1, h2⟩
    refine ⟨fun x hx => ?_, fun i j hi hj hij => ?_⟩
    · obtain ⟨i, hi, rfl⟩ := List.getElem_of_mem hx
      have := h1 i hi
      rwa [getElem!_pos d i hi] at this
    · have := h2 j i hij hj
      rw [getElem!_pos d i hi, getElem!_pos d j hj] at this
      rw [meetsP_comm]; exact this
  · rintro ⟨h1, h2⟩
    refine ⟨fun i hi => ?_, fun i k hk hi => ?_⟩
    · rw [getElem!_pos d i hi]
      exact h1 _ (List.getElem_mem hi)
    · rw [getElem!_pos d i hi, getElem!_pos d k (by omega), meetsP_comm]
      exact h2 k i (by omega) hi hk
theorem apartP_perm {d e : List (Int × Int)} (h : d.Perm e) : ApartP d ↔ ApartP e := by
  rw [apartP_iff, apartP_iff]
  have hm : ∀ x, x ∈ d ↔ x ∈ e := fun x => h.mem_iff
  have hp := h.pairwise_iff (R := fun x y => meetsP x y = false) (fun {x y} hxy => by rw [meetsP_comm]; exact hxy)
  rw [hp]
  exact ⟨fun ⟨a, b⟩ => ⟨fun x hx => a x ((hm x).2 hx), b⟩, fun ⟨a, b⟩ => ⟨fun x hx => a x ((hm x).1 hx), b⟩⟩

/-- No two side by side meet. -/
def NoNeigh (d : List (Int × Int)) : Prop := ∀ i, i + 1 < d.length → meetsP d[i]! d[i + 1]! = false
noncomputable instance (d : List (Int × Int)) : Decidable (NoNeigh d) := Classical.propDecidable _
noncomputable def neighB (d : List (Int × Int)) : Bool := !decide (NoNeigh d)
theorem neigh_yes {d : List (Int × Int)} {i : Nat} (hi : i + 1 < d.length) (h : meetsP d[i]! d[i + 1]! = true) : neighB d = true := by
  unfold neighB
  rw [decide_eq_false]
  · rfl
  · intro a; rw [a i hi] at h; cases h
theorem neigh_no {d : List (Int × Int)} (h : ∀ i, i + 1 < d.length → meetsP d[i]! d[i + 1]! = false) : neighB d = false := by
  unfold neighB; rw [decide_eq_true (show NoNeigh d from h)]; rfl
/-- In order, neighbours tell. -/
theorem apart_sorted {d : List (Int × Int)} (hr : ∀ x ∈ d, rightP x = true) (hs : ∀ i j, i < j → j < d.length → lessP d[j]! d[i]! = false) : apartB d = !neighB d := by
  unfold neighB
  rw [Bool.not_not]
  unfold apartB
  rw [decide_eq_decide]
  constructor
  · rintro ⟨h1, h2⟩ i hi
    rw [meetsP_comm]
    exact h2 (i + 1) i (by omega) hi
  · intro h
    refine ⟨fun i hi => by rw [getElem!_pos d i hi]; exact hr _ (List.getElem_mem hi), fun i k hk hi => ?_⟩
    have hR : ∀ j, j < d.length → d[j]!.1 ≤ d[j]!.2 := fun j hj => by
      have := hr _ (List.getElem_mem hj)
      rw [getElem!_pos d j hj]
      simpa [rightP] using this
    have hL : ∀ i j, i < j → j < d.length → d[i]!.1 ≤ d[j]!.1 := fun i j hij hj => by
      have := hs i j hij hj
      unfold lessP at this
      have := of_decide_eq_false this
      omega
    have h0 := h k (by omega)
    have a := of_decide_eq_false h0
    refine decide_eq_false fun hm => a ?_
    have b1 := hR (k + 1) (by omega)
    have b2 := hL k (k + 1) (by omega) (by omega)
    have b3 : d[k + 1]!.1 ≤ d[i]!.1 := by
      by_cases e : k + 1 = i
      · rw [e]; exact Int.le_refl _
      · exact hL (k + 1) i (by omega) hi
    omega
end Go.Proofs.YtmdepkehpohgeaaGreat.Reach
/- spans: a new row of what came in. -/
namespace Go.Proofs.YtmdepkehpohgeaaGreat.Reach
open Go.RowKit Go.Maps Go.ChangeShapes Go.WideShapes Go.ChangeAt
set_option linter.unusedVariables false

/-- A slice of reaches, to be read. -/
def RowR (w : World) (a : Option Addr) (n : Nat) (d : List (Int × Int)) : Prop :=
  d.length = n ∧ ∀ j, j < n → ∃ b off, a = some ⟨b, off, none⟩ ∧ w.cell? ⟨b, off + j * 2, none⟩ = some (.int .u32 d[j]!.1) ∧ w.cell? ⟨b, off + j * 2 + 1, none⟩ = some (.int .u32 d[j]!.2)
theorem RowR.keep {w w' : World} {a : Option Addr} {n : Nat} {d : List (Int × Int)} (h : RowR w a n d) (hb : Below w.heap.size w w') : RowR w' a n d :=
  ⟨h.1, fun j hj => by
    obtain ⟨b, off, ha, h1, h2⟩ := h.2 j hj
    exact ⟨b, off, ha, cell_keep hb h1, cell_keep hb h2⟩⟩

/-- The cells of reaches, one behind the other. -/
def fl (d : List (Int × Int)) : List Value := d.flatMap fun x => [.int .u32 x.1, .int .u32 x.2]
theorem fl_length (d : List (Int × Int)) : (fl d).length = d.length * 2 := by
  induction d with
  | nil => rfl
  | cons x d ih => simp [fl] at ih ⊢; omega
theorem fl_snoc (d : List (Int × Int)) (x : Int × Int) : fl (d ++ [x]) = fl d ++ [.int .u32 x.1, .int .u32 x.2] := by simp [fl]
def part (d : List (Int × Int)) (n k : Nat) : List Value := fl (d.take k) ++ List.replicate ((n - k) * 2) (.int .u32 0)
theorem part_zero (d : List (Int × Int)) (n : Nat) : part d n 0 = List.replicate (n * 2) (.int .u32 0) := by simp [part, fl]
theorem part_all (d : List (Int × Int)) (n : Nat) (h : d.length = n) : part d n n = fl d := by simp [part, ← h]
theorem part_step (d : List (Int × Int)) (n k : Nat) (h : d.length = n) (hk : k < n) :
    ((part d n k).set (k * 2) (.int .u32 d[k]!.1)).set (k * 2 + 1) (.int .u32 d[k]!.2) = part d n (k + 1) := by
  have hA : (fl (d.take k)).length = k * 2 := by rw [fl_length, List.length_take]; congr 1; omega
  have hr : (n - k) * 2 = (n - (k + 1)) * 2 + 1 + 1 := by omega
  have ht : d.take (k + 1) = d.take k ++ [d[k]!] := by
    rw [List.take_succ_eq_append_getElem (by omega), getElem!_pos d k (by omega)]
  unfold part
  rw [hr, List.replicate_succ, List.replicate_succ, ht, fl_snoc, List.set_append_right _ _ (by omega), hA, Nat.sub_self, List.set_cons_zero, List.set_append_right _ _ (by omega), hA]
  rw [show k * 2 + 1 - k * 2 = 1 by omega]
  simp

theorem made_two (m : Nat) : (madeCells #[Value.int .u32 0, .int .u32 0] m).toList = List.replicate m (.int .u32 0) := by
  apply List.ext_getElem
  · simp [madeCells]
  · intro i h1 h2
    simp [madeCells]
    have : i % 2 = 0 ∨ i % 2 = 1 := by omega
    rcases this with h | h <;> rw [h] <;> rfl

theorem info_s : (Tryz.prog.info? 153).map (fun i => (i.zero, i.size, i.bytes)) = some (some (.agg #[.int .u32 0, .int .u32 0]), 2, 8) := by kernel_rfl

theorem part_get (d : List (Int × Int)) (n k j : Nat) (h : d.length = n) (hk : k < n) (hj : j < 2) : (part d n k)[k * 2 + j]? = some (.int .u32 0) := by
  have hA : (fl (d.take k)).length = k * 2 := by rw [fl_length, List.length_take]; congr 1; omega
  unfold part
  rw [List.getElem?_append_right (by omega), hA, List.getElem?_replicate, if_pos (by omega)]
set_option maxHeartbeats 1000000 in
theorem spans_any (a : Option Addr) (n cap : Nat) (d : List (Int × Int)) (w : World) (hn : n ≤ 1000000) (h : RowR w a n d) :
    Calls Tryz.prog 96 #[.slice a n cap] w fun e w' => e = .returned (.slice (some ⟨w.heap.size, 0, none⟩) n n) ∧ w'.ownsRow w.heap.size 153 2 (.slice (some ⟨w.heap.size, 0, none⟩) n n) n (fl d) ∧ Below w.heap.size w w' := by
  obtain ⟨i0, hi, hz0, hz1, hz2⟩ := info_parts info_s
  have Hi := Lib.hid hi
  have Hz0 := Lib.hid hz0
  have Hz1 := Lib.hid hz1
  have Hz2 := Lib.hid hz2
  have Hr := Lib.hid h
  clear hi hz0 hz1 hz2 h
  go_enter Tryz.func96, Tryz.ntmps96
  go_wp2_with (at_make; refine wpList_make_full w rfl _ _ 149 rfl w.heap.size 153 i0 (.agg #[.int .u32 0, .int .u32 0]) 2 Tryz.underlying149 Hi.out Hz0.out Hz1.out .i64 .i64 n n n rfl rfl rfl rfl (by rw [Hz2.out]; omega) (by unfold maxLen; omega) (Nat.le_refl _) ?_; intro wm hown hgrow)
  have Hown := Lib.hid hown
  have Hgr := Lib.hid hgrow
  clear hown hgrow
  go_loopw [11] (fun i wr => ∃ k : Nat, k ≤ n ∧ i = .int .i64 k ∧ wr.ownsRow w.heap.size 153 2 (.slice (some ⟨w.heap.size, 0, none⟩) n n) n (part d n k) ∧ Below w.heap.size w wr) (fun i _ => n - (intOf i).toNat)
  case atStart =>
    refine ⟨0, Nat.zero_le _, rfl, ?_, (Below.refl _ _).grown Hgr.out (Nat.le_refl _) (fun k h => by cases h)⟩
    have := Hown.out
    rw [show (Value.agg #[Value.int .u32 0, .int .u32 0]).cells = #[Value.int .u32 0, .int .u32 0] from rfl, made_two] at this
    rw [part_zero]
    exact this
  case round =>
    obtain ⟨k, hk, rfl, hrow, hb⟩ := hrel
    have Hrow := Lib.hid hrow
    have Hb := Lib.hid hb
    have hsz := hb.size
    clear hrow hb
    by_cases hlt : k < n
    · obtain ⟨b, off, rfl, c0, c1⟩ := Hr.out.2 k hlt
      have d0 := cell_keep Hb.out c0
      have d1 := cell_keep Hb.out c1
      clear c0 c1
      obtain ⟨x, hx⟩ : ∃ x, d[k]!.1 = x := ⟨_, rfl⟩
      obtain ⟨y, hy⟩ : ∃ y, d[k]!.2 = y := ⟨_, rfl⟩
      rw [hx] at d0
      rw [hy] at d1
      have Hx := Lib.hid hx
      have Hy := Lib.hid hy
      clear hx hy
      have o := Hrow.out
      have s0 := (o.cellAt (k * 2) (by omega)).trans (part_get d n k 0 Hr.out.1 hlt (by omega))
      have s1 := (o.cellAt (k * 2 + 1) (by omega)).trans (part_get d n k 1 Hr.out.1 hlt (by omega))
      have f0 := o.frozenAt (k * 2)
      have f1 := o.frozenAt (k * 2 + 1)
      clear o
      have hgsz : w.heap.size < wr.heap.size := cell_lt ((Hrow.out.cellAt (k * 2) (by omega)).trans (part_get d n k 0 Hr.out.1 hlt (by omega)))
      go_wp2_with fail
      refine ⟨⟨k + 1, by omega, by go_num, ?_, ?_⟩, by simp [intOf]; omega⟩
      · have p := part_step d n k Hr.out.1 hlt
        rw [Hx.out, Hy.out] at p
        rw [← p]
        exact ((Hrow.out.stored (k * 2) _).1.stored (k * 2 + 1) _).1.alloc _
      · exact ((Hb.out.setCell (p := ⟨w.heap.size, k * 2, none⟩) (Nat.le_refl _) _).setCell (p := ⟨w.heap.size, k * 2 + 1, none⟩) (Nat.le_refl _) _).alloc (by simp; omega) _
    · obtain rfl : k = n := by omega
      go_wp2_with fail
      go_ret
      exact ⟨rfl, by have := Hrow.out; rwa [part_all d k Hr.out.1] at this, Hb.out⟩
end Go.Proofs.YtmdepkehpohgeaaGreat.Reach
/- ofNeighbours, of meets: do any two side by side meet? -/
namespace Go.Proofs.YtmdepkehpohgeaaGreat.Reach
open Go.RowKit Go.Maps Go.ChangeShapes Go.WideShapes Go.ChangeAt
set_option linter.unusedVariables false

theorem meets_val (f t g u : Int) (b : Bool) (w : World) (h : meetsP (f, t) (g, u) = b) :
    Calls Tryz.prog 102 #[.agg #[.int .u32 f, .int .u32 t], .agg #[.int .u32 g, .int .u32 u]] w fun e w' => e = .returned (.bool b) ∧ Below w.heap.size w w' := by
  subst h; exact meets_any f t g u w
set_option maxHeartbeats 1000000 in
theorem neigh_any (g n c : Nat) (d : List (Int × Int)) (w : World) (hn : n ≤ 1000000) (h : RowR w (some ⟨g, 0, none⟩) n d) :
    Calls Tryz.prog 101 #[.func (.func 102) #[] #[], .slice (some ⟨g, 0, none⟩) n c] w fun e w' => e = .returned (.bool (neighB d)) ∧ Below w.heap.size w w' := by
  have Hr := Lib.hid h
  clear h
  go_enter Tryz.func101, Tryz.ntmps101
  go_wp2_with fail
  go_loopw [5] (fun i wr => ∃ k : Nat, k ≤ n ∧ i = .int .i64 ((k : Int) + 1) ∧ Hid (∀ j, j < k → j + 1 < n → meetsP d[j]! d[j + 1]! = false) ∧ Below w.heap.size w wr) (fun i _ => n + 1 - (intOf i).toNat)
  case atStart => exact ⟨0, Nat.zero_le _, rfl, Lib.hid (fun j hj => by omega), Below.refl _ _⟩
  case round =>
    obtain ⟨k, hk, rfl, hno, hb⟩ := hrel
    have Hb := Lib.hid hb
    have hsz := hb.size
    clear hb
    by_cases hlt : k + 1 < n
    · obtain ⟨b, off, hbo, c0, c1⟩ := Hr.out.2 k (by omega)
      obtain ⟨rfl, rfl⟩ : b = g ∧ off = 0 := by simp at hbo; omega
      obtain ⟨b', off', hbo', c2, c3⟩ := Hr.out.2 (k + 1) hlt
      obtain ⟨rfl, rfl⟩ : b' = b ∧ off' = 0 := by simp at hbo'; omega
      clear hbo hbo'
      have e0 := cell_keep Hb.out c0
      have e1 := cell_keep Hb.out c1
      have e2 := cell_keep Hb.out c2
      have e3 := cell_keep Hb.out c3
      clear c0 c1 c2 c3
      rw [Nat.zero_add] at e0 e1 e2 e3
      obtain ⟨x, hx⟩ : ∃ x, d[k]! = x := ⟨_, rfl⟩
      obtain ⟨y, hy⟩ : ∃ y, d[k + 1]! = y := ⟨_, rfl⟩
      rw [hx] at e0 e1
      rw [hy] at e2 e3
      have Hx := Lib.hid hx
      have Hy := Lib.hid hy
      clear hx hy
      obtain ⟨x0, x1⟩ := x
      obtain ⟨y0, y1⟩ := y
      have i1 : (0 : Int) ≤ (k : Int) := by omega
      have i2 : (k : Int) < (n : Int) := by omega
      have i3 : (k : Int) + 1 < (n : Int) := by omega
      have i4 : (0 : Int) ≤ (k : Int) + 1 := by omega
      cases hm : meetsP (x0, x1) (y0, y1)
      all_goals
        have Hm := Lib.hid hm
        clear hm
        go_wp2_with fail
        refine wp_region_ext (by kernel_rfl) (by kernel_rfl) ?_
        intro W hW
        rw [← hW.out] at e0 e1 e2 e3
        have B := Lib.hid (show Below w.heap.size w W by rw [hW.out]; exact Hb.out)
        clear hW
        have q0 := ext_cell e0
        have q1 := ext_cell e1
        have q2 := ext_cell e2
        have q3 := ext_cell e3
        have wq : IntKind.i64.wrap ((k : Int) + 1 - 1) = (k : Int) := by rw [show (k : Int) + 1 - 1 = k by omega]; exact IntWalk.i64_in _ (by omega)
        have tq : ((k : Int) + 1).toNat = k + 1 := by omega
        repeat (go_big_quiet_step ((go_at_call 102; exact ext_of (meets_val _ _ _ _ _ _ Hm.out))))
        refine wpQuiet_nil ?_
        intro w' hw'
        obtain ⟨p, rfl⟩ := hw'
        have Hp := Lib.hid (B.out.trans ((ext_below W p).mono B.out.size))
        clear q0 q1 q2 q3 wq tq
        go_wp2_with fail
      · refine ⟨⟨k + 1, by omega, by go_num, ?_, Hp.out⟩, by simp [intOf]; omega⟩
        refine Lib.hid fun j hj hj2 => ?_
        by_cases e : j = k
        · subst e; rw [Hx.out, Hy.out]; exact Hm.out
        · exact hno.out j (by omega) hj2
      · go_ret
        refine ⟨ret_bool ?_, Hp.out⟩
        exact (neigh_yes (i := k) (by rw [Hr.out.1]; omega) (by rw [Hx.out, Hy.out]; exact Hm.out)).symm
    · go_wp2_with fail
      go_ret
      refine ⟨ret_bool ?_, Hb.out⟩
      exact (neigh_no fun i hi => hno.out i (by rw [Hr.out.1] at hi; omega) (by rw [Hr.out.1] at hi; omega)).symm
end Go.Proofs.YtmdepkehpohgeaaGreat.Reach
