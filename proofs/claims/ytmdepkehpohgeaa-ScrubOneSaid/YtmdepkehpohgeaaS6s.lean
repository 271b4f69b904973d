/- ScrubConstant. -/
import Derived.Test.YtmdepkehpohgeaaS6q
import Derived.Test.YtmdepkehpohgeaaS6m
namespace Go.Proofs.Ytmdepkehpohgeaa.Scr
open Go.RowKit Go.Maps Go.ChangeShapes Go.WideShapes Go.ChangeAt Fifo Orow Word
set_option linter.unusedVariables false

/-- Take (next = -1) or Move. -/
def offV (s : RS) (k : Nat) (next : Int) : Int × RS := if isN s (k : Nat) then takenV s (k : Nat) next else (6, s)
theorem take_off (s : RS) (k : Nat) : takeV s (k : Nat) = offV s k (-1) := rfl
theorem move_off (s : RS) (k : Nat) (x : Int) (hx : 0 ≤ x ∧ x < 8) : moveV s (k : Nat) x = offV s k x := by
  unfold moveV offV
  rw [isW_iff.2 hx, Bool.and_true]
theorem off_cases (s : RS) (k : Nat) (x : Int) : ((offV s k x).1 = 0 ∧ k < s.H.length ∧ (offV s k x).2 = setH s (k : Nat) ⟨-1, timeV s.K[k]!, x⟩) ∨ ((offV s k x).1 = 5 ∨ (offV s k x).1 = 14 ∨ (offV s k x).1 = 6) := by
  unfold offV
  split
  · rename_i h
    have hk := (isN_iff.1 h).2
    unfold takenV
    split
    · exact .inr (.inl rfl)
    split
    · exact .inr (.inr (.inl rfl))
    · exact .inl ⟨rfl, by omega, by rw [Int.toNat_natCast]⟩
  · exact .inr (.inr (.inr rfl))
/-- While it is scrubbed (T ticks in all, i are done); behind it. -/
def Scrubbed (s : RS) (k : Nat) (T next : Int) (i : Nat) : Prop := k < s.H.length ∧ s.H[k]! = if (i : Int) < T then ⟨-1, T - i, next⟩ else ⟨next, 0, -1⟩
theorem scr_owner {s : RS} {k i : Nat} {T x : Int} (h : Scrubbed s k T x i) (hi : (i : Int) < T) : ownerV s (k : Nat) = (0, false) := by
  obtain ⟨h1, h2⟩ := h
  rw [if_pos hi] at h2
  unfold ownerV at'
  rw [Int.toNat_natCast, h2]
  simp
theorem scr_hold {s : RS} {k i : Nat} {T x : Int} (h : Scrubbed s k T x i) (hi : (i : Int) < T) : holdV s (k : Nat) = (⟨-1, T - i, x⟩, true) := by
  obtain ⟨h1, h2⟩ := h
  rw [if_pos hi] at h2
  unfold holdV at'
  rw [isN_iff.2 ⟨by omega, by omega⟩, if_pos rfl, Int.toNat_natCast, h2]
theorem scr_busy {s : RS} {k i : Nat} {T x : Int} (h : Scrubbed s k T x i) (hi : (i : Int) < T) : 0 < s.H[k]!.l := by
  obtain ⟨h1, h2⟩ := h
  rw [if_pos hi] at h2
  rw [h2]
  show 0 < T - i
  omega
theorem scr_give {s : RS} {k i : Nat} {T x : Int} (h : Scrubbed s k T x i) (hi : (i : Int) < T) {y : Int} (hy : 0 ≤ y ∧ y < 8) : giveV s (k : Nat) y = (14, s) := by
  have hb := scr_busy h hi
  unfold giveV at'
  rw [isN_iff.2 ⟨by omega, by have := h.1; omega⟩, isW_iff.2 hy, Bool.and_true, if_pos rfl, Int.toNat_natCast, if_neg (busy_ne hb)]
theorem scr_off {s : RS} {k i : Nat} {T x : Int} (h : Scrubbed s k T x i) (hi : (i : Int) < T) (y : Int) : offV s k y = (14, s) := by
  have hb := scr_busy h hi
  unfold offV takenV at'
  rw [isN_iff.2 ⟨by omega, by have := h.1; omega⟩, if_pos rfl, Int.toNat_natCast, if_neg (busy_ne hb), if_pos hb]
theorem scr_runs {s s' : RS} {k i : Nat} {T x : Int} (h : Scrubbed s k T x i) (hi : (i : Int) < T) (r : Runs false s s') : Scrubbed s' k T x i :=
  ⟨by rw [r.len]; exact h.1, by rw [r.busy h.1 (scr_busy h hi)]; exact h.2⟩
theorem tick_at {s : RS} {k : Nat} (h : k < s.H.length) : (tickV s).H[k]! = tickH s.H[k]! := by
  show (s.H.map tickH)[k]! = _
  rw [getElem!_pos _ _ (by simpa using h), List.getElem_map, ← getElem!_pos s.H k h]
theorem tickH_one {h : Hd} (e : h.l = 1) : tickH h = ⟨h.n, 0, -1⟩ := by unfold tickH; rw [if_neg (by omega), if_pos e]
theorem tickH_more {h : Hd} (e : 1 < h.l) : tickH h = ⟨h.o, h.l - 1, h.n⟩ := by unfold tickH; rw [if_neg (by omega), if_neg (by omega)]
theorem scr_tick {s : RS} {k i : Nat} {T x : Int} (h : Scrubbed s k T x i) (hi : (i : Int) < T) : Scrubbed (tickV s) k T x (i + 1) := by
  have hb := scr_busy h hi
  refine ⟨by simpa [tickV] using h.1, ?_⟩
  rw [tick_at h.1, h.2, if_pos hi]
  by_cases e1 : T - (i : Int) = 1
  · rw [tickH_one (show (⟨-1, T - (i : Int), x⟩ : Hd).l = 1 from e1), if_neg (by omega)]
  · rw [tickH_more (show 1 < (⟨-1, T - (i : Int), x⟩ : Hd).l by show 1 < T - (i : Int); omega), if_pos (by omega)]
    show (⟨-1, T - (i : Int) - 1, x⟩ : Hd) = _
    congr 1
    omega
theorem mem_nums (p : Hd → Bool) (k : Nat) : ∀ (i : Nat) (l : List Hd), k < l.length → (i + k ∈ numsF p i l ↔ p l[k]! = true) := by
  induction k with
  | zero =>
    intro i l h
    cases l with
    | nil => simp at h
    | cons y t =>
      have hn : ∀ j, i + 1 ≤ j → i + 0 ≠ j := fun j hj => by omega
      have hb := nums_b p (i + 1) t
      simp only [numsF]
      cases hp : p y
      · simp only [Bool.false_eq_true, if_false]
        constructor
        · intro hm; exact absurd rfl (hn _ (hb _ hm).1)
        · intro e; simp [hp] at e
      · simp [hp]
  | succ k ih =>
    intro i l h
    cases l with
    | nil => simp at h
    | cons y t =>
      have := ih (i + 1) t (by simpa using h)
      rw [show i + 1 + k = i + (k + 1) by omega] at this
      simp only [numsF]
      cases hp : p y
      · simp only [Bool.false_eq_true, if_false]
        rw [this]
        simp
      · simp only [if_true, List.mem_cons]
        rw [this]
        constructor
        · rintro (e | e)
          · omega
          · simpa using e
        · intro e; exact .inr (by simpa using e)
theorem done_iff {s : RS} {k i : Nat} {T x : Int} (h : Scrubbed s k T x i) (hi : (i : Int) < T) : k ∈ doneV s ↔ (i : Int) + 1 = T := by
  have := mem_nums doneH k 0 s.H h.1
  rw [Nat.zero_add] at this
  show k ∈ numsF doneH 0 s.H ↔ _
  rw [this, h.2, if_pos hi]
  simp only [doneH, decide_eq_true_eq]
  omega
section
variable {Bk b k i : Nat} {O : Nat → Prop} {w2 V : World} {s : RS} {T x : Int} (h : Left Bk w2 V b s O) (hs : Scrubbed s k T x i) (hi : (i : Int) < T) (hk : I64 (k : Nat))
include h hs hi hk
theorem give_scr (y : Int) (hy : 0 ≤ y ∧ y < 8) :
    Calls Try.prog 14 #[at0 b, .int .i64 (k : Nat), .int .i64 y] V fun z w' => z = .returned (.int .i64 14) ∧ Left Bk w2 w' b s O := by
  obtain ⟨O', k1, k2, k3⟩ := h
  have := Give_any Bk b s O' (k : Nat) y V hk ⟨by omega, by omega⟩ k1
  rw [scr_give hs hi hy] at this
  refine this.mono ?_
  rintro z w' ⟨rfl, q⟩
  exact ⟨rfl, Left.trans k2 k3 q⟩
theorem take_scr :
    Calls Try.prog 9 #[at0 b, .int .i64 (k : Nat)] V fun z w' => z = .returned (.int .i64 14) ∧ Left Bk w2 w' b s O := by
  obtain ⟨O', k1, k2, k3⟩ := h
  have := Take_any Bk b s O' (k : Nat) V hk k1
  rw [take_off, scr_off hs hi] at this
  refine this.mono ?_
  rintro z w' ⟨rfl, q⟩
  exact ⟨rfl, Left.trans k2 k3 q⟩
theorem move_scr (y : Int) (hy : 0 ≤ y ∧ y < 8) :
    Calls Try.prog 10 #[at0 b, .int .i64 (k : Nat), .int .i64 y] V fun z w' => z = .returned (.int .i64 14) ∧ Left Bk w2 w' b s O := by
  obtain ⟨O', k1, k2, k3⟩ := h
  have := Move_any Bk b s O' (k : Nat) y V hk ⟨by omega, by omega⟩ k1
  rw [move_off s k y hy, scr_off hs hi] at this
  refine this.mono ?_
  rintro z w' ⟨rfl, q⟩
  exact ⟨rfl, Left.trans k2 k3 q⟩
theorem owner_scr :
    Calls Try.prog 12 #[at0 b, .int .i64 (k : Nat)] V fun z w' => z = .returned (.tuple #[.int .i64 0, .bool false]) ∧ Left Bk w2 w' b s O := by
  obtain ⟨O', k1, k2, k3⟩ := h
  have := Owner_any Bk b s O' (k : Nat) V hk k1
  rw [scr_owner hs hi] at this
  refine this.mono ?_
  rintro z w' ⟨rfl, q⟩
  exact ⟨rfl, Left.trans k2 k3 (Left.self k1 q)⟩
theorem hold_scr :
    Calls Try.prog 13 #[at0 b, .int .i64 (k : Nat)] V fun z w' => z = .returned (.tuple #[.agg #[.int .i64 (-1), .int .i64 (T - (i : Int)), .int .i64 x], .bool true]) ∧ Left Bk w2 w' b s O := by
  obtain ⟨O', k1, k2, k3⟩ := h
  have := Hold_any Bk b s O' (k : Nat) V hk k1
  rw [scr_hold hs hi] at this
  refine this.mono ?_
  rintro z w' ⟨rfl, q⟩
  exact ⟨rfl, Left.trans k2 k3 (Left.self k1 q)⟩
end
theorem tick_left {Bk b : Nat} {O : Nat → Prop} {w2 V : World} {s : RS} (h : Left Bk w2 V b s O) :
    Calls Try.prog 15 #[at0 b] V fun z w' => ∃ a c, z = .returned (.slice a (doneV s).length c) ∧ w'.ownsRow V.heap.size 3 1 (.slice a (doneV s).length c) (doneV s).length (iv (doneV s)) ∧ Left Bk w2 w' b (tickV s) O := by
  obtain ⟨O', k1, k2, k3⟩ := h
  refine (Tick_any Bk b s O' V k1).mono ?_
  rintro z w' ⟨a, c, O1, rfl, hr, q1, q2, q3, _⟩
  exact ⟨a, c, rfl, hr, Left.trans k2 k3 ⟨O1, q1, q2, q3⟩⟩
theorem left_below {Bk b B : Nat} {O : Nat → Prop} {w w2 V : World} {s : RS} (h : Left Bk w2 V b s O) (hb : Below B w w2) (h2 : B ≤ w2.heap.size) (hO : ∀ j, O j → B ≤ j) : Below B w V := by
  obtain ⟨O', k1, k2, k3⟩ := h
  exact only_below hb k2 h2 hO
theorem run_left {Bk b : Nat} {O : Nat → Prop} {w0 w2 V : World} {s : RS} (h : Left Bk w2 V b s O) (t : Bool) {a : Option Addr} {len cap : Nat} {l : List Dd} (hr : RowDd w0 a len l) (h200 : len ≤ 200) (hb : Below w0.heap.size w0 w2) (hO : ∀ j, O j → w0.heap.size ≤ j) :
    Calls Try.prog 7 #[at0 b, .slice a len cap, .bool t] V fun z w' => z = .returned (.tuple #[]) ∧ ∃ s', Runs t s s' ∧ Left Bk w2 w' b s' O := by
  have hV := left_below h hb hb.size hO
  obtain ⟨O', k1, k2, k3⟩ := h
  refine (run_any Bk b s O' a len cap l t w0 V hr h200 hV (fun j hj => (k3 j hj).elim (hO j) (fun e => Nat.le_trans hb.size e)) k1).mono ?_
  rintro z w' ⟨rfl, s', hr, q⟩
  exact ⟨rfl, s', hr, Left.trans k2 k3 q⟩
theorem scr_end {s : RS} {k i : Nat} {T x : Int} (h : Scrubbed s k T x i) (hi : ¬ (i : Int) < T) : s.H[k]! = ⟨x, 0, -1⟩ := by
  rw [h.2, if_neg hi]
theorem end_none {s : RS} {k : Nat} {x : Int} (hk : k < s.H.length) (h : s.H[k]! = ⟨x, 0, -1⟩) (hx : x < 0) : ownerV s (k : Nat) = (0, false) := by
  unfold ownerV at'
  rw [Int.toNat_natCast, h, decide_eq_false (show ¬ 0 ≤ x by omega), Bool.and_false]
  rfl
theorem end_some {s : RS} {k : Nat} {x : Int} (hk : k < s.H.length) (h : s.H[k]! = ⟨x, 0, -1⟩) (hx : 0 ≤ x) : ownerV s (k : Nat) = (x, true) := by
  unfold ownerV at'
  rw [Int.toNat_natCast, h, decide_eq_true (show 0 ≤ x from hx), isN_iff.2 ⟨by omega, by omega⟩]
  rfl
theorem end_give {s : RS} {k : Nat} (hk : k < s.H.length) (h : s.H[k]! = ⟨-1, 0, -1⟩) (y : Int) (hy : 0 ≤ y ∧ y < 8) : (giveV s (k : Nat) y).1 = 0 := by
  unfold giveV at'
  rw [isN_iff.2 ⟨by omega, by omega⟩, isW_iff.2 hy, Bool.and_true, if_pos rfl, Int.toNat_natCast, if_pos (show s.H[k]! = freeH from h)]
theorem RowDd.sub1 {w : World} {b off n : Nat} {l : List Dd} (h : RowDd w (some ⟨b, off, none⟩) n l) {q : Nat} (hq : q < n) : RowDd w (some ⟨b, off + q * 3, none⟩) 1 [l[q]!] := by
  refine ⟨rfl, fun j hj => ?_, fun j hj => ?_⟩
  · obtain rfl : j = 0 := by omega
    exact h.2.1 q hq
  · obtain rfl : j = 0 := by omega
    obtain ⟨b', off', e, c⟩ := h.2.2 q hq
    simp only [Option.some.injEq, Addr.mk.injEq, and_true] at e
    obtain ⟨rfl, rfl⟩ := e
    exact ⟨b, off + q * 3, rfl, by simpa using c⟩
set_option maxRecDepth 100000 in
set_option maxHeartbeats 8000000 in
theorem const_walk (Bk : Nat) (al : Option Addr) (n cap : Nat) (l : List Win.Dv) (a1 : Option Addr) (len1 cap1 : Nat) (l1 : List Dd) (x to : Int) (a2 : Option Addr) (len2 cap2 : Nat) (l2 : List Dd) (w : World) (hL : Laid w Bk) (hBk : Bk ≤ w.heap.size) (hl : Win.RowV w al n l) (hc : n ≤ cap) (hn : n < 140737488355328) (hr1 : RowDd w a1 len1 l1) (hn1 : len1 < 140737488355328) (hr2 : RowDd w a2 len2 l2) (hc2 : len2 ≤ cap2) (hn2 : len2 < 140737488355328) :
    Calls Try.prog 3 #[.slice al n cap, .slice a1 len1 cap1, .int .i64 x, .int .i64 to, .slice a2 len2 cap2] w fun z w' => z = .returned (.bool true) ∧ Below w.heap.size w w' := by
  obtain ⟨B, hBe⟩ : ∃ B, w.heap.size = B := ⟨_, rfl⟩
  rw [hBe] at hBk ⊢
  have HB := Lib.hid hBe
  have HBk := Lib.hid hBk
  have HLx := Lib.hid (fun W (h : Below B w W) => hL.keep (h.mono hBk))
  have HVx := Lib.hid (fun W (h : Below B w W) => hl.keep (by rw [hBe]; exact h))
  have HV := Lib.hid hl
  have HR1 := Lib.hid hr1
  have HR2 := Lib.hid hr2
  have HN := Lib.hid (show n ≤ cap ∧ n < 140737488355328 ∧ len1 < 140737488355328 ∧ len2 < 140737488355328 ∧ len2 ≤ cap2 from ⟨hc, hn, hn1, hn2, hc2⟩)
  have A0 := Lib.hid (awake_any Bk B w hL hBk (by omega))
  clear hBe hBk hL hl hr1 hr2 hc hn hn1 hn2 hc2
  go_enter Try.func3, Try.ntmps3
  go_wp2_with fail
  refine A0.out.mono ?_
  rintro e w1 ⟨rfl, hb⟩
  have B1 := Lib.hid hb
  have S1 := Lib.hid (show B ≤ w1.heap.size by have := hb.size; have := HB.out; omega)
  clear hb A0
  cases hv : Win.rowB l with
  | false =>
    have N1 := Lib.hid (New_no al n cap l w1 HN.out.2.1 HN.out.1 (HVx.out w1 B1.out) hv)
    go_wp2_with fail
    refine N1.out.mono ?_
    rintro e w2 ⟨rfl, hb⟩
    have B2 := Lib.hid (B1.out.trans (hb.mono S1.out))
    clear hb N1
    go_wp2_with fail
    go_ret
    exact ⟨rfl, B2.out⟩
  | true =>
    have hn16 := (Win.rowB_iff.1 hv).1
    rw [HV.out.1] at hn16
    have H16 := Lib.hid hn16
    have N1 := Lib.hid (New_yes Bk al n cap l w1 HN.out.2.1 HN.out.1 (HVx.out w1 B1.out) (HLx.out w1 B1.out) (Nat.le_trans HBk.out S1.out) hv)
    have Hs0 := Lib.hid (show (newS l).H.length = n by simp [newS, HV.out.1])
    have wk : IntKind.i64.wrap ((len1 : Int) + (len2 : Int)) = (len1 : Int) + (len2 : Int) := IntWalk.i64_in _ (by have := HN.out; omega)
    clear hn16
    go_wp2_with fail
    refine N1.out.mono ?_
    rintro e w2 ⟨⟨b, O, rfl, hD, hO⟩, hb⟩
    have B2 := Lib.hid (B1.out.trans (hb.mono S1.out))
    have D2 := Lib.hid hD
    have O2 := Lib.hid (show ∀ j, O j → w.heap.size ≤ j from fun j hj => by have := hO j hj; have := S1.out; have := HB.out; omega)
    have S2 := Lib.hid (show B ≤ w2.heap.size from Nat.le_trans S1.out hb.size)
    clear hb hD hO N1
    by_cases h200 : len1 + len2 ≤ 200
    · have d0 : decide ((200 : Int) < (len1 : Int) + (len2 : Int)) = false := decide_eq_false (by omega)
      have d0' : decide (200 < len1 + len2) = false := decide_eq_false (by omega)
      have HRun := Lib.hid (run_any Bk b (newS l) O a1 len1 cap1 l1 true w w2 HR1.out (by omega) (by rw [HB.out]; exact B2.out) O2.out D2.out)
      have H200 := Lib.hid h200
      clear h200
      go_wp2_with fail
      refine HRun.out.mono ?_
      rintro e w3 ⟨rfl, s1, hrs, O3, k1, k2, k3⟩
      have B3 := Lib.hid (only_below B2.out k2 S2.out (fun j hj => by have := O2.out j hj; have := HB.out; omega))
      obtain ⟨M, hM0, hM1, hMx⟩ : ∃ M : Nat, 0 < M ∧ M < 1000 ∧ (M = n ∨ (n = 0 ∧ M = 1)) := by
        have := H16.out
        by_cases h : n = 0
        · exact ⟨1, by omega, by omega, .inr ⟨h, rfl⟩⟩
        · exact ⟨n, by omega, by omega, .inl rfl⟩
      obtain ⟨k, hk, hpk⟩ := Pk.pick_is x M hM0 hM1
      obtain ⟨p, hp, hpp⟩ := Pk.pick_is to 9 (by decide) (by decide)
      have HK := Lib.hid hpk
      have HP := Lib.hid hpp
      have HKM := Lib.hid (And.intro hk hMx)
      have hs1 : s1.H.length = n := by rw [hrs.len]; exact Hs0.out
      have hK1 : s1.K = (newS l).K := hrs.K
      have K1 := Lib.hid k1
      have L1 := Lib.hid (And.intro k2 k3)
      have HS1 := Lib.hid (And.intro hs1 hK1)
      clear hpk hpp hk k1 k2 k3 hrs hs1 hK1 HRun hM0 hM1
      rcases hMx with rfl | ⟨rfl, rfl⟩
      · -- there is a device
        have HM := Lib.hid HKM.out.1
        have n1 : ¬ ((M : Int) < 1) := by have := HM.out; omega
        have n1' : ¬ (M < 1) := by have := HM.out; omega
        have n1x : max (M : Int) 1 = (M : Int) := by have := HM.out; omega
        obtain ⟨nx, hnx⟩ : ∃ nx, (p : Int) - 1 = nx := ⟨_, rfl⟩
        have HX := Lib.hid (show -1 ≤ nx ∧ nx < 8 by omega)
        have wp1 : IntKind.i64.wrap ((p : Int) - 1) = nx := by rw [hnx]; exact IntWalk.i64_in _ (by omega)
        have T1 := Lib.hid (fun (e : nx = -1) => (show Calls Try.prog 9 #[at0 b, .int .i64 (k : Nat)] w3 fun z w' => z = .returned (.int .i64 (offV s1 k nx).1) ∧ Left Bk w3 w' b (offV s1 k nx).2 O3 by rw [e, ← take_off]; exact Take_any Bk b s1 O3 (k : Nat) w3 ⟨by omega, by have := H16.out; have := HM.out; omega⟩ K1.out))
        have T2 := Lib.hid (fun (e : 0 ≤ nx) => (show Calls Try.prog 10 #[at0 b, .int .i64 (k : Nat), .int .i64 nx] w3 fun z w' => z = .returned (.int .i64 (offV s1 k nx).1) ∧ Left Bk w3 w' b (offV s1 k nx).2 O3 by rw [← move_off s1 k nx ⟨e, HX.out.2⟩]; exact Move_any Bk b s1 O3 (k : Nat) nx w3 ⟨by omega, by have := H16.out; have := HM.out; omega⟩ ⟨by omega, by have := HX.out; omega⟩ K1.out))
        obtain ⟨y, hy⟩ : ∃ y, (offV s1 k nx).1 = y := ⟨_, rfl⟩
        obtain ⟨s2, hs2⟩ : ∃ s, (offV s1 k nx).2 = s := ⟨_, rfl⟩
        have hoc := off_cases s1 k nx
        rw [hy, hs2] at hoc T1 T2
        have HC := Lib.hid hoc
        clear hp hnx hoc hy hs2 HKM
        by_cases hneg : nx = -1
        · have T1 := Lib.hid (T1.out hneg)
          have e1 : decide (nx < 0) = true := decide_eq_true (by omega)
          have e2 : nx < 0 := by omega
          clear hneg
          go_wp2_with fail
          refine (HK.out w3).mono ?_
          rintro e w4 ⟨rfl, rfl⟩
          go_wp2_with fail
          refine (HP.out w3).mono ?_
          rintro e w5 ⟨rfl, rfl⟩
          go_wp2_with fail
          refine T1.out.mono ?_
          rintro e w6 ⟨rfl, hLf⟩
          have L2 := Lib.hid (Left.trans L1.out.1 L1.out.2 hLf)
          have B6 := Lib.hid (show Below B w w6 by
            obtain ⟨O6, _, o6, _⟩ := L2.out
            exact only_below B2.out o6 S2.out (fun j hj => by have := O2.out j hj; have := HB.out; omega))
          clear hLf T1
          rcases HC.out with ⟨rfl, hkl, hs2⟩ | h
          · have hk' : k < M := by rw [← HS1.out.1]; exact hkl
            obtain ⟨lb, off, hal, ce⟩ := HV.out.2.2 k hk'
            have hokd := HV.out.2.1 k hk'
            obtain ⟨kd, hkd⟩ : ∃ x, l[k]!.k = x := ⟨_, rfl⟩
            have cK := (ce.keep (by rw [HB.out]; exact B6.out)).c0
            have hI := hokd.1
            rw [hkd] at cK hI
            obtain ⟨T, hT⟩ : ∃ T, timeV kd = T := ⟨_, rfl⟩
            have HTm := Lib.hid (Time_any kd w6 hI)
            rw [hT] at HTm
            have hKk : (newS l).K[k]! = l[k]!.k := by
              have hkl2 : k < l.length := by rw [HV.out.1]; exact hk'
              show (l.map (·.k))[k]! = _
              rw [getElem!_pos _ _ (by simpa using hkl2), List.getElem_map, ← getElem!_pos l k hkl2]
            have hTb : 1 ≤ T ∧ T ≤ 16 := by
              rw [← hT, ← hkd, ← hKk]
              exact time_b ((ok_new hv).kin k (by rw [(ok_new hv).len, Hs0.out]; exact hk'))
            have hTk : timeV s1.K[k]! = T := by rw [HS1.out.2, hKk, hkd, hT]
            have hS0 : Scrubbed s2 k T nx 0 := by
              rw [hTk] at hs2
              refine ⟨by rw [hs2]; simpa [setH] using hkl, ?_⟩
              rw [hs2]
              show (s1.H.set ((k : Int).toNat) _)[k]! = _
              rw [get_set hkl, Int.toNat_natCast, if_pos rfl, if_pos (by omega)]
              simp
            have i1 : (0 : Int) ≤ (k : Int) := by omega
            have i2 : (k : Int) < (M : Int) := by omega
            have HS0 := Lib.hid hS0
            have HTb := Lib.hid hTb
            have Hkl := Lib.hid hk'
            subst hal
            clear hkl hs2 hk' ce hokd hI hT hTb hS0 hkd hKk hTk
            go_wp2_with fail
            refine HTm.out.mono ?_
            rintro e w7 ⟨rfl, hb⟩
            have B7 := Lib.hid (B6.out.trans (hb.mono (Nat.le_trans S2.out (by obtain ⟨O6, _, o6, _⟩ := L2.out; exact o6.size))))
            have L7 := Lib.hid (show Left Bk w2 w7 b s2 O by
              obtain ⟨O6, r6, o6, q6⟩ := L2.out
              exact Left.trans o6 q6 (Left.self r6 hb))
            clear hb HTm cK L2
            go_wp2_with fail
            go_loopw [17] (fun i wr => ∃ (q : Nat) (s' : RS), i = .int .i64 (q : Nat) ∧ (q : Int) ≤ T ∧ Scrubbed s' k T nx q ∧ Left Bk w2 wr b s' O) (fun i _ => (T - intOf i).toNat)
            case atStart => exact ⟨0, s2, rfl, by have := HTb.out; omega, HS0.out, L7.out⟩
            case round =>
            obtain ⟨q, s', rfl, hq, hsc, hlf⟩ := hrel
            have Hsc := Lib.hid hsc
            have L0 := Lib.hid hlf
            have HkI := Lib.hid (show I64 (k : Nat) from ⟨by omega, by have := H16.out; have := HM.out; omega⟩)
            clear hsc hlf
            by_cases hlt : (q : Int) < T
            · have d1 : decide ((q : Int) < T) = true := decide_eq_true hlt
              have wq : IntKind.i64.wrap (T - (q : Int)) = T - (q : Int) := IntWalk.i64_in _ (by have := HTb.out; omega)
              have wq1 : IntKind.i64.wrap ((q : Int) + 1) = (q : Int) + 1 := IntWalk.i64_in _ (by have := HTb.out; omega)
              have Hlt := Lib.hid hlt
              clear hlt hq
              go_wp2_with fail
              refine (owner_scr L0.out Hsc.out Hlt.out HkI.out).mono ?_
              rintro e w8 ⟨rfl, hz⟩
              have L8 := Lib.hid hz
              clear hz L0
              go_wp2_with fail
              refine (hold_scr L8.out Hsc.out Hlt.out HkI.out).mono ?_
              rintro e w9 ⟨rfl, hz⟩
              have L9 := Lib.hid hz
              clear hz L8
              obtain ⟨gh, hgh⟩ : ∃ g, w9.heap.size = g := ⟨_, rfl⟩
              go_wp2_with (with_reducible refine at_store _ _ _ rfl ?_)
              refine Lib.hid ?_
              have hnew := Blk.new w9 41 [.int .i64 0, .int .i64 0, .int .i64 0]
              rw [hgh] at hnew
              refine store_all rfl _ _ _ rfl gh [.int .i64 (-1), .int .i64 (T - (q : Int)), .int .i64 nx] rfl rfl _ _ hnew (by kernel_rfl) rfl (by simp [Value.oneCell']) ?_
              intro y1 hX hoX
              have hal := (Below.refl w9.heap.size w9).alloc (Nat.le_refl _) (.cells #[.int .i64 0, .int .i64 0, .int .i64 0] 41)
              have hbX : Below w9.heap.size w9 y1 := hal.trans (hoX.below hal.size (fun j e => by rw [e, ← hgh]; exact Nat.le_refl _))
              have LY := Lib.hid (show Left Bk w2 y1 b s' O by
                obtain ⟨O', k1, k2, k3⟩ := L9.out
                exact Left.trans k2 k3 (Left.self k1 hbX))
              have h1 := hX.at 1 rfl
              have h2 := hX.at 2 rfl
              clear hX hoX hal hbX hnew hgh L9
              go_wp2_with fail
              refine (give_scr LY.out Hsc.out Hlt.out HkI.out 3 (by omega)).mono ?_
              rintro e y2 ⟨rfl, hz⟩
              have L2 := Lib.hid hz
              clear hz LY h1 h2
              go_wp2_with fail
              refine (take_scr L2.out Hsc.out Hlt.out HkI.out).mono ?_
              rintro e y3 ⟨rfl, hz⟩
              have L3 := Lib.hid hz
              clear hz L2
              go_wp2_with fail
              refine (move_scr L3.out Hsc.out Hlt.out HkI.out 2 (by omega)).mono ?_
              rintro e y4 ⟨rfl, hz⟩
              have L4 := Lib.hid hz
              clear hz L3
              by_cases hq2 : q < len2
              · have u1 : decide ((q : Int) < (len2 : Int)) = true := decide_eq_true (by omega)
                have u1' : decide (q < len2) = true := decide_eq_true hq2
                have hN := HN.out
                have p1 : (0 : Int) ≤ (q : Int) := by omega
                have p2 : (q : Int) ≤ (q : Int) + 1 := by omega
                have p3 : (q : Int) + 1 ≤ (cap2 : Int) := by omega
                obtain ⟨lb2, off2, rfl, _⟩ := HR2.out.2.2 q hq2
                have Hq2 := Lib.hid hq2
                clear hN hq2
                go_wp2_with fail
                refine (run_left L4.out false (HR2.out.sub1 Hq2.out) (by omega) (by rw [HB.out]; exact B2.out) O2.out).mono ?_
                rintro e y5 ⟨rfl, s5, hrn, hz⟩
                have L5 := Lib.hid hz
                have H5 := Lib.hid (scr_runs Hsc.out Hlt.out hrn)
                clear hrn hz L4
                go_wp2_with fail
                refine (tick_left L5.out).mono ?_
                rintro e y6 ⟨ta, tc, rfl, hr, hz⟩
                have L6 := Lib.hid hz
                have hdn := done_iff H5.out Hlt.out
                have St := Lib.hid (scr_tick H5.out Hlt.out)
                have hle : (doneV s5).length ≤ 16 := Nat.le_trans (nums_len _ _ _) (by obtain ⟨_, k1, _⟩ := L5.out; exact k1.ok.few)
                obtain ⟨D, hD⟩ : ∃ D, doneV s5 = D := ⟨_, rfl⟩
                rw [hD] at hr hdn hle ⊢
                obtain ⟨dn, hdl⟩ : ∃ m, D.length = m := ⟨_, rfl⟩
                rw [hdl] at hr hle ⊢
                have RR := Lib.hid hr
                have Hdl := Lib.hid hdl
                have Hle := Lib.hid hle
                have Hdn := Lib.hid hdn
                clear hr hz hdn hle hD hdl L5
                go_wp2_with fail
                go_loopw [23, 24] (fun tv jv wr => ∃ j : Nat, j ≤ dn ∧ jv = .int .i64 (j : Nat) ∧ tv = .bool (decide (k ∈ D.take j)) ∧ Below y6.heap.size y6 wr) (fun _ jv _ => dn - (intOf jv).toNat)
                case atStart => exact ⟨0, Nat.zero_le _, rfl, by simp, Below.refl _ _⟩
                case round =>
                obtain ⟨j, hj, rfl, rfl, hb⟩ := hrel
                have Hb := Lib.hid hb
                clear hb
                by_cases hjl : j < dn
                · have v1 : decide ((j : Int) < (dn : Int)) = true := decide_eq_true (by omega)
                  have v1' : decide (j < dn) = true := decide_eq_true hjl
                  have wj : IntKind.i64.wrap ((j : Int) + 1) = (j : Int) + 1 := IntWalk.i64_in _ (by have := Hle.out; omega)
                  have j1 : (0 : Int) ≤ (j : Int) := by omega
                  have j2 : (j : Int) < (dn : Int) := by omega
                  obtain ⟨gt, hgt⟩ := own_some RR.out (.inl (by omega))
                  have R2 := own_keep RR.out Hb.out
                  rw [hgt] at R2
                  have cj : wr.cell? ⟨gt, j, none⟩ = some (.int .i64 (D[j]! : Nat)) := by
                    have := R2.cellAt j (by omega)
                    rw [this]
                    have hjD : j < D.length := by rw [Hdl.out]; exact hjl
                    simp [iv, hjD]
                  have tk : decide (k ∈ D.take (j + 1)) = (decide (k ∈ D.take j) || decide ((D[j]! : Int) = (k : Int))) := by
                    have hjD : j < D.length := by rw [Hdl.out]; exact hjl
                    rw [List.take_succ_eq_append_getElem hjD, getElem!_pos D j hjD]
                    by_cases e : k ∈ D.take j
                    · rw [decide_eq_true (show k ∈ D.take j ++ [D[j]] from List.mem_append_left _ e), decide_eq_true e]
                      rfl
                    · simp only [List.mem_append, e, List.mem_singleton, false_or, decide_false, Bool.false_or]
                      congr 1
                      apply propext
                      constructor
                      · intro h; rw [h]
                      · intro h; omega
                  obtain ⟨tv, htv⟩ : ∃ b, decide (k ∈ D.take j) = b := ⟨_, rfl⟩
                  obtain ⟨tw, htw⟩ : ∃ b, decide (k ∈ D.take (j + 1)) = b := ⟨_, rfl⟩
                  obtain ⟨z, hz⟩ : ∃ z, D[j]! = z := ⟨_, rfl⟩
                  rw [htv, htw, hz] at tk
                  rw [hz] at cj
                  rw [htv]
                  have Hjl := Lib.hid hjl
                  have Htw := Lib.hid htw
                  have Tk := Lib.hid tk
                  have eqz : ((z : Int) == (k : Int)) = decide ((z : Int) = (k : Int)) := by rw [Bool.eq_iff_iff]; simp
                  subst hgt
                  clear hj hjl htv htw hz R2 tk
                  cases tv with
                  | true =>
                    go_wp2_with fail
                    exact ⟨⟨j + 1, Hjl.out, by go_num, by rw [Htw.out, Tk.out]; rfl, Hb.out⟩, by have := Hjl.out; simp [intOf]; omega⟩
                  | false =>
                    by_cases ezk : (z : Int) = (k : Int)
                    · have b1 : ((z : Int) == (k : Int)) = true := by rw [eqz]; exact decide_eq_true ezk
                      have ht : tw = true := by rw [Tk.out, decide_eq_true ezk]; rfl
                      have Ht := Lib.hid ht
                      clear ezk ht eqz
                      go_wp2_with fail
                      exact ⟨⟨j + 1, Hjl.out, by go_num, by rw [Htw.out, Ht.out], Hb.out⟩, by have := Hjl.out; simp [intOf]; omega⟩
                    · have b1 : ((z : Int) == (k : Int)) = false := by rw [eqz]; exact decide_eq_false ezk
                      have ht : tw = false := by rw [Tk.out, decide_eq_false ezk]; rfl
                      have Ht := Lib.hid ht
                      clear ezk ht eqz
                      go_wp2_with fail
                      exact ⟨⟨j + 1, Hjl.out, by go_num, by rw [Htw.out, Ht.out], Hb.out⟩, by have := Hjl.out; simp [intOf]; omega⟩
                · have v1 : decide ((j : Int) < (dn : Int)) = false := decide_eq_false (by omega)
                  have v1' : decide (j < dn) = false := decide_eq_false hjl
                  have htake : D.take j = D := List.take_of_length_le (by rw [Hdl.out]; omega)
                  rw [htake]
                  have LE := Lib.hid (show Left Bk w2 wr b (tickV s5) O by
                    obtain ⟨O', k1, k2, k3⟩ := L6.out
                    exact Left.trans k2 k3 (Left.self k1 Hb.out))
                  clear hj hjl htake
                  by_cases hqT : (q : Int) + 1 = T
                  · have g1 : decide (k ∈ D) = true := decide_eq_true (Hdn.out.2 hqT)
                    rw [g1]
                    have g2 : ((q : Int) == T - 1) = true := by simp; omega
                    have g3 : IntKind.i64.wrap (T - 1) = T - 1 := IntWalk.i64_in _ (by have := HTb.out; omega)
                    have g4 : (q : Int) = T - 1 := by omega
                    have HqT := Lib.hid hqT
                    clear g1 hqT g4
                    go_wp2_with fail
                    exact ⟨⟨q + 1, _, by go_num, by have := HqT.out; push_cast; omega, St.out, LE.out⟩, by have := HqT.out; have := Hlt.out; simp [intOf]; omega⟩
                  · have g1 : decide (k ∈ D) = false := decide_eq_false (fun h => hqT (Hdn.out.1 h))
                    rw [g1]
                    have g2 : ((q : Int) == T - 1) = false := by simp; omega
                    have g3 : IntKind.i64.wrap (T - 1) = T - 1 := IntWalk.i64_in _ (by have := HTb.out; omega)
                    have HqT := Lib.hid hqT
                    clear g1 hqT
                    go_wp2_with fail
                    exact ⟨⟨q + 1, _, by go_num, by have := Hlt.out; push_cast; omega, St.out, LE.out⟩, by have := Hlt.out; simp [intOf]; omega⟩
              · have u1 : decide ((q : Int) < (len2 : Int)) = false := decide_eq_false (by omega)
                have u1' : decide (q < len2) = false := decide_eq_false hq2
                clear hq2
                go_wp2_with fail
                refine (tick_left L4.out).mono ?_
                rintro e y6 ⟨ta, tc, rfl, hr, hz⟩
                have L6 := Lib.hid hz
                have hdn := done_iff Hsc.out Hlt.out
                have St := Lib.hid (scr_tick Hsc.out Hlt.out)
                have hle : (doneV s').length ≤ 16 := Nat.le_trans (nums_len _ _ _) (by obtain ⟨_, k1, _⟩ := L4.out; exact k1.ok.few)
                obtain ⟨D, hD⟩ : ∃ D, doneV s' = D := ⟨_, rfl⟩
                rw [hD] at hr hdn hle ⊢
                obtain ⟨dn, hdl⟩ : ∃ m, D.length = m := ⟨_, rfl⟩
                rw [hdl] at hr hle ⊢
                have RR := Lib.hid hr
                have Hdl := Lib.hid hdl
                have Hle := Lib.hid hle
                have Hdn := Lib.hid hdn
                clear hr hz hdn hle hD hdl L4
                go_wp2_with fail
                go_loopw [23, 24] (fun tv jv wr => ∃ j : Nat, j ≤ dn ∧ jv = .int .i64 (j : Nat) ∧ tv = .bool (decide (k ∈ D.take j)) ∧ Below y6.heap.size y6 wr) (fun _ jv _ => dn - (intOf jv).toNat)
                case atStart => exact ⟨0, Nat.zero_le _, rfl, by simp, Below.refl _ _⟩
                case round =>
                obtain ⟨j, hj, rfl, rfl, hb⟩ := hrel
                have Hb := Lib.hid hb
                clear hb
                by_cases hjl : j < dn
                · have v1 : decide ((j : Int) < (dn : Int)) = true := decide_eq_true (by omega)
                  have v1' : decide (j < dn) = true := decide_eq_true hjl
                  have wj : IntKind.i64.wrap ((j : Int) + 1) = (j : Int) + 1 := IntWalk.i64_in _ (by have := Hle.out; omega)
                  have j1 : (0 : Int) ≤ (j : Int) := by omega
                  have j2 : (j : Int) < (dn : Int) := by omega
                  obtain ⟨gt, hgt⟩ := own_some RR.out (.inl (by omega))
                  have R2 := own_keep RR.out Hb.out
                  rw [hgt] at R2
                  have cj : wr.cell? ⟨gt, j, none⟩ = some (.int .i64 (D[j]! : Nat)) := by
                    have := R2.cellAt j (by omega)
                    rw [this]
                    have hjD : j < D.length := by rw [Hdl.out]; exact hjl
                    simp [iv, hjD]
                  have tk : decide (k ∈ D.take (j + 1)) = (decide (k ∈ D.take j) || decide ((D[j]! : Int) = (k : Int))) := by
                    have hjD : j < D.length := by rw [Hdl.out]; exact hjl
                    rw [List.take_succ_eq_append_getElem hjD, getElem!_pos D j hjD]
                    by_cases e : k ∈ D.take j
                    · rw [decide_eq_true (show k ∈ D.take j ++ [D[j]] from List.mem_append_left _ e), decide_eq_true e]
                      rfl
                    · simp only [List.mem_append, e, List.mem_singleton, false_or, decide_false, Bool.false_or]
                      congr 1
                      apply propext
                      constructor
                      · intro h; rw [h]
                      · intro h; omega
                  obtain ⟨tv, htv⟩ : ∃ b, decide (k ∈ D.take j) = b := ⟨_, rfl⟩
                  obtain ⟨tw, htw⟩ : ∃ b, decide (k ∈ D.take (j + 1)) = b := ⟨_, rfl⟩
                  obtain ⟨z, hz⟩ : ∃ z, D[j]! = z := ⟨_, rfl⟩
                  rw [htv, htw, hz] at tk
                  rw [hz] at cj
                  rw [htv]
                  have Hjl := Lib.hid hjl
                  have Htw := Lib.hid htw
                  have Tk := Lib.hid tk
                  have eqz : ((z : Int) == (k : Int)) = decide ((z : Int) = (k : Int)) := by rw [Bool.eq_iff_iff]; simp
                  subst hgt
                  clear hj hjl htv htw hz R2 tk
                  cases tv with
                  | true =>
                    go_wp2_with fail
                    exact ⟨⟨j + 1, Hjl.out, by go_num, by rw [Htw.out, Tk.out]; rfl, Hb.out⟩, by have := Hjl.out; simp [intOf]; omega⟩
                  | false =>
                    by_cases ezk : (z : Int) = (k : Int)
                    · have b1 : ((z : Int) == (k : Int)) = true := by rw [eqz]; exact decide_eq_true ezk
                      have ht : tw = true := by rw [Tk.out, decide_eq_true ezk]; rfl
                      have Ht := Lib.hid ht
                      clear ezk ht eqz
                      go_wp2_with fail
                      exact ⟨⟨j + 1, Hjl.out, by go_num, by rw [Htw.out, Ht.out], Hb.out⟩, by have := Hjl.out; simp [intOf]; omega⟩
                    · have b1 : ((z : Int) == (k : Int)) = false := by rw [eqz]; exact decide_eq_false ezk
                      have ht : tw = false := by rw [Tk.out, decide_eq_false ezk]; rfl
                      have Ht := Lib.hid ht
                      clear ezk ht eqz
                      go_wp2_with fail
                      exact ⟨⟨j + 1, Hjl.out, by go_num, by rw [Htw.out, Ht.out], Hb.out⟩, by have := Hjl.out; simp [intOf]; omega⟩
                · have v1 : decide ((j : Int) < (dn : Int)) = false := decide_eq_false (by omega)
                  have v1' : decide (j < dn) = false := decide_eq_false hjl
                  have htake : D.take j = D := List.take_of_length_le (by rw [Hdl.out]; omega)
                  rw [htake]
                  have LE := Lib.hid (show Left Bk w2 wr b (tickV s') O by
                    obtain ⟨O', k1, k2, k3⟩ := L6.out
                    exact Left.trans k2 k3 (Left.self k1 Hb.out))
                  clear hj hjl htake
                  by_cases hqT : (q : Int) + 1 = T
                  · have g1 : decide (k ∈ D) = true := decide_eq_true (Hdn.out.2 hqT)
                    rw [g1]
                    have g2 : ((q : Int) == T - 1) = true := by simp; omega
                    have g3 : IntKind.i64.wrap (T - 1) = T - 1 := IntWalk.i64_in _ (by have := HTb.out; omega)
                    have g4 : (q : Int) = T - 1 := by omega
                    have HqT := Lib.hid hqT
                    clear g1 hqT g4
                    go_wp2_with fail
                    exact ⟨⟨q + 1, _, by go_num, by have := HqT.out; push_cast; omega, St.out, LE.out⟩, by have := HqT.out; have := Hlt.out; simp [intOf]; omega⟩
                  · have g1 : decide (k ∈ D) = false := decide_eq_false (fun h => hqT (Hdn.out.1 h))
                    rw [g1]
                    have g2 : ((q : Int) == T - 1) = false := by simp; omega
                    have g3 : IntKind.i64.wrap (T - 1) = T - 1 := IntWalk.i64_in _ (by have := HTb.out; omega)
                    have HqT := Lib.hid hqT
                    clear g1 hqT
                    go_wp2_with fail
                    exact ⟨⟨q + 1, _, by go_num, by have := Hlt.out; push_cast; omega, St.out, LE.out⟩, by have := Hlt.out; simp [intOf]; omega⟩
            · have d1 : decide ((q : Int) < T) = false := decide_eq_false hlt
              have hend := scr_end Hsc.out hlt
              have hkl := Hsc.out.1
              obtain ⟨O', k1, k2, k3⟩ := L0.out
              have HOw := Lib.hid (show Calls Try.prog 12 #[at0 b, .int .i64 (k : Nat)] wr fun z w' => z = .returned (.tuple #[.int .i64 0, .bool false]) ∧ Below wr.heap.size wr w' by
                have := Owner_any Bk b s' O' (k : Nat) wr HkI.out k1
                rw [end_none hkl hend (by have := HX.out; omega)] at this
                exact this)
              have KK := Lib.hid k1
              have LL := Lib.hid (And.intro k2 k3)
              have Hend := Lib.hid hend
              have Hkl := Lib.hid hkl
              clear hlt hq hend hkl k1 k2 k3 L0
              go_wp2_with fail
              refine HOw.out.mono ?_
              rintro e w8 ⟨rfl, hb⟩
              have K8 := Lib.hid (KK.out.keep hb)
              have LL8 := Lib.hid (And.intro (LL.out.1.trans (Only.of_below hb)) LL.out.2)
              have B8 := Lib.hid (left_below (Left.trans LL.out.1 LL.out.2 (Left.self KK.out hb)) B2.out S2.out (fun j hj => by have := O2.out j hj; have := HB.out; omega))
              clear hb HOw KK
              have e3 : decide (0 ≤ nx) = false := decide_eq_false (by omega)
              have HG := Lib.hid (Give_any Bk b s' O' (k : Nat) 5 w8 HkI.out ⟨by omega, by omega⟩ K8.out)
              have hx1 : nx = -1 := by have := HX.out; omega
              have g0 := end_give Hkl.out (by have := Hend.out; rw [hx1] at this; exact this) 5 (by omega)
              rw [g0] at HG
              clear hx1 g0
              go_wp2_with fail
              refine HG.out.mono ?_
              rintro e w9 ⟨rfl, hz⟩
              have BZ := Lib.hid (left_below (Left.trans LL8.out.1 LL8.out.2 hz) B2.out S2.out (fun j hj => by have := O2.out j hj; have := HB.out; omega))
              clear hz HG
              go_wp2_with fail
              go_ret
              exact ⟨rfl, BZ.out⟩
          · rcases h with rfl | rfl | rfl
            · go_wp2_with fail
              go_ret
              exact ⟨rfl, B6.out⟩
            · go_wp2_with fail
              go_ret
              exact ⟨rfl, B6.out⟩
            · go_wp2_with fail
              go_ret
              exact ⟨rfl, B6.out⟩
        · have e2 : 0 ≤ nx := by have := HX.out; omega
          have T2 := Lib.hid (T2.out e2)
          have e1 : decide (nx < 0) = false := decide_eq_false (by omega)
          have e1' : ¬ (nx < 0) := by omega
          clear hneg T1
          go_wp2_with fail
          refine (HK.out w3).mono ?_
          rintro e w4 ⟨rfl, rfl⟩
          go_wp2_with fail
          refine (HP.out w3).mono ?_
          rintro e w5 ⟨rfl, rfl⟩
          go_wp2_with fail
          refine T2.out.mono ?_
          rintro e w6 ⟨rfl, hLf⟩
          have L2 := Lib.hid (Left.trans L1.out.1 L1.out.2 hLf)
          have B6 := Lib.hid (show Below B w w6 by
            obtain ⟨O6, _, o6, _⟩ := L2.out
            exact only_below B2.out o6 S2.out (fun j hj => by have := O2.out j hj; have := HB.out; omega))
          clear hLf T2
          rcases HC.out with ⟨rfl, hkl, hs2⟩ | h
          · have hk' : k < M := by rw [← HS1.out.1]; exact hkl
            obtain ⟨lb, off, hal, ce⟩ := HV.out.2.2 k hk'
            have hokd := HV.out.2.1 k hk'
            obtain ⟨kd, hkd⟩ : ∃ x, l[k]!.k = x := ⟨_, rfl⟩
            have cK := (ce.keep (by rw [HB.out]; exact B6.out)).c0
            have hI := hokd.1
            rw [hkd] at cK hI
            obtain ⟨T, hT⟩ : ∃ T, timeV kd = T := ⟨_, rfl⟩
            have HTm := Lib.hid (Time_any kd w6 hI)
            rw [hT] at HTm
            have hKk : (newS l).K[k]! = l[k]!.k := by
              have hkl2 : k < l.length := by rw [HV.out.1]; exact hk'
              show (l.map (·.k))[k]! = _
              rw [getElem!_pos _ _ (by simpa using hkl2), List.getElem_map, ← getElem!_pos l k hkl2]
            have hTb : 1 ≤ T ∧ T ≤ 16 := by
              rw [← hT, ← hkd, ← hKk]
              exact time_b ((ok_new hv).kin k (by rw [(ok_new hv).len, Hs0.out]; exact hk'))
            have hTk : timeV s1.K[k]! = T := by rw [HS1.out.2, hKk, hkd, hT]
            have hS0 : Scrubbed s2 k T nx 0 := by
              rw [hTk] at hs2
              refine ⟨by rw [hs2]; simpa [setH] using hkl, ?_⟩
              rw [hs2]
              show (s1.H.set ((k : Int).toNat) _)[k]! = _
              rw [get_set hkl, Int.toNat_natCast, if_pos rfl, if_pos (by omega)]
              simp
            have i1 : (0 : Int) ≤ (k : Int) := by omega
            have i2 : (k : Int) < (M : Int) := by omega
            have HS0 := Lib.hid hS0
            have HTb := Lib.hid hTb
            have Hkl := Lib.hid hk'
            subst hal
            clear hkl hs2 hk' ce hokd hI hT hTb hS0 hkd hKk hTk
            go_wp2_with fail
            refine HTm.out.mono ?_
            rintro e w7 ⟨rfl, hb⟩
            have B7 := Lib.hid (B6.out.trans (hb.mono (Nat.le_trans S2.out (by obtain ⟨O6, _, o6, _⟩ := L2.out; exact o6.size))))
            have L7 := Lib.hid (show Left Bk w2 w7 b s2 O by
              obtain ⟨O6, r6, o6, q6⟩ := L2.out
              exact Left.trans o6 q6 (Left.self r6 hb))
            clear hb HTm cK L2
            go_wp2_with fail
            go_loopw [17] (fun i wr => ∃ (q : Nat) (s' : RS), i = .int .i64 (q : Nat) ∧ (q : Int) ≤ T ∧ Scrubbed s' k T nx q ∧ Left Bk w2 wr b s' O) (fun i _ => (T - intOf i).toNat)
            case atStart => exact ⟨0, s2, rfl, by have := HTb.out; omega, HS0.out, L7.out⟩
            case round =>
            obtain ⟨q, s', rfl, hq, hsc, hlf⟩ := hrel
            have Hsc := Lib.hid hsc
            have L0 := Lib.hid hlf
            have HkI := Lib.hid (show I64 (k : Nat) from ⟨by omega, by have := H16.out; have := HM.out; omega⟩)
            clear hsc hlf
            by_cases hlt : (q : Int) < T
            · have d1 : decide ((q : Int) < T) = true := decide_eq_true hlt
              have wq : IntKind.i64.wrap (T - (q : Int)) = T - (q : Int) := IntWalk.i64_in _ (by have := HTb.out; omega)
              have wq1 : IntKind.i64.wrap ((q : Int) + 1) = (q : Int) + 1 := IntWalk.i64_in _ (by have := HTb.out; omega)
              have Hlt := Lib.hid hlt
              clear hlt hq
              go_wp2_with fail
              refine (owner_scr L0.out Hsc.out Hlt.out HkI.out).mono ?_
              rintro e w8 ⟨rfl, hz⟩
              have L8 := Lib.hid hz
              clear hz L0
              go_wp2_with fail
              refine (hold_scr L8.out Hsc.out Hlt.out HkI.out).mono ?_
              rintro e w9 ⟨rfl, hz⟩
              have L9 := Lib.hid hz
              clear hz L8
              obtain ⟨gh, hgh⟩ : ∃ g, w9.heap.size = g := ⟨_, rfl⟩
              go_wp2_with (with_reducible refine at_store _ _ _ rfl ?_)
              refine Lib.hid ?_
              have hnew := Blk.new w9 41 [.int .i64 0, .int .i64 0, .int .i64 0]
              rw [hgh] at hnew
              refine store_all rfl _ _ _ rfl gh [.int .i64 (-1), .int .i64 (T - (q : Int)), .int .i64 nx] rfl rfl _ _ hnew (by kernel_rfl) rfl (by simp [Value.oneCell']) ?_
              intro y1 hX hoX
              have hal := (Below.refl w9.heap.size w9).alloc (Nat.le_refl _) (.cells #[.int .i64 0, .int .i64 0, .int .i64 0] 41)
              have hbX : Below w9.heap.size w9 y1 := hal.trans (hoX.below hal.size (fun j e => by rw [e, ← hgh]; exact Nat.le_refl _))
              have LY := Lib.hid (show Left Bk w2 y1 b s' O by
                obtain ⟨O', k1, k2, k3⟩ := L9.out
                exact Left.trans k2 k3 (Left.self k1 hbX))
              have h1 := hX.at 1 rfl
              have h2 := hX.at 2 rfl
              clear hX hoX hal hbX hnew hgh L9
              go_wp2_with fail
              refine (give_scr LY.out Hsc.out Hlt.out HkI.out 3 (by omega)).mono ?_
              rintro e y2 ⟨rfl, hz⟩
              have L2 := Lib.hid hz
              clear hz LY h1 h2
              go_wp2_with fail
              refine (take_scr L2.out Hsc.out Hlt.out HkI.out).mono ?_
              rintro e y3 ⟨rfl, hz⟩
              have L3 := Lib.hid hz
              clear hz L2
              go_wp2_with fail
              refine (move_scr L3.out Hsc.out Hlt.out HkI.out 2 (by omega)).mono ?_
              rintro e y4 ⟨rfl, hz⟩
              have L4 := Lib.hid hz
              clear hz L3
              by_cases hq2 : q < len2
              · have u1 : decide ((q : Int) < (len2 : Int)) = true := decide_eq_true (by omega)
                have u1' : decide (q < len2) = true := decide_eq_true hq2
                have hN := HN.out
                have p1 : (0 : Int) ≤ (q : Int) := by omega
                have p2 : (q : Int) ≤ (q : Int) + 1 := by omega
                have p3 : (q : Int) + 1 ≤ (cap2 : Int) := by omega
                obtain ⟨lb2, off2, rfl, _⟩ := HR2.out.2.2 q hq2
                have Hq2 := Lib.hid hq2
                clear hN hq2
                go_wp2_with fail
                refine (run_left L4.out false (HR2.out.sub1 Hq2.out) (by omega) (by rw [HB.out]; exact B2.out) O2.out).mono ?_
                rintro e y5 ⟨rfl, s5, hrn, hz⟩
                have L5 := Lib.hid hz
                have H5 := Lib.hid (scr_runs Hsc.out Hlt.out hrn)
                clear hrn hz L4
                go_wp2_with fail
                refine (tick_left L5.out).mono ?_
                rintro e y6 ⟨ta, tc, rfl, hr, hz⟩
                have L6 := Lib.hid hz
                have hdn := done_iff H5.out Hlt.out
                have St := Lib.hid (scr_tick H5.out Hlt.out)
                have hle : (doneV s5).length ≤ 16 := Nat.le_trans (nums_len _ _ _) (by obtain ⟨_, k1, _⟩ := L5.out; exact k1.ok.few)
                obtain ⟨D, hD⟩ : ∃ D, doneV s5 = D := ⟨_, rfl⟩
                rw [hD] at hr hdn hle ⊢
                obtain ⟨dn, hdl⟩ : ∃ m, D.length = m := ⟨_, rfl⟩
                rw [hdl] at hr hle ⊢
                have RR := Lib.hid hr
                have Hdl := Lib.hid hdl
                have Hle := Lib.hid hle
                have Hdn := Lib.hid hdn
                clear hr hz hdn hle hD hdl L5
                go_wp2_with fail
                go_loopw [23, 24] (fun tv jv wr => ∃ j : Nat, j ≤ dn ∧ jv = .int .i64 (j : Nat) ∧ tv = .bool (decide (k ∈ D.take j)) ∧ Below y6.heap.size y6 wr) (fun _ jv _ => dn - (intOf jv).toNat)
                case atStart => exact ⟨0, Nat.zero_le _, rfl, by simp, Below.refl _ _⟩
                case round =>
                obtain ⟨j, hj, rfl, rfl, hb⟩ := hrel
                have Hb := Lib.hid hb
                clear hb
                by_cases hjl : j < dn
                · have v1 : decide ((j : Int) < (dn : Int)) = true := decide_eq_true (by omega)
                  have v1' : decide (j < dn) = true := decide_eq_true hjl
                  have wj : IntKind.i64.wrap ((j : Int) + 1) = (j : Int) + 1 := IntWalk.i64_in _ (by have := Hle.out; omega)
                  have j1 : (0 : Int) ≤ (j : Int) := by omega
                  have j2 : (j : Int) < (dn : Int) := by omega
                  obtain ⟨gt, hgt⟩ := own_some RR.out (.inl (by omega))
                  have R2 := own_keep RR.out Hb.out
                  rw [hgt] at R2
                  have cj : wr.cell? ⟨gt, j, none⟩ = some (.int .i64 (D[j]! : Nat)) := by
                    have := R2.cellAt j (by omega)
                    rw [this]
                    have hjD : j < D.length := by rw [Hdl.out]; exact hjl
                    simp [iv, hjD]
                  have tk : decide (k ∈ D.take (j + 1)) = (decide (k ∈ D.take j) || decide ((D[j]! : Int) = (k : Int))) := by
                    have hjD : j < D.length := by rw [Hdl.out]; exact hjl
                    rw [List.take_succ_eq_append_getElem hjD, getElem!_pos D j hjD]
                    by_cases e : k ∈ D.take j
                    · rw [decide_eq_true (show k ∈ D.take j ++ [D[j]] from List.mem_append_left _ e), decide_eq_true e]
                      rfl
                    · simp only [List.mem_append, e, List.mem_singleton, false_or, decide_false, Bool.false_or]
                      congr 1
                      apply propext
                      constructor
                      · intro h; rw [h]
                      · intro h; omega
                  obtain ⟨tv, htv⟩ : ∃ b, decide (k ∈ D.take j) = b := ⟨_, rfl⟩
                  obtain ⟨tw, htw⟩ : ∃ b, decide (k ∈ D.take (j + 1)) = b := ⟨_, rfl⟩
                  obtain ⟨z, hz⟩ : ∃ z, D[j]! = z := ⟨_, rfl⟩
                  rw [htv, htw, hz] at tk
                  rw [hz] at cj
                  rw [htv]
                  have Hjl := Lib.hid hjl
                  have Htw := Lib.hid htw
                  have Tk := Lib.hid tk
                  have eqz : ((z : Int) == (k : Int)) = decide ((z : Int) = (k : Int)) := by rw [Bool.eq_iff_iff]; simp
                  subst hgt
                  clear hj hjl htv htw hz R2 tk
                  cases tv with
                  | true =>
                    go_wp2_with fail
                    exact ⟨⟨j + 1, Hjl.out, by go_num, by rw [Htw.out, Tk.out]; rfl, Hb.out⟩, by have := Hjl.out; simp [intOf]; omega⟩
                  | false =>
                    by_cases ezk : (z : Int) = (k : Int)
                    · have b1 : ((z : Int) == (k : Int)) = true := by rw [eqz]; exact decide_eq_true ezk
                      have ht : tw = true := by rw [Tk.out, decide_eq_true ezk]; rfl
                      have Ht := Lib.hid ht
                      clear ezk ht eqz
                      go_wp2_with fail
                      exact ⟨⟨j + 1, Hjl.out, by go_num, by rw [Htw.out, Ht.out], Hb.out⟩, by have := Hjl.out; simp [intOf]; omega⟩
                    · have b1 : ((z : Int) == (k : Int)) = false := by rw [eqz]; exact decide_eq_false ezk
                      have ht : tw = false := by rw [Tk.out, decide_eq_false ezk]; rfl
                      have Ht := Lib.hid ht
                      clear ezk ht eqz
                      go_wp2_with fail
                      exact ⟨⟨j + 1, Hjl.out, by go_num, by rw [Htw.out, Ht.out], Hb.out⟩, by have := Hjl.out; simp [intOf]; omega⟩
                · have v1 : decide ((j : Int) < (dn : Int)) = false := decide_eq_false (by omega)
                  have v1' : decide (j < dn) = false := decide_eq_false hjl
                  have htake : D.take j = D := List.take_of_length_le (by rw [Hdl.out]; omega)
                  rw [htake]
                  have LE := Lib.hid (show Left Bk w2 wr b (tickV s5) O by
                    obtain ⟨O', k1, k2, k3⟩ := L6.out
                    exact Left.trans k2 k3 (Left.self k1 Hb.out))
                  clear hj hjl htake
                  by_cases hqT : (q : Int) + 1 = T
                  · have g1 : decide (k ∈ D) = true := decide_eq_true (Hdn.out.2 hqT)
                    rw [g1]
                    have g2 : ((q : Int) == T - 1) = true := by simp; omega
                    have g3 : IntKind.i64.wrap (T - 1) = T - 1 := IntWalk.i64_in _ (by have := HTb.out; omega)
                    have g4 : (q : Int) = T - 1 := by omega
                    have HqT := Lib.hid hqT
                    clear g1 hqT g4
                    go_wp2_with fail
                    exact ⟨⟨q + 1, _, by go_num, by have := HqT.out; push_cast; omega, St.out, LE.out⟩, by have := HqT.out; have := Hlt.out; simp [intOf]; omega⟩
                  · have g1 : decide (k ∈ D) = false := decide_eq_false (fun h => hqT (Hdn.out.1 h))
                    rw [g1]
                    have g2 : ((q : Int) == T - 1) = false := by simp; omega
                    have g3 : IntKind.i64.wrap (T - 1) = T - 1 := IntWalk.i64_in _ (by have := HTb.out; omega)
                    have HqT := Lib.hid hqT
                    clear g1 hqT
                    go_wp2_with fail
                    exact ⟨⟨q + 1, _, by go_num, by have := Hlt.out; push_cast; omega, St.out, LE.out⟩, by have := Hlt.out; simp [intOf]; omega⟩
              · have u1 : decide ((q : Int) < (len2 : Int)) = false := decide_eq_false (by omega)
                have u1' : decide (q < len2) = false := decide_eq_false hq2
                clear hq2
                go_wp2_with fail
                refine (tick_left L4.out).mono ?_
                rintro e y6 ⟨ta, tc, rfl, hr, hz⟩
                have L6 := Lib.hid hz
                have hdn := done_iff Hsc.out Hlt.out
                have St := Lib.hid (scr_tick Hsc.out Hlt.out)
                have hle : (doneV s').length ≤ 16 := Nat.le_trans (nums_len _ _ _) (by obtain ⟨_, k1, _⟩ := L4.out; exact k1.ok.few)
                obtain ⟨D, hD⟩ : ∃ D, doneV s' = D := ⟨_, rfl⟩
                rw [hD] at hr hdn hle ⊢
                obtain ⟨dn, hdl⟩ : ∃ m, D.length = m := ⟨_, rfl⟩
                rw [hdl] at hr hle ⊢
                have RR := Lib.hid hr
                have Hdl := Lib.hid hdl
                have Hle := Lib.hid hle
                have Hdn := Lib.hid hdn
                clear hr hz hdn hle hD hdl L4
                go_wp2_with fail
                go_loopw [23, 24] (fun tv jv wr => ∃ j : Nat, j ≤ dn ∧ jv = .int .i64 (j : Nat) ∧ tv = .bool (decide (k ∈ D.take j)) ∧ Below y6.heap.size y6 wr) (fun _ jv _ => dn - (intOf jv).toNat)
                case atStart => exact ⟨0, Nat.zero_le _, rfl, by simp, Below.refl _ _⟩
                case round =>
                obtain ⟨j, hj, rfl, rfl, hb⟩ := hrel
                have Hb := Lib.hid hb
                clear hb
                by_cases hjl : j < dn
                · have v1 : decide ((j : Int) < (dn : Int)) = true := decide_eq_true (by omega)
                  have v1' : decide (j < dn) = true := decide_eq_true hjl
                  have wj : IntKind.i64.wrap ((j : Int) + 1) = (j : Int) + 1 := IntWalk.i64_in _ (by have := Hle.out; omega)
                  have j1 : (0 : Int) ≤ (j : Int) := by omega
                  have j2 : (j : Int) < (dn : Int) := by omega
                  obtain ⟨gt, hgt⟩ := own_some RR.out (.inl (by omega))
                  have R2 := own_keep RR.out Hb.out
                  rw [hgt] at R2
                  have cj : wr.cell? ⟨gt, j, none⟩ = some (.int .i64 (D[j]! : Nat)) := by
                    have := R2.cellAt j (by omega)
                    rw [this]
                    have hjD : j < D.length := by rw [Hdl.out]; exact hjl
                    simp [iv, hjD]
                  have tk : decide (k ∈ D.take (j + 1)) = (decide (k ∈ D.take j) || decide ((D[j]! : Int) = (k : Int))) := by
                    have hjD : j < D.length := by rw [Hdl.out]; exact hjl
                    rw [List.take_succ_eq_append_getElem hjD, getElem!_pos D j hjD]
                    by_cases e : k ∈ D.take j
                    · rw [decide_eq_true (show k ∈ D.take j ++ [D[j]] from List.mem_append_left _ e), decide_eq_true e]
                      rfl
                    · simp only [List.mem_append, e, List.mem_singleton, false_or, decide_false, Bool.false_or]
                      congr 1
                      apply propext
                      constructor
                      · intro h; rw [h]
                      · intro h; omega
                  obtain ⟨tv, htv⟩ : ∃ b, decide (k ∈ D.take j) = b := ⟨_, rfl⟩
                  obtain ⟨tw, htw⟩ : ∃ b, decide (k ∈ D.take (j + 1)) = b := ⟨_, rfl⟩
                  obtain ⟨z, hz⟩ : ∃ z, D[j]! = z := ⟨_, rfl⟩
                  rw [htv, htw, hz] at tk
                  rw [hz] at cj
                  rw [htv]
                  have Hjl := Lib.hid hjl
                  have Htw := Lib.hid htw
                  have Tk := Lib.hid tk
                  have eqz : ((z : Int) == (k : Int)) = decide ((z : Int) = (k : Int)) := by rw [Bool.eq_iff_iff]; simp
                  subst hgt
                  clear hj hjl htv htw hz R2 tk
                  cases tv with
                  | true =>
                    go_wp2_with fail
                    exact ⟨⟨j + 1, Hjl.out, by go_num, by rw [Htw.out, Tk.out]; rfl, Hb.out⟩, by have := Hjl.out; simp [intOf]; omega⟩
                  | false =>
                    by_cases ezk : (z : Int) = (k : Int)
                    · have b1 : ((z : Int) == (k : Int)) = true := by rw [eqz]; exact decide_eq_true ezk
                      have ht : tw = true := by rw [Tk.out, decide_eq_true ezk]; rfl
                      have Ht := Lib.hid ht
                      clear ezk ht eqz
                      go_wp2_with fail
                      exact ⟨⟨j + 1, Hjl.out, by go_num, by rw [Htw.out, Ht.out], Hb.out⟩, by have := Hjl.out; simp [intOf]; omega⟩
                    · have b1 : ((z : Int) == (k : Int)) = false := by rw [eqz]; exact decide_eq_false ezk
                      have ht : tw = false := by rw [Tk.out, decide_eq_false ezk]; rfl
                      have Ht := Lib.hid ht
                      clear ezk ht eqz
                      go_wp2_with fail
                      exact ⟨⟨j + 1, Hjl.out, by go_num, by rw [Htw.out, Ht.out], Hb.out⟩, by have := Hjl.out; simp [intOf]; omega⟩
                · have v1 : decide ((j : Int) < (dn : Int)) = false := decide_eq_false (by omega)
                  have v1' : decide (j < dn) = false := decide_eq_false hjl
                  have htake : D.take j = D := List.take_of_length_le (by rw [Hdl.out]; omega)
                  rw [htake]
                  have LE := Lib.hid (show Left Bk w2 wr b (tickV s') O by
                    obtain ⟨O', k1, k2, k3⟩ := L6.out
                    exact Left.trans k2 k3 (Left.self k1 Hb.out))
                  clear hj hjl htake
                  by_cases hqT : (q : Int) + 1 = T
                  · have g1 : decide (k ∈ D) = true := decide_eq_true (Hdn.out.2 hqT)
                    rw [g1]
                    have g2 : ((q : Int) == T - 1) = true := by simp; omega
                    have g3 : IntKind.i64.wrap (T - 1) = T - 1 := IntWalk.i64_in _ (by have := HTb.out; omega)
                    have g4 : (q : Int) = T - 1 := by omega
                    have HqT := Lib.hid hqT
                    clear g1 hqT g4
                    go_wp2_with fail
                    exact ⟨⟨q + 1, _, by go_num, by have := HqT.out; push_cast; omega, St.out, LE.out⟩, by have := HqT.out; have := Hlt.out; simp [intOf]; omega⟩
                  · have g1 : decide (k ∈ D) = false := decide_eq_false (fun h => hqT (Hdn.out.1 h))
                    rw [g1]
                    have g2 : ((q : Int) == T - 1) = false := by simp; omega
                    have g3 : IntKind.i64.wrap (T - 1) = T - 1 := IntWalk.i64_in _ (by have := HTb.out; omega)
                    have HqT := Lib.hid hqT
                    clear g1 hqT
                    go_wp2_with fail
                    exact ⟨⟨q + 1, _, by go_num, by have := Hlt.out; push_cast; omega, St.out, LE.out⟩, by have := Hlt.out; simp [intOf]; omega⟩
            · have d1 : decide ((q : Int) < T) = false := decide_eq_false hlt
              have hend := scr_end Hsc.out hlt
              have hkl := Hsc.out.1
              obtain ⟨O', k1, k2, k3⟩ := L0.out
              have HOw := Lib.hid (show Calls Try.prog 12 #[at0 b, .int .i64 (k : Nat)] wr fun z w' => z = .returned (.tuple #[.int .i64 nx, .bool true]) ∧ Below wr.heap.size wr w' by
                have := Owner_any Bk b s' O' (k : Nat) wr HkI.out k1
                rw [end_some hkl hend e2] at this
                exact this)
              have KK := Lib.hid k1
              have LL := Lib.hid (And.intro k2 k3)
              have Hend := Lib.hid hend
              have Hkl := Lib.hid hkl
              clear hlt hq hend hkl k1 k2 k3 L0
              go_wp2_with fail
              refine HOw.out.mono ?_
              rintro e w8 ⟨rfl, hb⟩
              have K8 := Lib.hid (KK.out.keep hb)
              have LL8 := Lib.hid (And.intro (LL.out.1.trans (Only.of_below hb)) LL.out.2)
              have B8 := Lib.hid (left_below (Left.trans LL.out.1 LL.out.2 (Left.self KK.out hb)) B2.out S2.out (fun j hj => by have := O2.out j hj; have := HB.out; omega))
              clear hb HOw KK
              have e3 : decide (0 ≤ nx) = true := decide_eq_true e2
              have e4 : (nx == nx) = true := by simp
              go_wp2_with fail
              go_ret
              exact ⟨rfl, B8.out⟩
          · rcases h with rfl | rfl | rfl
            · go_wp2_with fail
              go_ret
              exact ⟨rfl, B6.out⟩
            · go_wp2_with fail
              go_ret
              exact ⟨rfl, B6.out⟩
            · go_wp2_with fail
              go_ret
              exact ⟨rfl, B6.out⟩
      · -- no device
        have hk0 : k = 0 := by have := HKM.out.1; omega
        subst hk0
        obtain ⟨nx, hnx⟩ : ∃ nx, (p : Int) - 1 = nx := ⟨_, rfl⟩
        have HX := Lib.hid (show -1 ≤ nx ∧ nx < 8 by omega)
        have wp1 : IntKind.i64.wrap ((p : Int) - 1) = nx := by rw [hnx]; exact IntWalk.i64_in _ (by omega)
        have T1 := Lib.hid (fun (e : nx = -1) => (show Calls Try.prog 9 #[at0 b, .int .i64 0] w3 fun z w' => z = .returned (.int .i64 (offV s1 0 nx).1) ∧ Left Bk w3 w' b (offV s1 0 nx).2 O3 by
          have h := Take_any Bk b s1 O3 ((0 : Nat) : Int) w3 ⟨by decide, by decide⟩ K1.out
          rw [take_off, ← e] at h
          exact h))
        have T2 := Lib.hid (fun (e : 0 ≤ nx) => (show Calls Try.prog 10 #[at0 b, .int .i64 0, .int .i64 nx] w3 fun z w' => z = .returned (.int .i64 (offV s1 0 nx).1) ∧ Left Bk w3 w' b (offV s1 0 nx).2 O3 by
          have h := Move_any Bk b s1 O3 ((0 : Nat) : Int) nx w3 ⟨by decide, by decide⟩ ⟨by omega, by have := HX.out; omega⟩ K1.out
          rw [move_off s1 0 nx ⟨e, HX.out.2⟩] at h
          exact h))
        obtain ⟨y, hy⟩ : ∃ y, (offV s1 0 nx).1 = y := ⟨_, rfl⟩
        obtain ⟨s2, hs2⟩ : ∃ s, (offV s1 0 nx).2 = s := ⟨_, rfl⟩
        have hoc := off_cases s1 0 nx
        rw [hy, hs2] at hoc T1 T2
        have HC := Lib.hid hoc
        clear hp hnx hoc hy hs2 HKM
        by_cases hneg : nx = -1
        · have T1 := Lib.hid (T1.out hneg)
          have e1 : decide (nx < 0) = true := decide_eq_true (by omega)
          have e2 : nx < 0 := by omega
          clear hneg
          go_wp2_with fail
          refine (HK.out w3).mono ?_
          rintro e w4 ⟨rfl, rfl⟩
          go_wp2_with fail
          refine (HP.out w3).mono ?_
          rintro e w5 ⟨rfl, rfl⟩
          go_wp2_with fail
          refine T1.out.mono ?_
          rintro e w6 ⟨rfl, hLf⟩
          have L2 := Lib.hid (Left.trans L1.out.1 L1.out.2 hLf)
          have B6 := Lib.hid (show Below B w w6 by
            obtain ⟨O6, _, o6, _⟩ := L2.out
            exact only_below B2.out o6 S2.out (fun j hj => by have := O2.out j hj; have := HB.out; omega))
          clear hLf T1
          rcases HC.out with ⟨rfl, hkl, hs2⟩ | h
          · exfalso
            have := HS1.out.1
            omega
          · rcases h with rfl | rfl | rfl
            · go_wp2_with fail
              go_ret
              exact ⟨rfl, B6.out⟩
            · go_wp2_with fail
              go_ret
              exact ⟨rfl, B6.out⟩
            · go_wp2_with fail
              go_ret
              exact ⟨rfl, B6.out⟩
        · have e2 : 0 ≤ nx := by have := HX.out; omega
          have T2 := Lib.hid (T2.out e2)
          have e1 : decide (nx < 0) = false := decide_eq_false (by omega)
          have e1' : ¬ (nx < 0) := by omega
          clear hneg T1
          go_wp2_with fail
          refine (HK.out w3).mono ?_
          rintro e w4 ⟨rfl, rfl⟩
          go_wp2_with fail
          refine (HP.out w3).mono ?_
          rintro e w5 ⟨rfl, rfl⟩
          go_wp2_with fail
          refine T2.out.mono ?_
          rintro e w6 ⟨rfl, hLf⟩
          have L2 := Lib.hid (Left.trans L1.out.1 L1.out.2 hLf)
          have B6 := Lib.hid (show Below B w w6 by
            obtain ⟨O6, _, o6, _⟩ := L2.out
            exact only_below B2.out o6 S2.out (fun j hj => by have := O2.out j hj; have := HB.out; omega))
          clear hLf T2
          rcases HC.out with ⟨rfl, hkl, hs2⟩ | h
          · exfalso
            have := HS1.out.1
            omega
          · rcases h with rfl | rfl | rfl
            · go_wp2_with fail
              go_ret
              exact ⟨rfl, B6.out⟩
            · go_wp2_with fail
              go_ret
              exact ⟨rfl, B6.out⟩
            · go_wp2_with fail
              go_ret
              exact ⟨rfl, B6.out⟩
    · have d0 : decide ((200 : Int) < (len1 : Int) + (len2 : Int)) = true := decide_eq_true (by omega)
      have d0' : decide (200 < len1 + len2) = true := decide_eq_true (by omega)
      clear h200
      go_wp2_with fail
      go_ret
      exact ⟨rfl, B2.out⟩
end Go.Proofs.Ytmdepkehpohgeaa.Scr
