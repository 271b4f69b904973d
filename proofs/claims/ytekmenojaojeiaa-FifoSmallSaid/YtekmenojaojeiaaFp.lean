/- The walk of FifoOrder. -/
import Derived.Test.YtekmenojaojeiaaFo
import Derived.Test.YtekmenojaojeiaaRow
import Derived.LoopN
namespace Go.Proofs.Ytekmenojaojeiaa.Fifo5
open Go.RowKit Fifo FI
set_option linter.unusedVariables false

/-- Numbers as things. -/
def vals (l : List Int) : List Value := l.map (Value.int .i64)
theorem vals_len (l : List Int) : (vals l).length = l.length := by simp [vals]
theorem vals_snoc (l : List Int) {i : Nat} (h : i < l.length) : vals (l.take i) ++ [.int .i64 (l.getD i 0)] = vals (l.take (i + 1)) := by
  have e : l.take (i + 1) = l.take i ++ [l.getD i 0] := by
    rw [List.take_add_one, List.getElem?_eq_getElem h]
    simp [List.getD_eq_getElem?_getD, List.getElem?_eq_getElem h]
  rw [e]
  simp only [vals, List.map_append, List.map_cons, List.map_nil]
theorem vals_cons (l : List Int) {j m : Nat} (h : j < m) (hm : m ≤ l.length) : vals ((l.take m).drop j) = .int .i64 (l.getD j 0) :: vals ((l.take m).drop (j + 1)) := by
  have hj : j < (l.take m).length := by simp; omega
  rw [List.drop_eq_getElem_cons hj]
  simp [vals, List.getD_eq_getElem?_getD, List.getElem?_eq_getElem (show j < l.length by omega)]
theorem row_at {w : World} {a : Option Addr} {len : Nat} {l : List Int} (h : Row .i64 w a len l) (hl : 0 < len) : ∃ g off, a = some ⟨g, off, none⟩ ∧ g < w.heap.size ∧ ∀ w', Below w.heap.size w w' → ∀ i, i < len → w'.cell? ⟨g, off + i, none⟩ = some (.int .i64 (l.getD i 0)) := by
  obtain ⟨h1, h2, h3, h4⟩ := h
  rcases h4 with h4 | ⟨g, off, rfl, hg, hc⟩
  · omega
  · exact ⟨g, off, rfl, hg, fun w' hb i hi => by rw [hb.cell (p := ⟨g, off + i, none⟩) hg]; exact hc i hi⟩

/-- The row of these things, in blocks from B on; nothing below B has turned. -/
def Mine (B : Nat) (w0 w : World) (b room : Nat) (l : List Value) : Prop := ∃ O, St w b room l O ∧ (∀ j, O j → B ≤ j) ∧ Below B w0 w ∧ B ≤ w0.heap.size
theorem Put_mine {B : Nat} {w0 : World} (b room : Nat) (l l' : List Value) (x : Int) (ok : Bool) (w : World) (h : Mine B w0 w b room l) (h9 : l.length ≤ 1900) (hok : decide (l.length < room) = ok) (hl' : (if ok then l ++ [.int .i64 x] else l) = l') :
    Calls Try.prog 10 #[.pointer (some ⟨b, 0, none⟩), .int .i64 x] w fun e w' => e = .returned (.bool ok) ∧ Mine B w0 w' b room l' := by
  obtain ⟨O, hS, hO, hb, h0⟩ := h
  refine (Put_st b room l l' O _ ok w hS h9 (elmV x) hok hl').mono ?_
  rintro e w' ⟨rfl, O', h1, h2, h3⟩
  obtain ⟨h4, h5⟩ := own_step hb h0 hO h2 h3
  exact ⟨rfl, O', h1, h5, h4, h0⟩
theorem Take_mine {B : Nat} {w0 : World} (b room : Nat) (x : Value) (l : List Value) (w : World) (h : Mine B w0 w b room (x :: l)) :
    Calls Try.prog 12 #[.pointer (some ⟨b, 0, none⟩)] w fun e w' => e = .returned (.tuple #[x, .bool true]) ∧ Mine B w0 w' b room l := by
  obtain ⟨O, hS, hO, hb, h0⟩ := h
  refine (Take_cons b room x l O w hS).mono ?_
  rintro e w' ⟨rfl, h1, h2⟩
  obtain ⟨h4, h5⟩ := own_step hb h0 hO h2 (fun j h => .inl h)
  exact ⟨rfl, O, h1, h5, h4, h0⟩
theorem Take_mine0 {B : Nat} {w0 : World} (b room : Nat) (w : World) (h : Mine B w0 w b room []) :
    Calls Try.prog 12 #[.pointer (some ⟨b, 0, none⟩)] w fun e w' => e = .returned (.tuple #[.int .i64 0, .bool false]) ∧ Mine B w0 w' b room [] := by
  obtain ⟨O, hS, hO, hb, h0⟩ := h
  refine (Take_nil b room O w hS).mono ?_
  rintro e w' ⟨rfl, h1, h2⟩
  obtain ⟨h4, h5⟩ := own_step hb h0 hO h2 (fun j h => .inl h)
  exact ⟨rfl, O, h1, h5, h4, h0⟩
theorem Mine.keep {B : Nat} {w0 w w' : World} {b room : Nat} {l : List Value} (h : Mine B w0 w b room l) (hb : Below w.heap.size w w') : Mine B w0 w' b room l := by
  obtain ⟨O, hS, hO, hb0, h0⟩ := h
  exact ⟨O, hS.keep hb, hO, hb0.trans (hb.mono (Nat.le_trans h0 hb0.size)), h0⟩
theorem First_mine {B : Nat} {w0 : World} (b room : Nat) (x : Value) (l : List Value) (w : World) (h : Mine B w0 w b room (x :: l)) :
    Calls Try.prog 25 #[.pointer (some ⟨b, 0, none⟩)] w fun e w' => e = .returned (.tuple #[x, .bool true]) ∧ Mine B w0 w' b room (x :: l) := by
  obtain ⟨O, hS, hO, hb, h0⟩ := h
  refine (First_st b room _ O w hS).mono ?_
  rintro e w' ⟨rfl, h1⟩
  exact ⟨rfl, Mine.keep ⟨O, hS, hO, hb, h0⟩ h1⟩
theorem Len_mine {B : Nat} {w0 : World} (b room n : Nat) (l : List Value) (w : World) (h : Mine B w0 w b room l) (hn : l.length = n) :
    Calls Try.prog 23 #[.pointer (some ⟨b, 0, none⟩)] w fun e w' => e = .returned (.int .i64 (n : Nat)) ∧ w = w' := by
  subst hn
  obtain ⟨O, hS, hO, hb, h0⟩ := h
  exact Len_st b room l O w hS
theorem Left_mine {B : Nat} {w0 : World} (b room d : Nat) (l : List Value) (w : World) (h : Mine B w0 w b room l) (hd : room - l.length = d) :
    Calls Try.prog 24 #[.pointer (some ⟨b, 0, none⟩)] w fun e w' => e = .returned (.int .i64 (d : Nat)) ∧ Mine B w0 w' b room l := by
  subst hd
  obtain ⟨O, hS, hO, hb, h0⟩ := h
  refine (Left_st b room _ O w hS).mono ?_
  rintro e w' ⟨rfl, h1⟩
  exact ⟨rfl, Mine.keep ⟨O, hS, hO, hb, h0⟩ h1⟩
theorem Mine.below {B : Nat} {w0 w : World} {b room : Nat} {l : List Value} (h : Mine B w0 w b room l) : Below B w0 w := by
  obtain ⟨O, hS, hO, hb, h0⟩ := h
  exact hb

set_option maxRecDepth 100000 in
set_option maxHeartbeats 4000000 in
theorem order_core (R : Nat) (a : Option Addr) (len cap : Nat) (l : List Int) (w : World) (hR : R < 9223372036854775808) (hrow : Row .i64 w a len l) (h3 : len ≤ 300) :
    Calls Try.prog 5 #[.int .i64 (R : Nat), .slice a len cap] w fun e w' => e = .returned (.bool true) ∧ Below w.heap.size w w' := by
  have hlen : l.length = len := hrow.1
  have A := awake_any w
  go_enter Try.func5, Try.ntmps5
  go_wp2_with fail
  refine A.mono ?_
  rintro e w1 ⟨rfl, hb1⟩
  clear A
  have d1 : decide ((300 : Int) < (len : Int)) = false := decide_eq_false (by omega)
  have d2 : decide ((R : Int) < 0) = false := decide_eq_false (by omega)
  go_wp2_with fail
  refine (New_st R _ hR).mono ?_
  rintro e w2 ⟨b, O, rfl, hS, hO, hb2⟩
  have M0 : Mine w.heap.size w w2 b R [] := ⟨O, hS, fun j hj => Nat.le_trans hb1.size (hO j hj), hb1.trans (hb2.mono hb1.size), Nat.le_refl _⟩
  have HM := Lib.hid M0
  have Hrow := Lib.hid hrow
  have Hlen := Lib.hid hlen
  clear hS hO hb2 M0 hb1 hrow hlen
  go_wp2_with fail
  go_loopw [6] (fun p wr => ∃ i : Nat, i ≤ len ∧ p = .int .i64 i ∧ Mine w.heap.size w wr b R (vals (l.take (min i R)))) (fun p _ => len - (intOf p).toNat)
  case atStart => exact ⟨0, by omega, rfl, by simpa [vals] using HM.out⟩
  case round =>
    obtain ⟨i, hi, rfl, hm⟩ := hrel
    have Hm := Lib.hid hm
    clear hm
    by_cases hil : i < len
    · obtain ⟨g, off, rfl, hg, hc⟩ := row_at Hrow.out (by omega)
      obtain ⟨x, hx⟩ : ∃ x, l.getD i 0 = x := ⟨_, rfl⟩
      have Hc := Lib.hid (fun w' hb => hx ▸ hc w' hb i hil)
      have q0 := Hc.out _ Hm.out.below
      have e1 : decide ((i : Int) < (len : Int)) = true := decide_eq_true (by omega)
      obtain ⟨s, hs⟩ : ∃ s, i + 1 = s := ⟨_, rfl⟩
      have e2 : IntKind.i64.wrap ((i : Int) + 1) = (s : Int) := by rw [i64w (by omega)]; omega
      by_cases hiR : i < R
      · have P := Put_mine b R _ (vals (l.take (i + 1))) x true _ Hm.out (by rw [vals_len]; simp; omega) (decide_eq_true (by rw [vals_len]; simp; omega)) (by rw [Nat.min_eq_left (Nat.le_of_lt hiR), ← hx]; exact vals_snoc l (by rw [Hlen.out]; exact hil))
        have hn : (vals (l.take (i + 1))).length = s := by rw [vals_len]; simp; have := Hlen.out; omega
        have e3 : decide ((i : Int) < (R : Int)) = true := decide_eq_true (by omega)
        have e4 : (if R < s then (R : Int) else (s : Int)) = (s : Int) := by rw [if_neg (by omega)]
        obtain ⟨d, hd⟩ : ∃ d, R - s = d := ⟨_, rfl⟩
        have e5 : IntKind.i64.wrap ((R : Int) - (s : Int)) = (d : Int) := by rw [i64w (by omega)]; omega
        have Hn := Lib.hid hn
        have Hd := Lib.hid hd
        have hmin : min (i + 1) R = i + 1 := Nat.min_eq_left hiR
        have Hmin := Lib.hid hmin
        have Hs := Lib.hid hs
        clear hn hd hmin hx hc hs
        go_wp2_with fail
        refine P.mono ?_
        rintro e w3 ⟨rfl, hm3⟩
        have Hm3 := Lib.hid hm3
        clear hm3 P Hm
        go_wp2_with fail
        refine (Len_mine b R s _ _ Hm3.out Hn.out).mono ?_
        rintro e w4 ⟨rfl, rfl⟩
        go_wp2_with fail
        refine (Left_mine b R d _ _ Hm3.out (by rw [Hn.out]; exact Hd.out)).mono ?_
        rintro e w4 ⟨rfl, hm4⟩
        have Hm4 := Lib.hid hm4
        clear hm4 Hm3
        go_wp2_with fail
        refine (Len_mine b R s _ _ Hm4.out Hn.out).mono ?_
        rintro e w5 ⟨rfl, rfl⟩
        go_wp2_with fail
        exact ⟨⟨s, by have := Hs.out; omega, rfl, by rw [← Hs.out, Hmin.out]; exact Hm4.out⟩, by have := Hs.out; simp [intOf]; omega⟩
      · have P := Put_mine b R _ (vals (l.take (min (i + 1) R))) x false _ Hm.out (by rw [vals_len]; simp; omega) (decide_eq_false (by rw [vals_len]; simp; have := Hlen.out; omega)) (by rw [Nat.min_eq_right (by omega), Nat.min_eq_right (by omega)]; rfl)
        have hn : (vals (l.take (min (i + 1) R))).length = R := by rw [vals_len]; simp; have := Hlen.out; omega
        have e3 : decide ((i : Int) < (R : Int)) = false := decide_eq_false (by omega)
        have e4 : (if R < s then (R : Int) else (s : Int)) = (R : Int) := by rw [if_pos (by omega)]
        obtain ⟨d, hd⟩ : ∃ d, R - R = d := ⟨_, rfl⟩
        have e5 : (0 : Int) = (d : Int) := by omega
        have hd0 : d = 0 := by omega
        subst hd0
        have Hn := Lib.hid hn
        have Hd := Lib.hid hd
        have Hs := Lib.hid hs
        clear hn hd hx hc hs e5
        go_wp2_with fail
        refine P.mono ?_
        rintro e w3 ⟨rfl, hm3⟩
        have Hm3 := Lib.hid hm3
        clear hm3 P Hm
        go_wp2_with fail
        refine (Len_mine b R R _ _ Hm3.out Hn.out).mono ?_
        rintro e w4 ⟨rfl, rfl⟩
        go_wp2_with fail
        refine (Left_mine b R 0 _ _ Hm3.out (by rw [Hn.out]; exact Hd.out)).mono ?_
        rintro e w4 ⟨rfl, hm4⟩
        have Hm4 := Lib.hid hm4
        clear hm4 Hm3
        go_wp2_with fail
        refine (Len_mine b R R _ _ Hm4.out Hn.out).mono ?_
        rintro e w5 ⟨rfl, rfl⟩
        go_wp2_with fail
        exact ⟨⟨s, by have := Hs.out; omega, rfl, by rw [← Hs.out]; exact Hm4.out⟩, by have := Hs.out; simp [intOf]; omega⟩
    · obtain rfl : i = len := by omega
      have e1 : decide ((i : Int) < (i : Int)) = false := decide_eq_false (by omega)
      obtain ⟨m, hm⟩ : ∃ m, min i R = m := ⟨_, rfl⟩
      rw [hm] at Hm
      have e6 : (if R < i then (R : Int) else (i : Int)) = (m : Int) := by split <;> omega
      have hmi : m ≤ i := by omega
      have hmR : m ≤ R := by omega
      clear hm
      go_wp2_with fail
      go_loopw [7] (fun p wr => ∃ j : Nat, j ≤ m ∧ p = .int .i64 j ∧ Mine w.heap.size w wr b R (vals ((l.take m).drop j))) (fun p _ => m - (intOf p).toNat)
      case atStart => exact ⟨0, by omega, rfl, by simpa using Hm.out⟩
      case round =>
        obtain ⟨j, hj, rfl, hq⟩ := hrel
        have Hq := Lib.hid hq
        clear hq Hm
        by_cases hjm : j < m
        · obtain ⟨g, off, rfl, hg, hc⟩ := row_at Hrow.out (by omega)
          obtain ⟨x, hx⟩ : ∃ x, l.getD j 0 = x := ⟨_, rfl⟩
          have Hc := Lib.hid (fun w' hb => hx ▸ hc w' hb j (by omega))
          have e7 : decide ((j : Int) < (m : Int)) = true := decide_eq_true (by omega)
          obtain ⟨s, hs⟩ : ∃ s, j + 1 = s := ⟨_, rfl⟩
          have e8 : IntKind.i64.wrap ((j : Int) + 1) = (s : Int) := by rw [i64w (by omega)]; omega
          have hl := vals_cons l hjm (by rw [Hlen.out]; exact hmi)
          rw [hx, hs] at hl
          rw [hl] at Hq
          obtain ⟨n, hn⟩ : ∃ n, m - s = n := ⟨_, rfl⟩
          have hn2 : (vals ((l.take m).drop s)).length = n := by rw [vals_len]; simp; have := Hlen.out; omega
          obtain ⟨d, hd⟩ : ∃ d, R - n = d := ⟨_, rfl⟩
          have e9 : IntKind.i64.wrap ((R : Int) - (n : Int)) = (d : Int) := by rw [i64w (by omega)]; omega
          have Hn := Lib.hid hn2
          have Hd := Lib.hid hd
          have Hs := Lib.hid hs
          have Hjm := Lib.hid hjm
          have hji : (j : Int) < (i : Int) := by omega
          clear hn hn2 hd hs hl hx hc
          go_wp2_with fail
          refine (First_mine b R _ _ _ Hq.out).mono ?_
          rintro e w3 ⟨rfl, hq3⟩
          have Hq3 := Lib.hid hq3
          clear hq3 Hq
          go_wp2_with fail
          refine (Take_mine b R _ _ _ Hq3.out).mono ?_
          rintro e w4 ⟨rfl, hq4⟩
          have Hq4 := Lib.hid hq4
          clear hq4 Hq3
          have q0 := Hc.out _ Hq4.out.below
          go_wp2_with fail
          refine (Left_mine b R d _ _ Hq4.out (by rw [Hn.out]; exact Hd.out)).mono ?_
          rintro e w5 ⟨rfl, hq5⟩
          have Hq5 := Lib.hid hq5
          clear hq5 Hq4 q0
          go_wp2_with fail
          refine (Len_mine b R n _ _ Hq5.out Hn.out).mono ?_
          rintro e w6 ⟨rfl, rfl⟩
          go_wp2_with fail
          exact ⟨⟨s, by have := Hs.out; have := Hjm.out; omega, rfl, Hq5.out⟩, by have := Hs.out; have := Hjm.out; simp [intOf]; omega⟩
        · obtain rfl : j = m := by omega
          have e7 : decide ((j : Int) < (j : Int)) = false := decide_eq_false (by omega)
          have hl : (l.take j).drop j = [] := List.drop_eq_nil_of_le (by simp; omega)
          rw [hl] at Hq
          clear hl
          go_wp2_with fail
          refine (Take_mine0 b R _ Hq.out).mono ?_
          rintro e w3 ⟨rfl, hq3⟩
          have Hq3 := Lib.hid hq3
          clear hq3 Hq
          go_wp2_with fail
          refine (Len_mine b R 0 _ _ Hq3.out rfl).mono ?_
          rintro e w4 ⟨rfl, rfl⟩
          go_wp2_with fail
          go_ret
          exact ⟨rfl, Hq3.out.below⟩
end Go.Proofs.Ytekmenojaojeiaa.Fifo5
