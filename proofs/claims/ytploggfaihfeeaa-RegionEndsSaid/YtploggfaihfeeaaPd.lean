/- The document's Bytes, and the program's, as own rows. -/
import Derived.Test.YtploggfaihfeeaaPc
namespace Go.Proofs.Ytploggfaihfeeaa.Word
open Go.RowKit Go.Maps Go.ChangeShapes Go.WideShapes Go.ChangeAt
set_option linter.unusedVariables false

def bK (x k : Nat) : List Int := (List.range k).map fun i => ((x / 256 ^ i % 256 : Nat) : Int)
theorem bK_succ (x k z : Nat) (h : z = x / 256 ^ k) : bv (bK x k) ++ [.int .u8 ((z : Int) % 256)] = bv (bK x (k + 1)) := by
  subst h
  simp [bK, bv, List.range_succ]
/-- What Bytes answers: an own row of m bytes. -/
def BytesRow (x m : Nat) (w : World) (e : Ending) (W' : World) : Prop := ∃ a c, e = .returned (.slice a m c) ∧ W'.ownsRow w.heap.size 5 1 (.slice a m c) m (bv (bK x m)) ∧ Below w.heap.size w W'
theorem bown_shape {w : World} {b n : Nat} {v : Value} {L : List Value} (h : w.ownsRow b 5 1 v n L) : ∃ a c, v = .slice a n c := by
  rcases h.2 with ⟨rfl, rfl⟩ | ⟨g, cap, cur, rfl, _⟩
  · exact ⟨_, _, rfl⟩
  · exact ⟨_, _, rfl⟩
theorem bown_below {w w' : World} {b n : Nat} {v : Value} {L : List Value} (h : w.ownsRow b 5 1 v n L) (hb : Below w.heap.size w w') : w'.ownsRow b 5 1 v n L := by
  refine ⟨h.1, ?_⟩
  rcases h.2 with h2 | ⟨g, cap, cur, rfl, hg, hh, r⟩
  · exact .inl h2
  · exact .inr ⟨g, cap, cur, rfl, hg, (hb.block g (Array.getElem?_eq_some_iff.1 hh).1).trans hh, r⟩
theorem new_own (w : World) (n : Nat) (cs : Array Value) (hn : cs.size = n) (hm : n ≤ 4) : (w.alloc (.cells cs 5)).ownsRow w.heap.size 5 1 (.slice (some ⟨w.heap.size, 0, none⟩) n n) n cs.toList := by
  refine ⟨by simp [hn], .inr ⟨w.heap.size, n, cs, rfl, Nat.le_refl _, by show (w.heap.push _)[w.heap.size]? = _; simp, Nat.le_refl _, by unfold maxLen; omega, by simpa using hn, ?_⟩⟩
  rw [List.take_of_length_le (by simp [hn])]
set_option maxRecDepth 8000 in
set_option maxHeartbeats 400000 in
theorem rbytes_any (x m : Nat) (hx : x < 4294967296) (hm : sizeB (m : Int) = true) (h4 : m ≤ 4) (w : World) :
    Calls Try.prog 55 #[.int .u32 x, .int .i64 m] w (BytesRow x m w) := by
  obtain ⟨i0, hi, hz0, hz1, hz2⟩ := info_parts KitBytes.info_e
  have Hi := Lib.hid hi
  have Hz0 := Lib.hid hz0
  have Hz1 := Lib.hid hz1
  have Hz2 := Lib.hid hz2
  clear hi hz0 hz1 hz2
  go_enter Try.func55, Try.ntmps55
  go_wp2
  go_loopw [0, 5, 6] (fun zv s i wr => ∃ (k z : Nat), k ≤ m ∧ i = .int .i64 k ∧ zv = .int .u32 z ∧ z < 4294967296 ∧ z = x / 256 ^ k ∧ wr.ownsRow w.heap.size 5 1 s k (bv (bK x k)) ∧ Below w.heap.size w wr) (fun _ _ i _ => m - (intOf i).toNat)
  case atStart => exact ⟨0, x, by omega, rfl, rfl, hx, by simp, World.ownsRow_nil _ _ _ _, Below.refl _ _⟩
  case round =>
    obtain ⟨k, z, hk, rfl, rfl, hz, hzk, hrow, hb⟩ := hrel
    have Hb := Lib.hid hb
    have Hzk := Lib.hid hzk
    have Hrow := Lib.hid hrow
    have hsz := hb.size
    clear hzk hrow hb
    by_cases hlt : k < m
    · have d1 : decide ((k : Int) < (m : Int)) = true := decide_eq_true (by omega)
      go_wp2_with (first | (go_at_call 53; refine (rsize_any _ _).mono ?_; rintro e w' ⟨rfl, rfl⟩) | (at_builtin; refine wpList_append_own _ rfl _ _ 66 rfl w.heap.size 5 i0 (.int .u8 0) 1 1 Try.underlying66 Hi.out Hz0.out Hz1.out Hz2.out rfl (by decide) _ _ _ rfl (Hrow.out.alloc _) ⟨wr.heap.size, 0, none⟩ 1 1 [.int .u8 ((z : Int) % 256)] rfl rfl (cell_one_new _ _ _) (by simp [Value.oneCell']) (by unfold maxLen; omega) (by omega) (by simp; omega) ?_; intro v' w1 hown1 hgrow _))
      have hdiv : Hid (z / 256 = x / 256 ^ (k + 1)) := by rw [Hzk.out, Nat.div_div_eq_div_mul, Nat.pow_succ]; exact rfl
      refine ⟨⟨k + 1, z / 256, by omega, by go_num, by simp, by omega, hdiv.out, ?_, ?_⟩, by simp [intOf]; omega⟩
      · rw [← bK_succ x k z Hzk.out]
        simpa using hown1
      · exact (Hb.out.alloc hsz _).grown hgrow (by simp; omega) (fun k h => (Hrow.out.lt k h).1)
    · obtain rfl : k = m := by omega
      have d1 : decide ((k : Int) < (k : Int)) = false := decide_eq_false (by omega)
      go_wp2_with fail
      go_ret
      obtain ⟨a, c, rfl⟩ := bown_shape Hrow.out
      exact ⟨a, c, rfl, Hrow.out, Hb.out⟩
end Go.Proofs.Ytploggfaihfeeaa.Word
