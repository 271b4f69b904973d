/- RamDoes, of any row of deeds. -/
import Derived.Test.YtffjnahcdgpklaaDoorMf
namespace Go.Proofs.YtffjnahcdgpklaaDoor.Ram
open Go.RowKit Go.Maps Go.ChangeShapes Go.WideShapes Go.ChangeAt Fifo Orow Word
set_option linter.unusedVariables false

theorem does_far (n : Int) (a : Option Addr) (len cap : Nat) (w : World) (h100 : 100 < len) (ht : Lane.Tab w) :
    Calls Tryd.prog 3 #[.int .i64 n, .slice a len cap] w fun e w' => e = .returned (.bool true) ∧ Below w.heap.size w w' := by
  have d1 : decide ((100 : Int) < (len : Int)) = true := decide_eq_true (by omega)
  go_enter Tryd.func3, Tryd.ntmps3
  go_wp2_with fail
  refine (awake_any _ ht).mono ?_
  rintro e w1 ⟨rfl, hb⟩
  have Hb := Lib.hid hb
  clear hb
  go_wp2_with fail
  go_ret
  exact ⟨rfl, Hb.out⟩
theorem does_any (n : Int) (a : Option Addr) (len cap : Nat) (l : List Dd) (w : World) (hI : I64 n) (hl : RowDd w a len l) (ht : Lane.Tab w) :
    Calls Tryd.prog 3 #[.int .i64 n, .slice a len cap] w fun e w' => e = .returned (.bool true) ∧ Below w.heap.size w w' := by
  by_cases h100 : 100 < len
  · exact does_far n a len cap w h100 ht
  · cases hs : sizeM n with
    | false => exact does_no n a len cap w hI hs ht
    | true =>
      have hp : 4 ≤ n ∧ n ≤ 4096 ∧ n % 4 = 0 := of_decide_eq_true hs
      obtain ⟨m, rfl⟩ : ∃ m : Nat, n = m := ⟨n.toNat, by omega⟩
      exact does_yes m a len cap l w hs hl (by omega) ht
theorem does_walk (n : Int) (a : Option Addr) (len cap : Nat) (l : List Dd) (w : World) (hn : (Lit.int .i64 n).wf = true) (hl : RowDd w a len l) (h1 : a = none → len = 0 ∧ cap = 0) (h2 : len ≤ cap) (h3 : len ≤ maxLen) (ht : Lane.Tab w) :
    Calls Tryd.prog 3 #[.int .i64 n, .slice a len cap] w fun e w' => e = .returned (.bool true) ∧ Below w.heap.size w w' := by
  refine does_any n a len cap l w ?_ hl ht
  simp only [Lit.wf, Bool.and_eq_true, decide_eq_true_eq] at hn
  have h1 : IntKind.i64.min = -9223372036854775808 := rfl
  have h2 : IntKind.i64.max = 9223372036854775807 := rfl
  unfold I64
  omega
end Go.Proofs.YtffjnahcdgpklaaDoor.Ram
