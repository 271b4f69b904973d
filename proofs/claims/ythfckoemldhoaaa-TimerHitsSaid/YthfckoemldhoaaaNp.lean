/- Plain: many ticks. -/
import Derived.Test.YthfckoemldhoaaaNa
namespace Go.Proofs.Ythfckoemldhoaaa.Timer
set_option linter.unusedVariables false

def tk : Nat → St → St
  | 0, s => s
  | n + 1, s => tickS (tk n s)
theorem okS_tk {s : St} (h : OkS s ∧ s.K < 8) : ∀ n, OkS (tk n s) ∧ (tk n s).K < 8
  | 0 => h
  | n + 1 => okS_tick (okS_tk h n).1 (okS_tk h n).2
theorem tk_off {s : St} (h : s.K % 2 = 0) : ∀ n, tk n s = s
  | 0 => rfl
  | n + 1 => by show tickS (tk n s) = s; rw [tk_off h n]; unfold tickS; rw [if_pos h]
theorem tk_early {c l k : Int} (hc : 0 ≤ c) (hl : l < 4294967296) (hk : k % 2 = 1) (n : Nat) (hn : c + n < l) : tk n ⟨c, l, k, 0⟩ = ⟨c + n, l, k, 0⟩ := by
  induction n with
  | zero => show (⟨c, l, k, 0⟩ : St) = _; simp
  | succ m ih =>
    show tickS (tk m _) = _
    rw [ih (by omega)]
    have e : incS ⟨c + (m : Nat), l, k, 0⟩ = c + ((m + 1 : Nat) : Int) := by
      show (c + (m : Int) + 1) % 4294967296 = _
      omega
    unfold tickS
    rw [if_neg (by show ¬ k % 2 = 0; omega), e, if_pos (by show c + ((m + 1 : Nat) : Int) ≠ l; omega)]
theorem tk_hit {c l k : Int} (hc : 0 ≤ c) (hl : l < 4294967296) (hcl : c < l) (hk : k % 2 = 1) (n : Nat) (hn : c + n = l) (k4 : k / 4 = 1 ∨ k / 4 = 0) :
    tk n ⟨c, l, k, 0⟩ = if k / 4 = 1 then ⟨0, l, k, 1⟩ else ⟨l, l, k - 1, 1⟩ := by
  obtain ⟨m, rfl⟩ : ∃ m, n = m + 1 := ⟨n - 1, by omega⟩
  show tickS (tk m _) = _
  rw [tk_early hc hl hk m (by omega)]
  have e : incS ⟨c + (m : Nat), l, k, 0⟩ = l := by
    show (c + (m : Int) + 1) % 4294967296 = _
    omega
  unfold tickS
  rw [if_neg (by show ¬ k % 2 = 0; omega), e, if_neg (by show ¬ l ≠ l; omega)]
  rcases k4 with h | h
  · rw [if_pos (by exact h), if_pos h]; rfl
  · rw [if_neg (show ¬ k / 4 = 1 by omega)]; rw [if_neg (show ¬ k / 4 = 1 by omega)]; rfl
theorem tk_add (m n : Nat) (s : St) : tk (n + m) s = tk m (tk n s) := by
  induction m with
  | zero => rfl
  | succ m ih => show tickS (tk (n + m) s) = tickS (tk m (tk n s)); rw [ih]
theorem tk_once {c l k : Int} (hc : 0 ≤ c) (hl : l < 4294967296) (hcl : c < l) (hk : k % 2 = 1) (n : Nat) (hn : l ≤ c + n) (k4 : k / 4 = 0) : tk n ⟨c, l, k, 0⟩ = ⟨l, l, k - 1, 1⟩ := by
  obtain ⟨m, rfl⟩ : ∃ m, n = (l - c).toNat + m := ⟨n - (l - c).toNat, by omega⟩
  rw [tk_add, tk_hit hc hl hcl hk _ (by omega) (.inr k4), if_neg (by omega)]
  exact tk_off (by show (k - 1) % 2 = 0; omega) m
theorem tk_again {l k : Int} (h0 : 0 < l) (hl : l < 4294967296) (hk : k % 2 = 1) (k4 : k / 4 = 1) (m : Nat) (hm : m < 300) :
    ∃ q r : Nat, (r : Int) < l ∧ (m : Int) = q * l + r ∧ q ≤ m ∧ tk m ⟨0, l, k, 1⟩ = ⟨r, l, k, 1 + q⟩ := by
  induction m with
  | zero => exact ⟨0, 0, by omega, by simp, by omega, rfl⟩
  | succ m ih =>
    obtain ⟨q, r, h1, h2, h3, h4⟩ := ih (by omega)
    have e : incS ⟨r, l, k, 1 + (q : Int)⟩ = (r : Int) + 1 := by
      show ((r : Int) + 1) % 4294967296 = _
      omega
    by_cases hr : (r : Int) + 1 = l
    · refine ⟨q + 1, 0, by omega, ?_, by omega, ?_⟩
      · have : ((q + 1 : Nat) : Int) * l = q * l + l := by rw [Int.natCast_add, Int.add_mul]; simp
        rw [this]
        omega
      · show tickS (tk m _) = _
        rw [h4]
        unfold tickS
        rw [if_neg (by show ¬ k % 2 = 0; omega), e, if_neg (by show ¬ (r : Int) + 1 ≠ l; omega), if_pos (by exact k4)]
        show (⟨0, l, k, if (1 + (q : Int)) < 4294967295 then 1 + (q : Int) + 1 else _⟩ : St) = _
        rw [if_pos (by omega)]
        have e2 : 1 + (q : Int) + 1 = 1 + ((q + 1 : Nat) : Int) := by omega
        rw [e2]
        rfl
    · refine ⟨q, r + 1, by omega, by omega, by omega, ?_⟩
      show tickS (tk m _) = _
      rw [h4]
      unfold tickS
      rw [if_neg (by show ¬ k % 2 = 0; omega), e, if_pos (by exact hr)]
      rfl
theorem tk_more {c l k : Int} (hc : 0 ≤ c) (hl : l < 4294967296) (hcl : c < l) (hk : k % 2 = 1) (n : Nat) (hn : l ≤ c + n) (h300 : n < 300) (k4 : k / 4 = 1) :
    tk n ⟨c, l, k, 0⟩ = ⟨((n : Int) - (l - c)) % l, l, k, 1 + ((n : Int) - (l - c)) / l⟩ := by
  obtain ⟨m, rfl⟩ : ∃ m, n = (l - c).toNat + m := ⟨n - (l - c).toNat, by omega⟩
  rw [tk_add, tk_hit hc hl hcl hk _ (by omega) (.inl k4), if_pos k4]
  obtain ⟨q, r, h1, h2, h3, h4⟩ := tk_again (by omega) hl hk k4 m (by omega)
  have e : (((l - c).toNat + m : Nat) : Int) - (l - c) = r + q * l := by omega
  rw [h4, e, Int.add_mul_emod_self_right, Int.add_mul_ediv_right _ _ (by omega), Int.emod_eq_of_lt (by omega) h1, Int.ediv_eq_zero_of_lt (by omega) h1]
  congr 1
  omega
end Go.Proofs.Ythfckoemldhoaaa.Timer
