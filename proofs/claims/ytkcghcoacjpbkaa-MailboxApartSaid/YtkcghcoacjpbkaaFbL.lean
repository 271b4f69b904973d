/- Contracts of package fifo's ring of uint32: at, left, first. -/
import Derived.Test.YtkcghcoacjpbkaaFa
import Derived.BigQuiet
import Derived.Outline
import Derived.PlainAid
namespace Go.Proofs.Ytkcghcoacjpbkaa.FL
open Go.RowKit Fifo
set_option linter.unusedVariables false

theorem at_any (b g f n k : Nat) (w : World) (h1 : w.cell? ⟨b, 1, none⟩ = some (.slice (some ⟨g, 0, none⟩) n n)) (h2 : w.cell? ⟨b, 2, none⟩ = some (.int .i64 (f : Nat))) (hn : 0 < n) (hn4 : n ≤ 4000) (hf : f < n) (hk : k ≤ n) :
    Calls Try.prog 55 #[.pointer (some ⟨b, 0, none⟩), .int .i64 (k : Nat)] w fun e w' => e = .returned (.pointer (some ⟨g, (f + k) % n, none⟩)) ∧ Below w.heap.size w w' := by
  obtain ⟨s, hs⟩ : ∃ s, f + k = s := ⟨_, rfl⟩
  obtain ⟨r, hr⟩ : ∃ r, s % n = r := ⟨_, rfl⟩
  have hrl : r < n := by rw [← hr]; exact Nat.mod_lt _ hn
  have hw : IntKind.i64.wrap ((f : Int) + (k : Int)) = (s : Int) := by rw [i64w (by omega)]; omega
  have hz : ¬ ((n : Int) = 0) := by omega
  have ht := tmod_at s n r hr
  rw [hs, hr]
  have HS := Lib.hid hs
  have HR := Lib.hid hr
  clear hs hr hf hk hn hn4
  go_enter Try.func55, Try.ntmps55
  go_wp2_with fail
  go_quiet (fail)
  go_wp2_with fail
  go_ret
  exact ⟨rfl, by repeat (first | exact Below.refl _ _ | exact below_drewN _ _ | refine Below.drew ?_)⟩
theorem left_any (b room n : Nat) (w : World) (h0 : w.cell? ⟨b, 0, none⟩ = some (.int .i64 (room : Nat))) (h3 : w.cell? ⟨b, 3, none⟩ = some (.int .i64 (n : Nat))) (hn : n ≤ room) (hr : room < 9223372036854775808) :
    Calls Try.prog 60 #[.pointer (some ⟨b, 0, none⟩)] w fun e w' => e = .returned (.int .i64 ((room - n : Nat) : Int)) ∧ Below w.heap.size w w' := by
  obtain ⟨s, hs⟩ : ∃ s, room - n = s := ⟨_, rfl⟩
  have hw : IntKind.i64.wrap ((room : Int) - (n : Int)) = (s : Int) := by rw [i64w (by omega)]; omega
  rw [hs]
  clear hs hn hr
  go_enter Try.func60, Try.ntmps60
  go_wp2_with fail
  go_quiet (fail)
  go_wp2_with fail
  go_ret
  exact ⟨rfl, by repeat (first | exact Below.refl _ _ | exact below_drewN _ _ | refine Below.drew ?_)⟩
theorem first_any (b g f n : Nat) (x : Value) (w : World) (h1 : w.cell? ⟨b, 1, none⟩ = some (.slice (some ⟨g, 0, none⟩) n n)) (h2 : w.cell? ⟨b, 2, none⟩ = some (.int .i64 (f : Nat))) (hn4 : n ≤ 4000) (hf : f < n)
    (hx : w.cell? ⟨g, f, none⟩ = some x) :
    Calls Try.prog 59 #[.pointer (some ⟨b, 0, none⟩)] w fun e w' => e = .returned x ∧ Below w.heap.size w w' := by
  have hm : (f + 0) % n = f := by rw [Nat.add_zero]; exact Nat.mod_eq_of_lt hf
  have A := at_any b g f n 0 w h1 h2 (by omega) hn4 hf (by omega)
  rw [hm] at A
  clear hm
  go_enter Try.func59, Try.ntmps59
  go_wp2_with fail
  refine A.mono ?_
  rintro e w1 ⟨rfl, hb⟩
  have hx1 := cell_keep hb hx
  clear A
  go_wp2_with fail
  go_ret
  exact ⟨rfl, hb⟩
end Go.Proofs.Ytkcghcoacjpbkaa.FL
