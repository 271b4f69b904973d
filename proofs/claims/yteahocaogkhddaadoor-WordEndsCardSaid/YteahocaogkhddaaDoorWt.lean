/- Plain mathematics: what a word is shown as is parsed as it. It imports nothing of the translation. -/
import Derived.Test.YteahocaogkhddaaDoorWs
namespace Go.Proofs.YteahocaogkhddaaDoor.Word

theorem numGo_dch {d : Nat} {n : Int} {r : List Int} (hd : d < 16) (h : n * 16 + d ≤ 4294967295) : numGo 16 (dch d :: r) n = numGo 16 r (n * 16 + d) := by
  have e := digB_at (b := 16) (i := d) (c := dch d) (by omega) hd rfl
  rw [numGo_yes e.1 (by rw [e.2]; exact h), e.2]
  rfl
theorem numGo8 {d0 d1 d2 d3 d4 d5 d6 d7 : Nat} (l0 : d0 < 16) (l1 : d1 < 16) (l2 : d2 < 16) (l3 : d3 < 16) (l4 : d4 < 16) (l5 : d5 < 16) (l6 : d6 < 16) (l7 : d7 < 16) (v : Int)
    (hv : v = 268435456 * (d0 : Int) + 16777216 * d1 + 1048576 * d2 + 65536 * d3 + 4096 * d4 + 256 * d5 + 16 * d6 + d7) :
    numGo 16 [dch d0, dch d1, dch d2, dch d3, dch d4, dch d5, dch d6, dch d7] 0 = some v := by
  obtain ⟨n1, hn1⟩ : ∃ n : Int, n = 0 * 16 + d0 := ⟨_, rfl⟩
  obtain ⟨n2, hn2⟩ : ∃ n : Int, n = n1 * 16 + d1 := ⟨_, rfl⟩
  obtain ⟨n3, hn3⟩ : ∃ n : Int, n = n2 * 16 + d2 := ⟨_, rfl⟩
  obtain ⟨n4, hn4⟩ : ∃ n : Int, n = n3 * 16 + d3 := ⟨_, rfl⟩
  obtain ⟨n5, hn5⟩ : ∃ n : Int, n = n4 * 16 + d4 := ⟨_, rfl⟩
  obtain ⟨n6, hn6⟩ : ∃ n : Int, n = n5 * 16 + d5 := ⟨_, rfl⟩
  obtain ⟨n7, hn7⟩ : ∃ n : Int, n = n6 * 16 + d6 := ⟨_, rfl⟩
  obtain ⟨n8, hn8⟩ : ∃ n : Int, n = n7 * 16 + d7 := ⟨_, rfl⟩
  rw [numGo_dch l0 (by omega), ← hn1]
  rw [numGo_dch l1 (by omega), ← hn2]
  rw [numGo_dch l2 (by omega), ← hn3]
  rw [numGo_dch l3 (by omega), ← hn4]
  rw [numGo_dch l4 (by omega), ← hn5]
  rw [numGo_dch l5 (by omega), ← hn6]
  rw [numGo_dch l6 (by omega), ← hn7]
  rw [numGo_dch l7 (by omega), ← hn8]
  show some n8 = _
  rw [Option.some.injEq]
  omega
theorem nib_sum {v : Int} (h0 : 0 ≤ v) (h1 : v < 4294967296) : v = 268435456 * (nib v 0 : Int) + 16777216 * nib v 1 + 1048576 * nib v 2 + 65536 * nib v 3 + 4096 * nib v 4 + 256 * nib v 5 + 16 * nib v 6 + nib v 7 := by
  have e0 : (nib v 0 : Int) = v / 268435456 % 16 := by unfold nib; show ((v / 268435456 % 16).toNat : Int) = _; omega
  have e1 : (nib v 1 : Int) = v / 16777216 % 16 := by unfold nib; show ((v / 16777216 % 16).toNat : Int) = _; omega
  have e2 : (nib v 2 : Int) = v / 1048576 % 16 := by unfold nib; show ((v / 1048576 % 16).toNat : Int) = _; omega
  have e3 : (nib v 3 : Int) = v / 65536 % 16 := by unfold nib; show ((v / 65536 % 16).toNat : Int) = _; omega
  have e4 : (nib v 4 : Int) = v / 4096 % 16 := by unfold nib; show ((v / 4096 % 16).toNat : Int) = _; omega
  have e5 : (nib v 5 : Int) = v / 256 % 16 := by unfold nib; show ((v / 256 % 16).toNat : Int) = _; omega
  have e6 : (nib v 6 : Int) = v / 16 % 16 := by unfold nib; show ((v / 16 % 16).toNat : Int) = _; omega
  have e7 : (nib v 7 : Int) = v % 16 := by unfold nib; show ((v / 1 % 16).toNat : Int) = _; omega
  rw [e0, e1, e2, e3, e4, e5, e6, e7]
  omega
theorem parseF_show {v : Int} (h0 : 0 ≤ v) (h1 : v < 4294967296) : parseF (showI v) = some v := by
  have l := nib_lt v
  have e := numGo8 (l 0) (l 1) (l 2) (l 3) (l 4) (l 5) (l 6) (l 7) v (nib_sum h0 h1)
  show (if 8 < 8 then none else numF 16 [dch (nib v 0), dch (nib v 1), dch (nib v 2), dch (nib v 3), dch (nib v 4), dch (nib v 5), dch (nib v 6), dch (nib v 7)]) = _
  rw [if_neg (by omega)]
  unfold numF
  rw [if_neg (by simp)]
  exact e
theorem bts_show (v : Int) : bts ⟨(showF v).toArray⟩ = showI v := by
  rw [bts_eq]
  have e : (⟨(showF v).toArray⟩ : ByteArray).data.toList = showF v := rfl
  rw [e]
  refine List.ext_getElem rfl fun i h1 h2 => ?_
  rw [List.getElem_map, showF_at v (by simpa using h1)]
  simp [List.getD_eq_getElem?_getD, h2]
theorem size_show (v : Int) : (⟨(showF v).toArray⟩ : ByteArray).size = 10 := rfl
end Go.Proofs.YteahocaogkhddaaDoor.Word
