/- Plain: maps of changed tables; what may be changed of a table that was set. -/
import Derived.Test.YtmkponhhinjpkaaGreatTb
namespace Go.Proofs.YtmkponhhinjpkaaGreat.Table
set_option linter.unusedVariables false

theorem mapL_tab {l : List Rg} {w : Int} (h : tabP l) : mapL l w = rmap l w := by unfold mapL; rw [if_pos (tabB_iff.2 h)]
theorem mapL_length (l : List Rg) (w : Int) : (mapL l w).length ≤ l.length := by
  unfold mapL
  split
  · rename_i h; exact rmap_length (tabB_iff.1 h) w
  · exact Nat.zero_le _
theorem set_tab {d : List Rg} {k : Nat} {r : Rg} (hx : openE d (k : Nat) = 0) (hs : setE d (k : Nat) r = 0) : tabP (setL d k r) :=
  setL_tab (open_ok hx).1 (by have := (open_ok hx).2.2.1; omega) (set_ok hs).2.1 (set_ok hs).2.2
theorem mapL_set {d : List Rg} {k : Nat} {r : Rg} {V : Int} (hx : openE d (k : Nat) = 0) (hs : setE d (k : Nat) r = 0) (hr : ¬ (r.o = true ∧ r.W = V)) (ho : ¬ (d[k]!.o = true ∧ d[k]!.W = V)) : mapL (setL d k r) V = mapL d V := by
  rw [mapL_tab (set_tab hx hs), mapL_tab (open_ok hx).1, rmap_set hr ho]
theorem mapL_clr {d : List Rg} {k : Nat} {V : Int} (hx : openE d (k : Nat) = 0) (ho : ¬ (d[k]!.o = true ∧ d[k]!.W = V)) : mapL (clrL d k) V = mapL d V := by
  rw [mapL_tab (clrL_tab (open_ok hx).1), mapL_tab (open_ok hx).1, rmap_clr ho]
theorem mapL_clr_set {d : List Rg} {k : Nat} {r : Rg} {V : Int} (hx : openE d (k : Nat) = 0) (hs : setE d (k : Nat) r = 0) : mapL (clrL (setL d k r) k) V = mapL (clrL d k) V := by
  rw [mapL_tab (clrL_tab (set_tab hx hs)), mapL_tab (clrL_tab (open_ok hx).1), rmap_clr_set]
theorem lock_set {d : List Rg} {k : Nat} {r : Rg} : lockB (setL d k r) (k : Nat) = r.lk := by
  unfold lockB
  rw [setL_length]
  have h : ((k : Nat) : Int) < ((max d.length (k + 1) : Nat) : Int) := by omega
  rw [decide_eq_true h, Bool.true_and, Int.toNat_natCast, setL_get, if_pos rfl]
theorem open_set {d : List Rg} {k : Nat} {r : Rg} (hx : openE d (k : Nat) = 0) (hs : setE d (k : Nat) r = 0) : openE (setL d k r) (k : Nat) = if r.lk then 15 else 0 := by
  have h32 := (open_ok hx).2.2.1
  unfold openE
  rw [if_pos (tabB_iff.2 (set_tab hx hs)), if_neg (by omega), lock_set]
theorem open_set_free {d : List Rg} {k : Nat} {o : Bool} {W F T : Int} {rd wt : Bool} {K : Int} (hx : openE d (k : Nat) = 0) (hs : setE d (k : Nat) ⟨o, W, F, T, rd, wt, K, false⟩ = 0) : openE (setL d k ⟨o, W, F, T, rd, wt, K, false⟩) (k : Nat) = 0 := by
  rw [open_set hx hs]; rfl
theorem open_set_held {d : List Rg} {k : Nat} {o : Bool} {W F T : Int} {rd wt : Bool} {K : Int} (hx : openE d (k : Nat) = 0) (hs : setE d (k : Nat) ⟨o, W, F, T, rd, wt, K, true⟩ = 0) : openE (setL d k ⟨o, W, F, T, rd, wt, K, true⟩) (k : Nat) = 15 := by
  rw [open_set hx hs]; rfl
end Go.Proofs.YtmkponhhinjpkaaGreat.Table
