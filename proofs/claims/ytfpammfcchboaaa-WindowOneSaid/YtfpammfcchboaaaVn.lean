/- Aids of WindowOne's walk: an append of what may be nil; single cells of a row of devices. -/
import Derived.Test.YtfpammfcchboaaaVm
namespace Go.Proofs.Ytfpammfcchboaaa.Win
open Go.RowKit Fifo Go.Maps Go.ChangeShapes Go.WideShapes Go.ChangeAt Go.Proofs.Ytfpammfcchboaaa.Access
open Go.Proofs.Ytfpammfcchboaaa.Orow (own_keep own_only own_mono own_blk own_lt own_shape own_put own_pos own_none own_some blk_own own_prefix own_le own_max)
set_option linter.unusedVariables false

theorem flV_cons (x : Dv) (d : List Dv) : flV (x :: d) = encV x ++ flV d := rfl
theorem flV_append (d e : List Dv) : flV (d ++ e) = flV d ++ flV e := by simp [flV]
theorem flV_sw (O L : Int) : ∀ (d : List Dv) (i : Nat), i < d.length → ((flV d).set (i * 5 + 3) (.int .i64 O)).set (i * 5 + 4) (.int .i64 L) = flV (d.set i (sw O L d[i]!))
  | [], i, h => by simp at h
  | x :: d, 0, h => by simp [flV_cons, encV, sw]
  | x :: d, i + 1, h => by
    have ih := flV_sw O L d i (by simpa using h)
    have hl : (encV x).length = 5 := rfl
    rw [flV_cons, List.set_append_right _ _ (by rw [hl]; omega), List.set_append_right _ _ (by rw [hl]; omega), hl, show (i + 1) * 5 + 3 - 5 = i * 5 + 3 by omega, show (i + 1) * 5 + 4 - 5 = i * 5 + 4 by omega, ih]
    simp [flV_cons]
/-- A row's owner and line, stored into its block. -/
theorem own_sw {w : World} {B n c g i : Nat} {d : List Dv} {O L : Int} (h : w.ownsRow B 26 5 (.slice (some ⟨g, 0, none⟩) n c) n (flV d)) (hd : d.length = n) (hi : i < n) :
    ((w.setCell ⟨g, i * 5 + 3, none⟩ (.int .i64 O)).setCell ⟨g, i * 5 + 4, none⟩ (.int .i64 L)).ownsRow B 26 5 (.slice (some ⟨g, 0, none⟩) n c) n (flV (d.set i (sw O L d[i]!))) := by
  obtain ⟨cur, u1, u2, u3, u4, u5, u6⟩ := own_blk h
  refine blk_own ((u1.set (i * 5 + 3) _).set (i * 5 + 4) _) ?_ (by rw [List.length_set, List.length_set]; exact u3) u4 u5 u6
  rw [List.take_set, List.take_set, u2]
  exact flV_sw O L d i (by omega)
theorem sw_step {O L : Int} {r d : List Dv} {n i : Nat} (hr : r.length = n) (hd : d.length = n) (hi : i < n) (h1 : ∀ j, j < i → d[j]! = sw O L r[j]!) (h2 : ∀ j, i ≤ j → j < n → d[j]! = r[j]!) :
    (d.set i (sw O L d[i]!)).length = n ∧ (∀ j, j < i + 1 → (d.set i (sw O L d[i]!))[j]! = sw O L r[j]!) ∧ ∀ j, i + 1 ≤ j → j < n → (d.set i (sw O L d[i]!))[j]! = r[j]! := by
  have hg : ∀ j, j < n → (d.set i (sw O L d[i]!))[j]! = if i = j then sw O L d[i]! else d[j]! := fun j hj => by
    rw [getElem!_pos _ j (by rw [List.length_set]; omega), List.getElem_set]
    split
    · rfl
    · rw [getElem!_pos d j (by omega)]
  refine ⟨by rw [List.length_set]; exact hd, fun j hj => ?_, fun j h3 h4 => ?_⟩
  · rw [hg j (by omega)]
    by_cases e : i = j
    · rw [if_pos e, h2 i (Nat.le_refl _) hi, e]
    · rw [if_neg e]; exact h1 j (by omega)
  · rw [hg j h4, if_neg (by omega)]; exact h2 j (by omega) h4
theorem new_ownV (w : World) : (w.alloc (.cells #[] 26)).ownsRow w.heap.size 26 5 (.slice (some ⟨w.heap.size, 0, none⟩) 0 0) 0 (flV []) :=
  World.ownsRow_lit w #[] 0 (Nat.le_refl _) (by unfold maxLen; omega) rfl
/-- An append onto a row of one's own, of a slice that may be nil. -/
theorem wp_append_any {P : Program} (w : World) {o : Oper} {a : Act} {K : Act → World → Prop} {Q : Exit → Act → World → Prop} (s x : Operand) (t : TypeId)
    (ho : o.op = .call { callee := .builtin .append, args := #[s, x], argTypes := #[t, t] })
    (base : Nat) (e : TypeId) (i : TypeInfo) (z : Value) (size bytes : Nat) (ht : P.underlying t = some (.slice e)) (hi : P.info? e = some i) (hz : i.zero = some z)
    (hsize : i.size = size) (hby : i.bytes = bytes) (hzs : z.cells.size = size) (hsz : 0 < size)
    (v : Value) (n : Nat) (xs : List Value) (hs : a.eval s = v) (hown : w.ownsRow base e size v n xs)
    (ao : Option Addr) (m c : Nat) (news : List Value) (hx : a.eval x = .slice ao m c) (hl : news.length = m * size) (hno : ao = none → m = 0 ∧ c = 0) (hnews : ∀ ad, ao = some ad → ∀ j u, news[j]? = some u → w.cell? (ad.add j) = some u) (h1 : ∀ u ∈ news, u.oneCell' = true)
    (h63 : n + m ≤ maxLen) (hbytes : (n + m) * bytes ≤ 140737488355328) (hbase : base ≤ w.heap.size)
    (h : ∀ v' w', w'.ownsRow base e size v' (n + m) (xs ++ news) → w.grownBy w' v.ownBlock → K (a.put o.dst v') w') : o.wp P a w K Q := by
  cases ao with
  | some ad => exact wp_append_own w s x t ho base e i z size bytes ht hi hz hsize hby hzs hsz v n xs hs hown ad m c news hx hl (hnews ad rfl) h1 h63 hbytes hbase fun v' w' h3 h4 _ => h v' w' h3 h4
  | none =>
    obtain ⟨rfl, rfl⟩ := hno rfl
    have hnn : news = [] := List.eq_nil_of_length_eq_zero (by simpa using hl)
    subst hnn
    have hrun := run_append_owned_none (P := P) w base t o.type e i size ht hi v n xs hown
    unfold Oper.wp
    simp [execOp, ho, resolve, invoke, builtin, hs, hx, hrun, Result.andThen]
    exact h v w (by simpa using hown) (World.grownBy.refl _ _)
end Go.Proofs.Ytfpammfcchboaaa.Win
