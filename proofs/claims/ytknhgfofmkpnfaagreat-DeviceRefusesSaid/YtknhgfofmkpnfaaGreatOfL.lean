/- A slice of uint32 that lies somewhere in a block: read, cut, appended to. -/
import Derived.Test.YtknhgfofmkpnfaaGreatBa
import Derived.Test.YtknhgfofmkpnfaaGreatOw
import Derived.Test.YtknhgfofmkpnfaaGreatFa
import Derived.ArgAppend
namespace Go.Proofs.YtknhgfofmkpnfaaGreat.OffL
open Go.RowKit Go.Maps Go.ChangeShapes Go.WideShapes Go.ChangeAt Fifo Orow
set_option linter.unusedVariables false

theorem info_e : (Tryz.prog.info? 23).map (fun i => (i.zero, i.size, i.bytes)) = some (some (.int .u32 0), 1, 4) := by kernel_rfl
theorem Blk.ne {w : World} {b g : Nat} {t e : TypeId} {cs vs : List Value} (h : Blk w b t cs) (k : Blk w g e vs) (hte : t ≠ e) : b ≠ g := by
  rintro rfl
  unfold Fifo.Blk at h k
  rw [h] at k
  simp only [Option.some.injEq, Obj.cells.injEq] at k
  exact hte k.2.1
def Off (w : World) (v : Value) (l : List Value) : Prop :=
  (v = .slice none 0 0 ∧ l = []) ∨ ∃ g off cap cs, v = .slice (some ⟨g, off, none⟩) l.length cap ∧ Blk w g 23 cs ∧ off + cap ≤ cs.length ∧ l.length ≤ cap ∧ ∀ k, k < l.length → cs[off + k]? = l[k]?
theorem Off.only {S : Nat → Prop} {w w' : World} {v : Value} {l : List Value} (h : Off w v l) (ho : Only S w w') (hn : ∀ j, PB v j → ¬ S j) : Off w' v l := by
  rcases h with h | ⟨g, off, cap, cs, rfl, hb, r⟩
  · exact .inl h
  · exact .inr ⟨g, off, cap, cs, rfl, hb.only ho (hn g rfl), r⟩
theorem Off.keep {w w' : World} {v : Value} {l : List Value} (h : Off w v l) (hb : Below w.heap.size w w') : Off w' v l :=
  h.only (Only.of_below (S := fun _ => False) hb) (fun _ _ h => h)
theorem Off.lt {w : World} {v : Value} {l : List Value} (h : Off w v l) : ∀ j, PB v j → j < w.heap.size := by
  intro j hj
  rcases h with ⟨rfl, _⟩ | ⟨g, off, cap, cs, rfl, hb, r⟩
  · simp [PB, Value.ownBlock] at hj
  · simp [PB, Value.ownBlock] at hj
    subst hj
    exact hb.lt
theorem Off.ne {w : World} {P : Nat} {v : Value} {l cs : List Value} {t : TypeId} (h : Off w v l) (hP : Blk w P t cs) (ht : t ≠ 23) : ∀ j, PB v j → j ≠ P := by
  rintro j hj rfl
  rcases h with ⟨rfl, _⟩ | ⟨g, off, cap, cs', rfl, hb, r⟩
  · simp [PB, Value.ownBlock] at hj
  · simp [PB, Value.ownBlock] at hj
    subst hj
    exact Blk.ne hP hb ht rfl
theorem Off.shape {w : World} {v : Value} {l : List Value} (h : Off w v l) : ∃ a c, v = .slice a l.length c := by
  rcases h with ⟨rfl, rfl⟩ | ⟨g, off, cap, cs, rfl, _⟩
  · exact ⟨_, _, rfl⟩
  · exact ⟨_, _, rfl⟩
theorem Off.lies {w : World} {v : Value} {l : List Value} (h : Off w v l) (hl : l ≠ []) : ∃ g off cap, v = .slice (some ⟨g, off, none⟩) l.length cap ∧ 0 < cap ∧ l.length ≤ cap ∧ g < w.heap.size ∧ ∀ w', Below w.heap.size w w' → ∀ k, k < l.length → w'.cell? ⟨g, off + k, none⟩ = l[k]? := by
  rcases h with ⟨_, rfl⟩ | ⟨g, off, cap, cs, rfl, hb, h1, h2, h3⟩
  · exact absurd rfl hl
  · have := List.length_pos_iff.2 hl
    exact ⟨g, off, cap, rfl, by omega, h2, hb.lt, fun w' hw k hk => ((hb.keep hw).cell (off + k)).trans (h3 k hk)⟩
theorem Off.tail {w : World} {g off cap : Nat} {x : Value} {t : List Value} (h : Off w (.slice (some ⟨g, off, none⟩) (x :: t).length cap) (x :: t)) (a : Option Addr) (ha : a = if cap = 1 then some ⟨g, off, none⟩ else some ⟨g, off + 1, none⟩) :
    Off w (.slice a t.length (cap - 1)) t ∧ ∀ j, PB (.slice a t.length (cap - 1)) j → PB (.slice (some ⟨g, off, none⟩) (x :: t).length cap) j := by
  rcases h with ⟨h, _⟩ | ⟨g', off', cap', cs, h, hb, h1, h2, h3⟩
  · simp at h
  · simp only [Value.slice.injEq, Option.some.injEq, Addr.mk.injEq, and_true, true_and] at h
    obtain ⟨⟨rfl, rfl⟩, rfl⟩ := h
    simp only [List.length_cons] at h2 h3
    by_cases hc : cap = 1
    · rw [if_pos hc] at ha
      subst ha
      obtain rfl : t = [] := List.length_eq_zero_iff.1 (by omega)
      exact ⟨.inr ⟨g, off, cap - 1, cs, rfl, hb, by omega, by simp, fun k hk => by simp at hk⟩, fun j hj => hj⟩
    · rw [if_neg hc] at ha
      subst ha
      refine ⟨.inr ⟨g, off + 1, cap - 1, cs, rfl, hb, by omega, by omega, fun k hk => ?_⟩, fun j hj => hj⟩
      have := h3 (k + 1) (by omega)
      rw [show off + 1 + k = off + (k + 1) by omega, this]
      simp
theorem Off.room {w : World} {g off cap : Nat} {l : List Value} (h : Off w (.slice (some ⟨g, off, none⟩) l.length cap) l) (x : Value) (hr : l.length + 1 ≤ cap) :
    (w.cell? ⟨g, off + l.length, none⟩).isSome = true ∧ w.frozen? ⟨g, off + l.length, none⟩ = false ∧ Off (w.setCell ⟨g, off + l.length, none⟩ x) (.slice (some ⟨g, off, none⟩) (l.length + 1) cap) (l ++ [x]) := by
  rcases h with ⟨h, _⟩ | ⟨g', off', cap', cs, h, hb, h1, h2, h3⟩
  · simp at h
  · simp only [Value.slice.injEq, Option.some.injEq, Addr.mk.injEq, and_true, true_and] at h
    obtain ⟨⟨rfl, rfl⟩, rfl⟩ := h
    refine ⟨?_, hb.frozen _, .inr ⟨g, off, cap, cs.set (off + l.length) x, by simp, hb.set _ _, by simpa using h1, by simpa using hr, fun k hk => ?_⟩⟩
    · rw [hb.cell, List.getElem?_eq_getElem (by omega)]; rfl
    · simp only [List.length_append, List.length_cons, List.length_nil] at hk
      by_cases hk2 : k < l.length
      · rw [List.getElem?_set_ne (by omega), h3 k hk2, List.getElem?_append_left hk2]
      · obtain rfl : k = l.length := by omega
        rw [List.getElem?_set_self (by omega)]
        simp
theorem off_of_own {w : World} {B : Nat} {v : Value} {n : Nat} {l : List Value} (h : w.ownsRow B 23 1 v n l) (hn : 0 < n) : Off w v l ∧ ∀ j, PB v j → B ≤ j := by
  refine ⟨?_, fun j hj => (h.lt j hj).1⟩
  obtain ⟨h0, h⟩ := h
  rcases h with ⟨_, h⟩ | ⟨g, cap, cur, rfl, hg, hh, h1, h2, h3, h4⟩
  · omega
  · simp only [Nat.mul_one] at h0 h3 h4
    refine .inr ⟨g, 0, cap, cur.toList, by rw [h0], by unfold Blk; simpa using hh, by simp [h3], by omega, fun k hk => ?_⟩
    rw [← h4, List.getElem?_take, if_pos (by omega)]
    simp

/-- append, of one thing: wherever the row lies. -/
theorem wpList_append_off (w : World) {ops : Array Oper} {rest : List Oper} {o : Oper} {a : Act} {Q : Exit → Act → World → Prop}
    (hg : o.guard = none) (s x : Operand) (hop : o.op = Op.call { callee := Callee.builtin Builtin.append, args := #[s, x], argTypes := #[32, 32] })
    (v : Value) (l : List Value) (hs : a.eval s = v) (hoff : Off w v l) (hl : l.length ≤ 3000) (ad : Addr) (c : Nat) (y : Value) (hx : a.eval x = .slice (some ad) 1 c) (hc : ∀ j u, [y][j]? = some u → w.cell? (ad.add j) = some u) (hy : y.oneCell' = true)
    (hK : ∀ v' w', Off w' v' (l ++ [y]) → Only (PB v) w w' → (∀ j, PB v' j → PB v j ∨ w.heap.size ≤ j) → wpList Tryz.prog ops Q rest (a.put o.dst v') w') :
    wpList Tryz.prog ops Q (o :: rest) a w := by
  obtain ⟨i0, hi, hz0, hz1, hz2⟩ := info_parts info_e
  have hmm : maxLen = 9223372036854775807 := rfl
  have hgr : ∀ v' w', w'.ownsRow w.heap.size 23 1 v' (l.length + 1) (l ++ [y]) → w.grownBy w' none → wpList Tryz.prog ops Q rest (a.put o.dst v') w' := fun v' w' h1 h2 => by
    obtain ⟨h3, h4⟩ := off_of_own h1 (by omega)
    exact hK v' w' h3 ((Only.refl (PB v) w).grown h2 (fun k e => by cases e)) (fun j hj => .inr (h4 j hj))
  rcases hoff with ⟨rfl, rfl⟩ | ⟨g, off, cap, cs, rfl, hb, h1, h2, h3⟩
  · exact wpList_append_grows w hg s x 32 hop 23 i0 (.int .u32 0) 1 4 Tryz.underlying32 hi hz0 hz1 hz2 rfl (by decide) none 0 0 [] hs (fun _ => ⟨rfl, rfl⟩) rfl (fun b h => by cases h) ad 1 c [y] hx rfl hc (by simpa using hy) (by omega) (by omega) (by omega) hgr
  · have ho : Off w (.slice (some ⟨g, off, none⟩) l.length cap) l := .inr ⟨g, off, cap, cs, rfl, hb, h1, h2, h3⟩
    refine wpList_append_arg w hg s x 32 hop 23 i0 (.int .u32 0) 1 4 Tryz.underlying32 hi hz0 hz1 hz2 rfl (by decide) g off l.length cap l hs (by simp) (fun j u hj => ?_) ad 1 c [y] hx rfl hc (by simpa using hy) (fun hr j hj => ?_) (by omega) (by omega) (fun hr => ?_) (fun _ => hgr)
    · have hjl : j < l.length := (List.getElem?_eq_some_iff.1 hj).1
      rw [hb.cell, h3 j hjl, hj]
    · obtain ⟨r1, r2, _⟩ := ho.room y hr
      simp only [List.length_cons, List.length_nil] at hj
      obtain rfl : j = 0 := by omega
      simpa using ⟨r1, r2⟩
    · obtain ⟨_, _, r3⟩ := ho.room y hr
      rw [Nat.mul_one]
      exact hK _ _ r3 (Only.setCell (Only.refl (PB (.slice (some ⟨g, off, none⟩) l.length cap)) w) (p := ⟨g, off + l.length, none⟩) rfl y) (fun j hj => .inl hj)
end Go.Proofs.YtknhgfofmkpnfaaGreat.OffL
