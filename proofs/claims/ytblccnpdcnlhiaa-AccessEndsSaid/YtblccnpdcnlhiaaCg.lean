/- An append whose row has a type of its own name; the flags of a record; what is put behind a row. -/
import Derived.Test.YtblccnpdcnlhiaaCf
namespace Go.Proofs.Ytblccnpdcnlhiaa.Access
open Go.RowKit Go.Maps Go.ChangeShapes Go.WideShapes Go.ChangeAt Kit
set_option linter.unusedVariables false

theorem run_append_room2 {P : Program} {w : World} (t t2 ty e : TypeId) (i : TypeInfo) (ht : P.underlying t = some (.slice e)) (ht2 : P.underlying t2 = some (.slice e)) (hi : P.info? e = some i)
    (g n cap : Nat) (cur : Array Value) (hg : w.heap[g]? = some (.cells cur e (0, 0))) (a : Addr) (m c : Nat) (news : List Value) (hl : news.length = m * i.size)
    (hnews : ∀ j u, news[j]? = some u → w.cell? (a.add j) = some u) (h1 : ∀ u ∈ news, u.oneCell' = true) (hroom : n + m ≤ cap) (hfit : n * i.size + news.length ≤ cur.size) :
    (Builtin.append_ #[t, t2] ty #[.slice (some ⟨g, 0, none⟩) n cap, .slice (some a) m c]).run P w = (Builtin.append_ #[t, t] ty #[.slice (some ⟨g, 0, none⟩) n cap, .slice (some a) m c]).run P w := by
  rw [run_append_room w t ty e i ht hi g n cap cur hg a m c news hl hnews h1 hroom hfit]
  have hf := run_firstCells_some (P := P) w i.size m a m c news hl hnews
  have hst := run_storeCells_at P g (n * i.size) e news 0 cur w hg (by simpa using hfit) h1
  simp only [Nat.add_zero] at hst
  simp [Builtin.append_, run_underlying ht, run_underlying ht2, sizeOf, typeInfo, hi, Builtin.lenOf, hroom, hf, Addr.add_lit, hst]
theorem run_append_types {P : Program} {w : World} (base t t2 ty e : TypeId) (i : TypeInfo) (size : Nat) (ht : P.underlying t = some (.slice e)) (ht2 : P.underlying t2 = some (.slice e)) (hi : P.info? e = some i) (hsize : i.size = size)
    (g n cap : Nat) (xs : List Value) (hown : w.ownsRow base e size (.slice (some ⟨g, 0, none⟩) n cap) n xs)
    (a : Addr) (m c : Nat) (news : List Value) (hl : news.length = m * size) (hnews : ∀ j u, news[j]? = some u → w.cell? (a.add j) = some u) (h1 : ∀ u ∈ news, u.oneCell' = true) (hroom : n + m ≤ cap) :
    (Builtin.append_ #[t, t2] ty #[.slice (some ⟨g, 0, none⟩) n cap, .slice (some a) m c]).run P w = (Builtin.append_ #[t, t] ty #[.slice (some ⟨g, 0, none⟩) n cap, .slice (some a) m c]).run P w := by
  subst hsize
  rcases hown.2 with ⟨h, _⟩ | ⟨g', cap', cur, h, hbg, hg, hnc, hcm, hcs, htake⟩
  · simp at h
  · simp only [Value.slice.injEq, Option.some.injEq, Addr.mk.injEq, and_true, true_and] at h
    obtain ⟨rfl, rfl⟩ := h
    exact run_append_room2 t t2 ty e i ht ht2 hi g n cap cur hg a m c news hl hnews h1 hroom (by rw [hl, hcs, ← Nat.add_mul]; exact Nat.mul_le_mul_right _ hroom)
/-- 'wpList_append_fits_any' where the two types are not one. -/
theorem wpList_append_fits2 {P : Program} (w : World) {ops : Array Oper} {rest : List Oper} {o : Oper} {a : Act} {Q : Exit → Act → World → Prop}
    (hg : o.guard = none) (s x : Operand) (t t2 : TypeId) (hop : o.op = Op.call { callee := Callee.builtin Builtin.append, args := #[s, x], argTypes := #[t, t2] })
    (base : Nat) (e : TypeId) (i : TypeInfo) (size : Nat) (h1 : P.underlying t = some (.slice e)) (h12 : P.underlying t2 = some (.slice e)) (h2 : P.info? e = some i) (h4 : i.size = size)
    (g k cap : Nat) (xs : List Value) (hs : a.eval s = .slice (some ⟨g, 0, none⟩) k cap) (hown : w.ownsRow base e size (.slice (some ⟨g, 0, none⟩) k cap) k xs) (ad : Addr) (m c : Nat) (news : List Value) (hx : a.eval x = .slice (some ad) m c) (hn : news.length = m * size)
    (hc : ∀ j u, news[j]? = some u → w.cell? (ad.add j) = some u) (h1c : ∀ u ∈ news, u.oneCell' = true) (b1 : k + m ≤ cap)
    (hK : ∀ w', w'.ownsRow base e size (.slice (some ⟨g, 0, none⟩) (k + m) cap) (k + m) (xs ++ news) → w.grownBy w' (some g) → wpList P ops Q rest (a.put o.dst (.slice (some ⟨g, 0, none⟩) (k + m) cap)) w') :
    wpList P ops Q (o :: rest) a w := by
  refine wpList_plain hg fun K hK' => ?_
  obtain ⟨w', hrun, r1, r2⟩ := run_append_fits (P := P) w base t o.type e i size h1 h2 h4 g k cap xs hown ad m c news hn hc h1c b1
  rw [← run_append_types base t t2 o.type e i size h1 h12 h2 h4 g k cap xs hown ad m c news hn hc h1c b1] at hrun
  unfold Oper.wp
  simp [execOp, hop, resolve, invoke, builtin, hs, hx, hrun, Result.andThen]
  exact hK' _ _ (hK w' r1 r2)

theorem flags_any (W : Int) (r : Bool) (A S D f : Int) (w : World) (hf : flagV r S = f) :
    Calls Try.prog 44 #[acc W r A S D] w fun e w' => e = .returned (.int .u8 f) ∧ Below w.heap.size w w' := by
  subst hf
  by_cases h2 : S = 2
  · subst h2
    cases r
    all_goals
      go_enter Try.func44, Try.ntmps44
      go_wp2
      go_ret
      exact ⟨rfl, (Below.refl _ _).alloc (Nat.le_refl _) _⟩
  · by_cases h4 : S = 4
    · subst h4
      cases r
      all_goals
        go_enter Try.func44, Try.ntmps44
        go_wp2
        go_ret
        exact ⟨rfl, (Below.refl _ _).alloc (Nat.le_refl _) _⟩
    · cases r
      all_goals
        go_enter Try.func44, Try.ntmps44
        go_wp2
        go_ret
        exact ⟨by unfold flagV; rw [if_neg h2, if_neg h4]; rfl, (Below.refl _ _).alloc (Nat.le_refl _) _⟩

/-- What put leaves: the row behind p has grown within its room; nothing else has turned. -/
def PutPost (base p g n c : Nat) (L : List Value) (w : World) (e : Ending) (w' : World) : Prop :=
  (∃ u, e = .returned u) ∧ w'.cell? ⟨p, 0, none⟩ = some (.slice (some ⟨g, 0, none⟩) n c) ∧ w'.frozen? ⟨p, 0, none⟩ = false ∧ w'.ownsRow base 5 1 (.slice (some ⟨g, 0, none⟩) n c) n L ∧ Only (fun k => k = p ∨ k = g) w w'
set_option maxRecDepth 8000 in
theorem put_fits (base p g n c m mc : Nat) (L xs : List Value) (ad : Addr) (w : World) (hp : w.cell? ⟨p, 0, none⟩ = some (.slice (some ⟨g, 0, none⟩) n c)) (hf : w.frozen? ⟨p, 0, none⟩ = false)
    (hown : w.ownsRow base 5 1 (.slice (some ⟨g, 0, none⟩) n c) n L) (hpg : g ≠ p) (hfit : n + m ≤ c) (hl : xs.length = m) (hc : ∀ j u, xs[j]? = some u → w.cell? (ad.add j) = some u) (h1 : ∀ u ∈ xs, u.oneCell' = true) :
    Calls Try.prog 43 #[.pointer (some ⟨p, 0, none⟩), .slice (some ad) m mc] w (PutPost base p g (n + m) c (L ++ xs) w) := by
  obtain ⟨i0, hi, hz0, hz1, hz2⟩ := info_parts KitBytes.info_e
  have Hi := Lib.hid hi
  have Hz0 := Lib.hid hz0
  have Hz1 := Lib.hid hz1
  have Hz2 := Lib.hid hz2
  have Hown := Lib.hid hown
  have Hc := Lib.hid hc
  have H1 := Lib.hid h1
  have Hl := Lib.hid hl
  have hplt := World.block_lt_of_cell? w _ hp
  clear hi hz0 hz1 hz2 hown hc h1 hl
  go_enter Try.func43, Try.ntmps43
  go_wp2_with (at_builtin; refine wpList_append_fits2 w rfl _ _ 87 27 rfl base 5 i0 1 Try.underlying87 Try.underlying27 Hi.out Hz1.out g n c L rfl Hown.out ad m mc xs rfl (by simpa using Hl.out) Hc.out H1.out hfit ?_; intro w1 hown1 hgrow1; have e0 := (World.cell?_of_block (w := w) (a := ⟨p, 0, none⟩) (hgrow1.block p hplt (fun e => hpg (Option.some.inj e).symm))).trans hp; have f0 := (World.frozen?_of_block (w := w) (a := ⟨p, 0, none⟩) (hgrow1.block p hplt (fun e => hpg (Option.some.inj e).symm))).trans hf)
  go_end0
  refine ⟨⟨_, rfl⟩, ?_, ?_, KitBytes.own_only hown1 (KitBytes.only_set w1 p 0 _) (fun k e => by cases e; exact hpg), ((Only.refl _ w).grown hgrow1 (fun k e => .inl (.inr (Option.some.inj e).symm))).trans ((KitBytes.only_set w1 p 0 _).mono (fun k _ e => .inl e))⟩
  · simp [go_sem, e0]
  · simp [go_sem, f0]
end Go.Proofs.Ytblccnpdcnlhiaa.Access
