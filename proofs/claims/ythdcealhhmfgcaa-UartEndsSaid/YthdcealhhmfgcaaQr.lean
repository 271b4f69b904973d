/- The document's uart: Input, Tick, Line, Read, Write. -/
import Derived.Test.YthdcealhhmfgcaaQa
import Derived.Test.YthdcealhhmfgcaaOfB
import Derived.Test.YthdcealhhmfgcaaGr
namespace Go.Proofs.Ythdcealhhmfgcaa.Uart
open Go.RowKit Go.Maps Go.ChangeShapes Go.WideShapes Go.ChangeAt Fifo Orow Word OffB
set_option linter.unusedVariables false

/-- The document's uart in block r, its rows va and vb. -/
structure RefV (w : World) (r : Nat) (u : Un) (va vb : Value) : Prop where
  head : Blk w r 30 [va, vb, .bool u.LI, .bool u.LO, .int .u32 u.C, .int .i64 u.P]
  came : Off w va (bv u.Came)
  goes : Off w vb (bv u.Goes)
  ap : ∀ j, PB va j → ¬ PB vb j
  ok : OkU u
def RefO (r : Nat) (va vb : Value) : Nat → Prop := fun j => j = r ∨ PB va j ∨ PB vb j
def RefU (w : World) (r : Nat) (u : Un) (O : Nat → Prop) : Prop := ∃ va vb, RefV w r u va vb ∧ O = RefO r va vb
theorem bvl (l : List Int) : (bv l).length = l.length := by simp [bv]
theorem RefU.only {S O : Nat → Prop} {w w' : World} {r : Nat} {u : Un} (h : RefU w r u O) (ho : Only S w w') (hn : ∀ j, O j → ¬ S j) : RefU w' r u O := by
  obtain ⟨va, vb, h, rfl⟩ := h
  exact ⟨va, vb, ⟨h.head.only ho (hn r (.inl rfl)), h.came.only ho (fun j hj => hn j (.inr (.inl hj))), h.goes.only ho (fun j hj => hn j (.inr (.inr hj))), h.ap, h.ok⟩, rfl⟩
theorem RefU.keep {O : Nat → Prop} {w w' : World} {r : Nat} {u : Un} (h : RefU w r u O) (hb : Below w.heap.size w w') : RefU w' r u O :=
  h.only (Only.of_below (S := fun _ => False) hb) (fun _ _ h => h)
theorem RefU.lt {O : Nat → Prop} {w : World} {r : Nat} {u : Un} (h : RefU w r u O) : ∀ j, O j → j < w.heap.size := by
  obtain ⟨va, vb, h, rfl⟩ := h
  intro j hj
  rcases hj with rfl | hj | hj
  · exact h.head.lt
  · exact h.came.lt j hj
  · exact h.goes.lt j hj
theorem RefU.ok {O : Nat → Prop} {w : World} {r : Nat} {u : Un} (h : RefU w r u O) : OkU u := by
  obtain ⟨va, vb, h, rfl⟩ := h
  exact h.ok
theorem RefU.new (w : World) : RefU (w.alloc (.cells #[.slice none 0 0, .slice none 0 0, .bool false, .bool false, .int .u32 0, .int .i64 0] 30)) w.heap.size zeroU (fun j => j = w.heap.size) :=
  ⟨.slice none 0 0, .slice none 0 0, ⟨Blk.new w _ [_, _, _, _, _, _], .inl ⟨rfl, rfl⟩, .inl ⟨rfl, rfl⟩, fun j h => by simp [PB, Value.ownBlock] at h, okU_zero⟩, funext fun j => by simp [RefO, PB, Value.ownBlock]⟩
theorem RefV.ne {w : World} {r : Nat} {u : Un} {va vb : Value} (h : RefV w r u va vb) : (∀ j, PB va j → j ≠ r) ∧ (∀ j, PB vb j → j ≠ r) :=
  ⟨h.came.ne h.head (by decide), h.goes.ne h.head (by decide)⟩

/-- A part of the head is stored. -/
theorem RefV.put {w : World} {r : Nat} {u u' : Un} {va vb : Value} (h : RefV w r u va vb) (k : Nat) (x : Value) (h1 : [va, vb, .bool u.LI, .bool u.LO, .int .u32 u.C, .int .i64 u.P].set k x = [va, vb, .bool u'.LI, .bool u'.LO, .int .u32 u'.C, .int .i64 u'.P]) (h2 : u'.Came = u.Came) (h3 : u'.Goes = u.Goes) (hk : OkU u') :
    RefV (w.setCell ⟨r, k, none⟩ x) r u' va vb ∧ Only (fun j => j = r) w (w.setCell ⟨r, k, none⟩ x) := by
  have ho : Only (fun j => j = r) w (w.setCell ⟨r, k, none⟩ x) := (Only.refl (fun j => j = r) w).setCell (p := ⟨r, k, none⟩) rfl x
  refine ⟨⟨?_, ?_, ?_, h.ap, hk⟩, ho⟩
  · rw [← h1]
    exact h.head.set k x
  · rw [h2]
    exact h.came.only ho h.ne.1
  · rw [h3]
    exact h.goes.only ho h.ne.2
theorem RefV.came_set {w w4 w5 : World} {r : Nat} {u : Un} {va vb v' : Value} {l' : List Int} (h : RefV w r u va vb) (hb : Below w.heap.size w w4) (h1 : Off w5 v' (bv l')) (h2 : Only (PB va) w4 w5) (h4 : ∀ j, PB v' j → PB va j ∨ w4.heap.size ≤ j) (hk : OkU { u with Came := l' }) :
    ∃ O', RefU (w5.setCell ⟨r, 0, none⟩ v') r { u with Came := l' } O' ∧ Only (RefO r va vb) w (w5.setCell ⟨r, 0, none⟩ v') ∧ ∀ j, O' j → RefO r va vb j ∨ w.heap.size ≤ j := by
  have o5 : Only (PB va) w w5 := (Only.of_below hb).trans h2
  have B5 := h.head.only o5 (fun hp => h.ne.1 r hp rfl)
  have ho : Only (fun j => j = r) w5 (w5.setCell ⟨r, 0, none⟩ v') := (Only.refl (fun j => j = r) w5).setCell (p := ⟨r, 0, none⟩) rfl v'
  have hs := hb.size
  refine ⟨RefO r v' vb, ⟨v', vb, ⟨B5.set 0 v', ?_, ?_, ?_, hk⟩, rfl⟩, (o5.mono (fun j _ e => .inr (.inl e))).trans (ho.mono (fun j _ e => .inl e)), ?_⟩
  · exact h1.only ho (fun j hj => h1.ne B5 (by decide) j hj)
  · exact (h.goes.only o5 (fun j hj e => h.ap j e hj)).only ho h.ne.2
  · exact fun j hj k => (h4 j hj).elim (fun e => h.ap j e k) (fun e => by have := h.goes.lt j k; omega)
  · exact fun j hj => hj.elim (fun e => .inl (.inl e)) (fun e => e.elim (fun e => (h4 j e).elim (fun e => .inl (.inr (.inl e))) (fun e => .inr (by omega))) (fun e => .inl (.inr (.inr e))))
theorem RefV.goes_set {w w4 w5 : World} {r : Nat} {u : Un} {va vb v' : Value} {l' : List Int} (h : RefV w r u va vb) (hb : Below w.heap.size w w4) (h1 : Off w5 v' (bv l')) (h2 : Only (PB vb) w4 w5) (h4 : ∀ j, PB v' j → PB vb j ∨ w4.heap.size ≤ j) (hk : OkU { u with Goes := l' }) :
    ∃ O', RefU (w5.setCell ⟨r, 1, none⟩ v') r { u with Goes := l' } O' ∧ Only (RefO r va vb) w (w5.setCell ⟨r, 1, none⟩ v') ∧ ∀ j, O' j → RefO r va vb j ∨ w.heap.size ≤ j := by
  have o5 : Only (PB vb) w w5 := (Only.of_below hb).trans h2
  have B5 := h.head.only o5 (fun hp => h.ne.2 r hp rfl)
  have ho : Only (fun j => j = r) w5 (w5.setCell ⟨r, 1, none⟩ v') := (Only.refl (fun j => j = r) w5).setCell (p := ⟨r, 1, none⟩) rfl v'
  have hs := hb.size
  refine ⟨RefO r va v', ⟨va, v', ⟨B5.set 1 v', ?_, ?_, ?_, hk⟩, rfl⟩, (o5.mono (fun j _ e => .inr (.inr e))).trans (ho.mono (fun j _ e => .inl e)), ?_⟩
  · exact (h.came.only o5 (fun j hj e => h.ap j hj e)).only ho h.ne.1
  · exact h1.only ho (fun j hj => h1.ne B5 (by decide) j hj)
  · exact fun j hj k => (h4 j k).elim (fun e => h.ap j hj e) (fun e => by have := h.came.lt j hj; omega)
  · exact fun j hj => hj.elim (fun e => .inl (.inl e)) (fun e => e.elim (fun e => .inl (.inr (.inl e))) (fun e => (h4 j e).elim (fun e => .inl (.inr (.inr e))) (fun e => .inr (by omega))))
theorem rLine_any (r : Nat) (u : Un) (O : Nat → Prop) (w : World) (h : RefU w r u O) :
    Calls Try.prog 34 #[.pointer (some ⟨r, 0, none⟩)] w fun e w' => e = .returned (.bool (lineU u)) ∧ w = w' := by
  obtain ⟨va, vb, h, rfl⟩ := h
  obtain ⟨a, c, hv⟩ := h.came.shape
  subst hv
  have q0 := h.head.at 0 rfl
  have q4 := h.head.at 4 rfl
  rw [bvl] at q0
  unfold lineU
  by_cases h1 : u.C = 1
  · have e1 : (u.C == 1) = true := by simpa using h1
    by_cases h2 : 0 < u.Came.length
    · have e2 : decide ((0 : Int) < (u.Came.length : Int)) = true := decide_eq_true (by omega)
      have e3 : decide (u.C = 1 ∧ 0 < u.Came.length) = true := decide_eq_true ⟨h1, h2⟩
      rw [e3]
      clear h h1 e3
      go_enter Try.func34, Try.ntmps34
      go_wp2_with fail
      go_ret
      exact ⟨rfl, rfl⟩
    · have e2 : decide ((0 : Int) < (u.Came.length : Int)) = false := decide_eq_false (by omega)
      have e3 : decide (u.C = 1 ∧ 0 < u.Came.length) = false := decide_eq_false (fun h => h2 h.2)
      rw [e3]
      clear h h1 e3
      go_enter Try.func34, Try.ntmps34
      go_wp2_with fail
      go_ret
      exact ⟨rfl, rfl⟩
  · have e1 : (u.C == 1) = false := by simpa using h1
    have e3 : decide (u.C = 1 ∧ 0 < u.Came.length) = false := decide_eq_false (fun h => h1 h.1)
    rw [e3]
    clear h h1 e3
    go_enter Try.func34, Try.ntmps34
    go_wp2_with fail
    go_ret
    exact ⟨rfl, rfl⟩
set_option maxHeartbeats 1000000 in
theorem rInput_any (r : Nat) (u : Un) (O : Nat → Prop) (x : Int) (w : World) (hx : 0 ≤ x ∧ x < 256) (h : RefU w r u O) :
    Calls Try.prog 15 #[.pointer (some ⟨r, 0, none⟩), .int .u8 x] w fun e w' => e = .returned (.bool (inputU u x).1) ∧ ∃ O', RefU w' r (inputU u x).2 O' ∧ Only O w w' ∧ ∀ j, O' j → O j ∨ w.heap.size ≤ j := by
  obtain ⟨va, vb, h, rfl⟩ := h
  obtain ⟨a, c, hv⟩ := h.came.shape
  subst hv
  have hok := okU_input h.ok hx
  have q0 := h.head.at 0 rfl
  have u0 := h.head.frozen 0
  have q2 := h.head.at 2 rfl
  have u2 := h.head.frozen 2
  rw [bvl] at q0
  have hlen := h.ok.came.2
  unfold inputU at hok ⊢
  by_cases h8 : u.Came.length = 8
  · rw [if_pos h8] at hok ⊢
    have e8 : ((u.Came.length : Int) == 8) = true := by rw [h8]; rfl
    have P := Lib.hid (h.put (u' := { u with LI := true }) 2 (.bool true) rfl rfl rfl hok)
    clear h hok h8 hlen
    go_enter Try.func15, Try.ntmps15
    go_wp2_with fail
    go_ret
    exact ⟨rfl, _, ⟨_, _, P.out.1, rfl⟩, P.out.2.mono (fun j _ e => .inl e), fun j hj => .inl hj⟩
  · rw [if_neg h8] at hok ⊢
    have e8 : ((u.Came.length : Int) == 8) = false := by
      have : ¬ ((u.Came.length : Int) = 8) := by omega
      simpa using this
    have H := Lib.hid h
    have Hok := Lib.hid hok
    have Hlen := Lib.hid hlen
    clear h hok h8 hlen
    go_enter Try.func15, Try.ntmps15
    go_wp2_with (at_builtin; refine wpList_append_off _ rfl _ _ rfl (.slice a (bv u.Came).length c) (bv u.Came) (by rw [bvl]; rfl) (H.out.came.keep ((Below.refl _ _).alloc (Nat.le_refl _) _)) (by rw [bvl]; have := Hlen.out; omega) ⟨w.heap.size, 0, none⟩ 1 (.int .u8 x) rfl (cell_one_new _ _ _) rfl ?_; intro v' w5 h1 h2 h4; obtain ⟨a5, c5, hv5⟩ := h1.shape; subst hv5; have H1 := Lib.hid h1; have H2 := Lib.hid h2; have H4 := Lib.hid h4; have B5 := (H.out.head.keep ((Below.refl _ _).alloc (Nat.le_refl _) (.cells #[.int .u8 x] 5))).only h2 (fun hp => H.out.ne.1 r hp rfl); have r1 := B5.at 0 rfl; have u1 := B5.frozen 0; have HB5 := Lib.hid B5; clear h1 h2 h4 B5)
    go_ret
    have h1 := H1.out
    have h4 := H4.out
    have e : bv u.Came ++ [Value.int .u8 x] = bv (u.Came ++ [x]) := by simp [bv]
    have e2 : (bv u.Came ++ [Value.int .u8 x]).length = u.Came.length + 1 := by simp [bv]
    rw [e2] at h1 h4
    rw [e] at h1
    have hb := H.out.came_set ((Below.refl _ _).alloc (Nat.le_refl _) _) h1 H2.out h4 Hok.out
    rw [bvl] at hb
    exact ⟨rfl, hb⟩
end Go.Proofs.Ythdcealhhmfgcaa.Uart
