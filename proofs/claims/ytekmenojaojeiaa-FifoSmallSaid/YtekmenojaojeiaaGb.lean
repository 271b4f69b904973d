/- Contracts of the document's row: Put, Take. -/
import Derived.Test.YtekmenojaojeiaaGa
namespace Go.Proofs.Ytekmenojaojeiaa.Fifo5
open Go.RowKit Go.Maps Fifo FI
set_option linter.unusedVariables false

/-- The document's row in block b, and the blocks that are its own. -/
def RSt (w : World) (b room : Nat) (l : List Value) (O : Nat → Prop) : Prop := ∃ v, Blk w b 29 [.int .i64 (room : Nat), v] ∧ Off w v l ∧ room < 9223372036854775808 ∧ O = fun j => j = b ∨ PB v j
theorem RSt.only {S O : Nat → Prop} {w w' : World} {b room : Nat} {l : List Value} (h : RSt w b room l O) (ho : Only S w w') (hn : ∀ j, O j → ¬ S j) : RSt w' b room l O := by
  obtain ⟨v, h1, h2, h3, rfl⟩ := h
  exact ⟨v, h1.only ho (hn b (.inl rfl)), h2.only ho (fun j hj => hn j (.inr hj)), h3, rfl⟩
theorem RSt.keep {O : Nat → Prop} {w w' : World} {b room : Nat} {l : List Value} (h : RSt w b room l O) (hb : Below w.heap.size w w') : RSt w' b room l O := by
  obtain ⟨v, h1, h2, h3, rfl⟩ := h
  exact ⟨v, h1.keep hb, h2.keep hb, h3, rfl⟩
theorem RSt.book {B : Nat} {O : Nat → Prop} {w w' : World} {b room : Nat} {l : List Value} (h : RSt w b room l O) (hb : Book B w w') : RSt w' b room l O := by
  obtain ⟨v, h1, h2, h3, rfl⟩ := h
  exact ⟨v, h1.book hb, h2.book hb, h3, rfl⟩
theorem RSt.lt {O : Nat → Prop} {w : World} {b room : Nat} {l : List Value} (h : RSt w b room l O) : ∀ j, O j → j < w.heap.size := by
  obtain ⟨v, h1, h2, h3, rfl⟩ := h
  exact fun j hj => hj.elim (fun e => e ▸ h1.lt) (h2.lt j)
theorem RSt.new (room : Nat) (w : World) (h : room < 9223372036854775808) : RSt (w.alloc (.cells #[.int .i64 (room : Nat), .slice none 0 0] 29)) w.heap.size room [] (fun j => j = w.heap.size) :=
  ⟨.slice none 0 0, Blk.new w _ [_, _], .inl ⟨rfl, rfl⟩, h, funext fun j => by simp [PB, Value.ownBlock]⟩

set_option maxHeartbeats 1000000 in
theorem rPut_st (b room : Nat) (l l' : List Value) (O : Nat → Prop) (x : Int) (ok : Bool) (w : World) (h : RSt w b room l O) (h9 : l.length ≤ 1900) (hok : decide (l.length < room) = ok) (hl' : (if ok then l ++ [.int .i64 x] else l) = l') :
    Calls Try.prog 11 #[.pointer (some ⟨b, 0, none⟩), .int .i64 x] w fun e w' => e = .returned (.bool ok) ∧
      ∃ O', RSt w' b room l' O' ∧ Only O w w' ∧ ∀ j, O' j → O j ∨ w.heap.size ≤ j := by
  obtain ⟨v, hB, hO, hroom, rfl⟩ := h
  obtain ⟨a, c, hv⟩ := hO.shape
  subst hv
  have q0 := hB.at 0 rfl
  have q1 := hB.at 1 rfl
  cases ok with
  | false =>
    simp only [Bool.false_eq_true, if_false] at hl'
    subst hl'
    have hge : ¬ l.length < room := of_decide_eq_false hok
    have e1 : decide ((room : Int) ≤ (l.length : Int)) = true := decide_eq_true (by omega)
    have e2 : room ≤ l.length := by omega
    have HB := Lib.hid hB
    have HO := Lib.hid hO
    have Hroom := Lib.hid hroom
    clear hB hO hroom hok hge
    go_enter Try.func11, Try.ntmps11
    go_wp2_with fail
    go_quiet (fail)
    go_wp2_with fail
    go_ret
    exact ⟨rfl, _, ⟨_, HB.out.keep (below_drewN _ _), HO.out.keep (below_drewN _ _), Hroom.out, rfl⟩, Only.of_below (below_drewN _ _), fun j hj => .inl hj⟩
  | true =>
    simp only [if_true] at hl'
    subst hl'
    have hlt : l.length < room := of_decide_eq_true hok
    have e1 : decide ((room : Int) ≤ (l.length : Int)) = false := decide_eq_false (by omega)
    have e2 : ¬ room ≤ l.length := by omega
    have HB := Lib.hid hB
    have HO := Lib.hid hO
    have Hroom := Lib.hid hroom
    have H9 := Lib.hid h9
    clear hB hO hroom hok hlt h9
    go_enter Try.func11, Try.ntmps11
    go_wp2_with fail
    go_quiet (fail)
    go_wp2_with (at_builtin; refine wpList_append_off _ rfl _ _ rfl (.slice a l.length c) l rfl ((HO.out.keep (below_drewN _ _)).keep ((Below.refl _ _).alloc (Nat.le_refl _) _)) (by have := H9.out; omega) ⟨w.heap.size, 0, none⟩ 1 (.int .i64 x) rfl (cell_one_new _ _ _) rfl ?_; intro v' w5 h1 h2 h4; obtain ⟨a5, c5, hv5⟩ := h1.shape; subst hv5; have B5 := ((HB.out.keep (below_drewN _ _)).keep ((Below.refl _ _).alloc (Nat.le_refl _) _)).only h2 (fun hp => HO.out.ne HB.out (by decide) b hp rfl); have r1 := B5.at 1 rfl; have u1 := B5.frozen 1; have HB5 := Lib.hid B5; have H1 := Lib.hid h1; have H2 := Lib.hid h2; have H4 := Lib.hid h4; clear h1 h2 h4 B5)
    go_ret
    have e : (l ++ [(.int .i64 x : Value)]).length = l.length + 1 := by simp
    have h1 := H1.out
    have h4 := H4.out
    rw [e] at h1 h4
    have hset : Only (fun j => j = b) w5 (w5.setCell ⟨b, 1, none⟩ (.slice a5 (l.length + 1) c5)) := (Only.refl (fun j => j = b) w5).setCell (p := ⟨b, 1, none⟩) rfl _
    refine ⟨rfl, _, ⟨.slice a5 (l.length + 1) c5, HB5.out.set 1 _, h1.only hset (fun j hj => h1.ne HB5.out (by decide) j hj), Hroom.out, rfl⟩, ?_, fun j hj => hj.elim (fun e => .inl (.inl e)) (fun e => (h4 j e).elim (fun e => .inl (.inr e)) (fun e => .inr (by simp at e; have : (w.drewN nq).heap.size = w.heap.size := rfl; omega)))⟩
    exact (((Only.of_below (S := fun j => j = b ∨ PB (.slice a l.length c) j) (below_drewN w nq)).alloc _).trans (H2.out.mono (fun j _ e => .inr e))).trans (hset.mono (fun j _ e => .inl e))

theorem rTake_nil (b room : Nat) (O : Nat → Prop) (w : World) (h : RSt w b room [] O) :
    Calls Try.prog 13 #[.pointer (some ⟨b, 0, none⟩)] w fun e w' => e = .returned (.tuple #[.int .i64 0, .bool false]) ∧ RSt w' b room [] O ∧ Only O w w' := by
  obtain ⟨v, hB, hO, hroom, rfl⟩ := h
  obtain ⟨a, c, hv⟩ := hO.shape
  subst hv
  have q1 := hB.at 1 rfl
  have HB := Lib.hid hB
  have HO := Lib.hid hO
  have Hroom := Lib.hid hroom
  simp only [List.length_nil] at q1
  clear hB hO hroom
  go_enter Try.func13, Try.ntmps13
  go_wp2_with fail
  go_ret2
  exact ⟨rfl, ⟨_, HB.out, HO.out, Hroom.out, rfl⟩, Only.refl _ _⟩
set_option maxHeartbeats 1000000 in
theorem rTake_cons (b room : Nat) (x : Int) (t : List Value) (O : Nat → Prop) (w : World) (h : RSt w b room (.int .i64 x :: t) O) (h9 : t.length ≤ 1900) :
    Calls Try.prog 13 #[.pointer (some ⟨b, 0, none⟩)] w fun e w' => e = .returned (.tuple #[.int .i64 x, .bool true]) ∧ ∃ O', RSt w' b room t O' ∧ Only O w w' ∧ ∀ j, O' j → O j := by
  obtain ⟨v, hB, hO, hroom, rfl⟩ := h
  obtain ⟨g, off, cap, rfl, hc0, hc1, hg, hcell⟩ := hO.lies (by simp)
  have q1 := hB.at 1 rfl
  have u1 := hB.frozen 1
  have k0 := hcell w (Below.refl _ _) 0 (by simp)
  obtain ⟨n, hn⟩ : ∃ n, t.length = n := ⟨_, rfl⟩
  simp only [List.length_cons, hn, Nat.add_zero, List.getElem?_cons_zero] at q1 k0 hc1
  have e1 : ¬ (((n + 1 : Nat) : Int) = 0) := by omega
  have e2 : 1 ≤ n + 1 := by omega
  have e3 : n + 1 ≤ cap := hc1
  have ht := hO.tail _ rfl
  have HT := Lib.hid ht
  have HB := Lib.hid hB
  have HO := Lib.hid hO
  have Hroom := Lib.hid hroom
  have Hn := Lib.hid hn
  clear hB hO hroom hcell ht hn h9 hc1
  by_cases hcap : cap = 1
  all_goals
    have ht := HT.out
    rw [Hn.out] at ht
    first
    | rw [if_neg hcap] at ht
    | (rw [if_pos hcap] at ht; subst hcap; obtain rfl : n = 0 := by omega)
    have HT2 := Lib.hid ht
    clear HT ht
    go_enter Try.func13, Try.ntmps13
    go_wp2_with fail
    go_ret2
    have ht := HT2.out
    have hset : ∀ v, Only (fun j => j = b) w (w.setCell ⟨b, 1, none⟩ v) := fun v => (Only.refl (fun j => j = b) w).setCell (p := ⟨b, 1, none⟩) rfl v
    refine ⟨rfl, _, ⟨_, HB.out.set 1 _, ht.1.only (hset _) (fun j hj => ht.1.ne HB.out (by decide) j hj), Hroom.out, rfl⟩, (hset _).mono (fun j _ e => .inl e), fun j hj => hj.elim .inl (fun e => .inr (ht.2 j e))⟩
end Go.Proofs.Ytekmenojaojeiaa.Fifo5
