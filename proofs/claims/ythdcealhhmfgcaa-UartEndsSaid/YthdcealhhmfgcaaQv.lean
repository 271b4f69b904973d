/- Package uart: its small functions. -/
import Derived.Test.YthdcealhhmfgcaaQu
import Derived.Test.YthdcealhhmfgcaaBa
import Derived.Deep.RegionHeld3
import Derived.Deep.RegionWith
namespace Go.Proofs.Ythdcealhhmfgcaa.Uart
open Go.RowKit Go.Maps Go.ChangeShapes Go.WideShapes Go.ChangeAt Fifo Orow Word
set_option linter.unusedVariables false

abbrev me (b : Nat) : Value := .pointer (some ⟨b, 0, none⟩)
theorem fput_any (b : Nat) (p : Value) (x lost L : Int) (ok : Bool) (R : World → Prop) (w : World) (hp : Calls Try.prog 46 #[p, .int .u8 x] w fun e w' => e = .returned (.bool ok) ∧ R w')
    (hc : ∀ w', R w' → w'.cell? ⟨b, 0, none⟩ = some (.int .u32 L) ∧ w'.frozen? ⟨b, 0, none⟩ = false) :
    Calls Try.prog 30 #[me b, p, .int .u8 x, .int .u32 lost] w fun e w' => e = .returned (.bool ok) ∧ ∃ w1, R w1 ∧ w' = (if ok then w1 else w1.setCell ⟨b, 0, none⟩ (.int .u32 (bits .or .u32 L lost))) := by
  have HP := Lib.hid hp
  have HC := Lib.hid hc
  clear hp hc
  go_enter Try.func30, Try.ntmps30
  go_wp2_with fail
  refine HP.out.mono ?_
  rintro e w1 ⟨rfl, hr⟩
  obtain ⟨c0, f0⟩ := HC.out w1 hr
  have HR := Lib.hid hr
  clear hr HP HC
  cases ok
  · go_wp2_with fail
    go_ret
    exact ⟨rfl, w1, HR.out, by simp⟩
  · go_wp2_with fail
    go_ret
    first | exact ⟨rfl, HR.out⟩ | exact ⟨rfl, w1, HR.out, by simp⟩
theorem has_core (b : Nat) (L lost r : Int) (w : World) (h : w.cell? ⟨b, 0, none⟩ = some (.int .u32 L)) (hr : bits .and .u32 L lost = r) :
    Calls Try.prog 36 #[me b, .int .u32 lost] w fun e w' => e = .returned (.bool (r != 0)) ∧ w' = w := by
  go_enter Try.func36, Try.ntmps36
  go_wp2_with fail
  go_ret
  exact ⟨rfl, rfl⟩
theorem has_in (b : Nat) (u : Un) (w : World) (h : w.cell? ⟨b, 0, none⟩ = some (.int .u32 (lostU u))) :
    Calls Try.prog 36 #[me b, .int .u32 65536] w fun e w' => e = .returned (.bool u.LI) ∧ w' = w := by
  have e : (bits .and .u32 (lostU u) 65536 != 0) = u.LI := by
    unfold lostU
    cases u.LI <;> cases u.LO <;> decide
  rw [← e]
  exact has_core b _ _ _ w h rfl
theorem has_out (b : Nat) (u : Un) (w : World) (h : w.cell? ⟨b, 0, none⟩ = some (.int .u32 (lostU u))) :
    Calls Try.prog 36 #[me b, .int .u32 131072] w fun e w' => e = .returned (.bool u.LO) ∧ w' = w := by
  have e : (bits .and .u32 (lostU u) 131072 != 0) = u.LO := by
    unfold lostU
    cases u.LI <;> cases u.LO <;> decide
  rw [← e]
  exact has_core b _ _ _ w h rfl
theorem or_in (u : Un) : bits .or .u32 (lostU u) 65536 = lostU { u with LI := true } :=
  (by decide : ∀ x y : Bool, bits .or .u32 ((if x then 65536 else 0) + (if y then 131072 else 0)) 65536 = (if true then 65536 else 0) + (if y then 131072 else 0)) u.LI u.LO
theorem or_out (u : Un) : bits .or .u32 (lostU u) 131072 = lostU { u with LO := true } :=
  (by decide : ∀ x y : Bool, bits .or .u32 ((if x then 65536 else 0) + (if y then 131072 else 0)) 131072 = (if x then 65536 else 0) + (if true then 131072 else 0)) u.LI u.LO
theorem lostU_b (u : Un) : 0 ≤ lostU u ∧ lostU u ≤ 196608 := by
  unfold lostU
  cases u.LI <;> cases u.LO <;> decide

/-- What comes, where there are so many places. -/
def inputR (room : Nat) (u : Un) (b : Int) : Bool × Un := if u.Came.length < room then (true, { u with Came := u.Came ++ [b] }) else (false, { u with LI := true })
def sendR (room : Nat) (u : Un) (v : Int) : Un := if u.Goes.length < room then { u with Goes := u.Goes ++ [v % 256] } else { u with LO := true }
theorem okU_came {u : Un} (h : OkU u) {l : List Int} (h1 : OkB l) (h2 : l.length ≤ 8) : OkU { u with Came := l } := ⟨⟨h1, h2⟩, h.goes, h.c, h.p⟩
theorem okU_goes {u : Un} (h : OkU u) {l : List Int} (h1 : OkB l) (h2 : l.length ≤ 8) : OkU { u with Goes := l } := ⟨h.came, ⟨h1, h2⟩, h.c, h.p⟩
/-- The blocks of a uart, once a row of its has turned. -/
theorem own_came {O A A' B : Nat → Prop} {b n : Nat} (e : ∀ j, O j ↔ (j = b ∨ A j ∨ B j)) (h : ∀ j, A' j → A j ∨ n ≤ j) : ∀ j, (j = b ∨ A' j ∨ B j) → O j ∨ n ≤ j := fun j hj => by
  rcases hj with rfl | hj | hj
  · exact .inl ((e _).2 (.inl rfl))
  · exact (h j hj).imp (fun k => (e j).2 (.inr (.inl k))) id
  · exact .inl ((e j).2 (.inr (.inr hj)))
theorem own_goes {O A B B' : Nat → Prop} {b n : Nat} (e : ∀ j, O j ↔ (j = b ∨ A j ∨ B j)) (h : ∀ j, B' j → B j ∨ n ≤ j) : ∀ j, (j = b ∨ A j ∨ B' j) → O j ∨ n ≤ j := fun j hj => by
  rcases hj with rfl | hj | hj
  · exact .inl ((e _).2 (.inl rfl))
  · exact .inl ((e j).2 (.inr (.inl hj)))
  · exact (h j hj).imp (fun k => (e j).2 (.inr (.inr k))) id
/-- The byte that comes is put. -/
theorem put_came (b room : Nat) (u : Un) (x : Value) (p q : Value) (A B O : Nat → Prop) (v : Int) (w : World) (hv : 0 ≤ v ∧ v < 256) (h8 : room ≤ 8) (h : UB w b room u p q x A B) (e : ∀ j, O j ↔ (j = b ∨ A j ∨ B j)) :
    Calls Try.prog 30 #[me b, p, .int .u8 v, .int .u32 65536] w fun r w' => r = .returned (.bool (inputR room u v).1) ∧ ∃ O', UW w' b room (inputR room u v).2 x O' ∧ Only O w w' ∧ ∀ j, O' j → O j ∨ w.heap.size ≤ j := by
  have hl := h.came.le
  have hO : ∀ j, A j → O j := fun j hj => (e j).2 (.inr (.inl hj))
  unfold inputR
  by_cases hlt : u.Came.length < room
  · rw [if_pos hlt]
    have hok := okU_came h.ok (okB_snoc h.ok.came.1 hv) (by rw [List.length_append, List.length_singleton]; omega)
    refine (fput_any b p v 65536 (lostU u) true _ w (h.came.put (by omega) v true _ (decide_eq_true hlt) rfl) ?_).mono ?_
    · rintro w' ⟨A', h1, h2, h3⟩
      have hb := h.blk.only h2 h.na
      exact ⟨hb.at 0 rfl, hb.frozen 0⟩
    · rintro r w' ⟨rfl, w1, ⟨A', h1, h2, h3⟩, rfl⟩
      exact ⟨rfl, _, ⟨p, q, A', B, h.toCame (u' := { u with Came := u.Came ++ [v] }) h1 h2 h3 hok rfl rfl rfl rfl, fun j => Iff.rfl⟩, h2.mono (fun j _ k => hO j k), own_came e h3⟩
  · rw [if_neg hlt]
    refine (fput_any b p v 65536 (lostU u) false _ w (h.came.put (by omega) v false _ (decide_eq_false hlt) rfl) ?_).mono ?_
    · rintro w' ⟨A', h1, h2, h3⟩
      have hb := h.blk.only h2 h.na
      exact ⟨hb.at 0 rfl, hb.frozen 0⟩
    · rintro r w' ⟨rfl, w1, ⟨A', h1, h2, h3⟩, rfl⟩
      have hu := (h.toCame (u' := u) h1 h2 h3 h.ok rfl rfl rfl rfl).toCell (u' := { u with LI := true }) 0 (.int .u32 (bits .or .u32 (lostU u) 65536)) (by rw [or_in]; rfl) ⟨h.ok.came, h.ok.goes, h.ok.c, h.ok.p⟩ rfl rfl
      exact ⟨rfl, _, ⟨p, q, A', B, hu, fun j => Iff.rfl⟩, (h2.mono (fun j _ k => hO j k)).setCell (p := ⟨b, 0, none⟩) ((e b).2 (.inl rfl)) _, own_came e h3⟩
theorem put_goes (b room : Nat) (u : Un) (x : Value) (p q : Value) (A B O : Nat → Prop) (v : Int) (w : World) (h8 : room ≤ 8) (h : UB w b room u p q x A B) (e : ∀ j, O j ↔ (j = b ∨ A j ∨ B j)) :
    Calls Try.prog 30 #[me b, q, .int .u8 (v % 256), .int .u32 131072] w fun r w' => (∃ t, r = .returned t) ∧ ∃ O', UW w' b room (sendR room u v) x O' ∧ Only O w w' ∧ ∀ j, O' j → O j ∨ w.heap.size ≤ j := by
  have hl := h.goes.le
  have hO : ∀ j, B j → O j := fun j hj => (e j).2 (.inr (.inr hj))
  unfold sendR
  by_cases hlt : u.Goes.length < room
  · rw [if_pos hlt]
    have hok := okU_goes h.ok (okB_snoc h.ok.goes.1 (b := v % 256) (by omega)) (by rw [List.length_append, List.length_singleton]; omega)
    refine (fput_any b q (v % 256) 131072 (lostU u) true _ w (h.goes.put (by omega) (v % 256) true _ (decide_eq_true hlt) rfl) ?_).mono ?_
    · rintro w' ⟨A', h1, h2, h3⟩
      have hb := h.blk.only h2 h.nb
      exact ⟨hb.at 0 rfl, hb.frozen 0⟩
    · rintro r w' ⟨rfl, w1, ⟨A', h1, h2, h3⟩, rfl⟩
      exact ⟨⟨_, rfl⟩, _, ⟨p, q, A, A', h.toGoes (u' := { u with Goes := u.Goes ++ [v % 256] }) h1 h2 h3 hok rfl rfl rfl rfl, fun j => Iff.rfl⟩, h2.mono (fun j _ k => hO j k), own_goes e h3⟩
  · rw [if_neg hlt]
    refine (fput_any b q (v % 256) 131072 (lostU u) false _ w (h.goes.put (by omega) (v % 256) false _ (decide_eq_false hlt) rfl) ?_).mono ?_
    · rintro w' ⟨A', h1, h2, h3⟩
      have hb := h.blk.only h2 h.nb
      exact ⟨hb.at 0 rfl, hb.frozen 0⟩
    · rintro r w' ⟨rfl, w1, ⟨A', h1, h2, h3⟩, rfl⟩
      have hu := (h.toGoes (u' := u) h1 h2 h3 h.ok rfl rfl rfl rfl).toCell (u' := { u with LO := true }) 0 (.int .u32 (bits .or .u32 (lostU u) 131072)) (by rw [or_out]; rfl) ⟨h.ok.came, h.ok.goes, h.ok.c, h.ok.p⟩ rfl rfl
      exact ⟨⟨_, rfl⟩, _, ⟨p, q, A, A', hu, fun j => Iff.rfl⟩, (h2.mono (fun j _ k => hO j k)).setCell (p := ⟨b, 0, none⟩) ((e b).2 (.inl rfl)) _, own_goes e h3⟩

theorem take_any (b room : Nat) (u : Un) (x : Value) (O : Nat → Prop) (w : World) (h : UW w b room u x O) :
    Calls Try.prog 40 #[me b] w fun r w' => r = .returned (.int .u32 (readU u 0).1) ∧ ∃ O', UW w' b room (readU u 0).2 x O' ∧ Only O w w' ∧ ∀ j, O' j → O j ∨ w.heap.size ≤ j := by
  obtain ⟨p, q, A, B, h, e⟩ := h
  have c2 : w.cell? ⟨b, 2, none⟩ = some p := h.blk.at 2 rfl
  have T := Lib.hid h.came.take
  have hok := okU_read h.ok 0
  have hO : ∀ j, A j → O j := fun j hj => (e j).2 (.inr (.inl hj))
  obtain ⟨Cm, Gs, LI, LO, C, P⟩ := u
  cases Cm with
  | nil =>
    have R := Lib.hid (fun w' (h1 : Rw w' p room [] A) (h2 : Only A w w') => show ∃ O', UW w' b room (⟨[], Gs, LI, LO, C, P⟩ : Un) x O' ∧ Only O w w' ∧ ∀ j, O' j → O j ∨ w.heap.size ≤ j from
      ⟨_, ⟨p, q, A, B, h.toCame (u' := ⟨[], Gs, LI, LO, C, P⟩) h1 h2 (fun j hj => .inl hj) h.ok rfl rfl rfl rfl, fun j => Iff.rfl⟩, h2.mono (fun j _ k => hO j k), own_came e (fun j hj => .inl hj)⟩)
    simp only [fstB, List.headD_nil, List.isEmpty_nil, Bool.not_true, List.tail_nil] at T
    clear h hok
    go_enter Try.func40, Try.ntmps40
    go_wp2_with fail
    refine T.out.mono ?_
    rintro e w1 ⟨rfl, h1, h2⟩
    have R1 := Lib.hid (R.out w1 h1 h2)
    clear h1 h2 c2
    go_wp2_with fail
    go_ret
    exact ⟨rfl, R1.out⟩
  | cons y t =>
    have R := Lib.hid (fun w' (h1 : Rw w' p room t A) (h2 : Only A w w') => show ∃ O', UW w' b room (⟨t, Gs, LI, LO, C, P⟩ : Un) x O' ∧ Only O w w' ∧ ∀ j, O' j → O j ∨ w.heap.size ≤ j from
      ⟨_, ⟨p, q, A, B, h.toCame (u' := ⟨t, Gs, LI, LO, C, P⟩) h1 h2 (fun j hj => .inl hj) hok rfl rfl rfl rfl, fun j => Iff.rfl⟩, h2.mono (fun j _ k => hO j k), own_came e (fun j hj => .inl hj)⟩)
    have hy := h.ok.came.1 y List.mem_cons_self
    have w1 : IntKind.u32.wrap y = y := IntWalk.u32_in _ (by omega)
    have w2 : IntKind.u32.wrap (256 + y) = 256 + y := IntWalk.u32_in _ (by omega)
    simp only [fstB, List.headD_cons, List.isEmpty_cons, Bool.not_false, List.tail_cons] at T
    clear h hok hy
    go_enter Try.func40, Try.ntmps40
    go_wp2_with fail
    refine T.out.mono ?_
    rintro e w1 ⟨rfl, h1, h2⟩
    have R1 := Lib.hid (R.out w1 h1 h2)
    clear h1 h2 c2
    go_wp2_with fail
    go_ret
    exact ⟨rfl, R1.out⟩
theorem ctrlNow_any (b room : Nat) (u : Un) (x : Value) (O : Nat → Prop) (w : World) (h : UW w b room u x O) :
    Calls Try.prog 42 #[me b] w fun r w' => r = .returned (.int .u32 u.C) ∧ w = w' := by
  obtain ⟨p, q, A, B, h, e⟩ := h
  have c1 : w.cell? ⟨b, 1, none⟩ = some (.int .u32 u.C) := h.blk.at 1 rfl
  clear h e
  go_enter Try.func42, Try.ntmps42
  go_wp2_with fail
  go_ret
  exact ⟨rfl, rfl⟩
set_option maxHeartbeats 1000000 in
theorem counts_any (b room : Nat) (u : Un) (x : Value) (O : Nat → Prop) (w : World) (h : UW w b room u x O) :
    Calls Try.prog 41 #[me b] w fun r w' => r = .returned (.int .u32 (flagsU u)) ∧ Below w.heap.size w w' := by
  obtain ⟨p, q, A, B, h, e⟩ := h
  have L1 := Lib.hid (fun W' (hb : Below w.heap.size w W') => (h.came.keep hb).len)
  have L2 := Lib.hid (fun W' (hb : Below w.heap.size w W') => (h.goes.keep hb).len)
  have c0 : w.cell? ⟨b, 0, none⟩ = some (.int .u32 (lostU u)) := h.blk.at 0 rfl
  have c2 : w.cell? ⟨b, 2, none⟩ = some p := h.blk.at 2 rfl
  have c3 : w.cell? ⟨b, 3, none⟩ = some q := h.blk.at 3 rfl
  have hl := lostU_b u
  have h1 := h.ok.came.2
  have h2 := h.ok.goes.2
  have hf : flagsU u = (u.Came.length : Int) + 256 * u.Goes.length + lostU u := by unfold flagsU lostU; omega
  rw [hf]
  obtain ⟨m, hm⟩ : ∃ m, u.Came.length = m := ⟨_, rfl⟩
  obtain ⟨n, hn⟩ : ∃ n, u.Goes.length = n := ⟨_, rfl⟩
  obtain ⟨l, hL⟩ : ∃ l, lostU u = l := ⟨_, rfl⟩
  rw [hm] at L1 h1
  rw [hn] at L2 h2
  rw [hL] at c0 hl
  rw [hm, hn, hL]
  have a1 : IntKind.u32.wrap (m : Int) = m := IntWalk.u32_in _ (by omega)
  have a2 : IntKind.u32.wrap (n : Int) = n := IntWalk.u32_in _ (by omega)
  have a3 : IntKind.u32.wrap (256 * (n : Int)) = 256 * n := IntWalk.u32_in _ (by omega)
  have a4 : IntKind.u32.wrap ((m : Int) + 256 * n) = m + 256 * n := IntWalk.u32_in _ (by omega)
  have a5 : IntKind.u32.wrap ((m : Int) + 256 * n + l) = m + 256 * n + l := IntWalk.u32_in _ (by omega)
  clear h e hm hn hL hl h1 h2 hf
  go_enter Try.func41, Try.ntmps41
  go_wp2_with fail
  refine wp_region_ext (by kernel_rfl) (by kernel_rfl) ?_
  intro Y hY
  obtain rfl : Y = w := hY.out
  clear hY
  have y0 := ext_cell c0
  have y2 := ext_cell c2
  have y3 := ext_cell c3
  have hEx := Lib.hid (fun q => ext_below Y q)
  repeat (go_big_quiet_step ((first
    | (go_at_call 38; with_reducible exact ext_of (L1.out _ (hEx.out _)))
    | (go_at_call 38; with_reducible exact ext_of (L2.out _ (hEx.out _))))))
  refine wpQuiet_nil ?_
  intro w9 hw9
  obtain ⟨q9, rfl⟩ := hw9
  clear y0 y2 y3
  go_wp2_with fail
  go_ret
  exact ⟨rfl, hEx.out _⟩
theorem send_any (b room : Nat) (u : Un) (x : Value) (O : Nat → Prop) (v : Int) (w : World) (h8 : room ≤ 8) (hv : 0 ≤ v ∧ v < 4294967296) (h : UW w b room u x O) :
    Calls Try.prog 43 #[me b, .int .u32 v] w fun r w' => r = .returned (.tuple #[]) ∧ ∃ O', UW w' b room (sendR room u v) x O' ∧ Only O w w' ∧ ∀ j, O' j → O j ∨ w.heap.size ≤ j := by
  obtain ⟨p, q, A, B, h, e⟩ := h
  have c3 : w.cell? ⟨b, 3, none⟩ = some q := h.blk.at 3 rfl
  have T := Lib.hid (put_goes b room u x p q A B O v w.drew h8 (h.keep (Below.refl _ _).drew) e)
  have w1 : IntKind.u8.wrap v = v % 256 := by first | rfl | (unfold IntKind.wrap; simp; omega) | exact IntWalk.u8_wrap _
  obtain ⟨z, hz⟩ : ∃ z, v % 256 = z := ⟨_, rfl⟩
  rw [hz] at w1 T
  clear h e hz hv
  go_enter Try.func43, Try.ntmps43
  go_wp2_with fail
  go_region_with ((first | (go_at_call 30; with_reducible refine T.out.mono ?_; rintro e w1 ⟨⟨t, rfl⟩, hr⟩; have R := Lib.hid hr)))
  all_goals
    obtain ⟨O', k1, k2, k3⟩ := R.out
    have R2 := Lib.hid (show ∃ O', UW w1 b room (sendR room u v) x O' ∧ Only O w w1 ∧ ∀ j, O' j → O j ∨ w.heap.size ≤ j from ⟨O', k1, (Only.of_below (Below.refl w.heap.size w).drew).trans k2, k3⟩)
    go_wp2_with fail
    go_end0
    exact ⟨rfl, R2.out⟩
theorem and_1 {v : Int} (h : 0 ≤ v ∧ v < 4294967296) : bits .and .u32 v 1 = v % 2 := by
  obtain ⟨x, rfl⟩ := Int.eq_ofNat_of_zero_le h.1
  rw [show (1 : Int) = ((1 : Nat) : Int) from rfl, u32_and_nat x 1 (by omega) (by omega), show (1 : Nat) = 2 ^ 1 - 1 from rfl, Nat.and_two_pow_sub_one_eq_mod]
  rfl
theorem setCtrl_any (b room : Nat) (u : Un) (x : Value) (O : Nat → Prop) (v : Int) (w : World) (hv : 0 ≤ v ∧ v < 4294967296) (h : UW w b room u x O) :
    Calls Try.prog 44 #[me b, .int .u32 v] w fun r w' => r = .returned (.tuple #[]) ∧ ∃ O', UW w' b room (writeU u 2 v) x O' ∧ Only O w w' ∧ ∀ j, O' j → O j ∨ w.heap.size ≤ j := by
  obtain ⟨p, q, A, B, h, e⟩ := h
  have c1 : w.cell? ⟨b, 1, none⟩ = some (.int .u32 u.C) := h.blk.at 1 rfl
  have f1 := h.blk.frozen 1
  have hv1 := and_1 hv
  have T := Lib.hid (show ∃ O', UW (w.setCell ⟨b, 1, none⟩ (.int .u32 (v % 2))) b room (writeU u 2 v) x O' ∧ Only O w (w.setCell ⟨b, 1, none⟩ (.int .u32 (v % 2))) ∧ ∀ j, O' j → O j ∨ w.heap.size ≤ j from
    ⟨O, ⟨p, q, A, B, h.toCell (u' := writeU u 2 v) 1 (.int .u32 (v % 2)) rfl (okU_write h.ok 2 v) rfl rfl, e⟩, (Only.refl O w).setCell (p := ⟨b, 1, none⟩) ((e b).2 (.inl rfl)) _, fun j hj => .inl hj⟩)
  clear h e hv
  go_enter Try.func44, Try.ntmps44
  go_wp2_with fail
  go_end0
  exact ⟨rfl, by first | exact T.out | (rw [hv1]; exact T.out)⟩
theorem forgetLost_any (b room : Nat) (u : Un) (x : Value) (O : Nat → Prop) (v : Int) (w : World) (hv : 0 ≤ v ∧ v < 4294967296) (h : UW w b room u x O) :
    Calls Try.prog 45 #[me b, .int .u32 v] w fun r w' => r = .returned (.tuple #[]) ∧ ∃ O', UW w' b room (writeU u 3 v) x O' ∧ Only O w w' ∧ ∀ j, O' j → O j ∨ w.heap.size ≤ j := by
  obtain ⟨p, q, A, B, h, e⟩ := h
  have c0 : w.cell? ⟨b, 0, none⟩ = some (.int .u32 (lostU u)) := h.blk.at 0 rfl
  have f0 := h.blk.frozen 0
  have T := Lib.hid (show ∃ O', UW (w.setCell ⟨b, 0, none⟩ (.int .u32 0)) b room (writeU u 3 v) x O' ∧ Only O w (w.setCell ⟨b, 0, none⟩ (.int .u32 0)) ∧ ∀ j, O' j → O j ∨ w.heap.size ≤ j from
    ⟨O, ⟨p, q, A, B, h.toCell (u' := writeU u 3 v) 0 (.int .u32 0) rfl (okU_write h.ok 3 v) rfl rfl, e⟩, (Only.refl O w).setCell (p := ⟨b, 0, none⟩) ((e b).2 (.inl rfl)) _, fun j hj => .inl hj⟩)
  clear h e hv
  go_enter Try.func45, Try.ntmps45
  go_wp2_with fail
  go_end0
  exact ⟨rfl, T.out⟩
end Go.Proofs.Ythdcealhhmfgcaa.Uart
