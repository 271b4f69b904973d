/- Package scrub: what is told of a row, and of none. -/
import Derived.Test.YtmdepkehpohgeaaS6wg
namespace Go.Proofs.Ytmdepkehpohgeaa.Scr
open Go.RowKit Go.Maps Go.ChangeShapes Go.WideShapes Go.ChangeAt Fifo Orow Word
set_option linter.unusedVariables false
attribute [local go_sem] Oper.semAt_some

section
variable (Bk b : Nat) (s : RS) (O : Nat → Prop)
theorem Len_any (w : World) (h : Row Bk w b s O) :
    Calls Try.prog 18 #[.pointer (some ⟨b, 0, none⟩)] w fun e w' => e = .returned (.int .i64 (s.H.length : Nat)) ∧ Below w.heap.size w w' := by
  obtain ⟨a, c, L, hi, -⟩ := h
  have q0 := hi.blk.at 0 rfl
  rw [hi.len] at q0
  have RY := Lib.hid (row_yes b w (hi.blk.at 1 rfl))
  obtain ⟨m, hm⟩ : ∃ m, s.H.length = m := ⟨_, rfl⟩
  rw [hm] at q0 ⊢
  clear hi hm
  go_enter Try.func18, Try.ntmps18
  go_wp2_with fail
  refine RY.out.mono ?_
  rintro e w1 ⟨rfl, rfl⟩
  clear RY
  go_wp2_with fail
  go_ret
  exact ⟨rfl, Below.refl _ _⟩
/-- What at tells of a row. -/
theorem at_row (n : Int) (w : World) (h1 : I64 n) (a : Option Addr) (c : Nat) (L : List Hk) (hi : InB w b s a c L) :
    ∃ kk, Calls Try.prog 28 #[.slice a L.length c, .int .i64 n] w fun e w' => e = .returned (.tuple #[.agg #[.int .i64 (holdV s n).1.o, .int .i64 (holdV s n).1.l, .int .i64 (holdV s n).1.n, .int .i64 kk], .bool (isN s n)]) ∧ Below w.heap.size w w' := by
  by_cases hN : isN s n = true
  · obtain ⟨n0, n1⟩ := isN_iff.1 hN
    obtain ⟨k, rfl⟩ : ∃ k : Nat, n = (k : Nat) := ⟨n.toNat, by omega⟩
    have hk : k < L.length := by rw [hi.len]; omega
    obtain ⟨g, rfl, hc⟩ := hi.cells hk
    obtain ⟨e, he⟩ : ∃ e, L[k]! = e := ⟨_, rfl⟩
    rw [he] at hc
    obtain ⟨o, l, nn, kk⟩ := e
    have hat : at' s (k : Nat) = ⟨o, l, nn⟩ := by
      show s.H[(k : Int).toNat]! = _
      rw [Int.toNat_natCast, ← (hi.at hk).1, he]; rfl
    refine ⟨kk, ?_⟩
    unfold holdV
    rw [hN, hat]
    exact at_yes g k L.length c o l nn kk w hk hc
  · refine ⟨0, ?_⟩
    have hf : isN s n = false := by cases hh : isN s n; rfl; exact absurd hh hN
    unfold holdV
    rw [hf]
    exact at_no n a L.length c w (isN_no hi.len hN)
theorem Hold_any (n : Int) (w : World) (h1 : I64 n) (h : Row Bk w b s O) :
    Calls Try.prog 13 #[.pointer (some ⟨b, 0, none⟩), .int .i64 n] w fun e w' => e = .returned (.tuple #[.agg #[.int .i64 (holdV s n).1.o, .int .i64 (holdV s n).1.l, .int .i64 (holdV s n).1.n], .bool (holdV s n).2]) ∧ Below w.heap.size w w' := by
  obtain ⟨a, c, L, hi, -⟩ := h
  obtain ⟨M, hM⟩ : ∃ M, M = w.alloc (.cells #[.int .i64 0, .int .i64 0, .int .i64 0] 41) := ⟨_, rfl⟩
  have BM := Lib.hid (show Below w.heap.size w M by rw [hM]; exact (Below.refl _ _).alloc (Nat.le_refl _) _)
  have Z0 := Lib.hid (show Blk M w.heap.size 41 [.int .i64 0, .int .i64 0, .int .i64 0] by rw [hM]; exact Blk.new w _ [.int .i64 0, .int .i64 0, .int .i64 0])
  have hi' := hi.keep BM.out
  obtain ⟨kk, ha⟩ := at_row b s n M h1 a c L hi'
  have q0 := hi'.blk.at 0 rfl
  have RY := Lib.hid (row_yes b M (hi'.blk.at 1 rfl))
  have h2 : (holdV s n).2 = isN s n := by unfold holdV; cases isN s n <;> rfl
  rw [h2]
  obtain ⟨q, hq⟩ : ∃ q, isN s n = q := ⟨_, rfl⟩
  obtain ⟨hd, hhd⟩ : ∃ hd, (holdV s n).1 = hd := ⟨_, rfl⟩
  rw [hq, hhd] at ha
  rw [hq, hhd]
  obtain ⟨o, l, nn⟩ := hd
  have HA := Lib.hid ha
  have HM := Lib.hid hM
  rw [hM] at HA RY q0
  clear hi hi' ha hM h1 h2 hq hhd
  go_enter Try.func13, Try.ntmps13
  go_wp2_with fail
  refine RY.out.mono ?_
  rintro e w1 ⟨rfl, rfl⟩
  clear RY
  go_wp2_with fail
  refine HA.out.mono ?_
  rintro e w2 ⟨rfl, hb⟩
  rw [← HM.out] at hb
  have B2 := Lib.hid (BM.out.trans (hb.mono BM.out.size))
  have Z2 := Lib.hid (Z0.out.keep hb)
  have S2 := Lib.hid hb.size
  clear hb HA
  go_wp2_with (with_reducible refine at_st 41 _ _ rfl ?_)
  refine Lib.hid ?_
  refine store_all rfl _ _ _ rfl w.heap.size [.int .i64 o, .int .i64 l, .int .i64 nn] rfl rfl _ _ (Z2.out.alloc _) (by kernel_rfl) rfl (by simp [Value.oneCell']) ?_
  intro X hX hoX
  go_wp2_with fail
  have r0 := hX.at 0 rfl
  have r1 := hX.at 1 rfl
  have r2 := hX.at 2 rfl
  refine bodyPost_ret (v := .tuple #[.agg #[.int .i64 o, .int .i64 l, .int .i64 nn], .bool q]) ?_ rfl ⟨rfl, (B2.out.alloc B2.out.size _).trans (hoX.below (by have := S2.out; have := BM.out.size; simp; omega) (fun j e => by have e : j = w.heap.size := e; omega))⟩
  simp [results, Try.results13, go_sem, r0, r1, r2]
theorem Owner_any (n : Int) (w : World) (h1 : I64 n) (h : Row Bk w b s O) :
    Calls Try.prog 12 #[.pointer (some ⟨b, 0, none⟩), .int .i64 n] w fun e w' => e = .returned (.tuple #[.int .i64 (ownerV s n).1, .bool (ownerV s n).2]) ∧ Below w.heap.size w w' := by
  obtain ⟨a, c, L, hi, -⟩ := h
  obtain ⟨kk, ha⟩ := at_row b s n w h1 a c L hi
  have q0 := hi.blk.at 0 rfl
  have RY := Lib.hid (row_yes b w (hi.blk.at 1 rfl))
  have ho : ownerV s n = if isN s n && !((holdV s n).1.o == -1) then ((holdV s n).1.o, true) else (0, false) := by
    unfold ownerV holdV
    by_cases hN : isN s n = true
    · have hk := isN_iff.1 hN
      have hok := (hi.ok.hol n.toNat (by omega)).2.1.1
      have hok : -1 ≤ (at' s n).o := hok
      rw [hN, Bool.true_and, Bool.true_and, if_pos rfl]
      by_cases he : (at' s n).o = -1
      · rw [decide_eq_false (by omega), beq_iff_eq.2 he]; rfl
      · rw [decide_eq_true (by omega), beq_eq_false_iff_ne.2 he]; rfl
    · have hf : isN s n = false := by cases hh : isN s n; rfl; exact absurd hh hN
      rw [hf]; rfl
  rw [ho]
  obtain ⟨q, hq⟩ : ∃ q, isN s n = q := ⟨_, rfl⟩
  obtain ⟨hd, hhd⟩ : ∃ hd, (holdV s n).1 = hd := ⟨_, rfl⟩
  rw [hq, hhd] at ha
  rw [hq, hhd]
  obtain ⟨o, l, nn⟩ := hd
  have OW := Lib.hid (fun w => owned_any o l nn kk w)
  obtain ⟨ob, hob⟩ : ∃ ob, (!(o == -1)) = ob := ⟨_, rfl⟩
  show Calls _ _ _ _ fun e w' => e = .returned (.tuple #[.int .i64 (if q && (!(o == -1)) then (o, true) else (0, false)).1, .bool (if q && (!(o == -1)) then (o, true) else (0, false)).2]) ∧ Below w.heap.size w w'
  rw [hob] at OW ⊢
  have HA := Lib.hid ha
  clear hi ha h1 hq hhd ho hob
  cases q with
  | false =>
    go_enter Try.func12, Try.ntmps12
    go_wp2_with fail
    refine RY.out.mono ?_
    rintro e w1 ⟨rfl, rfl⟩
    clear RY
    go_wp2_with fail
    refine HA.out.mono ?_
    rintro e w2 ⟨rfl, hb⟩
    have B2 := Lib.hid (hb.alloc hb.size (.cells #[.int .i64 o, .int .i64 l, .int .i64 nn, .int .i64 kk] 64))
    clear hb HA
    go_wp2_with fail
    go_ret2
    exact ⟨rfl, B2.out⟩
  | true =>
    cases ob
    all_goals
      go_enter Try.func12, Try.ntmps12
      go_wp2_with fail
      refine RY.out.mono ?_
      rintro e w1 ⟨rfl, rfl⟩
      clear RY
      go_wp2_with fail
      refine HA.out.mono ?_
      rintro e w2 ⟨rfl, hb⟩
      have B2 := Lib.hid (hb.alloc hb.size (.cells #[.int .i64 o, .int .i64 l, .int .i64 nn, .int .i64 kk] 64))
      have K2 := Lib.hid (Blk.new w2 64 [.int .i64 o, .int .i64 l, .int .i64 nn, .int .i64 kk])
      clear hb HA
      go_wp2_with fail
      refine (OW.out _).mono ?_
      rintro e w3 ⟨rfl, hb⟩
      have B3 := Lib.hid (B2.out.trans (hb.mono B2.out.size))
      have z0 := (K2.out.keep hb).at 0 rfl
      have z1 := (K2.out.keep hb).at 1 rfl
      have z2 := (K2.out.keep hb).at 2 rfl
      have z3 := (K2.out.keep hb).at 3 rfl
      clear hb K2
      go_wp2_with fail
      go_ret2
      exact ⟨rfl, B3.out⟩
theorem Of_any (x : Int) (w : World) (h1 : I64 x) (h : Row Bk w b s O) :
    Calls Try.prog 16 #[.pointer (some ⟨b, 0, none⟩), .int .i64 x] w fun e w' => (∃ a c, e = .returned (.slice a (ofV s x).length c) ∧ w'.ownsRow w.heap.size 3 1 (.slice a (ofV s x).length c) (ofV s x).length (Word.iv (ofV s x))) ∧ Below w.heap.size w w' := by
  obtain ⟨a, c, L, hi, -⟩ := h
  refine (Of_core b c a s L x w hi).mono ?_
  rintro e w' ⟨⟨v, rfl, hr⟩, hb⟩
  obtain ⟨a', c', rfl, -, -⟩ := Orow.own_shape hr
  exact ⟨⟨a', c', rfl, hr⟩, hb⟩
theorem Tick_any (w : World) (h : Row Bk w b s O) :
    Calls Try.prog 15 #[.pointer (some ⟨b, 0, none⟩)] w fun e w' => ∃ a c O', e = .returned (.slice a (doneV s).length c) ∧ w'.ownsRow w.heap.size 3 1 (.slice a (doneV s).length c) (doneV s).length (Word.iv (doneV s)) ∧ Row Bk w' b (tickV s) O' ∧ Only O w w' ∧ (∀ j, O' j → O j ∨ w.heap.size ≤ j) ∧ ∀ j, PB (.slice a (doneV s).length c) j → ¬ O' j := by
  have hlt := h.lt
  obtain ⟨a, c, L, hi, h1, h2, h3⟩ := h
  refine (Tick_core b c a s L w hi).mono ?_
  rintro e w' ⟨⟨v, rfl, hr⟩, hin, hon⟩
  obtain ⟨a', c', rfl, -, -⟩ := Orow.own_shape hr
  refine ⟨a', c', O, rfl, hr, ⟨a, c, _, hin, h1, h2, h3⟩, hon.mono (fun j _ hj => (h3 j).2 (.inr hj)), fun j hj => .inl hj, fun j hj hO => ?_⟩
  have e1 := (World.ownsRow.lt hr j hj).1
  have e2 := (hlt j hO).2
  omega
theorem All_any (w : World) (h : Row Bk w b s O) :
    Calls Try.prog 17 #[.pointer (some ⟨b, 0, none⟩)] w fun e w' => (∃ a c, e = .returned (.slice a s.H.length c) ∧ w'.ownsRow w.heap.size 41 3 (.slice a s.H.length c) s.H.length (flHd s.H)) ∧ Below w.heap.size w w' := by
  obtain ⟨a, c, L, hi, -⟩ := h
  refine (All_core b c a s L w hi).mono ?_
  rintro e w' ⟨⟨v, rfl, hr⟩, hb⟩
  obtain ⟨a', c', rfl, -, -⟩ := Orow.own_shape hr
  exact ⟨⟨a', c', rfl, hr⟩, hb⟩
end
end Go.Proofs.Ytmdepkehpohgeaa.Scr
