/- run: deeds, done; what they leave as it was. -/
import Derived.Test.YtmdepkehpohgeaaS6l
import Derived.Test.YtmdepkehpohgeaaPk
namespace Go.Proofs.Ytmdepkehpohgeaa.Scr
open Go.RowKit Go.Maps Go.ChangeShapes Go.WideShapes Go.ChangeAt Fifo Orow Word
set_option linter.unusedVariables false

/-- One deed (t: ticks count). -/
inductive Step (t : Bool) (s : RS) : RS → Prop
  | give (n x : Int) : Step t s (giveV s n x).2
  | take (n : Int) : Step t s (takeV s n).2
  | move (n x : Int) : Step t s (moveV s n x).2
  | tick : t = true → Step t s (tickV s)
  | none : Step t s s
inductive Runs (t : Bool) (s : RS) : RS → Prop
  | nil : Runs t s s
  | cons {s1 s2 : RS} : Runs t s s1 → Step t s1 s2 → Runs t s s2
theorem give_K (s : RS) (n w : Int) : (giveV s n w).2.K = s.K := by
  unfold giveV setH; split
  · split <;> rfl
  · rfl
theorem taken_K (s : RS) (n w : Int) : (takenV s n w).2.K = s.K := by
  unfold takenV setH; split
  · rfl
  split <;> rfl
theorem take_K (s : RS) (n : Int) : (takeV s n).2.K = s.K := by
  unfold takeV; split
  · exact taken_K s n _
  · rfl
theorem move_K (s : RS) (n w : Int) : (moveV s n w).2.K = s.K := by
  unfold moveV; split
  · exact taken_K s n _
  · rfl
theorem Step.K {t : Bool} {s s' : RS} (h : Step t s s') : s'.K = s.K := by
  cases h
  · exact give_K _ _ _
  · exact take_K _ _
  · exact move_K _ _ _
  · rfl
  · rfl
theorem Step.len {t : Bool} {s s' : RS} (h : Step t s s') : s'.H.length = s.H.length := by
  cases h
  · exact len_give _ _ _
  · exact len_take _ _
  · exact len_move _ _ _
  · simp [tickV]
  · rfl
theorem Runs.K {t : Bool} {s s' : RS} (h : Runs t s s') : s'.K = s.K := by
  induction h with
  | nil => rfl
  | cons _ k ih => exact k.K.trans ih
theorem Runs.len {t : Bool} {s s' : RS} (h : Runs t s s') : s'.H.length = s.H.length := by
  induction h with
  | nil => rfl
  | cons _ k ih => exact k.len.trans ih
/-- What is set elsewhere stays. -/
theorem at_setH {s : RS} {n : Int} {h : Hd} {k : Nat} (hk : k < s.H.length) (hn : n.toNat ≠ k) : (setH s n h).H[k]! = s.H[k]! := by
  show (s.H.set n.toNat h)[k]! = _
  rw [get_set hk, if_neg hn]
theorem busy_ne {h : Hd} (hb : 0 < h.l) : h ≠ freeH := fun e => by rw [e] at hb; exact absurd hb (by decide)
/-- What is scrubbed is touched by no deed but a tick. -/
theorem give_busy {s : RS} {n x : Int} {k : Nat} (hk : k < s.H.length) (hb : 0 < s.H[k]!.l) : (giveV s n x).2.H[k]! = s.H[k]! := by
  unfold giveV
  split
  · rename_i c
    split
    · rename_i e
      refine at_setH hk (fun h => ?_)
      unfold at' at e
      rw [h] at e
      exact busy_ne hb e
    · rfl
  · rfl
theorem taken_busy {s : RS} {n x : Int} {k : Nat} (hk : k < s.H.length) (hb : 0 < s.H[k]!.l) : (takenV s n x).2.H[k]! = s.H[k]! := by
  unfold takenV
  split
  · rfl
  split
  · rfl
  · rename_i e
    refine at_setH hk (fun h => ?_)
    unfold at' at e
    rw [h] at e
    exact e hb
theorem take_busy {s : RS} {n : Int} {k : Nat} (hk : k < s.H.length) (hb : 0 < s.H[k]!.l) : (takeV s n).2.H[k]! = s.H[k]! := by
  unfold takeV; split
  · exact taken_busy hk hb
  · rfl
theorem move_busy {s : RS} {n x : Int} {k : Nat} (hk : k < s.H.length) (hb : 0 < s.H[k]!.l) : (moveV s n x).2.H[k]! = s.H[k]! := by
  unfold moveV; split
  · exact taken_busy hk hb
  · rfl
theorem Runs.busy {s s' : RS} (h : Runs false s s') {k : Nat} (hk : k < s.H.length) (hb : 0 < s.H[k]!.l) : s'.H[k]! = s.H[k]! := by
  induction h with
  | nil => rfl
  | cons r q ih =>
    have hl := r.len
    have hb1 := hb
    rw [← ih] at hb1
    rw [← ih]
    cases q with
    | give n x => exact give_busy (by rw [hl]; exact hk) hb1
    | take n => exact take_busy (by rw [hl]; exact hk) hb1
    | move n x => exact move_busy (by rw [hl]; exact hk) hb1
    | tick h => cases h
    | none => rfl
theorem Left.trans {Bk : Nat} {w w1 w2 : World} {b : Nat} {s2 : RS} {O O1 : Nat → Prop} (h2 : Only O w w1) (h3 : ∀ j, O1 j → O j ∨ w.heap.size ≤ j) (k : Left Bk w1 w2 b s2 O1) : Left Bk w w2 b s2 O := by
  obtain ⟨O2, k1, k2, k3⟩ := k
  refine ⟨O2, k1, ⟨k2.os.trans h2.os, k2.tape.trans h2.tape, k2.output.trans h2.output, Nat.le_trans h2.size k2.size, fun j hj hn => ?_⟩, fun j hj => (k3 j hj).elim (h3 j) (fun e => .inr (Nat.le_trans h2.size e))⟩
  exact (k2.block j (Nat.lt_of_lt_of_le hj h2.size) (fun e => (h3 j e).elim hn (fun q => by omega))).trans (h2.block j hj hn)
theorem Left.drew {Bk : Nat} {w w' : World} {b : Nat} {s : RS} {O : Nat → Prop} (k : Left Bk w.drew w' b s O) : Left Bk w w' b s O := by
  obtain ⟨O2, k1, k2, k3⟩ := k
  exact ⟨O2, k1, ⟨k2.os, k2.tape, k2.output, k2.size, k2.block⟩, k3⟩
theorem Left.self {Bk : Nat} {w w' : World} {b : Nat} {s : RS} {O : Nat → Prop} (h : Row Bk w b s O) (hb : Below w.heap.size w w') : Left Bk w w' b s O := ⟨O, h.keep hb, Only.of_below hb, fun j hj => .inl hj⟩
theorem only_below {S : Nat → Prop} {B : Nat} {w0 w w' : World} (h : Below B w0 w) (ho : Only S w w') (hB : B ≤ w.heap.size) (hS : ∀ j, S j → B ≤ j) : Below B w0 w' := h.trans (ho.below hB hS)
set_option maxRecDepth 100000 in
set_option maxHeartbeats 8000000 in
theorem run_any (Bk b : Nat) (s : RS) (O : Nat → Prop) (a : Option Addr) (len cap : Nat) (l : List Dd) (t : Bool) (w0 w : World) (hr : RowDd w0 a len l) (h200 : len ≤ 200) (hb : Below w0.heap.size w0 w) (hO : ∀ j, O j → w0.heap.size ≤ j) (h : Row Bk w b s O) :
    Calls Try.prog 7 #[at0 b, .slice a len cap, .bool t] w fun z w' => z = .returned (.tuple #[]) ∧ ∃ s', Runs t s s' ∧ Left Bk w w' b s' O := by
  have HR := Lib.hid hr
  have H200 := Lib.hid h200
  have HB := Lib.hid hb
  have HO := Lib.hid hO
  have H := Lib.hid h
  clear hr h200 hb hO h
  go_enter Try.func7, Try.ntmps7
  go_wp2_with fail
  go_loopw [6] (fun i wr => ∃ (q : Nat) (s' : RS), q ≤ len ∧ i = .int .i64 (q : Nat) ∧ Runs t s s' ∧ Left Bk w wr b s' O) (fun i _ => len - (intOf i).toNat)
  case atStart => exact ⟨0, s, Nat.zero_le _, rfl, .nil, Left.self H.out (Below.refl _ _)⟩
  case round =>
  obtain ⟨q, s', hq, rfl, hrn, O', hrw, ho, hO'⟩ := hrel
  have HRn := Lib.hid hrn
  have HRw := Lib.hid hrw
  have Ho := Lib.hid ho
  have HO1 := Lib.hid hO'
  have HW := Lib.hid (only_below HB.out ho HB.out.size HO.out)
  have L1 := Lib.hid (And.intro ho hO')
  have HBB := Lib.hid (show ∀ w2 s2, Left Bk wr.drew w2 b s2 O' → Below w0.heap.size w0 w2 from fun w2 s2 k => by
    obtain ⟨O2, k1, k2, k3⟩ := k
    exact only_below (HW.out.trans (Below.refl _ _).drew) k2 HW.out.size (fun j hj => (hO' j hj).elim (HO.out j) (fun e => Nat.le_trans HB.out.size e)))
  clear hrn hrw ho hO' Ho HO1
  by_cases hlt : q < len
  · have d1 : decide ((q : Int) < (len : Int)) = true := decide_eq_true (by omega)
    have d1' : decide (q < len) = true := decide_eq_true hlt
    have i1 : (0 : Int) ≤ (q : Int) := by omega
    have i2 : (q : Int) < (len : Int) := by omega
    have wk : IntKind.i64.wrap ((q : Int) + 1) = (q : Int) + 1 := IntWalk.i64_in _ (by have := H200.out; omega)
    obtain ⟨lb, off, rfl, ce⟩ := HR.out.2.2 q hlt
    have hok := HR.out.2.1 q hlt
    obtain ⟨x, hx⟩ : ∃ x, l[q]! = x := ⟨_, rfl⟩
    rw [hx] at ce hok
    have CE := Lib.hid (ce.keep HW.out)
    have CE0 := Lib.hid ce
    obtain ⟨xw, xn, xo⟩ := x
    have Hok := Lib.hid hok
    have Hlt := Lib.hid hlt
    obtain ⟨p, hp, hpk⟩ := Pk.pick_is xw 5 (by decide) (by decide)
    have HK := Lib.hid hpk
    have c0 := CE.out.c0
    clear hx ce hok hpk hlt hq
    go_wp2_with fail
    refine (HK.out wr).mono ?_
    rintro e w1 ⟨rfl, rfl⟩
    clear c0 HK
    have hc : p = 0 ∨ p = 1 ∨ p = 2 ∨ p = 3 ∨ p = 4 := by omega
    clear hp
    have cS0 : ∀ w', Below w0.heap.size w0 w' → w'.cell? ⟨lb, off + q * 3, none⟩ = some (.int .i64 xw) := fun w' h => (CE0.out.keep h).c0
    have cS1 : ∀ w', Below w0.heap.size w0 w' → w'.cell? ⟨lb, off + q * 3 + 1, none⟩ = some (.int .i64 xn) := fun w' h => (CE0.out.keep h).c1
    have cS2 : ∀ w', Below w0.heap.size w0 w' → w'.cell? ⟨lb, off + q * 3 + 2, none⟩ = some (.int .i64 xo) := fun w' h => (CE0.out.keep h).c2
    have SD : Below w0.heap.size w0 wr.drew := HW.out.trans (Below.refl _ _).drew
    rcases hc with rfl | rfl | rfl | rfl | rfl
    · -- 0
      have HG := Lib.hid (Give_any Bk b s' O' xn xo wr.drew Hok.out.2.1 Hok.out.2.2 (HRw.out.keep (Below.refl _ _).drew))
      go_wp2_with fail
      try simp only [Act.put, List.append]
      go_region_held3 (fun w' => Below w0.heap.size w0 w')
        (first | assumption)
        (first | (go_at_call 14; refine HG.out.mono ?_; rintro e w2 ⟨rfl, k⟩; have L2 := Lib.hid (Left.trans L1.out.1 L1.out.2 (Left.drew k)); have hbS : Below w0.heap.size w0 w2 := HBB.out _ _ k))
      all_goals
        clear cS0 cS1 cS2 SD HG
        go_wp2_with fail
        exact ⟨⟨q + 1, _, Hlt.out, by go_num, .cons HRn.out (.give _ _), L2.out⟩, by have := Hlt.out; simp [intOf]; omega⟩
    · -- 1
      have c1 := CE.out.c1
      go_wp2_with fail
      refine (Take_any Bk b s' O' xn wr Hok.out.2.1 HRw.out).mono ?_
      rintro e w2 ⟨rfl, k⟩
      have L2 := Lib.hid (Left.trans L1.out.1 L1.out.2 k)
      clear k c1 cS0 cS1 cS2 SD
      go_wp2_with fail
      exact ⟨⟨q + 1, _, Hlt.out, by go_num, .cons HRn.out (.take _), L2.out⟩, by have := Hlt.out; simp [intOf]; omega⟩
    · -- 2
      have HG := Lib.hid (Move_any Bk b s' O' xn xo wr.drew Hok.out.2.1 Hok.out.2.2 (HRw.out.keep (Below.refl _ _).drew))
      go_wp2_with fail
      try simp only [Act.put, List.append]
      go_region_held3 (fun w' => Below w0.heap.size w0 w')
        (first | assumption)
        (first | (go_at_call 10; refine HG.out.mono ?_; rintro e w2 ⟨rfl, k⟩; have L2 := Lib.hid (Left.trans L1.out.1 L1.out.2 (Left.drew k)); have hbS : Below w0.heap.size w0 w2 := HBB.out _ _ k))
      all_goals
        clear cS0 cS1 cS2 SD HG
        go_wp2_with fail
        exact ⟨⟨q + 1, _, Hlt.out, by go_num, .cons HRn.out (.move _ _), L2.out⟩, by have := Hlt.out; simp [intOf]; omega⟩
    · -- 3
      have HG := Lib.hid (Move_any Bk b s' O' xn xo wr.drew Hok.out.2.1 Hok.out.2.2 (HRw.out.keep (Below.refl _ _).drew))
      go_wp2_with fail
      try simp only [Act.put, List.append]
      go_region_held3 (fun w' => Below w0.heap.size w0 w')
        (first | assumption)
        (first | (go_at_call 10; refine HG.out.mono ?_; rintro e w2 ⟨rfl, k⟩; have L2 := Lib.hid (Left.trans L1.out.1 L1.out.2 (Left.drew k)); have hbS : Below w0.heap.size w0 w2 := HBB.out _ _ k))
      all_goals
        clear cS0 cS1 cS2 SD HG
        go_wp2_with fail
        exact ⟨⟨q + 1, _, Hlt.out, by go_num, .cons HRn.out (.move _ _), L2.out⟩, by have := Hlt.out; simp [intOf]; omega⟩
    · -- 4
      cases t with
      | true =>
        go_wp2_with fail
        refine (Tick_any Bk b s' O' wr HRw.out).mono ?_
        rintro e w2 ⟨ta, tc, O2, rfl, hr, k1, k2, k3, k4⟩
        have L2 := Lib.hid (Left.trans L1.out.1 L1.out.2 ⟨O2, k1, k2, k3⟩)
        clear hr k1 k2 k3 k4
        go_wp2_with fail
        exact ⟨⟨q + 1, _, Hlt.out, by go_num, .cons HRn.out (.tick rfl), L2.out⟩, by have := Hlt.out; simp [intOf]; omega⟩
      | false =>
        have L2 := Lib.hid (Left.trans L1.out.1 L1.out.2 (Left.self HRw.out (Below.refl _ _)))
        go_wp2_with fail
        exact ⟨⟨q + 1, _, Hlt.out, by go_num, .cons HRn.out .none, L2.out⟩, by have := Hlt.out; simp [intOf]; omega⟩
  · have d1 : decide ((q : Int) < (len : Int)) = false := decide_eq_false (by omega)
    have d1' : decide (q < len) = false := decide_eq_false hlt
    have L2 := Lib.hid (Left.trans L1.out.1 L1.out.2 (Left.self HRw.out (Below.refl _ _)))
    clear hlt hq
    go_wp2_with fail
    go_end0
    exact ⟨rfl, _, HRn.out, L2.out⟩
end Go.Proofs.Ytmdepkehpohgeaa.Scr
