/- The document's uart: Write, Tick, Read. -/
import Derived.Test.YthdcealhhmfgcaaQr
namespace Go.Proofs.Ythdcealhhmfgcaa.Uart
open Go.RowKit Go.Maps Go.ChangeShapes Go.WideShapes Go.ChangeAt Fifo Orow Word OffB
set_option linter.unusedVariables false

theorem beq_no {a b : Int} (h : ¬ a = b) : (a == b) = false := by simpa using h
set_option maxHeartbeats 1000000 in
theorem rWrite_any (r : Nat) (u : Un) (O : Nat → Prop) (reg v : Int) (w : World) (hv : 0 ≤ v ∧ v < 4294967296) (h : RefU w r u O) :
    Calls Try.prog 13 #[.pointer (some ⟨r, 0, none⟩), .int .i64 reg, .int .u32 v] w fun e w' => e = .returned (.tuple #[]) ∧ ∃ O', RefU w' r (writeU u reg v) O' ∧ Only O w w' ∧ ∀ j, O' j → O j ∨ w.heap.size ≤ j := by
  have h0 := h
  obtain ⟨va, vb, h, hO⟩ := h
  obtain ⟨a, c, hv2⟩ := h.goes.shape
  subst hv2
  have HO := Lib.hid hO
  clear hO
  have hok := okU_write h.ok reg v
  have q1 := h.head.at 1 rfl
  have u1 := h.head.frozen 1
  rw [bvl] at q1
  have hlen := h.ok.goes.2
  unfold writeU at hok ⊢
  by_cases z0 : reg = 0
  · subst z0
    rw [if_pos rfl] at hok ⊢
    by_cases h8 : u.Goes.length = 8
    · rw [if_pos h8] at hok ⊢
      have e8 : ((u.Goes.length : Int) == 8) = true := by rw [h8]; rfl
      have q3 := h.head.at 3 rfl
      have u3 := h.head.frozen 3
      have P := Lib.hid (h.put (u' := { u with LO := true }) 3 (.bool true) rfl rfl rfl hok)
      clear h hok h8 hlen h0
      go_enter Try.func13, Try.ntmps13
      go_wp2_with fail
      first | go_end0 | refine bodyPost_ret (results_none rfl _ _ _) rfl ?_
      rw [HO.out]
      exact ⟨rfl, _, ⟨_, _, P.out.1, rfl⟩, P.out.2.mono (fun j _ e => .inl e), fun j hj => .inl hj⟩
    · rw [if_neg h8] at hok ⊢
      have e8 : ((u.Goes.length : Int) == 8) = false := beq_no (by omega)
      have w8 : IntKind.u8.wrap (v % 256) = v % 256 := IntWalk.u8_in _ (by omega)
      obtain ⟨x, hx⟩ : ∃ x, v % 256 = x := ⟨_, rfl⟩
      rw [hx] at hok
      have H := Lib.hid h
      have Hok := Lib.hid hok
      have Hlen := Lib.hid hlen
      have Hx := Lib.hid hx
      clear h hok h8 hlen h0 hx
      go_enter Try.func13, Try.ntmps13
      go_wp2_with (at_builtin; refine wpList_append_off _ rfl _ _ rfl (.slice a (bv u.Goes).length c) (bv u.Goes) (by rw [bvl]; rfl) (H.out.goes.keep ((Below.refl _ _).alloc (Nat.le_refl _) _)) (by rw [bvl]; have := Hlen.out; omega) ⟨w.heap.size, 0, none⟩ 1 (.int .u8 (v % 256)) rfl (cell_one_new _ _ _) rfl ?_; intro v' w5 h1 h2 h4; obtain ⟨a5, c5, hv5⟩ := h1.shape; subst hv5; have H1 := Lib.hid h1; have H2 := Lib.hid h2; have H4 := Lib.hid h4; have B5 := (H.out.head.keep ((Below.refl _ _).alloc (Nat.le_refl _) (.cells #[.int .u8 (v % 256)] 5))).only h2 (fun hp => H.out.ne.2 r hp rfl); have r1 := B5.at 1 rfl; have u1 := B5.frozen 1; have HB5 := Lib.hid B5; clear h1 h2 h4 B5)
      go_end0
      have h1 := H1.out
      have h4 := H4.out
      have e : bv u.Goes ++ [Value.int .u8 (v % 256)] = bv (u.Goes ++ [v % 256]) := by simp [bv]
      have e2 : (bv u.Goes ++ [Value.int .u8 (v % 256)]).length = u.Goes.length + 1 := by simp [bv]
      rw [e2] at h1 h4
      rw [e] at h1
      have hb := H.out.goes_set ((Below.refl _ _).alloc (Nat.le_refl _) _) h1 H2.out h4 (by rw [Hx.out]; exact Hok.out)
      rw [HO.out]
      exact ⟨rfl, hb⟩
  · rw [if_neg z0] at hok ⊢
    have e0 := beq_no z0
    by_cases z2 : reg = 2
    · subst z2
      rw [if_pos rfl] at hok ⊢
      have q4 := h.head.at 4 rfl
      have u4 := h.head.frozen 4
      have P := Lib.hid (h.put (u' := { u with C := v % 2 }) 4 (.int .u32 (v % 2)) rfl rfl rfl hok)
      clear h hok hlen h0
      go_enter Try.func13, Try.ntmps13
      go_wp2_with fail
      go_end0
      rw [HO.out]
      exact ⟨rfl, _, ⟨_, _, P.out.1, rfl⟩, P.out.2.mono (fun j _ e => .inl e), fun j hj => .inl hj⟩
    · rw [if_neg z2] at hok ⊢
      have e2 := beq_no z2
      by_cases z3 : reg = 3
      · subst z3
        rw [if_pos rfl] at hok ⊢
        have q2 := h.head.at 2 rfl
        have u2 := h.head.frozen 2
        have P1 := h.put (u' := { u with LI := false }) 2 (.bool false) rfl rfl rfl ⟨h.ok.came, h.ok.goes, h.ok.c, h.ok.p⟩
        have q3 := P1.1.head.at 3 rfl
        have u3 := P1.1.head.frozen 3
        have P2 := P1.1.put (u' := { u with LI := false, LO := false }) 3 (.bool false) rfl rfl rfl hok
        have P := Lib.hid P2.1
        have Q := Lib.hid (P1.2.trans P2.2)
        clear h hok hlen h0 P1 P2
        go_enter Try.func13, Try.ntmps13
        go_wp2_with fail
        go_end0
        rw [HO.out]
        exact ⟨rfl, _, ⟨_, _, P.out, rfl⟩, Q.out.mono (fun j _ e => .inl e), fun j hj => .inl hj⟩
      · rw [if_neg z3] at hok ⊢
        have e3 := beq_no z3
        have H0 := Lib.hid h0
        clear h hok hlen h0
        go_enter Try.func13, Try.ntmps13
        go_wp2_with fail
        go_end0
        exact ⟨rfl, O, H0.out, Only.refl _ _, fun j hj => .inl hj⟩
theorem tick_nil {u : Un} (h : u.P = 3) (hg : u.Goes = []) : tickU u = (0, false, { u with P := 0 }) := by unfold tickU; rw [if_pos h, hg]
theorem tick_cons {u : Un} {b : Int} {t : List Int} (h : u.P = 3) (hg : u.Goes = b :: t) : tickU u = (b, true, { u with P := 0, Goes := t }) := by unfold tickU; rw [if_pos h, hg]
theorem tick_no {u : Un} (h : ¬ u.P = 3) : tickU u = (0, false, { u with P := u.P + 1 }) := by unfold tickU; rw [if_neg h]
set_option maxHeartbeats 1000000 in
theorem rTick_no (r : Nat) (u : Un) (O : Nat → Prop) (w : World) (h : RefU w r u O) (h3 : ¬ u.P = 3) :
    Calls Try.prog 17 #[.pointer (some ⟨r, 0, none⟩)] w fun e w' => e = .returned (.tuple #[.int .u8 0, .bool false]) ∧ ∃ O', RefU w' r { u with P := u.P + 1 } O' ∧ Only O w w' ∧ ∀ j, O' j → O j ∨ w.heap.size ≤ j := by
  obtain ⟨va, vb, h, hO⟩ := h
  have hok := okU_tick h.ok
  rw [tick_no h3] at hok
  have hp := h.ok.p
  have q5 := h.head.at 5 rfl
  have u5 := h.head.frozen 5
  have P1 := h.put (u' := { u with P := u.P + 1 }) 5 (.int .i64 (u.P + 1)) rfl rfl rfl hok
  obtain ⟨p, hp0⟩ : ∃ p, u.P = p := ⟨_, rfl⟩
  rw [hp0] at q5 P1 h3 hp ⊢
  have d0 : decide (0 < p + 1) = true := decide_eq_true (by omega)
  have e4 : (p + 1) % 4 = p + 1 := by omega
  have wp : IntKind.i64.wrap (p + 1) = p + 1 := IntWalk.i64_in _ (by omega)
  have P := Lib.hid P1
  have HO := Lib.hid hO
  clear h hok P1 h3 hO hp0
  go_enter Try.func17, Try.ntmps17
  go_wp2_with fail
  go_ret2
  rw [HO.out]
  exact ⟨rfl, _, ⟨_, _, P.out.1, rfl⟩, P.out.2.mono (fun j _ e => .inl e), fun j hj => .inl hj⟩
set_option maxHeartbeats 1000000 in
theorem rTick_nil (r : Nat) (u : Un) (O : Nat → Prop) (w : World) (h : RefU w r u O) (h3 : u.P = 3) (hg : u.Goes = []) :
    Calls Try.prog 17 #[.pointer (some ⟨r, 0, none⟩)] w fun e w' => e = .returned (.tuple #[.int .u8 0, .bool false]) ∧ ∃ O', RefU w' r { u with P := 0 } O' ∧ Only O w w' ∧ ∀ j, O' j → O j ∨ w.heap.size ≤ j := by
  obtain ⟨va, vb, h, hO⟩ := h
  obtain ⟨a, c, hv2⟩ := h.goes.shape
  subst hv2
  have hok := okU_tick h.ok
  rw [tick_nil h3 hg] at hok
  have q1 := h.head.at 1 rfl
  have q5 := h.head.at 5 rfl
  have u5 := h.head.frozen 5
  rw [bvl, hg, List.length_nil] at q1
  have P1 := h.put (u' := { u with P := 0 }) 5 (.int .i64 0) rfl rfl rfl hok
  rw [h3] at q5
  have P := Lib.hid P1
  have HO := Lib.hid hO
  clear h hok P1 h3 hO hg
  go_enter Try.func17, Try.ntmps17
  go_wp2_with fail
  go_ret2
  rw [HO.out]
  exact ⟨rfl, _, ⟨_, _, P.out.1, rfl⟩, P.out.2.mono (fun j _ e => .inl e), fun j hj => .inl hj⟩
set_option maxHeartbeats 1000000 in
theorem rTick_cons (r : Nat) (u : Un) (O : Nat → Prop) (b : Int) (t : List Int) (w : World) (h : RefU w r u O) (h3 : u.P = 3) (hg : u.Goes = b :: t) :
    Calls Try.prog 17 #[.pointer (some ⟨r, 0, none⟩)] w fun e w' => e = .returned (.tuple #[.int .u8 b, .bool true]) ∧ ∃ O', RefU w' r { u with P := 0, Goes := t } O' ∧ Only O w w' ∧ ∀ j, O' j → O j ∨ w.heap.size ≤ j := by
  obtain ⟨va, vb, h, hO⟩ := h
  have hok := okU_tick h.ok
  rw [tick_cons h3 hg] at hok
  have hoff := h.goes
  rw [hg] at hoff
  obtain ⟨g, off, cap, rfl, hc0, hc1, hgl, hcell⟩ := hoff.lies (by simp [bv])
  have q1 := h.head.at 1 rfl
  have u1 := h.head.frozen 1
  have q5 := h.head.at 5 rfl
  have u5 := h.head.frozen 5
  have k0 := hcell w (Below.refl _ _) 0 (by simp [bv])
  obtain ⟨n, hn⟩ : ∃ n, (bv t).length = n := ⟨_, rfl⟩
  have hbv : bv (b :: t) = .int .u8 b :: bv t := rfl
  rw [hbv] at q1 k0 hc1 hoff
  have P1 := h.put (u' := { u with P := 0 }) 5 (.int .i64 0) rfl rfl rfl ⟨h.ok.came, h.ok.goes, h.ok.c, by show (0 : Int) ≤ 0 ∧ (0 : Int) < 4; omega⟩
  rw [hbv] at P1 hO
  simp only [List.length_cons, hn, Nat.add_zero, List.getElem?_cons_zero] at q1 k0 hc1
  rw [h3] at q5
  have e1 : ¬ (((n + 1 : Nat) : Int) = 0) := by omega
  have e2 : 1 ≤ n + 1 := by omega
  have e3 : n + 1 ≤ cap := hc1
  have e5 : (((n + 1 : Nat) : Int) == 0) = false := beq_no e1
  have hgr : g ≠ r := h.ne.2 g rfl
  have ht := hoff.tail _ rfl
  rw [hn] at ht
  have HT := Lib.hid ht
  have HO := Lib.hid hO
  have Hn := Lib.hid hn
  have P := Lib.hid P1
  have Hok := Lib.hid hok
  clear h hoff hcell ht hn hc1 hO P1 h3 hg hok hbv
  by_cases hcap : cap = 1
  all_goals
    have ht := HT.out
    first
    | rw [if_neg hcap] at ht
    | (rw [if_pos hcap] at ht; subst hcap; obtain rfl : n = 0 := by omega)
    have HT2 := Lib.hid ht
    clear HT ht
    go_enter Try.func17, Try.ntmps17
    go_wp2_with fail
    go_ret2
    rw [HO.out]
    have hT := HT2.out
    obtain ⟨O', k1, k2, k3⟩ := P.out.1.goes_set (Below.refl _ _) (hT.1.only P.out.2 (fun j hj e => hgr ((by have := hT.2 j hj; simp only [PB, Value.ownBlock, Option.some.injEq] at this; exact this.trans e)))) (Only.refl _ _) (fun j hj => .inl (hT.2 j hj)) Hok.out
    exact ⟨rfl, O', k1, (P.out.2.mono (fun j _ e => .inl e)).trans k2, fun j hj => (k3 j hj).imp id (fun e => Nat.le_trans P.out.2.size e)⟩
theorem rTick_any (r : Nat) (u : Un) (O : Nat → Prop) (w : World) (h : RefU w r u O) :
    Calls Try.prog 17 #[.pointer (some ⟨r, 0, none⟩)] w fun e w' => e = .returned (.tuple #[.int .u8 (tickU u).1, .bool (tickU u).2.1]) ∧ ∃ O', RefU w' r (tickU u).2.2 O' ∧ Only O w w' ∧ ∀ j, O' j → O j ∨ w.heap.size ≤ j := by
  by_cases h3 : u.P = 3
  · cases hg : u.Goes with
    | nil => rw [tick_nil h3 hg]; exact rTick_nil r u O w h h3 hg
    | cons b t => rw [tick_cons h3 hg]; exact rTick_cons r u O b t w h h3 hg
  · rw [tick_no h3]; exact rTick_no r u O w h h3
theorem read_nil {u : Un} (hg : u.Came = []) : readU u 0 = (0, u) := by unfold readU; rw [if_pos rfl, hg]
theorem read_cons {u : Un} {b : Int} {t : List Int} (hg : u.Came = b :: t) : readU u 0 = (256 + b, { u with Came := t }) := by unfold readU; rw [if_pos rfl, hg]
theorem read_1 (u : Un) : readU u 1 = (flagsU u, u) := by unfold readU; rw [if_neg (by decide), if_pos rfl]
theorem read_2 (u : Un) : readU u 2 = (u.C, u) := by unfold readU; rw [if_neg (by decide), if_neg (by decide), if_pos rfl]
theorem read_no (u : Un) {reg : Int} (h0 : ¬ reg = 0) (h1 : ¬ reg = 1) (h2 : ¬ reg = 2) : readU u reg = (0, u) := by unfold readU; rw [if_neg h0, if_neg h1, if_neg h2]
theorem rRead_nil (r : Nat) (u : Un) (O : Nat → Prop) (w : World) (h : RefU w r u O) (hg : u.Came = []) :
    Calls Try.prog 11 #[.pointer (some ⟨r, 0, none⟩), .int .i64 0] w fun e w' => e = .returned (.int .u32 0) ∧ w = w' := by
  obtain ⟨va, vb, h, hO⟩ := h
  obtain ⟨a, c, hv2⟩ := h.came.shape
  subst hv2
  have q0 := h.head.at 0 rfl
  rw [bvl, hg, List.length_nil] at q0
  clear h hO hg
  go_enter Try.func11, Try.ntmps11
  go_wp2_with fail
  go_ret
  exact ⟨rfl, rfl⟩
set_option maxHeartbeats 1000000 in
theorem rRead_cons (r : Nat) (u : Un) (O : Nat → Prop) (b : Int) (t : List Int) (w : World) (h : RefU w r u O) (hg : u.Came = b :: t) :
    Calls Try.prog 11 #[.pointer (some ⟨r, 0, none⟩), .int .i64 0] w fun e w' => e = .returned (.int .u32 (256 + b)) ∧ ∃ O', RefU w' r { u with Came := t } O' ∧ Only O w w' ∧ ∀ j, O' j → O j ∨ w.heap.size ≤ j := by
  obtain ⟨va, vb, h, hO⟩ := h
  have hok := okU_read h.ok 0
  rw [read_cons hg] at hok
  have hb := h.ok.came.1 b (by rw [hg]; exact List.mem_cons_self)
  have hoff := h.came
  rw [hg] at hoff
  obtain ⟨g, off, cap, rfl, hc0, hc1, hgl, hcell⟩ := hoff.lies (by simp [bv])
  have q0 := h.head.at 0 rfl
  have u0 := h.head.frozen 0
  have k0 := hcell w (Below.refl _ _) 0 (by simp [bv])
  obtain ⟨n, hn⟩ : ∃ n, (bv t).length = n := ⟨_, rfl⟩
  have hbv : bv (b :: t) = .int .u8 b :: bv t := rfl
  rw [hbv] at q0 k0 hc1 hoff
  have P1 := h
  rw [hbv] at P1 hO
  simp only [List.length_cons, hn, Nat.add_zero, List.getElem?_cons_zero] at q0 k0 hc1
  have e1 : ¬ (((n + 1 : Nat) : Int) = 0) := by omega
  have e2 : 1 ≤ n + 1 := by omega
  have e3 : n + 1 ≤ cap := hc1
  have e5 : (((n + 1 : Nat) : Int) == 0) = false := beq_no e1
  have w1 : IntKind.u32.wrap b = b := IntWalk.u32_in _ (by omega)
  have w2 : IntKind.u32.wrap (256 + b) = 256 + b := IntWalk.u32_in _ (by omega)
  have ht := hoff.tail _ rfl
  rw [hn] at ht
  have HT := Lib.hid ht
  have HO := Lib.hid hO
  have Hn := Lib.hid hn
  have P := Lib.hid P1
  have Hok := Lib.hid hok
  clear h hoff hcell ht hn hc1 hO P1 hg hok hbv
  by_cases hcap : cap = 1
  all_goals
    have ht := HT.out
    first
    | rw [if_neg hcap] at ht
    | (rw [if_pos hcap] at ht; subst hcap; obtain rfl : n = 0 := by omega)
    have HT2 := Lib.hid ht
    clear HT ht
    go_enter Try.func11, Try.ntmps11
    go_wp2_with fail
    go_ret
    rw [HO.out]
    have hT := HT2.out
    obtain ⟨O', k1, k2, k3⟩ := P.out.came_set (Below.refl _ _) hT.1 (Only.refl _ _) (fun j hj => .inl (hT.2 j hj)) Hok.out
    exact ⟨rfl, O', k1, k2, k3⟩
theorem rRead_2 (r : Nat) (u : Un) (O : Nat → Prop) (w : World) (h : RefU w r u O) :
    Calls Try.prog 11 #[.pointer (some ⟨r, 0, none⟩), .int .i64 2] w fun e w' => e = .returned (.int .u32 u.C) ∧ w = w' := by
  obtain ⟨va, vb, h, hO⟩ := h
  have q4 := h.head.at 4 rfl
  clear h hO
  go_enter Try.func11, Try.ntmps11
  go_wp2_with fail
  go_ret
  exact ⟨rfl, rfl⟩
theorem rRead_no (r : Nat) (reg : Int) (w : World) (h0 : ¬ reg = 0) (h1 : ¬ reg = 1) (h2 : ¬ reg = 2) :
    Calls Try.prog 11 #[.pointer (some ⟨r, 0, none⟩), .int .i64 reg] w fun e w' => e = .returned (.int .u32 0) ∧ w = w' := by
  have e0 := beq_no h0
  have e1 := beq_no h1
  have e2 := beq_no h2
  go_enter Try.func11, Try.ntmps11
  go_wp2_with fail
  go_ret
  exact ⟨rfl, rfl⟩
set_option maxHeartbeats 1000000 in
theorem rRead_1 (r : Nat) (u : Un) (O : Nat → Prop) (w : World) (h : RefU w r u O) :
    Calls Try.prog 11 #[.pointer (some ⟨r, 0, none⟩), .int .i64 1] w fun e w' => e = .returned (.int .u32 (flagsU u)) ∧ Below w.heap.size w w' := by
  obtain ⟨va, vb, h, hO⟩ := h
  obtain ⟨a, c, hv⟩ := h.came.shape
  obtain ⟨a2, c2, hv2⟩ := h.goes.shape
  subst hv hv2
  have q0 := h.head.at 0 rfl
  have q1 := h.head.at 1 rfl
  have q2 := h.head.at 2 rfl
  have q3 := h.head.at 3 rfl
  rw [bvl] at q0 q1
  have h1 := h.ok.came.2
  have h2 := h.ok.goes.2
  unfold flagsU
  obtain ⟨n, hn⟩ : ∃ n, u.Came.length = n := ⟨_, rfl⟩
  obtain ⟨m, hm⟩ : ∃ m, u.Goes.length = m := ⟨_, rfl⟩
  rw [hn] at q0 h1 ⊢
  rw [hm] at q1 h2 ⊢
  have w0 : IntKind.u32.wrap (n : Int) = n := IntWalk.u32_in _ (by omega)
  have w1 : IntKind.u32.wrap (m : Int) = m := IntWalk.u32_in _ (by omega)
  have w2 : IntKind.u32.wrap (256 * (m : Int)) = 256 * m := IntWalk.u32_in _ (by omega)
  have w3 : IntKind.u32.wrap ((n : Int) + 256 * (m : Int)) = n + 256 * m := IntWalk.u32_in _ (by omega)
  have w4 : IntKind.u32.wrap ((n : Int) + 256 * (m : Int) + 65536) = n + 256 * m + 65536 := IntWalk.u32_in _ (by omega)
  have w5 : IntKind.u32.wrap ((n : Int) + 256 * (m : Int) + 131072) = n + 256 * m + 131072 := IntWalk.u32_in _ (by omega)
  have w6 : IntKind.u32.wrap ((n : Int) + 256 * (m : Int) + 65536 + 131072) = n + 256 * m + 65536 + 131072 := IntWalk.u32_in _ (by omega)
  clear h hO hn hm
  cases hl : u.LI <;> cases hl2 : u.LO <;> rw [hl] at q2 <;> rw [hl2] at q3 <;> clear hl hl2 <;> simp only [Bool.false_eq_true, if_false, if_true, Int.add_zero]
  all_goals
    go_enter Try.func11, Try.ntmps11
    go_wp2_with fail
    go_quiet (fail)
    go_wp2_with fail
    go_ret
    exact ⟨rfl, Fifo.below_drewN w nq⟩
theorem rRead_any (r : Nat) (u : Un) (O : Nat → Prop) (reg : Int) (w : World) (h : RefU w r u O) :
    Calls Try.prog 11 #[.pointer (some ⟨r, 0, none⟩), .int .i64 reg] w fun e w' => e = .returned (.int .u32 (readU u reg).1) ∧ ∃ O', RefU w' r (readU u reg).2 O' ∧ Only O w w' ∧ ∀ j, O' j → O j ∨ w.heap.size ≤ j := by
  by_cases h0 : reg = 0
  · subst h0
    cases hg : u.Came with
    | nil =>
      rw [read_nil hg]
      refine (rRead_nil r u O w h hg).mono ?_
      rintro e w' ⟨rfl, rfl⟩
      exact ⟨rfl, O, h, Only.refl _ _, fun j hj => .inl hj⟩
    | cons b t => rw [read_cons hg]; exact rRead_cons r u O b t w h hg
  · by_cases h1 : reg = 1
    · subst h1
      rw [read_1]
      refine (rRead_1 r u O w h).mono ?_
      rintro e w' ⟨rfl, hb⟩
      exact ⟨rfl, O, h.keep hb, Only.of_below hb, fun j hj => .inl hj⟩
    · by_cases h2 : reg = 2
      · subst h2
        rw [read_2]
        refine (rRead_2 r u O w h).mono ?_
        rintro e w' ⟨rfl, rfl⟩
        exact ⟨rfl, O, h, Only.refl _ _, fun j hj => .inl hj⟩
      · rw [read_no u h0 h1 h2]
        refine (rRead_no r reg w h0 h1 h2).mono ?_
        rintro e w' ⟨rfl, rfl⟩
        exact ⟨rfl, O, h, Only.refl _ _, fun j hj => .inl hj⟩
end Go.Proofs.Ythdcealhhmfgcaa.Uart
