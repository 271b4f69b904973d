/- Package scrub: its holds gone through, as a function that is ranged over. -/
import Derived.Test.YtmdepkehpohgeaaGreatS6wa
import Derived.RangeFuncLeaves
import Derived.OwnWalkIn
import Derived.TacticsInMore
import Derived.LoopNIn
import Derived.LoopIn
namespace Go.Proofs.YtmdepkehpohgeaaGreat.Scr
open Go.RowKit Go.Maps Go.ChangeShapes Go.WideShapes Go.ChangeAt Fifo Orow Word
set_option linter.unusedVariables false
attribute [local go_sem] Oper.semAt_some

theorem that_any (a : Option Addr) (n c F : Nat) (w : World) :
    Calls Tryz.prog 51 #[.slice a n c, .func (.func F) #[] #[]] w fun e w' => e = .returned (.func (.func 68) #[] #[.pointer (some ⟨w.heap.size, 0, none⟩), .pointer (some ⟨w.heap.size + 1, 0, none⟩)]) ∧
      Blk w' w.heap.size 47 [.slice a n c] ∧ Blk w' (w.heap.size + 1) 93 [.func (.func F) #[] #[]] ∧ Below w.heap.size w w' ∧ w'.heap.size = w.heap.size + 2 := by
  have hmf : ∀ (fn : Fn) (first cap : Array Value) (w : World), (Instr.makeFunc fn first cap).run Tryz.prog w = .ok (.func fn first cap) w := fun _ _ _ _ => rfl
  go_enter Tryz.func51, Tryz.ntmps51
  go_wp2_with fail
  go_ret
  have e1 := Blk.new (w.alloc (.cells #[.slice a n c] 47)) 93 [.func (.func F) #[] #[]]
  have e0 := (Blk.new w 47 [.slice a n c]).alloc (.cells #[.func (.func F) #[] #[]] 93)
  rw [World.size_alloc] at e1
  exact ⟨rfl, e0, e1, ((Below.refl _ _).alloc (Nat.le_refl _) _).alloc (by simp) _, by simp⟩
def ownedP (h : Hd) : Bool := !(h.o == -1)
def scrubP (h : Hd) : Bool := decide (0 < h.l)
def anyP (h : Hd) : Bool := true
set_option maxRecDepth 100000 in
set_option maxHeartbeats 2000000 in
theorem that_owned (m : Nat) (hm : 1 ≤ m) (x y n c : Nat) (a : Option Addr) (L : List Hk) (w : World) (hx : Blk w x 47 [.slice a n c]) (hy : Blk w y 93 [.func (.func 43) #[] #[]]) (hn : n ≤ 1000000) :
    SeqI Fence.wide m Tryz.prog 68 (fun lp => #[] ++ #[.func (.yield lp) #[] #[]] ++ #[.pointer (some ⟨x, 0, none⟩), .pointer (some ⟨y, 0, none⟩)]) n (fun k => ownedP L[k]!.hd) (fun k => #[.int .i64 (k : Nat), kV L[k]!]) (fun k W => ∃ g, a = some ⟨g, 0, none⟩ ∧ AtHk W g (k * 4) L[k]!) (fun j => j = x ∨ j = y) w := by
  intro lp J Jx T0 W hb hlp1 hlp2 hJ hJx hT hK hR hskip hY h0
  have hX0 := hx.keep hb
  have hY0 := hy.keep hb
  have q0 := hX0.at 0 rfl
  have HT0 := Lib.hid hK
  have HY := Lib.hid hY
  have HJ := Lib.hid hJ
  have HT := Lib.hid hT
  have HR := Lib.hid hR
  have HS := Lib.hid hskip
  have Hlp := Lib.hid hlp1
  clear hK hY hJ hT hJx hR hlp1 hskip hx hy
  show CallsIn Fence.wide m Tryz.prog 68 #[.func (.yield lp) #[] #[], .pointer (some ⟨x, 0, none⟩), .pointer (some ⟨y, 0, none⟩)] W _
  refine callsIn_of_wp Tryz.func68 rfl trivial ?_ rfl
  simp only [Tryz.ntmps68, List.size_toArray, List.length_cons, List.length_nil, Nat.reduceAdd, Nat.reduceSub, Array.replicate_succ, Array.replicate_zero, List.push_toArray, List.append_toArray, List.nil_append, List.cons_append]
  gi_wp2
  clear q0
  gi_loopw [8] (fun i wr => ∃ (k : Nat) (T : Nat → Prop), i = .int .i64 (k : Nat) ∧ k ≤ n ∧ J k T wr ∧ (∀ j, T j → ¬ (j = x ∨ j = y)) ∧ Blk wr x 47 [.slice a n c] ∧ Blk wr y 93 [.func (.func 43) #[] #[]] ∧ lp < wr.heap.size)
    (fun i wr => n - (intOf i).toNat)
  case atStart => exact ⟨0, T0, rfl, Nat.zero_le _, h0, HT0.out, hX0, hY0, hlp2⟩
  case round =>
    clear h0 hX0 hY0 hb hlp2
    obtain ⟨k, T, rfl, hk, hj, ht, hXr, hYr, hlt⟩ := hrel
    have Hj := Lib.hid hj
    have Ht := Lib.hid ht
    have HXr := Lib.hid hXr
    have HYr := Lib.hid hYr
    clear ht hXr hYr
    by_cases hkn : k < n
    · obtain ⟨g, hg, hat⟩ := HR.out k T wr hkn hj
      obtain ⟨e, he⟩ : ∃ e, L[k]! = e := ⟨_, rfl⟩
      rw [he] at hat
      have He := Lib.hid he
      obtain ⟨o, l, nn, kk⟩ := e
      obtain ⟨c0, c1, c2, c3⟩ := hat
      simp only at c0 c1 c2 c3
      have d1 : decide ((k : Int) < (n : Int)) = true := decide_eq_true (by omega)
      have d1' : decide (k < n) = true := decide_eq_true hkn
      have i1 : (0 : Int) ≤ (k : Int) := by omega
      have i2 : (k : Int) < (n : Int) := by omega
      have wk : IntKind.i64.wrap ((k : Int) + 1) = (k : Int) + 1 := IntWalk.i64_in _ (by omega)
      have Hkn := Lib.hid hkn
      have Hlt := Lib.hid hlt
      subst hg
      obtain ⟨pb, hpb⟩ : ∃ pb, ownedP ⟨o, l, nn⟩ = pb := ⟨_, rfl⟩
      have Hpb := Lib.hid (show ownedP L[k]!.hd = pb by rw [He.out]; exact hpb)
      have F0 := Lib.hid (fun w => owned_any o l nn kk w)
      have F : Hid (∀ w : World, Calls Tryz.prog 43 #[.agg #[.int .i64 o, .int .i64 l, .int .i64 nn, .int .i64 kk]] w fun e w' => e = .returned (.bool pb) ∧ Below w.heap.size w w') := by rw [← hpb]; exact F0
      obtain ⟨W1, hW1⟩ : ∃ W1, W1 = wr.alloc (.cells #[.int .i64 o, .int .i64 l, .int .i64 nn, .int .i64 kk] 81) := ⟨_, rfl⟩
      have B1 : Below wr.heap.size wr W1 := by rw [hW1]; exact (Below.refl _ _).alloc (Nat.le_refl _) _
      have A1 : Blk W1 wr.heap.size 81 [.int .i64 o, .int .i64 l, .int .i64 nn, .int .i64 kk] := by rw [hW1]; exact Blk.new _ _ _
      have y0 : ∀ o, (wr.alloc o).cell? ⟨y, 0, none⟩ = some (.func (.func 43) #[] #[]) := fun o => (HYr.out.alloc o).at 0 rfl
      have HA1 := Lib.hid A1
      have HB1 := Lib.hid B1
      have HW1 := Lib.hid hW1
      clear hkn hlt he hj hpb F0 A1 B1 hW1
      cases pb with
      | false =>
        gi_wp2_with ((refine ⟨trivial, ?_⟩; gi_at_call 43; refine (callsIn_wide.2 (F.out _)).mono ?_; rintro e w1 ⟨rfl, hb1⟩; have a1 := (Blk.new wr 81 [.int .i64 o, .int .i64 l, .int .i64 nn, .int .i64 kk]).keep hb1; have z0 := a1.at 0 rfl; have z1 := a1.at 1 rfl; have z2 := a1.at 2 rfl; have z3 := a1.at 3 rfl; have HBw := Lib.hid (((Below.refl wr.heap.size wr).alloc (Nat.le_refl _) (.cells #[.int .i64 o, .int .i64 l, .int .i64 nn, .int .i64 kk] 81)).trans (hb1.mono (by simp))); clear hb1 a1))
        refine ⟨fun _ h => (by cases h), ?_⟩
        gi_wp2
        go_roundw
        case rel => exact ⟨k + 1, T, by go_num, Hkn.out, HJ.out _ _ _ _ (HS.out k T wr Hkn.out Hpb.out Hj.out) HBw.out, Ht.out, HXr.out.keep HBw.out, HYr.out.keep HBw.out, Nat.lt_of_lt_of_le Hlt.out HBw.out.size⟩
        case measure => have := Hkn.out; simp [intOf]; omega
      | true =>
        gi_wp2_with (refine ⟨trivial, ?_⟩; gi_at_call 43; refine (callsIn_wide.2 (F.out _)).mono ?_; rintro e w1 ⟨rfl, hb1⟩; have a1 := (Blk.new wr 81 [.int .i64 o, .int .i64 l, .int .i64 nn, .int .i64 kk]).keep hb1; have z0 := a1.at 0 rfl; have z1 := a1.at 1 rfl; have z2 := a1.at 2 rfl; have z3 := a1.at 3 rfl; have HBw := Lib.hid (((Below.refl wr.heap.size wr).alloc (Nat.le_refl _) (.cells #[.int .i64 o, .int .i64 l, .int .i64 nn, .int .i64 kk] 81)).trans (hb1.mono (by simp))); clear hb1 a1; obtain ⟨fn, tmps, assign, body, hy, hRb⟩ := HY.out k T w1 Hkn.out Hpb.out (HJ.out _ _ _ _ Hj.out HBw.out); rw [He.out] at hy)
        refine hRb.mono ?_
        rintro e W3 ⟨T', hT', ho, hcase⟩
        have hx3 : Blk W3 x 47 [.slice (some ⟨g, 0, none⟩) n c] := (HXr.out.keep HBw.out).only ho (fun h => h.elim (fun h => Ht.out _ h (.inl rfl)) (fun h => Hlp.out (.inl h.symm)))
        have hy3 : Blk W3 y 93 [.func (.func 43) #[] #[]] := (HYr.out.keep HBw.out).only ho (fun h => h.elim (fun h => Ht.out _ h (.inr rfl)) (fun h => Hlp.out (.inr h.symm)))
        have hT3 : ∀ j, T' j → ¬ (j = x ∨ j = y) := fun j hj hn => (hT' j hj).elim (fun h => Ht.out j h hn) (fun h => by have h1 := HXr.out.lt; have h2 := HYr.out.lt; have h3 := HBw.out.size; omega)
        have hl3 : lp < W3.heap.size := Nat.lt_of_lt_of_le Hlt.out (Nat.le_trans HBw.out.size ho.size)
        have HX3 := Lib.hid hx3
        have HY3 := Lib.hid hy3
        have HT3 := Lib.hid hT3
        clear hx3 hy3 hT3 hk hT' ho hy hRb y0 c0 c1 c2 c3 z0 z1 z2 z3
        rcases hcase with ⟨rfl, hj3⟩ | ⟨rfl, hj3⟩
        · gi_wp2
          go_roundw
          case rel => exact ⟨k + 1, T', by go_num, Hkn.out, hj3, HT3.out, HX3.out, HY3.out, hl3⟩
          case measure => have := Hkn.out; simp [intOf]; omega
        · gi_wp2
          refine bodyPost_ret (results_none rfl _ _ _) rfl ?_
          exact ⟨⟨_, rfl⟩, T', .inr ⟨k, Hkn.out, hj3⟩⟩
    · have hkn' : k = n := by omega
      have d1 : decide ((k : Int) < (n : Int)) = false := decide_eq_false (by omega)
      have d1' : decide (k < n) = false := decide_eq_false hkn
      have Hkn := Lib.hid hkn'
      clear hkn hkn'
      gi_wp2
      go_end0
      exact ⟨⟨_, rfl⟩, T, .inl (by rw [← Hkn.out]; exact Hj.out)⟩
set_option maxRecDepth 100000 in
set_option maxHeartbeats 2000000 in
theorem that_scrubbed (m : Nat) (hm : 1 ≤ m) (x y n c : Nat) (a : Option Addr) (L : List Hk) (w : World) (hx : Blk w x 47 [.slice a n c]) (hy : Blk w y 93 [.func (.func 52) #[] #[]]) (hn : n ≤ 1000000) :
    SeqI Fence.wide m Tryz.prog 68 (fun lp => #[] ++ #[.func (.yield lp) #[] #[]] ++ #[.pointer (some ⟨x, 0, none⟩), .pointer (some ⟨y, 0, none⟩)]) n (fun k => scrubP L[k]!.hd) (fun k => #[.int .i64 (k : Nat), kV L[k]!]) (fun k W => ∃ g, a = some ⟨g, 0, none⟩ ∧ AtHk W g (k * 4) L[k]!) (fun j => j = x ∨ j = y) w := by
  intro lp J Jx T0 W hb hlp1 hlp2 hJ hJx hT hK hR hskip hY h0
  have hX0 := hx.keep hb
  have hY0 := hy.keep hb
  have q0 := hX0.at 0 rfl
  have HT0 := Lib.hid hK
  have HY := Lib.hid hY
  have HJ := Lib.hid hJ
  have HT := Lib.hid hT
  have HR := Lib.hid hR
  have HS := Lib.hid hskip
  have Hlp := Lib.hid hlp1
  clear hK hY hJ hT hJx hR hlp1 hskip hx hy
  show CallsIn Fence.wide m Tryz.prog 68 #[.func (.yield lp) #[] #[], .pointer (some ⟨x, 0, none⟩), .pointer (some ⟨y, 0, none⟩)] W _
  refine callsIn_of_wp Tryz.func68 rfl trivial ?_ rfl
  simp only [Tryz.ntmps68, List.size_toArray, List.length_cons, List.length_nil, Nat.reduceAdd, Nat.reduceSub, Array.replicate_succ, Array.replicate_zero, List.push_toArray, List.append_toArray, List.nil_append, List.cons_append]
  gi_wp2
  clear q0
  gi_loopw [8] (fun i wr => ∃ (k : Nat) (T : Nat → Prop), i = .int .i64 (k : Nat) ∧ k ≤ n ∧ J k T wr ∧ (∀ j, T j → ¬ (j = x ∨ j = y)) ∧ Blk wr x 47 [.slice a n c] ∧ Blk wr y 93 [.func (.func 52) #[] #[]] ∧ lp < wr.heap.size)
    (fun i wr => n - (intOf i).toNat)
  case atStart => exact ⟨0, T0, rfl, Nat.zero_le _, h0, HT0.out, hX0, hY0, hlp2⟩
  case round =>
    clear h0 hX0 hY0 hb hlp2
    obtain ⟨k, T, rfl, hk, hj, ht, hXr, hYr, hlt⟩ := hrel
    have Hj := Lib.hid hj
    have Ht := Lib.hid ht
    have HXr := Lib.hid hXr
    have HYr := Lib.hid hYr
    clear ht hXr hYr
    by_cases hkn : k < n
    · obtain ⟨g, hg, hat⟩ := HR.out k T wr hkn hj
      obtain ⟨e, he⟩ : ∃ e, L[k]! = e := ⟨_, rfl⟩
      rw [he] at hat
      have He := Lib.hid he
      obtain ⟨o, l, nn, kk⟩ := e
      obtain ⟨c0, c1, c2, c3⟩ := hat
      simp only at c0 c1 c2 c3
      have d1 : decide ((k : Int) < (n : Int)) = true := decide_eq_true (by omega)
      have d1' : decide (k < n) = true := decide_eq_true hkn
      have i1 : (0 : Int) ≤ (k : Int) := by omega
      have i2 : (k : Int) < (n : Int) := by omega
      have wk : IntKind.i64.wrap ((k : Int) + 1) = (k : Int) + 1 := IntWalk.i64_in _ (by omega)
      have Hkn := Lib.hid hkn
      have Hlt := Lib.hid hlt
      subst hg
      obtain ⟨pb, hpb⟩ : ∃ pb, scrubP ⟨o, l, nn⟩ = pb := ⟨_, rfl⟩
      have Hpb := Lib.hid (show scrubP L[k]!.hd = pb by rw [He.out]; exact hpb)
      have F0 := Lib.hid (fun w => scrubbed_any o l nn kk w)
      have F : Hid (∀ w : World, Calls Tryz.prog 52 #[.agg #[.int .i64 o, .int .i64 l, .int .i64 nn, .int .i64 kk]] w fun e w' => e = .returned (.bool pb) ∧ Below w.heap.size w w') := by rw [← hpb]; exact F0
      obtain ⟨W1, hW1⟩ : ∃ W1, W1 = wr.alloc (.cells #[.int .i64 o, .int .i64 l, .int .i64 nn, .int .i64 kk] 81) := ⟨_, rfl⟩
      have B1 : Below wr.heap.size wr W1 := by rw [hW1]; exact (Below.refl _ _).alloc (Nat.le_refl _) _
      have A1 : Blk W1 wr.heap.size 81 [.int .i64 o, .int .i64 l, .int .i64 nn, .int .i64 kk] := by rw [hW1]; exact Blk.new _ _ _
      have y0 : ∀ o, (wr.alloc o).cell? ⟨y, 0, none⟩ = some (.func (.func 52) #[] #[]) := fun o => (HYr.out.alloc o).at 0 rfl
      have HA1 := Lib.hid A1
      have HB1 := Lib.hid B1
      have HW1 := Lib.hid hW1
      clear hkn hlt he hj hpb F0 A1 B1 hW1
      cases pb with
      | false =>
        gi_wp2_with ((refine ⟨trivial, ?_⟩; gi_at_call 52; refine (callsIn_wide.2 (F.out _)).mono ?_; rintro e w1 ⟨rfl, hb1⟩; have a1 := (Blk.new wr 81 [.int .i64 o, .int .i64 l, .int .i64 nn, .int .i64 kk]).keep hb1; have z0 := a1.at 0 rfl; have z1 := a1.at 1 rfl; have z2 := a1.at 2 rfl; have z3 := a1.at 3 rfl; have HBw := Lib.hid (((Below.refl wr.heap.size wr).alloc (Nat.le_refl _) (.cells #[.int .i64 o, .int .i64 l, .int .i64 nn, .int .i64 kk] 81)).trans (hb1.mono (by simp))); clear hb1 a1))
        refine ⟨fun _ h => (by cases h), ?_⟩
        gi_wp2
        go_roundw
        case rel => exact ⟨k + 1, T, by go_num, Hkn.out, HJ.out _ _ _ _ (HS.out k T wr Hkn.out Hpb.out Hj.out) HBw.out, Ht.out, HXr.out.keep HBw.out, HYr.out.keep HBw.out, Nat.lt_of_lt_of_le Hlt.out HBw.out.size⟩
        case measure => have := Hkn.out; simp [intOf]; omega
      | true =>
        gi_wp2_with (refine ⟨trivial, ?_⟩; gi_at_call 52; refine (callsIn_wide.2 (F.out _)).mono ?_; rintro e w1 ⟨rfl, hb1⟩; have a1 := (Blk.new wr 81 [.int .i64 o, .int .i64 l, .int .i64 nn, .int .i64 kk]).keep hb1; have z0 := a1.at 0 rfl; have z1 := a1.at 1 rfl; have z2 := a1.at 2 rfl; have z3 := a1.at 3 rfl; have HBw := Lib.hid (((Below.refl wr.heap.size wr).alloc (Nat.le_refl _) (.cells #[.int .i64 o, .int .i64 l, .int .i64 nn, .int .i64 kk] 81)).trans (hb1.mono (by simp))); clear hb1 a1; obtain ⟨fn, tmps, assign, body, hy, hRb⟩ := HY.out k T w1 Hkn.out Hpb.out (HJ.out _ _ _ _ Hj.out HBw.out); rw [He.out] at hy)
        refine hRb.mono ?_
        rintro e W3 ⟨T', hT', ho, hcase⟩
        have hx3 : Blk W3 x 47 [.slice (some ⟨g, 0, none⟩) n c] := (HXr.out.keep HBw.out).only ho (fun h => h.elim (fun h => Ht.out _ h (.inl rfl)) (fun h => Hlp.out (.inl h.symm)))
        have hy3 : Blk W3 y 93 [.func (.func 52) #[] #[]] := (HYr.out.keep HBw.out).only ho (fun h => h.elim (fun h => Ht.out _ h (.inr rfl)) (fun h => Hlp.out (.inr h.symm)))
        have hT3 : ∀ j, T' j → ¬ (j = x ∨ j = y) := fun j hj hn => (hT' j hj).elim (fun h => Ht.out j h hn) (fun h => by have h1 := HXr.out.lt; have h2 := HYr.out.lt; have h3 := HBw.out.size; omega)
        have hl3 : lp < W3.heap.size := Nat.lt_of_lt_of_le Hlt.out (Nat.le_trans HBw.out.size ho.size)
        have HX3 := Lib.hid hx3
        have HY3 := Lib.hid hy3
        have HT3 := Lib.hid hT3
        clear hx3 hy3 hT3 hk hT' ho hy hRb y0 c0 c1 c2 c3 z0 z1 z2 z3
        rcases hcase with ⟨rfl, hj3⟩ | ⟨rfl, hj3⟩
        · gi_wp2
          go_roundw
          case rel => exact ⟨k + 1, T', by go_num, Hkn.out, hj3, HT3.out, HX3.out, HY3.out, hl3⟩
          case measure => have := Hkn.out; simp [intOf]; omega
        · gi_wp2
          refine bodyPost_ret (results_none rfl _ _ _) rfl ?_
          exact ⟨⟨_, rfl⟩, T', .inr ⟨k, Hkn.out, hj3⟩⟩
    · have hkn' : k = n := by omega
      have d1 : decide ((k : Int) < (n : Int)) = false := decide_eq_false (by omega)
      have d1' : decide (k < n) = false := decide_eq_false hkn
      have Hkn := Lib.hid hkn'
      clear hkn hkn'
      gi_wp2
      go_end0
      exact ⟨⟨_, rfl⟩, T, .inl (by rw [← Hkn.out]; exact Hj.out)⟩
set_option maxRecDepth 100000 in
set_option maxHeartbeats 2000000 in
theorem that_all (m : Nat) (hm : 1 ≤ m) (x y n c : Nat) (a : Option Addr) (L : List Hk) (w : World) (hx : Blk w x 47 [.slice a n c]) (hy : Blk w y 93 [.func (.func 54) #[] #[]]) (hn : n ≤ 1000000) :
    SeqI Fence.wide m Tryz.prog 68 (fun lp => #[] ++ #[.func (.yield lp) #[] #[]] ++ #[.pointer (some ⟨x, 0, none⟩), .pointer (some ⟨y, 0, none⟩)]) n (fun k => anyP L[k]!.hd) (fun k => #[.int .i64 (k : Nat), kV L[k]!]) (fun k W => ∃ g, a = some ⟨g, 0, none⟩ ∧ AtHk W g (k * 4) L[k]!) (fun j => j = x ∨ j = y) w := by
  intro lp J Jx T0 W hb hlp1 hlp2 hJ hJx hT hK hR hskip hY h0
  have hX0 := hx.keep hb
  have hY0 := hy.keep hb
  have q0 := hX0.at 0 rfl
  have HT0 := Lib.hid hK
  have HY := Lib.hid hY
  have HJ := Lib.hid hJ
  have HT := Lib.hid hT
  have HR := Lib.hid hR
  have HS := Lib.hid hskip
  have Hlp := Lib.hid hlp1
  clear hK hY hJ hT hJx hR hlp1 hskip hx hy
  show CallsIn Fence.wide m Tryz.prog 68 #[.func (.yield lp) #[] #[], .pointer (some ⟨x, 0, none⟩), .pointer (some ⟨y, 0, none⟩)] W _
  refine callsIn_of_wp Tryz.func68 rfl trivial ?_ rfl
  simp only [Tryz.ntmps68, List.size_toArray, List.length_cons, List.length_nil, Nat.reduceAdd, Nat.reduceSub, Array.replicate_succ, Array.replicate_zero, List.push_toArray, List.append_toArray, List.nil_append, List.cons_append]
  gi_wp2
  clear q0
  gi_loopw [8] (fun i wr => ∃ (k : Nat) (T : Nat → Prop), i = .int .i64 (k : Nat) ∧ k ≤ n ∧ J k T wr ∧ (∀ j, T j → ¬ (j = x ∨ j = y)) ∧ Blk wr x 47 [.slice a n c] ∧ Blk wr y 93 [.func (.func 54) #[] #[]] ∧ lp < wr.heap.size)
    (fun i wr => n - (intOf i).toNat)
  case atStart => exact ⟨0, T0, rfl, Nat.zero_le _, h0, HT0.out, hX0, hY0, hlp2⟩
  case round =>
    clear h0 hX0 hY0 hb hlp2
    obtain ⟨k, T, rfl, hk, hj, ht, hXr, hYr, hlt⟩ := hrel
    have Hj := Lib.hid hj
    have Ht := Lib.hid ht
    have HXr := Lib.hid hXr
    have HYr := Lib.hid hYr
    clear ht hXr hYr
    by_cases hkn : k < n
    · obtain ⟨g, hg, hat⟩ := HR.out k T wr hkn hj
      obtain ⟨e, he⟩ : ∃ e, L[k]! = e := ⟨_, rfl⟩
      rw [he] at hat
      have He := Lib.hid he
      obtain ⟨o, l, nn, kk⟩ := e
      obtain ⟨c0, c1, c2, c3⟩ := hat
      simp only at c0 c1 c2 c3
      have d1 : decide ((k : Int) < (n : Int)) = true := decide_eq_true (by omega)
      have d1' : decide (k < n) = true := decide_eq_true hkn
      have i1 : (0 : Int) ≤ (k : Int) := by omega
      have i2 : (k : Int) < (n : Int) := by omega
      have wk : IntKind.i64.wrap ((k : Int) + 1) = (k : Int) + 1 := IntWalk.i64_in _ (by omega)
      have Hkn := Lib.hid hkn
      have Hlt := Lib.hid hlt
      subst hg
      obtain ⟨pb, hpb⟩ : ∃ pb, anyP ⟨o, l, nn⟩ = pb := ⟨_, rfl⟩
      have Hpb := Lib.hid (show anyP L[k]!.hd = pb by rw [He.out]; exact hpb)
      have F0 := Lib.hid (fun w => any_any o l nn kk w)
      have F : Hid (∀ w : World, Calls Tryz.prog 54 #[.agg #[.int .i64 o, .int .i64 l, .int .i64 nn, .int .i64 kk]] w fun e w' => e = .returned (.bool pb) ∧ Below w.heap.size w w') := by rw [← hpb]; exact F0
      obtain ⟨W1, hW1⟩ : ∃ W1, W1 = wr.alloc (.cells #[.int .i64 o, .int .i64 l, .int .i64 nn, .int .i64 kk] 81) := ⟨_, rfl⟩
      have B1 : Below wr.heap.size wr W1 := by rw [hW1]; exact (Below.refl _ _).alloc (Nat.le_refl _) _
      have A1 : Blk W1 wr.heap.size 81 [.int .i64 o, .int .i64 l, .int .i64 nn, .int .i64 kk] := by rw [hW1]; exact Blk.new _ _ _
      have y0 : ∀ o, (wr.alloc o).cell? ⟨y, 0, none⟩ = some (.func (.func 54) #[] #[]) := fun o => (HYr.out.alloc o).at 0 rfl
      have HA1 := Lib.hid A1
      have HB1 := Lib.hid B1
      have HW1 := Lib.hid hW1
      clear hkn hlt he hj hpb F0 A1 B1 hW1
      cases pb with
      | false => exact absurd Hpb.out (by simp [anyP])
      | true =>
        gi_wp2_with (refine ⟨trivial, ?_⟩; gi_at_call 54; refine (callsIn_wide.2 (F.out _)).mono ?_; rintro e w1 ⟨rfl, hb1⟩; have a1 := (Blk.new wr 81 [.int .i64 o, .int .i64 l, .int .i64 nn, .int .i64 kk]).keep hb1; have z0 := a1.at 0 rfl; have z1 := a1.at 1 rfl; have z2 := a1.at 2 rfl; have z3 := a1.at 3 rfl; have HBw := Lib.hid (((Below.refl wr.heap.size wr).alloc (Nat.le_refl _) (.cells #[.int .i64 o, .int .i64 l, .int .i64 nn, .int .i64 kk] 81)).trans (hb1.mono (by simp))); clear hb1 a1; obtain ⟨fn, tmps, assign, body, hy, hRb⟩ := HY.out k T w1 Hkn.out Hpb.out (HJ.out _ _ _ _ Hj.out HBw.out); rw [He.out] at hy)
        refine hRb.mono ?_
        rintro e W3 ⟨T', hT', ho, hcase⟩
        have hx3 : Blk W3 x 47 [.slice (some ⟨g, 0, none⟩) n c] := (HXr.out.keep HBw.out).only ho (fun h => h.elim (fun h => Ht.out _ h (.inl rfl)) (fun h => Hlp.out (.inl h.symm)))
        have hy3 : Blk W3 y 93 [.func (.func 54) #[] #[]] := (HYr.out.keep HBw.out).only ho (fun h => h.elim (fun h => Ht.out _ h (.inr rfl)) (fun h => Hlp.out (.inr h.symm)))
        have hT3 : ∀ j, T' j → ¬ (j = x ∨ j = y) := fun j hj hn => (hT' j hj).elim (fun h => Ht.out j h hn) (fun h => by have h1 := HXr.out.lt; have h2 := HYr.out.lt; have h3 := HBw.out.size; omega)
        have hl3 : lp < W3.heap.size := Nat.lt_of_lt_of_le Hlt.out (Nat.le_trans HBw.out.size ho.size)
        have HX3 := Lib.hid hx3
        have HY3 := Lib.hid hy3
        have HT3 := Lib.hid hT3
        clear hx3 hy3 hT3 hk hT' ho hy hRb y0 c0 c1 c2 c3 z0 z1 z2 z3
        rcases hcase with ⟨rfl, hj3⟩ | ⟨rfl, hj3⟩
        · gi_wp2
          go_roundw
          case rel => exact ⟨k + 1, T', by go_num, Hkn.out, hj3, HT3.out, HX3.out, HY3.out, hl3⟩
          case measure => have := Hkn.out; simp [intOf]; omega
        · gi_wp2
          refine bodyPost_ret (results_none rfl _ _ _) rfl ?_
          exact ⟨⟨_, rfl⟩, T', .inr ⟨k, Hkn.out, hj3⟩⟩
    · have hkn' : k = n := by omega
      have d1 : decide ((k : Int) < (n : Int)) = false := decide_eq_false (by omega)
      have d1' : decide (k < n) = false := decide_eq_false hkn
      have Hkn := Lib.hid hkn'
      clear hkn hkn'
      gi_wp2
      go_end0
      exact ⟨⟨_, rfl⟩, T, .inl (by rw [← Hkn.out]; exact Hj.out)⟩
end Go.Proofs.YtmdepkehpohgeaaGreat.Scr
