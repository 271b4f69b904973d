/- Package fifo's ring of uint32 gone through: each, as a function that is ranged over. -/
import Derived.Test.YtkcghcoacjpbkaaFr
import Derived.Test.YtkcghcoacjpbkaaFbL
import Derived.RangeFuncLeaves
import Derived.OwnWalkIn
import Derived.TacticsInMore
import Derived.LoopNIn
import Derived.LoopIn
namespace Go.Proofs.Ytkcghcoacjpbkaa.FL
open Go.RowKit Fifo
set_option linter.unusedVariables false
attribute [local go_sem] Oper.semAt_some

/-- What yield is handed. -/
def els (l : List Value) (k : Nat) : Array Value := #[.int .i64 (k : Nat), (l[k]?).getD undef]

set_option maxRecDepth 100000 in
set_option maxHeartbeats 1000000 in
theorem each_seq (m : Nat) (hm : 1 ≤ m) (b f : Nat) (t : TypeId) (cs vs l : List Value) (pv : Value) (w : World) (hB : Blk w b t cs) (c1 : cs[1]? = some pv) (c2 : cs[2]? = some (.int .i64 (f : Nat))) (c3 : cs[3]? = some (.int .i64 (l.length : Nat)))
    (hP : Plc w 28 pv vs) (hR : RingL vs f l) (h4 : vs.length ≤ 4000) :
    SeqC Fence.wide m Try.prog 51 (fun lp => #[.pointer (some ⟨b, 0, none⟩)] ++ #[.func (.yield lp) #[] #[]] ++ #[]) l.length (els l) (fun j => j = b ∨ PB pv j) w := by
  intro lp J Jx T0 W hb hlp1 hlp2 hJ hJx hT hK hY h0
  have hB0 := hB.keep hb
  have hP0 := hP.keep hb
  have hc3 := hB0.at 3 c3
  have hl4 : l.length ≤ 4000 := Nat.le_trans hR.1 h4
  have HT0 := Lib.hid hK
  have HY := Lib.hid hY
  have HJ := Lib.hid hJ
  have HT := Lib.hid hT
  have HR := Lib.hid hR
  have Hlp := Lib.hid hlp1
  clear hK hY hJ hT hJx hR hlp1
  show CallsIn Fence.wide m Try.prog 51 #[.pointer (some ⟨b, 0, none⟩), .func (.yield lp) #[] #[]] W _
  refine callsIn_of_wp Try.func51 rfl trivial ?_ rfl
  simp only [Try.ntmps51, List.size_toArray, List.length_cons, List.length_nil, Nat.reduceAdd, Nat.reduceSub, Array.replicate_succ, Array.replicate_zero, List.push_toArray, List.append_toArray, List.nil_append, List.cons_append]
  gi_wp2
  gi_loopw [9] (fun p wr => ∃ (k : Nat) (T : Nat → Prop), p = .int .i64 (k : Nat) ∧ k ≤ l.length ∧ J k T wr ∧ (∀ j, T j → ¬ (j = b ∨ PB pv j)) ∧ Blk wr b t cs ∧ Plc wr 28 pv vs ∧ lp < wr.heap.size)
    (fun p wr => l.length - (intOf p).toNat)
  case atStart => exact ⟨0, T0, rfl, Nat.zero_le _, h0, HT0.out, hB0, hP0, hlp2⟩
  case round =>
    obtain ⟨k, T, rfl, hk, hj, ht, hBr, hPr, hlt⟩ := hrel
    have Hj := Lib.hid hj
    have Ht := Lib.hid ht
    clear hj ht
    by_cases hkl : k < l.length
    · obtain ⟨x, hx⟩ : ∃ x, l[k]? = some x := ⟨_, List.getElem?_eq_getElem hkl⟩
      have Hxs := Lib.hid (show els l k = #[.int .i64 (k : Nat), x] by simp [els, hx])
      have HV := Lib.hid ((HR.out.2.2.2 k hkl).trans hx)
      have hlen : l.length ≤ vs.length := HR.out.1
      have hf : f < vs.length := HR.out.2.2.1 (by omega)
      obtain ⟨g, hg, hgB⟩ := hPr.some (by omega)
      have A := at_any b g f vs.length k wr (hBr.at 1 (by rw [c1, hg])) (hBr.at 2 c2) (by omega) h4 hf (by omega)
      have HA := Lib.hid A
      have HG := Lib.hid hgB
      have Hg := Lib.hid hg
      have HBr := Lib.hid hBr
      have HPr := Lib.hid hPr
      have d1 : decide ((k : Int) < (l.length : Int)) = true := decide_eq_true (by omega)
      have Hkl := Lib.hid hkl
      clear A hgB hg hBr hPr hx hkl hlen hf c1 c2 hc3 hB hP hB0 hP0 h4
      gi_wp2_with (refine ⟨trivial, ?_⟩; gi_at_call 55; refine (callsIn_wide.2 HA.out).mono ?_; rintro e w1 ⟨rfl, hb1⟩; have hx1 := (HG.out.keep hb1).at _ HV.out; obtain ⟨fn, tmps, assign, body, hy, hR⟩ := HY.out k T w1 Hkl.out (HJ.out _ _ _ _ Hj.out hb1); rw [Hxs.out] at hy)
      refine hR.mono ?_
      rintro e W3 ⟨T', hT', ho, hcase⟩
      have hB3 : Blk W3 b t cs := (HBr.out.keep hb1).only ho (fun h => h.elim (fun h => Ht.out _ h (.inl rfl)) (fun h => Hlp.out (.inl h.symm)))
      have hP3 : Plc W3 28 pv vs := (HPr.out.keep hb1).only ho (fun j hj h => h.elim (fun h => Ht.out _ h (.inr hj)) (fun h => Hlp.out (.inr (h ▸ hj))))
      have hT3 : ∀ j, T' j → ¬ (j = b ∨ PB pv j) := fun j hj hn => (hT' j hj).elim (fun h => Ht.out j h hn) (fun h => by have h1 := HBr.out.lt; have h2 := HPr.out.lt; have h3 := hb1.size; exact hn.elim (fun e => by omega) (fun e => by have := h2 j e; omega))
      have hl3 : lp < W3.heap.size := Nat.lt_of_lt_of_le hlt (Nat.le_trans hb1.size ho.size)
      have Hk := Lib.hid hk
      clear hk
      rcases hcase with ⟨rfl, hj3⟩ | ⟨rfl, hj3⟩
      · gi_wp2
        go_roundw
        case rel => exact ⟨k + 1, T', by go_num, Hkl.out, hj3, hT3, hB3, hP3, hl3⟩
        case measure => have := Hkl.out; simp [intOf]; omega
      · gi_wp2
        refine bodyPost_ret (results_none rfl _ _ _) rfl ?_
        exact ⟨⟨_, rfl⟩, T', .inr ⟨k, Hkl.out, hj3⟩⟩
    · obtain rfl : k = l.length := by omega
      have d1 : decide ((l.length : Int) < (l.length : Int)) = false := decide_eq_false (by omega)
      have HBr := Lib.hid hBr
      have HPr := Lib.hid hPr
      clear hBr hPr
      gi_wp2
      go_end0
      exact ⟨⟨_, rfl⟩, T, .inl Hj.out⟩
end Go.Proofs.Ytkcghcoacjpbkaa.FL
