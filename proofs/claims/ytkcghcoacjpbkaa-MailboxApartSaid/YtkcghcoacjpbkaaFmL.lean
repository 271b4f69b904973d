/- What is told of no row of uint32. -/
import Derived.Test.YtkcghcoacjpbkaaFlL
namespace Go.Proofs.Ytkcghcoacjpbkaa.FL
open Go.RowKit Go.Shelf Fifo
set_option linter.unusedVariables false
attribute [local go_sem] Oper.semAt_some

theorem Put_non (p x : Value) (w : World) (h : Non w p) :
    Calls Try.prog 53 #[p, x] w fun e w' => e = .returned (.bool false) ∧ Below w.heap.size w w' := by
  have A := row_non p w h
  clear h
  go_enter Try.func53, Try.ntmps53
  go_wp2_with fail
  refine A.mono ?_
  rintro e w1 ⟨rfl, hr, hb⟩
  have P := put_no _ 0 0 [] [] _ x w1 hr rfl
  have Hb := Lib.hid hb
  clear A hr hb
  go_wp2_with fail
  refine P.mono ?_
  rintro e w2 ⟨rfl, hb2⟩
  clear P
  go_wp2_with fail
  go_ret
  exact ⟨rfl, Hb.out.trans (hb2.mono Hb.out.size)⟩
theorem Len_non (p : Value) (w : World) (h : Non w p) :
    Calls Try.prog 37 #[p] w fun e w' => e = .returned (.int .i64 0) ∧ Below w.heap.size w w' := by
  have A := row_non p w h
  clear h
  go_enter Try.func37, Try.ntmps37
  go_wp2_with fail
  refine A.mono ?_
  rintro e w1 ⟨rfl, hr, hb⟩
  have p3 : w1.cell? ⟨w.heap.size, 3, none⟩ = some (.int .i64 0) := hr.blk.at 3 rfl
  clear A hr
  go_wp2_with fail
  go_ret
  exact ⟨rfl, hb⟩
theorem Copy_non (p : Value) (w : World) (h : Non w p) :
    Calls Try.prog 35 #[p] w fun e w' => e = .returned (.pointer none) ∧ Below w.heap.size w w' := by
  have A := is_non p w h
  clear h
  go_enter Try.func35, Try.ntmps35
  go_wp2_with fail
  refine A.mono ?_
  rintro e w1 ⟨rfl, rfl⟩
  clear A
  go_wp2_with fail
  go_ret
  exact ⟨rfl, Below.refl _ _⟩
theorem Take_non (p : Value) (w : World) (h : Non w p) :
    Calls Try.prog 52 #[p] w fun e w' => e = .returned (.tuple #[.int .u32 0, .bool false]) ∧ Below w.heap.size w w' := by
  have hmf : ∀ (fn : Fn) (first cap : Array Value) (w : World), (Instr.makeFunc fn first cap).run Try.prog w = .ok (.func fn first cap) w := fun _ _ _ _ => rfl
  have A := row_non p w h
  clear h
  go_enter Try.func52, Try.ntmps52
  go_wp2_with fail
  refine A.mono ?_
  rintro e w1 ⟨rfl, hr, hb⟩
  have P := fun ask w' (hb : Below w1.heap.size w1 w') => told_none _ 0 0 [] _ ask w' (hr.keep hb)
  have HP := Lib.hid P
  have Hb := Lib.hid hb
  clear A hr hb P
  go_wp2_with fail
  go_region_with ((first | (go_at_call 56; refine (HP.out _ _ (by repeat (first | exact Below.refl _ _ | refine Below.drew ?_))).mono ?_; rintro e w2 ⟨rfl, hq⟩)))
  all_goals
    have Hq := Lib.hid (drew_step hq)
    clear hq HP
    go_wp2_with fail
    go_ret2
    exact ⟨rfl, Hb.out.trans (Hq.out.mono Hb.out.size)⟩
set_option maxRecDepth 100000 in
set_option maxHeartbeats 1000000 in
theorem seq_non (m : Nat) (hm : 2 ≤ m) (box : Nat) (p : Value) (w : World) (hbox : Blk w box 42 [p]) (h : Non w p) :
    SeqC Fence.wide m Try.prog 49 (fun lp => #[] ++ #[.func (.yield lp) #[] #[]] ++ #[.pointer (some ⟨box, 0, none⟩)]) 0 (els []) (fun _ => False) w := by
  intro lp J Jx T0 W hb hlp1 hlp2 hJ hJx hT hK hY h0
  have k := h.keep hb
  have q0 := (hbox.keep hb).at 0 rfl
  have R := row_non p W k
  have E : ∀ (w0 w1 : World) (b g : Nat), Below W.heap.size W w0 → Ring (.pointer none) w0 b 0 [] (.slice none 0 0) 0 [] → Below W.heap.size W w1 → W.heap.size ≤ g → Blk w1 g 28 [] →
      CallsIn Fence.wide (m - 1) Try.prog 51 #[.pointer (some ⟨w1.heap.size, 0, none⟩), .func (.yield lp) #[] #[]] (w1.alloc (.cells #[.int .i64 0, .slice (some ⟨g, 0, none⟩) 0 0, .int .i64 0, .int .i64 0] 71))
        fun e W' => (∃ v, e = .returned v) ∧ ∃ T', (J 0 T' W' ∨ ∃ k, k < 0 ∧ Jx (k + 1) T' W') := by
    intro w0 w1 b g _ _ hb1 hg hG
    have hb2 : Below W.heap.size W (w1.alloc (.cells #[.int .i64 0, .slice (some ⟨g, 0, none⟩) 0 0, .int .i64 0, .int .i64 0] 71)) := hb1.alloc hb1.size _
    have hgl := hG.lt
    have hs := hb1.size
    refine each_seq (m - 1) (by omega) w1.heap.size 0 71 [.int .i64 0, .slice (some ⟨g, 0, none⟩) 0 0, .int .i64 0, .int .i64 0] [] [] (.slice (some ⟨g, 0, none⟩) 0 0) _
      (Blk.new w1 _ _) rfl rfl rfl (.inr ⟨g, rfl, hG.alloc _⟩) (ringL_self []) (by simp) lp J Jx T0 _ (Below.refl _ _) ?_ (by simp; omega) hJ hJx hT ?_ (fun k T X hk hj => yieldAt_any (hY k T X hk hj)) (hJ _ _ _ _ h0 hb2)
    · rintro (hh | hh)
      · omega
      · simp [PB, Value.ownBlock] at hh
        omega
    · intro j hj hh
      have := hT _ _ _ _ h0 hj
      rcases hh with hh | hh
      · omega
      · simp [PB, Value.ownBlock] at hh
        omega
  have HE := Lib.hid E
  have HR := Lib.hid R
  have hm1 : 1 ≤ m := by omega
  clear k h R E hY hJ hJx hT hK h0 hlp1 hlp2 hb hbox
  show CallsIn Fence.wide m Try.prog 49 #[.func (.yield lp) #[] #[], .pointer (some ⟨box, 0, none⟩)] W _
  refine callsIn_of_wp Try.func49 rfl trivial ?_ rfl
  simp only [Try.ntmps49, List.size_toArray, List.length_cons, List.length_nil, Nat.reduceAdd, Nat.reduceSub, Array.replicate_succ, Array.replicate_zero, List.push_toArray, List.append_toArray, List.nil_append, List.cons_append]
  gi_wp2_with (first
    | (refine ⟨trivial, ?_⟩; gi_at_call 50; refine (callsIn_wide.2 HR.out).mono ?_; rintro e w0 ⟨rfl, hr0, hb0⟩; have Hr0 := Lib.hid hr0; have Hb0 := Lib.hid hb0; clear hr0 hb0)
    | (refine ⟨trivial, ?_⟩; gi_at_call 48; refine (callsIn_wide.2 (apart_any _ 0 0 [] [] _ w0 Hr0.out)).mono ?_; rintro e w1 ⟨g, rfl, hg, hG, hb1⟩; have Hg := Lib.hid (Nat.le_trans Hb0.out.size hg); have HG := Lib.hid hG; have Hb1 := Lib.hid (Hb0.out.trans (hb1.mono Hb0.out.size)); clear hg hG hb1)
    | (refine ⟨trivial, ?_⟩; gi_at_call 51; refine (HE.out w0 _ _ g Hb0.out Hr0.out Hb1.out Hg.out HG.out).mono ?_; rintro e w2 ⟨⟨v, rfl⟩, hq⟩; have Hq := Lib.hid hq; clear hq))
  go_end0
  exact ⟨⟨_, rfl⟩, Hq.out⟩
/-- All, asked of no row. -/
theorem All_non (p : Option Addr) (w : World) (h : Non w (.pointer p)) :
    Calls Try.prog 36 #[.pointer p] w fun e w' => ∃ box, e = .returned (.func (.func 49) #[] #[.pointer (some ⟨box, 0, none⟩)]) ∧ Below w.heap.size w w' ∧
      ∀ m w'', 2 ≤ m → Below w'.heap.size w' w'' → SeqC Fence.wide m Try.prog 49 (fun lp => #[] ++ #[.func (.yield lp) #[] #[]] ++ #[.pointer (some ⟨box, 0, none⟩)]) 0 (els []) (fun _ => False) w'' := by
  refine (All_any p w).mono ?_
  rintro e w' ⟨rfl, rfl⟩
  have hb0 := (Below.refl w.heap.size w).alloc (Nat.le_refl _) (.cells #[.pointer p] 42)
  exact ⟨_, rfl, hb0, fun m w'' hm hb => seq_non m hm _ (.pointer p) w'' ((Blk.new w _ [_]).keep hb) ((h.keep hb0).keep hb)⟩
end Go.Proofs.Ytkcghcoacjpbkaa.FL
