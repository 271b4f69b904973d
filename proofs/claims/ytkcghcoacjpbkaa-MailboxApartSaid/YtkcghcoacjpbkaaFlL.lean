/- Package fifo's rows of uint32 gone through: All's function, as a function that is ranged over. -/
import Derived.Test.YtkcghcoacjpbkaaFkL
namespace Go.Proofs.Ytkcghcoacjpbkaa.FL
open Go.RowKit Go.Shelf Fifo
set_option linter.unusedVariables false
attribute [local go_sem] Oper.semAt_some

theorem yieldAt_any {n n' : Nat} {P : Program} {l : Nat} {args : Array Value} {W : World} {R : Ending → World → Prop} (h : YieldAt Fence.wide n P l args W R) : YieldAt Fence.wide n' P l args W R := by
  obtain ⟨fn, tmps, assign, body, hy, hr⟩ := h
  exact ⟨fn, tmps, assign, body, hy, ⟨trivial, fun c cs _ => hr.2 c cs (room_wide _)⟩⟩

set_option maxRecDepth 100000 in
set_option maxHeartbeats 1000000 in
theorem seq_row (m : Nat) (hm : 2 ≤ m) (box b room f : Nat) (l vs : List Value) (pv : Value) (w : World) (hbox : Blk w box 42 [.pointer (some ⟨b, 0, none⟩)]) (h : Fif w b room l pv f vs) :
    SeqC Fence.wide m Try.prog 49 (fun lp => #[] ++ #[.func (.yield lp) #[] #[]] ++ #[.pointer (some ⟨box, 0, none⟩)]) l.length (els l) (fun _ => False) w := by
  intro lp J Jx T0 W hb hlp1 hlp2 hJ hJx hT hK hY h0
  have k := h.keep hb
  have q0 := (hbox.keep hb).at 0 rfl
  have R := row_some b room f l vs pv W k
  have P := apart_any b room f l vs pv W k
  have hl4 : l.length ≤ 4000 := by have := k.ring.1; have := k.few; omega
  obtain ⟨n, hn⟩ : ∃ n, l.length = n := ⟨_, rfl⟩
  rw [hn] at P
  have HR := Lib.hid R
  have HP := Lib.hid P
  have E : ∀ (w1 : World) (g : Nat), Below W.heap.size W w1 → W.heap.size ≤ g → Blk w1 g 28 l →
      CallsIn Fence.wide (m - 1) Try.prog 51 #[.pointer (some ⟨w1.heap.size, 0, none⟩), .func (.yield lp) #[] #[]] (w1.alloc (.cells #[.int .i64 (room : Nat), .slice (some ⟨g, 0, none⟩) n n, .int .i64 0, .int .i64 (n : Nat)] 71))
        fun e W' => (∃ v, e = .returned v) ∧ ∃ T', (J n T' W' ∨ ∃ k, k < n ∧ Jx (k + 1) T' W') := by
    intro w1 g hb1 hg hG
    rw [← hn]
    have hb2 : Below W.heap.size W (w1.alloc (.cells #[.int .i64 (room : Nat), .slice (some ⟨g, 0, none⟩) l.length l.length, .int .i64 0, .int .i64 (l.length : Nat)] 71)) := hb1.alloc hb1.size _
    have hgl := hG.lt
    have hs := hb1.size
    refine each_seq (m - 1) (by omega) w1.heap.size 0 71 [.int .i64 (room : Nat), .slice (some ⟨g, 0, none⟩) l.length l.length, .int .i64 0, .int .i64 (l.length : Nat)] l l (.slice (some ⟨g, 0, none⟩) l.length l.length) _
      (Blk.new w1 _ _) rfl rfl rfl (.inr ⟨g, rfl, hG.alloc _⟩) (ringL_self l) hl4 lp J Jx T0 _ (Below.refl _ _) ?_ (by simp; omega) hJ hJx hT ?_ (fun k T X hk hj => yieldAt_any (hY k T X hk hj)) (hJ _ _ _ _ h0 hb2)
    · rintro (hh | hh)
      · omega
      · simp [PB, Value.ownBlock] at hh
        omega
    · intro j hj hh
      have := hT _ _ _ _ h0 hj
      rcases hh with hh | hh
      · omega
      · simp [PB, Value.ownBlock] at hh
        omega
  have HE := Lib.hid E
  have hm1 : 1 ≤ m := by omega
  rw [hn]
  clear k h R P E hY hJ hJx hT hK h0 hl4 hn hlp1 hlp2 hb hbox
  show CallsIn Fence.wide m Try.prog 49 #[.func (.yield lp) #[] #[], .pointer (some ⟨box, 0, none⟩)] W _
  refine callsIn_of_wp Try.func49 rfl trivial ?_ rfl
  simp only [Try.ntmps49, List.size_toArray, List.length_cons, List.length_nil, Nat.reduceAdd, Nat.reduceSub, Array.replicate_succ, Array.replicate_zero, List.push_toArray, List.append_toArray, List.nil_append, List.cons_append]
  gi_wp2_with (first
    | (refine ⟨trivial, ?_⟩; gi_at_call 50; refine (callsIn_wide.2 HR.out).mono ?_; rintro e w1 ⟨rfl, rfl⟩)
    | (refine ⟨trivial, ?_⟩; gi_at_call 48; refine (callsIn_wide.2 HP.out).mono ?_; rintro e w1 ⟨g, rfl, hg, hG, hb1⟩; have Hg := Lib.hid hg; have HG := Lib.hid hG; have Hb1 := Lib.hid hb1; clear hg hG hb1)
    | (refine ⟨trivial, ?_⟩; gi_at_call 51; refine (HE.out _ g Hb1.out Hg.out HG.out).mono ?_; rintro e w2 ⟨⟨v, rfl⟩, hq⟩; have Hq := Lib.hid hq; clear hq))

  go_end0
  exact ⟨⟨_, rfl⟩, Hq.out⟩
end Go.Proofs.Ytkcghcoacjpbkaa.FL
