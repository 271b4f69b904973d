/- Package fifo's rows of uint32: New, Take, First, Copy, All; what is asked of no row. -/
import Derived.Test.YtkcghcoacjpbkaaFjL
namespace Go.Proofs.Ytkcghcoacjpbkaa.FL
open Go.RowKit Go.Shelf Fifo
set_option linter.unusedVariables false
attribute [local go_sem] Oper.semAt_some

theorem rowOf_any (room n : Int) (a : Option Addr) (m k : Nat) (w : World) :
    Calls Try.prog 38 #[.agg #[.int .i64 room, .slice a m k, .int .i64 0, .int .i64 n]] w fun e w' => ∃ c, e = .returned (.pointer (some ⟨c, 0, none⟩)) ∧ w.heap.size ≤ c ∧
      Blk w' c 76 [.int .i64 room, .slice a m k, .int .i64 0, .int .i64 n, .pointer (some ⟨c, 0, none⟩)] ∧ Below w.heap.size w w' := by
  have HB := Lib.hid (Blk.new (w.alloc (.cells #[.int .i64 room, .slice a m k, .int .i64 0, .int .i64 n] 71)) 76 [.int .i64 room, .slice a m k, .int .i64 0, .int .i64 n, .pointer (some ⟨w.heap.size + 1, 0, none⟩)])
  rw [World.size_alloc] at HB
  have HL := Lib.hid (((Below.refl w.heap.size w).alloc (Nat.le_refl _) (.cells #[.int .i64 room, .slice a m k, .int .i64 0, .int .i64 n] 71)).alloc (by simp) (.cells #[.int .i64 room, .slice a m k, .int .i64 0, .int .i64 n, .pointer (some ⟨w.heap.size + 1, 0, none⟩)] 76))
  go_enter Try.func38, Try.ntmps38
  go_wp2_with fail
  go_ret
  exact ⟨_, rfl, by omega, HB.out, HL.out⟩
theorem New_neg (room : Int) (w : World) (h : room < 0) :
    Calls Try.prog 31 #[.int .i64 room] w fun e w' => e = .returned (.pointer none) ∧ Below w.heap.size w w' := by
  go_enter Try.func31, Try.ntmps31
  go_wp2_with fail
  go_ret
  exact ⟨rfl, Below.refl _ _⟩
theorem New_row (room : Nat) (w : World) (h : room < 9223372036854775808) :
    Calls Try.prog 31 #[.int .i64 (room : Nat)] w fun e w' => ∃ b, e = .returned (.pointer (some ⟨b, 0, none⟩)) ∧ w.heap.size ≤ b ∧ Fif w' b room [] (.slice none 0 0) 0 [] ∧ Below w.heap.size w w' := by
  have A := fun w => rowOf_any (room : Nat) 0 none 0 0 w
  go_enter Try.func31, Try.ntmps31
  go_wp2_with fail
  refine (A _).mono ?_
  rintro e w1 ⟨c, rfl, hc, hB, hb⟩
  have HB := Lib.hid hB
  clear hB A
  go_wp2_with fail
  go_ret
  exact ⟨c, rfl, hc, ⟨HB.out, .inl ⟨rfl, rfl⟩, ringL_self [], Nat.zero_le _, h, by simp, fun v h => absurd h (by simp)⟩, hb⟩

/-- What is told of the first thing. -/
def fst (l : List Value) : Value := (l.head?).getD (.int .u32 0)
theorem Take_with (b room f : Nat) (l vs : List Value) (pv x : Value) (is : Bool) (w : World) (h : Fif w b room l pv f vs) (Q : World → Prop)
    (T : ∀ w', Below w.heap.size w w' → Calls Try.prog 56 #[.pointer (some ⟨b, 0, none⟩), .func (.func 57) #[.pointer (some ⟨b, 0, none⟩)] #[]] w' fun e w'' => e = .returned (.tuple #[x, .bool is]) ∧ Q w'') :
    Calls Try.prog 52 #[.pointer (some ⟨b, 0, none⟩)] w fun e w' => e = .returned (.tuple #[x, .bool is]) ∧ Q w' := by
  have hmf : ∀ (fn : Fn) (first cap : Array Value) (w : World), (Instr.makeFunc fn first cap).run Try.prog w = .ok (.func fn first cap) w := fun _ _ _ _ => rfl
  have A := row_some b room f l vs pv w h
  have HT := Lib.hid T
  clear h T
  go_enter Try.func52, Try.ntmps52
  go_wp2_with fail
  refine A.mono ?_
  rintro e w1 ⟨rfl, rfl⟩
  clear A
  go_wp2_with fail
  go_region_with ((first | (go_at_call 56; refine (HT.out _ (by repeat (first | exact Below.refl _ _ | refine Below.drew ?_))).mono ?_; rintro e w2 ⟨rfl, hq⟩)))
  all_goals
    have Hq := Lib.hid hq
    clear hq HT
    go_wp2_with fail
    go_ret2
    exact ⟨rfl, Hq.out⟩
theorem Take_row (b room f : Nat) (l vs : List Value) (pv : Value) (w : World) (h : Fif w b room l pv f vs) :
    Calls Try.prog 52 #[.pointer (some ⟨b, 0, none⟩)] w fun e w' => e = .returned (.tuple #[fst l, .bool (!l.isEmpty)]) ∧
      ∃ f' vs', Fif w' b room l.tail pv f' vs' ∧ Only (RB b pv) w w' := by
  cases l with
  | nil =>
    refine Take_with b room f _ vs pv _ _ w h _ (fun w' hb => ?_)
    refine (told_none b room f vs pv _ w' (h.keep hb)).mono ?_
    rintro e w2 ⟨rfl, hb2⟩
    exact ⟨rfl, f, vs, (h.keep hb).keep hb2, (Only.of_below hb).trans (Only.of_below hb2)⟩
  | cons x t =>
    refine Take_with b room f _ vs pv _ _ w h _ (fun w' hb => ?_)
    refine told_some b room f _ _ vs pv x w' (h.keep hb) (by simp) _ (.inl rfl) ?_
    refine (take_any b room f t vs pv x w' (h.keep hb)).mono ?_
    rintro e w2 ⟨rfl, f', vs', h1, h2⟩
    exact ⟨rfl, f', vs', h1, (Only.of_below hb).trans h2⟩
theorem Copy_row (b room f : Nat) (l vs : List Value) (pv : Value) (w : World) (h : Fif w b room l pv f vs) :
    Calls Try.prog 35 #[.pointer (some ⟨b, 0, none⟩)] w fun e w' => ∃ c pv', e = .returned (.pointer (some ⟨c, 0, none⟩)) ∧ w.heap.size ≤ c ∧ (∀ j, PB pv' j → w.heap.size ≤ j) ∧
      Fif w' c room l pv' 0 l ∧ Below w.heap.size w w' := by
  have A := is_some b room f l vs pv w h
  have P := apart_any b room f l vs pv w h
  have hl4 : l.length ≤ 4000 := by have := h.ring.1; have := h.few; omega
  obtain ⟨n, hn⟩ : ∃ n, l.length = n := ⟨_, rfl⟩
  rw [hn] at P
  have HX := Lib.hid (And.intro h.le (And.intro h.big (And.intro hl4 h.elm)))
  have O := fun w g => rowOf_any (room : Nat) (n : Nat) (some ⟨g, 0, none⟩) n n w
  clear h hl4
  have HP := Lib.hid P
  have HO := Lib.hid O
  have Hn := Lib.hid hn
  clear P O hn
  go_enter Try.func35, Try.ntmps35
  go_wp2_with fail
  refine A.mono ?_
  rintro e w1 ⟨rfl, rfl⟩
  clear A
  go_wp2_with fail
  refine HP.out.mono ?_
  rintro e w1 ⟨g, rfl, hgw, hg, hb⟩
  clear HP
  have Hg := Lib.hid hg
  have Hb := Lib.hid hb
  have Hgw := Lib.hid hgw
  clear hg hb hgw
  go_wp2_with fail
  refine (HO.out _ g).mono ?_
  rintro e w2 ⟨c, rfl, hc, hB, hb2⟩
  have HB := Lib.hid hB
  have Hc := Lib.hid (Nat.le_trans Hb.out.size hc)
  have Hb2 := Lib.hid (Hb.out.trans (hb2.mono Hb.out.size))
  have Hg2 := Lib.hid (Hg.out.keep hb2)
  clear HO hB hc hb2
  go_wp2_with fail
  go_ret
  obtain ⟨r1, r2, r3, r4⟩ := HX.out
  exact ⟨c, .slice (some ⟨g, 0, none⟩) n n, rfl, Hc.out, (fun j hj => by simp [PB, Value.ownBlock] at hj; subst hj; exact Hgw.out), ⟨by rw [Hn.out]; exact HB.out, .inr ⟨g, by rw [Hn.out], Hg2.out⟩, ringL_self l, r1, r2, r3, r4⟩, Hb2.out⟩
theorem All_any (p : Option Addr) (w : World) :
    Calls Try.prog 36 #[.pointer p] w fun e w' => e = .returned (.func (.func 49) #[] #[.pointer (some ⟨w.heap.size, 0, none⟩)]) ∧ w' = w.alloc (.cells #[.pointer p] 42) := by
  have hmf : ∀ (fn : Fn) (first cap : Array Value) (w : World), (Instr.makeFunc fn first cap).run Try.prog w = .ok (.func fn first cap) w := fun _ _ _ _ => rfl
  go_enter Try.func36, Try.ntmps36
  go_wp2_with fail
  go_ret
  exact ⟨rfl, rfl⟩
end Go.Proofs.Ytkcghcoacjpbkaa.FL
