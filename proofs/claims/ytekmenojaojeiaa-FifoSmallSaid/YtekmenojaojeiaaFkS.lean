/- Package fifo's rows of string: New, Take, First, Copy, All; what is asked of no row. -/
import Derived.Test.YtekmenojaojeiaaFjS
namespace Go.Proofs.Ytekmenojaojeiaa.FS
open Go.RowKit Go.Shelf Fifo
set_option linter.unusedVariables false
attribute [local go_sem] Oper.semAt_some

theorem rowOf_any (room n : Int) (a : Option Addr) (m k : Nat) (w : World) :
    Calls Try.prog 37 #[.agg #[.int .i64 room, .slice a m k, .int .i64 0, .int .i64 n]] w fun e w' => ∃ c, e = .returned (.pointer (some ⟨c, 0, none⟩)) ∧ w.heap.size ≤ c ∧
      Blk w' c 68 [.int .i64 room, .slice a m k, .int .i64 0, .int .i64 n, .pointer (some ⟨c, 0, none⟩)] ∧ Below w.heap.size w w' := by
  have HB := Lib.hid (Blk.new (w.alloc (.cells #[.int .i64 room, .slice a m k, .int .i64 0, .int .i64 n] 65)) 68 [.int .i64 room, .slice a m k, .int .i64 0, .int .i64 n, .pointer (some ⟨w.heap.size + 1, 0, none⟩)])
  rw [World.size_alloc] at HB
  have HL := Lib.hid (((Below.refl w.heap.size w).alloc (Nat.le_refl _) (.cells #[.int .i64 room, .slice a m k, .int .i64 0, .int .i64 n] 65)).alloc (by simp) (.cells #[.int .i64 room, .slice a m k, .int .i64 0, .int .i64 n, .pointer (some ⟨w.heap.size + 1, 0, none⟩)] 68))
  go_enter Try.func37, Try.ntmps37
  go_wp2_with fail
  go_ret
  exact ⟨_, rfl, by omega, HB.out, HL.out⟩
theorem New_neg (room : Int) (w : World) (h : room < 0) :
    Calls Try.prog 17 #[.int .i64 room] w fun e w' => e = .returned (.pointer none) ∧ Below w.heap.size w w' := by
  go_enter Try.func17, Try.ntmps17
  go_wp2_with fail
  go_ret
  exact ⟨rfl, Below.refl _ _⟩
theorem New_row (room : Nat) (w : World) (h : room < 9223372036854775808) :
    Calls Try.prog 17 #[.int .i64 (room : Nat)] w fun e w' => ∃ b, e = .returned (.pointer (some ⟨b, 0, none⟩)) ∧ w.heap.size ≤ b ∧ Fif w' b room [] (.slice none 0 0) 0 [] ∧ Below w.heap.size w w' := by
  have A := fun w => rowOf_any (room : Nat) 0 none 0 0 w
  go_enter Try.func17, Try.ntmps17
  go_wp2_with fail
  refine (A _).mono ?_
  rintro e w1 ⟨c, rfl, hc, hB, hb⟩
  have HB := Lib.hid hB
  clear hB A
  go_wp2_with fail
  go_ret
  exact ⟨c, rfl, hc, ⟨HB.out, .inl ⟨rfl, rfl⟩, ringL_self [], Nat.zero_le _, h, by simp, fun v h => absurd h (by simp)⟩, hb⟩

/-- What is told of the first thing. -/
def fst (l : List Value) : Value := (l.head?).getD (.string (ByteArray.mk #[]))
theorem Take_with (b room f : Nat) (l vs : List Value) (pv x : Value) (is : Bool) (w : World) (h : Fif w b room l pv f vs) (Q : World → Prop)
    (T : ∀ w', Below w.heap.size w w' → Calls Try.prog 43 #[.pointer (some ⟨b, 0, none⟩), .func (.func 44) #[.pointer (some ⟨b, 0, none⟩)] #[]] w' fun e w'' => e = .returned (.tuple #[x, .bool is]) ∧ Q w'') :
    Calls Try.prog 20 #[.pointer (some ⟨b, 0, none⟩)] w fun e w' => e = .returned (.tuple #[x, .bool is]) ∧ Q w' := by
  have hmf : ∀ (fn : Fn) (first cap : Array Value) (w : World), (Instr.makeFunc fn first cap).run Try.prog w = .ok (.func fn first cap) w := fun _ _ _ _ => rfl
  have A := row_some b room f l vs pv w h
  have HT := Lib.hid T
  clear h T
  go_enter Try.func20, Try.ntmps20
  go_wp2_with fail
  refine A.mono ?_
  rintro e w1 ⟨rfl, rfl⟩
  clear A
  go_wp2_with fail
  go_region_with ((first | (go_at_call 43; refine (HT.out _ (by repeat (first | exact Below.refl _ _ | refine Below.drew ?_))).mono ?_; rintro e w2 ⟨rfl, hq⟩)))
  all_goals
    have Hq := Lib.hid hq
    clear hq HT
    go_wp2_with fail
    go_ret2
    exact ⟨rfl, Hq.out⟩
theorem Take_row (b room f : Nat) (l vs : List Value) (pv : Value) (w : World) (h : Fif w b room l pv f vs) :
    Calls Try.prog 20 #[.pointer (some ⟨b, 0, none⟩)] w fun e w' => e = .returned (.tuple #[fst l, .bool (!l.isEmpty)]) ∧
      ∃ f' vs', Fif w' b room l.tail pv f' vs' ∧ Only (RB b pv) w w' := by
  cases l with
  | nil =>
    refine Take_with b room f _ vs pv _ _ w h _ (fun w' hb => ?_)
    refine (told_none b room f vs pv _ w' (h.keep hb)).mono ?_
    rintro e w2 ⟨rfl, hb2⟩
    exact ⟨rfl, f, vs, (h.keep hb).keep hb2, (Only.of_below hb).trans (Only.of_below hb2)⟩
  | cons x t =>
    refine Take_with b room f _ vs pv _ _ w h _ (fun w' hb => ?_)
    refine told_some b room f _ _ vs pv x w' (h.keep hb) (by simp) _ (.inl rfl) ?_
    refine (take_any b room f t vs pv x w' (h.keep hb)).mono ?_
    rintro e w2 ⟨rfl, f', vs', h1, h2⟩
    exact ⟨rfl, f', vs', h1, (Only.of_below hb).trans h2⟩
theorem All_any (p : Option Addr) (w : World) :
    Calls Try.prog 19 #[.pointer p] w fun e w' => e = .returned (.func (.func 40) #[] #[.pointer (some ⟨w.heap.size, 0, none⟩)]) ∧ w' = w.alloc (.cells #[.pointer p] 40) := by
  have hmf : ∀ (fn : Fn) (first cap : Array Value) (w : World), (Instr.makeFunc fn first cap).run Try.prog w = .ok (.func fn first cap) w := fun _ _ _ _ => rfl
  go_enter Try.func19, Try.ntmps19
  go_wp2_with fail
  go_ret
  exact ⟨rfl, rfl⟩
end Go.Proofs.Ytekmenojaojeiaa.FS
