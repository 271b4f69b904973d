/- Put together: S6t, S6r, S6u, S6v. -/
import Derived.Test.YtmdepkehpohgeaaGreatS6a
import Derived.Test.YtmdepkehpohgeaaGreatBa
import Derived.Test.YtmdepkehpohgeaaGreatFa
import Derived.Test.YtmdepkehpohgeaaGreatS6e
import Derived.Laws.OwnMore
import Derived.Deep.QuietTactic
import Derived.Test.YtmdepkehpohgeaaGreatBn
import Derived.Test.YtmdepkehpohgeaaGreatVc
import Derived.Maps.AppendAt
/- The document's time of a kind (as stage 15's). -/
namespace Go.Proofs.YtmdepkehpohgeaaGreat.Scr
open Go.RowKit Go.Maps Go.ChangeShapes Go.WideShapes Go.ChangeAt Fifo Orow Word
set_option linter.unusedVariables false

theorem rTime_no (k : Int) (w : World) (h : ¬ (1 ≤ k ∧ k ≤ 6)) : Calls Tryz.prog 92 #[.int .i64 k] w fun z w' => z = .returned (.int .i64 0) ∧ Below w.heap.size w w' := by
  by_cases h1 : k < 1
  · have d1 : decide (k < 1) = true := decide_eq_true h1
    clear h h1
    go_enter Tryz.func92, Tryz.ntmps92
    go_wp2_with fail
    go_ret
    exact ⟨rfl, Below.refl _ _⟩
  · have d1 : decide (k < 1) = false := decide_eq_false h1
    have d2 : decide (6 < k) = true := decide_eq_true (by omega)
    clear h h1
    go_enter Tryz.func92, Tryz.ntmps92
    go_wp2_with fail
    go_ret
    exact ⟨rfl, Below.refl _ _⟩
theorem rTime_1 (w : World) : Calls Tryz.prog 92 #[.int .i64 1] w fun z w' => z = .returned (.int .i64 16) ∧ Below w.heap.size w w' := by
  go_enter Tryz.func92, Tryz.ntmps92
  go_wp2_with fail
  go_ret
  exact ⟨rfl, (Below.refl _ _).alloc (Nat.le_refl _) _⟩
theorem rTime_2 (w : World) : Calls Tryz.prog 92 #[.int .i64 2] w fun z w' => z = .returned (.int .i64 2) ∧ Below w.heap.size w w' := by
  go_enter Tryz.func92, Tryz.ntmps92
  go_wp2_with fail
  go_ret
  exact ⟨rfl, (Below.refl _ _).alloc (Nat.le_refl _) _⟩
theorem rTime_3 (w : World) : Calls Tryz.prog 92 #[.int .i64 3] w fun z w' => z = .returned (.int .i64 4) ∧ Below w.heap.size w w' := by
  go_enter Tryz.func92, Tryz.ntmps92
  go_wp2_with fail
  go_ret
  exact ⟨rfl, (Below.refl _ _).alloc (Nat.le_refl _) _⟩
theorem rTime_4 (w : World) : Calls Tryz.prog 92 #[.int .i64 4] w fun z w' => z = .returned (.int .i64 3) ∧ Below w.heap.size w w' := by
  go_enter Tryz.func92, Tryz.ntmps92
  go_wp2_with fail
  go_ret
  exact ⟨rfl, (Below.refl _ _).alloc (Nat.le_refl _) _⟩
theorem rTime_5 (w : World) : Calls Tryz.prog 92 #[.int .i64 5] w fun z w' => z = .returned (.int .i64 2) ∧ Below w.heap.size w w' := by
  go_enter Tryz.func92, Tryz.ntmps92
  go_wp2_with fail
  go_ret
  exact ⟨rfl, (Below.refl _ _).alloc (Nat.le_refl _) _⟩
theorem rTime_6 (w : World) : Calls Tryz.prog 92 #[.int .i64 6] w fun z w' => z = .returned (.int .i64 5) ∧ Below w.heap.size w w' := by
  go_enter Tryz.func92, Tryz.ntmps92
  go_wp2_with fail
  go_ret
  exact ⟨rfl, (Below.refl _ _).alloc (Nat.le_refl _) _⟩
theorem rTime_any (k : Int) (w : World) : Calls Tryz.prog 92 #[.int .i64 k] w fun z w' => z = .returned (.int .i64 (timeV k)) ∧ Below w.heap.size w w' := by
  by_cases h : 1 ≤ k ∧ k ≤ 6
  · have hc : k = 1 ∨ k = 2 ∨ k = 3 ∨ k = 4 ∨ k = 5 ∨ k = 6 := by omega
    rcases hc with rfl | rfl | rfl | rfl | rfl | rfl
    · exact rTime_1 w
    · exact rTime_2 w
    · exact rTime_3 w
    · exact rTime_4 w
    · exact rTime_5 w
    · exact rTime_6 w
  · have e : timeV k = 0 := by
      unfold timeV
      rw [if_neg (by omega), if_neg (by omega), if_neg (by omega), if_neg (by omega), if_neg (by omega), if_neg (by omega)]
    rw [e]
    exact rTime_no k w h
end Go.Proofs.YtmdepkehpohgeaaGreat.Scr
/- The document's row of holds. -/
namespace Go.Proofs.YtmdepkehpohgeaaGreat.Scr
open Go.RowKit Go.Maps Go.ChangeShapes Go.WideShapes Go.ChangeAt Fifo Orow Word
set_option linter.unusedVariables false

def kv (l : List Int) : List Value := l.map fun x => .int .i64 x
/-- The document's row in block r. -/
structure RefH (w : World) (r : Nat) (s : RS) (ak al : Option Addr) (ck cl : Nat) : Prop where
  blk : Blk w r 72 [.slice ak s.H.length ck, .slice al s.H.length cl]
  kin : w.ownsRow 0 42 1 (.slice ak s.H.length ck) s.H.length (kv s.K)
  hol : w.ownsRow 0 52 3 (.slice al s.H.length cl) s.H.length (flHd s.H)
  rk : ¬ PB (.slice ak s.H.length ck) r
  rl : ¬ PB (.slice al s.H.length cl) r
  kl : ∀ j, PB (.slice ak s.H.length ck) j → ¬ PB (.slice al s.H.length cl) j
  ok : OkS s
def RefS (w : World) (r : Nat) (s : RS) (O : Nat → Prop) : Prop := ∃ ak al ck cl, RefH w r s ak al ck cl ∧ ∀ j, O j ↔ (j = r ∨ PB (.slice ak s.H.length ck) j ∨ PB (.slice al s.H.length cl) j)
theorem pb_ba {a : Option Addr} {n c j : Nat} (h : BA a j) : PB (.slice a n c) j := by
  obtain ⟨b, rfl, rfl⟩ := h
  rfl
theorem ba_pb {a : Option Addr} {n c j : Nat} (h : PB (.slice a n c) j) : BA a j := by
  cases a with
  | none => simp [PB, Value.ownBlock] at h
  | some b =>
    have : b.block = j := Option.some.inj h
    rw [← this]
    exact ⟨b, rfl, rfl⟩
/-- A hold of it. -/
theorem RefH.at {w : World} {r : Nat} {s : RS} {ak al : Option Addr} {ck cl p : Nat} (h : RefH w r s ak al ck cl) (hp : p < s.H.length) : ∃ g, al = some ⟨g, 0, none⟩ ∧ w.cell? ⟨g, p * 3, none⟩ = some (.int .i64 s.H[p]!.o) ∧ w.cell? ⟨g, p * 3 + 1, none⟩ = some (.int .i64 s.H[p]!.l) ∧ w.cell? ⟨g, p * 3 + 2, none⟩ = some (.int .i64 s.H[p]!.n) := by
  have hr := rowHd_of_own (d := s.H) rfl (fun j hj => okHd_of (h.ok.hol j hj)) h.hol
  obtain ⟨g, rfl⟩ := own_some h.hol (.inl (by omega))
  obtain ⟨b, off, e, c⟩ := hr.2.2 p hp
  simp only [Option.some.injEq, Addr.mk.injEq, and_true] at e
  obtain ⟨rfl, rfl⟩ := e
  have c0 := c.c0
  have c1 := c.c1
  have c2 := c.c2
  rw [Nat.zero_add] at c0 c1 c2
  exact ⟨_, rfl, c0, c1, c2⟩
theorem flHd_o : ∀ (l : List Hd) (p : Nat) (x : Int), p < l.length → (flHd l).set (p * 3) (.int .i64 x) = flHd (l.set p ⟨x, l[p]!.l, l[p]!.n⟩)
  | [], p, x, h => by simp at h
  | y :: t, 0, x, h => by simp [flHd, encHd]
  | y :: t, p + 1, x, h => by
    have e : flHd (y :: t) = encHd y ++ flHd t := by simp [flHd]
    have e3 : (encHd y).length = 3 := rfl
    have ih := flHd_o t p x (by simpa using h)
    rw [e, List.set_append_right _ _ (by rw [e3]; omega), show (p + 1) * 3 - (encHd y).length = p * 3 by rw [e3]; omega, ih]
    simp [flHd]
theorem flHd_l : ∀ (l : List Hd) (p : Nat) (x : Int), p < l.length → (flHd l).set (p * 3 + 1) (.int .i64 x) = flHd (l.set p ⟨l[p]!.o, x, l[p]!.n⟩)
  | [], p, x, h => by simp at h
  | y :: t, 0, x, h => by simp [flHd, encHd]
  | y :: t, p + 1, x, h => by
    have e : flHd (y :: t) = encHd y ++ flHd t := by simp [flHd]
    have e3 : (encHd y).length = 3 := rfl
    have ih := flHd_l t p x (by simpa using h)
    rw [e, List.set_append_right _ _ (by rw [e3]; omega), show (p + 1) * 3 + 1 - (encHd y).length = p * 3 + 1 by rw [e3]; omega, ih]
    simp [flHd]
theorem flHd_app (l m : List Hd) : flHd (l ++ m) = flHd l ++ flHd m := by simp [flHd]
theorem flHd_put {l : List Hd} {n : Nat} {g : Hd} (h : n < l.length) : (flHd l).take (n * 3) ++ encHd g ++ (flHd l).drop (n * 3 + 3) = flHd (l.set n g) := by
  have hs : l = l.take n ++ l[n] :: l.drop (n + 1) := by rw [List.getElem_cons_drop, List.take_append_drop]
  have ht : (l.take n).length = n := by rw [List.length_take]; omega
  have e : l.set n g = l.take n ++ g :: l.drop (n + 1) := by
    conv => lhs; rw [hs]
    rw [List.set_append_right _ _ (by omega), ht, Nat.sub_self, List.set_cons_zero]
  have e1 : flHd l = flHd (l.take n) ++ (encHd l[n] ++ flHd (l.drop (n + 1))) := by
    conv => lhs; rw [hs]
    rw [flHd_app]; rfl
  have el : (flHd (l.take n)).length = n * 3 := by rw [flHd_len, ht]
  rw [e, flHd_app, e1, List.take_append_of_le_length (by omega), List.take_of_length_le (by omega), List.drop_append, el, List.drop_of_length_le (by omega), show n * 3 + 3 - n * 3 = 3 by omega]
  simp [flHd, encHd]
theorem RefH.only {S : Nat → Prop} {w w' : World} {r : Nat} {s : RS} {ak al : Option Addr} {ck cl : Nat} (h : RefH w r s ak al ck cl) (ho : Only S w w') (h1 : ¬ S r) (h2 : ∀ j, PB (.slice ak s.H.length ck) j → ¬ S j) (h3 : ∀ j, PB (.slice al s.H.length cl) j → ¬ S j) : RefH w' r s ak al ck cl :=
  ⟨h.blk.only ho h1, own_only h.kin ho (fun j hj => h2 j (pb_ba hj)), own_only h.hol ho (fun j hj => h3 j (pb_ba hj)), h.rk, h.rl, h.kl, h.ok⟩
theorem RefS.only {S O : Nat → Prop} {w w' : World} {r : Nat} {s : RS} (h : RefS w r s O) (ho : Only S w w') (hn : ∀ j, O j → ¬ S j) : RefS w' r s O := by
  obtain ⟨ak, al, ck, cl, h, e⟩ := h
  exact ⟨ak, al, ck, cl, h.only ho (hn r ((e r).2 (.inl rfl))) (fun j hj => hn j ((e j).2 (.inr (.inl hj)))) (fun j hj => hn j ((e j).2 (.inr (.inr hj)))), e⟩
theorem RefS.keep {O : Nat → Prop} {w w' : World} {r : Nat} {s : RS} (h : RefS w r s O) (hb : Below w.heap.size w w') : RefS w' r s O :=
  h.only (S := fun _ => False) (Only.of_below hb) (fun _ _ e => e)
theorem RefS.lt {O : Nat → Prop} {w : World} {r : Nat} {s : RS} (h : RefS w r s O) : ∀ j, O j → j < w.heap.size := by
  obtain ⟨ak, al, ck, cl, h, e⟩ := h
  intro j hj
  rcases (e j).1 hj with rfl | hj | hj
  · exact h.blk.lt
  · exact (own_lt h.kin j (ba_pb hj)).2
  · exact (own_lt h.hol j (ba_pb hj)).2
theorem RefS.ok {O : Nat → Prop} {w : World} {r : Nat} {s : RS} (h : RefS w r s O) : OkS s := by
  obtain ⟨ak, al, ck, cl, h, e⟩ := h
  exact h.ok
/-- What a method leaves. -/
def LeftS (w w' : World) (r : Nat) (s : RS) (O : Nat → Prop) : Prop := ∃ O', RefS w' r s O' ∧ Only O w w' ∧ ∀ j, O' j → O j ∨ w.heap.size ≤ j
theorem LeftS.same {O : Nat → Prop} {w w' : World} {r : Nat} {s : RS} (h : RefS w r s O) (hb : Below w.heap.size w w') : LeftS w w' r s O := ⟨O, h.keep hb, Only.of_below hb, fun j hj => .inl hj⟩
/-- Its holds have turned. -/
theorem RefH.put {w X : World} {r g : Nat} {s : RS} {ak : Option Addr} {ck cl : Nat} {H' : List Hd} (h : RefH w r s ak (some ⟨g, 0, none⟩) ck cl) (ho : Only (fun j => j = g) w X) (hl : H'.length = s.H.length)
    (hr : X.ownsRow 0 52 3 (.slice (some ⟨g, 0, none⟩) s.H.length cl) s.H.length (flHd H')) (hok : OkS ⟨s.K, H'⟩) : RefH X r ⟨s.K, H'⟩ ak (some ⟨g, 0, none⟩) ck cl := by
  have pg : PB (.slice (some ⟨g, 0, none⟩) s.H.length cl) g := rfl
  have e : ∀ j, PB (.slice (some ⟨g, 0, none⟩) s.H.length cl) j → j = g := fun j hj => (Option.some.inj hj).symm
  refine ⟨?_, ?_, ?_, ?_, ?_, ?_, hok⟩ <;> simp only [hl]
  · exact h.blk.only ho (fun e' => h.rl (by have e' : r = g := e'; rw [e']; exact pg))
  · exact own_only h.kin ho (fun j hj e' => h.kl j (pb_ba hj) (by have e' : j = g := e'; rw [e']; exact pg))
  · exact hr
  · exact h.rk
  · exact h.rl
  · exact h.kl
theorem RefH.left {w W X : World} {r g : Nat} {s : RS} {ak : Option Addr} {ck cl : Nat} {H' : List Hd} {O : Nat → Prop} (h : RefH w r s ak (some ⟨g, 0, none⟩) ck cl) (e : ∀ j, O j ↔ (j = r ∨ PB (.slice ak s.H.length ck) j ∨ PB (.slice (some ⟨g, 0, none⟩) s.H.length cl) j)) (hb : Below w.heap.size w W) (ho : Only (fun j => j = g) W X) (hl : H'.length = s.H.length)
    (hr : X.ownsRow 0 52 3 (.slice (some ⟨g, 0, none⟩) s.H.length cl) s.H.length (flHd H')) (hok : OkS ⟨s.K, H'⟩) : LeftS w X r ⟨s.K, H'⟩ O := by
  have hW : RefH W r s ak (some ⟨g, 0, none⟩) ck cl := h.only (S := fun _ => False) (Only.of_below hb) (fun e => e) (fun _ _ e => e) (fun _ _ e => e)
  have hg : g < w.heap.size := (own_lt h.hol g (ba_self _ _)).2
  refine ⟨O, ⟨ak, some ⟨g, 0, none⟩, ck, cl, hW.put ho hl hr hok, fun j => ?_⟩, ?_, fun j hj => .inl hj⟩
  · simp only [hl]; exact e j
  · refine (Only.of_below hb).far (ho.mono fun j _ e' => e') (fun j hj e' => (e j).2 (.inr (.inr ?_)))
    have e' : j = g := e'
    rw [e']
    rfl
theorem rOwner_low (r : Nat) (n : Int) (s : RS) (O : Nat → Prop) (w : World) (h : RefS w r s O) (hn : n < 0) :
    Calls Tryz.prog 33 #[.pointer (some ⟨r, 0, none⟩), .int .i64 n] w fun e w' => e = .returned (.tuple #[.int .i64 0, .bool false]) ∧ Below w.heap.size w w' := by
  have d1 : decide (n < 0) = true := decide_eq_true hn
  clear h hn
  go_enter Tryz.func33, Tryz.ntmps33
  go_wp2_with fail
  go_ret2
  exact ⟨rfl, Below.refl _ _⟩
theorem rOwner_high (r : Nat) (n : Int) (s : RS) (O : Nat → Prop) (w : World) (h : RefS w r s O) (h0 : 0 ≤ n) (hn : (s.H.length : Int) ≤ n) :
    Calls Tryz.prog 33 #[.pointer (some ⟨r, 0, none⟩), .int .i64 n] w fun e w' => e = .returned (.tuple #[.int .i64 0, .bool false]) ∧ Below w.heap.size w w' := by
  obtain ⟨ak, al, ck, cl, h, -⟩ := h
  have b1 := h.blk.at 1 rfl
  obtain ⟨m, hm⟩ : ∃ m, s.H.length = m := ⟨_, rfl⟩
  rw [hm] at b1 hn
  have d1 : decide (n < 0) = false := decide_eq_false (by omega)
  have d2 : decide ((m : Int) ≤ n) = true := decide_eq_true hn
  clear h h0 hn hm
  go_enter Tryz.func33, Tryz.ntmps33
  go_wp2_with fail
  go_ret2
  exact ⟨rfl, Below.refl _ _⟩
theorem rOwner_yes (r p : Nat) (s : RS) (O : Nat → Prop) (w : World) (h : RefS w r s O) (hp : p < s.H.length) (ho : 0 ≤ s.H[p]!.o) :
    Calls Tryz.prog 33 #[.pointer (some ⟨r, 0, none⟩), .int .i64 (p : Nat)] w fun e w' => e = .returned (.tuple #[.int .i64 s.H[p]!.o, .bool true]) ∧ Below w.heap.size w w' := by
  obtain ⟨ak, al, ck, cl, h, -⟩ := h
  obtain ⟨g, rfl, c0, c1, c2⟩ := h.at hp
  have b1 := h.blk.at 1 rfl
  obtain ⟨m, hm⟩ : ∃ m, s.H.length = m := ⟨_, rfl⟩
  rw [hm] at b1
  obtain ⟨o, hoo⟩ : ∃ o, s.H[p]!.o = o := ⟨_, rfl⟩
  rw [hoo] at c0 ho
  try rw [hoo]
  have d1 : decide ((p : Int) < 0) = false := decide_eq_false (by omega)
  have d2 : decide ((m : Int) ≤ (p : Int)) = false := decide_eq_false (by omega)
  have d2' : decide (m ≤ p) = false := decide_eq_false (by omega)
  have d3 : decide (o < 0) = false := by simp; omega
  have i1 : (0 : Int) ≤ (p : Int) := by omega
  have i2 : (p : Int) < (m : Int) := by omega
  clear h hp hm hoo ho
  go_enter Tryz.func33, Tryz.ntmps33
  go_wp2_with fail
  go_ret2
  exact ⟨rfl, Below.refl _ _⟩
theorem rOwner_no (r p : Nat) (s : RS) (O : Nat → Prop) (w : World) (h : RefS w r s O) (hp : p < s.H.length) (ho : s.H[p]!.o < 0) :
    Calls Tryz.prog 33 #[.pointer (some ⟨r, 0, none⟩), .int .i64 (p : Nat)] w fun e w' => e = .returned (.tuple #[.int .i64 0, .bool false]) ∧ Below w.heap.size w w' := by
  obtain ⟨ak, al, ck, cl, h, -⟩ := h
  obtain ⟨g, rfl, c0, c1, c2⟩ := h.at hp
  have b1 := h.blk.at 1 rfl
  obtain ⟨m, hm⟩ : ∃ m, s.H.length = m := ⟨_, rfl⟩
  rw [hm] at b1
  obtain ⟨o, hoo⟩ : ∃ o, s.H[p]!.o = o := ⟨_, rfl⟩
  rw [hoo] at c0 ho
  try rw [hoo]
  have d1 : decide ((p : Int) < 0) = false := decide_eq_false (by omega)
  have d2 : decide ((m : Int) ≤ (p : Int)) = false := decide_eq_false (by omega)
  have d2' : decide (m ≤ p) = false := decide_eq_false (by omega)
  have d3 : decide (o < 0) = true := by simp; omega
  have i1 : (0 : Int) ≤ (p : Int) := by omega
  have i2 : (p : Int) < (m : Int) := by omega
  clear h hp hm hoo ho
  go_enter Tryz.func33, Tryz.ntmps33
  go_wp2_with fail
  go_ret2
  exact ⟨rfl, Below.refl _ _⟩
theorem rOwner_any (r : Nat) (n : Int) (s : RS) (O : Nat → Prop) (w : World) (h : RefS w r s O) :
    Calls Tryz.prog 33 #[.pointer (some ⟨r, 0, none⟩), .int .i64 n] w fun e w' => e = .returned (.tuple #[.int .i64 (ownerV s n).1, .bool (ownerV s n).2]) ∧ Below w.heap.size w w' := by
  unfold ownerV isN
  by_cases h0 : n < 0
  · rw [decide_eq_false (show ¬ (0 ≤ n ∧ n < (s.H.length : Int)) by omega)]
    exact rOwner_low r n s O w h h0
  by_cases h1 : (s.H.length : Int) ≤ n
  · rw [decide_eq_false (show ¬ (0 ≤ n ∧ n < (s.H.length : Int)) by omega)]
    exact rOwner_high r n s O w h (by omega) h1
  obtain ⟨p, rfl⟩ := Int.eq_ofNat_of_zero_le (show 0 ≤ n by omega)
  rw [decide_eq_true (show 0 ≤ (p : Int) ∧ (p : Int) < (s.H.length : Int) by omega), Bool.true_and]
  unfold at'
  rw [Int.toNat_natCast]
  by_cases ho : 0 ≤ s.H[p]!.o
  · rw [decide_eq_true ho]
    exact rOwner_yes r p s O w h (by omega) ho
  · rw [decide_eq_false ho]
    exact rOwner_no r p s O w h (by omega) (by omega)
theorem free_any (w : World) :
    Calls Tryz.prog 29 #[] w fun e w' => e = .returned (hV freeH) ∧ Below w.heap.size w w' := by
  go_enter Tryz.func29, Tryz.ntmps29
  go_wp2_with fail
  have hb := Blk.new w 52 [.int .i64 (-1), .int .i64 0, .int .i64 (-1)]
  have r0 := hb.at 0 rfl
  have r1 := hb.at 1 rfl
  have r2 := hb.at 2 rfl
  refine bodyPost_ret (v := hV freeH) ?_ rfl ⟨rfl, (Below.refl _ _).alloc (Nat.le_refl _) _⟩
  simp [results, Tryz.results29, go_sem, freeH]
theorem rGive_r0 (r : Nat) (n x : Int) (s : RS) (O : Nat → Prop) (w : World) (h : RefS w r s O) (h0 : n < 0) :
    Calls Tryz.prog 37 #[.pointer (some ⟨r, 0, none⟩), .int .i64 n, .int .i64 x] w fun e w' => e = .returned (.int .i64 6) ∧ Below w.heap.size w w' := by
  obtain ⟨ak, al, ck, cl, h, -⟩ := h
  have b1 := h.blk.at 1 rfl
  obtain ⟨m, hm⟩ : ∃ m, s.H.length = m := ⟨_, rfl⟩
  rw [hm] at b1
  have d1 : decide (n < 0) = true := decide_eq_true h0
  clear h hm h0
  go_enter Tryz.func37, Tryz.ntmps37
  go_wp2_with fail
  go_ret
  exact ⟨rfl, Below.refl _ _⟩
theorem rGive_r1 (r : Nat) (n x : Int) (s : RS) (O : Nat → Prop) (w : World) (h : RefS w r s O) (h0 : 0 ≤ n) (h1 : (s.H.length : Int) ≤ n) :
    Calls Tryz.prog 37 #[.pointer (some ⟨r, 0, none⟩), .int .i64 n, .int .i64 x] w fun e w' => e = .returned (.int .i64 6) ∧ Below w.heap.size w w' := by
  obtain ⟨ak, al, ck, cl, h, -⟩ := h
  have b1 := h.blk.at 1 rfl
  obtain ⟨m, hm⟩ : ∃ m, s.H.length = m := ⟨_, rfl⟩
  rw [hm] at b1 h1
  have d1 : decide (n < 0) = false := decide_eq_false (by omega)
  have d2 : decide ((m : Int) ≤ n) = true := decide_eq_true h1
  clear h hm h0 h1
  go_enter Tryz.func37, Tryz.ntmps37
  go_wp2_with fail
  go_ret
  exact ⟨rfl, Below.refl _ _⟩
theorem rGive_r2 (r : Nat) (n x : Int) (s : RS) (O : Nat → Prop) (w : World) (h : RefS w r s O) (h0 : 0 ≤ n) (h1 : n < (s.H.length : Int)) (h2 : x < 0) :
    Calls Tryz.prog 37 #[.pointer (some ⟨r, 0, none⟩), .int .i64 n, .int .i64 x] w fun e w' => e = .returned (.int .i64 6) ∧ Below w.heap.size w w' := by
  obtain ⟨ak, al, ck, cl, h, -⟩ := h
  have b1 := h.blk.at 1 rfl
  obtain ⟨m, hm⟩ : ∃ m, s.H.length = m := ⟨_, rfl⟩
  rw [hm] at b1 h1
  have d1 : decide (n < 0) = false := decide_eq_false (by omega)
  have d2 : decide ((m : Int) ≤ n) = false := decide_eq_false (by omega)
  have d3 : decide (x < 0) = true := decide_eq_true h2
  clear h hm h0 h1 h2
  go_enter Tryz.func37, Tryz.ntmps37
  go_wp2_with fail
  go_ret
  exact ⟨rfl, Below.refl _ _⟩
theorem rGive_r3 (r : Nat) (n x : Int) (s : RS) (O : Nat → Prop) (w : World) (h : RefS w r s O) (h0 : 0 ≤ n) (h1 : n < (s.H.length : Int)) (h2 : 0 ≤ x) (h3 : 7 < x) :
    Calls Tryz.prog 37 #[.pointer (some ⟨r, 0, none⟩), .int .i64 n, .int .i64 x] w fun e w' => e = .returned (.int .i64 6) ∧ Below w.heap.size w w' := by
  obtain ⟨ak, al, ck, cl, h, -⟩ := h
  have b1 := h.blk.at 1 rfl
  obtain ⟨m, hm⟩ : ∃ m, s.H.length = m := ⟨_, rfl⟩
  rw [hm] at b1 h1
  have d1 : decide (n < 0) = false := decide_eq_false (by omega)
  have d2 : decide ((m : Int) ≤ n) = false := decide_eq_false (by omega)
  have d3 : decide (x < 0) = false := decide_eq_false (by omega)
  have d4 : decide (7 < x) = true := decide_eq_true h3
  clear h hm h0 h1 h2 h3
  go_enter Tryz.func37, Tryz.ntmps37
  go_wp2_with fail
  go_ret
  exact ⟨rfl, Below.refl _ _⟩
theorem rMove_r0 (r : Nat) (n x : Int) (s : RS) (O : Nat → Prop) (w : World) (h : RefS w r s O) (h0 : n < 0) :
    Calls Tryz.prog 40 #[.pointer (some ⟨r, 0, none⟩), .int .i64 n, .int .i64 x] w fun e w' => e = .returned (.int .i64 6) ∧ Below w.heap.size w w' := by
  obtain ⟨ak, al, ck, cl, h, -⟩ := h
  have b1 := h.blk.at 1 rfl
  obtain ⟨m, hm⟩ : ∃ m, s.H.length = m := ⟨_, rfl⟩
  rw [hm] at b1
  have d1 : decide (n < 0) = true := decide_eq_true h0
  clear h hm h0
  go_enter Tryz.func40, Tryz.ntmps40
  go_wp2_with fail
  go_ret
  exact ⟨rfl, Below.refl _ _⟩
theorem rMove_r1 (r : Nat) (n x : Int) (s : RS) (O : Nat → Prop) (w : World) (h : RefS w r s O) (h0 : 0 ≤ n) (h1 : (s.H.length : Int) ≤ n) :
    Calls Tryz.prog 40 #[.pointer (some ⟨r, 0, none⟩), .int .i64 n, .int .i64 x] w fun e w' => e = .returned (.int .i64 6) ∧ Below w.heap.size w w' := by
  obtain ⟨ak, al, ck, cl, h, -⟩ := h
  have b1 := h.blk.at 1 rfl
  obtain ⟨m, hm⟩ : ∃ m, s.H.length = m := ⟨_, rfl⟩
  rw [hm] at b1 h1
  have d1 : decide (n < 0) = false := decide_eq_false (by omega)
  have d2 : decide ((m : Int) ≤ n) = true := decide_eq_true h1
  clear h hm h0 h1
  go_enter Tryz.func40, Tryz.ntmps40
  go_wp2_with fail
  go_ret
  exact ⟨rfl, Below.refl _ _⟩
theorem rMove_r2 (r : Nat) (n x : Int) (s : RS) (O : Nat → Prop) (w : World) (h : RefS w r s O) (h0 : 0 ≤ n) (h1 : n < (s.H.length : Int)) (h2 : x < 0) :
    Calls Tryz.prog 40 #[.pointer (some ⟨r, 0, none⟩), .int .i64 n, .int .i64 x] w fun e w' => e = .returned (.int .i64 6) ∧ Below w.heap.size w w' := by
  obtain ⟨ak, al, ck, cl, h, -⟩ := h
  have b1 := h.blk.at 1 rfl
  obtain ⟨m, hm⟩ : ∃ m, s.H.length = m := ⟨_, rfl⟩
  rw [hm] at b1 h1
  have d1 : decide (n < 0) = false := decide_eq_false (by omega)
  have d2 : decide ((m : Int) ≤ n) = false := decide_eq_false (by omega)
  have d3 : decide (x < 0) = true := decide_eq_true h2
  clear h hm h0 h1 h2
  go_enter Tryz.func40, Tryz.ntmps40
  go_wp2_with fail
  go_ret
  exact ⟨rfl, Below.refl _ _⟩
theorem rMove_r3 (r : Nat) (n x : Int) (s : RS) (O : Nat → Prop) (w : World) (h : RefS w r s O) (h0 : 0 ≤ n) (h1 : n < (s.H.length : Int)) (h2 : 0 ≤ x) (h3 : 7 < x) :
    Calls Tryz.prog 40 #[.pointer (some ⟨r, 0, none⟩), .int .i64 n, .int .i64 x] w fun e w' => e = .returned (.int .i64 6) ∧ Below w.heap.size w w' := by
  obtain ⟨ak, al, ck, cl, h, -⟩ := h
  have b1 := h.blk.at 1 rfl
  obtain ⟨m, hm⟩ : ∃ m, s.H.length = m := ⟨_, rfl⟩
  rw [hm] at b1 h1
  have d1 : decide (n < 0) = false := decide_eq_false (by omega)
  have d2 : decide ((m : Int) ≤ n) = false := decide_eq_false (by omega)
  have d3 : decide (x < 0) = false := decide_eq_false (by omega)
  have d4 : decide (7 < x) = true := decide_eq_true h3
  clear h hm h0 h1 h2 h3
  go_enter Tryz.func40, Tryz.ntmps40
  go_wp2_with fail
  go_ret
  exact ⟨rfl, Below.refl _ _⟩
theorem rTake_r0 (r : Nat) (n : Int) (s : RS) (O : Nat → Prop) (w : World) (h : RefS w r s O) (h0 : n < 0) :
    Calls Tryz.prog 38 #[.pointer (some ⟨r, 0, none⟩), .int .i64 n] w fun e w' => e = .returned (.int .i64 6) ∧ Below w.heap.size w w' := by
  obtain ⟨ak, al, ck, cl, h, -⟩ := h
  have b1 := h.blk.at 1 rfl
  obtain ⟨m, hm⟩ : ∃ m, s.H.length = m := ⟨_, rfl⟩
  rw [hm] at b1
  have d1 : decide (n < 0) = true := decide_eq_true h0
  clear h hm h0
  go_enter Tryz.func38, Tryz.ntmps38
  go_wp2_with fail
  go_ret
  exact ⟨rfl, Below.refl _ _⟩
theorem rTake_r1 (r : Nat) (n : Int) (s : RS) (O : Nat → Prop) (w : World) (h : RefS w r s O) (h0 : 0 ≤ n) (h1 : (s.H.length : Int) ≤ n) :
    Calls Tryz.prog 38 #[.pointer (some ⟨r, 0, none⟩), .int .i64 n] w fun e w' => e = .returned (.int .i64 6) ∧ Below w.heap.size w w' := by
  obtain ⟨ak, al, ck, cl, h, -⟩ := h
  have b1 := h.blk.at 1 rfl
  obtain ⟨m, hm⟩ : ∃ m, s.H.length = m := ⟨_, rfl⟩
  rw [hm] at b1 h1
  have d1 : decide (n < 0) = false := decide_eq_false (by omega)
  have d2 : decide ((m : Int) ≤ n) = true := decide_eq_true h1
  clear h hm h0 h1
  go_enter Tryz.func38, Tryz.ntmps38
  go_wp2_with fail
  go_ret
  exact ⟨rfl, Below.refl _ _⟩
set_option maxHeartbeats 1000000 in
theorem rGive_busy (r p : Nat) (x : Int) (s : RS) (O : Nat → Prop) (w : World) (h : RefS w r s O) (hp : p < s.H.length) (hx : 0 ≤ x ∧ x < 8) (hf : ¬ s.H[p]! = freeH) :
    Calls Tryz.prog 37 #[.pointer (some ⟨r, 0, none⟩), .int .i64 (p : Nat), .int .i64 x] w fun e w' => e = .returned (.int .i64 14) ∧ Below w.heap.size w w' := by
  obtain ⟨ak, al, ck, cl, h, hO⟩ := h
  obtain ⟨g, rfl, c0, c1, c2⟩ := h.at hp
  have b0 := h.blk.at 0 rfl
  have b1 := h.blk.at 1 rfl
  have HH := Lib.hid h
  have HO := Lib.hid hO
  obtain ⟨m, hm⟩ : ∃ m, s.H.length = m := ⟨_, rfl⟩
  have Hm := Lib.hid hm
  have Hp := Lib.hid hp
  rw [hm] at b0 b1
  obtain ⟨hd, hhd⟩ : ∃ hd, s.H[p]! = hd := ⟨_, rfl⟩
  rw [hhd] at c0 c1 c2
  have i1 : (0 : Int) ≤ (p : Int) := by omega
  have i2 : (p : Int) < (m : Int) := by omega
  have hne := fun w => run_neH hd freeH w
  have heq := fun w => run_eqH hd freeH w
  have HF := Lib.hid (fun w => free_any w)
  have d1 : decide ((p : Int) < 0) = false := decide_eq_false (by omega)
  have d2 : decide ((m : Int) ≤ (p : Int)) = false := decide_eq_false (by omega)
  have d2' : decide (m ≤ p) = false := decide_eq_false (by omega)
  have d3 : decide (x < 0) = false := decide_eq_false (by omega)
  have d4 : decide (7 < x) = false := decide_eq_false (by omega)
  have hq : eqH hd freeH = false := by rw [← hhd]; cases hc : eqH s.H[p]! freeH; rfl; exact absurd (eqH_iff.1 hc) hf
  rw [hq] at hne
  clear h hO hm hp hx hf hhd hq heq
  go_enter Tryz.func37, Tryz.ntmps37
  go_wp2_with fail
  refine wp_region_ext (by kernel_rfl) (by kernel_rfl) ?_
  intro Y hY
  obtain rfl : Y = w := hY.out
  clear hY
  have y0 := ext_cell c0
  have y1 := ext_cell c1
  have y2 := ext_cell c2
  have z1 := ext_cell b1
  repeat (go_big_quiet_step ((first
    | (go_at_call 29; with_reducible exact ext_of (HF.out _)))))
  refine wpQuiet_nil ?_
  intro w9 hw9
  have h9 : Below Y.heap.size Y w9 := by obtain ⟨p9, rfl⟩ := hw9; exact ext_below Y p9
  have H9 := Lib.hid h9
  have e1 := cell_keep h9 b1
  have e0 := cell_keep h9 b0
  have f0 := cell_keep h9 c0
  have f1 := cell_keep h9 c1
  have f2 := cell_keep h9 c2
  clear hw9 h9 y0 y1 y2 z1 c0 c1 c2 b1 b0
  go_wp2_with fail
  go_ret
  exact ⟨rfl, H9.out⟩
set_option maxHeartbeats 1000000 in
theorem rGive_ok (r p : Nat) (x : Int) (s : RS) (O : Nat → Prop) (w : World) (h : RefS w r s O) (hp : p < s.H.length) (hx : 0 ≤ x ∧ x < 8) (hf : s.H[p]! = freeH) :
    Calls Tryz.prog 37 #[.pointer (some ⟨r, 0, none⟩), .int .i64 (p : Nat), .int .i64 x] w fun e w' => e = .returned (.int .i64 0) ∧ LeftS w w' r (setH s (p : Nat) ⟨x, 0, -1⟩) O := by
  obtain ⟨ak, al, ck, cl, h, hO⟩ := h
  obtain ⟨g, rfl, c0, c1, c2⟩ := h.at hp
  have b0 := h.blk.at 0 rfl
  have b1 := h.blk.at 1 rfl
  have HH := Lib.hid h
  have HO := Lib.hid hO
  obtain ⟨m, hm⟩ : ∃ m, s.H.length = m := ⟨_, rfl⟩
  have Hm := Lib.hid hm
  have Hp := Lib.hid hp
  rw [hm] at b0 b1
  obtain ⟨hd, hhd⟩ : ∃ hd, s.H[p]! = hd := ⟨_, rfl⟩
  rw [hhd] at c0 c1 c2
  have i1 : (0 : Int) ≤ (p : Int) := by omega
  have i2 : (p : Int) < (m : Int) := by omega
  have hne := fun w => run_neH hd freeH w
  have heq := fun w => run_eqH hd freeH w
  have HF := Lib.hid (fun w => free_any w)
  have d1 : decide ((p : Int) < 0) = false := decide_eq_false (by omega)
  have d2 : decide ((m : Int) ≤ (p : Int)) = false := decide_eq_false (by omega)
  have d2' : decide (m ≤ p) = false := decide_eq_false (by omega)
  have d3 : decide (x < 0) = false := decide_eq_false (by omega)
  have d4 : decide (7 < x) = false := decide_eq_false (by omega)
  have hq : eqH hd freeH = true := by rw [← hhd]; exact eqH_iff.2 hf
  rw [hq] at hne
  have HX := Lib.hid hx
  have HD := Lib.hid (show s.H[p]! = freeH from hf)
  clear h hO hm hp hx hf hhd hq heq
  go_enter Tryz.func37, Tryz.ntmps37
  go_wp2_with fail
  refine wp_region_ext (by kernel_rfl) (by kernel_rfl) ?_
  intro Y hY
  obtain rfl : Y = w := hY.out
  clear hY
  have y0 := ext_cell c0
  have y1 := ext_cell c1
  have y2 := ext_cell c2
  have z1 := ext_cell b1
  repeat (go_big_quiet_step ((first
    | (go_at_call 29; with_reducible exact ext_of (HF.out _)))))
  refine wpQuiet_nil ?_
  intro w9 hw9
  have h9 : Below Y.heap.size Y w9 := by obtain ⟨p9, rfl⟩ := hw9; exact ext_below Y p9
  have H9 := Lib.hid h9
  have e1 := cell_keep h9 b1
  have e0 := cell_keep h9 b0
  have f0 := cell_keep h9 c0
  have f1 := cell_keep h9 c1
  have f2 := cell_keep h9 c2
  clear hw9 h9 y0 y1 y2 z1 c0 c1 c2 b1 b0
  have fz : w9.frozen? ⟨g, p * 3, none⟩ = false := by
    obtain ⟨cur, q1, _⟩ := own_blk (own_keep HH.out.hol H9.out)
    exact q1.frozen (p * 3)
  have L := Lib.hid (show LeftS Y (w9.setCell ⟨g, p * 3, none⟩ (.int .i64 x)) r (setH s (p : Nat) ⟨x, 0, -1⟩) O from by
    have hs := (World.ownsRow.stored (own_keep HH.out.hol H9.out) (p * 3) (.int .i64 x)).1
    rw [flHd_o _ _ _ Hp.out, HD.out] at hs
    have e := HH.out.left (H' := s.H.set p ⟨x, 0, -1⟩) HO.out H9.out ((Only.refl (fun j => j = g) w9).setCell (p := ⟨g, p * 3, none⟩) rfl (.int .i64 x)) (by simp) hs (by
      have := ok_set HH.out.ok (p : Nat) (x := ⟨x, 0, -1⟩) ⟨by show (0 : Int) ≤ 0 ∧ (0 : Int) ≤ 16; omega, by have := HX.out; show -1 ≤ x ∧ x < 8; omega, by show (-1 : Int) ≤ -1 ∧ (-1 : Int) < 8; omega, fun _ => rfl, fun _ => rfl⟩
      simpa [setH] using this)
    simpa [setH] using e)
  clear f1 f2 e0
  go_wp2_with fail
  go_ret
  exact ⟨rfl, L.out⟩
set_option maxHeartbeats 1000000 in
theorem rtaken_none (r p : Nat) (x : Int) (s : RS) (O : Nat → Prop) (w : World) (h : RefS w r s O) (hp : p < s.H.length) (hf : s.H[p]! = freeH) :
    Calls Tryz.prog 63 #[.pointer (some ⟨r, 0, none⟩), .int .i64 (p : Nat), .int .i64 x] w fun e w' => e = .returned (.int .i64 5) ∧ Below w.heap.size w w' := by
  obtain ⟨ak, al, ck, cl, h, hO⟩ := h
  obtain ⟨g, rfl, c0, c1, c2⟩ := h.at hp
  have b0 := h.blk.at 0 rfl
  have b1 := h.blk.at 1 rfl
  have HH := Lib.hid h
  have HO := Lib.hid hO
  obtain ⟨m, hm⟩ : ∃ m, s.H.length = m := ⟨_, rfl⟩
  have Hm := Lib.hid hm
  have Hp := Lib.hid hp
  rw [hm] at b0 b1
  obtain ⟨hd, hhd⟩ : ∃ hd, s.H[p]! = hd := ⟨_, rfl⟩
  rw [hhd] at c0 c1 c2
  have i1 : (0 : Int) ≤ (p : Int) := by omega
  have i2 : (p : Int) < (m : Int) := by omega
  have hne := fun w => run_neH hd freeH w
  have heq := fun w => run_eqH hd freeH w
  have HF := Lib.hid (fun w => free_any w)
  have hq : eqH hd freeH = true := by rw [← hhd]; exact eqH_iff.2 hf
  rw [hq] at heq
  clear h hO hm hp hf hhd hq hne
  go_enter Tryz.func63, Tryz.ntmps63
  go_wp2_with fail
  refine wp_region_ext (by kernel_rfl) (by kernel_rfl) ?_
  intro Y hY
  obtain rfl : Y = w := hY.out
  clear hY
  have y0 := ext_cell c0
  have y1 := ext_cell c1
  have y2 := ext_cell c2
  have z1 := ext_cell b1
  repeat (go_big_quiet_step ((first
    | (go_at_call 29; with_reducible exact ext_of (HF.out _)))))
  refine wpQuiet_nil ?_
  intro w9 hw9
  have h9 : Below Y.heap.size Y w9 := by obtain ⟨p9, rfl⟩ := hw9; exact ext_below Y p9
  have H9 := Lib.hid h9
  have e1 := cell_keep h9 b1
  have e0 := cell_keep h9 b0
  have f0 := cell_keep h9 c0
  have f1 := cell_keep h9 c1
  have f2 := cell_keep h9 c2
  clear hw9 h9 y0 y1 y2 z1 c0 c1 c2 b1 b0
  go_wp2_with fail
  go_ret
  exact ⟨rfl, H9.out⟩
set_option maxHeartbeats 1000000 in
theorem rtaken_busy (r p : Nat) (x : Int) (s : RS) (O : Nat → Prop) (w : World) (h : RefS w r s O) (hp : p < s.H.length) (hf : ¬ s.H[p]! = freeH) (hl : 0 < s.H[p]!.l) :
    Calls Tryz.prog 63 #[.pointer (some ⟨r, 0, none⟩), .int .i64 (p : Nat), .int .i64 x] w fun e w' => e = .returned (.int .i64 14) ∧ Below w.heap.size w w' := by
  obtain ⟨ak, al, ck, cl, h, hO⟩ := h
  obtain ⟨g, rfl, c0, c1, c2⟩ := h.at hp
  have b0 := h.blk.at 0 rfl
  have b1 := h.blk.at 1 rfl
  have HH := Lib.hid h
  have HO := Lib.hid hO
  obtain ⟨m, hm⟩ : ∃ m, s.H.length = m := ⟨_, rfl⟩
  have Hm := Lib.hid hm
  have Hp := Lib.hid hp
  rw [hm] at b0 b1
  obtain ⟨hd, hhd⟩ : ∃ hd, s.H[p]! = hd := ⟨_, rfl⟩
  rw [hhd] at c0 c1 c2
  have i1 : (0 : Int) ≤ (p : Int) := by omega
  have i2 : (p : Int) < (m : Int) := by omega
  have hne := fun w => run_neH hd freeH w
  have heq := fun w => run_eqH hd freeH w
  have HF := Lib.hid (fun w => free_any w)
  have hq : eqH hd freeH = false := by rw [← hhd]; cases hc : eqH s.H[p]! freeH; rfl; exact absurd (eqH_iff.1 hc) hf
  rw [hq] at heq
  rw [hhd] at hl
  have d5 : decide (0 < hd.l) = true := decide_eq_true hl
  clear h hO hm hp hf hhd hq hne hl
  go_enter Tryz.func63, Tryz.ntmps63
  go_wp2_with fail
  refine wp_region_ext (by kernel_rfl) (by kernel_rfl) ?_
  intro Y hY
  obtain rfl : Y = w := hY.out
  clear hY
  have y0 := ext_cell c0
  have y1 := ext_cell c1
  have y2 := ext_cell c2
  have z1 := ext_cell b1
  repeat (go_big_quiet_step ((first
    | (go_at_call 29; with_reducible exact ext_of (HF.out _)))))
  refine wpQuiet_nil ?_
  intro w9 hw9
  have h9 : Below Y.heap.size Y w9 := by obtain ⟨p9, rfl⟩ := hw9; exact ext_below Y p9
  have H9 := Lib.hid h9
  have e1 := cell_keep h9 b1
  have e0 := cell_keep h9 b0
  have f0 := cell_keep h9 c0
  have f1 := cell_keep h9 c1
  have f2 := cell_keep h9 c2
  clear hw9 h9 y0 y1 y2 z1 c0 c1 c2 b1 b0
  go_wp2_with fail
  go_ret
  exact ⟨rfl, H9.out⟩
set_option maxRecDepth 100000 in
set_option maxHeartbeats 1000000 in
theorem rtaken_ok (r p : Nat) (x : Int) (s : RS) (O : Nat → Prop) (w : World) (h : RefS w r s O) (hp : p < s.H.length) (hx : -1 ≤ x ∧ x < 8) (hf : ¬ s.H[p]! = freeH) (hl : ¬ 0 < s.H[p]!.l) :
    Calls Tryz.prog 63 #[.pointer (some ⟨r, 0, none⟩), .int .i64 (p : Nat), .int .i64 x] w fun e w' => e = .returned (.int .i64 0) ∧ LeftS w w' r (setH s (p : Nat) ⟨-1, timeV s.K[p]!, x⟩) O := by
  obtain ⟨ak, al, ck, cl, h, hO⟩ := h
  obtain ⟨g, rfl, c0, c1, c2⟩ := h.at hp
  have b0 := h.blk.at 0 rfl
  have b1 := h.blk.at 1 rfl
  have HH := Lib.hid h
  have HO := Lib.hid hO
  obtain ⟨m, hm⟩ : ∃ m, s.H.length = m := ⟨_, rfl⟩
  have Hm := Lib.hid hm
  have Hp := Lib.hid hp
  rw [hm] at b0 b1
  obtain ⟨hd, hhd⟩ : ∃ hd, s.H[p]! = hd := ⟨_, rfl⟩
  rw [hhd] at c0 c1 c2
  have i1 : (0 : Int) ≤ (p : Int) := by omega
  have i2 : (p : Int) < (m : Int) := by omega
  have hne := fun w => run_neH hd freeH w
  have heq := fun w => run_eqH hd freeH w
  have HF := Lib.hid (fun w => free_any w)
  have hq : eqH hd freeH = false := by rw [← hhd]; cases hc : eqH s.H[p]! freeH; rfl; exact absurd (eqH_iff.1 hc) hf
  rw [hq] at heq
  rw [hhd] at hl
  have d5 : decide (0 < hd.l) = false := decide_eq_false hl
  have HX := Lib.hid hx
  clear h hO hm hp hf hhd hq hne hl hx
  go_enter Tryz.func63, Tryz.ntmps63
  go_wp2_with fail
  refine wp_region_ext (by kernel_rfl) (by kernel_rfl) ?_
  intro Y hY
  obtain rfl : Y = w := hY.out
  clear hY
  have y0 := ext_cell c0
  have y1 := ext_cell c1
  have y2 := ext_cell c2
  have z1 := ext_cell b1
  repeat (go_big_quiet_step ((first
    | (go_at_call 29; with_reducible exact ext_of (HF.out _)))))
  refine wpQuiet_nil ?_
  intro w9 hw9
  have h9 : Below Y.heap.size Y w9 := by obtain ⟨p9, rfl⟩ := hw9; exact ext_below Y p9
  have H9 := Lib.hid h9
  have e1 := cell_keep h9 b1
  have e0 := cell_keep h9 b0
  have f0 := cell_keep h9 c0
  have f1 := cell_keep h9 c1
  have f2 := cell_keep h9 c2
  clear hw9 h9 y0 y1 y2 z1 c0 c1 c2 b1 b0
  obtain ⟨kd, hkd⟩ : ∃ k, s.K[p]! = k := ⟨_, rfl⟩
  have HKd := Lib.hid hkd
  obtain ⟨gk, hak⟩ := own_some HH.out.kin (.inl (by have := Hp.out; omega))
  have HAk := Lib.hid hak
  have k0 : w9.cell? ⟨gk, p, none⟩ = some (.int .i64 kd) := by
    have := own_cells (own_keep HH.out.kin H9.out) _ hak p (.int .i64 kd) (by
      unfold kv
      rw [List.getElem?_map, List.getElem?_eq_getElem (by rw [HH.out.ok.len]; exact Hp.out), ← hkd, getElem!_pos _ _ (by rw [HH.out.ok.len]; exact Hp.out)]
      rfl)
    rwa [Go.WideShapes.add_plain, Nat.zero_add] at this
  rw [hak] at e0
  have hgk : gk ≠ g := fun e => HH.out.kl gk (by rw [hak]; rfl) (by rw [e]; rfl)
  have hrg : r ≠ g := fun e => HH.out.rl (by rw [e]; rfl)
  obtain ⟨cur, q1, q2, q3, q4, q5, q6⟩ := own_blk (own_keep HH.out.hol H9.out)
  have Q1 := Lib.hid q1
  have Q3 := Lib.hid q3
  have S0 : Only (fun j => j = g) w9 w9.drew := Only.of_below (Below.refl _ _).drew
  have cE0 : ∀ w', Only (fun j => j = g) w9 w' → w'.cell? ⟨r, 0, none⟩ = some (.slice (some ⟨gk, 0, none⟩) m ck) := fun w' h => only_cell h (by show ¬ r = g; exact hrg) e0
  have cE1 : ∀ w', Only (fun j => j = g) w9 w' → w'.cell? ⟨r, 1, none⟩ = some (.slice (some ⟨g, 0, none⟩) m cl) := fun w' h => only_cell h (by show ¬ r = g; exact hrg) e1
  have cK : ∀ w', Only (fun j => j = g) w9 w' → w'.cell? ⟨gk, p, none⟩ = some (.int .i64 kd) := fun w' h => only_cell h (by show ¬ gk = g; exact hgk) k0
  have HT := Lib.hid (fun w => rTime_any kd w)
  obtain ⟨tm, htm⟩ : ∃ t, timeV kd = t := ⟨_, rfl⟩
  have HTm := Lib.hid htm
  rw [htm] at HT
  clear q1 q2 q3 q4 q5 q6 k0 e0 f0 f2 hkd hak hgk hrg htm
  go_wp2_with fail
  refine wp_region_held_drew (S := fun w' => Only (fun j => j = g) w9 w') (by kernel_rfl) S0 (fun hHeld => ?_)
  refine wpAnyH_take (i := 0) (v := ?_) rfl (by kernel_rfl) (by kernel_rfl) (by kernel_rfl) (fun _ _ _ h => h) (Or.inl ⟨by rfl, ?_⟩) (by assumption) ?_
  rotate_left
  · (intro w hSw; (try dsimp only at hSw); go_simp; try (with_reducible rfl))
  try simp only [Act.put]
  refine wpAnyH_take (i := 1) (v := ?_) rfl (by kernel_rfl) (by kernel_rfl) (by kernel_rfl) (fun _ _ _ h => h) (Or.inl ⟨by rfl, ?_⟩) (by assumption) ?_
  rotate_left
  · (intro w hSw; (try dsimp only at hSw); go_simp; try (with_reducible rfl))
  try simp only [Act.put]
  refine wpAnyH_take (i := 2) (v := ?_) rfl (by kernel_rfl) (by kernel_rfl) (by kernel_rfl) (fun _ _ _ h => h) (Or.inl ⟨by rfl, ?_⟩) (by assumption) ?_
  rotate_left
  · (intro w hSw; (try dsimp only at hSw); go_simp; try (with_reducible rfl))
  try simp only [Act.put]
  refine wpAnyH_take (i := 3) (v := ?_) rfl (by kernel_rfl) (by kernel_rfl) (by kernel_rfl) (fun _ _ _ h => h) (Or.inl ⟨by rfl, ?_⟩) (by assumption) ?_
  rotate_left
  · (intro w hSw; (try dsimp only at hSw); go_simp; try (with_reducible rfl))
  try simp only [Act.put]
  refine wpAnyH_take (i := 4) (v := ?_) rfl (by kernel_rfl) (by kernel_rfl) (by kernel_rfl) (fun _ _ _ h => h) (Or.inl ⟨by rfl, ?_⟩) (by assumption) ?_
  rotate_left
  · (intro w hSw; (try dsimp only at hSw); go_simp; try (with_reducible rfl))
  try simp only [Act.put]
  refine wpAnyH_take (i := 5) (v := ?_) rfl (by kernel_rfl) (by kernel_rfl) (by kernel_rfl) (fun _ _ _ h => h) (Or.inl ⟨by rfl, ?_⟩) (by assumption) ?_
  rotate_left
  · (intro w hSw; (try dsimp only at hSw); go_simp; try (with_reducible rfl))
  try simp only [Act.put]
  refine wpAnyH_take (i := 6) (v := ?_) rfl (by kernel_rfl) (by kernel_rfl) (by kernel_rfl) (fun _ _ _ h => h) (Or.inl ⟨by rfl, ?_⟩) (by assumption) ?_
  rotate_left
  · (intro w hSw; (try dsimp only at hSw); go_simp; try (with_reducible rfl))
  try simp only [Act.put]
  refine wpAnyH_take (i := 7) (v := ?_) rfl (by kernel_rfl) (by kernel_rfl) (by kernel_rfl) (fun _ _ _ h => h) (Or.inl ⟨by rfl, ?_⟩) (by assumption) ?_
  rotate_left
  · (intro w hSw; (try dsimp only at hSw); go_simp; try (with_reducible rfl))
  try simp only [Act.put]
  refine wpAnyH_take (i := 8) (v := ?_) rfl (by kernel_rfl) (by kernel_rfl) (by kernel_rfl) (fun _ _ _ h => h) (Or.inl ⟨by rfl, ?_⟩) (by assumption) ?_
  rotate_left
  · (intro w hSw; (try dsimp only at hSw); go_simp; try (with_reducible rfl))
  try simp only [Act.put]
  refine wpAnyH_take (i := 9) (v := ?_) rfl (by kernel_rfl) (by kernel_rfl) (by kernel_rfl) (fun _ _ _ h => h) (Or.inl ⟨by rfl, ?_⟩) (by assumption) ?_
  rotate_left
  · (intro w hSw; (try dsimp only at hSw); go_simp; try (with_reducible rfl))
  try simp only [Act.put]
  refine wpAnyH_take (i := 10) (v := ?_) rfl (by kernel_rfl) (by kernel_rfl) (by kernel_rfl) (fun _ _ _ h => h) (Or.inl ⟨by rfl, ?_⟩) (by assumption) ?_
  rotate_left
  · (intro w hSw; (try dsimp only at hSw); go_simp; try (with_reducible rfl))
  try simp only [Act.put]
  refine wpAnyH_take (i := 11) (v := ?_) rfl (by kernel_rfl) (by kernel_rfl) (by kernel_rfl) (fun _ _ _ h => h) (Or.inl ⟨by rfl, ?_⟩) (by assumption) ?_
  rotate_left
  · (intro w hSw; (try dsimp only at hSw); go_simp; try (with_reducible rfl))
  try simp only [Act.put]
  refine wpAnyH_take (i := 13) (v := ?_) rfl (by kernel_rfl) (by kernel_rfl) (by kernel_rfl) (fun _ _ _ h => h) (Or.inl ⟨by rfl, ?_⟩) (by assumption) ?_
  rotate_left
  · (intro w hSw; (try dsimp only at hSw); go_simp; try (with_reducible rfl))
  try simp only [Act.put]
  refine wpAnyH_ready (rs := [12]) (by kernel_rfl) (by simp) ?_
  refine AllReadyH.cons rfl (fun K hK => ?_) AllReadyH.nil
  go_simp
  refine (HT.out _).mono ?_
  rintro e wA ⟨rfl, hb⟩
  have BA := Lib.hid ((Below.refl w9.heap.size w9).drew.trans (hb.mono (Nat.le_refl _)))
  have hon : Only (fun j => j = g) w9 wA := Only.of_below BA.out
  clear hb
  refine hK.out _ _ hon (fun hHeld => ?_)
  clear hK hon
  try simp only [Act.put]
  refine wpAnyH_take (i := 14) (v := ?_) rfl (by kernel_rfl) (by kernel_rfl) (by kernel_rfl) (fun _ _ _ h => h) (Or.inl ⟨by rfl, ?_⟩) (by assumption) ?_
  rotate_left
  · (intro w hSw; (try dsimp only at hSw); go_simp; try (with_reducible rfl))
  try simp only [Act.put]
  refine wpAnyH_take (i := 15) (v := ?_) rfl (by kernel_rfl) (by kernel_rfl) (by kernel_rfl) (fun _ _ _ h => h) (Or.inl ⟨by rfl, ?_⟩) (by assumption) ?_
  rotate_left
  · (intro w hSw; (try dsimp only at hSw); go_simp; try (with_reducible rfl))
  try simp only [Act.put]
  refine wpAnyH_ready (rs := [16]) (by kernel_rfl) (by simp) ?_
  refine AllReadyH.cons rfl (fun K hK => ?_) AllReadyH.nil
  rw [if_pos (by rfl)]
  refine oper_store _ _ _ rfl g (p * 3) [.int .i64 (-1), .int .i64 tm, .int .i64 x] rfl rfl 52 _ (Q1.out.keep BA.out) (by kernel_rfl) (by have := Q3.out; have h2 := Hp.out; have h3 := own_le HH.out.hol; simp; omega) (by simp [Value.oneCell']) ?_
  intro Y hY hoY
  have R := Lib.hid hY
  have O1 := Lib.hid hoY
  clear hY hoY
  have hon : Only (fun j => j = g) w9 Y := (Only.of_below BA.out).trans O1.out
  refine hK.out _ _ hon (fun hHeld => ?_)
  clear hK hon
  simp only [Act.put, List.getElem_toArray, List.getElem_cons_succ, List.getElem_cons_zero]
  refine wpAnyH_done (by kernel_rfl) ?_ _
  go_wp2_with fail
  go_ret
  refine ⟨rfl, ?_⟩
  have hr := own_put (own_keep (own_keep HH.out.hol H9.out) BA.out) (Q1.out.keep BA.out) Hp.out (by rfl) R.out
  have hr2 := flHd_put (g := ⟨-1, tm, x⟩) Hp.out
  rw [show encHd ⟨-1, tm, x⟩ = [.int .i64 (-1), .int .i64 tm, .int .i64 x] from rfl] at hr2
  rw [show ([.int .i64 (-1), .int .i64 tm, .int .i64 x] : List Value).length = 3 from rfl, hr2] at hr
  have hok := ok_set HH.out.ok (p : Nat) (x := ⟨-1, tm, x⟩) (by
    have ht := time_b (HH.out.ok.kin p (by rw [HH.out.ok.len]; exact Hp.out))
    rw [HKd.out, HTm.out] at ht
    have hx := HX.out
    exact ⟨by show 0 ≤ tm ∧ tm ≤ 16; omega, by show (-1 : Int) ≤ -1 ∧ (-1 : Int) < 8; omega, hx, fun e => absurd e (by show ¬ (0 : Int) ≤ -1; omega), fun e => by have e : tm = 0 := e; omega⟩)
  have := HH.out.left (H' := s.H.set p ⟨-1, tm, x⟩) HO.out (H9.out.trans (BA.out.mono H9.out.size)) O1.out (by simp) hr (by simpa [setH] using hok)
  rw [HKd.out, HTm.out]
  simpa [setH] using this

theorem rtaken_any (r p : Nat) (x : Int) (s : RS) (O : Nat → Prop) (w : World) (h : RefS w r s O) (hp : p < s.H.length) (hx : -1 ≤ x ∧ x < 8) :
    Calls Tryz.prog 63 #[.pointer (some ⟨r, 0, none⟩), .int .i64 (p : Nat), .int .i64 x] w fun e w' => e = .returned (.int .i64 (takenV s (p : Nat) x).1) ∧ LeftS w w' r (takenV s (p : Nat) x).2 O := by
  unfold takenV at'
  rw [Int.toNat_natCast]
  by_cases hf : s.H[p]! = freeH
  · rw [if_pos hf]
    refine (rtaken_none r p x s O w h hp hf).mono ?_
    rintro e w' ⟨rfl, hb⟩
    exact ⟨rfl, LeftS.same h hb⟩
  rw [if_neg hf]
  by_cases hl : 0 < s.H[p]!.l
  · rw [if_pos hl]
    refine (rtaken_busy r p x s O w h hp hf hl).mono ?_
    rintro e w' ⟨rfl, hb⟩
    exact ⟨rfl, LeftS.same h hb⟩
  · rw [if_neg hl]
    exact rtaken_ok r p x s O w h hp hx hf hl
theorem rGive_any (r : Nat) (n x : Int) (s : RS) (O : Nat → Prop) (w : World) (h : RefS w r s O) :
    Calls Tryz.prog 37 #[.pointer (some ⟨r, 0, none⟩), .int .i64 n, .int .i64 x] w fun e w' => e = .returned (.int .i64 (giveV s n x).1) ∧ LeftS w w' r (giveV s n x).2 O := by
  have no : ∀ (Q : Calls Tryz.prog 37 #[.pointer (some ⟨r, 0, none⟩), .int .i64 n, .int .i64 x] w fun e w' => e = .returned (.int .i64 6) ∧ Below w.heap.size w w') (hb : (isN s n && isW x) = false), Calls Tryz.prog 37 #[.pointer (some ⟨r, 0, none⟩), .int .i64 n, .int .i64 x] w fun e w' => e = .returned (.int .i64 (giveV s n x).1) ∧ LeftS w w' r (giveV s n x).2 O := by
    intro Q hb
    refine Q.mono ?_
    rintro e w' ⟨rfl, hb'⟩
    unfold giveV
    rw [hb]
    exact ⟨rfl, LeftS.same h hb'⟩
  by_cases h0 : n < 0
  · exact no (rGive_r0 r n x s O w h h0) (by unfold isN; rw [decide_eq_false (by omega)]; rfl)
  by_cases h1 : (s.H.length : Int) ≤ n
  · exact no (rGive_r1 r n x s O w h (by omega) h1) (by unfold isN; rw [decide_eq_false (by omega)]; rfl)
  by_cases h2 : x < 0
  · exact no (rGive_r2 r n x s O w h (by omega) (by omega) h2) (by unfold isW; rw [decide_eq_false (show ¬ (0 ≤ x ∧ x < 8) by omega), Bool.and_false])
  by_cases h3 : 7 < x
  · exact no (rGive_r3 r n x s O w h (by omega) (by omega) (by omega) h3) (by unfold isW; rw [decide_eq_false (show ¬ (0 ≤ x ∧ x < 8) by omega), Bool.and_false])
  obtain ⟨p, rfl⟩ := Int.eq_ofNat_of_zero_le (show 0 ≤ n by omega)
  unfold giveV isN isW at'
  rw [decide_eq_true (show 0 ≤ (p : Int) ∧ (p : Int) < (s.H.length : Int) by omega), decide_eq_true (show 0 ≤ x ∧ x < 8 by omega), Bool.true_and, if_pos rfl, Int.toNat_natCast]
  by_cases hf : s.H[p]! = freeH
  · rw [if_pos hf]
    exact rGive_ok r p x s O w h (by omega) (by omega) hf
  · rw [if_neg hf]
    refine (rGive_busy r p x s O w h (by omega) (by omega) hf).mono ?_
    rintro e w' ⟨rfl, hb⟩
    exact ⟨rfl, LeftS.same h hb⟩
set_option maxHeartbeats 1000000 in
theorem rMove_in (r p : Nat) (x : Int) (s : RS) (O : Nat → Prop) (w : World) (h : RefS w r s O) (hp : p < s.H.length) (hx : 0 ≤ x ∧ x < 8) :
    Calls Tryz.prog 40 #[.pointer (some ⟨r, 0, none⟩), .int .i64 (p : Nat), .int .i64 x] w fun e w' => e = .returned (.int .i64 (takenV s (p : Nat) x).1) ∧ LeftS w w' r (takenV s (p : Nat) x).2 O := by
  have HT := Lib.hid (rtaken_any r p x s O w h hp (by omega))
  obtain ⟨v, hv⟩ : ∃ v, (takenV s (p : Nat) x).1 = v := ⟨_, rfl⟩
  rw [hv] at HT ⊢
  obtain ⟨ak, al, ck, cl, h, -⟩ := h
  have b1 := h.blk.at 1 rfl
  obtain ⟨m, hm⟩ : ∃ m, s.H.length = m := ⟨_, rfl⟩
  rw [hm] at b1
  have d1 : decide ((p : Int) < 0) = false := decide_eq_false (by omega)
  have d2 : decide ((m : Int) ≤ (p : Int)) = false := decide_eq_false (by omega)
  have d2' : decide (m ≤ p) = false := decide_eq_false (by omega)
  have d3 : decide (x < 0) = false := decide_eq_false (by omega)
  have d4 : decide (7 < x) = false := decide_eq_false (by omega)
  clear h hp hx hm hv
  go_enter Tryz.func40, Tryz.ntmps40
  go_wp2_with fail
  refine HT.out.mono ?_
  rintro e w1 ⟨rfl, hl⟩
  have L := Lib.hid hl
  clear hl b1 HT
  go_wp2_with fail
  go_ret
  exact ⟨rfl, L.out⟩
set_option maxHeartbeats 1000000 in
theorem rTake_in (r p : Nat) (s : RS) (O : Nat → Prop) (w : World) (h : RefS w r s O) (hp : p < s.H.length) :
    Calls Tryz.prog 38 #[.pointer (some ⟨r, 0, none⟩), .int .i64 (p : Nat)] w fun e w' => e = .returned (.int .i64 (takenV s (p : Nat) (-1)).1) ∧ LeftS w w' r (takenV s (p : Nat) (-1)).2 O := by
  have HT := Lib.hid (rtaken_any r p (-1) s O w h hp (by omega))
  obtain ⟨v, hv⟩ : ∃ v, (takenV s (p : Nat) (-1)).1 = v := ⟨_, rfl⟩
  rw [hv] at HT ⊢
  obtain ⟨ak, al, ck, cl, h, -⟩ := h
  have b1 := h.blk.at 1 rfl
  obtain ⟨m, hm⟩ : ∃ m, s.H.length = m := ⟨_, rfl⟩
  rw [hm] at b1
  have d1 : decide ((p : Int) < 0) = false := decide_eq_false (by omega)
  have d2 : decide ((m : Int) ≤ (p : Int)) = false := decide_eq_false (by omega)
  have d2' : decide (m ≤ p) = false := decide_eq_false (by omega)
  clear h hp hm hv
  go_enter Tryz.func38, Tryz.ntmps38
  go_wp2_with fail
  refine HT.out.mono ?_
  rintro e w1 ⟨rfl, hl⟩
  have L := Lib.hid hl
  clear hl b1 HT
  go_wp2_with fail
  go_ret
  exact ⟨rfl, L.out⟩
theorem rMove_any (r : Nat) (n x : Int) (s : RS) (O : Nat → Prop) (w : World) (h : RefS w r s O) :
    Calls Tryz.prog 40 #[.pointer (some ⟨r, 0, none⟩), .int .i64 n, .int .i64 x] w fun e w' => e = .returned (.int .i64 (moveV s n x).1) ∧ LeftS w w' r (moveV s n x).2 O := by
  have no : ∀ (Q : Calls Tryz.prog 40 #[.pointer (some ⟨r, 0, none⟩), .int .i64 n, .int .i64 x] w fun e w' => e = .returned (.int .i64 6) ∧ Below w.heap.size w w') (hb : (isN s n && isW x) = false), Calls Tryz.prog 40 #[.pointer (some ⟨r, 0, none⟩), .int .i64 n, .int .i64 x] w fun e w' => e = .returned (.int .i64 (moveV s n x).1) ∧ LeftS w w' r (moveV s n x).2 O := by
    intro Q hb
    refine Q.mono ?_
    rintro e w' ⟨rfl, hb'⟩
    unfold moveV
    rw [hb]
    exact ⟨rfl, LeftS.same h hb'⟩
  by_cases h0 : n < 0
  · exact no (rMove_r0 r n x s O w h h0) (by unfold isN; rw [decide_eq_false (by omega)]; rfl)
  by_cases h1 : (s.H.length : Int) ≤ n
  · exact no (rMove_r1 r n x s O w h (by omega) h1) (by unfold isN; rw [decide_eq_false (by omega)]; rfl)
  by_cases h2 : x < 0
  · exact no (rMove_r2 r n x s O w h (by omega) (by omega) h2) (by unfold isW; rw [decide_eq_false (show ¬ (0 ≤ x ∧ x < 8) by omega), Bool.and_false])
  by_cases h3 : 7 < x
  · exact no (rMove_r3 r n x s O w h (by omega) (by omega) (by omega) h3) (by unfold isW; rw [decide_eq_false (show ¬ (0 ≤ x ∧ x < 8) by omega), Bool.and_false])
  obtain ⟨p, rfl⟩ := Int.eq_ofNat_of_zero_le (show 0 ≤ n by omega)
  unfold moveV isN isW
  rw [decide_eq_true (show 0 ≤ (p : Int) ∧ (p : Int) < (s.H.length : Int) by omega), decide_eq_true (show 0 ≤ x ∧ x < 8 by omega), Bool.true_and, if_pos rfl]
  exact rMove_in r p x s O w h (by omega) (by omega)
theorem rTake_any (r : Nat) (n : Int) (s : RS) (O : Nat → Prop) (w : World) (h : RefS w r s O) :
    Calls Tryz.prog 38 #[.pointer (some ⟨r, 0, none⟩), .int .i64 n] w fun e w' => e = .returned (.int .i64 (takeV s n).1) ∧ LeftS w w' r (takeV s n).2 O := by
  have no : ∀ (Q : Calls Tryz.prog 38 #[.pointer (some ⟨r, 0, none⟩), .int .i64 n] w fun e w' => e = .returned (.int .i64 6) ∧ Below w.heap.size w w') (hb : isN s n = false), Calls Tryz.prog 38 #[.pointer (some ⟨r, 0, none⟩), .int .i64 n] w fun e w' => e = .returned (.int .i64 (takeV s n).1) ∧ LeftS w w' r (takeV s n).2 O := by
    intro Q hb
    refine Q.mono ?_
    rintro e w' ⟨rfl, hb'⟩
    unfold takeV
    rw [hb]
    exact ⟨rfl, LeftS.same h hb'⟩
  by_cases h0 : n < 0
  · exact no (rTake_r0 r n s O w h h0) (by unfold isN; rw [decide_eq_false (by omega)])
  by_cases h1 : (s.H.length : Int) ≤ n
  · exact no (rTake_r1 r n s O w h (by omega) h1) (by unfold isN; rw [decide_eq_false (by omega)])
  obtain ⟨p, rfl⟩ := Int.eq_ofNat_of_zero_le (show 0 ≤ n by omega)
  unfold takeV isN
  rw [decide_eq_true (show 0 ≤ (p : Int) ∧ (p : Int) < (s.H.length : Int) by omega), if_pos rfl]
  exact rTake_in r p s O w h (by omega)
end Go.Proofs.YtmdepkehpohgeaaGreat.Scr
/- The document's row of holds: Of, Tick. -/
namespace Go.Proofs.YtmdepkehpohgeaaGreat.Scr
open Go.RowKit Go.Maps Go.ChangeShapes Go.WideShapes Go.ChangeAt Fifo Orow Word
set_option linter.unusedVariables false

theorem row_at {w : World} {B g m cl k : Nat} {L : List Hd} (h : w.ownsRow B 52 3 (.slice (some ⟨g, 0, none⟩) m cl) m (flHd L)) (hk : k < L.length) :
    w.cell? ⟨g, k * 3, none⟩ = some (.int .i64 L[k]!.o) ∧ w.cell? ⟨g, k * 3 + 1, none⟩ = some (.int .i64 L[k]!.l) ∧ w.cell? ⟨g, k * 3 + 2, none⟩ = some (.int .i64 L[k]!.n) := by
  have hc := own_cells h _ rfl
  have c : ∀ t v, t < 3 → (encHd L[k]!)[t]? = some v → w.cell? ⟨g, k * 3 + t, none⟩ = some v := fun t v ht hv => by
    have := hc (k * 3 + t) v (by rw [flHd_get L k t hk ht]; exact hv)
    rwa [Go.WideShapes.add_plain, Nat.zero_add] at this
  exact ⟨c 0 _ (by omega) rfl, c 1 _ (by omega) rfl, c 2 _ (by omega) rfl⟩
theorem row_frozen {w : World} {B g m cl : Nat} {xs : List Value} (h : w.ownsRow B 52 3 (.slice (some ⟨g, 0, none⟩) m cl) m xs) (k : Nat) : w.frozen? ⟨g, k, none⟩ = false := by
  obtain ⟨cur, q1, _⟩ := own_blk h
  exact q1.frozen k
theorem take_snoc {s : List Hd} {k : Nat} (h : k < s.length) : s.take (k + 1) = s.take k ++ [s[k]!] := by
  rw [List.take_add_one, List.getElem?_eq_getElem h, getElem!_pos s k h]; rfl
theorem nums_snoc (p : Hd → Bool) {s : List Hd} {k : Nat} (h : k < s.length) : numsF p 0 (s.take (k + 1)) = numsF p 0 (s.take k) ++ (if p s[k]! then [k] else []) := by
  rw [take_snoc h, nums_app]
  simp [List.length_take, Nat.min_eq_left (Nat.le_of_lt h)]
set_option maxHeartbeats 2000000 in
theorem rOf_any (r : Nat) (x : Int) (s : RS) (O : Nat → Prop) (w : World) (h : RefS w r s O) :
    Calls Tryz.prog 35 #[.pointer (some ⟨r, 0, none⟩), .int .i64 x] w fun e w' => (∃ v, e = .returned v ∧ w'.ownsRow w.heap.size 3 1 v (ofV s x).length (iv (ofV s x))) ∧ Below w.heap.size w w' := by
  obtain ⟨i0, hi, hz0, hz1, hz2⟩ := info_parts KitInts.info_e
  have Hi := Lib.hid hi
  have Hz0 := Lib.hid hz0
  have Hz1 := Lib.hid hz1
  have Hz2 := Lib.hid hz2
  obtain ⟨ak, al, ck, cl, h, hO⟩ := h
  have b1 := h.blk.at 1 rfl
  have HH := Lib.hid h
  have Hfew := Lib.hid h.ok.few
  obtain ⟨m, hm⟩ : ∃ m, s.H.length = m := ⟨_, rfl⟩
  have Hm := Lib.hid hm
  rw [hm] at b1
  have hB1 := Lib.hid (fun W (hb : Below w.heap.size w W) => cell_keep hb b1)
  obtain ⟨p, hp⟩ : ∃ p : Hd → Bool, (fun h : Hd => decide (h.o = x ∧ 0 ≤ x)) = p := ⟨_, rfl⟩
  have Hp := Lib.hid hp
  have hof : ofV s x = numsF p 0 s.H := by unfold ofV; rw [hp]
  rw [hof]
  clear h hO hi hz0 hz1 hz2 hm b1 hp hof
  go_enter Tryz.func35, Tryz.ntmps35
  go_wp2_with fail
  go_loopw [5, 6] (fun v i wr => ∃ k : Nat, k ≤ m ∧ i = .int .i64 (k : Nat) ∧ wr.ownsRow w.heap.size 3 1 v (numsF p 0 (s.H.take k)).length (iv (numsF p 0 (s.H.take k))) ∧ Below w.heap.size w wr) (fun _ i _ => m - (intOf i).toNat)
  case atStart => exact ⟨0, Nat.zero_le _, rfl, World.ownsRow_nil _ _ _ _, Below.refl _ _⟩
  case round =>
  obtain ⟨k, hk, rfl, hrow, hb⟩ := hrel
  have Hrow := Lib.hid hrow
  have Hb := Lib.hid hb
  have hsz := hb.size
  have b1 := hB1.out wr hb
  clear hrow hb
  by_cases hlt : k < m
  · have d1 : decide ((k : Int) < (m : Int)) = true := decide_eq_true (by omega)
    have d1' : decide (k < m) = true := decide_eq_true hlt
    have i1 : (0 : Int) ≤ (k : Int) := by omega
    have i2 : (k : Int) < (m : Int) := by omega
    have wk : IntKind.i64.wrap ((k : Int) + 1) = (k : Int) + 1 := IntWalk.i64_in _ (by have := Hfew.out; have := Hm.out; omega)
    obtain ⟨g, hal, -⟩ := HH.out.at (p := k) (by have := Hm.out; omega)
    subst hal
    obtain ⟨c0, -, -⟩ := row_at (own_keep HH.out.hol Hb.out) (k := k) (by have := Hm.out; omega)
    have hs := nums_snoc p (s := s.H) (k := k) (by have := Hm.out; omega)
    have hpk : p s.H[k]! = decide (s.H[k]!.o = x ∧ 0 ≤ x) := by rw [← Hp.out]
    obtain ⟨o, ho⟩ : ∃ o, s.H[k]!.o = o := ⟨_, rfl⟩
    rw [ho] at c0 hpk
    have Hlt := Lib.hid hlt
    have hle := nums_len p 0 (s.H.take k)
    have Hle := Lib.hid (show (numsF p 0 (s.H.take k)).length ≤ 16 from Nat.le_trans hle (by rw [List.length_take]; have := Hfew.out; omega))
    by_cases hc : o = x ∧ 0 ≤ x
    · rw [decide_eq_true hc] at hpk
      rw [hpk, if_pos rfl] at hs
      have Hs := Lib.hid hs
      have e1 : (o == x) = true := beq_iff_eq.2 hc.1
      have e2 : decide (0 ≤ x) = true := decide_eq_true hc.2
      obtain ⟨av, cv, hv, _⟩ := Orow.own_shape Hrow.out
      subst hv
      clear hs hpk ho hc hlt hle hk
      go_wp2_with (with_reducible refine Bench.at_append _ _ _ _ rfl ?_)
      apply Lib.hid
      refine wpList_append_own _ rfl _ _ 41 rfl w.heap.size 3 i0 (.int .i64 0) 1 8 Tryz.underlying41 Hi.out Hz0.out Hz1.out Hz2.out rfl (by decide) _ _ _ rfl (Hrow.out.alloc _) ⟨wr.heap.size, 0, none⟩ 1 1 [.int .i64 (k : Nat)] rfl rfl (cell_one_new _ _ _) (by simp [Value.oneCell']) (by have := Hle.out; unfold maxLen; omega) (by have := Hle.out; omega) (by simp; omega) ?_
      intro v' w1 hown1 hgrow _
      have R1 := Lib.hid hown1
      have B1 := Lib.hid ((Hb.out.alloc hsz _).grown hgrow (by simp; omega) (fun k h => (Hrow.out.lt k h).1))
      clear hown1 hgrow c0 b1
      go_wp2_with fail
      refine ⟨⟨k + 1, Hlt.out, by go_num, ?_, B1.out⟩, by have := Hlt.out; simp [intOf]; omega⟩
      rw [Hs.out, List.length_append]
      have := R1.out
      simpa [iv] using this
    · rw [decide_eq_false hc] at hpk
      rw [hpk, if_neg (by decide), List.append_nil] at hs
      have Hs := Lib.hid hs
      by_cases hox : o = x
      · have e1 : (o == x) = true := beq_iff_eq.2 hox
        have e2 : decide (0 ≤ x) = false := decide_eq_false (fun h => hc ⟨hox, h⟩)
        clear hs hpk ho hc hlt hle hox hk
        go_wp2_with fail
        refine ⟨⟨k + 1, Hlt.out, by go_num, ?_, Hb.out⟩, by have := Hlt.out; simp [intOf]; omega⟩
        rw [Hs.out]
        exact Hrow.out
      · have e1 : (o == x) = false := beq_eq_false_iff_ne.2 hox
        clear hs hpk ho hc hlt hle hox hk
        go_wp2_with fail
        refine ⟨⟨k + 1, Hlt.out, by go_num, ?_, Hb.out⟩, by have := Hlt.out; simp [intOf]; omega⟩
        rw [Hs.out]
        exact Hrow.out
  · have hkm : k = m := by omega
    have d1 : decide ((k : Int) < (m : Int)) = false := decide_eq_false (by omega)
    have d1' : decide (k < m) = false := decide_eq_false hlt
    have Hkm := Lib.hid hkm
    clear hlt hk hkm
    go_wp2_with fail
    go_ret
    refine ⟨⟨_, rfl, ?_⟩, Hb.out⟩
    have := Hrow.out
    rw [Hkm.out, ← Hm.out, List.take_length] at this
    exact this
theorem Dlist_letter {P : Program} {ops : Array Oper} {Q : Exit → Act → World → Prop} {l : List Oper} {a : Act} {w : World} (h : ∀ W, Hid (W = w) → wpList P ops Q l a W) : wpList P ops Q l a w := h w (Lib.hid rfl)
theorem cell_one_set (Y : World) (a : Addr) (v u : Value) (t : TypeId) : ∀ j x, [u][j]? = some x → ((Y.setCell a v).alloc (.cells #[u] t)).cell? ((⟨Y.heap.size, 0, none⟩ : Addr).add j) = some x := by
  have e : (Y.setCell a v).heap.size = Y.heap.size := by simp [World.setCell]
  intro j x hx
  have := Orow.cells_new (Y.setCell a v) [u] t j x hx
  rwa [e] at this
/-- The holds, k of them one tick later. -/
def tickK (l : List Hd) (k : Nat) : List Hd := (l.take k).map tickH ++ l.drop k
theorem tickK_len (l : List Hd) (k : Nat) : (tickK l k).length = l.length := by
  unfold tickK
  rw [List.length_append, List.length_map, List.length_take, List.length_drop]
  omega
theorem tickK_0 (l : List Hd) : tickK l 0 = l := by simp [tickK]
theorem tickK_all (l : List Hd) : tickK l l.length = l.map tickH := by simp [tickK]
theorem tickK_at {l : List Hd} {k : Nat} (h : k < l.length) : (tickK l k)[k]! = l[k]! := by
  have h1 : ((l.take k).map tickH).length = k := by rw [List.length_map, List.length_take]; omega
  rw [getElem!_pos _ _ (by rw [tickK_len]; exact h), getElem!_pos l k h]
  unfold tickK
  rw [List.getElem_append_right (by omega), List.getElem_drop]
  congr 1
  rw [h1]
  omega
theorem tickK_succ {l : List Hd} {k : Nat} (h : k < l.length) : tickK l (k + 1) = (tickK l k).set k (tickH l[k]!) := by
  have h1 : ((l.take k).map tickH).length = k := by rw [List.length_map, List.length_take]; omega
  unfold tickK
  rw [take_snoc h, List.map_append, List.set_append_right _ _ (by omega), h1, Nat.sub_self, List.drop_eq_getElem_cons h, List.set_cons_zero, List.append_assoc]
  rfl
theorem set_same {l : List Hd} {k : Nat} (h : k < l.length) : l.set k l[k]! = l := by
  rw [getElem!_pos l k h]; exact List.set_getElem_self h
set_option maxRecDepth 100000 in
set_option maxHeartbeats 8000000 in
theorem rTick_core (r g : Nat) (s : RS) (ak : Option Addr) (ck cl : Nat) (w : World) (h : RefH w r s ak (some ⟨g, 0, none⟩) ck cl) :
    Calls Tryz.prog 39 #[.pointer (some ⟨r, 0, none⟩)] w fun e w' => ∃ v, e = .returned v ∧ w'.ownsRow w.heap.size 3 1 v (doneV s).length (iv (doneV s)) ∧ w'.ownsRow 0 52 3 (.slice (some ⟨g, 0, none⟩) s.H.length cl) s.H.length (flHd (s.H.map tickH)) ∧ Only (fun j => j = g) w w' := by
  obtain ⟨i0, hi, hz0, hz1, hz2⟩ := info_parts KitInts.info_e
  have Hi := Lib.hid hi
  have Hz0 := Lib.hid hz0
  have Hz1 := Lib.hid hz1
  have Hz2 := Lib.hid hz2
  have b1 := h.blk.at 1 rfl
  have hgw : g < w.heap.size := (own_lt h.hol g (ba_self _ _)).2
  have hrg : r ≠ g := fun e => h.rl (by rw [e]; rfl)
  have HRow := Lib.hid h.hol
  have Hfew := Lib.hid h.ok.few
  have Hok := Lib.hid h.ok.hol
  have Hgw := Lib.hid hgw
  obtain ⟨m, hm⟩ : ∃ m, s.H.length = m := ⟨_, rfl⟩
  have Hm := Lib.hid hm
  rw [hm] at b1 HRow ⊢
  have hB1 := Lib.hid (fun W (ho : Only (fun j => j = g) w W) => only_cell ho (by show ¬ r = g; exact hrg) b1)
  have HF := Lib.hid (fun w => free_any w)
  clear h hi hz0 hz1 hz2 hm b1 hrg hgw
  go_enter Tryz.func39, Tryz.ntmps39
  go_wp2_with fail
  go_loopw [3, 4] (fun v i wr => ∃ k : Nat, k ≤ m ∧ i = .int .i64 (k : Nat) ∧ wr.ownsRow w.heap.size 3 1 v (numsF doneH 0 (s.H.take k)).length (iv (numsF doneH 0 (s.H.take k))) ∧ wr.ownsRow 0 52 3 (.slice (some ⟨g, 0, none⟩) m cl) m (flHd (tickK s.H k)) ∧ Only (fun j => j = g) w wr) (fun _ i _ => m - (intOf i).toNat)
  case atStart => exact ⟨0, Nat.zero_le _, rfl, World.ownsRow_nil _ _ _ _, by rw [tickK_0]; exact HRow.out, Only.refl _ _⟩
  case round =>
  obtain ⟨k, hk, rfl, hrow, hhol, ho⟩ := hrel
  have Hrow := Lib.hid hrow
  have HHol := Lib.hid hhol
  have Ho := Lib.hid ho
  have hsz := ho.size
  have b1 := hB1.out wr ho
  clear hrow hhol ho
  by_cases hlt : k < m
  · have d1 : decide ((k : Int) < (m : Int)) = true := decide_eq_true (by omega)
    have d1' : decide (k < m) = true := decide_eq_true hlt
    have i1 : (0 : Int) ≤ (k : Int) := by omega
    have i2 : (k : Int) < (m : Int) := by omega
    have wk : IntKind.i64.wrap ((k : Int) + 1) = (k : Int) + 1 := IntWalk.i64_in _ (by have := Hfew.out; have := Hm.out; omega)
    have hkl : k < s.H.length := by have := Hm.out; omega
    obtain ⟨c0, c1, c2⟩ := row_at HHol.out (k := k) (by rw [tickK_len]; exact hkl)
    rw [tickK_at hkl] at c0 c1 c2
    have hs := nums_snoc doneH hkl
    have ht := tickK_succ hkl
    have Hle := Lib.hid (show (numsF doneH 0 (s.H.take k)).length ≤ 16 from Nat.le_trans (nums_len doneH 0 (s.H.take k)) (by rw [List.length_take]; have := Hfew.out; omega))
    have hko := Hok.out k hkl
    obtain ⟨hd, hhd⟩ : ∃ hd, s.H[k]! = hd := ⟨_, rfl⟩
    have hat := tickK_at hkl
    rw [hhd] at c0 c1 c2 hs ht hko hat
    have Hlt := Lib.hid hlt
    have Hkl := Lib.hid (show k < (tickK s.H k).length by rw [tickK_len]; exact hkl)
    have Hat := Lib.hid hat
    have fz := fun j => row_frozen HHol.out j
    obtain ⟨hdo, hdl, hdn⟩ := hd
    obtain ⟨ho1, ho2, ho3, ho4, ho5⟩ := hko
    have ho1 : 0 ≤ hdl ∧ hdl ≤ 16 := ho1
    by_cases hl0 : hdl = 0
    · have e1 : (hdl == 0) = true := beq_iff_eq.2 hl0
      have Hs := Lib.hid (show numsF doneH 0 (s.H.take (k + 1)) = numsF doneH 0 (s.H.take k) by rw [hs]; simp [doneH, hl0])
      have Ht := Lib.hid (show tickK s.H (k + 1) = tickK s.H k by
        rw [ht]
        have : tickH ⟨hdo, hdl, hdn⟩ = (tickK s.H k)[k]! := by rw [Hat.out]; unfold tickH; rw [if_pos hl0]
        rw [this]
        exact set_same Hkl.out)
      clear hs ht hat ho1 ho2 ho3 ho4 ho5 hl0 hlt hk hkl hhd fz
      go_wp2_with fail
      refine ⟨⟨k + 1, Hlt.out, by go_num, by rw [Hs.out]; exact Hrow.out, by rw [Ht.out]; exact HHol.out, Ho.out⟩, by have := Hlt.out; simp [intOf]; omega⟩
    · have e1 : (hdl == 0) = false := beq_eq_false_iff_ne.2 hl0
      have wl : IntKind.i64.wrap (hdl - 1) = hdl - 1 := IntWalk.i64_in _ (by omega)
      have f1 := fz (k * 3 + 1)
      have f1d : wr.drew.frozen? ⟨g, k * 3 + 1, none⟩ = false := f1
      have c1d : wr.drew.cell? ⟨g, k * 3 + 1, none⟩ = some (.int .i64 hdl) := c1
      have b1d : wr.drew.cell? ⟨r, 1, none⟩ = some (.slice (some ⟨g, 0, none⟩) m cl) := b1
      have HL0 := Lib.hid hl0
      have HO1 := Lib.hid ho1
      obtain ⟨av, cv, hv, _⟩ := Orow.own_shape Hrow.out
      subst hv
      by_cases hl1 : hdl = 1
      · subst hl1
        have Hs := Lib.hid (show numsF doneH 0 (s.H.take (k + 1)) = numsF doneH 0 (s.H.take k) ++ [k] by rw [hs]; simp [doneH])
        have Ht := Lib.hid (show tickK s.H (k + 1) = (tickK s.H k).set k ⟨hdn, 0, -1⟩ by rw [ht]; rfl)
        clear hs ht hat ho1 ho2 ho3 ho4 ho5 hl0 hlt hk hkl hhd fz
        go_wp2_with fail
        go_region
        refine exit_letter ?_
        intro X hX
        have OX1 : Only (fun j => j = g) wr X := by rw [hX.out]; exact ((Only.refl (fun j => j = g) wr).setCell (p := ⟨g, k * 3 + 1, none⟩) rfl _).trans (Only.of_below (Below.refl _ _).drew)
        have RX := Lib.hid (show X.ownsRow 0 52 3 (.slice (some ⟨g, 0, none⟩) m cl) m (flHd ((tickK s.H k).set k ⟨hdo, 0, hdn⟩)) by
          have h1 := (World.ownsRow.stored HHol.out (k * 3 + 1) (.int .i64 (0))).1
          rw [flHd_l _ _ _ Hkl.out, Hat.out] at h1
          rw [hX.out]
          exact own_keep h1 (Below.refl _ _).drew)
        have OX := Lib.hid (Ho.out.trans OX1)
        have VX := Lib.hid (own_only Hrow.out OX1 (fun j hj e => by have := (own_lt Hrow.out j hj).1; have := Hgw.out; have e : j = g := e; omega))
        have b1 := hB1.out X OX.out
        obtain ⟨c0, c1, c2⟩ := row_at RX.out (k := k) (by rw [List.length_set]; exact Hkl.out)
        rw [get_set Hkl.out, if_pos rfl] at c0 c1 c2
        clear hX OX1 c1d b1d f1d f1
        go_wp2_with fail
        have S0 : Only (fun j => j = g) X X.drew := Only.of_below (Below.refl _ _).drew
        have cB : ∀ w', Only (fun j => j = g) X w' → w'.cell? ⟨r, 1, none⟩ = some (.slice (some ⟨g, 0, none⟩) m cl) := fun w' h => hB1.out w' (OX.out.trans h)
        clear c0 c1 c2 b1
        refine wp_region_held_drew (S := fun w' => Only (fun j => j = g) X w') (by kernel_rfl) S0 (fun hHeld => ?_)
        refine wpAnyH_take (i := 0) (v := ?_) rfl (by kernel_rfl) (by kernel_rfl) (by kernel_rfl) (fun _ _ _ h => h) (Or.inl ⟨by rfl, ?_⟩) (by assumption) ?_
        rotate_left
        · (intro w hSw; (try dsimp only at hSw); go_simp; try (with_reducible rfl))
        try simp only [Act.put]
        refine wpAnyH_take (i := 1) (v := ?_) rfl (by kernel_rfl) (by kernel_rfl) (by kernel_rfl) (fun _ _ _ h => h) (Or.inl ⟨by rfl, ?_⟩) (by assumption) ?_
        rotate_left
        · (intro w hSw; (try dsimp only at hSw); go_simp; try (with_reducible rfl))
        try simp only [Act.put]
        refine wpAnyH_take (i := 2) (v := ?_) rfl (by kernel_rfl) (by kernel_rfl) (by kernel_rfl) (fun _ _ _ h => h) (Or.inl ⟨by rfl, ?_⟩) (by assumption) ?_
        rotate_left
        · (intro w hSw; (try dsimp only at hSw); go_simp; try (with_reducible rfl))
        try simp only [Act.put]
        refine wpAnyH_take (i := 3) (v := ?_) rfl (by kernel_rfl) (by kernel_rfl) (by kernel_rfl) (fun _ _ _ h => h) (Or.inl ⟨by rfl, ?_⟩) (by assumption) ?_
        rotate_left
        · (intro w hSw; (try dsimp only at hSw); go_simp; try (with_reducible rfl))
        try simp only [Act.put]
        refine wpAnyH_take (i := 4) (v := ?_) rfl (by kernel_rfl) (by kernel_rfl) (by kernel_rfl) (fun _ _ _ h => h) (Or.inl ⟨by rfl, ?_⟩) (by assumption) ?_
        rotate_left
        · (intro w hSw; (try dsimp only at hSw); go_simp; try (with_reducible rfl))
        try simp only [Act.put]
        refine wpAnyH_ready (rs := [5]) (by kernel_rfl) (by simp) ?_
        refine AllReadyH.cons rfl (fun K hK => ?_) AllReadyH.nil
        go_simp
        refine (HF.out _).mono ?_
        rintro e wA ⟨rfl, hb⟩
        have BA := Lib.hid ((Below.refl X.heap.size X).drew.trans (hb.mono (Nat.le_refl _)))
        have hon : Only (fun j => j = g) X wA := Only.of_below BA.out
        clear hb
        refine hK.out _ _ hon (fun hHeld => ?_)
        clear hK hon
        try simp only [Act.put]
        refine wpAnyH_take (i := 6) (v := ?_) rfl (by kernel_rfl) (by kernel_rfl) (by kernel_rfl) (fun _ _ _ h => h) (Or.inl ⟨by rfl, ?_⟩) (by assumption) ?_
        rotate_left
        · (intro w hSw; (try dsimp only at hSw); go_simp; try (with_reducible rfl))
        try simp only [Act.put]
        refine wpAnyH_ready (rs := [7]) (by kernel_rfl) (by simp) ?_
        refine AllReadyH.cons rfl (fun K hK => ?_) AllReadyH.nil
        rw [if_pos (by rfl)]
        obtain ⟨cur, q1, q2, q3, q4, q5, q6⟩ := own_blk (own_keep RX.out BA.out)
        refine oper_store _ _ _ rfl g (k * 3) [.int .i64 (-1), .int .i64 0, .int .i64 (-1)] rfl rfl 52 _ q1 (by kernel_rfl) (by have := Hlt.out; simp; omega) (by simp [Value.oneCell']) ?_
        intro Y hY hoY
        have R := Lib.hid (And.intro True.intro (And.intro q1 hY))
        have O1 := Lib.hid hoY
        clear hY hoY q1 q2 q3 q4 q5 q6
        have hon : Only (fun j => j = g) X Y := (Only.of_below BA.out).trans O1.out
        refine hK.out _ _ hon (fun hHeld => ?_)
        clear hK hon
        simp only [Act.put, List.getElem_toArray, List.getElem_cons_succ, List.getElem_cons_zero]
        refine wpAnyH_done (by kernel_rfl) ?_ _

        have VY := Lib.hid (own_only (own_keep VX.out BA.out) O1.out (fun j hj e => by have := (own_lt VX.out j hj).1; have := Hgw.out; have e : j = g := e; omega))
        have OY := Lib.hid (show Only (fun j => j = g) w Y from OX.out.trans ((Only.of_below BA.out).trans O1.out))
        have RY := Lib.hid (show Y.ownsRow 0 52 3 (.slice (some ⟨g, 0, none⟩) m cl) m (flHd (((tickK s.H k).set k ⟨hdo, 0, hdn⟩).set k freeH)) by
          obtain ⟨cur, q1, _⟩ := own_blk (own_keep RX.out BA.out)
          have h1 := own_put (own_keep RX.out BA.out) (R.out.2.1) Hlt.out (by rfl) (R.out.2.2)
          have h2 := flHd_put (l := (tickK s.H k).set k ⟨hdo, 0, hdn⟩) (n := k) (g := freeH) (by rw [List.length_set]; exact Hkl.out)
          rw [show encHd freeH = [.int .i64 (-1), .int .i64 0, .int .i64 (-1)] from rfl] at h2
          rw [show ([.int .i64 (-1), .int .i64 0, .int .i64 (-1)] : List Value).length = 3 from rfl, h2] at h1
          exact h1)
        rw [List.set_set] at RY
        have b1 := hB1.out Y OY.out
        obtain ⟨c0, -, -⟩ := row_at RY.out (k := k) (by rw [List.length_set]; exact Hkl.out)
        rw [get_set Hkl.out, if_pos rfl] at c0
        have c0 : Y.cell? ⟨g, k * 3, none⟩ = some (.int .i64 (-1)) := c0
        have f0 := row_frozen RY.out (k * 3)
        have HZo := Lib.hid (show Only (fun j => j = g) w (Y.setCell ⟨g, k * 3, none⟩ (.int .i64 hdn)) from OY.out.setCell (p := ⟨g, k * 3, none⟩) rfl _)
        have HZr := Lib.hid (show (Y.setCell ⟨g, k * 3, none⟩ (.int .i64 hdn)).ownsRow 0 52 3 (.slice (some ⟨g, 0, none⟩) m cl) m (flHd ((tickK s.H k).set k ⟨hdn, 0, -1⟩)) by
          have h1 := (World.ownsRow.stored RY.out (k * 3) (.int .i64 hdn)).1
          rw [flHd_o _ _ _ (by rw [List.length_set]; exact Hkl.out), List.set_set, get_set Hkl.out, if_pos rfl] at h1
          exact h1)
        have HZv := Lib.hid (own_only VY.out ((Only.refl (fun j => j = g) Y).setCell (p := ⟨g, k * 3, none⟩) rfl (.int .i64 hdn)) (fun j hj e => by have := (own_lt VY.out j hj).1; have := Hgw.out; have e : j = g := e; omega))
        go_wp2_with (with_reducible refine Bench.at_append _ _ _ _ rfl ?_)
        apply Lib.hid
        refine wpList_append_own _ rfl _ _ 41 rfl w.heap.size 3 i0 (.int .i64 0) 1 8 Tryz.underlying41 Hi.out Hz0.out Hz1.out Hz2.out rfl (by decide) _ _ _ rfl (HZv.out.alloc _) ⟨Y.heap.size, 0, none⟩ 1 1 [.int .i64 (k : Nat)] rfl rfl (cell_one_set _ _ _ _ _) (by simp [Value.oneCell']) (by have := Hle.out; unfold maxLen; omega) (by have := Hle.out; omega) (by have := HZo.out.size; simp at this ⊢; omega) ?_
        intro v' w1 hown1 hgrow _
        have R1 := Lib.hid hown1
        have OG : Only (PB (.slice av (numsF doneH 0 (s.H.take k)).length cv)) (Y.setCell ⟨g, k * 3, none⟩ (.int .i64 hdn)) w1 := (Only.of_below ((Below.refl _ _).alloc (Nat.le_refl _) _)).trans (grown_only hgrow)
        have O1g := Lib.hid (show Only (fun j => j = g) w w1 from HZo.out.far OG (fun j hj e => by have := (HZv.out.lt j e).1; omega))
        have R2 := Lib.hid (own_only HZr.out OG (fun j hj e => by have := (HZv.out.lt j e).1; have := Hgw.out; have e2 : j = g := ba_some hj; omega))
        clear hown1 hgrow OG c0 f0 b1
        go_wp2_with fail
        refine ⟨⟨k + 1, Hlt.out, by go_num, ?_, by rw [Ht.out]; exact R2.out, O1g.out⟩, by have := Hlt.out; simp [intOf]; omega⟩
        rw [Hs.out, List.length_append]
        have := R1.out
        simpa [iv] using this
      · have Hs := Lib.hid (show numsF doneH 0 (s.H.take (k + 1)) = numsF doneH 0 (s.H.take k) by rw [hs]; simp [doneH, hl1])
        have Ht := Lib.hid (show tickK s.H (k + 1) = (tickK s.H k).set k ⟨hdo, hdl - 1, hdn⟩ by rw [ht]; unfold tickH; rw [if_neg hl0, if_neg hl1])
        have e2 : (hdl - 1 == 0) = false := beq_eq_false_iff_ne.2 (by omega)
        clear hs ht hat ho1 ho2 ho3 ho4 ho5 hl0 hlt hk hkl hhd fz hl1
        go_wp2_with fail
        go_region
        refine exit_letter ?_
        intro X hX
        have OX1 : Only (fun j => j = g) wr X := by rw [hX.out]; exact ((Only.refl (fun j => j = g) wr).setCell (p := ⟨g, k * 3 + 1, none⟩) rfl _).trans (Only.of_below (Below.refl _ _).drew)
        have RX := Lib.hid (show X.ownsRow 0 52 3 (.slice (some ⟨g, 0, none⟩) m cl) m (flHd ((tickK s.H k).set k ⟨hdo, hdl - 1, hdn⟩)) by
          have h1 := (World.ownsRow.stored HHol.out (k * 3 + 1) (.int .i64 (hdl - 1))).1
          rw [flHd_l _ _ _ Hkl.out, Hat.out] at h1
          rw [hX.out]
          exact own_keep h1 (Below.refl _ _).drew)
        have OX := Lib.hid (Ho.out.trans OX1)
        have VX := Lib.hid (own_only Hrow.out OX1 (fun j hj e => by have := (own_lt Hrow.out j hj).1; have := Hgw.out; have e : j = g := e; omega))
        have b1 := hB1.out X OX.out
        obtain ⟨c0, c1, c2⟩ := row_at RX.out (k := k) (by rw [List.length_set]; exact Hkl.out)
        rw [get_set Hkl.out, if_pos rfl] at c0 c1 c2
        clear hX OX1 c1d b1d f1d f1
        go_wp2_with fail
        refine ⟨⟨k + 1, Hlt.out, by go_num, by rw [Hs.out]; exact VX.out, by rw [Ht.out]; exact RX.out, OX.out⟩, by have := Hlt.out; simp [intOf]; omega⟩
  · have hkm : k = m := by omega
    have d1 : decide ((k : Int) < (m : Int)) = false := decide_eq_false (by omega)
    have d1' : decide (k < m) = false := decide_eq_false hlt
    have Hkm := Lib.hid hkm
    clear hlt hk hkm
    go_wp2_with fail
    go_ret
    refine ⟨_, rfl, ?_, ?_, Ho.out⟩
    · have := Hrow.out
      rw [Hkm.out, ← Hm.out, List.take_length] at this
      exact this
    · have := HHol.out
      rw [Hkm.out] at this
      have e := tickK_all s.H
      rw [Hm.out] at e
      rw [e] at this
      exact this
/-- A tick of none: nothing is asked. -/
theorem rTick_nil (r : Nat) (cl : Nat) (w : World) (b1 : w.cell? ⟨r, 1, none⟩ = some (.slice none 0 cl)) :
    Calls Tryz.prog 39 #[.pointer (some ⟨r, 0, none⟩)] w fun e w' => e = .returned (.slice none 0 0) ∧ w = w' := by
  go_enter Tryz.func39, Tryz.ntmps39
  go_wp2_with fail
  go_loopw [3, 4] (fun v i wr => v = .slice none 0 0 ∧ i = .int .i64 0 ∧ wr = w) (fun _ _ _ => 0)
  case atStart => exact ⟨rfl, rfl, rfl⟩
  case round =>
  obtain ⟨rfl, rfl, rfl⟩ := hrel
  go_wp2_with fail
  go_ret
  exact ⟨rfl, rfl⟩
theorem rTick_any (r : Nat) (s : RS) (O : Nat → Prop) (w : World) (h : RefS w r s O) :
    Calls Tryz.prog 39 #[.pointer (some ⟨r, 0, none⟩)] w fun e w' => ∃ a c O', e = .returned (.slice a (doneV s).length c) ∧ w'.ownsRow w.heap.size 3 1 (.slice a (doneV s).length c) (doneV s).length (iv (doneV s)) ∧ RefS w' r (tickV s) O' ∧ Only O w w' ∧ (∀ j, O' j → O j) := by
  obtain ⟨ak, al, ck, cl, h, e⟩ := h
  cases al with
  | none =>
    have h0 : s.H.length = 0 := (own_none h.hol rfl).1
    have hnil : s.H = [] := List.eq_nil_of_length_eq_zero h0
    have b1 := h.blk.at 1 rfl
    rw [h0] at b1
    refine (rTick_nil r cl w b1).mono ?_
    rintro e' w' ⟨rfl, rfl⟩
    have hd : doneV s = [] := by unfold doneV; rw [hnil]; rfl
    have ht : tickV s = s := by unfold tickV; rw [hnil]; show RS.mk s.K [] = s; rw [← hnil]
    refine ⟨none, 0, O, by rw [hd]; rfl, by rw [hd]; exact World.ownsRow_nil _ _ _ _, by rw [ht]; exact ⟨ak, none, ck, cl, h, e⟩, Only.refl _ _, fun j hj => hj⟩
  | some ad =>
    obtain ⟨g, hg⟩ : ∃ g, (some ad : Option Addr) = some ⟨g, 0, none⟩ := by
      rcases h.hol.2 with ⟨h2, h0⟩ | ⟨g, cap, cur, h2, _⟩
      · simp only [Value.slice.injEq] at h2; exact absurd h2.1 (by simp)
      · exact ⟨g, by injection h2⟩
    rw [hg] at h e
    refine (rTick_core r g s ak ck cl w h).mono ?_
    rintro e' w' ⟨v, rfl, hv, hr, ho⟩
    obtain ⟨a, c, rfl, _⟩ := Orow.own_shape hv
    have hok := ok_tick h.ok
    have hp := h.put (H' := s.H.map tickH) ho (by simp) hr hok
    refine ⟨a, c, O, rfl, hv, ⟨ak, some ⟨g, 0, none⟩, ck, cl, hp, fun j => ?_⟩, ho.mono (fun j _ e' => (e j).2 (.inr (.inr (by have e' : j = g := e'; rw [e']; rfl)))), fun j hj => hj⟩
    show O j ↔ (j = r ∨ PB (.slice ak (s.H.map tickH).length ck) j ∨ PB (.slice (some ⟨g, 0, none⟩) (s.H.map tickH).length cl) j)
    rw [List.length_map]
    exact e j
end Go.Proofs.YtmdepkehpohgeaaGreat.Scr
/- The document's row of holds: New. -/
namespace Go.Proofs.YtmdepkehpohgeaaGreat.Scr
open Go.RowKit Go.Maps Go.ChangeShapes Go.WideShapes Go.ChangeAt Fifo Orow Word
set_option linter.unusedVariables false

theorem rNew_no (a : Option Addr) (n cap : Nat) (l : List Win.Dv) (w : World) (hn : n ≤ 1000000) (h : Win.RowV w a n l) (hb : Win.rowB l = false) :
    Calls Tryz.prog 8 #[.slice a n cap] w fun e w' => e = .returned (.tuple #[.pointer none, .bool false]) ∧ Below w.heap.size w w' := by
  have HR := Lib.hid (Win.wRight_any a n cap l false w hn h hb)
  clear h hb hn
  go_enter Tryz.func8, Tryz.ntmps8
  go_wp2_with fail
  refine HR.out.mono ?_
  rintro e w1 ⟨rfl, hb⟩
  have B1 := Lib.hid hb
  clear hb HR
  go_wp2_with fail
  go_ret2
  exact ⟨rfl, B1.out⟩
theorem info_k : (Tryz.prog.info? 42).map (fun i => (i.zero, i.size, i.bytes)) = some (some (.int .i64 0), 1, 8) := by kernel_rfl
theorem info_h : (Tryz.prog.info? 52).map (fun i => (i.zero, i.size, i.bytes)) = some (some (.agg #[.int .i64 0, .int .i64 0, .int .i64 0]), 3, 24) := by kernel_rfl
/-- An append, as one operation of a drawn region; where the row lies then. -/
theorem oper_append_at {P : Program} {o : Oper} {a : Act} {w : World} {K : Act → World → Prop} {Q : Exit → Act → World → Prop} (s x : Operand) (t : TypeId)
    (ho : o.op = .call { callee := .builtin .append, args := #[s, x], argTypes := #[t, t] })
    (base : Nat) (e : TypeId) (i : TypeInfo) (z : Value) (size bytes : Nat) (ht : P.underlying t = some (.slice e)) (hi : P.info? e = some i) (hz : i.zero = some z)
    (hsize : i.size = size) (hby : i.bytes = bytes) (hzs : z.cells.size = size) (hsz : 0 < size)
    (v : Value) (n : Nat) (xs : List Value) (hs : a.eval s = v) (hown : w.ownsRow base e size v n xs)
    (ad : Addr) (m c : Nat) (news : List Value) (hx : a.eval x = .slice (some ad) m c) (hl : news.length = m * size) (hnews : ∀ j u, news[j]? = some u → w.cell? (ad.add j) = some u) (h1 : ∀ u ∈ news, u.oneCell' = true)
    (h63 : n + m ≤ maxLen) (hbytes : (n + m) * bytes ≤ 140737488355328) (hbase : base ≤ w.heap.size)
    (h : ∀ v' w', w'.ownsRow base e size v' (n + m) (xs ++ news) → w.grownBy w' v.ownBlock → (v'.ownBlock = v.ownBlock ∨ v'.ownBlock = some w.heap.size) → K (a.put o.dst v') w') : Oper.wp P o a w K Q := by
  obtain ⟨v', w', hr, h2, h3, h4, h5⟩ := run_append_own_at (P := P) w base t o.type e i z size bytes ht hi hz hsize hby hzs hsz v n xs hown ad m c news hl hnews h1 h63 hbytes hbase
  unfold Oper.wp execOp
  simp only [ho, resolve, invoke, builtin, Sem.run_bind, Sem.run_pure, Result.andThen_ok, List.map_toArray, List.map_cons, List.map_nil, hs, hx, hr]
  exact h v' w' h2 h3 h5
theorem pb_far {vk vl v' : Value} {n : Nat} (h : ∀ j, PB vk j → ¬ PB vl j) (hl : ∀ j, PB vl j → j < n) (h4 : v'.ownBlock = vk.ownBlock ∨ ∃ m, n ≤ m ∧ v'.ownBlock = some m) : ∀ j, PB v' j → ¬ PB vl j := by
  intro j hj
  rcases h4 with e | ⟨m, hm, e⟩
  · exact h j (by unfold PB at hj ⊢; rw [← e]; exact hj)
  · have : j = m := by unfold PB at hj; rw [e] at hj; exact (Option.some.inj hj).symm
    intro k
    have := hl j k
    omega
theorem KitInts_base {w : World} {b n sz : Nat} {e : TypeId} {v : Value} {L : List Value} (h : w.ownsRow b e sz v n L) : w.ownsRow 0 e sz v n L := own_mono h (Nat.zero_le _)
/-- The rows under way. -/
structure Made (B : Nat) (w : World) (vk vl : Value) (k : Nat) (l : List Win.Dv) : Prop where
  kin : w.ownsRow B 42 1 vk k (kv ((newS l).K.take k))
  hol : w.ownsRow B 52 3 vl k (flHd ((newS l).H.take k))
  kl : ∀ j, PB vk j → ¬ PB vl j
set_option maxRecDepth 100000 in
set_option maxHeartbeats 8000000 in
theorem rNew_yes (a : Option Addr) (n cap : Nat) (l : List Win.Dv) (w : World) (hn : n ≤ 16) (h : Win.RowV w a n l) (hb : Win.rowB l = true) :
    Calls Tryz.prog 8 #[.slice a n cap] w fun e w' => (∃ r O, e = .returned (.tuple #[.pointer (some ⟨r, 0, none⟩), .bool true]) ∧ RefS w' r (newS l) O ∧ ∀ j, O j → w.heap.size ≤ j) ∧ Below w.heap.size w w' := by
  obtain ⟨i0, hi, hz0, hz1, hz2⟩ := info_parts info_k
  have Hi := Lib.hid hi
  have Hz0 := Lib.hid hz0
  have Hz1 := Lib.hid hz1
  have Hz2 := Lib.hid hz2
  obtain ⟨j0, hj, hy0, hy1, hy2⟩ := info_parts info_h
  have Hj := Lib.hid hj
  have Hy0 := Lib.hid hy0
  have Hy1 := Lib.hid hy1
  have Hy2 := Lib.hid hy2
  have HR := Lib.hid (Win.wRight_any a n cap l true w (by omega) h hb)
  have HL := Lib.hid h
  have Hn := Lib.hid hn
  have Hb := Lib.hid hb
  have HF := Lib.hid (fun w => free_any w)
  clear h hb hn hi hz0 hz1 hz2 hj hy0 hy1 hy2
  go_enter Tryz.func8, Tryz.ntmps8
  go_wp2_with fail
  refine HR.out.mono ?_
  rintro e w1 ⟨rfl, hb⟩
  have B1 := Lib.hid hb
  clear hb HR
  go_wp2_with fail
  obtain ⟨gr, hgr⟩ : ∃ g, w1.heap.size = g := ⟨_, rfl⟩
  rw [hgr]
  refine code_letter ?_
  intro W hW
  have BW := Lib.hid (show Below w.heap.size w W by rw [hW.out]; exact B1.out.alloc B1.out.size _)
  have CW := Lib.hid (show Blk W gr 72 [.slice none 0 0, .slice none 0 0] by rw [hW.out, ← hgr]; exact Blk.new w1 _ [.slice none 0 0, .slice none 0 0])
  have HGR := Lib.hid (show w.heap.size ≤ gr by rw [← hgr]; exact B1.out.size)
  clear hW hgr B1
  go_loopw [5] (fun i wr => ∃ (k : Nat) (vk vl : Value), k ≤ n ∧ i = .int .i64 (k : Nat) ∧ Blk wr gr 72 [vk, vl] ∧ Made (gr + 1) wr vk vl k l ∧ Below w.heap.size w wr) (fun i _ => n - (intOf i).toNat)
  case atStart => exact ⟨0, .slice none 0 0, .slice none 0 0, Nat.zero_le _, rfl, CW.out, ⟨World.ownsRow_nil _ _ _ _, World.ownsRow_nil _ _ _ _, fun j e => by simp [PB, Value.ownBlock] at e⟩, BW.out⟩
  case round =>
  clear CW BW
  obtain ⟨k, vk, vl, hk, rfl, hblk, hmade, hb⟩ := hrel
  have HBk := Lib.hid hblk
  have HM := Lib.hid hmade
  have HB := Lib.hid hb
  clear hblk hmade hb
  by_cases hlt : k < n
  · have d1 : decide ((k : Int) < (n : Int)) = true := decide_eq_true (by omega)
    have d1' : decide (k < n) = true := decide_eq_true hlt
    have i1 : (0 : Int) ≤ (k : Int) := by omega
    have i2 : (k : Int) < (n : Int) := by omega
    have wk : IntKind.i64.wrap ((k : Int) + 1) = (k : Int) + 1 := IntWalk.i64_in _ (by have := Hn.out; omega)
    obtain ⟨lb, off, rfl, ce⟩ := HL.out.2.2 k hlt
    obtain ⟨x, hx⟩ : ∃ x, l[k]! = x := ⟨_, rfl⟩
    rw [hx] at ce
    have Hx := Lib.hid hx
    have CE := Lib.hid (fun W (hb : Below w.heap.size w W) => ce.keep hb)
    have Hlt := Lib.hid hlt
    obtain ⟨xk, xB, xS, xO, xL⟩ := x
    clear hlt hk hx ce
    go_wp2_with fail
    refine (HF.out wr).mono ?_
    rintro e w2 ⟨rfl, hb⟩
    have HBk2 := Lib.hid (HBk.out.keep hb)
    have K2 := Lib.hid (own_keep HM.out.kin hb)
    have L2 := Lib.hid (own_keep HM.out.hol hb)
    have HB2 := Lib.hid (HB.out.trans (hb.mono HB.out.size))
    have q3 := fun o => (CE.out (w2.alloc o) (HB2.out.alloc HB2.out.size o)).c3
    clear hb
    unfold hV freeH
    go_wp2_with fail
    refine code_letter ?_
    intro X hX
    obtain ⟨gh, hgh⟩ : ∃ g, w2.heap.size = g := ⟨_, rfl⟩
    have BX2 : Below w2.heap.size w2 X := by rw [hX.out]; exact (Below.refl _ _).alloc (Nat.le_refl _) _
    have HH := Lib.hid (show Blk X gh 52 [.int .i64 xO, .int .i64 0, .int .i64 (-1)] by rw [hX.out, ← hgh]; exact Blk.new w2 _ [.int .i64 xO, .int .i64 0, .int .i64 (-1)])
    have HBX := Lib.hid (HBk2.out.keep BX2)
    have KX := Lib.hid (own_keep K2.out BX2)
    have LX := Lib.hid (own_keep L2.out BX2)
    have BX := Lib.hid (HB2.out.trans (BX2.mono HB2.out.size))
    have Hgrh := Lib.hid (show gr < gh by rw [← hgh]; exact HBk2.out.lt)
    have Hghx := Lib.hid (show gh < X.heap.size from HH.out.lt)
    have KLt := Lib.hid (show ∀ j, PB vk j → gr < j ∧ j < gh from fun j hj => by have := K2.out.lt j hj; rw [← hgh]; omega)
    have LLt := Lib.hid (show ∀ j, PB vl j → gr < j ∧ j < gh from fun j hj => by have := L2.out.lt j hj; rw [← hgh]; omega)
    rw [hgh]
    clear hX BX2 q3 hgh HBk2 K2 L2 HB2 HB HBk
    obtain ⟨ak, ck, hvk, -, -⟩ := Orow.own_shape KX.out
    subst hvk
    obtain ⟨al, cl, hvl, -, -⟩ := Orow.own_shape LX.out
    subst hvl
    have b0 := HBX.out.at 0 rfl
    have b0' := fun o => (HBX.out.alloc o).at 0 rfl
    have k0 := (CE.out X BX.out).c0
    have k0' := fun o => (CE.out (X.alloc o) (BX.out.alloc BX.out.size o)).c0
    have HKd := Lib.hid (fun o => own_keep KX.out ((Below.refl _ _).drew.alloc (Nat.le_refl X.heap.size) o))
    go_region_law (first
      | (refine (if_pos (by rfl)).mpr ?_; refine oper_append_at _ _ 70 rfl (gr + 1) 42 i0 (.int .i64 0) 1 8 Tryz.underlying70 Hi.out Hz0.out Hz1.out Hz2.out rfl (by decide) (.slice ak k ck) k _ rfl (HKd.out _) ⟨X.heap.size, 0, none⟩ 1 1 [.int .i64 xk] rfl rfl (Orow.cells_new _ _ _) (by simp [Value.oneCell']) (by have := Hlt.out; have := Hn.out; unfold maxLen; omega) (by have := Hlt.out; have := Hn.out; omega) (by have := Hgrh.out; have := Hghx.out; simp; omega) ?_; intro v' W9 r1 r2 r4; obtain ⟨a9, c9, hv9, -, -⟩ := Orow.own_shape r1; subst hv9; have hob := (HBX.out.keep ((Below.refl X.heap.size X).drew.alloc (Nat.le_refl _) _)).only (grown_only r2) (fun e => by have := (KX.out.lt gr e).1; omega); have w0 := hob.at 0 rfl; have wf0 := hob.frozen 0))
    all_goals (
      refine exit_letter ?_
      intro Z hZ
      have hal : ∀ o, Below X.heap.size X (X.drew.alloc o) := fun o => (Below.refl X.heap.size X).drew.alloc (Nat.le_refl _) o
      have hg := grown_only r2
      have hset := (Only.refl (fun j => j = gr) W9).setCell (p := ⟨gr, 0, none⟩) rfl (.slice a9 (k + 1) c9)
      have KZ := Lib.hid (show Z.ownsRow (gr + 1) 42 1 (.slice a9 (k + 1) c9) (k + 1) (kv ((newS l).K.take k) ++ [.int .i64 xk]) by rw [hZ.out]; exact own_only r1 hset (fun j hj e => by have := (own_lt r1 j hj).1; have e : j = gr := e; omega))
      have LZ := Lib.hid (show Z.ownsRow (gr + 1) 52 3 (.slice al k cl) k (flHd ((newS l).H.take k)) by rw [hZ.out]; exact own_only (own_only (own_keep LX.out (hal _)) hg (fun j hj e => HM.out.kl j e (pb_ba hj))) hset (fun j hj e => by have := (own_lt LX.out j hj).1; have e : j = gr := e; omega))
      have HZ := Lib.hid (show Blk Z gh 52 [.int .i64 xO, .int .i64 0, .int .i64 (-1)] by rw [hZ.out]; exact ((HH.out.keep (hal _)).only hg (fun e => by have := (KLt.out gh e).2; omega)).other (by show gh ≠ gr; have := Hgrh.out; omega) _)
      have RZ := Lib.hid (show Blk Z gr 72 [.slice a9 (k + 1) c9, .slice al k cl] by rw [hZ.out]; exact hob.set 0 _)
      have BZ := Lib.hid (show Below w.heap.size w Z by
        rw [hZ.out]
        have h1 := fun o => BX.out.trans ((hal o).mono BX.out.size)
        exact ((h1 _).trans (hg.below (h1 _).size (fun j hj => by have := (KLt.out j hj).1; have := HGR.out; omega))).setCell (p := ⟨gr, 0, none⟩) HGR.out _)
      have KLZ := Lib.hid (pb_far (n := gh) HM.out.kl (fun j hj => (LLt.out j hj).2) (r4.imp id (fun e => ⟨_, by have := Hghx.out; simp; omega, e⟩)))
      have sXZ := Lib.hid (show gh < Z.heap.size from HZ.out.lt)
      clear hZ hal hg hset r1 r2 r4 hob w0 wf0 b0 b0' k0 k0' HKd KX LX HH HBX BX
      have b1 := RZ.out.at 1 rfl
      have b1' := fun o => (RZ.out.alloc o).at 1 rfl
      have h0 := HZ.out.at 0 rfl
      have h1 := HZ.out.at 1 rfl
      have h2 := HZ.out.at 2 rfl
      have h0' := fun o => (HZ.out.alloc o).at 0 rfl
      have h1' := fun o => (HZ.out.alloc o).at 1 rfl
      have h2' := fun o => (HZ.out.alloc o).at 2 rfl
      have HLd := Lib.hid (fun o => own_keep LZ.out ((Below.refl _ _).drew.alloc (Nat.le_refl Z.heap.size) o))
      go_wp2_with fail
      go_region_law (first
        | (refine (if_pos (by rfl)).mpr ?_; refine oper_append_at _ _ 62 rfl (gr + 1) 52 j0 (.agg #[.int .i64 0, .int .i64 0, .int .i64 0]) 3 24 Tryz.underlying62 Hj.out Hy0.out Hy1.out Hy2.out rfl (by decide) (.slice al k cl) k _ rfl (HLd.out _) ⟨Z.heap.size, 0, none⟩ 1 1 [.int .i64 xO, .int .i64 0, .int .i64 (-1)] rfl rfl (Orow.cells_new _ _ _) (by simp [Value.oneCell']) (by have := Hlt.out; have := Hn.out; unfold maxLen; omega) (by have := Hlt.out; have := Hn.out; omega) (by have := Hgrh.out; have := sXZ.out; simp; omega) ?_; intro v2' W8 t1 t2 t4; obtain ⟨a8, c8, hv8, -, -⟩ := Orow.own_shape t1; subst hv8; have hob := (RZ.out.keep ((Below.refl Z.heap.size Z).drew.alloc (Nat.le_refl _) _)).only (grown_only t2) (fun e => by have := (LZ.out.lt gr e).1; omega); have w1' := hob.at 1 rfl; have wf1 := hob.frozen 1)))
    all_goals (
      refine exit_letter ?_
      intro V hV
      have hal : ∀ o, Below Z.heap.size Z (Z.drew.alloc o) := fun o => (Below.refl Z.heap.size Z).drew.alloc (Nat.le_refl _) o
      have hg := grown_only t2
      have hset := (Only.refl (fun j => j = gr) W8).setCell (p := ⟨gr, 1, none⟩) rfl (.slice a8 (k + 1) c8)
      have LV := Lib.hid (show V.ownsRow (gr + 1) 52 3 (.slice a8 (k + 1) c8) (k + 1) (flHd ((newS l).H.take k) ++ [.int .i64 xO, .int .i64 0, .int .i64 (-1)]) by rw [hV.out]; exact own_only t1 hset (fun j hj e => by have := (own_lt t1 j hj).1; have e : j = gr := e; omega))
      have KV := Lib.hid (show V.ownsRow (gr + 1) 42 1 (.slice a9 (k + 1) c9) (k + 1) (kv ((newS l).K.take k) ++ [.int .i64 xk]) by rw [hV.out]; exact own_only (own_only (own_keep KZ.out (hal _)) hg (fun j hj e => KLZ.out j (pb_ba hj) e)) hset (fun j hj e => by have := (own_lt KZ.out j hj).1; have e : j = gr := e; omega))
      have RV := Lib.hid (show Blk V gr 72 [.slice a9 (k + 1) c9, .slice a8 (k + 1) c8] by rw [hV.out]; exact hob.set 1 _)
      have BV := Lib.hid (show Below w.heap.size w V by
        rw [hV.out]
        have h1 := fun o => BZ.out.trans ((hal o).mono BZ.out.size)
        exact ((h1 _).trans (hg.below (h1 _).size (fun j hj => by have := (LLt.out j hj).1; have := HGR.out; omega))).setCell (p := ⟨gr, 1, none⟩) HGR.out _)
      have KLV := Lib.hid (show ∀ j, PB (.slice a9 (k + 1) c9) j → ¬ PB (.slice a8 (k + 1) c8) j from fun j e1 e2 =>
        pb_far (n := Z.heap.size) (fun j e3 e4 => KLZ.out j e4 e3) (fun j hj => (own_lt KZ.out j (ba_pb hj)).2) (t4.imp id (fun e => ⟨_, by simp, e⟩)) j e2 e1)
      have hlen : k < l.length := by have := HL.out.1; have := Hlt.out; omega
      have HMV := Lib.hid (show Made (gr + 1) V (.slice a9 (k + 1) c9) (.slice a8 (k + 1) c8) (k + 1) l from by
        have hk : (newS l).K.take (k + 1) = (newS l).K.take k ++ [xk] := by
          unfold newS
          rw [List.take_add_one, List.getElem?_map, List.getElem?_eq_getElem hlen, ← getElem!_pos l k hlen, Hx.out]
          rfl
        have hh : (newS l).H.take (k + 1) = (newS l).H.take k ++ [⟨xO, 0, -1⟩] := by
          unfold newS
          rw [List.take_add_one, List.getElem?_map, List.getElem?_eq_getElem hlen, ← getElem!_pos l k hlen, Hx.out]
          rfl
        refine ⟨?_, ?_, KLV.out⟩
        · rw [hk]
          have := KV.out
          simpa [kv] using this
        · rw [hh, flHd_app]
          exact LV.out)
      clear hV hal hg hset t1 t2 t4 hob w1' wf1 b1 b1' h0 h1 h2 h0' h1' h2' HLd KZ LZ HZ RZ BZ KLZ sXZ LV KV hlen
      go_wp2_with fail
      exact ⟨⟨k + 1, _, _, Hlt.out, by go_num, RV.out, HMV.out, BV.out⟩, by have := Hlt.out; simp [intOf]; omega⟩)
  · have hkn : k = n := by omega
    have d1 : decide ((k : Int) < (n : Int)) = false := decide_eq_false (by omega)
    have d1' : decide (k < n) = false := decide_eq_false hlt
    have Hkn := Lib.hid hkn
    clear hlt hk hkn
    go_wp2_with fail
    go_ret2
    have hlen := HL.out.1
    have e1 : (newS l).H.length = n := by simp [newS, hlen]
    have e2 : (newS l).K.length = n := by simp [newS, hlen]
    have hm := HM.out
    rw [Hkn.out] at hm
    obtain ⟨ak, ck, hvk, -, -⟩ := Orow.own_shape hm.kin
    subst hvk
    obtain ⟨al, cl, hvl, -, -⟩ := Orow.own_shape hm.hol
    subst hvl
    have h1 := hm.kin
    have h2 := hm.hol
    rw [List.take_of_length_le (by omega)] at h1 h2
    refine ⟨⟨gr, fun j => j = gr ∨ PB (.slice ak n ck) j ∨ PB (.slice al n cl) j, rfl, ⟨ak, al, ck, cl, ⟨?_, ?_, ?_, ?_, ?_, ?_, ok_new Hb.out⟩, fun j => ?_⟩, ?_⟩, HB.out⟩
    · rw [e1]; exact HBk.out
    · rw [e1]; exact KitInts_base h1
    · rw [e1]; exact KitInts_base h2
    · rw [e1]; exact fun e => by have := (own_lt h1 gr (ba_pb e)).1; omega
    · rw [e1]; exact fun e => by have := (own_lt h2 gr (ba_pb e)).1; omega
    · rw [e1]; exact hm.kl
    · rw [e1]
    · rintro j (rfl | hj | hj)
      · exact HGR.out
      · have := (own_lt h1 j (ba_pb hj)).1; have := HGR.out; omega
      · have := (own_lt h2 j (ba_pb hj)).1; have := HGR.out; omega
end Go.Proofs.YtmdepkehpohgeaaGreat.Scr
