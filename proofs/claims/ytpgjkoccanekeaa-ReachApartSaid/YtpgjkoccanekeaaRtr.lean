/- Of any reaches whether they are right and no two meet: the package's answer is the document's; they stay: the walk of ReachApart. -/
import Derived.Test.YtpgjkoccanekeaaRtp
import Derived.Test.YtpgjkoccanekeaaRtq
import Derived.Laws.AppendOwn
import Derived.Laws.AppendOwnNone
namespace Go.Proofs.Ytpgjkoccanekeaa.Reach
open Go.RowKit Go.Maps Go.ChangeShapes Go.WideShapes Go.ChangeAt
set_option linter.unusedVariables false

set_option maxHeartbeats 1000000 in
theorem same_any (a a' : Option Addr) (n c c' : Nat) (d : List (Int × Int)) (w : World) (hn : n ≤ 1000000) (h : RowR w a n d) (h' : RowR w a' n d) :
    Calls Try.prog 22 #[.slice a n c, .slice a' n c'] w fun e w' => e = .returned (.bool true) ∧ Below w.heap.size w w' := by
  have Hr := Lib.hid h
  have Hr' := Lib.hid h'
  clear h h'
  go_enter Try.func22, Try.ntmps22
  go_wp2_with fail
  go_loopw [5] (fun i wr => ∃ k : Nat, k ≤ n ∧ i = .int .i64 k ∧ Below w.heap.size w wr) (fun i _ => n - (intOf i).toNat)
  case atStart => exact ⟨0, Nat.zero_le _, rfl, Below.refl _ _⟩
  case round =>
    obtain ⟨k, hk, rfl, hb⟩ := hrel
    have Hb := Lib.hid hb
    have hsz := hb.size
    clear hb
    by_cases hlt : k < n
    · obtain ⟨b, off, rfl, c0, c1⟩ := Hr.out.2 k hlt
      obtain ⟨b', off', rfl, c2, c3⟩ := Hr'.out.2 k hlt
      have e0 := cell_keep Hb.out c0
      have e1 := cell_keep Hb.out c1
      have e2 := cell_keep Hb.out c2
      have e3 := cell_keep Hb.out c3
      clear c0 c1 c2 c3
      obtain ⟨x, hx⟩ : ∃ x, d[k]! = x := ⟨_, rfl⟩
      rw [hx] at e0 e1 e2 e3
      clear hx
      obtain ⟨x0, x1⟩ := x
      have i1 : (0 : Int) ≤ (k : Int) := by omega
      have i2 : (k : Int) < (n : Int) := by omega
      go_wp2_with fail
      refine wp_region_ext (by kernel_rfl) (by kernel_rfl) ?_
      intro W hW
      rw [← hW.out] at e0 e1 e2 e3
      have B := Lib.hid (show Below w.heap.size w W by rw [hW.out]; exact Hb.out)
      clear hW
      have q0 := ext_cell e0
      have q1 := ext_cell e1
      have q2 := ext_cell e2
      have q3 := ext_cell e3
      repeat (go_big_quiet_step (fail))
      refine wpQuiet_nil ?_
      intro w' hw'
      obtain ⟨p, rfl⟩ := hw'
      have Hp := Lib.hid (B.out.trans ((ext_below W p).mono B.out.size))
      clear q0 q1 q2 q3
      go_wp2_with fail
      exact ⟨⟨k + 1, by omega, by go_num, Hp.out⟩, by simp [intOf]; omega⟩
    · obtain rfl : k = n := by omega
      go_wp2_with fail
      go_ret
      exact ⟨rfl, Hb.out⟩

theorem info_r : (Try.prog.info? 24).map (fun i => (i.zero, i.size, i.bytes)) = some (some (.agg #[.int .u32 0, .int .u32 0]), 2, 8) := by kernel_rfl
theorem row_of_own {w : World} {base n : Nat} {v : Value} {d : List (Int × Int)} (hd : d.length = n) (h : w.ownsRow base 24 2 v n (fl d)) (hv : v ≠ .slice none 0 0) :
    ∃ g c, v = .slice (some ⟨g, 0, none⟩) n c ∧ RowR w (some ⟨g, 0, none⟩) n d := by
  rcases h.2 with ⟨h', _⟩ | ⟨g, cap, cur, h', hr⟩
  · exact absurd h' hv
  · refine ⟨g, cap, h', hd, fun j hj => ⟨g, 0, rfl, ?_, ?_⟩⟩
    · subst h'
      rw [Nat.zero_add, h.cellAt (j * 2) (by omega), fl_get d _ (by omega)]
      rw [show j * 2 / 2 = j by omega, show j * 2 % 2 = 0 by omega]
      rfl
    · subst h'
      rw [Nat.zero_add, h.cellAt (j * 2 + 1) (by omega), fl_get d _ (by omega)]
      rw [show (j * 2 + 1) / 2 = j by omega, show (j * 2 + 1) % 2 = 1 by omega]
      rfl
theorem empty_own (w : World) : (w.alloc (.cells #[] 24)).ownsRow w.heap.size 24 2 (.slice (some ⟨w.heap.size, 0, none⟩) 0 0) 0 [] :=
  ⟨rfl, .inr ⟨w.heap.size, 0, #[], rfl, Nat.le_refl _, by show (w.heap.push _)[w.heap.size]? = _; simp, Nat.le_refl _, by unfold maxLen; omega, rfl, rfl⟩⟩

set_option maxHeartbeats 1000000 in
theorem rapart_long (a : Option Addr) (n cap : Nat) (w : World) (h : 200 < n) (hm : n ≤ maxLen) :
    Calls Try.prog 5 #[.slice a n cap] w fun e w' => e = .returned (.bool true) ∧ Below w.heap.size w w' := by
  unfold maxLen at hm
  go_enter Try.func5, Try.ntmps5
  go_wp2_with fail
  refine (awake_any _).mono ?_
  rintro e w1 ⟨rfl, hb⟩
  have Hb := Lib.hid hb
  clear hb
  go_wp2_with fail
  go_ret
  exact ⟨rfl, Hb.out⟩
set_option maxHeartbeats 1000000 in
theorem rapart_none (w : World) :
    Calls Try.prog 5 #[.slice none 0 0] w fun e w' => e = .returned (.bool true) ∧ Below w.heap.size w w' := by
  obtain ⟨i0, hi, hz0, hz1, hz2⟩ := info_parts info_r
  have Hi := Lib.hid hi
  clear hi hz0 hz1 hz2
  go_enter Try.func5, Try.ntmps5
  go_wp2_with (at_builtin; refine wpList_append_own_none rfl _ _ 34 rfl w.heap.size 24 i0 2 Try.underlying34 Hi.out _ 0 [] rfl (empty_own w) rfl ?_)
  have R0 := Lib.hid (show RowR (w.alloc (.cells #[] 24)) (some ⟨w.heap.size, 0, none⟩) 0 [] from ⟨rfl, fun j hj => by omega⟩)
  have R0' := Lib.hid (show RowR (w.alloc (.cells #[] 24)) none 0 [] from ⟨rfl, fun j hj => by omega⟩)
  have HB := Lib.hid ((Below.refl w.heap.size w).alloc (Nat.le_refl _) (.cells #[] 24))
  obtain ⟨x, hx⟩ : ∃ x, apartB [] = x := ⟨_, rfl⟩
  have HA := Lib.hid hx
  clear hx
  refine (apart_any (some ⟨w.heap.size, 0, none⟩) 0 0 [] _ (by omega) R0.out).mono ?_
  rw [HA.out]
  rintro e w2 ⟨rfl, hb⟩
  have R1 := Lib.hid (RowR.keep R0.out hb)
  have R2 := Lib.hid (RowR.keep R0'.out hb)
  have Hb := Lib.hid (HB.out.trans (hb.mono HB.out.size))
  clear hb
  go_wp2_with fail
  refine (rapart_any none 0 0 [] _ (by omega) R2.out).mono ?_
  rw [HA.out]
  rintro e w3 ⟨rfl, hb⟩
  have R3 := Lib.hid (R1.out.keep hb)
  have R4 := Lib.hid (R2.out.keep hb)
  have Hb2 := Lib.hid (Hb.out.trans (hb.mono Hb.out.size))
  clear hb
  go_wp2_with fail
  refine (same_any (some ⟨w.heap.size, 0, none⟩) none 0 0 0 [] _ (by omega) R3.out R4.out).mono ?_
  rintro e w4 ⟨rfl, hb⟩
  have Hb3 := Lib.hid (Hb2.out.trans (hb.mono Hb2.out.size))
  clear hb
  go_wp2_with fail
  refine (awake_any _).mono ?_
  rintro e w5 ⟨rfl, hb⟩
  have Hb4 := Lib.hid (Hb3.out.trans (hb.mono Hb3.out.size))
  clear hb
  go_wp2_with fail
  go_ret
  exact ⟨rfl, Hb4.out⟩

set_option maxHeartbeats 1000000 in
theorem rapart_some (ad : Addr) (n cap : Nat) (d : List (Int × Int)) (w : World) (h : RowR w (some ad) n d) (hn : n ≤ 200) :
    Calls Try.prog 5 #[.slice (some ad) n cap] w fun e w' => e = .returned (.bool true) ∧ Below w.heap.size w w' := by
  obtain ⟨i0, hi, hz0, hz1, hz2⟩ := info_parts info_r
  have Hi := Lib.hid hi
  have Hz0 := Lib.hid hz0
  have Hz1 := Lib.hid hz1
  have Hz2 := Lib.hid hz2
  have Hl := Lib.hid h
  obtain ⟨x, hx⟩ : ∃ x, apartB d = x := ⟨_, rfl⟩
  have HA := Lib.hid hx
  have Hcells : Hid (∀ j u, (fl d)[j]? = some u → (w.alloc (.cells #[] 24)).cell? (ad.add j) = some u) := Lib.hid fun j u hj => by
    have hjl : j < d.length * 2 := by
      have := (List.getElem?_eq_some_iff.1 hj).1
      rwa [fl_length] at this
    obtain ⟨b1, off1, e1, c0, c1⟩ := h.2 (j / 2) (by have := h.1; omega)
    obtain rfl : ad = ⟨b1, off1, none⟩ := Option.some.inj e1
    rw [add_plain]
    refine alloc_keep ?_ _
    rw [fl_get d j hjl] at hj
    rcases (show j % 2 = 0 ∨ j % 2 = 1 by omega) with hm | hm
    · rw [hm] at hj
      rw [show off1 + j = off1 + j / 2 * 2 by omega, c0]
      exact hj
    · rw [hm] at hj
      rw [show off1 + j = off1 + j / 2 * 2 + 1 by omega, c1]
      exact hj
  have Hlen : Hid ((fl d).length = n * 2) := Lib.hid (by rw [fl_length, h.1])
  have Hone : Hid (∀ u ∈ fl d, u.oneCell' = true) := Lib.hid fun u hu => by
    simp [fl] at hu
    obtain ⟨a, c, _, rfl | rfl⟩ := hu <;> rfl
  clear hi hz0 hz1 hz2 h hx
  go_enter Try.func5, Try.ntmps5
  go_wp2_with (at_builtin; refine wpList_append_own _ rfl _ _ 34 rfl w.heap.size 24 i0 (.agg #[.int .u32 0, .int .u32 0]) 2 8 Try.underlying34 Hi.out Hz0.out Hz1.out Hz2.out rfl (by decide) _ _ _ rfl (empty_own w) ad n cap (fl d) rfl Hlen.out Hcells.out Hone.out (by unfold maxLen; omega) (by omega) (by simp) ?_; intro v' w1 hown hgrow hnil)
  have hv : v' ≠ .slice none 0 0 := fun h => by have := (hnil.1 h).1; cases this
  rw [Nat.zero_add, List.nil_append] at hown
  obtain ⟨g, c, rfl, hrow⟩ := row_of_own Hl.out.1 hown hv
  have R0 := Lib.hid hrow
  have HB := Lib.hid (((Below.refl w.heap.size w).alloc (Nat.le_refl _) _).grown hgrow (by simp) (fun k h => by cases h; exact Nat.le_refl _))
  have R0' := Lib.hid (Hl.out.keep HB.out)
  clear hown hgrow hnil hv hrow
  go_wp2_with fail
  refine (apart_any (some ⟨g, 0, none⟩) n c d _ (by omega) R0.out).mono ?_
  rw [HA.out]
  rintro e w2 ⟨rfl, hb⟩
  have R1 := Lib.hid (RowR.keep R0.out hb)
  have R2 := Lib.hid (RowR.keep R0'.out hb)
  have Hb := Lib.hid (HB.out.trans (hb.mono HB.out.size))
  clear hb
  go_wp2_with fail
  refine (rapart_any (some ad) n cap d _ (by omega) R2.out).mono ?_
  rw [HA.out]
  rintro e w3 ⟨rfl, hb⟩
  have R3 := Lib.hid (R1.out.keep hb)
  have R4 := Lib.hid (R2.out.keep hb)
  have Hb2 := Lib.hid (Hb.out.trans (hb.mono Hb.out.size))
  clear hb
  go_wp2_with fail
  refine (same_any (some ⟨g, 0, none⟩) (some ad) n c cap d _ (by omega) R3.out R4.out).mono ?_
  rintro e w4 ⟨rfl, hb⟩
  have Hb3 := Lib.hid (Hb2.out.trans (hb.mono Hb2.out.size))
  clear hb
  go_wp2_with fail
  refine (awake_any _).mono ?_
  rintro e w5 ⟨rfl, hb⟩
  have Hb4 := Lib.hid (Hb3.out.trans (hb.mono Hb3.out.size))
  clear hb
  go_wp2_with fail
  go_ret
  exact ⟨rfl, Hb4.out⟩

theorem rapart_walk (a : Option Addr) (n cap : Nat) (d : List (Int × Int)) (w : World) (h : RowR w a n d) (hp : a = none → n = 0 ∧ cap = 0) (hm : n ≤ maxLen) :
    Calls Try.prog 5 #[.slice a n cap] w fun e w' => e = .returned (.bool true) ∧ Below w.heap.size w w' := by
  by_cases hl : 200 < n
  · exact rapart_long a n cap w hl hm
  · cases a with
    | none =>
      obtain ⟨rfl, rfl⟩ := hp rfl
      exact rapart_none w
    | some x => exact rapart_some x n cap d w h (by omega)

def numV : Value → Int
  | .int _ n => n
  | _ => 0
theorem rows_of_pairs {H : Type} {enc : TypeId × Value → H} {P : Program} {w : World} {base : Nat} {spare : Nat → Bool} {held : Bool} {t : TypeId} {ad : Addr} {len cp m n : Nat} {V0 V1 : Nat → Value} {D0 D1 : Nat → DataW H} {P0 P1 : Nat → List MemPlace}
    (ht : P.underlying t = some (.int .u32)) (hlm : len ≤ m) (hcap : len ≤ maxLen)
    (hi : ∀ i, i < m → w.cell? (ad.add (i * 2)) = some (V0 i) ∧ w.cell? (ad.add (i * 2 + 1)) = some (V1 i) ∧ DataW.trod enc P w base spare held n t [V0 i] = some (D0 i, P0 i) ∧ DataW.trod enc P w base spare held n t [V1 i] = some (D1 i, P1 i)) :
    ∃ l, RowR w (some ad) len l ∧ (some ad = none → len = 0 ∧ cp = 0) ∧ len ≤ maxLen := by
  refine ⟨(List.range len).map fun i => (numV (V0 i), numV (V1 i)), ⟨by simp, fun j hj => ?_⟩, (fun h => by cases h), hcap⟩
  obtain ⟨h0, h1, t0, t1⟩ := hi j (by omega)
  obtain ⟨x, e0, _, _⟩ := DataW.trod_int ht t0
  obtain ⟨y, e1, _, _⟩ := DataW.trod_int ht t1
  simp at e0 e1
  rw [e0] at h0
  rw [e1] at h1
  obtain ⟨b, off, sp⟩ := ad
  cases sp with
  | some s =>
    exfalso
    have g := (hi 0 (by omega)).1
    rw [show (⟨b, off, some s⟩ : Addr).add (0 * 2) = ⟨b, off, some s⟩ from rfl] at g
    unfold World.cell? at g
    split at g
    · simp at g
    · cases g
  | none =>
    refine ⟨b, off, rfl, ?_, ?_⟩
    · rw [add_plain] at h0
      rw [h0, getElem!_pos _ j (by simpa using hj)]
      simp [e0, numV]
    · rw [add_plain] at h1
      rw [Nat.add_assoc, h1, getElem!_pos _ j (by simpa using hj)]
      simp [e1, numV]
end Go.Proofs.Ytpgjkoccanekeaa.Reach
