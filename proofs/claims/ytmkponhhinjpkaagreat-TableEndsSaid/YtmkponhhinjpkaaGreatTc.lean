/- Rows of regions as they lie in memory; clashes, right: is a row a right table? -/
import Derived.Test.YtmkponhhinjpkaaGreatTb
import Derived.OwnWalk
namespace Go.Proofs.YtmkponhhinjpkaaGreat.Table
open Go.RowKit Go.Maps Go.ChangeShapes Go.WideShapes Go.ChangeAt
open Go.Proofs.YtmkponhhinjpkaaGreat.Region (Eight eight_new)
set_option linter.unusedVariables false

theorem ret_bool {x y : Bool} (h : x = y) : Ending.returned (.bool x) = .returned (.bool y) := by rw [h]
theorem code_letter {P : Program} {c : Code} {Q : Exit → Act → World → Prop} {a : Act} {w : World} (h : ∀ W, Hid (W = w) → c.wp P Q a W) : c.wp P Q a w := h w (Lib.hid rfl)
theorem calls_letter {P : Program} {f : FuncId} {args : Array Value} {w : World} {Q : Ending → World → Prop} (h : ∀ W, Hid (W = w) → Calls P f args W Q) : Calls P f args w Q := h w (Lib.hid rfl)
theorem post_letter {P : Program} {F : Func} {Q : Ending → World → Prop} {e : Exit} {a : Act} {w : World} (h : ∀ X, Hid (X = w) → bodyPost P F Q e a X) : bodyPost P F Q e a w := h w (Lib.hid rfl)

/-- A region as the model holds it. -/
abbrev Rg.v (g : Rg) : Value := Region.reg g.o g.W g.F g.T g.rd g.wr g.K g.lk
/-- A region that lies from a cell of a block on. -/
structure At8 (w : World) (b p : Nat) (g : Rg) : Prop where
  c0 : w.cell? ⟨b, p, none⟩ = some (.bool g.o)
  c1 : w.cell? ⟨b, p + 1, none⟩ = some (.int .i64 g.W)
  c2 : w.cell? ⟨b, p + 2, none⟩ = some (.int .u32 g.F)
  c3 : w.cell? ⟨b, p + 3, none⟩ = some (.int .u32 g.T)
  c4 : w.cell? ⟨b, p + 4, none⟩ = some (.bool g.rd)
  c5 : w.cell? ⟨b, p + 5, none⟩ = some (.bool g.wr)
  c6 : w.cell? ⟨b, p + 6, none⟩ = some (.int .i64 g.K)
  c7 : w.cell? ⟨b, p + 7, none⟩ = some (.bool g.lk)
theorem At8.keep {w w' : World} {b p : Nat} {g : Rg} (h : At8 w b p g) (hb : Below w.heap.size w w') : At8 w' b p g :=
  ⟨cell_keep hb h.c0, cell_keep hb h.c1, cell_keep hb h.c2, cell_keep hb h.c3, cell_keep hb h.c4, cell_keep hb h.c5, cell_keep hb h.c6, cell_keep hb h.c7⟩
/-- A slice of regions, to be read. -/
def RowG (w : World) (a : Option Addr) (n : Nat) (d : List Rg) : Prop :=
  d.length = n ∧ ∀ j, j < n → ∃ b off, a = some ⟨b, off, none⟩ ∧ At8 w b (off + j * 8) d[j]!
theorem RowG.keep {w w' : World} {a : Option Addr} {n : Nat} {d : List Rg} (h : RowG w a n d) (hb : Below w.heap.size w w') : RowG w' a n d :=
  ⟨h.1, fun j hj => by
    obtain ⟨b, off, ha, h1⟩ := h.2 j hj
    exact ⟨b, off, ha, h1.keep hb⟩⟩
theorem RowG.take {w : World} {a : Option Addr} {n : Nat} {d : List Rg} (h : RowG w a n d) {k : Nat} (hk : k ≤ n) : RowG w a k (d.take k) := by
  refine ⟨by rw [List.length_take, h.1]; omega, fun j hj => ?_⟩
  obtain ⟨b, off, ha, h1⟩ := h.2 j (by omega)
  exact ⟨b, off, ha, by rw [take_get hj]; exact h1⟩
theorem RowG.nil (w : World) : RowG w none 0 [] := ⟨rfl, fun j hj => by omega⟩

set_option maxRecDepth 100000 in
set_option maxHeartbeats 1000000 in
theorem clashes_any (a : Option Addr) (n cap : Nat) (d : List Rg) (o : Bool) (W F T : Int) (rd wt : Bool) (K : Int) (lk : Bool) (m : Int) (w : World) (hn : n ≤ 1000000) (h : RowG w a n d) :
    Calls Tryz.prog 39 #[.slice a n cap, Region.reg o W F T rd wt K lk, .int .i64 m] w fun e w' => e = .returned (.bool (clB d ⟨o, W, F, T, rd, wt, K, lk⟩ m)) ∧ Below w.heap.size w w' := by
  have Hr := Lib.hid h
  clear h
  go_enter Tryz.func39, Tryz.ntmps39
  go_wp2_with fail
  go_loopw [11] (fun i wr => ∃ k : Nat, k ≤ n ∧ i = .int .i64 k ∧ Hid (∀ j, j < k → (j : Int) ≠ m → clash ⟨o, W, F, T, rd, wt, K, lk⟩ d[j]! = false) ∧ Eight wr w.heap.size o W F T rd wt K lk ∧ Below w.heap.size w wr) (fun i _ => n - (intOf i).toNat)
  case atStart => exact ⟨0, Nat.zero_le _, rfl, Lib.hid (fun j hj => by omega), eight_new w o W F T rd wt K lk _, (Below.refl _ _).alloc (Nat.le_refl _) _⟩
  case round =>
    obtain ⟨k, hk, rfl, hno, hE, hb⟩ := hrel
    have Hb := Lib.hid hb
    have HE := Lib.hid hE
    have hsz := hb.size
    clear hb hE
    by_cases hlt : k < n
    · obtain ⟨b, off, rfl, ce⟩ := Hr.out.2 k hlt
      have ce := ce.keep Hb.out
      obtain ⟨x, hx⟩ : ∃ x, d[k]! = x := ⟨_, rfl⟩
      rw [hx] at ce
      have Hx := Lib.hid hx
      clear hx
      obtain ⟨p, V, G, U, re, we, L, ke⟩ := x
      obtain ⟨e0, e1, e2, e3, e4, e5, e6, e7⟩ := ce
      obtain ⟨q, hq⟩ : ∃ q, ((k : Int) == m) = q := ⟨_, rfl⟩
      cases q
      · have hq2 : ((k : Int) != m) = true := by rw [bne, hq]; rfl
        have hne : (k : Int) ≠ m := by simpa using hq
        obtain ⟨c, hc⟩ : ∃ c, clash ⟨o, W, F, T, rd, wt, K, lk⟩ ⟨p, V, G, U, re, we, L, ke⟩ = c := ⟨_, rfl⟩
        have Hc := Lib.hid hc
        have Hne := Lib.hid hne
        clear hc hne hq
        obtain ⟨k0, k1, k2, k3, k4, k5, k6, k7⟩ := HE.out.alloc (.cells #[.bool p, .int .i64 V, .int .u32 G, .int .u32 U, .bool re, .bool we, .int .i64 L, .bool ke] 37)
        go_wp2_with fail
        refine (Region.Clash_any o W F T rd wt K lk p V G U re we L ke c _ Hc.out).mono ?_
        rintro e w1 ⟨rfl, hb1⟩
        have ha := (Below.refl wr.heap.size wr).alloc (Nat.le_refl _) (.cells #[.bool p, .int .i64 V, .int .u32 G, .int .u32 U, .bool re, .bool we, .int .i64 L, .bool ke] 37)
        have hb2 := ha.trans (hb1.mono ha.size)
        have Hb2 := Lib.hid hb2
        clear k0 k1 k2 k3 k4 k5 k6 k7 e0 e1 e2 e3 e4 e5 e6 e7 ha hb1 hb2 hq2
        cases c
        · go_wp2_with fail
          refine ⟨⟨k + 1, by omega, by go_num, Lib.hid (fun j hj hn => ?_), HE.out.keep Hb2.out, Hb.out.trans (Hb2.out.mono hsz)⟩, by simp [intOf]; omega⟩
          by_cases e : j = k
          · subst e; rw [Hx.out]; exact Hc.out
          · exact hno.out j (by omega) hn
        · go_wp2_with fail
          go_ret
          exact ⟨ret_bool (clB_yes (k := k) (by rw [Hr.out.1]; exact hlt) Hne.out (by rw [Hx.out]; exact Hc.out)).symm, Hb.out.trans (Hb2.out.mono hsz)⟩
      · have hq2 : ((k : Int) != m) = false := by rw [bne, hq]; rfl
        have heq : (k : Int) = m := by simpa using hq
        have Heq := Lib.hid heq
        clear heq hq
        go_wp2_with fail
        have ha := (Below.refl wr.heap.size wr).alloc (Nat.le_refl _) (.cells #[.bool p, .int .i64 V, .int .u32 G, .int .u32 U, .bool re, .bool we, .int .i64 L, .bool ke] 37)
        refine ⟨⟨k + 1, by omega, by go_num, Lib.hid (fun j hj hn => ?_), HE.out.keep ha, Hb.out.trans (ha.mono hsz)⟩, by simp [intOf]; omega⟩
        by_cases e : j = k
        · subst e; exact absurd Heq.out hn
        · exact hno.out j (by omega) hn
    · obtain rfl : k = n := by omega
      go_wp2_with fail
      go_ret
      exact ⟨ret_bool (clB_no fun j hj hne => hno.out j (by rw [Hr.out.1] at hj; exact hj) hne).symm, Hb.out⟩
theorem clashes_val (a : Option Addr) (n cap : Nat) (d : List Rg) (o : Bool) (W F T : Int) (rd wt : Bool) (K : Int) (lk : Bool) (m : Int) (b : Bool) (w : World) (hn : n ≤ 1000000) (h : RowG w a n d) (hb : clB d ⟨o, W, F, T, rd, wt, K, lk⟩ m = b) :
    Calls Tryz.prog 39 #[.slice a n cap, Region.reg o W F T rd wt K lk, .int .i64 m] w fun e w' => e = .returned (.bool b) ∧ Below w.heap.size w w' := by
  subst hb; exact clashes_any a n cap d o W F T rd wt K lk m w hn h

set_option maxRecDepth 100000 in
set_option maxHeartbeats 1000000 in
theorem right_any (a : Option Addr) (n cap : Nat) (d : List Rg) (w : World) (hn : n ≤ 1000000) (hc : n ≤ cap) (h : RowG w a n d) :
    Calls Tryz.prog 49 #[.slice a n cap] w fun e w' => e = .returned (.bool (tabB d)) ∧ Below w.heap.size w w' := by
  have Hr := Lib.hid h
  have Hcap := Lib.hid hc
  clear h hc
  by_cases h32 : 32 < n
  · have d1 : decide ((32 : Int) < (n : Int)) = true := decide_eq_true (by omega)
    go_enter Tryz.func49, Tryz.ntmps49
    go_wp2_with fail
    go_ret
    exact ⟨ret_bool (tab_no_long (by rw [Hr.out.1]; exact h32)).symm, Below.refl _ _⟩
  · have d1 : decide ((32 : Int) < (n : Int)) = false := decide_eq_false (by omega)
    go_enter Tryz.func49, Tryz.ntmps49
    go_wp2_with fail
    go_loopw [10] (fun i wr => ∃ k : Nat, k ≤ n ∧ i = .int .i64 k ∧ Hid (∀ i, i < k → d[i]!.right = true ∧ ∀ j, j < i → clash d[i]! d[j]! = false) ∧ Below w.heap.size w wr) (fun i _ => n - (intOf i).toNat)
    case atStart => exact ⟨0, Nat.zero_le _, rfl, Lib.hid (fun j hj => by omega), Below.refl _ _⟩
    case round =>
      obtain ⟨k, hk, rfl, hno, hb⟩ := hrel
      have Hb := Lib.hid hb
      have hsz := hb.size
      clear hb
      by_cases hlt : k < n
      · have Hrk := Lib.hid ((Hr.out.keep Hb.out).take hk)
        obtain ⟨b, off, rfl, ce⟩ := Hr.out.2 k hlt
        have ce := ce.keep Hb.out
        obtain ⟨x, hx⟩ : ∃ x, d[k]! = x := ⟨_, rfl⟩
        rw [hx] at ce
        have Hx := Lib.hid hx
        clear hx
        obtain ⟨p, V, G, U, re, we, L, ke⟩ := x
        obtain ⟨e0, e1, e2, e3, e4, e5, e6, e7⟩ := ce
        obtain ⟨r, hr⟩ : ∃ r, (Rg.mk p V G U re we L ke).right = r := ⟨_, rfl⟩
        obtain ⟨c, hc⟩ : ∃ c, clB (d.take k) ⟨p, V, G, U, re, we, L, ke⟩ k = c := ⟨_, rfl⟩
        have HR := Lib.hid (show Region.regB p V G U re we L ke = r from hr)
        have HC := Lib.hid hc
        have hkc : k ≤ cap := by have := Hcap.out; omega
        clear hr hc
        go_wp2_with fail
        refine wp_region_ext (by kernel_rfl) (by kernel_rfl) ?_
        intro X hX
        have P := Lib.hid (show Eight X wr.heap.size p V G U re we L ke by rw [hX.out]; exact eight_new wr p V G U re we L ke 37)
        have HBX := Lib.hid (show Below wr.heap.size wr X by rw [hX.out]; exact (Below.refl _ _).alloc (Nat.le_refl _) _)
        clear hX e0 e1 e2 e3 e4 e5 e6 e7
        have k0 := ext_cell P.out.c0
        have k1 := ext_cell P.out.c1
        have k2 := ext_cell P.out.c2
        have k3 := ext_cell P.out.c3
        have k4 := ext_cell P.out.c4
        have k5 := ext_cell P.out.c5
        have k6 := ext_cell P.out.c6
        have k7 := ext_cell P.out.c7
        have HRX := Lib.hid (fun q => (Hrk.out.keep HBX.out).keep (ext_below X q))
        clear P
        cases r
        · repeat (go_big_quiet_step ((first
            | (go_at_call 38; with_reducible exact ext_of (Region.Right_any p V G U re we L ke false _ HR.out))
            | fail)))
          refine wpQuiet_nil ?_
          intro w' hw'
          obtain ⟨q, rfl⟩ := hw'
          have hq := HBX.out.trans ((ext_below X q).mono HBX.out.size)
          have Hq := Lib.hid (Hb.out.trans (hq.mono hsz))
          clear k0 k1 k2 k3 k4 k5 k6 k7 HRX hq
          go_wp2_with fail
          go_ret
          exact ⟨ret_bool (tab_no_right (i := k) (by rw [Hr.out.1]; exact hlt) (by rw [Hx.out]; exact HR.out)).symm, Hq.out⟩
        · repeat (go_big_quiet_step ((first
            | (go_at_call 38; with_reducible exact ext_of (Region.Right_any p V G U re we L ke true _ HR.out))
            | (go_at_call 39; exact ext_of (clashes_val (some ⟨b, off, none⟩) k cap (d.take k) p V G U re we L ke k c _ (by omega) (HRX.out _) HC.out)))))
          refine wpQuiet_nil ?_
          intro w' hw'
          obtain ⟨q, rfl⟩ := hw'
          have hq := HBX.out.trans ((ext_below X q).mono HBX.out.size)
          have Hq := Lib.hid (Hb.out.trans (hq.mono hsz))
          clear k0 k1 k2 k3 k4 k5 k6 k7 HRX hq
          cases c
          · go_wp2_with fail
            refine ⟨⟨k + 1, by omega, by go_num, Lib.hid (fun i hi => ?_), Hq.out⟩, by simp [intOf]; omega⟩
            by_cases e : i = k
            · subst e
              refine ⟨by rw [Hx.out]; exact HR.out, fun j hj => ?_⟩
              have := clB_false HC.out (k := j) (by rw [List.length_take, Hr.out.1]; omega) (by omega)
              rw [take_get hj] at this
              rw [Hx.out]
              exact this
            · exact hno.out i (by omega)
          · go_wp2_with fail
            go_ret
            refine ⟨ret_bool ?_, Hq.out⟩
            obtain ⟨j, hj, hj2⟩ : ∃ j, j < k ∧ clash ⟨p, V, G, U, re, we, L, ke⟩ d[j]! = true := by
              have h9 := HC.out
              unfold clB at h9
              rw [List.any_eq_true] at h9
              obtain ⟨j, h1, h2⟩ := h9
              simp only [Bool.and_eq_true] at h2
              rw [List.mem_range, List.length_take] at h1
              exact ⟨j, by omega, by rw [← take_get (i := k) (by omega)]; exact h2.2⟩
            exact (tab_no_clash (i := k) (by rw [Hr.out.1]; exact hlt) hj (by rw [Hx.out]; exact hj2)).symm
      · obtain rfl : k = n := by omega
        go_wp2_with fail
        go_ret
        exact ⟨ret_bool (tab_yes (by rw [Hr.out.1]; omega) (fun i hi => hno.out i (by rw [Hr.out.1] at hi; exact hi))).symm, Hb.out⟩
theorem Right_any (a : Option Addr) (n cap : Nat) (d : List Rg) (b : Bool) (w : World) (hn : n ≤ 1000000) (hc : n ≤ cap) (h : RowG w a n d) (hb : tabB d = b) :
    Calls Tryz.prog 26 #[.slice a n cap] w fun e w' => e = .returned (.bool b) ∧ Below w.heap.size w w' := by
  subst hb
  have R := Lib.hid (right_any a n cap d w hn hc h)
  clear h
  go_enter Tryz.func26, Tryz.ntmps26
  go_wp2_with fail
  refine R.out.mono ?_
  rintro e w1 ⟨rfl, hb⟩
  have Hb := Lib.hid hb
  clear hb
  go_wp2_with fail
  go_ret
  exact ⟨rfl, Hb.out⟩
end Go.Proofs.YtmkponhhinjpkaaGreat.Table
