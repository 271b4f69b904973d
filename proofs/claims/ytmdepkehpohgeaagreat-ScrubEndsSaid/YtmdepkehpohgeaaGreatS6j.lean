/- Put together: S6k, S6j. -/
import Derived.Test.YtmdepkehpohgeaaGreatS6v
import Derived.Test.YtmdepkehpohgeaaGreatKiHolds
import Derived.LoopN
import Derived.Test.YtmdepkehpohgeaaGreatS6g
import Derived.Test.YtmdepkehpohgeaaGreatOvDevices
/- Rows of holds: told twice alike; written over. -/
namespace Go.Proofs.YtmdepkehpohgeaaGreat.Scr
open Go.RowKit Go.Maps Go.ChangeShapes Go.WideShapes Go.ChangeAt Fifo Orow Word
set_option linter.unusedVariables false

theorem same_none (a a' : Option Addr) (cap cap' : Nat) (w : World) :
    Calls Tryz.prog 30 #[.slice a 0 cap, .slice a' 0 cap'] w fun e w' => e = .returned (.bool true) ∧ Below w.heap.size w w' := by
  go_enter Tryz.func30, Tryz.ntmps30
  go_wp2
  go_rounds 1
  go_ret
  exact ⟨rfl, Below.refl _ _⟩
theorem same_holds (B B' b b' n cap cap' : Nat) (l : List Hd) (w : World) (hm : n ≤ 1000000) (hl : l.length = n)
    (h : w.ownsRow B 52 3 (.slice (some ⟨b, 0, none⟩) n cap) n (flHd l)) (h' : w.ownsRow B' 52 3 (.slice (some ⟨b', 0, none⟩) n cap') n (flHd l)) :
    Calls Tryz.prog 30 #[.slice (some ⟨b, 0, none⟩) n cap, .slice (some ⟨b', 0, none⟩) n cap'] w fun e w' => e = .returned (.bool true) ∧ Below w.heap.size w w' := by
  have H := Lib.hid h
  have H' := Lib.hid h'
  have HL := Lib.hid hl
  clear h h' hl
  go_enter Tryz.func30, Tryz.ntmps30
  go_wp2
  go_loopw [5] (fun i wr => ∃ k : Nat, k ≤ n ∧ i = .int .i64 k ∧ ∃ j, wr = w.drewN j) (fun i _ => n - (intOf i).toNat)
  case atStart => exact ⟨0, Nat.zero_le _, rfl, 0, rfl⟩
  case round =>
    obtain ⟨k, hk, rfl, j, rfl⟩ := hrel
    by_cases hlt : k < n
    · obtain ⟨c0, c1, c2⟩ := row_at H.out (k := k) (by rw [HL.out]; exact hlt)
      obtain ⟨e0, e1, e2⟩ := row_at H'.out (k := k) (by rw [HL.out]; exact hlt)
      obtain ⟨x, hx⟩ : ∃ x, l[k]! = x := ⟨_, rfl⟩
      rw [hx] at c0 c1 c2 e0 e1 e2
      have hne : ∀ w, (binOp .neq 52 (hV x) (hV x)).run Tryz.prog w = .ok (.bool false) w := fun w => by
        rw [run_neH, eqH_iff.2 rfl]; rfl
      clear hx
      go_wp2
      go_quiet (fail)
      go_wp2
      exact ⟨⟨k + 1, by omega, by go_num, _, rfl⟩, by simp [intOf]; omega⟩
    · go_wp2
      go_ret
      exact ⟨rfl, Fifo.below_drewN w j⟩
theorem same_own {w : World} {B B' n : Nat} {v v' : Value} {l : List Hd} (h : w.ownsRow B 52 3 v n (flHd l)) (h' : w.ownsRow B' 52 3 v' n (flHd l)) (hl : l.length = n) (hn2 : n ≤ 4096) :
    Calls Tryz.prog 30 #[v, v'] w fun e w' => e = .returned (.bool true) ∧ Below w.heap.size w w' := by
  obtain ⟨a, c, rfl, _, ha⟩ := Orow.own_shape h
  obtain ⟨a', c', rfl, _, ha'⟩ := Orow.own_shape h'
  by_cases h0 : n = 0
  · subst h0
    exact same_none a a' c c' w
  · obtain ⟨g, rfl⟩ := own_some h (.inl (by omega))
    obtain ⟨g', rfl⟩ := own_some h' (.inl (by omega))
    exact same_holds B B' g g' n c c' l w (by omega) hl h h'
end Go.Proofs.YtmdepkehpohgeaaGreat.Scr
/- A row and the document's are the same. -/
namespace Go.Proofs.YtmdepkehpohgeaaGreat.Scr
open Go.RowKit Go.Maps Go.ChangeShapes Go.WideShapes Go.ChangeAt Fifo Orow Word
open Go.Proofs.YtmdepkehpohgeaaGreat.KitHolds (apart_kept Rows Dis UU marks)
set_option linter.unusedVariables false

/-- One of two. -/
def pick2 {α : Type} (x y : α) : Nat → α
  | 0 => x
  | _ => y
theorem apart_two (a1 a2 : Option Addr) (n c1 c2 : Nat) (X1 X2 : List Value) (B1 B2 H : Nat) (w : World) (h1 : w.ownsRow B1 52 3 (.slice a1 n c1) n X1) (h2 : w.ownsRow B2 52 3 (.slice a2 n c2) n X2)
    (d12 : ∀ j, BA a1 j → ¬ BA a2 j) (b1 : n ≤ 1000000) (g0 : w.cell? ⟨H, 0, none⟩ = some (.slice a1 n c1)) (g1 : w.cell? ⟨H, 1, none⟩ = some (.slice a2 n c2)) :
    Calls Tryz.prog 31 #[.slice (some ⟨H, 0, none⟩) 2 2] w fun e w' => e = .returned (.bool true) ∧ Only (fun j => BA a1 j ∨ BA a2 j) w w' ∧ ∃ X, w'.ownsRow 0 52 3 (.slice a1 n c1) n X := by
  refine (apart_kept 2 (pick2 a1 a2) (pick2 n n) (pick2 c1 c2) (pick2 X1 X2) H 2 w (by omega) (by omega) (fun q hq => ?_) (fun q p hq hp hne j hj => ?_) (fun q hq => ?_) (fun q hq => ?_)).mono ?_
  · match q, hq with
    | 0, _ => exact own_mono h1 (Nat.zero_le _)
    | 1, _ => exact own_mono h2 (Nat.zero_le _)
  · match q, hq, p, hp with
    | 0, _, 0, _ => exact absurd rfl hne
    | 0, _, 1, _ => exact d12 j hj
    | 1, _, 0, _ => exact fun h => d12 j h hj
    | 1, _, 1, _ => exact absurd rfl hne
  · match q, hq with
    | 0, _ => exact b1
    | 1, _ => exact b1
  · match q, hq with
    | 0, _ => exact g0
    | 1, _ => exact g1
  · rintro e w' ⟨rfl, ho, hr⟩
    refine ⟨rfl, ho.mono (fun j hj h => ?_), _, hr 0 (by omega)⟩
    obtain ⟨q, hq, hb⟩ := h
    match q, hq with
    | 0, _ => exact .inl hb
    | 1, _ => exact .inr hb
/-- One of the holds. -/
theorem hold_cells {w : World} {al : Option Addr} {cl n p : Nat} {l : List Hd} (h : w.ownsRow 0 52 3 (.slice al n cl) n (flHd l)) (hl : l.length = n) (hok : ∀ j, j < l.length → OkH l[j]!) (hp : p < n) : ∃ g, al = some ⟨g, 0, none⟩ ∧ w.cell? ⟨g, p * 3, none⟩ = some (.int .i64 l[p]!.o) ∧ w.cell? ⟨g, p * 3 + 1, none⟩ = some (.int .i64 l[p]!.l) ∧ w.cell? ⟨g, p * 3 + 2, none⟩ = some (.int .i64 l[p]!.n) := by
  subst hl
  have hr := rowHd_of_own (d := l) rfl (fun j hj => okHd_of (hok j hj)) h
  obtain ⟨g, rfl⟩ := own_some h (.inl (by omega))
  obtain ⟨b, off, e, c⟩ := hr.2.2 p hp
  simp only [Option.some.injEq, Addr.mk.injEq, and_true] at e
  obtain ⟨rfl, rfl⟩ := e
  have c0 := c.c0
  have c1 := c.c1
  have c2 := c.c2
  rw [Nat.zero_add] at c0 c1 c2
  exact ⟨_, rfl, c0, c1, c2⟩
theorem drewN_below {w w' : World} (h : ∃ j, w' = w.drewN j) : Below w.heap.size w w' := by
  obtain ⟨j, rfl⟩ := h
  exact ⟨rfl, rfl, rfl, Nat.le_refl _, fun _ _ => rfl⟩
set_option maxRecDepth 100000 in
set_option maxHeartbeats 4000000 in
theorem same_any (Bk : Nat) (K : Nat → Prop) (b r : Nat) (d : RS) (w : World) (h : PairS Bk K w b r d d) :
    Calls Tryz.prog 11 #[at0 b, at0 r] w fun e w' => e = .returned (.bool true) ∧ Below w.heap.size w w' := by
  have hd := h.ok
  have hfew := hd.few
  obtain ⟨al, cl, hc, hr, -⟩ := holds_pair h
  have HH := Lib.hid h
  have HA := Lib.hid (fun W (hb : Below w.heap.size w W) => All_pair (HH.out.keep hb))
  have HN := Lib.hid (fun W (hb : Below w.heap.size w W) => Len_pair (HH.out.keep hb))
  obtain ⟨n, hn⟩ : ∃ n, d.H.length = n := ⟨_, rfl⟩
  rw [hn] at HA HN hc hr hfew
  have HC := Lib.hid (fun W (hb : Below w.heap.size w W) => show W.cell? ⟨r, 1, none⟩ = some (.slice al n cl) by rw [hb.cell (by have := cell_lt hc; exact this)]; exact hc)
  have HX := Lib.hid (fun W (hb : Below w.heap.size w W) => own_keep hr hb)
  have Hfew := Lib.hid hfew
  have HXw := Lib.hid hr
  have Hok := Lib.hid hd.hol
  have Hn := Lib.hid hn
  have xn : (n != n) = false := by simp
  clear hc hr hfew hn hd h
  go_enter Tryz.func11, Tryz.ntmps11
  go_wp2_with fail
  refine (HA.out w (Below.refl _ _)).mono ?_
  rintro e w1 ⟨⟨a1, q1, rfl, h1⟩, hb1⟩
  have B1 := Lib.hid hb1
  have R1 := Lib.hid h1
  clear h1 hb1
  go_wp2_with fail
  refine (HA.out w1 B1.out).mono ?_
  rintro e w2 ⟨⟨a2, q2, rfl, h2⟩, hb2⟩
  have B2 := Lib.hid (B1.out.trans (hb2.mono B1.out.size))
  have RX1 := Lib.hid (own_keep R1.out hb2)
  have RX2 := Lib.hid h2
  have HNE := Lib.hid (show ∀ j, BA a1 j → ¬ BA a2 j from fun j e1 e2 => by
    have k1 := (own_lt R1.out j e1).2
    have k2 := (own_lt h2 j e2).1
    omega)
  clear h2 hb2 R1
  go_wp2_with fail
  refine code_letter ?_
  intro X hX
  obtain rfl : X = w2 := hX.out
  have hb0 : Below w.heap.size w X := B2.out
  have hbd : Below w.heap.size w X.drew := B2.out.trans (Below.refl _ _).drew
  have cK := HC.out
  have T := Lib.hid (fun W' W'' (h : Below w.heap.size w W') (k : Below W'.heap.size W' W'') => h.trans (k.mono h.size))
  have HLW := Lib.hid (show ∀ j, BA a1 j ∨ BA a2 j → w.heap.size ≤ j from fun j e => e.elim (fun e => (own_lt RX1.out j e).1) (fun e => by have := (own_lt RX2.out j e).1; have := B1.out.size; omega))
  have RD1 := Lib.hid (own_keep RX1.out (Below.refl _ _).drew)
  have RD2 := Lib.hid (own_keep RX2.out (Below.refl _ _).drew)
  clear hX
  try simp only [Act.put, List.append]
  go_region_held3 (fun w' => Below w.heap.size w w')
    (first | assumption | exact Below.alloc (by assumption) (Below.size (by assumption)) _)
    (first
      | (go_at_call 30; refine (same_own RD1.out (HX.out _ (by assumption)) Hn.out (Nat.le_trans Hfew.out (by decide))).mono ?_; rintro e wS ⟨rfl, hz⟩; have hz2 := T.out _ _ (by assumption) hz; have HZ := Lib.hid hz2; have RS1 := Lib.hid (own_keep RD1.out hz); have RS2 := Lib.hid (own_keep RD2.out hz); clear hz)
      | (go_at_call 31; refine (apart_two a1 a2 n q1 q2 _ _ _ _ wS.heap.size (wS.alloc (.cells #[.slice a1 n q1, .slice a2 n q2] 62)) (own_keep RS1.out ((Below.refl _ _).alloc (Nat.le_refl _) _)) (own_keep RS2.out ((Below.refl _ _).alloc (Nat.le_refl _) _)) HNE.out (Nat.le_trans Hfew.out (by decide)) (World.cell?_alloc_at #[.slice a1 n q1, .slice a2 n q2] _ wS.heap.size 0 rfl) (World.cell?_alloc_at #[.slice a1 n q1, .slice a2 n q2] _ wS.heap.size 1 rfl)).mono ?_; rintro e wA ⟨rfl, ho, X1, hx⟩; have RA1 := Lib.hid hx; have hz2 : Below w.heap.size w wA := Below.trans (Below.alloc (by assumption) (Below.size (by assumption)) _) (ho.below (by have := HZ.out.size; simp; omega) HLW.out); have hz3 := Below.refl wA.heap.size wA)
      | (go_at_call 18; refine (HN.out _ (by assumption)).mono ?_; rintro e wN ⟨rfl, hz⟩; have hz2 := T.out _ _ (by assumption) hz; have RN1 := Lib.hid (own_keep RA1.out hz); clear hz))
  all_goals
    refine exit_letter ?_
    intro Z hZ
    have BZ := Lib.hid (show Below w.heap.size w Z by rw [hZ.out]; assumption)
    have RZ := Lib.hid (show Z.ownsRow 0 52 3 (.slice a1 n q1) n X1 by rw [hZ.out]; exact RN1.out)
    clear hZ hz2 hz3 hx ho hb0 hbd cK HA HN HX T RX1 RX2 RD1 RD2 RS1 RS2 RA1 RN1 HZ
    go_wp2_with fail
    refine (OvHolds.over_own 0 n q1 a1 _ Z (Nat.le_trans Hfew.out (by decide)) RZ.out).mono ?_
    rintro e Y ⟨rfl, ho⟩
    have BY := Lib.hid (BZ.out.trans (ho.below BZ.out.size (fun j e => HLW.out j (.inl (ba_pb e)))))
    clear ho RZ HLW
    go_wp2_with fail
    go_loopw [7] (fun i wr => ∃ k : Int, -1 ≤ k ∧ k ≤ n + 1 ∧ i = .int .i64 k ∧ Below w.heap.size w wr) (fun i _ => (n + 1 - intOf i).toNat)
    case atStart => exact ⟨-1, by omega, by omega, rfl, BY.out⟩
    case round =>
    obtain ⟨k, hk1, hk2, rfl, hb⟩ := hrel
    have BR := Lib.hid hb
    have c1 := HC.out wr hb
    have hf := Hfew.out
    clear hb
    by_cases hlt : k ≤ n
    · have d1 : decide (k ≤ (n : Int)) = true := decide_eq_true hlt
      obtain ⟨x, hx⟩ : ∃ x, (ownerV d k).1 = x := ⟨_, rfl⟩
      obtain ⟨y, hy⟩ : ∃ y, (ownerV d k).2 = y := ⟨_, rfl⟩
      have HO := Lib.hid (fun W (hb : Below w.heap.size w W) => Owner_pair (HH.out.keep hb) k ⟨by omega, by omega⟩)
      have HP := Lib.hid (fun W (hb : Below w.heap.size w W) => rOwner_pair (HH.out.keep hb) k)
      have HQ := Lib.hid (fun W (hb : Below w.heap.size w W) => Hold_pair (HH.out.keep hb) k ⟨by omega, by omega⟩)
      rw [hx, hy] at HO HP
      have xx : (x != x) = false := by simp
      have yy : (y != y) = false := by simp
      clear hx hy
      by_cases hin : 0 ≤ k ∧ k < n
      · obtain ⟨p, rfl⟩ := Int.eq_ofNat_of_zero_le hin.1
        have hp : p < n := by omega
        obtain ⟨h, hh⟩ : ∃ h, d.H[p]! = h := ⟨_, rfl⟩
        have hv : holdV d (p : Nat) = (h, true) := by
          unfold holdV isN at'
          rw [decide_eq_true (show 0 ≤ (p : Int) ∧ (p : Int) < (d.H.length : Int) by rw [Hn.out]; omega), if_pos rfl, Int.toNat_natCast, hh]
        have e0 : ∃ g, al = some ⟨g, 0, none⟩ ∧ ∀ W, Below w.heap.size w W → W.cell? ⟨g, p * 3, none⟩ = some (.int .i64 h.o) ∧ W.cell? ⟨g, p * 3 + 1, none⟩ = some (.int .i64 h.l) ∧ W.cell? ⟨g, p * 3 + 2, none⟩ = some (.int .i64 h.n) := by
          obtain ⟨g, e, k0, k1, k2⟩ := hold_cells HXw.out Hn.out Hok.out hp
          rw [hh] at k0 k1 k2
          exact ⟨g, e, fun W hb => ⟨cell_keep hb k0, cell_keep hb k1, cell_keep hb k2⟩⟩
        obtain ⟨gl, hgl, he⟩ := e0
        rw [hv] at HQ
        rw [hgl] at HC c1
        have HE := Lib.hid he
        have nn := fun w => run_neH h h w
        have ee : eqH h h = true := eqH_iff.2 rfl
        rw [ee] at nn
        have q1' : decide (0 ≤ (p : Int)) = true := decide_eq_true (by omega)
        have q2 : decide ((p : Int) < (n : Int)) = true := decide_eq_true (by omega)
        have q3 : decide (p < n) = true := decide_eq_true hp
        have wk : IntKind.i64.wrap ((p : Int) + 1) = (p : Int) + 1 := IntWalk.i64_in _ (by omega)
        have i1 : (0 : Int) ≤ (p : Int) := by omega
        have i2 : (p : Int) < (n : Int) := by omega
        clear hv hh hgl he ee hin hf hlt hk1 hk2
        go_wp2_with fail
        refine (HO.out wr BR.out).mono ?_
        rintro e w4 ⟨rfl, hb⟩
        have B4 := Lib.hid (BR.out.trans (hb.mono BR.out.size))
        clear hb HO c1
        go_wp2_with fail
        refine (HP.out w4 B4.out).mono ?_
        rintro e w5 ⟨rfl, hb⟩
        have B5 := Lib.hid (B4.out.trans (hb.mono B4.out.size))
        clear hb HP B4
        go_wp2_with fail
        refine (HQ.out w5 B5.out).mono ?_
        rintro e w6 ⟨rfl, hb⟩
        have B6 := Lib.hid (B5.out.trans (hb.mono B5.out.size))
        clear hb HQ B5
        obtain ⟨gh, hgh⟩ : ∃ g, w6.heap.size = g := ⟨_, rfl⟩
        go_wp2_with (with_reducible refine at_store _ _ _ rfl ?_)
        refine Lib.hid ?_
        have hnew := Blk.new w6 52 [.int .i64 0, .int .i64 0, .int .i64 0]
        rw [hgh] at hnew
        refine store_all rfl _ _ _ rfl gh [.int .i64 h.o, .int .i64 h.l, .int .i64 h.n] rfl rfl _ _ hnew (by kernel_rfl) rfl (by simp [Value.oneCell']) ?_
        intro w7 hX hoX
        have hal := B6.out.alloc B6.out.size (.cells #[.int .i64 0, .int .i64 0, .int .i64 0] 52)
        have B7 := Lib.hid (hal.trans (hoX.below hal.size (fun j e => by have := B6.out.size; omega)))
        have A7 := Lib.hid hX
        clear hX hoX hal hnew hgh B6
        go_wp2_with fail
        refine code_letter ?_
        intro W hW
        obtain rfl : W = w7 := hW.out
        clear hW
        have c1 := HC.out _ (B7.out.trans (Below.refl _ _).drew)
        have f0 := (A7.out.keep (Below.refl _ _).drew).at 0 rfl
        have f1 := (A7.out.keep (Below.refl _ _).drew).at 1 rfl
        have f2 := (A7.out.keep (Below.refl _ _).drew).at 2 rfl
        obtain ⟨g0, g1, g2⟩ := HE.out _ (B7.out.trans (Below.refl _ _).drew)
        go_region
        refine exit_letter ?_
        intro V hV
        have B8 := Lib.hid (show Below w.heap.size w V by rw [hV.out]; exact B7.out.trans (Below.refl _ _).drew)
        clear hV B7 A7 c1 f0 f1 f2 g0 g1 g2
        go_wp2_with fail
        exact ⟨⟨(p : Int) + 1, by omega, by omega, rfl, B8.out⟩, by simp [intOf]; omega⟩
      · have hv : holdV d k = (zeroHd, false) := by
          unfold holdV isN
          rw [decide_eq_false (by rw [Hn.out]; exact hin)]
          rfl
        rw [hv] at HQ
        have nn := fun w => run_neH zeroHd zeroHd w
        have ee : eqH zeroHd zeroHd = true := eqH_iff.2 rfl
        rw [ee] at nn
        have wk : IntKind.i64.wrap (k + 1) = k + 1 := IntWalk.i64_in _ (by omega)
        have hcs : k = -1 ∨ k = n := by omega
        have Hk1 := Lib.hid hk1
        have Hlt := Lib.hid hlt
        obtain ⟨u, hu⟩ : ∃ u, decide (0 ≤ k) = u := ⟨_, rfl⟩
        have q2 : u = true → decide (k < (n : Int)) = false := fun e => by
          rw [e] at hu
          have := of_decide_eq_true hu
          exact decide_eq_false (by omega)
        clear hv ee hin hf hlt hk1 hk2 hcs
        go_wp2_with fail
        refine (HO.out wr BR.out).mono ?_
        rintro e w4 ⟨rfl, hb⟩
        have B4 := Lib.hid (BR.out.trans (hb.mono BR.out.size))
        clear hb HO c1
        go_wp2_with fail
        refine (HP.out w4 B4.out).mono ?_
        rintro e w5 ⟨rfl, hb⟩
        have B5 := Lib.hid (B4.out.trans (hb.mono B4.out.size))
        clear hb HP B4
        go_wp2_with fail
        refine (HQ.out w5 B5.out).mono ?_
        rintro e w6 ⟨rfl, hb⟩
        have B6 := Lib.hid (B5.out.trans (hb.mono B5.out.size))
        clear hb HQ B5
        obtain ⟨gh, hgh⟩ : ∃ g, w6.heap.size = g := ⟨_, rfl⟩
        go_wp2_with (with_reducible refine at_store _ _ _ rfl ?_)
        refine Lib.hid ?_
        have hnew := Blk.new w6 52 [.int .i64 0, .int .i64 0, .int .i64 0]
        rw [hgh] at hnew
        refine store_all rfl _ _ _ rfl gh [.int .i64 0, .int .i64 0, .int .i64 0] rfl rfl _ _ hnew (by kernel_rfl) rfl (by simp [Value.oneCell']) ?_
        intro w7 hX hoX
        have hal := B6.out.alloc B6.out.size (.cells #[.int .i64 0, .int .i64 0, .int .i64 0] 52)
        have B7 := Lib.hid (hal.trans (hoX.below hal.size (fun j e => by have := B6.out.size; omega)))
        have A7 := Lib.hid hX
        clear hX hoX hal hnew hgh B6
        go_wp2_with fail
        refine code_letter ?_
        intro W hW
        obtain rfl : W = w7 := hW.out
        clear hW
        have c1 := HC.out _ (B7.out.trans (Below.refl _ _).drew)
        have f0 := (A7.out.keep (Below.refl _ _).drew).at 0 rfl
        have f1 := (A7.out.keep (Below.refl _ _).drew).at 1 rfl
        have f2 := (A7.out.keep (Below.refl _ _).drew).at 2 rfl
        cases u
        · clear q2
          go_region
          refine exit_letter ?_
          intro V hV
          have B8 := Lib.hid (show Below w.heap.size w V by rw [hV.out]; exact B7.out.trans (Below.refl _ _).drew)
          clear hV B7 A7 c1 f0 f1 f2 
          go_wp2_with fail
          exact ⟨⟨k + 1, by have := Hk1.out; omega, by have := Hlt.out; omega, rfl, B8.out⟩, by have := Hlt.out; simp [intOf]; omega⟩
        · have q2 := q2 rfl
          go_region
          refine exit_letter ?_
          intro V hV
          have B8 := Lib.hid (show Below w.heap.size w V by rw [hV.out]; exact B7.out.trans (Below.refl _ _).drew)
          clear hV B7 A7 c1 f0 f1 f2 
          go_wp2_with fail
          exact ⟨⟨k + 1, by have := Hk1.out; omega, by have := Hlt.out; omega, rfl, B8.out⟩, by have := Hlt.out; simp [intOf]; omega⟩
    · have hk : k = n + 1 := by omega
      subst hk
      have d1 : decide ((n : Int) + 1 ≤ (n : Int)) = false := decide_eq_false (by omega)
      have d2 : decide (n + 1 ≤ n) = false := decide_eq_false (by omega)
      clear hlt hk1 hk2 hf
      go_wp2_with fail
      clear c1
      go_loopw [14] (fun i wr => ∃ k : Int, -2 ≤ k ∧ k ≤ 10 ∧ i = .int .i64 k ∧ Below w.heap.size w wr) (fun i _ => (10 - intOf i).toNat)
      case atStart => exact ⟨-2, by omega, by omega, rfl, BR.out⟩
      case round =>
      obtain ⟨k, hk1, hk2, rfl, hb⟩ := hrel
      have B4 := Lib.hid hb
      clear hb
      by_cases hlt : k < 10
      · have d1 : decide (k < 10) = true := decide_eq_true hlt
        have wk : IntKind.i64.wrap (k + 1) = k + 1 := IntWalk.i64_in _ (by omega)
        have HO := Lib.hid (Of_pair (HH.out.keep B4.out) k ⟨by omega, by omega⟩)
        have HP := Lib.hid (fun W (hb : Below w.heap.size w W) => rOf_pair (HH.out.keep hb) k)
        have Hlt := Lib.hid hlt
        have Hk1 := Lib.hid hk1
        clear hlt hk1 hk2
        go_wp2_with fail
        refine HO.out.mono ?_
        rintro e w5 ⟨⟨a5, c5, rfl, h5⟩, hb⟩
        have B5 := Lib.hid (B4.out.trans (hb.mono B4.out.size))
        have R5 := Lib.hid h5
        clear hb h5 HO
        go_wp2_with fail
        refine (HP.out w5 B5.out).mono ?_
        rintro e w6 ⟨⟨v6, rfl, h6⟩, hb⟩
        obtain ⟨a6, c6, rfl, -⟩ := Orow.own_shape h6
        have B6 := Lib.hid (B5.out.trans (hb.mono B5.out.size))
        have HS := Lib.hid (same_ints (own_keep R5.out hb) h6)
        clear hb h6 HP
        go_wp2_with fail
        refine HS.out.mono ?_
        rintro e w7 ⟨rfl, hd⟩
        have B7 := Lib.hid (B6.out.trans ((drewN_below hd).mono B6.out.size))
        clear hd HS
        go_wp2_with fail
        exact ⟨⟨k + 1, by have := Hk1.out; omega, by have := Hlt.out; omega, rfl, B7.out⟩, by have := Hlt.out; simp [intOf]; omega⟩
      · have d1 : decide (k < 10) = false := decide_eq_false hlt
        go_wp2_with fail
        go_ret
        exact ⟨rfl, B4.out⟩
end Go.Proofs.YtmdepkehpohgeaaGreat.Scr
