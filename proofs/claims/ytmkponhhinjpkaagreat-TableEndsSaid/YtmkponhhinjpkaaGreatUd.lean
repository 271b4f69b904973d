/- The document's table: Map. -/
import Derived.Test.YtmkponhhinjpkaaGreatUb
import Derived.Test.YtmkponhhinjpkaaGreatTy
namespace Go.Proofs.YtmkponhhinjpkaaGreat.Table
open Go.RowKit Fifo Go.Maps Go.ChangeShapes Go.WideShapes Go.ChangeAt
open Go.Proofs.YtmkponhhinjpkaaGreat.Orow (own_keep own_only own_mono own_blk own_lt own_shape own_put own_pos own_none own_some blk_own ba_self ba_some BA pb_ba)
open Go.Proofs.YtmkponhhinjpkaaGreat.Region (Eight eight_new)
set_option linter.unusedVariables false

theorem rmapTo_succ (l : List Rg) (w : Int) (r : Nat) : rmapTo l w (r + 1) = rmapTo l w r ++ ofRank l w (255 - (r : Int)) := by
  unfold rmapTo
  rw [List.range_succ, List.flatMap_append]
  simp
theorem rmapTo_more (l : List Rg) (w : Int) (r : Nat) : ∀ m, (rmapTo l w r).length ≤ (rmapTo l w (r + m)).length
  | 0 => Nat.le_refl _
  | m + 1 => by rw [← Nat.add_assoc, rmapTo_succ, List.length_append]; have := rmapTo_more l w r m; omega
theorem ofRank_step {l : List Rg} {w K : Int} {i : Nat} (h : i < l.length) : ofRank (l.take (i + 1)) w K = ofRank (l.take i) w K ++ (if l[i]!.o && decide (l[i]!.W = w) && decide (l[i]!.K = K) then [l[i]!] else []) := by
  unfold ofRank
  rw [List.take_succ_eq_append_getElem h, List.filter_append, getElem!_pos l i h]
  congr 1
  rw [List.filter_cons]
  rfl
theorem ofRank_le {l : List Rg} {w K : Int} (i : Nat) : (ofRank (l.take i) w K).length ≤ (ofRank l w K).length := by
  unfold ofRank
  exact (List.Sublist.filter _ (List.take_sublist i l)).length_le
theorem part_le {l : List Rg} {w : Int} (hl : tabP l) {r : Nat} (hr : r < 256) (i : Nat) : (rmapTo l w r ++ ofRank (l.take i) w (255 - (r : Int))).length ≤ l.length := by
  have h1 := ofRank_le (l := l) (w := w) (K := 255 - (r : Int)) i
  have h2 := rmapTo_more l w (r + 1) (256 - (r + 1))
  rw [show r + 1 + (256 - (r + 1)) = 256 by omega, rmapTo_succ, List.length_append] at h2
  have h3 := rmap_length hl w
  unfold rmap at h3
  rw [List.length_append]
  omega
set_option maxRecDepth 100000 in
set_option maxHeartbeats 4000000 in
theorem tMap_any (a : Option Addr) (n cap : Nat) (d : List Rg) (world : Int) (w : World) (hn : n ≤ 1000000) (h : RowG w a n d) :
    Calls Tryz.prog 11 #[.slice a n cap, .int .i64 world] w fun e w' => ∃ v, e = .returned v ∧ w'.ownsRow w.heap.size 37 8 v (mapL d world).length (flG (mapL d world)) ∧ Below w.heap.size w w' := by
  obtain ⟨i0, hi, hz0, hz1, hz2⟩ := info_parts info_g2
  have Hi := Lib.hid hi
  have Hz0 := Lib.hid hz0
  have Hz1 := Lib.hid hz1
  have Hz2 := Lib.hid hz2
  have Hr := Lib.hid h
  have hdl : d.length = n := h.1
  obtain ⟨tb, htb⟩ : ∃ tb, tabB d = tb := ⟨_, rfl⟩
  have Htb := Lib.hid htb
  clear hi hz0 hz1 hz2 h htb
  go_enter Tryz.func11, Tryz.ntmps11
  go_wp2_with fail
  refine (tRight_any a n cap d tb _ hn Hr.out Htb.out).mono ?_
  rintro e w1 ⟨rfl, hb⟩
  have Hb1 := Lib.hid hb
  clear hb
  cases tb with
  | false =>
    go_wp2_with fail
    go_ret
    refine ⟨_, rfl, ?_, Hb1.out⟩
    have e : mapL d world = [] := by unfold mapL; rw [if_neg (by rw [Htb.out]; simp)]
    rw [e]
    exact ⟨rfl, .inl ⟨rfl, rfl⟩⟩
  | true =>
  have htab := tabB_iff.1 Htb.out
  have Htab := Lib.hid htab
  have h32 : n ≤ 32 := by rw [← hdl]; exact htab.1
  clear htab
  go_wp2_with fail
  go_loopw [5, 6] (fun v i wr => ∃ r : Nat, r ≤ 256 ∧ i = .int .i64 (255 - (r : Int)) ∧ wr.ownsRow w.heap.size 37 8 v (rmapTo d world r).length (flG (rmapTo d world r)) ∧ Below w.heap.size w wr) (fun _ i _ => (intOf i + 1).toNat)
  case atStart => exact ⟨0, by omega, rfl, ⟨rfl, .inl ⟨rfl, rfl⟩⟩, Hb1.out⟩
  case round =>
  obtain ⟨r, hr, rfl, hown, hb⟩ := hrel
  obtain ⟨v1, rfl⟩ : ∃ W : World, W = wr := ⟨_, rfl⟩
  obtain ⟨av, cv, rfl, _⟩ := own_shape hown
  have HO := Lib.hid hown
  have Hb := Lib.hid hb
  obtain ⟨rk, hrk⟩ : ∃ rk, 255 - (r : Int) = rk := ⟨_, rfl⟩
  have Hrk := Lib.hid hrk
  rw [hrk]
  clear hown hb hrk
  by_cases hlt : r < 256
  · have d1 : decide (0 ≤ rk) = true := decide_eq_true (by have := Hrk.out; omega)
    have wq : IntKind.i64.wrap (rk - 1) = rk - 1 := IntWalk.i64_in _ (by have := Hrk.out; omega)
    go_wp2_with fail
    go_loopw [5, 7] (fun v i wr => ∃ k : Nat, k ≤ n ∧ i = .int .i64 k ∧ wr.ownsRow w.heap.size 37 8 v (rmapTo d world r ++ ofRank (d.take k) world rk).length (flG (rmapTo d world r ++ ofRank (d.take k) world rk)) ∧ Below w.heap.size w wr) (fun _ i _ => n - (intOf i).toNat)
    case atStart => exact ⟨0, Nat.zero_le _, rfl, by simpa [ofRank] using HO.out, Hb.out⟩
    case round =>
    obtain ⟨k, hk, rfl, hown, hb⟩ := hrel
    have hple := part_le (w := world) Htab.out hlt k
    rw [Hrk.out] at hple
    obtain ⟨P, hP⟩ : ∃ P, rmapTo d world r ++ ofRank (d.take k) world rk = P := ⟨_, rfl⟩
    rw [hP] at hown hple
    obtain ⟨M, hM⟩ : ∃ M, P.length = M := ⟨_, rfl⟩
    rw [hM] at hown hple
    obtain ⟨ak, ck, rfl, _⟩ := own_shape hown
    have HPk := Lib.hid hP
    have HMk := Lib.hid hM
    have HOk := Lib.hid hown
    have Hbk := Lib.hid hb
    have hsz := hb.size
    clear hown hb hP hM
    by_cases hlk : k < n
    · obtain ⟨b, off, rfl, ce⟩ := Hr.out.2 k hlk
      have ce := ce.keep Hbk.out
      have hst := ofRank_step (l := d) (w := world) (K := rk) (i := k) (by omega)
      obtain ⟨x, hx⟩ : ∃ x, d[k]! = x := ⟨_, rfl⟩
      rw [hx] at ce hst
      clear hx
      obtain ⟨o, W, F, T, rd, wt, K, lk⟩ := x
      simp only at hst
      have Hst := Lib.hid hst
      obtain ⟨e0, e1, e2, e3, e4, e5, e6, e7⟩ := ce
      have i1 : (0 : Int) ≤ (k : Int) := by omega
      have i2 : (k : Int) < (n : Int) := by omega
      obtain ⟨bw, hbw⟩ : ∃ bw, (W == world) = bw := ⟨_, rfl⟩
      obtain ⟨bk, hbk⟩ : ∃ bk, (K == rk) = bk := ⟨_, rfl⟩
      have hcond : (o && decide (W = world) && decide (K = rk)) = (o && bw && bk) := by rw [← hbw, ← hbk]; rfl
      have Hcond := Lib.hid hcond
      clear hst hcond
      have hoff : (o && bw && bk) = false → rmapTo d world r ++ ofRank (d.take (k + 1)) world rk = P := fun hf => by
        have h1 := Hst.out
        rw [Hcond.out, hf] at h1
        rw [h1]
        simpa using HPk.out
      have Hoff := Lib.hid hoff
      clear hoff
      cases o with
      | false =>
        go_wp2_with fail
        exact ⟨⟨k + 1, by omega, by go_num, by rw [Hoff.out rfl, HMk.out]; exact HOk.out, Hbk.out⟩, by simp [intOf]; omega⟩
      | true =>
      cases bw with
      | false =>
        go_wp2_with fail
        exact ⟨⟨k + 1, by omega, by go_num, by rw [Hoff.out rfl, HMk.out]; exact HOk.out, Hbk.out⟩, by simp [intOf]; omega⟩
      | true =>
      cases bk with
      | false =>
        go_wp2_with fail
        exact ⟨⟨k + 1, by omega, by go_num, by rw [Hoff.out rfl, HMk.out]; exact HOk.out, Hbk.out⟩, by simp [intOf]; omega⟩
      | true =>
        have hon : rmapTo d world r ++ ofRank (d.take (k + 1)) world rk = P ++ [⟨true, W, F, T, rd, wt, K, lk⟩] := by
          have h1 := Hst.out
          rw [Hcond.out] at h1
          rw [h1, ← List.append_assoc, HPk.out]
          rfl
        have Hon := Lib.hid hon
        clear hon
        go_wp2_with (at_builtin; refine wpList_append_own _ rfl _ _ 22 rfl w.heap.size 37 i0 (.agg #[.bool false, .int .i64 0, .int .u32 0, .int .u32 0, .bool false, .bool false, .int .i64 0, .bool false]) 8 48 Tryz.underlying22 Hi.out Hz0.out Hz1.out Hz2.out rfl (by decide) (.slice ak M ck) M (flG P) rfl (HOk.out.alloc _) ⟨wr.heap.size, 0, none⟩ 1 1 [.bool true, .int .i64 W, .int .u32 F, .int .u32 T, .bool rd, .bool wt, .int .i64 K, .bool lk] rfl rfl (Orow.cells_new _ _ _) (by simp [Value.oneCell']) (by unfold maxLen; omega) (by omega) (by simp; omega) ?_; intro v' w5 r1 r2 _; have R1 := Lib.hid r1; have R2 := Lib.hid r2; obtain ⟨a5, c5, hv5, _⟩ := own_shape r1; subst hv5; clear r1 r2)
        have hoo : Only (PB (.slice ak M ck)) wr w5 := (Only.of_below ((Below.refl _ _).alloc (Nat.le_refl _) _)).trans (Orow.grown_only R2.out)
        refine ⟨⟨k + 1, by omega, by go_num, ?_, Hbk.out.trans (hoo.below hsz (fun j hj => (HOk.out.lt j hj).1))⟩, by simp [intOf]; omega⟩
        rw [Hon.out, flG_snoc, List.length_append, HMk.out]
        exact R1.out
    · obtain rfl : k = n := by omega
      have hfin : P = rmapTo d world (r + 1) := by
        rw [rmapTo_succ, Hrk.out, ← HPk.out, List.take_of_length_le (by omega)]
      have Hfin := Lib.hid hfin
      clear hfin
      go_wp2_with fail
      refine ⟨⟨r + 1, by omega, by rw [show rk - 1 = 255 - ((r + 1 : Nat) : Int) by have := Hrk.out; omega], ?_, Hbk.out⟩, by simp [intOf]; have := Hrk.out; omega⟩
      rw [← Hfin.out, HMk.out]
      exact HOk.out
  · obtain rfl : r = 256 := by omega
    have d1 : decide (0 ≤ rk) = false := decide_eq_false (by have := Hrk.out; omega)
    go_wp2_with fail
    go_ret
    refine ⟨_, rfl, ?_, Hb.out⟩
    rw [mapL_tab Htab.out]
    exact HO.out
end Go.Proofs.YtmkponhhinjpkaaGreat.Table
