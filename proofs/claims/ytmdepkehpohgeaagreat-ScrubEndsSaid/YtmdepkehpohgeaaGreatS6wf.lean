/- Package scrub: a hold is changed: given, taken, moved. -/
import Derived.Test.YtmdepkehpohgeaaGreatS6we
import Derived.OrdersHeld
import Derived.Deep.RegionHeld3
namespace Go.Proofs.YtmdepkehpohgeaaGreat.Scr
open Go.RowKit Go.Maps Go.ChangeShapes Go.WideShapes Go.ChangeAt Fifo Orow Word
set_option linter.unusedVariables false
attribute [local go_sem] Oper.semAt_some

theorem InB.set {w w' : World} {b : Nat} {s : RS} {g c k : Nat} {L : List Hk} {t : Hd} (h : InB w b s (some ⟨g, 0, none⟩) c L) (hk : k < L.length) (ht : OkH t) (ho : Only (fun j => j = g) w w')
    (hr : w'.ownsRow 0 81 4 (.slice (some ⟨g, 0, none⟩) L.length c) L.length (flHk (L.set k (mkH t L[k]!.k)))) : InB w' b (setH s (k : Nat) t) (some ⟨g, 0, none⟩) c (L.set k (mkH t L[k]!.k)) := by
  have hl : (L.set k (mkH t L[k]!.k)).length = L.length := List.length_set ..
  refine ⟨ok_set h.ok _ ht, ?_, ?_, by rw [hl]; exact h.blk.only ho (fun e => h.ne (by have e : b = g := e; rw [e]; exact ba_self _ _)), by rw [hl]; exact hr, h.ne⟩
  · rw [List.map_set, h.hd]; rfl
  · rw [List.map_set, h.kn]
    show s.K.set k L[k]!.k = s.K
    rw [(h.at hk).2]
    have hks : k < s.K.length := by rw [← h.kn, List.length_map]; exact hk
    rw [getElem!_pos s.K k hks]
    exact List.set_getElem_self hks
theorem change_give_no (b c : Nat) (a : Option Addr) (s : RS) (L : List Hk) (n : Int) (q : Nat) (w : World) (h : InB w b s a c L) (hn : n < 0 ∨ (L.length : Int) ≤ n) :
    Calls Tryz.prog 46 #[.pointer (some ⟨b, 0, none⟩), .int .i64 n, .func (.func 47) #[] #[], .func (.func 48) #[] #[.pointer (some ⟨q, 0, none⟩)]] w fun e w' => e = .returned (.int .i64 6) ∧ Below w.heap.size w w' := by
  have p0 := h.blk.at 0 rfl
  have p1 := h.blk.at 1 rfl
  have HI1 := Lib.hid (is_yes b w p1)
  have HA1 := Lib.hid (at_no n a L.length c w hn)
  clear h hn
  go_enter Tryz.func46, Tryz.ntmps46
  go_wp2_with fail
  refine HI1.out.mono ?_
  rintro e w1 ⟨rfl, rfl⟩
  clear HI1
  go_wp2_with fail
  refine HA1.out.mono ?_
  rintro e w1 ⟨rfl, hb1⟩
  have B1 := Lib.hid (hb1.alloc hb1.size (.cells #[.int .i64 0, .int .i64 0, .int .i64 0, .int .i64 0] 81))
  clear hb1 HA1
  go_wp2_with fail
  go_ret
  exact ⟨rfl, B1.out⟩
set_option maxRecDepth 100000 in
set_option maxHeartbeats 4000000 in
theorem change_give_err (b c k q g : Nat) (s : RS) (L : List Hk) (o l nn kk x : Int) (er : Int) (w : World) (h : InB w b s (some ⟨g, 0, none⟩) c L) (hk : k < L.length) (he : L[k]! = ⟨o, l, nn, kk⟩) (hq : w.cell? ⟨q, 0, none⟩ = some (.int .i64 x)) (hE : giveE o l nn = er) (hE0 : er ≠ 0) :
    Calls Tryz.prog 46 #[.pointer (some ⟨b, 0, none⟩), .int .i64 (k : Nat), .func (.func 47) #[] #[], .func (.func 48) #[] #[.pointer (some ⟨q, 0, none⟩)]] w fun e w' => e = .returned (.int .i64 er) ∧ Below w.heap.size w w' := by
  have p0 := h.blk.at 0 rfl
  have p1 := h.blk.at 1 rfl
  have HI1 := Lib.hid (is_yes b w p1)
  have hat : AtHk w g (k * 4) ⟨o, l, nn, kk⟩ := by
    obtain ⟨g', e', hc⟩ := h.cells hk
    cases e'
    rw [he] at hc
    exact hc
  have HA1 := Lib.hid (at_yes g k L.length c o l nn kk w hk hat)
  have HI := Lib.hid h
  have Hk := Lib.hid hk
  have He := Lib.hid he
  have Hq := Lib.hid hq
  have hok := h.ok.hol k (by rw [← h.len]; exact hk)
  rw [← (h.at hk).1, he] at hok
  have Hok := Lib.hid hok
  have MAY := Lib.hid (fun w => mayGive_any o l nn kk w)
  rw [hE] at MAY
  have e1 : (er == 0) = false := beq_eq_false_iff_ne.2 hE0
  clear hE hE0
  clear h hk he hq hat hok
  go_enter Tryz.func46, Tryz.ntmps46
  go_wp2_with fail
  refine HI1.out.mono ?_
  rintro e w1 ⟨rfl, rfl⟩
  clear HI1
  go_wp2_with fail
  refine HA1.out.mono ?_
  rintro e w1 ⟨rfl, hb1⟩
  have B1 := Lib.hid hb1
  have hst := Blk.new w1 81 [.int .i64 o, .int .i64 l, .int .i64 nn, .int .i64 kk]
  have B2 := Lib.hid (hb1.alloc hb1.size (.cells #[.int .i64 o, .int .i64 l, .int .i64 nn, .int .i64 kk] 81))
  have ST := Lib.hid hst
  have HS := Lib.hid hb1.size
  clear hb1 HA1 hst p0 p1
  go_wp2_with fail
  refine (MAY.out _).mono ?_
  rintro e w2 ⟨rfl, hb2⟩
  have B3 := Lib.hid (B2.out.trans (hb2.mono B2.out.size))
  have S3 := Lib.hid (ST.out.keep hb2)
  clear hb2 ST
  go_wp2_with fail
  go_ret
  exact ⟨rfl, B3.out⟩
set_option maxRecDepth 100000 in
set_option maxHeartbeats 4000000 in
theorem change_give_ok (b c k q g : Nat) (s : RS) (L : List Hk) (o l nn kk x : Int) (w : World) (h : InB w b s (some ⟨g, 0, none⟩) c L) (hk : k < L.length) (he : L[k]! = ⟨o, l, nn, kk⟩) (hq : w.cell? ⟨q, 0, none⟩ = some (.int .i64 x)) (hE : giveE o l nn = 0) (ht : OkH (⟨x, 0, -1⟩ : Hd)) :
    Calls Tryz.prog 46 #[.pointer (some ⟨b, 0, none⟩), .int .i64 (k : Nat), .func (.func 47) #[] #[], .func (.func 48) #[] #[.pointer (some ⟨q, 0, none⟩)]] w fun e w' => e = .returned (.int .i64 0) ∧ InB w' b (setH s (k : Nat) (⟨x, 0, -1⟩ : Hd)) (some ⟨g, 0, none⟩) c (L.set k (mkH (⟨x, 0, -1⟩ : Hd) L[k]!.k)) ∧ Only (fun j => j = g) w w' := by
  have p0 := h.blk.at 0 rfl
  have p1 := h.blk.at 1 rfl
  have HI1 := Lib.hid (is_yes b w p1)
  have hat : AtHk w g (k * 4) ⟨o, l, nn, kk⟩ := by
    obtain ⟨g', e', hc⟩ := h.cells hk
    cases e'
    rw [he] at hc
    exact hc
  have HA1 := Lib.hid (at_yes g k L.length c o l nn kk w hk hat)
  have HI := Lib.hid h
  have Hk := Lib.hid hk
  have He := Lib.hid he
  have Hq := Lib.hid hq
  have hok := h.ok.hol k (by rw [← h.len]; exact hk)
  rw [← (h.at hk).1, he] at hok
  have Hok := Lib.hid hok
  have MAY := Lib.hid (fun w => mayGive_any o l nn kk w)
  rw [hE] at MAY
  have HT := Lib.hid ht
  obtain ⟨t, ht2⟩ : ∃ t, ((⟨x, 0, -1⟩ : Hd) : Hd) = t := ⟨_, rfl⟩
  have TO : Hid (∀ W, Below w.heap.size w W → Calls Tryz.prog 48 #[.agg #[.int .i64 o, .int .i64 l, .int .i64 nn, .int .i64 kk], .pointer (some ⟨q, 0, none⟩)] W fun e w' => e = .returned (.agg #[.int .i64 t.o, .int .i64 t.l, .int .i64 t.n]) ∧ Below W.heap.size W w') := Lib.hid (by
    intro W hW
    rw [← ht2]
    exact give1_any o l nn kk x q W (cell_keep hW hq))
  rw [ht2] at HT ⊢
  have hgb : b ≠ g := fun e => h.ne (by rw [e]; exact ba_self _ _)
  have Hgb := Lib.hid hgb
  have Hgw := Lib.hid (show g < w.heap.size from h.lt.2 g (ba_self _ _))
  have Hqw := Lib.hid (World.block_lt_of_cell? w _ hq)
  clear hE ht ht2 hgb
  clear h hk he hq hat hok
  go_enter Tryz.func46, Tryz.ntmps46
  go_wp2_with fail
  refine HI1.out.mono ?_
  rintro e w1 ⟨rfl, rfl⟩
  clear HI1
  go_wp2_with fail
  refine HA1.out.mono ?_
  rintro e w1 ⟨rfl, hb1⟩
  have B1 := Lib.hid hb1
  have hst := Blk.new w1 81 [.int .i64 o, .int .i64 l, .int .i64 nn, .int .i64 kk]
  have B2 := Lib.hid (hb1.alloc hb1.size (.cells #[.int .i64 o, .int .i64 l, .int .i64 nn, .int .i64 kk] 81))
  have ST := Lib.hid hst
  have HS := Lib.hid hb1.size
  clear hb1 HA1 hst p0 p1
  go_wp2_with fail
  refine (MAY.out _).mono ?_
  rintro e w2 ⟨rfl, hb2⟩
  have B3 := Lib.hid (B2.out.trans (hb2.mono B2.out.size))
  have S3 := Lib.hid (ST.out.keep hb2)
  clear hb2 ST
  go_wp2_with fail
  have cB : ∀ w', Only (fun j => j = g) w2 w' → w'.cell? ⟨b, 0, none⟩ = some (.slice (some ⟨g, 0, none⟩) L.length c) := fun w' h => ((HI.out.keep B3.out).blk.only h (fun e => Hgb.out e)).at 0 rfl
  have d0 : ∀ w', Only (fun j => j = g) w2 w' → w'.cell? ⟨w1.heap.size, 0, none⟩ = some (.int .i64 o) := fun w' h => (S3.out.only h (fun e => by have := Hgw.out; have := HS.out; have e : w1.heap.size = g := e; omega)).at 0 rfl
  have d1 : ∀ w', Only (fun j => j = g) w2 w' → w'.cell? ⟨w1.heap.size, 1, none⟩ = some (.int .i64 l) := fun w' h => (S3.out.only h (fun e => by have := Hgw.out; have := HS.out; have e : w1.heap.size = g := e; omega)).at 1 rfl
  have d2 : ∀ w', Only (fun j => j = g) w2 w' → w'.cell? ⟨w1.heap.size, 2, none⟩ = some (.int .i64 nn) := fun w' h => (S3.out.only h (fun e => by have := Hgw.out; have := HS.out; have e : w1.heap.size = g := e; omega)).at 2 rfl
  have d3 : ∀ w', Only (fun j => j = g) w2 w' → w'.cell? ⟨w1.heap.size, 3, none⟩ = some (.int .i64 kk) := fun w' h => (S3.out.only h (fun e => by have := Hgw.out; have := HS.out; have e : w1.heap.size = g := e; omega)).at 3 rfl
  have i1 : (0 : Int) ≤ (k : Int) := by omega
  have i2 : (k : Int) < (L.length : Int) := by have := Hk.out; omega
  have S0 : Only (fun j => j = g) w2 w2.drew := Only.of_below (Below.refl _ _).drew
  refine wp_region_held_drew (S := fun w' => Only (fun j => j = g) w2 w') (by kernel_rfl) S0 (fun hHeld => ?_)
  refine wpAnyH_take (i := 0) (v := ?_) rfl (by kernel_rfl) (by kernel_rfl) (by kernel_rfl) (fun _ _ _ h => h) (Or.inl ⟨by rfl, ?_⟩) (by assumption) ?_
  rotate_left
  · (intro w hSw; (try dsimp only at hSw); go_simp; try (with_reducible rfl))
  try simp only [Act.put]
  refine wpAnyH_take (i := 1) (v := ?_) rfl (by kernel_rfl) (by kernel_rfl) (by kernel_rfl) (fun _ _ _ h => h) (Or.inl ⟨by rfl, ?_⟩) (by assumption) ?_
  rotate_left
  · (intro w hSw; (try dsimp only at hSw); go_simp; try (with_reducible rfl))
  try simp only [Act.put]
  refine wpAnyH_take (i := 2) (v := ?_) rfl (by kernel_rfl) (by kernel_rfl) (by kernel_rfl) (fun _ _ _ h => h) (Or.inl ⟨by rfl, ?_⟩) (by assumption) ?_
  rotate_left
  · (intro w hSw; (try dsimp only at hSw); go_simp; try (with_reducible rfl))
  try simp only [Act.put]
  refine wpAnyH_take (i := 3) (v := ?_) rfl (by kernel_rfl) (by kernel_rfl) (by kernel_rfl) (fun _ _ _ h => h) (Or.inl ⟨by rfl, ?_⟩) (by assumption) ?_
  rotate_left
  · (intro w hSw; (try dsimp only at hSw); go_simp; try (with_reducible rfl))
  try simp only [Act.put]
  refine wpAnyH_take (i := 4) (v := ?_) rfl (by kernel_rfl) (by kernel_rfl) (by kernel_rfl) (fun _ _ _ h => h) (Or.inl ⟨by rfl, ?_⟩) (by assumption) ?_
  rotate_left
  · (intro w hSw; (try dsimp only at hSw); go_simp; try (with_reducible rfl))
  try simp only [Act.put]
  refine wpAnyH_take (i := 5) (v := ?_) rfl (by kernel_rfl) (by kernel_rfl) (by kernel_rfl) (fun _ _ _ h => h) (Or.inl ⟨by rfl, ?_⟩) (by assumption) ?_
  rotate_left
  · (intro w hSw; (try dsimp only at hSw); go_simp; try (with_reducible rfl))
  try simp only [Act.put]
  refine wpAnyH_take (i := 6) (v := ?_) rfl (by kernel_rfl) (by kernel_rfl) (by kernel_rfl) (fun _ _ _ h => h) (Or.inl ⟨by rfl, ?_⟩) (by assumption) ?_
  rotate_left
  · (intro w hSw; (try dsimp only at hSw); go_simp; try (with_reducible rfl))
  try simp only [Act.put]
  refine wpAnyH_ready (rs := [7]) (by kernel_rfl) (by simp) ?_
  refine AllReadyH.cons rfl (fun K hK => ?_) AllReadyH.nil
  go_simp
  refine (TO.out _ (B3.out.trans ((Below.refl w2.heap.size w2).drew.mono B3.out.size))).mono ?_
  rintro e wA ⟨rfl, hb⟩
  have BB := Lib.hid ((Below.refl w2.heap.size w2).drew.trans (hb.mono (Nat.le_refl _)))
  have hon : Only (fun j => j = g) w2 wA := Only.of_below BB.out
  clear hb
  refine hK.out _ _ hon (fun hHeld => ?_)
  clear hK hon
  try simp only [Act.put]
  refine wpAnyH_take (i := 8) (v := ?_) rfl (by kernel_rfl) (by kernel_rfl) (by kernel_rfl) (fun _ _ _ h => h) (Or.inl ⟨by rfl, ?_⟩) (by assumption) ?_
  rotate_left
  · (intro w hSw; (try dsimp only at hSw); go_simp; try (with_reducible rfl))
  try simp only [Act.put]
  refine wpAnyH_take (i := 9) (v := ?_) rfl (by kernel_rfl) (by kernel_rfl) (by kernel_rfl) (fun _ _ _ h => h) (Or.inl ⟨by rfl, ?_⟩) (by assumption) ?_
  rotate_left
  · (intro w hSw; (try dsimp only at hSw); go_simp; try (with_reducible rfl))
  try simp only [Act.put]
  refine wpAnyH_ready (rs := [10]) (by kernel_rfl) (by simp) ?_
  refine AllReadyH.cons rfl (fun K hK => ?_) AllReadyH.nil
  rw [if_pos (by rfl)]
  have RA := Lib.hid (own_keep (HI.out.keep B3.out).row BB.out)
  obtain ⟨cur, q1, q2, q3, q4, q5, q6⟩ := own_blk RA.out
  refine oper_store _ _ _ rfl g (k * 4) [.int .i64 t.o, .int .i64 t.l, .int .i64 t.n] rfl rfl 81 _ q1 (by kernel_rfl) (by have := Hk.out; simp; omega) (by simp [Value.oneCell']) ?_
  intro Y hY hoY
  have R := Lib.hid (And.intro q1 hY)
  have O1 := Lib.hid hoY
  clear hY hoY q1 q2 q3 q4 q5 q6
  have hon : Only (fun j => j = g) w2 Y := (Only.of_below BB.out).trans O1.out
  refine hK.out _ _ hon (fun hHeld => ?_)
  clear hK
  simp only [Act.put, List.getElem_toArray, List.getElem_cons_succ, List.getElem_cons_zero]
  refine wpAnyH_done (by kernel_rfl) ?_ _
  have OY := Lib.hid (show Only (fun j => j = g) w Y from (Only.of_below B3.out).trans hon)
  have RY := Lib.hid (show Y.ownsRow 0 81 4 (.slice (some ⟨g, 0, none⟩) L.length c) L.length (flHk (L.set k (mkH t L[k]!.k))) by
    have h1 := own_part RA.out R.out.1 (by have := Hk.out; simp; omega) R.out.2
    have h2 := flHk_put (L := L) (k := k) Hk.out t
    rw [show ([.int .i64 t.o, .int .i64 t.l, .int .i64 t.n] : List Value).length = 3 from rfl, h2] at h1
    exact h1)
  clear hHeld hon cB d0 d1 d2 d3 S0
  go_wp2_with fail
  go_ret
  exact ⟨rfl, HI.out.set Hk.out HT.out OY.out RY.out, OY.out⟩
theorem change_take_no (b c : Nat) (a : Option Addr) (s : RS) (L : List Hk) (n : Int) (q : Nat) (w : World) (h : InB w b s a c L) (hn : n < 0 ∨ (L.length : Int) ≤ n) :
    Calls Tryz.prog 46 #[.pointer (some ⟨b, 0, none⟩), .int .i64 n, .func (.func 65) #[] #[], .func (.func 66) #[] #[.pointer (some ⟨q, 0, none⟩)]] w fun e w' => e = .returned (.int .i64 6) ∧ Below w.heap.size w w' := by
  have p0 := h.blk.at 0 rfl
  have p1 := h.blk.at 1 rfl
  have HI1 := Lib.hid (is_yes b w p1)
  have HA1 := Lib.hid (at_no n a L.length c w hn)
  clear h hn
  go_enter Tryz.func46, Tryz.ntmps46
  go_wp2_with fail
  refine HI1.out.mono ?_
  rintro e w1 ⟨rfl, rfl⟩
  clear HI1
  go_wp2_with fail
  refine HA1.out.mono ?_
  rintro e w1 ⟨rfl, hb1⟩
  have B1 := Lib.hid (hb1.alloc hb1.size (.cells #[.int .i64 0, .int .i64 0, .int .i64 0, .int .i64 0] 81))
  clear hb1 HA1
  go_wp2_with fail
  go_ret
  exact ⟨rfl, B1.out⟩
set_option maxRecDepth 100000 in
set_option maxHeartbeats 4000000 in
theorem change_take_err (b c k q g : Nat) (s : RS) (L : List Hk) (o l nn kk x : Int) (er : Int) (w : World) (h : InB w b s (some ⟨g, 0, none⟩) c L) (hk : k < L.length) (he : L[k]! = ⟨o, l, nn, kk⟩) (hq : w.cell? ⟨q, 0, none⟩ = some (.int .i64 x)) (hE : takeE o l nn = er) (hE0 : er ≠ 0) :
    Calls Tryz.prog 46 #[.pointer (some ⟨b, 0, none⟩), .int .i64 (k : Nat), .func (.func 65) #[] #[], .func (.func 66) #[] #[.pointer (some ⟨q, 0, none⟩)]] w fun e w' => e = .returned (.int .i64 er) ∧ Below w.heap.size w w' := by
  have p0 := h.blk.at 0 rfl
  have p1 := h.blk.at 1 rfl
  have HI1 := Lib.hid (is_yes b w p1)
  have hat : AtHk w g (k * 4) ⟨o, l, nn, kk⟩ := by
    obtain ⟨g', e', hc⟩ := h.cells hk
    cases e'
    rw [he] at hc
    exact hc
  have HA1 := Lib.hid (at_yes g k L.length c o l nn kk w hk hat)
  have HI := Lib.hid h
  have Hk := Lib.hid hk
  have He := Lib.hid he
  have Hq := Lib.hid hq
  have hok := h.ok.hol k (by rw [← h.len]; exact hk)
  rw [← (h.at hk).1, he] at hok
  have Hok := Lib.hid hok
  have MAY := Lib.hid (fun w => mayTake_any o l nn kk w)
  rw [hE] at MAY
  have e1 : (er == 0) = false := beq_eq_false_iff_ne.2 hE0
  clear hE hE0
  clear h hk he hq hat hok
  go_enter Tryz.func46, Tryz.ntmps46
  go_wp2_with fail
  refine HI1.out.mono ?_
  rintro e w1 ⟨rfl, rfl⟩
  clear HI1
  go_wp2_with fail
  refine HA1.out.mono ?_
  rintro e w1 ⟨rfl, hb1⟩
  have B1 := Lib.hid hb1
  have hst := Blk.new w1 81 [.int .i64 o, .int .i64 l, .int .i64 nn, .int .i64 kk]
  have B2 := Lib.hid (hb1.alloc hb1.size (.cells #[.int .i64 o, .int .i64 l, .int .i64 nn, .int .i64 kk] 81))
  have ST := Lib.hid hst
  have HS := Lib.hid hb1.size
  clear hb1 HA1 hst p0 p1
  go_wp2_with fail
  refine (MAY.out _).mono ?_
  rintro e w2 ⟨rfl, hb2⟩
  have B3 := Lib.hid (B2.out.trans (hb2.mono B2.out.size))
  have S3 := Lib.hid (ST.out.keep hb2)
  clear hb2 ST
  go_wp2_with fail
  go_ret
  exact ⟨rfl, B3.out⟩
set_option maxRecDepth 100000 in
set_option maxHeartbeats 4000000 in
theorem change_take_ok (b c k q g : Nat) (s : RS) (L : List Hk) (o l nn kk x : Int) (w : World) (h : InB w b s (some ⟨g, 0, none⟩) c L) (hk : k < L.length) (he : L[k]! = ⟨o, l, nn, kk⟩) (hq : w.cell? ⟨q, 0, none⟩ = some (.int .i64 x)) (hE : takeE o l nn = 0) (ht : OkH (⟨-1, timeV kk, x⟩ : Hd)) :
    Calls Tryz.prog 46 #[.pointer (some ⟨b, 0, none⟩), .int .i64 (k : Nat), .func (.func 65) #[] #[], .func (.func 66) #[] #[.pointer (some ⟨q, 0, none⟩)]] w fun e w' => e = .returned (.int .i64 0) ∧ InB w' b (setH s (k : Nat) (⟨-1, timeV kk, x⟩ : Hd)) (some ⟨g, 0, none⟩) c (L.set k (mkH (⟨-1, timeV kk, x⟩ : Hd) L[k]!.k)) ∧ Only (fun j => j = g) w w' := by
  have p0 := h.blk.at 0 rfl
  have p1 := h.blk.at 1 rfl
  have HI1 := Lib.hid (is_yes b w p1)
  have hat : AtHk w g (k * 4) ⟨o, l, nn, kk⟩ := by
    obtain ⟨g', e', hc⟩ := h.cells hk
    cases e'
    rw [he] at hc
    exact hc
  have HA1 := Lib.hid (at_yes g k L.length c o l nn kk w hk hat)
  have HI := Lib.hid h
  have Hk := Lib.hid hk
  have He := Lib.hid he
  have Hq := Lib.hid hq
  have hok := h.ok.hol k (by rw [← h.len]; exact hk)
  rw [← (h.at hk).1, he] at hok
  have Hok := Lib.hid hok
  have MAY := Lib.hid (fun w => mayTake_any o l nn kk w)
  rw [hE] at MAY
  have HT := Lib.hid ht
  obtain ⟨t, ht2⟩ : ∃ t, ((⟨-1, timeV kk, x⟩ : Hd) : Hd) = t := ⟨_, rfl⟩
  have TO : Hid (∀ W, Below w.heap.size w W → Calls Tryz.prog 66 #[.agg #[.int .i64 o, .int .i64 l, .int .i64 nn, .int .i64 kk], .pointer (some ⟨q, 0, none⟩)] W fun e w' => e = .returned (.agg #[.int .i64 t.o, .int .i64 t.l, .int .i64 t.n]) ∧ Below W.heap.size W w') := Lib.hid (by
    intro W hW
    rw [← ht2]
    exact scrub1_any o l nn kk x q W (by have hkn := h.ok.kin k (by rw [← h.kn, List.length_map]; exact hk); rw [← (h.at hk).2, he] at hkn; have hkn : 1 ≤ kk ∧ kk ≤ 6 := hkn; exact ⟨by omega, by omega⟩) (cell_keep hW hq))
  rw [ht2] at HT ⊢
  have hgb : b ≠ g := fun e => h.ne (by rw [e]; exact ba_self _ _)
  have Hgb := Lib.hid hgb
  have Hgw := Lib.hid (show g < w.heap.size from h.lt.2 g (ba_self _ _))
  have Hqw := Lib.hid (World.block_lt_of_cell? w _ hq)
  clear hE ht ht2 hgb
  clear h hk he hq hat hok
  go_enter Tryz.func46, Tryz.ntmps46
  go_wp2_with fail
  refine HI1.out.mono ?_
  rintro e w1 ⟨rfl, rfl⟩
  clear HI1
  go_wp2_with fail
  refine HA1.out.mono ?_
  rintro e w1 ⟨rfl, hb1⟩
  have B1 := Lib.hid hb1
  have hst := Blk.new w1 81 [.int .i64 o, .int .i64 l, .int .i64 nn, .int .i64 kk]
  have B2 := Lib.hid (hb1.alloc hb1.size (.cells #[.int .i64 o, .int .i64 l, .int .i64 nn, .int .i64 kk] 81))
  have ST := Lib.hid hst
  have HS := Lib.hid hb1.size
  clear hb1 HA1 hst p0 p1
  go_wp2_with fail
  refine (MAY.out _).mono ?_
  rintro e w2 ⟨rfl, hb2⟩
  have B3 := Lib.hid (B2.out.trans (hb2.mono B2.out.size))
  have S3 := Lib.hid (ST.out.keep hb2)
  clear hb2 ST
  go_wp2_with fail
  have cB : ∀ w', Only (fun j => j = g) w2 w' → w'.cell? ⟨b, 0, none⟩ = some (.slice (some ⟨g, 0, none⟩) L.length c) := fun w' h => ((HI.out.keep B3.out).blk.only h (fun e => Hgb.out e)).at 0 rfl
  have d0 : ∀ w', Only (fun j => j = g) w2 w' → w'.cell? ⟨w1.heap.size, 0, none⟩ = some (.int .i64 o) := fun w' h => (S3.out.only h (fun e => by have := Hgw.out; have := HS.out; have e : w1.heap.size = g := e; omega)).at 0 rfl
  have d1 : ∀ w', Only (fun j => j = g) w2 w' → w'.cell? ⟨w1.heap.size, 1, none⟩ = some (.int .i64 l) := fun w' h => (S3.out.only h (fun e => by have := Hgw.out; have := HS.out; have e : w1.heap.size = g := e; omega)).at 1 rfl
  have d2 : ∀ w', Only (fun j => j = g) w2 w' → w'.cell? ⟨w1.heap.size, 2, none⟩ = some (.int .i64 nn) := fun w' h => (S3.out.only h (fun e => by have := Hgw.out; have := HS.out; have e : w1.heap.size = g := e; omega)).at 2 rfl
  have d3 : ∀ w', Only (fun j => j = g) w2 w' → w'.cell? ⟨w1.heap.size, 3, none⟩ = some (.int .i64 kk) := fun w' h => (S3.out.only h (fun e => by have := Hgw.out; have := HS.out; have e : w1.heap.size = g := e; omega)).at 3 rfl
  have i1 : (0 : Int) ≤ (k : Int) := by omega
  have i2 : (k : Int) < (L.length : Int) := by have := Hk.out; omega
  have S0 : Only (fun j => j = g) w2 w2.drew := Only.of_below (Below.refl _ _).drew
  refine wp_region_held_drew (S := fun w' => Only (fun j => j = g) w2 w') (by kernel_rfl) S0 (fun hHeld => ?_)
  refine wpAnyH_take (i := 0) (v := ?_) rfl (by kernel_rfl) (by kernel_rfl) (by kernel_rfl) (fun _ _ _ h => h) (Or.inl ⟨by rfl, ?_⟩) (by assumption) ?_
  rotate_left
  · (intro w hSw; (try dsimp only at hSw); go_simp; try (with_reducible rfl))
  try simp only [Act.put]
  refine wpAnyH_take (i := 1) (v := ?_) rfl (by kernel_rfl) (by kernel_rfl) (by kernel_rfl) (fun _ _ _ h => h) (Or.inl ⟨by rfl, ?_⟩) (by assumption) ?_
  rotate_left
  · (intro w hSw; (try dsimp only at hSw); go_simp; try (with_reducible rfl))
  try simp only [Act.put]
  refine wpAnyH_take (i := 2) (v := ?_) rfl (by kernel_rfl) (by kernel_rfl) (by kernel_rfl) (fun _ _ _ h => h) (Or.inl ⟨by rfl, ?_⟩) (by assumption) ?_
  rotate_left
  · (intro w hSw; (try dsimp only at hSw); go_simp; try (with_reducible rfl))
  try simp only [Act.put]
  refine wpAnyH_take (i := 3) (v := ?_) rfl (by kernel_rfl) (by kernel_rfl) (by kernel_rfl) (fun _ _ _ h => h) (Or.inl ⟨by rfl, ?_⟩) (by assumption) ?_
  rotate_left
  · (intro w hSw; (try dsimp only at hSw); go_simp; try (with_reducible rfl))
  try simp only [Act.put]
  refine wpAnyH_take (i := 4) (v := ?_) rfl (by kernel_rfl) (by kernel_rfl) (by kernel_rfl) (fun _ _ _ h => h) (Or.inl ⟨by rfl, ?_⟩) (by assumption) ?_
  rotate_left
  · (intro w hSw; (try dsimp only at hSw); go_simp; try (with_reducible rfl))
  try simp only [Act.put]
  refine wpAnyH_take (i := 5) (v := ?_) rfl (by kernel_rfl) (by kernel_rfl) (by kernel_rfl) (fun _ _ _ h => h) (Or.inl ⟨by rfl, ?_⟩) (by assumption) ?_
  rotate_left
  · (intro w hSw; (try dsimp only at hSw); go_simp; try (with_reducible rfl))
  try simp only [Act.put]
  refine wpAnyH_take (i := 6) (v := ?_) rfl (by kernel_rfl) (by kernel_rfl) (by kernel_rfl) (fun _ _ _ h => h) (Or.inl ⟨by rfl, ?_⟩) (by assumption) ?_
  rotate_left
  · (intro w hSw; (try dsimp only at hSw); go_simp; try (with_reducible rfl))
  try simp only [Act.put]
  refine wpAnyH_ready (rs := [7]) (by kernel_rfl) (by simp) ?_
  refine AllReadyH.cons rfl (fun K hK => ?_) AllReadyH.nil
  go_simp
  refine (TO.out _ (B3.out.trans ((Below.refl w2.heap.size w2).drew.mono B3.out.size))).mono ?_
  rintro e wA ⟨rfl, hb⟩
  have BB := Lib.hid ((Below.refl w2.heap.size w2).drew.trans (hb.mono (Nat.le_refl _)))
  have hon : Only (fun j => j = g) w2 wA := Only.of_below BB.out
  clear hb
  refine hK.out _ _ hon (fun hHeld => ?_)
  clear hK hon
  try simp only [Act.put]
  refine wpAnyH_take (i := 8) (v := ?_) rfl (by kernel_rfl) (by kernel_rfl) (by kernel_rfl) (fun _ _ _ h => h) (Or.inl ⟨by rfl, ?_⟩) (by assumption) ?_
  rotate_left
  · (intro w hSw; (try dsimp only at hSw); go_simp; try (with_reducible rfl))
  try simp only [Act.put]
  refine wpAnyH_take (i := 9) (v := ?_) rfl (by kernel_rfl) (by kernel_rfl) (by kernel_rfl) (fun _ _ _ h => h) (Or.inl ⟨by rfl, ?_⟩) (by assumption) ?_
  rotate_left
  · (intro w hSw; (try dsimp only at hSw); go_simp; try (with_reducible rfl))
  try simp only [Act.put]
  refine wpAnyH_ready (rs := [10]) (by kernel_rfl) (by simp) ?_
  refine AllReadyH.cons rfl (fun K hK => ?_) AllReadyH.nil
  rw [if_pos (by rfl)]
  have RA := Lib.hid (own_keep (HI.out.keep B3.out).row BB.out)
  obtain ⟨cur, q1, q2, q3, q4, q5, q6⟩ := own_blk RA.out
  refine oper_store _ _ _ rfl g (k * 4) [.int .i64 t.o, .int .i64 t.l, .int .i64 t.n] rfl rfl 81 _ q1 (by kernel_rfl) (by have := Hk.out; simp; omega) (by simp [Value.oneCell']) ?_
  intro Y hY hoY
  have R := Lib.hid (And.intro q1 hY)
  have O1 := Lib.hid hoY
  clear hY hoY q1 q2 q3 q4 q5 q6
  have hon : Only (fun j => j = g) w2 Y := (Only.of_below BB.out).trans O1.out
  refine hK.out _ _ hon (fun hHeld => ?_)
  clear hK
  simp only [Act.put, List.getElem_toArray, List.getElem_cons_succ, List.getElem_cons_zero]
  refine wpAnyH_done (by kernel_rfl) ?_ _
  have OY := Lib.hid (show Only (fun j => j = g) w Y from (Only.of_below B3.out).trans hon)
  have RY := Lib.hid (show Y.ownsRow 0 81 4 (.slice (some ⟨g, 0, none⟩) L.length c) L.length (flHk (L.set k (mkH t L[k]!.k))) by
    have h1 := own_part RA.out R.out.1 (by have := Hk.out; simp; omega) R.out.2
    have h2 := flHk_put (L := L) (k := k) Hk.out t
    rw [show ([.int .i64 t.o, .int .i64 t.l, .int .i64 t.n] : List Value).length = 3 from rfl, h2] at h1
    exact h1)
  clear hHeld hon cB d0 d1 d2 d3 S0
  go_wp2_with fail
  go_ret
  exact ⟨rfl, HI.out.set Hk.out HT.out OY.out RY.out, OY.out⟩
end Go.Proofs.YtmdepkehpohgeaaGreat.Scr
