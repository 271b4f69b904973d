/- The kit's apartness of many lists of Regions: the walk of flat. -/
import Derived.Test.YtmkponhhinjpkaaGreatKgRegions
namespace Go.Proofs.YtmkponhhinjpkaaGreat.KitRegions
open Go.RowKit Go.Maps Fifo Orow
set_option linter.unusedVariables false
set_option linter.unusedSimpArgs false

set_option maxRecDepth 100000 in
set_option maxHeartbeats 8000000 in
theorem flat_many (m : Nat) (A : Nat → Option Addr) (N C : Nat → Nat) (X : Nat → List Value) (G capG : Nat) (w : World) (hm : m ≤ 100) (hr : Rows w m A N C X) (hd : Dis m A)
    (hG : ∀ q, q < m → ¬ BA (A q) G) (hN : ∀ q, q < m → N q ≤ 1000000) (hg : ∀ q, q < m → w.cell? ⟨G, q, none⟩ = some (.slice (A q) (N q) (C q))) :
    Calls Tryz.prog 64 #[.slice (some ⟨G, 0, none⟩) m capG] w fun e w' => e = .returned (.bool true) ∧ Only (UU m A) w w' := by
  have Hd := Lib.hid hd
  have HG := Lib.hid hG
  have HN := Lib.hid hN
  have Hg := Lib.hid hg
  have Hr := Lib.hid hr
  have HGU : Hid (¬ UU m A G) := fun ⟨q, hq, hb⟩ => hG q hq hb
  obtain ⟨i0, hi, hz0, hz1, hz2⟩ := info_parts info_e
  have Hi := Lib.hid hi
  have Hz0 := Lib.hid hz0
  have Hz1 := Lib.hid hz1
  have Hz2 := Lib.hid hz2
  obtain ⟨s0, si, sz0, sz1, sz2⟩ := info_parts info_s
  have Si := Lib.hid si
  have Sz0 := Lib.hid sz0
  have Sz1 := Lib.hid sz1
  have Sz2 := Lib.hid sz2
  clear hi hz0 hz1 hz2 si sz0 sz1 sz2 hd hG hN hg hr
  go_enter Tryz.func64, Tryz.ntmps64
  go_wp2_with fail
  -- marks are written
  go_loopw [3] (fun i wr => ∃ k : Nat, k ≤ m ∧ i = .int .i64 k ∧ Rows wr m A N C (fun q => if q < k then marks q (N q) else X q) ∧ Only (UU m A) w wr) (fun i _ => m - (intOf i).toNat)
  case atStart => exact ⟨0, Nat.zero_le _, rfl, by simpa using Hr.out, Only.refl _ _⟩
  case round =>
  obtain ⟨k, hk, rfl, hrows, ho⟩ := hrel
  obtain ⟨v1, rfl⟩ : ∃ W : World, W = wr := ⟨_, rfl⟩
  have HO := Lib.hid ho
  have HR := Lib.hid hrows
  clear ho hrows
  by_cases hlt : k < m
  · obtain ⟨a, ha⟩ : ∃ a, A k = a := ⟨_, rfl⟩
    obtain ⟨n, hn⟩ : ∃ n, N k = n := ⟨_, rfl⟩
    obtain ⟨c, hc⟩ : ∃ c, C k = c := ⟨_, rfl⟩
    have hrk : R v1 (A k) (N k) (C k) (X k) := by have := HR.out k hlt; simpa using this
    rw [ha, hn, hc] at hrk
    have hgk := Hg.out k hlt
    rw [ha, hn, hc] at hgk
    have hGk : ¬ BA a G := by rw [← ha]; exact HG.out k hlt
    have HGk := Lib.hid hGk
    have Hrk := Lib.hid hrk
    have g0 := only_cell HO.out HGU.out hgk
    have G0 := Lib.hid g0
    have hn6 : n ≤ 1000000 := by rw [← hn]; exact HN.out k hlt
    have i1 : (0 : Int) ≤ (k : Int) := by omega
    have i2 : (k : Int) < (m : Int) := by omega
    have Ha := Lib.hid ha
    have Hn := Lib.hid hn
    have Hc := Lib.hid hc
    clear hrk hgk hGk ha hn hc
    go_wp2_with fail
    clear g0
    go_loopw [4] (fun i wr => ∃ j : Nat, j ≤ n ∧ i = .int .i64 j ∧ R wr a n c (marks k j ++ (X k).drop (j * 8)) ∧ Only (BA a) v1 wr) (fun i _ => n - (intOf i).toNat)
    case atStart => exact ⟨0, Nat.zero_le _, rfl, by simpa [marks] using Hrk.out, Only.refl _ _⟩
    case round =>
    obtain ⟨j, hj, rfl, hrow, ho⟩ := hrel
    have c0 := only_cell ho HGk.out G0.out
    have hxl : (marks k j ++ (X k).drop (j * 8)).length = n * 8 := hrow.1
    by_cases hlj : j < n
    · have HO2 := Lib.hid ho
      have Hrow := Lib.hid hrow
      obtain ⟨g, rfl⟩ := own_some hrow (.inl (by omega))
      have j1 : (0 : Int) ≤ (j : Int) := by omega
      have j2 : (j : Int) < (n : Int) := by omega
      have C0 := Lib.hid c0
      have Hxl := Lib.hid (show (X k).length = n * 8 from Hrk.out.1)
      clear hrow ho
      go_wp2_with fail
      have gS : ∀ w', Only (BA (some ⟨g, 0, none⟩)) wr w' → w'.cell? ⟨G, k, none⟩ = some (.slice (some ⟨g, 0, none⟩) n c) := fun w' h => only_cell h HGk.out C0.out
      clear c0
      refine wp_region_held_drew (S := fun w' => Only (BA (some ⟨g, 0, none⟩)) wr w') (by kernel_rfl) (only_drew _) (fun hHeld => ?_)
      refine wpAnyH_take (i := 0) (v := ?_) rfl (by kernel_rfl) (by kernel_rfl) (by kernel_rfl) (fun _ _ _ h => h) (Or.inl ⟨by rfl, ?_⟩) (by assumption) ?_
      rotate_left
      · (intro w hSw; (try dsimp only at hSw); go_simp; try (with_reducible rfl))
      try simp only [Act.put]
      refine wpAnyH_take (i := 1) (v := ?_) rfl (by kernel_rfl) (by kernel_rfl) (by kernel_rfl) (fun _ _ _ h => h) (Or.inl ⟨by rfl, ?_⟩) (by assumption) ?_
      rotate_left
      · (intro w hSw; (try dsimp only at hSw); go_simp; try (with_reducible rfl))
      try simp only [Act.put]
      refine wpAnyH_take (i := 2) (v := ?_) rfl (by kernel_rfl) (by kernel_rfl) (by kernel_rfl) (fun _ _ _ h => h) (Or.inl ⟨by rfl, ?_⟩) (by assumption) ?_
      rotate_left
      · (intro w hSw; (try dsimp only at hSw); go_simp; try (with_reducible rfl))
      try simp only [Act.put]
      refine wpAnyH_take (i := 3) (v := ?_) rfl (by kernel_rfl) (by kernel_rfl) (by kernel_rfl) (fun _ _ _ h => h) (Or.inl ⟨by rfl, ?_⟩) (by assumption) ?_
      rotate_left
      · (intro w hSw; (try dsimp only at hSw); go_simp; try (with_reducible rfl))
      try simp only [Act.put]
      refine wpAnyH_take (i := 4) (v := ?_) rfl (by kernel_rfl) (by kernel_rfl) (by kernel_rfl) (fun _ _ _ h => h) (Or.inl ⟨by rfl, ?_⟩) (by assumption) ?_
      rotate_left
      · (intro w hSw; (try dsimp only at hSw); go_simp; try (with_reducible rfl))
      try simp only [Act.put]
      refine wpAnyH_take (i := 5) (v := ?_) rfl (by kernel_rfl) (by kernel_rfl) (by kernel_rfl) (fun _ _ _ h => h) (Or.inl ⟨by rfl, ?_⟩) (by assumption) ?_
      rotate_left
      · (intro w hSw; (try dsimp only at hSw); go_simp; try (with_reducible rfl))
      try simp only [Act.put]
      refine wpAnyH_take (i := 6) (v := ?_) rfl (by kernel_rfl) (by kernel_rfl) (by kernel_rfl) (fun _ _ _ h => h) (Or.inl ⟨by rfl, ?_⟩) (by assumption) ?_
      rotate_left
      · (intro w hSw; (try dsimp only at hSw); go_simp; try (with_reducible rfl))
      try simp only [Act.put]
      refine wpAnyH_ready (rs := [7]) (by kernel_rfl) (by simp) ?_
      refine AllReadyH.cons rfl (fun K0 hK => ?_) AllReadyH.nil
      go_simp
      refine (markE_any (k : Int) (j : Int) _ (by omega) (by omega) (by omega) (by omega)).mono ?_
      rintro e w5 ⟨rfl, hb5⟩
      have hb6 := below_drew hb5
      refine hK.out _ _ (Only.of_below hb6) (fun hHeld => ?_)
      clear hK
      try simp only [Act.put]
      refine wpAnyH_take (i := 8) (v := ?_) rfl (by kernel_rfl) (by kernel_rfl) (by kernel_rfl) (fun _ _ _ h => h) (Or.inl ⟨by rfl, ?_⟩) (by assumption) ?_
      rotate_left
      · (intro w hSw; (try dsimp only at hSw); go_simp; try (with_reducible rfl))
      try simp only [Act.put]
      refine wpAnyH_ready (rs := [9]) (by kernel_rfl) (by simp) ?_
      refine AllReadyH.cons rfl (fun K1 hK => ?_) AllReadyH.nil
      rw [if_pos (by rfl)]
      obtain ⟨cur, u1, u2, u3, u4, u5, u6⟩ := own_blk (own_keep Hrow.out hb6)
      have hfit : j * 8 + 8 ≤ cur.length := by omega
      refine oper_store _ _ _ rfl g (j * 8) [.bool false, .int .i64 (mk k j), .int .u32 0, .int .u32 0, .bool false, .bool false, .int .i64 0, .bool false] rfl rfl 37 cur u1 (by kernel_rfl) (by simpa using hfit) (by simp [Value.oneCell']) ?_
      intro Y hY hoY
      have hrow2 := own_put (own_keep Hrow.out hb6) u1 hlj rfl hY
      have hon : Only (BA (some ⟨g, 0, none⟩)) wr Y := (Only.of_below hb6).trans (hoY.mono (fun i _ e => by rw [e]; exact ba_self _ _))
      rw [show [.bool false, .int .i64 (mk k j), .int .u32 0, .int .u32 0, .bool false, .bool false, .int .i64 0, .bool false] = mE k (j : Nat) from rfl, set_mark k j (X k) (by rw [Hxl.out]; omega)] at hrow2
      refine hK.out _ _ hon (fun hHeld => ?_)
      clear hK
      try simp only [Act.put]
      refine wpAnyH_done (by kernel_rfl) ?_ _
      have R2 := Lib.hid hrow2
      have O2 := Lib.hid (HO2.out.trans hon)
      clear hY hoY hrow2 hon u1 u2 u3 hb5 hb6 hHeld gS
      go_wp2_with fail
      exact ⟨⟨j + 1, by omega, by go_num, R2.out, O2.out⟩, by simp [intOf]; omega⟩
    · obtain rfl : j = n := by omega
      have hrow1 : R wr a j c (marks k j) := by
        have e : (X k).drop (j * 8) = [] := List.drop_eq_nil_iff.2 (by have := Hrk.out.1; omega)
        rw [e, List.append_nil] at hrow
        exact hrow
      have hrows2 : Rows wr m A N C (fun q => if q < k + 1 then marks q (N q) else X q) := by
        refine HR.out.step Hd.out hlt (by rw [Ha.out]; exact ho) ?_ (fun q hq hqk => ?_)
        · simp only [Nat.lt_succ_self, if_true]
          rw [Ha.out, Hn.out, Hc.out]
          exact hrow1
        · by_cases hqk2 : q < k
          · rw [if_pos (by omega), if_pos hqk2]
          · rw [if_neg (by omega), if_neg hqk2]
      have R2 := Lib.hid hrows2
      have O2 := Lib.hid (HO.out.trans (uu_of hlt (by rw [Ha.out]; exact ho)))
      clear hrow hrow1 hrows2 ho hxl
      go_wp2_with fail
      exact ⟨⟨k + 1, by omega, by go_num, R2.out, O2.out⟩, by simp [intOf]; omega⟩
  obtain rfl : k = m := by omega
  have R1 : Rows v1 k A N C (fun q => marks q (N q)) := fun q hq => by have := HR.out q hq; simpa [hq] using this
  have HR1 := Lib.hid R1
  have HO1 := Lib.hid HO.out
  clear HR HO R1 hlt hk Hr
  -- the new list of lists
  go_wp2_with (at_make; refine wpList_make_full v1 rfl _ _ 32 rfl 0 22 s0 (.slice none 0 0) 1 Tryz.underlying32 Si.out Sz0.out Sz1.out .i64 .i64 k k k rfl rfl rfl rfl (by rw [Sz2.out]; omega) (by unfold maxLen; omega) (Nat.zero_le _) ?_; intro v2 hown hgrow)
  obtain ⟨H, hH⟩ : ∃ H, v1.heap.size = H := ⟨_, rfl⟩
  rw [hH] at hown ⊢
  have hv12 : Only (fun _ => False) v1 v2 := (Only.refl _ _).grown hgrow (fun j e => by cases e)
  obtain ⟨gs0, hgs0, hgs1, hgs2, _, _, _⟩ := own_blk hown
  have HR2 := Lib.hid (HR1.out.only hv12 (fun _ _ h => h))
  have HO2 := Lib.hid (HO1.out.trans (hv12.mono (fun _ _ h => h.elim)))
  have HUH : Hid (∀ j, UU k A j → j < H) := fun j hj => by rw [← hH]; exact HR1.out.lt j hj
  have HwH : Hid (w.heap.size ≤ H) := by rw [← hH]; exact HO1.out.size
  have HG0 := Lib.hid hgs0
  have Hgl : gs0.length = k := by omega
  clear hown hgrow hv12 hgs0 hgs1 hgs2 hH HR1 HO1
  -- each grows
  go_loopw [6] (fun i wr => ∃ q : Nat, q ≤ k ∧ i = .int .i64 q ∧ (∃ gs : List Value, gs.length = k ∧ Blk wr H 22 gs ∧ ∀ p, p < q → GC wr k A H p gs[p]? (N p + 64) (marks p (N p + 64))) ∧ Rows wr k A N C (fun q => marks q (N q)) ∧ Only (UU k A) w wr) (fun i _ => k - (intOf i).toNat)
  case atStart => exact ⟨0, Nat.zero_le _, rfl, ⟨gs0, Hgl, HG0.out, fun p hp => by omega⟩, HR2.out, HO2.out⟩
  case round =>
  obtain ⟨q, hq, rfl, ⟨gs, hgl, hgb, hgc⟩, hrows, ho⟩ := hrel
  obtain ⟨v3, rfl⟩ : ∃ W : World, W = wr := ⟨_, rfl⟩
  have HO := Lib.hid ho
  have HR := Lib.hid hrows
  have HB := Lib.hid hgb
  have HC := Lib.hid hgc
  clear ho hrows hgb hgc
  by_cases hlt : q < k
  · obtain ⟨a, ha⟩ : ∃ a, A q = a := ⟨_, rfl⟩
    obtain ⟨n, hn⟩ : ∃ n, N q = n := ⟨_, rfl⟩
    obtain ⟨c, hc⟩ : ∃ c, C q = c := ⟨_, rfl⟩
    have hrk : R v3 (A q) (N q) (C q) (marks q (N q)) := HR.out q hlt
    rw [ha, hn, hc] at hrk
    have hgk := Hg.out q hlt
    rw [ha, hn, hc] at hgk
    have hGk : ¬ BA a G := by rw [← ha]; exact HG.out q hlt
    have HGk := Lib.hid hGk
    have Hrk := Lib.hid hrk
    have g0 := only_cell HO.out HGU.out hgk
    have G0 := Lib.hid g0
    have hn6 : n ≤ 1000000 := by rw [← hn]; exact HN.out q hlt
    have i1 : (0 : Int) ≤ (q : Int) := by omega
    have i2 : (q : Int) < (k : Int) := by omega
    have hHa : ∀ j, BA a j → j < H := fun j hj => HUH.out j ⟨q, hlt, by rw [ha]; exact hj⟩
    have HHa := Lib.hid hHa
    have HHl : Hid (H < v3.heap.size) := HB.out.lt
    have Ha := Lib.hid ha
    have Hn := Lib.hid hn
    have Hc := Lib.hid hc
    clear hrk hgk hGk ha hn hc hHa
    go_wp2_with fail
    clear g0
    go_loopw [7, 8] (fun gv i wr => ∃ j : Nat, j ≤ 64 ∧ i = .int .i64 j ∧ G2 v3.heap.size wr a n c q j gv ∧ R wr a n c (marks q n) ∧ Only (BA a) v3 wr) (fun _ i _ => 64 - (intOf i).toNat)
    case atStart => exact ⟨0, by omega, rfl, .inl ⟨rfl, Hrk.out⟩, Hrk.out, Only.refl _ _⟩
    case round =>
    obtain ⟨j, hj, rfl, hg2, hrow, ho⟩ := hrel
    have c0 := only_cell ho HGk.out G0.out
    have HO2 := Lib.hid ho
    have HR2 := Lib.hid hrow
    clear ho hrow
    by_cases hlj : j < 64
    · rcases hg2 with ⟨rfl, hown⟩ | ⟨g2, c2, rfl, hown⟩
      · have hle := own_le hown
        have hmax := own_max hown
        have Hown := Lib.hid hown
        clear hown
        go_wp2_with fail
        refine (markE_any (q : Int) ((n : Int) + (j : Int)) _ (by omega) (by omega) (by omega) (by omega)).mono ?_
        rintro e w5 ⟨rfl, hb5⟩
        have Hb5 := Lib.hid hb5
        have Hown5 := Lib.hid (own_keep Hown.out hb5)
        clear hb5 c0
        by_cases hroom : n + j < c
        · obtain ⟨g, rfl⟩ := own_some Hown.out (.inr (by omega))
          go_wp2_with (at_builtin; refine wpList_append_fits (w5.alloc (.cells #[.bool false, .int .i64 (mk q ((n : Int) + (j : Int))), .int .u32 0, .int .u32 0, .bool false, .bool false, .int .i64 0, .bool false] 37)) rfl _ _ 22 rfl 0 37 i0 8 Tryz.underlying22 Hi.out Hz1.out g (n + j) c (marks q (n + j)) rfl (Hown5.out.alloc _) ⟨w5.heap.size, 0, none⟩ 1 1 [.bool false, .int .i64 (mk q ((n : Int) + (j : Int))), .int .u32 0, .int .u32 0, .bool false, .bool false, .int .i64 0, .bool false] rfl rfl (cells_new _ _ _) (by simp [Value.oneCell']) (by omega) ?_; intro w1' hown1 hgrow)
          obtain ⟨s1, s2, s3⟩ := step2_fits HO2.out Hb5.out hown1 hgrow
          exact ⟨⟨j + 1, by omega, by go_num, s1, s2, s3⟩, by simp [intOf]; omega⟩
        · have Hcells := Lib.hid (own_cells (Hown5.out.alloc (.cells #[.bool false, .int .i64 (mk q ((n : Int) + (j : Int))), .int .u32 0, .int .u32 0, .bool false, .bool false, .int .i64 0, .bool false] 37)))
          have Hnone := Lib.hid (own_none Hown5.out)
          go_wp2_with (at_builtin; refine wpList_append_grows (w5.alloc (.cells #[.bool false, .int .i64 (mk q ((n : Int) + (j : Int))), .int .u32 0, .int .u32 0, .bool false, .bool false, .int .i64 0, .bool false] 37)) rfl _ _ 22 rfl 37 i0 (.agg #[.bool false, .int .i64 0, .int .u32 0, .int .u32 0, .bool false, .bool false, .int .i64 0, .bool false]) 8 48 Tryz.underlying22 Hi.out Hz0.out Hz1.out Hz2.out rfl (by decide) a (n + j) c (marks q (n + j)) rfl Hnone.out (by rw [marks_len]) Hcells.out ⟨w5.heap.size, 0, none⟩ 1 1 [.bool false, .int .i64 (mk q ((n : Int) + (j : Int))), .int .u32 0, .int .u32 0, .bool false, .bool false, .int .i64 0, .bool false] rfl rfl (cells_new _ _ _) (by simp [Value.oneCell']) (by omega) (by unfold maxLen; omega) (by omega) ?_; intro v' w1' hown1 hgrow)
          obtain ⟨s1, s2, s3⟩ := step2_grows HO2.out Hb5.out HR2.out hown1 hgrow
          exact ⟨⟨j + 1, by omega, by go_num, s1, s2, s3⟩, by simp [intOf]; omega⟩
      · have Hown := Lib.hid hown
        have HsO := HO2.out.size
        clear hown
        go_wp2_with fail
        refine (markE_any (q : Int) ((n : Int) + (j : Int)) _ (by omega) (by omega) (by omega) (by omega)).mono ?_
        rintro e w5 ⟨rfl, hb5⟩
        have Hb5 := Lib.hid hb5
        have Hown5 := Lib.hid (own_keep Hown.out hb5)
        have hs5 := hb5.size
        clear hb5 c0
        go_wp2_with (at_builtin; refine wpList_append_own _ rfl _ _ 22 rfl v3.heap.size 37 i0 (.agg #[.bool false, .int .i64 0, .int .u32 0, .int .u32 0, .bool false, .bool false, .int .i64 0, .bool false]) 8 48 Tryz.underlying22 Hi.out Hz0.out Hz1.out Hz2.out rfl (by decide) (.slice (some ⟨g2, 0, none⟩) (n + j) c2) (n + j) (marks q (n + j)) rfl (Hown5.out.alloc _) ⟨w5.heap.size, 0, none⟩ 1 1 [.bool false, .int .i64 (mk q ((n : Int) + (j : Int))), .int .u32 0, .int .u32 0, .bool false, .bool false, .int .i64 0, .bool false] rfl rfl (cells_new _ _ _) (by simp [Value.oneCell']) (by unfold maxLen; omega) (by omega) (by simp; omega) ?_; intro v' w1' hown1 hgrow _)
        obtain ⟨s1, s2, s3⟩ := step2_own HO2.out Hb5.out HR2.out (fun j h => (own_lt Hrk.out j h).2) Hown.out hown1 hgrow
        exact ⟨⟨j + 1, by omega, by go_num, s1, s2, s3⟩, by simp [intOf]; omega⟩
    · obtain rfl : j = 64 := by omega
      obtain ⟨g', c', rfl, hgc⟩ := hg2.done Ha.out hlt Hd.out HUH.out HHl.out
      have hnB : ¬ BA a H := fun h => by have := HHa.out H h; omega
      have hbox := HB.out.only HO2.out hnB
      have e0 := hbox.at q (List.getElem?_eq_getElem (by rw [hgl]; exact hlt))
      have f0 := hbox.frozen q
      have hset := hbox.set q (.slice (some ⟨g', 0, none⟩) (n + 64) c')
      have hso := (Only.refl (fun j => j = H) wr).setCell (p := ⟨H, q, none⟩) rfl (.slice (some ⟨g', 0, none⟩) (n + 64) c')
      have HS := Lib.hid hset
      have HSo := Lib.hid hso
      have HGc := Lib.hid hgc
      clear hset hso hgc hbox c0
      go_wp2_with fail
      refine ⟨⟨q + 1, by omega, by go_num, ⟨_, by rw [List.length_set]; exact hgl, HS.out, fun p hp => ?_⟩, ?_, ?_⟩, by simp [intOf]; omega⟩
      · by_cases e : p = q
        · subst e
          rw [List.getElem?_set_self (by omega), Hn.out]
          exact HGc.out.only HSo.out (fun j hj => .inl hj)
        · rw [List.getElem?_set_ne (by omega)]
          exact ((HC.out p (by omega)).only HO2.out (fun j hj => .inr ⟨q, hlt, fun e2 => e e2.symm, by rw [Ha.out]; exact hj⟩)).only HSo.out (fun j hj => .inl hj)
      · refine Rows.only (HR.out.step Hd.out hlt (by rw [Ha.out]; exact HO2.out) ?_ (fun _ _ _ => rfl)) HSo.out (fun j hj e => ?_)
        · rw [Ha.out, Hn.out, Hc.out]; exact HR2.out
        · have := HUH.out j hj; omega
      · exact (HO.out.trans (uu_of hlt (by rw [Ha.out]; exact HO2.out))).far HSo.out (fun j hj e => by have := HwH.out; omega)
  obtain rfl : q = k := by omega
  have HGC := Lib.hid (show ∀ p, p < q → ∃ ga gc, gs[p]? = some (.slice ga (N p + 64) gc) ∧ RowM v3 ga (N p + 64) p from fun p hp => (HC.out p hp).row (r := []) (by rw [List.append_nil]) (Nat.le_refl _))
  have HRM := Lib.hid (show ∀ p, p < q → RowM v3 (A p) (N p) p from fun p hp => rowM_of (HR.out p hp) (r := []) (by rw [List.append_nil]) (Nat.le_refl _))
  have HG3 := Lib.hid (show ∀ p, p < q → v3.cell? ⟨G, p, none⟩ = some (.slice (A p) (N p) (C p)) from fun p hp => only_cell HO.out HGU.out (Hg.out p hp))
  clear HC hlt hq
  -- all are looked at
  go_wp2_with fail
  go_loopw [9] (fun i wr => ∃ k : Nat, k ≤ q ∧ i = .int .i64 k ∧ Below v3.heap.size v3 wr) (fun i _ => q - (intOf i).toNat)
  case atStart => exact ⟨0, Nat.zero_le _, rfl, Below.refl _ _⟩
  case round =>
  obtain ⟨k, hk, rfl, hb⟩ := hrel
  obtain ⟨v4, rfl⟩ : ∃ W : World, W = wr := ⟨_, rfl⟩
  have HB4 := Lib.hid hb
  clear hb
  by_cases hlt : k < q
  · obtain ⟨a, ha⟩ : ∃ a, A k = a := ⟨_, rfl⟩
    obtain ⟨n, hn⟩ : ∃ n, N k = n := ⟨_, rfl⟩
    obtain ⟨c, hc⟩ : ∃ c, C k = c := ⟨_, rfl⟩
    obtain ⟨ga, gc, hgk, hgm⟩ := HGC.out k hlt
    have hgk2 := HG3.out k hlt
    have hrm := HRM.out k hlt
    rw [ha, hn, hc] at hgk2
    rw [ha, hn] at hrm
    rw [hn] at hgk hgm
    have hn6 : n ≤ 1000000 := by rw [← hn]; exact HN.out k hlt
    have HX1 := Lib.hid (HB.out.at k hgk)
    have HX2 := Lib.hid hgk2
    have HM1 := Lib.hid hgm
    have HM2 := Lib.hid hrm
    have i1 : (0 : Int) ≤ (k : Int) := by omega
    have i2 : (k : Int) < (q : Int) := by omega
    clear ha hn hc hgk hgk2 hgm hrm
    go_wp2_with fail
    go_loopw [10] (fun i wr => ∃ j : Nat, j ≤ n + 64 ∧ i = .int .i64 j ∧ Below v3.heap.size v3 wr) (fun i _ => n + 64 - (intOf i).toNat)
    case atStart => exact ⟨0, Nat.zero_le _, rfl, HB4.out⟩
    case round =>
    obtain ⟨j, hj, rfl, hb⟩ := hrel
    have HB5 := Lib.hid hb
    have x1 := cell_keep hb HX1.out
    have x2 := cell_keep hb HX2.out
    have X1 := Lib.hid x1
    have X2 := Lib.hid x2
    clear hb
    by_cases hlj : j < n + 64
    · have j1 : (0 : Int) ≤ (j : Int) := by omega
      have j2 : (j : Int) < (n : Int) + 64 := by omega
      obtain ⟨b, off, rfl, ce⟩ := HM1.out j hlj
      have Mk := fun w => markE_any (k : Int) (j : Int) w (by omega) (by omega) (by omega) (by omega)
      obtain ⟨mv, hmv⟩ : ∃ v, mk (k : Int) (j : Int) = v := ⟨_, rfl⟩
      rw [hmv] at Mk
      have Hmv := Lib.hid hmv
      have HMk := Lib.hid Mk
      clear hmv Mk
      have ce := ce.keep HB5.out
      by_cases hjn : j < n
      · have j3 : (j : Int) < (n : Int) := by omega
        have d1 : decide ((j : Int) < (n : Int)) = true := decide_eq_true j3
        have d2 : decide (j < n) = true := decide_eq_true hjn
        obtain ⟨b2, off2, rfl, cf⟩ := HM2.out j hjn
        have cf := cf.keep HB5.out
        go_wp2_with fail
        refine wp_region_ext (by kernel_rfl) (by kernel_rfl) ?_
        intro Y hY
        obtain rfl := hY.out
        clear hY
        have z1 := ext_cell X1.out
        have z2 := ext_cell X2.out
        clear x1 x2
        have x0 := ext_cell ce.c0
        have x1 : ∀ p, (ext Y p).cell? ⟨b, off + j * 8 + 1, none⟩ = some (.int .i64 mv) := by rw [← Hmv.out]; exact ext_cell ce.c1
        have x2 := ext_cell ce.c2
        have x3 := ext_cell ce.c3
        have x4 := ext_cell ce.c4
        have x5 := ext_cell ce.c5
        have x6 := ext_cell ce.c6
        have x7 := ext_cell ce.c7
        have y0 := ext_cell cf.c0
        have y1 : ∀ p, (ext Y p).cell? ⟨b2, off2 + j * 8 + 1, none⟩ = some (.int .i64 mv) := by rw [← Hmv.out]; exact ext_cell cf.c1
        have y2 := ext_cell cf.c2
        have y3 := ext_cell cf.c3
        have y4 := ext_cell cf.c4
        have y5 := ext_cell cf.c5
        have y6 := ext_cell cf.c6
        have y7 := ext_cell cf.c7
        clear ce cf
        repeat (go_big_quiet_step ((go_at_call 20; with_reducible exact ext_of (HMk.out _))))
        refine wpQuiet_nil ?_
        intro w9 hw9
        obtain ⟨p9, rfl⟩ := hw9
        have B9 := Lib.hid (HB5.out.trans ((ext_below Y p9).mono HB5.out.size))
        clear z1 z2 d1 d2 x0 x1 x2 x3 x4 x5 x6 x7 y0 y1 y2 y3 y4 y5 y6 y7
        go_wp2_with fail
        exact ⟨⟨j + 1, by omega, by go_num, B9.out⟩, by simp [intOf]; omega⟩
      · have d1 : decide ((j : Int) < (n : Int)) = false := decide_eq_false (by omega)
        have d2 : decide (j < n) = false := decide_eq_false hjn
        go_wp2_with fail
        refine wp_region_ext (by kernel_rfl) (by kernel_rfl) ?_
        intro Y hY
        obtain rfl := hY.out
        clear hY
        have z1 := ext_cell X1.out
        have z2 := ext_cell X2.out
        clear x1 x2
        have x0 := ext_cell ce.c0
        have x1 : ∀ p, (ext Y p).cell? ⟨b, off + j * 8 + 1, none⟩ = some (.int .i64 mv) := by rw [← Hmv.out]; exact ext_cell ce.c1
        have x2 := ext_cell ce.c2
        have x3 := ext_cell ce.c3
        have x4 := ext_cell ce.c4
        have x5 := ext_cell ce.c5
        have x6 := ext_cell ce.c6
        have x7 := ext_cell ce.c7
        clear ce
        repeat (go_big_quiet_step ((go_at_call 20; with_reducible exact ext_of (HMk.out _))))
        refine wpQuiet_nil ?_
        intro w9 hw9
        obtain ⟨p9, rfl⟩ := hw9
        have B9 := Lib.hid (HB5.out.trans ((ext_below Y p9).mono HB5.out.size))
        clear z1 z2 d1 d2 x0 x1 x2 x3 x4 x5 x6 x7
        go_wp2_with fail
        exact ⟨⟨j + 1, by omega, by go_num, B9.out⟩, by simp [intOf]; omega⟩
    · obtain rfl : j = n + 64 := by omega
      go_wp2_with fail
      exact ⟨⟨k + 1, by omega, by go_num, HB5.out⟩, by simp [intOf]; omega⟩
  obtain rfl : k = q := by omega
  have HR4 := Lib.hid (HR.out.keep HB4.out)
  have HO4 := Lib.hid (HO.out.trans (.of_below HB4.out))
  have HBk := Lib.hid (HB.out.keep HB4.out)
  clear HGC HRM HG3 HR HO HB HB4 hlt hk
  go_wp2_with fail
  -- each grows by many
  go_loopw [11] (fun i wr => ∃ q : Nat, q ≤ k ∧ i = .int .i64 q ∧ (∃ gs : List Value, gs.length = k ∧ Blk wr H 22 gs ∧ ∀ p, p < q → GC wr k A H p gs[p]? (N p + 64) (marks p (N p) ++ marks ((p : Int) + (k : Int)) 64)) ∧ Rows wr k A N C (fun q => marks q (N q)) ∧ Only (UU k A) w wr) (fun i _ => k - (intOf i).toNat)
  case atStart => exact ⟨0, Nat.zero_le _, rfl, ⟨gs, hgl, HBk.out, fun p hp => by omega⟩, HR4.out, HO4.out⟩
  case round =>
  clear HBk HR4 HO4 hgl gs
  obtain ⟨q, hq, rfl, ⟨gs, hgl, hgb, hgc⟩, hrows, ho⟩ := hrel
  obtain ⟨v5, rfl⟩ : ∃ W : World, W = wr := ⟨_, rfl⟩
  have HO := Lib.hid ho
  have HR := Lib.hid hrows
  have HB := Lib.hid hgb
  have HC := Lib.hid hgc
  clear ho hrows hgb hgc
  by_cases hlt : q < k
  · obtain ⟨a, ha⟩ : ∃ a, A q = a := ⟨_, rfl⟩
    obtain ⟨n, hn⟩ : ∃ n, N q = n := ⟨_, rfl⟩
    obtain ⟨c, hc⟩ : ∃ c, C q = c := ⟨_, rfl⟩
    have hrk : R v5 (A q) (N q) (C q) (marks q (N q)) := HR.out q hlt
    rw [ha, hn, hc] at hrk
    have hgk := Hg.out q hlt
    rw [ha, hn, hc] at hgk
    have hGk : ¬ BA a G := by rw [← ha]; exact HG.out q hlt
    have HGk := Lib.hid hGk
    have Hrk := Lib.hid hrk
    have G0 := Lib.hid (only_cell HO.out HGU.out hgk)
    have hn6 : n ≤ 1000000 := by rw [← hn]; exact HN.out q hlt
    have i1 : (0 : Int) ≤ (q : Int) := by omega
    have i2 : (q : Int) < (k : Int) := by omega
    have hHa : ∀ j, BA a j → j < H := fun j hj => HUH.out j ⟨q, hlt, by rw [ha]; exact hj⟩
    have HHa := Lib.hid hHa
    have HHl : Hid (H < v5.heap.size) := HB.out.lt
    have Ha := Lib.hid ha
    have Hn := Lib.hid hn
    have Hc := Lib.hid hc
    clear hrk hgk hGk ha hn hc hHa
    go_wp2_with (at_make; refine wpList_make_full v5 rfl _ _ 22 rfl v5.heap.size 37 i0 (.agg #[.bool false, .int .i64 0, .int .u32 0, .int .u32 0, .bool false, .bool false, .int .i64 0, .bool false]) 8 Tryz.underlying22 Hi.out Hz0.out Hz1.out .i64 .i64 64 64 64 rfl rfl rfl rfl (by rw [Hz2.out]; omega) (by unfold maxLen; omega) (Nat.le_refl _) ?_; intro v6 hown hgrow)
    have hom : Only (fun _ => False) v5 v6 := (Only.refl _ _).grown hgrow (fun k e => by cases e)
    obtain ⟨zs, hzs⟩ : ∃ zs, (madeCells (Value.cells (.agg #[.bool false, .int .i64 0, .int .u32 0, .int .u32 0, .bool false, .bool false, .int .i64 0, .bool false])) (64 * 8)).toList = zs := ⟨_, rfl⟩
    rw [hzs] at hown
    obtain ⟨M, hM⟩ : ∃ M, v5.heap.size = M := ⟨_, rfl⟩
    rw [hM] at hown ⊢
    have HM := Lib.hid hM
    have Hom := Lib.hid hom
    have Rm := Lib.hid (own_mono hown (Nat.zero_le _))
    clear hom hzs hM hown hgrow
    go_loopw [13] (fun i wr => ∃ j : Nat, j ≤ 64 ∧ i = .int .i64 j ∧ R wr (some ⟨M, 0, none⟩) 64 64 (marks ((q : Int) + (k : Int)) j ++ zs.drop (j * 8)) ∧ Only (BA (some ⟨M, 0, none⟩)) v6 wr) (fun i _ => 64 - (intOf i).toNat)
    case atStart => exact ⟨0, by omega, rfl, by simpa [marks] using Rm.out, Only.refl _ _⟩
    case round =>
    obtain ⟨j, hj, rfl, hrow, ho⟩ := hrel
    by_cases hlj : j < 64
    · have HO2 := Lib.hid ho
      have Hrow := Lib.hid hrow
      have Hxl := Lib.hid (show zs.length = 64 * 8 from Rm.out.1)
      have j1 : (0 : Int) ≤ (j : Int) := by omega
      have j2 : (j : Int) < (64 : Int) := by omega
      clear hrow ho
      go_wp2_with fail
      refine (markE_any ((q : Int) + (k : Int)) (j : Int) _ (by omega) (by omega) (by omega) (by omega)).mono ?_
      rintro e w5 ⟨rfl, hb5⟩
      have Hb5 := Lib.hid hb5
      clear hb5
      go_wp2_with (with_reducible refine at_store _ _ _ rfl ?_)
      apply Lib.hid
      obtain ⟨cur, u1, u2, u3, u4, u5, u6⟩ := own_blk (own_keep Hrow.out Hb5.out)
      have hfit : j * 8 + 8 ≤ cur.length := by omega
      refine store_at rfl _ _ _ rfl M (j * 8) [.bool false, .int .i64 (mk ((q : Int) + (k : Int)) j), .int .u32 0, .int .u32 0, .bool false, .bool false, .int .i64 0, .bool false] rfl rfl 37 cur u1 (by kernel_rfl) (by simpa using hfit) (by simp [Value.oneCell']) ?_
      intro Y hY hoY
      have hrow2 := own_put (own_keep Hrow.out Hb5.out) u1 hlj rfl hY
      have hon : Only (BA (some ⟨M, 0, none⟩)) wr Y := (Only.of_below Hb5.out).trans (hoY.mono (fun i _ e => by rw [e]; exact ba_self _ _))
      rw [show [.bool false, .int .i64 (mk ((q : Int) + (k : Int)) j), .int .u32 0, .int .u32 0, .bool false, .bool false, .int .i64 0, .bool false] = mE ((q : Int) + (k : Int)) (j : Nat) from rfl, set_mark ((q : Int) + (k : Int)) j zs (by rw [Hxl.out]; omega)] at hrow2
      have R2 := Lib.hid hrow2
      have O2 := Lib.hid (HO2.out.trans hon)
      clear hY hoY hrow2 hon u1 u2 u3 Hb5
      go_wp2_with fail
      exact ⟨⟨j + 1, by omega, by go_num, R2.out, O2.out⟩, by simp [intOf]; omega⟩
    · obtain rfl : j = 64 := by omega
      have Rmm : R wr (some ⟨M, 0, none⟩) 64 64 (marks ((q : Int) + (k : Int)) 64) := by
        have e : zs.drop (64 * 8) = [] := List.drop_eq_nil_iff.2 (by have := Rm.out.1; omega)
        rw [e, List.append_nil] at hrow
        exact hrow
      have hvM : v5.heap.size ≤ M := Nat.le_of_eq HM.out
      have hoo : Only (fun _ => False) v5 wr := (Hom.out.mono (fun _ _ h => h.elim)).far ho (fun i hi h => by have := ba_some h; omega)
      have HO6 := Lib.hid (HO.out.trans (hoo.mono (fun _ _ h => h.elim)))
      have HR6 := Lib.hid (HR.out.only hoo (fun _ _ h => h))
      have HB6 := Lib.hid (HB.out.only hoo (fun h => h))
      have HC6 := Lib.hid (show ∀ p, p < q → GC wr k A H p gs[p]? (N p + 64) (marks p (N p) ++ marks ((p : Int) + (k : Int)) 64) from fun p hp => (HC.out p hp).only hoo (fun _ h => h.elim))
      have Hrk6 := own_only Hrk.out hoo (fun _ _ h => h)
      have hG := only_cell hoo (p := ⟨G, q, none⟩) (fun h => h) G0.out
      have Hcm := Lib.hid (own_cells Rmm _ rfl)
      have hbs := HB6.out.lt
      obtain ⟨v7, rfl⟩ : ∃ W : World, W = wr := ⟨_, rfl⟩
      clear hrow ho hoo Rmm HC HB HR HO Hom Rm
      go_wp2_with (at_builtin; refine append_many v7 rfl _ _ rfl a n c (marks q n) rfl Hrk6 M 64 (marks ((q : Int) + (k : Int)) 64) rfl (marks_len _ _) Hcm.out (marks_one _ _) (by omega) (by omega) ?_; intro g' c' w8 hown1 hrow1 ho1 hgor; have hbox := HB6.out.only ho1 (fun h => by have := HHa.out H h; omega); have e0 := hbox.at q (List.getElem?_eq_getElem (by rw [hgl]; exact hlt)); have f0 := hbox.frozen q)
      have HS := Lib.hid (hbox.set q (.slice (some ⟨g', 0, none⟩) (n + 64) c'))
      have HSo := Lib.hid ((Only.refl (fun j => j = H) w8).setCell (p := ⟨H, q, none⟩) rfl (.slice (some ⟨g', 0, none⟩) (n + 64) c'))
      refine ⟨⟨q + 1, by omega, by go_num, ⟨_, by rw [List.length_set]; exact hgl, HS.out, fun p hp => ?_⟩, ?_, ?_⟩, by simp [intOf]; omega⟩
      · by_cases e : p = q
        · subst e
          rw [List.getElem?_set_self (by omega), Hn.out]
          refine GC.only ⟨g', c', rfl, hown1, fun e2 => ?_, fun p2 hp2 hne hb2 => ?_⟩ HSo.out (fun j hj => .inl hj)
          · rcases hgor with h | h
            · have := HHa.out g' h; omega
            · have h3 : H < v7.heap.size := hbs; omega
          · rcases hgor with h | h
            · exact Hd.out p2 p hp2 hlt hne g' hb2 (by rw [Ha.out]; exact h)
            · have := HUH.out g' ⟨p2, hp2, hb2⟩; have h3 : H < v7.heap.size := hbs; omega
        · rw [List.getElem?_set_ne (by omega)]
          exact ((HC6.out p (by omega)).only ho1 (fun j hj => .inr ⟨q, hlt, fun e2 => e e2.symm, by rw [Ha.out]; exact hj⟩)).only HSo.out (fun j hj => .inl hj)
      · refine Rows.only (HR6.out.step Hd.out hlt (by rw [Ha.out]; exact ho1) ?_ (fun _ _ _ => rfl)) HSo.out (fun j hj e => ?_)
        · rw [Ha.out, Hn.out, Hc.out]; exact hrow1
        · have := HUH.out j hj; omega
      · exact (HO6.out.trans (uu_of hlt (by rw [Ha.out]; exact ho1))).far HSo.out (fun j hj e => by have := HwH.out; omega)
  obtain rfl : q = k := by omega
  have HGC := Lib.hid (show ∀ p, p < q → ∃ ga gc, gs[p]? = some (.slice ga (N p + 64) gc) ∧ RowM v5 ga (N p) p from fun p hp => (HC.out p hp).row rfl (by omega))
  have HRM := Lib.hid (show ∀ p, p < q → RowM v5 (A p) (N p) p from fun p hp => rowM_of (HR.out p hp) (r := []) (by rw [List.append_nil]) (Nat.le_refl _))
  have HG3 := Lib.hid (show ∀ p, p < q → v5.cell? ⟨G, p, none⟩ = some (.slice (A p) (N p) (C p)) from fun p hp => only_cell HO.out HGU.out (Hg.out p hp))
  clear HC hlt hq
  -- all are looked at again
  go_wp2_with fail
  go_loopw [14] (fun i wr => ∃ k : Nat, k ≤ q ∧ i = .int .i64 k ∧ Below v5.heap.size v5 wr) (fun i _ => q - (intOf i).toNat)
  case atStart => exact ⟨0, Nat.zero_le _, rfl, Below.refl _ _⟩
  case round =>
  obtain ⟨k, hk, rfl, hb⟩ := hrel
  obtain ⟨v6, rfl⟩ : ∃ W : World, W = wr := ⟨_, rfl⟩
  have HB6 := Lib.hid hb
  clear hb
  by_cases hlt : k < q
  · obtain ⟨a, ha⟩ : ∃ a, A k = a := ⟨_, rfl⟩
    obtain ⟨n, hn⟩ : ∃ n, N k = n := ⟨_, rfl⟩
    obtain ⟨c, hc⟩ : ∃ c, C k = c := ⟨_, rfl⟩
    obtain ⟨ga, gc, hgk, hgm⟩ := HGC.out k hlt
    have hgk2 := HG3.out k hlt
    have hrm := HRM.out k hlt
    rw [ha, hn, hc] at hgk2
    rw [ha, hn] at hrm
    rw [hn] at hgk hgm
    have hn6 : n ≤ 1000000 := by rw [← hn]; exact HN.out k hlt
    have HX1 := Lib.hid (HB.out.at k hgk)
    have HX2 := Lib.hid hgk2
    have HM1 := Lib.hid hgm
    have HM2 := Lib.hid hrm
    have i1 : (0 : Int) ≤ (k : Int) := by omega
    have i2 : (k : Int) < (q : Int) := by omega
    clear ha hn hc hgk hgk2 hgm hrm
    have x2 := cell_keep HB6.out HX2.out
    go_wp2_with fail
    clear x2
    go_loopw [15] (fun i wr => ∃ j : Nat, j ≤ n ∧ i = .int .i64 j ∧ Below v5.heap.size v5 wr) (fun i _ => n - (intOf i).toNat)
    case atStart => exact ⟨0, Nat.zero_le _, rfl, HB6.out⟩
    case round =>
    obtain ⟨j, hj, rfl, hb⟩ := hrel
    have HB7 := Lib.hid hb
    have x1 := cell_keep hb HX1.out
    have x2 := cell_keep hb HX2.out
    have X1 := Lib.hid x1
    have X2 := Lib.hid x2
    clear hb
    by_cases hlj : j < n
    · have j1 : (0 : Int) ≤ (j : Int) := by omega
      have j2 : (j : Int) < (n : Int) := by omega
      have j4 : (j : Int) < (n : Int) + 64 := by omega
      obtain ⟨b, off, rfl, ce⟩ := HM1.out j hlj
      have Mk := fun w => markE_any (k : Int) (j : Int) w (by omega) (by omega) (by omega) (by omega)
      obtain ⟨mv, hmv⟩ : ∃ v, mk (k : Int) (j : Int) = v := ⟨_, rfl⟩
      rw [hmv] at Mk
      have Hmv := Lib.hid hmv
      have HMk := Lib.hid Mk
      clear hmv Mk
      have ce := ce.keep HB7.out
      obtain ⟨b2, off2, rfl, cf⟩ := HM2.out j hlj
      have cf := cf.keep HB7.out
      go_wp2_with fail
      refine wp_region_ext (by kernel_rfl) (by kernel_rfl) ?_
      intro Y hY
      obtain rfl := hY.out
      clear hY
      have z1 := ext_cell X1.out
      have z2 := ext_cell X2.out
      clear x1 x2
      have x0 := ext_cell ce.c0
      have x1 : ∀ p, (ext Y p).cell? ⟨b, off + j * 8 + 1, none⟩ = some (.int .i64 mv) := by rw [← Hmv.out]; exact ext_cell ce.c1
      have x2 := ext_cell ce.c2
      have x3 := ext_cell ce.c3
      have x4 := ext_cell ce.c4
      have x5 := ext_cell ce.c5
      have x6 := ext_cell ce.c6
      have x7 := ext_cell ce.c7
      have y0 := ext_cell cf.c0
      have y1 : ∀ p, (ext Y p).cell? ⟨b2, off2 + j * 8 + 1, none⟩ = some (.int .i64 mv) := by rw [← Hmv.out]; exact ext_cell cf.c1
      have y2 := ext_cell cf.c2
      have y3 := ext_cell cf.c3
      have y4 := ext_cell cf.c4
      have y5 := ext_cell cf.c5
      have y6 := ext_cell cf.c6
      have y7 := ext_cell cf.c7
      clear ce cf
      repeat (go_big_quiet_step ((go_at_call 20; with_reducible exact ext_of (HMk.out _))))
      refine wpQuiet_nil ?_
      intro w9 hw9
      obtain ⟨p9, rfl⟩ := hw9
      have B9 := Lib.hid (HB7.out.trans ((ext_below Y p9).mono HB7.out.size))
      clear z1 z2 x0 x1 x2 x3 x4 x5 x6 x7 y0 y1 y2 y3 y4 y5 y6 y7
      go_wp2_with fail
      exact ⟨⟨j + 1, by omega, by go_num, B9.out⟩, by simp [intOf]; omega⟩
    · obtain rfl : j = n := by omega
      go_wp2_with fail
      exact ⟨⟨k + 1, by omega, by go_num, HB7.out⟩, by simp [intOf]; omega⟩
  obtain rfl : k = q := by omega
  go_wp2_with fail
  go_ret
  exact ⟨rfl, HO.out.trans (.of_below HB6.out)⟩
end Go.Proofs.YtmkponhhinjpkaaGreat.KitRegions
