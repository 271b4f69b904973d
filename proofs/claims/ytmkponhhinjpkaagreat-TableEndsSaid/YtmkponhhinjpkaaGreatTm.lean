/- Package table's Map. -/
import Derived.Test.YtmkponhhinjpkaaGreatTh
import Derived.Test.YtmkponhhinjpkaaGreatTj
namespace Go.Proofs.YtmkponhhinjpkaaGreat.Table
open Go.RowKit Fifo Go.Maps Go.ChangeShapes Go.WideShapes Go.ChangeAt
set_option linter.unusedVariables false

/-- The cells of a region; of regions, one behind the other. -/
def encG (g : Rg) : List Value := [.bool g.o, .int .i64 g.W, .int .u32 g.F, .int .u32 g.T, .bool g.rd, .bool g.wr, .int .i64 g.K, .bool g.lk]
def flG (l : List Rg) : List Value := l.flatMap encG
theorem flG_len (l : List Rg) : (flG l).length = l.length * 8 := by
  induction l with
  | nil => rfl
  | cons x l ih => simp [flG, encG] at ih ⊢; omega
theorem flG_snoc (l : List Rg) (x : Rg) : flG (l ++ [x]) = flG l ++ encG x := by simp [flG]
theorem flG_get : ∀ (d : List Rg) (j c : Nat), j < d.length → c < 8 → (flG d)[j * 8 + c]? = (encG d[j]!)[c]?
  | [], j, c, h, _ => by simp at h
  | x :: d, 0, c, h, hc => by
    show (encG x ++ flG d)[0 * 8 + c]? = _
    rw [List.getElem?_append_left (by simp [encG]; omega), Nat.zero_mul, Nat.zero_add]
    rfl
  | x :: d, j + 1, c, h, hc => by
    show (encG x ++ flG d)[(j + 1) * 8 + c]? = _
    rw [List.getElem?_append_right (by simp [encG]; omega), show (encG x).length = 8 from rfl, show (j + 1) * 8 + c - 8 = j * 8 + c by omega, flG_get d j c (by simp at h; omega) hc]
    simp
theorem rowG_of_own {w : World} {B n : Nat} {a : Option Addr} {cap : Nat} {d : List Rg} (hd : d.length = n) (h : w.ownsRow B 37 8 (.slice a n cap) n (flG d)) : RowG w a n d := by
  refine ⟨hd, fun j hj => ?_⟩
  rcases h.2 with ⟨_, h0⟩ | ⟨g, c, cur, hv, _⟩
  · omega
  · simp only [Value.slice.injEq] at hv
    obtain ⟨rfl, _, rfl⟩ := hv
    have q : ∀ c v, c < 8 → (encG d[j]!)[c]? = some v → w.cell? ⟨g, 0 + j * 8 + c, none⟩ = some v := fun c v hc hv => by
      rw [Nat.zero_add, h.cellAt (j * 8 + c) (by omega), flG_get d j c (by omega) hc, hv]
    exact ⟨g, 0, rfl, ⟨q 0 _ (by omega) rfl, q 1 _ (by omega) rfl, q 2 _ (by omega) rfl, q 3 _ (by omega) rfl, q 4 _ (by omega) rfl, q 5 _ (by omega) rfl, q 6 _ (by omega) rfl, q 7 _ (by omega) rfl⟩⟩
theorem info_g : (Tryz.prog.info? 37).map (fun i => (i.zero, i.size, i.bytes)) = some (some (.agg #[.bool false, .int .i64 0, .int .u32 0, .int .u32 0, .bool false, .bool false, .int .i64 0, .bool false]), 8, 48) := by kernel_rfl
theorem map_of_order {d : List Rg} {world : Int} {d' : List (Rg × Nat)} (h : InOrder (tabL d) world d') : d'.map Prod.fst = mapL d world := by
  unfold tabL at h
  unfold mapL
  cases ht : tabB d with
  | true =>
    rw [ht] at h
    simp only [if_true] at h ⊢
    rw [sorted_eq (tabB_iff.1 ht) h.1 h.2, rnums_fst]
  | false =>
    rw [ht] at h
    simp only [Bool.false_eq_true, if_false] at h ⊢
    have := h.1.length_eq
    have h0 : (nums [] world).length = 0 := rfl
    rw [h0, List.length_eq_zero_iff] at this
    rw [this]; rfl

theorem field0 (a : Option Addr) (n cap : Nat) (w : World) : (Instr.field 56 (.agg #[.slice a n cap]) 0).run Tryz.prog w = .ok (.slice a n cap) w := by
  unfold Instr.field
  simp [go_sem, Tryz.underlying56, underlying, part, asAgg, Tryz.isAgg54]
theorem At9.only {w w' : World} {b p : Nat} {x : Rg × Nat} (h : At9 w b p x) {S : Nat → Prop} (ho : Only S w w') (hn : ¬ S b) : At9 w' b p x := by
  have k : ∀ {p : Nat} {v : Value}, w.cell? ⟨b, p, none⟩ = some v → w'.cell? ⟨b, p, none⟩ = some v := fun {p v} hc =>
    (World.cell?_of_block (w := w) (ho.block b (World.block_lt_of_cell? w _ hc) hn)).trans hc
  obtain ⟨c, c8⟩ := h
  exact ⟨⟨k c.c0, k c.c1, k c.c2, k c.c3, k c.c4, k c.c5, k c.c6, k c.c7⟩, k c8⟩
theorem RowN.only {w w' : World} {g n : Nat} {d : List (Rg × Nat)} (h : RowN w (some ⟨g, 0, none⟩) n d) {S : Nat → Prop} (ho : Only S w w') (hn : ¬ S g) : RowN w' (some ⟨g, 0, none⟩) n d :=
  ⟨h.1, fun j hj => by
    obtain ⟨b, ha, h1⟩ := h.2 j hj
    obtain rfl : g = b := by simpa using ha
    exact ⟨g, rfl, h1.only ho hn⟩⟩
set_option maxRecDepth 100000 in
set_option maxHeartbeats 4000000 in
theorem Map_any (a : Option Addr) (n cap : Nat) (d : List Rg) (world : Int) (w : World) (hn : n ≤ 1000000) (hc : n ≤ cap) (h : RowG w a n d) :
    Calls Tryz.prog 8 #[.slice a n cap, .int .i64 world] w fun e w' => ∃ v, e = .returned v ∧ w'.ownsRow w.heap.size 37 8 v (mapL d world).length (flG (mapL d world)) ∧ Below w.heap.size w w' := by
  obtain ⟨i0, hi, hz0, hz1, hz2⟩ := info_parts info_g
  have Hi := Lib.hid hi
  have Hz0 := Lib.hid hz0
  have Hz1 := Lib.hid hz1
  have Hz2 := Lib.hid hz2
  clear hi hz0 hz1 hz2
  obtain ⟨a', n', cap', hn', hc', hr, hT⟩ := tableOf_any a n cap d w hn hc h
  have HT := Lib.hid hT
  have Hr := Lib.hid hr
  have hN : (nums (tabL d) world).length ≤ 1000000 := Nat.le_trans (nums_length _ world) (by rw [hr.1]; exact hn')
  obtain ⟨N, hNe⟩ : ∃ N, (nums (tabL d) world).length = N := ⟨_, rfl⟩
  rw [hNe] at hN
  have HN := Lib.hid hN
  have HNe := Lib.hid hNe
  clear hT hr h hN hNe
  go_enter Tryz.func8, Tryz.ntmps8
  go_wp2_with fail
  refine (HT.out _ (Below.refl _ _)).mono ?_
  rintro e w1 ⟨rfl, hb1⟩
  have Hb1 := Lib.hid hb1
  have hfield := field0 a' n' cap'
  clear hb1 HT
  go_wp2_with fail
  refine (of_any a' n' cap' world _).mono ?_
  rintro e w2 ⟨rfl, hl, hw, hb2⟩
  have S := Sorted_any _ _ a' n' cap' (tabL d) world w2 hn' hl hw ((Hr.out.keep Hb1.out).keep hb2)
  rw [HNe.out] at S
  have HS := Lib.hid S
  have Hb2 := Lib.hid (Hb1.out.trans (hb2.mono Hb1.out.size))
  clear hl hw hb2 S
  go_wp2_with fail
  refine HS.out.mono ?_
  rintro e w3 ⟨av, cv, d', rfl, hio, hrn, hb3⟩
  have Hm := Lib.hid (map_of_order hio)
  have Hdl := Lib.hid hrn.1
  have Hrn := Lib.hid hrn
  have Hb3 := Lib.hid (Hb2.out.trans (hb3.mono Hb2.out.size))
  clear hio hrn hb3 HS
  go_wp2_with fail
  go_loopw [5, 15] (fun v p wr => ∃ k : Nat, k ≤ N ∧ p = .int .i64 k ∧ wr.ownsRow w3.heap.size 37 8 v k (flG ((mapL d world).take k)) ∧ RowN wr av N d' ∧ Below w3.heap.size w3 wr) (fun _ p _ => N - (intOf p).toNat)
  case atStart => exact ⟨0, Nat.zero_le _, rfl, ⟨rfl, .inl ⟨rfl, rfl⟩⟩, Hrn.out, Below.refl _ _⟩
  case round =>
    obtain ⟨k, hk, rfl, ho, hrr, hb⟩ := hrel
    have Ho := Lib.hid ho
    have Hrr := Lib.hid hrr
    have Hb := Lib.hid hb
    obtain ⟨ag, cg, hv, _⟩ := ok_shape ho
    subst hv
    have hsz := hb.size
    clear ho hrr hb
    by_cases hlt : k < N
    · have hgl : ∀ b, av = some ⟨b, 0, none⟩ → b < w3.heap.size := fun b hb => by
        obtain ⟨b', hb', h9⟩ := Hrn.out.2 k hlt
        rw [hb'] at hb
        simp only [Option.some.injEq, Addr.mk.injEq, and_true] at hb
        exact hb ▸ World.block_lt_of_cell? w3 _ h9.c8
      have Hgl := Lib.hid hgl
      clear hgl
      obtain ⟨g, rfl, ⟨e0, e1, e2, e3, e4, e5, e6, e7⟩, e8⟩ := Hrr.out.2 k hlt
      obtain ⟨x, hx⟩ : ∃ x, d'[k]! = x := ⟨_, rfl⟩
      rw [hx] at e0 e1 e2 e3 e4 e5 e6 e7 e8
      have Hx := Lib.hid (show (mapL d world).take (k + 1) = (mapL d world).take k ++ [x.1] by
        rw [← Hm.out, ← List.map_take, ← List.map_take, List.take_succ_eq_append_getElem (by rw [Hdl.out]; exact hlt), ← getElem!_pos d' k (by rw [Hdl.out]; exact hlt), hx]
        simp)
      clear hx
      obtain ⟨⟨o, V, F, T1, rd, wt, K, lk⟩, i⟩ := x
      have i1 : (0 : Int) ≤ (k : Int) := by omega
      have i2 : (k : Int) < (N : Int) := by omega
      have hN9 := HN.out
      go_wp2_with (at_builtin; refine wpList_append_own _ rfl _ _ 22 rfl w3.heap.size 37 i0 (.agg #[.bool false, .int .i64 0, .int .u32 0, .int .u32 0, .bool false, .bool false, .int .i64 0, .bool false]) 8 48 Tryz.underlying22 Hi.out Hz0.out Hz1.out Hz2.out rfl (by decide) _ _ _ rfl (ok_keep (ok_keep Ho.out ((Below.refl _ _).alloc (Nat.le_refl _) _)) ((Below.refl _ _).alloc (Nat.le_refl _) _)) ⟨wr.heap.size + 1, 0, none⟩ 1 1 [.bool o, .int .i64 V, .int .u32 F, .int .u32 T1, .bool rd, .bool wt, .int .i64 K, .bool lk] rfl rfl (by have := cells_new (wr.alloc (.cells #[.bool o, .int .i64 V, .int .u32 F, .int .u32 T1, .bool rd, .bool wt, .int .i64 K, .bool lk, .int .i64 (i : Nat)] 51)) [.bool o, .int .i64 V, .int .u32 F, .int .u32 T1, .bool rd, .bool wt, .int .i64 K, .bool lk] 37; rw [World.size_alloc] at this; exact this) (by simp [Value.oneCell']) (by unfold maxLen; omega) (by omega) (by simp; omega) ?_; intro v' w5 r1 r2 _; have R1 := Lib.hid r1; have R2 := Lib.hid r2; obtain ⟨a5, c5, hv5, _⟩ := ok_shape r1; subst hv5; clear r1 r2 e0 e1 e2 e3 e4 e5 e6 e7 e8)
      have ho : Only (PB (.slice ag k cg)) wr w5 := ((Only.of_below ((Below.refl _ _).alloc (Nat.le_refl _) _)).trans (Only.of_below ((Below.refl _ _).alloc (Nat.le_refl _) _))).trans (grown_only R2.out)
      refine ⟨⟨k + 1, by omega, by go_num, by rw [Hx.out, flG_snoc]; exact R1.out, Hrr.out.only ho (fun hp => ?_), Hb.out.trans (ho.below hsz (fun j hj => (Ho.out.lt j hj).1))⟩, by simp [intOf]; omega⟩
      have h1 := (Ho.out.lt g hp).1
      have h2 := Hgl.out g rfl
      omega
    · obtain rfl : k = N := by omega
      go_wp2_with fail
      go_ret
      have hml : (mapL d world).length = k := by rw [← Hm.out, List.length_map]; exact Hdl.out
      refine ⟨_, rfl, ?_, Hb3.out.trans (Hb.out.mono Hb3.out.size)⟩
      have := ok_mono Ho.out Hb3.out.size
      rw [List.take_of_length_le (by omega)] at this
      rw [hml]
      exact this
end Go.Proofs.YtmkponhhinjpkaaGreat.Table
