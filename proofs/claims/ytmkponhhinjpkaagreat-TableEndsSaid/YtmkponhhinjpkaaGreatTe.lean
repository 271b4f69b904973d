/- A world's regions gone through: of, and its function as a function that is ranged over. -/
import Derived.Test.YtmkponhhinjpkaaGreatTd
import Derived.Test.YtmkponhhinjpkaaGreatFr
import Derived.RangeFuncLeaves
import Derived.OwnWalkIn
import Derived.TacticsInMore
import Derived.LoopNIn
import Derived.LoopIn
namespace Go.Proofs.YtmkponhhinjpkaaGreat.Table
open Go.RowKit Fifo
open Go.Proofs.YtmkponhhinjpkaaGreat.Region (Eight)
set_option linter.unusedVariables false
attribute [local go_sem] Oper.semAt_some

/-- The block of a slice. -/
def SB (a : Option Addr) (n : Nat) : Nat → Prop := fun j => 0 < n ∧ ∃ off t, a = some ⟨j, off, t⟩
theorem RowG.only {w w' : World} {a : Option Addr} {n : Nat} {d : List Rg} (h : RowG w a n d) {S : Nat → Prop} (ho : Only S w w') (hn : ∀ j, SB a n j → ¬ S j) : RowG w' a n d := by
  refine ⟨h.1, fun j hj => ?_⟩
  obtain ⟨b, off, ha, c⟩ := h.2 j hj
  have hb := hn b ⟨by omega, off, none, ha⟩
  have k : ∀ {p : Nat} {v : Value}, w.cell? ⟨b, p, none⟩ = some v → w'.cell? ⟨b, p, none⟩ = some v := fun {p v} hc =>
    (World.cell?_of_block (w := w) (ho.block b (World.block_lt_of_cell? w _ hc) hb)).trans hc
  exact ⟨b, off, ha, k c.c0, k c.c1, k c.c2, k c.c3, k c.c4, k c.c5, k c.c6, k c.c7⟩
theorem SB.lt {w : World} {a : Option Addr} {n : Nat} {d : List Rg} (h : RowG w a n d) {j : Nat} (hj : SB a n j) : j < w.heap.size := by
  obtain ⟨h0, off, t, e⟩ := hj
  obtain ⟨b, off', e', c⟩ := h.2 0 h0
  rw [e'] at e
  simp only [Option.some.injEq, Addr.mk.injEq] at e
  exact e.1 ▸ World.block_lt_of_cell? w _ c.c0
theorem codeIn_letter {F : Fence} {n : Nat} {P : Program} {c : Code} {Q : Exit → Act → World → Prop} {a : Act} {w : World} (h : ∀ W, Hid (W = w) → c.wpIn F n P Q a W) : c.wpIn F n P Q a w := h w (Lib.hid rfl)

theorem of_any (a : Option Addr) (n cap : Nat) (world : Int) (w : World) :
    Calls Tryz.prog 23 #[.slice a n cap, .int .i64 world] w fun e w' => e = .returned (.func (.func 45) #[] #[.pointer (some ⟨w.heap.size, 0, none⟩), .pointer (some ⟨w.heap.size + 1, 0, none⟩)]) ∧
      Blk w' w.heap.size 54 [.slice a n cap] ∧ Blk w' (w.heap.size + 1) 3 [.int .i64 world] ∧ Below w.heap.size w w' := by
  have hmf : ∀ (fn : Fn) (first cap : Array Value) (w : World), (Instr.makeFunc fn first cap).run Tryz.prog w = .ok (.func fn first cap) w := fun _ _ _ _ => rfl
  have B0 := Lib.hid ((Blk.new w 54 [.slice a n cap]).alloc (.cells #[.int .i64 world] 3))
  have B1 := Lib.hid (Blk.new (w.alloc (.cells #[.slice a n cap] 54)) 3 [.int .i64 world])
  rw [World.size_alloc] at B1
  have HL := Lib.hid (((Below.refl w.heap.size w).alloc (Nat.le_refl _) (.cells #[.slice a n cap] 54)).alloc (by simp) (.cells #[.int .i64 world] 3))
  go_enter Tryz.func23, Tryz.ntmps23
  go_wp2_with fail
  go_ret
  exact ⟨rfl, B0.out, B1.out, HL.out⟩

theorem nums_step {d : List Rg} {w : Int} {k : Nat} (hk : k < d.length) : nums (d.take (k + 1)) w = nums (d.take k) w ++ (if d[k]!.o && decide (d[k]!.W = w) then [(d[k]!, k)] else []) := by
  have ht : d.take (k + 1) = d.take k ++ [d[k]!] := by rw [List.take_succ_eq_append_getElem hk, getElem!_pos d k hk]
  unfold nums
  rw [ht, List.zipIdx_append, List.filter_append, List.length_take, Nat.min_eq_left (Nat.le_of_lt hk)]
  congr 1
  simp only [List.zipIdx_cons, List.zipIdx_nil, Nat.zero_add, List.filter_cons, List.filter_nil]
theorem nums_split (d : List Rg) (w : Int) (k : Nat) : ∃ r, nums d w = nums (d.take k) w ++ r := by
  refine ⟨((d.drop k).zipIdx (0 + (d.take k).length)).filter fun x => x.1.o && decide (x.1.W = w), ?_⟩
  unfold nums
  rw [← List.filter_append, ← List.zipIdx_append, List.take_append_drop]
theorem nums_at {d : List Rg} {w : Int} {k : Nat} (hk : k < d.length) (ho : d[k]!.o = true) (hw : d[k]!.W = w) : (nums (d.take k) w).length < (nums d w).length ∧ (nums d w)[(nums (d.take k) w).length]? = some (d[k]!, k) ∧ (nums (d.take (k + 1)) w).length = (nums (d.take k) w).length + 1 := by
  obtain ⟨r, hr⟩ := nums_split d w (k + 1)
  have h := nums_step (w := w) hk
  rw [ho, hw] at h
  simp only [decide_true, Bool.and_self, if_true] at h
  rw [hr, h]
  simp
theorem nums_off {d : List Rg} {w : Int} {k : Nat} (hk : k < d.length) (h : ¬ (d[k]!.o = true ∧ d[k]!.W = w)) : nums (d.take (k + 1)) w = nums (d.take k) w := by
  rw [nums_step hk, if_neg (by simpa using h), List.append_nil]
/-- A numbered region as a value. -/
abbrev numV (x : Rg × Nat) : Value := num x.1.o x.1.W x.1.F x.1.T x.1.rd x.1.wr x.1.K x.1.lk (x.2 : Nat)
/-- What yield is handed. -/
def elsN (l : List (Rg × Nat)) (k : Nat) : Array Value := #[numV ((l[k]?).getD (zero, 0))]

set_option maxRecDepth 100000 in
set_option maxHeartbeats 2000000 in
theorem of_seq (m : Nat) (hm : 1 ≤ m) (lb wb : Nat) (a : Option Addr) (n cap : Nat) (d : List Rg) (world : Int) (w : World) (hn : n ≤ 1000000) (hl : Blk w lb 54 [.slice a n cap]) (hw : Blk w wb 3 [.int .i64 world]) (hr : RowG w a n d) :
    SeqC Fence.wide m Tryz.prog 45 (fun lp => #[] ++ #[.func (.yield lp) #[] #[]] ++ #[.pointer (some ⟨lb, 0, none⟩), .pointer (some ⟨wb, 0, none⟩)]) (nums d world).length (elsN (nums d world)) (fun j => j = lb ∨ j = wb ∨ SB a n j) w := by
  intro lp J Jx T0 W hb hlp1 hlp2 hJ hJx hT hK hY h0
  have hl0 := hl.keep hb
  have hw0 := hw.keep hb
  have hr0 := hr.keep hb
  have HT0 := Lib.hid hK
  have HY := Lib.hid hY
  have HJ := Lib.hid hJ
  have HT := Lib.hid hT
  have Hlp := Lib.hid hlp1
  have hc0 := hl0.at 0 rfl
  have Hd := Lib.hid hr.1
  clear hK hY hJ hT hJx hlp1 hr
  show CallsIn Fence.wide m Tryz.prog 45 #[.func (.yield lp) #[] #[], .pointer (some ⟨lb, 0, none⟩), .pointer (some ⟨wb, 0, none⟩)] W _
  refine callsIn_of_wp Tryz.func45 rfl trivial ?_ rfl
  simp only [Tryz.ntmps45, List.size_toArray, List.length_cons, List.length_nil, Nat.reduceAdd, Nat.reduceSub, Array.replicate_succ, Array.replicate_zero, List.push_toArray, List.append_toArray, List.nil_append, List.cons_append]
  gi_wp2
  gi_loopw [8] (fun p wr => ∃ (k : Nat) (T : Nat → Prop), p = .int .i64 (k : Nat) ∧ k ≤ n ∧ J (nums (d.take k) world).length T wr ∧ (∀ j, T j → ¬ (j = lb ∨ j = wb ∨ SB a n j)) ∧ Blk wr lb 54 [.slice a n cap] ∧ Blk wr wb 3 [.int .i64 world] ∧ RowG wr a n d ∧ lp < wr.heap.size)
    (fun p wr => n - (intOf p).toNat)
  case atStart => exact ⟨0, T0, rfl, Nat.zero_le _, by simpa [nums] using h0, HT0.out, hl0, hw0, hr0, hlp2⟩
  case round =>
    obtain ⟨k, T, rfl, hk, hj, ht, hlr, hwr, hrr, hlt⟩ := hrel
    have Hj := Lib.hid hj
    have Ht := Lib.hid ht
    have Hlr := Lib.hid hlr
    have Hwr := Lib.hid hwr
    have Hrr := Lib.hid hrr
    clear hj ht hlr hwr hrr hl0 hw0 hr0 hl hw
    by_cases hkl : k < n
    · obtain ⟨g, off, rfl, ce⟩ := Hrr.out.2 k hkl
      obtain ⟨x, hx⟩ : ∃ x, d[k]! = x := ⟨_, rfl⟩
      rw [hx] at ce
      have Hx := Lib.hid hx
      have Hgl := Lib.hid (World.block_lt_of_cell? wr _ ce.c0)
      have hkd : k < d.length := by rw [Hd.out]; exact hkl
      have Hkd := Lib.hid hkd
      have A := fun h1 h2 => nums_at (w := world) hkd h1 h2
      have O := fun h => nums_off (w := world) hkd h
      rw [hx] at A O
      have HA := Lib.hid A
      have HO := Lib.hid O
      clear hx hkd A O
      obtain ⟨o, W0, F, T1, rd, wt, K, lk⟩ := x
      obtain ⟨e0, e1, e2, e3, e4, e5, e6, e7⟩ := ce
      have d1 : decide ((k : Int) < (n : Int)) = true := decide_eq_true (by omega)
      have i1 : (0 : Int) ≤ (k : Int) := by omega
      have i2 : (k : Int) < (n : Int) := by omega
      have q0 := (Hwr.out.alloc (.cells #[.bool o, .int .i64 W0, .int .u32 F, .int .u32 T1, .bool rd, .bool wt, .int .i64 K, .bool lk] 37)).at 0 rfl
      have Ba := Lib.hid ((Below.refl wr.heap.size wr).alloc (Nat.le_refl _) (.cells #[.bool o, .int .i64 W0, .int .u32 F, .int .u32 T1, .bool rd, .bool wt, .int .i64 K, .bool lk] 37))
      have ja := Lib.hid (HJ.out _ _ _ _ Hj.out Ba.out)
      have off_ : ∀ (hne : ¬ (o = true ∧ W0 = world)), ∃ (k' : Nat) (T : Nat → Prop), (Value.int .i64 ((k : Int) + 1)) = .int .i64 (k' : Nat) ∧ k' ≤ n ∧ J (nums (d.take k') world).length T (wr.alloc (.cells #[.bool o, .int .i64 W0, .int .u32 F, .int .u32 T1, .bool rd, .bool wt, .int .i64 K, .bool lk] 37)) ∧ (∀ j, T j → ¬ (j = lb ∨ j = wb ∨ SB (some ⟨g, off, none⟩) n j)) ∧
          Blk (wr.alloc (.cells #[.bool o, .int .i64 W0, .int .u32 F, .int .u32 T1, .bool rd, .bool wt, .int .i64 K, .bool lk] 37)) lb 54 [.slice (some ⟨g, off, none⟩) n cap] ∧ Blk (wr.alloc (.cells #[.bool o, .int .i64 W0, .int .u32 F, .int .u32 T1, .bool rd, .bool wt, .int .i64 K, .bool lk] 37)) wb 3 [.int .i64 world] ∧
          RowG (wr.alloc (.cells #[.bool o, .int .i64 W0, .int .u32 F, .int .u32 T1, .bool rd, .bool wt, .int .i64 K, .bool lk] 37)) (some ⟨g, off, none⟩) n d ∧ lp < (wr.alloc (.cells #[.bool o, .int .i64 W0, .int .u32 F, .int .u32 T1, .bool rd, .bool wt, .int .i64 K, .bool lk] 37)).heap.size := by
        intro hne
        refine ⟨k + 1, T, by simp, by omega, ?_, Ht.out, Hlr.out.alloc _, Hwr.out.alloc _, Hrr.out.keep Ba.out, by simp; omega⟩
        rw [HO.out hne]
        exact ja.out
      have Hoff := Lib.hid off_
      clear off_
      cases o
      · gi_wp2_with fail
        refine ⟨fun _ _ => trivial, ?_⟩
        gi_wp2_with fail
        go_roundw
        case rel => exact Hoff.out (by simp)
        case measure => simp [intOf]; omega
      · obtain ⟨q, hq⟩ : ∃ q, (W0 == world) = q := ⟨_, rfl⟩
        cases q
        · have hne : ¬ (W0 = world) := by simpa using hq
          have Hne := Lib.hid hne
          clear hne
          gi_wp2_with fail
          refine ⟨fun _ _ => trivial, ?_⟩
          gi_wp2_with fail
          go_roundw
          case rel => exact Hoff.out (fun h => Hne.out h.2)
          case measure => simp [intOf]; omega
        · have heq : W0 = world := by simpa using hq
          obtain ⟨l1, l2, l3⟩ := HA.out rfl heq
          have hxs : elsN (nums d world) (nums (d.take k) world).length = #[num true W0 F T1 rd wt K lk (k : Nat)] := by unfold elsN; rw [l2]; rfl
          obtain ⟨fn, tmps, assign, body, hy, hR⟩ := HY.out _ T _ l1 ja.out
          rw [hxs] at hy
          have HL3 := Lib.hid l3
          have Hl1 := Lib.hid l1
          clear hxs l2 heq l3 l1
          gi_wp2_with fail
          refine hR.mono ?_
          rintro e W3 ⟨T', hT', ho, hcase⟩
          have ho' := (Only.of_below (S := fun j => T j ∨ j = lp) Ba.out).trans ho
          have hK3 : ∀ j, T' j → ¬ (j = lb ∨ j = wb ∨ SB (some ⟨g, off, none⟩) n j) := by
            intro j hj hn
            rcases hT' j hj with h | h
            · exact Ht.out j h hn
            · rw [World.size_alloc] at h
              rcases hn with rfl | rfl | hn
              · have := Hlr.out.lt; omega
              · have := Hwr.out.lt; omega
              · obtain ⟨_, o', t', e'⟩ := hn
                simp only [Option.some.injEq, Addr.mk.injEq] at e'
                have := Hgl.out
                omega
          have hl3 : Blk W3 lb 54 [.slice (some ⟨g, off, none⟩) n cap] := Hlr.out.only ho' (fun h => h.elim (fun h => Ht.out _ h (.inl rfl)) (fun h => Hlp.out (.inl h.symm)))
          have hw3 : Blk W3 wb 3 [.int .i64 world] := Hwr.out.only ho' (fun h => h.elim (fun h => Ht.out _ h (.inr (.inl rfl))) (fun h => Hlp.out (.inr (.inl h.symm))))
          have hr3 : RowG W3 (some ⟨g, off, none⟩) n d := Hrr.out.only ho' (fun j hj h => h.elim (fun h => Ht.out _ h (.inr (.inr hj))) (fun h => Hlp.out (.inr (.inr (h ▸ hj)))))
          have hlp3 : lp < W3.heap.size := Nat.lt_of_lt_of_le hlt ho'.size
          rcases hcase with ⟨rfl, hj3⟩ | ⟨rfl, hj3⟩
          · gi_wp2
            go_roundw
            case rel => exact ⟨k + 1, T', by go_num, by omega, by rw [HL3.out]; exact hj3, hK3, hl3, hw3, hr3, hlp3⟩
            case measure => simp [intOf]; omega
          · gi_wp2
            refine bodyPost_ret (results_none rfl _ _ _) rfl ?_
            exact ⟨⟨_, rfl⟩, T', .inr ⟨_, Hl1.out, hj3⟩⟩
    · obtain rfl : k = n := by omega
      have d1 : decide ((k : Int) < (k : Int)) = false := decide_eq_false (by omega)
      have hj9 := Hj.out
      rw [List.take_of_length_le (by rw [Hd.out]; exact Nat.le_refl _)] at hj9
      have Hj9 := Lib.hid hj9
      clear hj9
      gi_wp2
      go_end0
      exact ⟨⟨_, rfl⟩, T, .inl Hj9.out⟩
end Go.Proofs.YtmkponhhinjpkaaGreat.Table
