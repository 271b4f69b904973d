/- Put together: FbL, FdL, FeL, FfL, FgL, FhL, FiL, FjL, FkL, FlL, FmL, FnL. -/
import Derived.Test.YtknhgfofmkpnfaaGreatFa
import Derived.BigQuiet
import Derived.Outline
import Derived.PlainAid
import Derived.Test.YtknhgfofmkpnfaaGreatFr
import Derived.RangeFuncLeaves
import Derived.OwnWalkIn
import Derived.TacticsInMore
import Derived.LoopNIn
import Derived.LoopIn
import Derived.RangeFuncNested
import Derived.OwnWalk
import Derived.Shelf.Abstract
import Derived.Deep.RegionHeld3
import Derived.Deep.RegionWith
import Derived.BigRegion
import Derived.LaidEqlPtr
/- Contracts of package fifo's ring of uint32: at, left, first. -/
namespace Go.Proofs.YtknhgfofmkpnfaaGreat.FL
open Go.RowKit Fifo
set_option linter.unusedVariables false

theorem at_any (b g f n k : Nat) (w : World) (h1 : w.cell? ⟨b, 1, none⟩ = some (.slice (some ⟨g, 0, none⟩) n n)) (h2 : w.cell? ⟨b, 2, none⟩ = some (.int .i64 (f : Nat))) (hn : 0 < n) (hn4 : n ≤ 4000) (hf : f < n) (hk : k ≤ n) :
    Calls Tryz.prog 223 #[.pointer (some ⟨b, 0, none⟩), .int .i64 (k : Nat)] w fun e w' => e = .returned (.pointer (some ⟨g, (f + k) % n, none⟩)) ∧ Below w.heap.size w w' := by
  obtain ⟨s, hs⟩ : ∃ s, f + k = s := ⟨_, rfl⟩
  obtain ⟨r, hr⟩ : ∃ r, s % n = r := ⟨_, rfl⟩
  have hrl : r < n := by rw [← hr]; exact Nat.mod_lt _ hn
  have hw : IntKind.i64.wrap ((f : Int) + (k : Int)) = (s : Int) := by rw [i64w (by omega)]; omega
  have hz : ¬ ((n : Int) = 0) := by omega
  have ht := tmod_at s n r hr
  rw [hs, hr]
  have HS := Lib.hid hs
  have HR := Lib.hid hr
  clear hs hr hf hk hn hn4
  go_enter Tryz.func223, Tryz.ntmps223
  go_wp2_with fail
  go_quiet (fail)
  go_wp2_with fail
  go_ret
  exact ⟨rfl, by repeat (first | exact Below.refl _ _ | exact below_drewN _ _ | refine Below.drew ?_)⟩
theorem left_any (b room n : Nat) (w : World) (h0 : w.cell? ⟨b, 0, none⟩ = some (.int .i64 (room : Nat))) (h3 : w.cell? ⟨b, 3, none⟩ = some (.int .i64 (n : Nat))) (hn : n ≤ room) (hr : room < 9223372036854775808) :
    Calls Tryz.prog 221 #[.pointer (some ⟨b, 0, none⟩)] w fun e w' => e = .returned (.int .i64 ((room - n : Nat) : Int)) ∧ Below w.heap.size w w' := by
  obtain ⟨s, hs⟩ : ∃ s, room - n = s := ⟨_, rfl⟩
  have hw : IntKind.i64.wrap ((room : Int) - (n : Int)) = (s : Int) := by rw [i64w (by omega)]; omega
  rw [hs]
  clear hs hn hr
  go_enter Tryz.func221, Tryz.ntmps221
  go_wp2_with fail
  go_quiet (fail)
  go_wp2_with fail
  go_ret
  exact ⟨rfl, by repeat (first | exact Below.refl _ _ | exact below_drewN _ _ | refine Below.drew ?_)⟩
theorem first_any (b g f n : Nat) (x : Value) (w : World) (h1 : w.cell? ⟨b, 1, none⟩ = some (.slice (some ⟨g, 0, none⟩) n n)) (h2 : w.cell? ⟨b, 2, none⟩ = some (.int .i64 (f : Nat))) (hn4 : n ≤ 4000) (hf : f < n)
    (hx : w.cell? ⟨g, f, none⟩ = some x) :
    Calls Tryz.prog 220 #[.pointer (some ⟨b, 0, none⟩)] w fun e w' => e = .returned x ∧ Below w.heap.size w w' := by
  have hm : (f + 0) % n = f := by rw [Nat.add_zero]; exact Nat.mod_eq_of_lt hf
  have A := at_any b g f n 0 w h1 h2 (by omega) hn4 hf (by omega)
  rw [hm] at A
  clear hm
  go_enter Tryz.func220, Tryz.ntmps220
  go_wp2_with fail
  refine A.mono ?_
  rintro e w1 ⟨rfl, hb⟩
  have hx1 := cell_keep hb hx
  clear A
  go_wp2_with fail
  go_ret
  exact ⟨rfl, hb⟩
end Go.Proofs.YtknhgfofmkpnfaaGreat.FL
/- Package fifo's ring of uint32 gone through: each, as a function that is ranged over. -/
namespace Go.Proofs.YtknhgfofmkpnfaaGreat.FL
open Go.RowKit Fifo
set_option linter.unusedVariables false
attribute [local go_sem] Oper.semAt_some

/-- What yield is handed. -/
def els (l : List Value) (k : Nat) : Array Value := #[.int .i64 (k : Nat), (l[k]?).getD undef]

set_option maxRecDepth 100000 in
set_option maxHeartbeats 1000000 in
theorem each_seq (m : Nat) (hm : 1 ≤ m) (b f : Nat) (t : TypeId) (cs vs l : List Value) (pv : Value) (w : World) (hB : Blk w b t cs) (c1 : cs[1]? = some pv) (c2 : cs[2]? = some (.int .i64 (f : Nat))) (c3 : cs[3]? = some (.int .i64 (l.length : Nat)))
    (hP : Plc w 23 pv vs) (hR : RingL vs f l) (h4 : vs.length ≤ 4000) :
    SeqC Fence.wide m Tryz.prog 225 (fun lp => #[.pointer (some ⟨b, 0, none⟩)] ++ #[.func (.yield lp) #[] #[]] ++ #[]) l.length (els l) (fun j => j = b ∨ PB pv j) w := by
  intro lp J Jx T0 W hb hlp1 hlp2 hJ hJx hT hK hY h0
  have hB0 := hB.keep hb
  have hP0 := hP.keep hb
  have hc3 := hB0.at 3 c3
  have hl4 : l.length ≤ 4000 := Nat.le_trans hR.1 h4
  have HT0 := Lib.hid hK
  have HY := Lib.hid hY
  have HJ := Lib.hid hJ
  have HT := Lib.hid hT
  have HR := Lib.hid hR
  have Hlp := Lib.hid hlp1
  clear hK hY hJ hT hJx hR hlp1
  show CallsIn Fence.wide m Tryz.prog 225 #[.pointer (some ⟨b, 0, none⟩), .func (.yield lp) #[] #[]] W _
  refine callsIn_of_wp Tryz.func225 rfl trivial ?_ rfl
  simp only [Tryz.ntmps225, List.size_toArray, List.length_cons, List.length_nil, Nat.reduceAdd, Nat.reduceSub, Array.replicate_succ, Array.replicate_zero, List.push_toArray, List.append_toArray, List.nil_append, List.cons_append]
  gi_wp2
  gi_loopw [9] (fun p wr => ∃ (k : Nat) (T : Nat → Prop), p = .int .i64 (k : Nat) ∧ k ≤ l.length ∧ J k T wr ∧ (∀ j, T j → ¬ (j = b ∨ PB pv j)) ∧ Blk wr b t cs ∧ Plc wr 23 pv vs ∧ lp < wr.heap.size)
    (fun p wr => l.length - (intOf p).toNat)
  case atStart => exact ⟨0, T0, rfl, Nat.zero_le _, h0, HT0.out, hB0, hP0, hlp2⟩
  case round =>
    obtain ⟨k, T, rfl, hk, hj, ht, hBr, hPr, hlt⟩ := hrel
    have Hj := Lib.hid hj
    have Ht := Lib.hid ht
    clear hj ht
    by_cases hkl : k < l.length
    · obtain ⟨x, hx⟩ : ∃ x, l[k]? = some x := ⟨_, List.getElem?_eq_getElem hkl⟩
      have Hxs := Lib.hid (show els l k = #[.int .i64 (k : Nat), x] by simp [els, hx])
      have HV := Lib.hid ((HR.out.2.2.2 k hkl).trans hx)
      have hlen : l.length ≤ vs.length := HR.out.1
      have hf : f < vs.length := HR.out.2.2.1 (by omega)
      obtain ⟨g, hg, hgB⟩ := hPr.some (by omega)
      have A := at_any b g f vs.length k wr (hBr.at 1 (by rw [c1, hg])) (hBr.at 2 c2) (by omega) h4 hf (by omega)
      have HA := Lib.hid A
      have HG := Lib.hid hgB
      have Hg := Lib.hid hg
      have HBr := Lib.hid hBr
      have HPr := Lib.hid hPr
      have d1 : decide ((k : Int) < (l.length : Int)) = true := decide_eq_true (by omega)
      have Hkl := Lib.hid hkl
      clear A hgB hg hBr hPr hx hkl hlen hf c1 c2 hc3 hB hP hB0 hP0 h4
      gi_wp2_with (refine ⟨trivial, ?_⟩; gi_at_call 223; refine (callsIn_wide.2 HA.out).mono ?_; rintro e w1 ⟨rfl, hb1⟩; have hx1 := (HG.out.keep hb1).at _ HV.out; obtain ⟨fn, tmps, assign, body, hy, hR⟩ := HY.out k T w1 Hkl.out (HJ.out _ _ _ _ Hj.out hb1); rw [Hxs.out] at hy)
      refine hR.mono ?_
      rintro e W3 ⟨T', hT', ho, hcase⟩
      have hB3 : Blk W3 b t cs := (HBr.out.keep hb1).only ho (fun h => h.elim (fun h => Ht.out _ h (.inl rfl)) (fun h => Hlp.out (.inl h.symm)))
      have hP3 : Plc W3 23 pv vs := (HPr.out.keep hb1).only ho (fun j hj h => h.elim (fun h => Ht.out _ h (.inr hj)) (fun h => Hlp.out (.inr (h ▸ hj))))
      have hT3 : ∀ j, T' j → ¬ (j = b ∨ PB pv j) := fun j hj hn => (hT' j hj).elim (fun h => Ht.out j h hn) (fun h => by have h1 := HBr.out.lt; have h2 := HPr.out.lt; have h3 := hb1.size; exact hn.elim (fun e => by omega) (fun e => by have := h2 j e; omega))
      have hl3 : lp < W3.heap.size := Nat.lt_of_lt_of_le hlt (Nat.le_trans hb1.size ho.size)
      have Hk := Lib.hid hk
      clear hk
      rcases hcase with ⟨rfl, hj3⟩ | ⟨rfl, hj3⟩
      · gi_wp2
        go_roundw
        case rel => exact ⟨k + 1, T', by go_num, Hkl.out, hj3, hT3, hB3, hP3, hl3⟩
        case measure => have := Hkl.out; simp [intOf]; omega
      · gi_wp2
        refine bodyPost_ret (results_none rfl _ _ _) rfl ?_
        exact ⟨⟨_, rfl⟩, T', .inr ⟨k, Hkl.out, hj3⟩⟩
    · obtain rfl : k = l.length := by omega
      have d1 : decide ((l.length : Int) < (l.length : Int)) = false := decide_eq_false (by omega)
      have HBr := Lib.hid hBr
      have HPr := Lib.hid hPr
      clear hBr hPr
      gi_wp2
      go_end0
      exact ⟨⟨_, rfl⟩, T, .inl Hj.out⟩
end Go.Proofs.YtknhgfofmkpnfaaGreat.FL
/- Package fifo's ring of uint32: laid. -/
namespace Go.Proofs.YtknhgfofmkpnfaaGreat.FL
open Go.RowKit Go.Shelf Fifo
set_option linter.unusedVariables false
attribute [local go_sem] Oper.semAt_some

theorem info_e : (Tryz.prog.info? 23).map (fun i => (i.zero, i.size, i.bytes)) = some (some (.int .u32 0), 1, 4) := by kernel_rfl
theorem made_one (v : Value) (m : Nat) : (madeCells #[v] m).toList = List.replicate m v := by
  apply List.ext_getElem
  · simp [madeCells]
  · intro i h1 h2
    simp [madeCells, Nat.mod_one]
/-- make([]uint32, n): the worlds behind it. -/
theorem make_any (n : Nat) (hn : n ≤ 4000) : ∃ mk : World → World, ∀ W : World, (Instr.makeSlice 32 (.int .i64 (n : Int)) (.int .i64 (n : Int))).run Tryz.prog W = .ok (.slice (some ⟨W.heap.size, 0, none⟩) n n) (mk W) ∧
    Blk (mk W) W.heap.size 23 (List.replicate n (.int .u32 0)) ∧ Below W.heap.size W (mk W) := by
  obtain ⟨i0, hi, hz0, hz1, hz2⟩ := info_parts info_e
  have h : ∀ W : World, ∃ W', (Instr.makeSlice 32 (.int .i64 (n : Int)) (.int .i64 (n : Int))).run Tryz.prog W = .ok (.slice (some ⟨W.heap.size, 0, none⟩) n n) W' ∧
      Blk W' W.heap.size 23 (List.replicate n (.int .u32 0)) ∧ Below W.heap.size W W' := fun W => by
    obtain ⟨W', a, b, c⟩ := run_make_full (P := Tryz.prog) W 0 32 23 i0 (.int .u32 0) 1 Tryz.underlying32 hi hz0 hz1 .i64 .i64 n (by rw [hz2]; omega) (by unfold maxLen; omega) (Nat.zero_le _)
    refine ⟨W', a, ?_, (Below.refl _ W).grown c (Nat.le_refl _) (fun k e => by cases e)⟩
    have hp := plc_of_row b
    rw [show (.int .u32 0 : Value).cells = #[.int .u32 0] from rfl, made_one, Nat.mul_one] at hp
    rcases hp with ⟨h, _⟩ | ⟨g, h, hb⟩
    · simp at h
    · simp only [Value.slice.injEq, Option.some.injEq, Addr.mk.injEq, and_true] at h
      rw [h.1]
      exact hb
  exact ⟨fun W => (h W).choose, fun W => (h W).choose_spec⟩

/-- A thing of the row's type. -/
def Elm (v : Value) : Prop := ∃ z, v = .int .u32 z
/-- So far filled. -/
def filled (l : List Value) (size k : Nat) : List Value := l.take k ++ List.replicate (size - k) (.int .u32 0)
theorem filled_zero (l : List Value) (size : Nat) : filled l size 0 = List.replicate size (.int .u32 0) := by simp [filled]
theorem filled_all (l : List Value) (size : Nat) : filled l size l.length = l ++ List.replicate (size - l.length) (.int .u32 0) := by simp [filled]
theorem filled_len (l : List Value) {size k : Nat} (h : l.length ≤ size) (hk : k ≤ l.length) : (filled l size k).length = size := by simp [filled]; omega
theorem filled_set (l : List Value) {size k : Nat} {x : Value} (h : l.length ≤ size) (hk : l[k]? = some x) : (filled l size k).set k x = filled l size (k + 1) := by
  have hk2 : k < l.length := (List.getElem?_eq_some_iff.1 hk).1
  have e : l.take (k + 1) = l.take k ++ [x] := by rw [List.take_add_one, hk]; rfl
  have e2 : List.replicate (size - k) (.int .u32 0 : Value) = (.int .u32 0) :: List.replicate (size - (k + 1)) (.int .u32 0) := by
    rw [← List.replicate_succ]; congr 1; omega
  unfold filled
  rw [e, e2, List.set_append_right _ _ (by simp; omega)]
  simp [Nat.min_eq_left (Nat.le_of_lt hk2)]

set_option maxRecDepth 100000 in
set_option maxHeartbeats 1000000 in
theorem laid_any (b f size : Nat) (t : TypeId) (cs vs l : List Value) (pv : Value) (w : World) (hB : Blk w b t cs) (c1 : cs[1]? = some pv) (c2 : cs[2]? = some (.int .i64 (f : Nat))) (c3 : cs[3]? = some (.int .i64 (l.length : Nat)))
    (hP : Plc w 23 pv vs) (hR : RingL vs f l) (h4 : vs.length ≤ 4000) (hs : l.length ≤ size) (hs4 : size ≤ 4000) (he : ∀ v ∈ l, Elm v) :
    Calls Tryz.prog 224 #[.pointer (some ⟨b, 0, none⟩), .int .i64 (size : Nat)] w fun e w' => e = .returned (.slice (some ⟨w.heap.size, 0, none⟩) size size) ∧
      Blk w' w.heap.size 23 (l ++ List.replicate (size - l.length) (.int .u32 0)) ∧ Below w.heap.size w w' := by
  have hmf : ∀ (fn : Fn) (first cap : Array Value) (w : World), (Instr.makeFunc fn first cap).run Tryz.prog w = .ok (.func fn first cap) w := fun _ _ _ _ => rfl
  obtain ⟨mk, hmk⟩ := make_any size hs4
  obtain ⟨e1, e2, e3⟩ := hmk w
  refine (callsIn_wide (n := 4)).1 ?_
  refine callsIn_of_wp_marks Tryz.func224 rfl trivial ?_ rfl
  simp only [Tryz.ntmps224, List.size_toArray, List.length_cons, List.length_nil, Nat.reduceAdd, Nat.reduceSub, Array.replicate_succ, Array.replicate_zero, List.push_toArray, List.append_toArray, List.nil_append, List.cons_append]
  gi_wp2
  obtain ⟨M, hM⟩ : ∃ M, mk w = M := ⟨_, rfl⟩
  rw [hM] at e2 e3 ⊢
  clear hM hmk e1 hmf
  have hb0 : Below w.heap.size w (M.alloc (.cells #[.slice (some ⟨w.heap.size, 0, none⟩) size size] 32)) := e3.trans (((Below.refl _ M).alloc (Nat.le_refl _) _).mono e3.size)
  have hg := e2.lt
  have hbl := hB.lt
  have hpl := hP.lt
  have hlen := hR.1
  refine range_law rfl (by omega) (gf := 225) (bound := #[.pointer (some ⟨b, 0, none⟩)]) (lb := #[]) rfl trivial (enters_of Tryz.func225 (by kernel_rfl) rfl)
    (each_seq 3 (by omega) b f t cs vs l pv _ (hB.keep hb0) c1 c2 c3 (hP.keep hb0) hR h4) (fun _ => rfl) (fun j hj => Nat.lt_of_lt_of_le (hj.elim (fun e => by omega) (hpl j)) hb0.size)
    (fun k T X => (T = fun j => j = w.heap.size) ∧ Blk X w.heap.size 23 (filled l size k) ∧ Blk X M.heap.size 32 [.slice (some ⟨w.heap.size, 0, none⟩) size size] ∧ Below w.heap.size w X)
    (fun _ _ _ _ => False) (fun j => j = w.heap.size) (fun j hj hn => by subst hj; exact hn.elim (fun h => by omega) (fun h => by have := hpl _ h; omega)) (fun j hj => by simp; omega)
    (fun k T W W' h hk => ⟨h.1, h.2.1.book hk, h.2.2.1.book hk, hk.below h.2.2.2 (by simp; omega)⟩) (fun _ _ _ _ _ h _ => h) (fun k T W j h hj => by rw [h.1] at hj; subst hj; exact h.2.1.lt)
    ⟨rfl, by rw [filled_zero]; exact e2.alloc _, Blk.new M _ [_], hb0⟩
    ?round ?done ?stop
  case round =>
    intro lp k T W0 hk
    obtain ⟨x, hx⟩ : ∃ x, l[k]? = some x := ⟨_, List.getElem?_eq_getElem hk⟩
    obtain ⟨z, rfl⟩ := he x (List.mem_of_getElem? hx)
    rw [show els l k = #[.int .i64 (k : Nat), .int .u32 z] by simp [els, hx]]
    gi_wp2
    refine ⟨trivial, ?_⟩
    rintro W hsz ⟨rfl, h1, h2, h3⟩ hT
    have q1 : W.cell? ⟨M.heap.size, 0, none⟩ = some (.slice (some ⟨w.heap.size, 0, none⟩) size size) := h2.at 0 rfl
    obtain ⟨y, hy⟩ : ∃ y, (filled l size k)[k]? = some y := ⟨_, List.getElem?_eq_getElem (by rw [filled_len l hs (Nat.le_of_lt hk)]; omega)⟩
    have q2 := h1.at k hy
    have q3 := h1.frozen k
    have H1 := Lib.hid (filled_set l hs hx ▸ h1.set k (.int .u32 z))
    have H2 := Lib.hid (h2.other (p := ⟨w.heap.size, k, none⟩) (by show M.heap.size ≠ w.heap.size; omega) (.int .u32 z))
    have H3 := Lib.hid (h3.setCell (p := ⟨w.heap.size, k, none⟩) (Nat.le_refl _) (.int .u32 z))
    have Ho := Lib.hid (Only.setCell (Only.refl (fun j => j = w.heap.size) W) (p := ⟨w.heap.size, k, none⟩) rfl (.int .u32 z))
    have hks : k < size := by omega
    clear h1 h2 h3 hy hT
    gi_wp2
    exact ⟨_, fun j h => .inl h, Ho.out, rfl, H1.out, H2.out, H3.out⟩
  case done =>
    rintro T W ⟨_, h1, h2, h3⟩ hD
    have q1 : W.cell? ⟨M.heap.size, 0, none⟩ = some (.slice (some ⟨w.heap.size, 0, none⟩) size size) := h2.at 0 rfl
    rw [filled_all] at h1
    have H1 := Lib.hid h1
    have H3 := Lib.hid h3
    have HD := Lib.hid hD
    clear h1 h2 h3 hD
    gi_wp2
    have Hk := Lib.hid (Book.put (B := w.heap.size) (o' := .deferred none) (by simp; omega) HD.out rfl)
    refine ⟨by simp, .inl ⟨_, _, rfl, run_takeDeferred HD.out, ?_⟩⟩
    exact ⟨_, results_tmp rfl _ _ _, rfl, H1.out.book Hk.out, Hk.out.below H3.out (Nat.le_refl _)⟩
  case stop =>
    intro c k T W _ h
    exact h.elim
end Go.Proofs.YtknhgfofmkpnfaaGreat.FL
/- Package fifo's ring of uint32: widen, put, take, told, drop, apart. -/
namespace Go.Proofs.YtknhgfofmkpnfaaGreat.FL
open Go.RowKit Fifo
set_option linter.unusedVariables false

/-- A row at b: so much room, these things, in these places. -/
structure Ring (sf : Value) (w : World) (b room : Nat) (l : List Value) (pv : Value) (f : Nat) (vs : List Value) : Prop where
  blk : Blk w b 194 [.int .i64 (room : Nat), pv, .int .i64 (f : Nat), .int .i64 (l.length : Nat), sf]
  plc : Plc w 23 pv vs
  ring : RingL vs f l
  le : l.length ≤ room
  big : room < 9223372036854775808
  few : vs.length ≤ 4000
  elm : ∀ v ∈ l, Elm v
theorem Ring.keep {w w' : World} {sf : Value} {b room f : Nat} {l vs : List Value} {pv : Value} (h : Ring sf w b room l pv f vs) (hb : Below w.heap.size w w') : Ring sf w' b room l pv f vs :=
  ⟨h.blk.keep hb, h.plc.keep hb, h.ring, h.le, h.big, h.few, h.elm⟩
theorem Ring.book {B : Nat} {w w' : World} {sf : Value} {b room f : Nat} {l vs : List Value} {pv : Value} (h : Ring sf w b room l pv f vs) (hb : Book B w w') : Ring sf w' b room l pv f vs :=
  ⟨h.blk.book hb, h.plc.book hb, h.ring, h.le, h.big, h.few, h.elm⟩
theorem Ring.only {S : Nat → Prop} {w w' : World} {sf : Value} {b room f : Nat} {l vs : List Value} {pv : Value} (h : Ring sf w b room l pv f vs) (ho : Only S w w') (hb : ¬ S b) (hp : ∀ j, PB pv j → ¬ S j) : Ring sf w' b room l pv f vs :=
  ⟨h.blk.only ho hb, h.plc.only ho hp, h.ring, h.le, h.big, h.few, h.elm⟩
/-- The row's own blocks. -/
def RB (b : Nat) (pv : Value) : Nat → Prop := fun j => j = b ∨ PB pv j

set_option maxHeartbeats 4000000 in
theorem widen_any {sf : Value} (b room f : Nat) (l vs : List Value) (pv : Value) (w : World) (h : Ring sf w b room l pv f vs) (hl : l.length < room) (h9 : l.length ≤ 1900) :
    Calls Tryz.prog 222 #[.pointer (some ⟨b, 0, none⟩)] w fun e w' => (∃ v, e = .returned v) ∧
      ∃ pv' vs', (∀ j, PB pv' j → w.heap.size ≤ j) ∧ l.length < vs'.length ∧ Ring sf w' b room l pv' 0 vs' ∧ Only (fun j => j = b) w w' := by
  obtain ⟨hB, hP, hR, hle, hbig, hfew, helm⟩ := h
  have L : ∀ w', Below w.heap.size w w' → Calls Tryz.prog 221 #[.pointer (some ⟨b, 0, none⟩)] w' fun e w'' => e = .returned (.int .i64 ((room - l.length : Nat) : Int)) ∧ Below w'.heap.size w' w'' :=
    fun w' hb => left_any b room l.length w' ((hB.keep hb).at 0 rfl) ((hB.keep hb).at 3 rfl) hle hbig
  obtain ⟨d, hd⟩ : ∃ d, room - l.length = d := ⟨_, rfl⟩
  rw [hd] at L
  obtain ⟨m, hm⟩ : ∃ m, min (l.length + 4) d = m := ⟨_, rfl⟩
  obtain ⟨size, hsz⟩ : ∃ size, l.length + m = size := ⟨_, rfl⟩
  have D : ∀ w', Below w.heap.size w w' → Calls Tryz.prog 224 #[.pointer (some ⟨b, 0, none⟩), .int .i64 (size : Nat)] w' fun e w'' => e = .returned (.slice (some ⟨w'.heap.size, 0, none⟩) size size) ∧
      Blk w'' w'.heap.size 23 (l ++ List.replicate (size - l.length) (.int .u32 0)) ∧ Below w'.heap.size w' w'' :=
    fun w' hb => laid_any b f size _ _ vs l pv w' (hB.keep hb) rfl rfl rfl (hP.keep hb) hR hfew (by omega) (by omega) helm
  obtain ⟨p, hp⟩ : ∃ p, l.length + 4 = p := ⟨_, rfl⟩
  have hw1 : IntKind.i64.wrap ((l.length : Int) + 4) = (p : Int) := by rw [i64w (by omega)]; omega
  have hw2 : IntKind.i64.wrap ((l.length : Int) + (m : Int)) = (size : Int) := by rw [i64w (by omega)]; omega
  rw [hp] at hm
  have hmi : (if d < p then (d : Int) else (p : Int)) = (m : Int) := by split <;> omega
  have hsl : l.length < size ∧ size ≤ 4000 := by omega
  have q3 := hB.at 3 rfl
  have HBk := Lib.hid hB
  have HP := Lib.hid hP
  have HL := Lib.hid L
  have HD := Lib.hid D
  have Hsl := Lib.hid hsl
  have Hd := Lib.hid hd
  have HX := Lib.hid (And.intro hle (And.intro hbig helm))
  clear hd hm hsz hp hsl L D hP hR hB helm hfew hbig hle hl h9
  go_enter Tryz.func222, Tryz.ntmps222
  go_wp2_with fail
  go_region_held3 (fun w' => w'.cell? ⟨b, 3, none⟩ = some (.int .i64 (l.length : Nat)))
    (first | assumption | exact cell_keep (Below.refl _ _).drew (by assumption) | exact cell_set_off (by assumption) (by decide))
    (first
    | (go_at_call 221; refine (HL.out _ (Below.refl _ _).drew).mono ?_; rintro e w1 ⟨rfl, hb1⟩; have Hb1 := Lib.hid (Below.trans (Below.refl _ _).drew hb1 : Below w.heap.size w w1); have S1 : w1.cell? ⟨b, 3, none⟩ = some (.int .i64 (l.length : Nat)) := cell_keep Hb1.out q3)
    | (go_at_call 224; with_reducible refine (HD.out _ Hb1.out).mono ?_; rintro e w2 ⟨rfl, hg2, hb2⟩; have S2 : w2.cell? ⟨b, 3, none⟩ = some (.int .i64 (l.length : Nat)) := cell_keep hb2 S1; have B2 := Lib.hid (HBk.out.keep (Hb1.out.trans (hb2.mono Hb1.out.size))); have S3 := B2.out.at 1 rfl; have S4 := B2.out.frozen 1))
  all_goals
    have hbl := HBk.out.lt
    have hs1 := Hb1.out.size
    have B3 := Lib.hid (B2.out.set 1 (.slice (some ⟨w1.heap.size, 0, none⟩) size size))
    have G3 := Lib.hid (hg2.other (p := ⟨b, 1, none⟩) (show w1.heap.size ≠ b by omega) (.slice (some ⟨w1.heap.size, 0, none⟩) size size))
    have O3 := Lib.hid ((Only.of_below (S := fun j => j = b) (Hb1.out.trans (hb2.mono hs1))).setCell (p := ⟨b, 1, none⟩) rfl (.slice (some ⟨w1.heap.size, 0, none⟩) size size))
    obtain ⟨g, hg⟩ : ∃ g, w1.heap.size = g := ⟨_, rfl⟩
    rw [hg] at B3 G3 O3 hs1 ⊢
    refine exit_letter ?_
    intro W hW
    rw [← hW.out] at B3 G3 O3
    clear S1 S2 S3 S4 B2 hg2 hb2 hb1 hW hg Hb1 q3
    rename_i hx
    clear hx
    have T2 := B3.out.at 2 rfl
    have F2 := B3.out.frozen 2
    have B4 := Lib.hid (B3.out.set 2 (.int .i64 0))
    have G4 := Lib.hid (G3.out.other (p := ⟨b, 2, none⟩) (show g ≠ b by omega) (.int .i64 0))
    have O4 := Lib.hid (O3.out.setCell (p := ⟨b, 2, none⟩) rfl (.int .i64 0))
    clear B3 G3 O3
    go_wp2_with fail
    go_end0
    have hsl := Hsl.out
    have hvl : (l ++ List.replicate (size - l.length) (.int .u32 0 : Value)).length = size := by simp; omega
    obtain ⟨hle, hbig, helm⟩ := HX.out
    exact ⟨⟨_, rfl⟩, .slice (some ⟨g, 0, none⟩) size size, _, (fun j hj => by simp [PB, Value.ownBlock] at hj; omega), by rw [hvl]; exact hsl.1, ⟨B4.out, .inr ⟨g, by rw [hvl], G4.out⟩, ringL_wide _ _, hle, hbig, by rw [hvl]; exact hsl.2, helm⟩, O4.out⟩
end Go.Proofs.YtknhgfofmkpnfaaGreat.FL
/- Package fifo's ring of uint32: put. -/
namespace Go.Proofs.YtknhgfofmkpnfaaGreat.FL
open Go.RowKit Fifo
set_option linter.unusedVariables false

theorem Blk.ne {w : World} {b g : Nat} {t e : TypeId} {cs vs : List Value} (h : Blk w b t cs) (k : Blk w g e vs) (hte : t ≠ e) : b ≠ g := by
  rintro rfl
  unfold Blk at h k
  rw [h] at k
  simp only [Option.some.injEq, Obj.cells.injEq] at k
  exact hte k.2.1
theorem Elm.one {v : Value} (h : Elm v) : v.oneCell' = true := by obtain ⟨z, rfl⟩ := h; rfl

theorem put_no {sf : Value} (b room f : Nat) (l vs : List Value) (pv x : Value) (w : World) (h : Ring sf w b room l pv f vs) (hl : l.length = room) :
    Calls Tryz.prog 218 #[.pointer (some ⟨b, 0, none⟩), x] w fun e w' => e = .returned (.bool false) ∧ Below w.heap.size w w' := by
  have L := left_any b room l.length w (h.blk.at 0 rfl) (h.blk.at 3 rfl) h.le h.big
  rw [show room - l.length = 0 by omega] at L
  clear h hl
  go_enter Tryz.func218, Tryz.ntmps218
  go_wp2_with fail
  refine L.mono ?_
  rintro e w1 ⟨rfl, hb1⟩
  clear L
  go_wp2_with fail
  go_ret
  exact ⟨rfl, hb1⟩

set_option maxHeartbeats 1000000 in
theorem put_fits {sf : Value} (b room f : Nat) (l vs : List Value) (pv x : Value) (w : World) (h : Ring sf w b room l pv f vs) (hl : l.length < room) (hv : l.length < vs.length) (hx : Elm x) :
    Calls Tryz.prog 218 #[.pointer (some ⟨b, 0, none⟩), x] w fun e w' => e = .returned (.bool true) ∧
      ∃ vs', Ring sf w' b room (l ++ [x]) pv f vs' ∧ Only (RB b pv) w w' := by
  have L := left_any b room l.length w (h.blk.at 0 rfl) (h.blk.at 3 rfl) h.le h.big
  obtain ⟨hB, hP, hR, hle, hbig, hfew, helm⟩ := h
  obtain ⟨g, rfl, hG⟩ := hP.some (by omega)
  obtain ⟨z, rfl⟩ := hx
  obtain ⟨d, hd⟩ : ∃ d, room - l.length = d := ⟨_, rfl⟩
  rw [hd] at L
  obtain ⟨n, hn⟩ : ∃ n, vs.length = n := ⟨_, rfl⟩
  obtain ⟨i, hi⟩ : ∃ i, (f + l.length) % n = i := ⟨_, rfl⟩
  have hin : i < n := by rw [← hi]; exact Nat.mod_lt _ (by omega)
  have hfn : f < n := by rw [← hn]; exact hR.2.2.1 (by omega)
  have A := fun w h1 h2 => at_any b g f n l.length w h1 h2 (by omega) (by omega) hfn (by omega)
  rw [hi] at A
  obtain ⟨y, hy⟩ : ∃ y, vs[i]? = some y := ⟨_, List.getElem?_eq_getElem (by omega)⟩
  have hput := ringL_put hR hv (.int .u32 z)
  rw [hn, hi] at hput
  rw [hn] at hB hv ⊢
  have hbg : b ≠ g := Blk.ne hB hG (by decide)
  have d0 : ¬ ((d : Int) = 0) := by omega
  have d1 : ¬ ((l.length : Int) = (n : Int)) := by omega
  have d2 : IntKind.i64.wrap ((l.length : Int) + 1) = ((l.length + 1 : Nat) : Int) := by rw [i64w (by omega)]; omega
  have HX := Lib.hid (And.intro hput (And.intro (show (l ++ [(.int .u32 z : Value)]).length ≤ room by simp; omega) (And.intro hbig (And.intro (show (vs.set i (.int .u32 z)).length ≤ 4000 by simpa using hfew) (show ∀ v ∈ l ++ [.int .u32 z], Elm v from fun v hv => (List.mem_append.1 hv).elim (helm v) (fun h => ⟨z, by simpa using h⟩))))))
  have HB := Lib.hid hB
  have HG := Lib.hid hG
  have HA := Lib.hid A
  have HY := Lib.hid hy
  have Hn := Lib.hid hn
  clear hB hG A hy hn hi hd hR hle hbig hfew helm hP hput hl hv hfn
  go_enter Tryz.func218, Tryz.ntmps218
  go_wp2_with fail
  refine L.mono ?_
  rintro e w1 ⟨rfl, hb1⟩
  clear L
  have p1 := (HB.out.keep hb1).at 1 rfl
  have p3 := (HB.out.keep hb1).at 3 rfl
  have Hb := Lib.hid hb1
  clear hb1
  go_wp2_with fail
  go_quiet (fail)
  go_wp2_with fail
  refine (HA.out _ ((HB.out.keep (Hb.out.trans (below_drewN _ _ |>.mono Hb.out.size))).at 1 rfl) ((HB.out.keep (Hb.out.trans (below_drewN _ _ |>.mono Hb.out.size))).at 2 rfl)).mono ?_
  rintro e w2 ⟨rfl, hb2⟩
  have hb3 : Below w.heap.size w w2 := (Hb.out.trans (below_drewN _ _ |>.mono Hb.out.size)).trans (hb2.mono Hb.out.size)
  clear p1 p3 hb2
  have G3 := HG.out.keep hb3
  have B3 := HB.out.keep hb3
  have p3 := B3.at 3 rfl
  have f3 := B3.frozen 3
  have q3 := G3.at i HY.out
  have g3 := G3.frozen i
  have HB3 := Lib.hid B3
  have HG3 := Lib.hid G3
  have Hb3 := Lib.hid hb3
  have hgb : g ≠ b := Ne.symm hbg
  clear B3 G3 hb3 Hb
  go_wp2_with fail
  go_ret
  have B4 := (HB3.out.other (p := ⟨g, i, none⟩) hbg (.int .u32 z)).set 3 (.int .i64 ((l.length : Int) + 1))
  have G4 := (HG3.out.set i (.int .u32 z)).other (p := ⟨b, 3, none⟩) hgb (.int .i64 ((l.length : Int) + 1))
  obtain ⟨r1, r2, r3, r4, r5⟩ := HX.out
  have e : (((l ++ [(.int .u32 z : Value)]).length : Nat) : Int) = l.length + 1 := by simp
  refine ⟨rfl, vs.set i (.int .u32 z), ⟨by rw [e]; exact B4, .inr ⟨g, by rw [List.length_set, Hn.out], G4⟩, r1, r2, r3, r4, r5⟩, ?_⟩
  exact ((Only.of_below Hb3.out).setCell (p := ⟨g, i, none⟩) (.inr rfl) _).setCell (p := ⟨b, 3, none⟩) (.inl rfl) _

set_option maxHeartbeats 1000000 in
theorem put_wide {sf : Value} (b room f : Nat) (l vs : List Value) (pv x : Value) (w : World) (h : Ring sf w b room l pv f vs) (hl : l.length < room) (hv : l.length = vs.length) (h9 : l.length ≤ 1900) (hx : Elm x) :
    Calls Tryz.prog 218 #[.pointer (some ⟨b, 0, none⟩), x] w fun e w' => e = .returned (.bool true) ∧
      ∃ pv' vs', Ring sf w' b room (l ++ [x]) pv' 0 vs' ∧ Only (RB b pv) w w' ∧ ∀ j, PB pv' j → w.heap.size ≤ j := by
  have L := left_any b room l.length w (h.blk.at 0 rfl) (h.blk.at 3 rfl) h.le h.big
  have WD := fun w1 (hb : Below w.heap.size w w1) => widen_any b room f l vs pv w1 (h.keep hb) hl h9
  have hB := h.blk
  have hbl := hB.lt
  have hpv : ∃ a, pv = .slice a vs.length vs.length := by
    rcases h.plc with ⟨rfl, rfl⟩ | ⟨g, rfl, _⟩
    · exact ⟨_, rfl⟩
    · exact ⟨_, rfl⟩
  clear h
  obtain ⟨a, rfl⟩ := hpv
  obtain ⟨z, rfl⟩ := hx
  obtain ⟨d, hd⟩ : ∃ d, room - l.length = d := ⟨_, rfl⟩
  rw [hd] at L
  have d0 : ¬ ((d : Int) = 0) := by omega
  rw [← hv] at hB
  have d2 : IntKind.i64.wrap ((l.length : Int) + 1) = ((l.length + 1 : Nat) : Int) := by rw [i64w (by omega)]; omega
  have HB := Lib.hid hB
  have HWD := Lib.hid WD
  have Hl := Lib.hid hl
  have Hbl := Lib.hid hbl
  have Hv := Lib.hid hv
  clear hB WD hd hl hbl h9 hv
  go_enter Tryz.func218, Tryz.ntmps218
  go_wp2_with fail
  refine L.mono ?_
  rintro e w1 ⟨rfl, hb1⟩
  clear L
  have p1 := (HB.out.keep hb1).at 1 rfl
  have p3 := (HB.out.keep hb1).at 3 rfl
  have Hb := Lib.hid hb1
  clear hb1
  go_wp2_with fail
  go_quiet (fail)
  go_wp2_with fail
  refine (HWD.out _ (Hb.out.trans (below_drewN _ _ |>.mono Hb.out.size))).mono ?_
  rintro e w2 ⟨⟨v, rfl⟩, pv', vs', hfr, hv', ⟨hB, hP, hR, hle, hbig, hfew, helm⟩, ho⟩
  have O2 : Only (RB b (.slice a vs.length vs.length)) w w2 := (Only.of_below (Hb.out.trans (below_drewN _ _ |>.mono Hb.out.size))).trans ((ho.mono (fun j _ h => .inl h)))
  have hfr2 : ∀ j, PB pv' j → w.heap.size ≤ j := fun j hj => Nat.le_trans Hb.out.size (hfr j hj)
  clear p1 p3 hfr ho HB HWD Hb
  obtain ⟨g, rfl, hG⟩ := hP.some (by omega)
  have hgf : w.heap.size ≤ g := hfr2 g rfl
  obtain ⟨n, hn⟩ : ∃ n, vs'.length = n := ⟨_, rfl⟩
  obtain ⟨i, hi⟩ : ∃ i, (0 + l.length) % n = i := ⟨_, rfl⟩
  have hin : i < n := by rw [← hi]; exact Nat.mod_lt _ (by omega)
  have A := fun w h1 h2 => at_any b g 0 n l.length w h1 h2 (by omega) (by omega) (by omega) (by omega)
  rw [hi] at A
  obtain ⟨y, hy⟩ : ∃ y, vs'[i]? = some y := ⟨_, List.getElem?_eq_getElem (by omega)⟩
  have hput := ringL_put hR hv' (.int .u32 z)
  rw [hn, hi] at hput
  rw [hn] at hB hv' hfr2
  have hbg : b ≠ g := Blk.ne hB hG (by decide)
  have HX := Lib.hid (And.intro hput (And.intro (show (l ++ [(.int .u32 z : Value)]).length ≤ room by simp; exact Hl.out) (And.intro hbig (And.intro (show (vs'.set i (.int .u32 z)).length ≤ 4000 by simpa using hfew) (show ∀ v ∈ l ++ [.int .u32 z], Elm v from fun v hv => (List.mem_append.1 hv).elim (helm v) (fun h => ⟨z, by simpa using h⟩))))))
  have HB := Lib.hid hB
  have HG := Lib.hid hG
  have HA := Lib.hid A
  have HY := Lib.hid hy
  have Hn := Lib.hid hn
  have HO := Lib.hid O2
  have Hfr := Lib.hid hfr2
  clear hB hG A hy hn hi hR hle hbig hfew helm hP hput hv' O2 hfr2 hgf
  have p3 := HB.out.at 3 rfl
  go_wp2_with fail
  refine (HA.out _ (HB.out.at 1 rfl) (HB.out.at 2 rfl)).mono ?_
  rintro e w3 ⟨rfl, hb3⟩
  clear p3
  have G3 := HG.out.keep hb3
  have B3 := HB.out.keep hb3
  have p3 := B3.at 3 rfl
  have f3 := B3.frozen 3
  have q3 := G3.at i HY.out
  have g3 := G3.frozen i
  have HB3 := Lib.hid B3
  have HG3 := Lib.hid G3
  have HO3 := Lib.hid (HO.out.trans (Only.of_below hb3))
  have hgb : g ≠ b := Ne.symm hbg
  clear B3 G3 hb3 HO
  go_wp2_with fail
  go_ret
  have B4 := (HB3.out.other (p := ⟨g, i, none⟩) hbg (.int .u32 z)).set 3 (.int .i64 ((l.length : Int) + 1))
  have G4 := (HG3.out.set i (.int .u32 z)).other (p := ⟨b, 3, none⟩) hgb (.int .i64 ((l.length : Int) + 1))
  obtain ⟨r1, r2, r3, r4, r5⟩ := HX.out
  have e : (((l ++ [(.int .u32 z : Value)]).length : Nat) : Int) = l.length + 1 := by simp
  refine ⟨rfl, _, vs'.set i (.int .u32 z), ⟨by rw [e]; exact B4, .inr ⟨g, by rw [List.length_set, Hn.out], G4⟩, r1, r2, r3, r4, r5⟩, ?_, Hfr.out⟩
  exact (HO3.out.setCell_new (p := ⟨g, i, none⟩) (Hfr.out g rfl) _).setCell (p := ⟨b, 3, none⟩) (.inl rfl) _
end Go.Proofs.YtknhgfofmkpnfaaGreat.FL
/- Package fifo's ring of uint32: take. -/
namespace Go.Proofs.YtknhgfofmkpnfaaGreat.FL
open Go.RowKit Fifo
set_option linter.unusedVariables false

theorem zero_run : ∀ w, (zeroValue 23).run Tryz.prog w = .ok (.int .u32 0) w := fun w => by
  obtain ⟨i0, hi, hz0, hz1, hz2⟩ := info_parts info_e
  simp [zeroValue, typeInfo, hi, hz0]
theorem clear_one (g f c ty : Nat) (y : Value) (W : World) (h : W.cell? ⟨g, f, none⟩ = some y) (hf : W.frozen? ⟨g, f, none⟩ = false) :
    (Builtin.clear_ #[32] ty #[.slice (some ⟨g, f, none⟩) 1 c]).run Tryz.prog W = .ok (.tuple #[]) (W.setCell ⟨g, f, none⟩ (.int .u32 0)) := by
  have e : (Builtin.zeroCells #[(.int .u32 0 : Value)] 1).toList = [.int .u32 0] := by
    apply List.ext_getElem
    · simp [Builtin.zeroCells]
    · intro i h1 h2
      simp [Builtin.zeroCells, Nat.mod_one]
  simp [Builtin.clear_, run_underlying Tryz.underlying32, Value.cells, e, storeCells, go_sem, h, hf]
set_option maxHeartbeats 1000000 in
theorem take_any {sf : Value} (b room f : Nat) (t vs : List Value) (pv x : Value) (w : World) (h : Ring sf w b room (x :: t) pv f vs) :
    Calls Tryz.prog 217 #[.pointer (some ⟨b, 0, none⟩)] w fun e w' => e = .returned x ∧
      ∃ f' vs', Ring sf w' b room t pv f' vs' ∧ Only (RB b pv) w w' := by
  obtain ⟨hB, hP, hR, hle, hbig, hfew, helm⟩ := h
  obtain ⟨hx, hfn⟩ := ringL_head hR
  have htake := ringL_take hR (.int .u32 0)
  obtain ⟨g, rfl, hG⟩ := hP.some (by omega)
  obtain ⟨n, hn⟩ : ∃ n, vs.length = n := ⟨_, rfl⟩
  obtain ⟨i, hi⟩ : ∃ i, (f + 1) % n = i := ⟨_, rfl⟩
  obtain ⟨s, hs⟩ : ∃ s, f + 1 = s := ⟨_, rfl⟩
  rw [hn] at hfew hB hfn htake ⊢
  rw [hi] at htake
  have C := fun w h1 h2 hx => first_any b g f n x w h1 h2 hfew hfn hx
  have hbg : b ≠ g := Blk.ne hB hG (by decide)
  have hgb : g ≠ b := Ne.symm hbg
  have ht4 : t.length ≤ 4000 := by have := hR.1; simp only [List.length_cons] at this; omega
  simp only [List.length_cons] at hB hle
  have d1 : IntKind.i64.wrap ((f : Int) + 1) = (s : Int) := by rw [i64w (by omega)]; omega
  have d2 : ¬ ((n : Int) = 0) := by omega
  have d3 : Int.tmod (s : Int) (n : Int) = (i : Int) := tmod_at s n i (by rw [← hs]; exact hi)
  have d4 : IntKind.i64.wrap (((t.length + 1 : Nat) : Int) - 1) = (t.length : Int) := by rw [i64w (by omega)]; omega
  have d5 : (f : Int) ≤ (s : Int) := by omega
  have d6 : (s : Int) ≤ (n : Int) := by omega
  have d7 : s - f = 1 := by omega
  have d8 : s ≤ n := by omega
  have d9 : f ≤ s := by omega
  have HX := Lib.hid (And.intro htake (And.intro (show t.length ≤ room by omega) (And.intro hbig (And.intro (show (vs.set f (.int .u32 0)).length ≤ 4000 by rw [List.length_set]; omega) (show ∀ v ∈ t, Elm v from fun v hv => helm v (List.mem_cons_of_mem _ hv))))))
  have HB := Lib.hid hB
  have HG := Lib.hid hG
  have HC := Lib.hid (C w (hB.at 1 rfl) (hB.at 2 rfl) (hG.at f hx))
  have Hx := Lib.hid hx
  have Hn := Lib.hid hn
  clear hB hG C hx hn hi hs hR hle hbig hfew helm hP htake
  go_enter Tryz.func217, Tryz.ntmps217
  go_wp2_with fail
  refine HC.out.mono ?_
  rintro e w1 ⟨rfl, hb1⟩
  have G1 := HG.out.keep hb1
  have B1 := HB.out.keep hb1
  have p1 := B1.at 1 rfl
  have p2 := B1.at 2 rfl
  have p3 := B1.at 3 rfl
  have f2 := B1.frozen 2
  have f3 := B1.frozen 3
  have q1 := G1.at f Hx.out
  have g1 := G1.frozen f
  have HB1 := Lib.hid B1
  have HG1 := Lib.hid G1
  have HO1 := Lib.hid (Only.of_below (S := RB b (.slice (some ⟨g, 0, none⟩) n n)) hb1)
  have hcl := fun c ty => clear_one g f c ty x w1.drew (by exact q1) (by exact g1)
  clear HC HB HG B1 G1 hb1
  go_wp2_with fail
  go_region
  refine exit_letter ?_
  intro W hW
  have B2 : Blk W b 194 [.int .i64 (room : Nat), .slice (some ⟨g, 0, none⟩) n n, .int .i64 (f : Nat), .int .i64 ((t.length + 1 : Nat) : Int), sf] := by rw [hW.out]; exact (HB1.out.other (p := ⟨g, f, none⟩) hbg (.int .u32 0)).keep (Below.refl _ _).drew
  have G2 : Blk W g 23 (vs.set f (.int .u32 0)) := by rw [hW.out]; exact (HG1.out.set f (.int .u32 0)).keep (Below.refl _ _).drew
  have O2 : Only (RB b (.slice (some ⟨g, 0, none⟩) n n)) w W := by rw [hW.out]; exact (HO1.out.setCell (p := ⟨g, f, none⟩) (.inr rfl) (.int .u32 0)).trans (Only.of_below (Below.refl _ _).drew)
  clear hW hcl p1 p2 p3 f2 f3 q1 g1 HB1 HG1 HO1
  have p1 := B2.at 1 rfl
  have p2 := B2.at 2 rfl
  have f2 := B2.frozen 2
  have HB2 := Lib.hid B2
  have HG2 := Lib.hid G2
  have HO2 := Lib.hid O2
  clear B2 G2 O2
  go_wp2_with fail
  go_region
  refine exit_letter ?_
  intro W3 hW
  have B3 : Blk W3 b 194 [.int .i64 (room : Nat), .slice (some ⟨g, 0, none⟩) n n, .int .i64 (i : Nat), .int .i64 ((t.length + 1 : Nat) : Int), sf] := by rw [hW.out]; exact (HB2.out.set 2 (.int .i64 (i : Nat))).keep (Below.refl _ _).drew
  have G3 : Blk W3 g 23 (vs.set f (.int .u32 0)) := by rw [hW.out]; exact (HG2.out.other (p := ⟨b, 2, none⟩) hgb (.int .i64 (i : Nat))).keep (Below.refl _ _).drew
  have O3 : Only (RB b (.slice (some ⟨g, 0, none⟩) n n)) w W3 := by rw [hW.out]; exact (HO2.out.setCell (p := ⟨b, 2, none⟩) (.inl rfl) (.int .i64 (i : Nat))).trans (Only.of_below (Below.refl _ _).drew)
  clear hW p1 p2 f2 HB2 HG2 HO2
  have p3 := B3.at 3 rfl
  have f3 := B3.frozen 3
  have HB4 := Lib.hid (B3.set 3 (.int .i64 (t.length : Nat)))
  have HG4 := Lib.hid (G3.other (p := ⟨b, 3, none⟩) hgb (.int .i64 (t.length : Nat)))
  have HO4 := Lib.hid (O3.setCell (p := ⟨b, 3, none⟩) (.inl rfl) (.int .i64 (t.length : Nat)))
  clear B3 G3 O3
  go_wp2_with fail
  go_ret
  obtain ⟨r1, r2, r3, r4, r5⟩ := HX.out
  exact ⟨rfl, i, vs.set f (.int .u32 0), ⟨HB4.out, .inr ⟨g, by rw [List.length_set, Hn.out], HG4.out⟩, r1, r2, r3, r4, r5⟩, HO4.out⟩
end Go.Proofs.YtknhgfofmkpnfaaGreat.FL
/- Package fifo's ring of uint32: told, drop, apart. -/
namespace Go.Proofs.YtknhgfofmkpnfaaGreat.FL
open Go.RowKit Fifo
set_option linter.unusedVariables false

theorem told_none {sf : Value} (b room f : Nat) (vs : List Value) (pv ask : Value) (w : World) (h : Ring sf w b room [] pv f vs) :
    Calls Tryz.prog 216 #[.pointer (some ⟨b, 0, none⟩), ask] w fun e w' => e = .returned (.tuple #[.int .u32 0, .bool false]) ∧ Below w.heap.size w w' := by
  have p3 := h.blk.at 3 rfl
  simp only [List.length_nil] at p3
  clear h
  go_enter Tryz.func216, Tryz.ntmps216
  go_wp2_with fail
  go_ret2
  exact ⟨rfl, Below.refl _ _⟩
theorem told_some {sf : Value} (b room f F : Nat) (l vs : List Value) (pv x : Value) (w : World) (h : Ring sf w b room l pv f vs) (hl : l ≠ []) (Q : World → Prop)
    (hF : F = 217 ∨ F = 220)
    (hA : Calls Tryz.prog F #[.pointer (some ⟨b, 0, none⟩)] w fun e w' => e = .returned x ∧ Q w') :
    Calls Tryz.prog 216 #[.pointer (some ⟨b, 0, none⟩), .func (.func F) #[.pointer (some ⟨b, 0, none⟩)] #[]] w fun e w' => e = .returned (.tuple #[x, .bool true]) ∧ Q w' := by
  have hl0 : 0 < l.length := List.length_pos_iff.2 hl
  have p3 := h.blk.at 3 rfl
  obtain ⟨n, hn⟩ : ∃ n, l.length = n := ⟨_, rfl⟩
  rw [hn] at p3 hl0
  have d1 : ¬ ((n : Int) = 0) := by omega
  have HA := Lib.hid hA
  clear h hA hn hl
  rcases hF with rfl | rfl
  all_goals
    go_enter Tryz.func216, Tryz.ntmps216
    go_wp2_with fail
    refine HA.out.mono ?_
    rintro e w1 ⟨rfl, hq⟩
    have Hq := Lib.hid hq
    clear hq HA
    go_wp2_with fail
    go_ret2
    exact ⟨rfl, Hq.out⟩

theorem drew_step {w w' : World} (h : Below w.drew.heap.size w.drew w') : Below w.heap.size w w' :=
  ⟨h.os, h.tape, h.output, h.size, fun k hk => h.block k hk⟩
theorem set4 {w : World} {b c k : Nat} {v x0 x1 x2 x3 : Value} (hbc : b ≠ c) (h : w.cell? ⟨b, k, none⟩ = some v) : ((((w.setCell ⟨c, 0, none⟩ x0).setCell ⟨c, 1, none⟩ x1).setCell ⟨c, 2, none⟩ x2).setCell ⟨c, 3, none⟩ x3).cell? ⟨b, k, none⟩ = some v := by
  rw [← h]
  exact World.cell?_of_block (w := w) ((((Below.heap_setCell _ _ _ _ hbc).trans (Below.heap_setCell _ _ _ _ hbc)).trans (Below.heap_setCell _ _ _ _ hbc)).trans (Below.heap_setCell _ _ _ _ hbc))
set_option maxHeartbeats 1000000 in
theorem apart_any {sf : Value} (b room f : Nat) (l vs : List Value) (pv : Value) (w : World) (h : Ring sf w b room l pv f vs) :
    Calls Tryz.prog 239 #[.pointer (some ⟨b, 0, none⟩)] w fun e w' => ∃ g, e = .returned (.agg #[.int .i64 (room : Nat), .slice (some ⟨g, 0, none⟩) l.length l.length, .int .i64 0, .int .i64 (l.length : Nat)]) ∧
      w.heap.size ≤ g ∧ Blk w' g 23 l ∧ Below w.heap.size w w' := by
  obtain ⟨n, hn⟩ : ∃ n, l.length = n := ⟨_, rfl⟩
  have hn4 : n ≤ 4000 := by have := h.ring.1; have := h.few; omega
  have D : ∀ w', Below w.heap.size w w' → Calls Tryz.prog 224 #[.pointer (some ⟨b, 0, none⟩), .int .i64 (n : Nat)] w' fun e w'' => e = .returned (.slice (some ⟨w'.heap.size, 0, none⟩) n n) ∧
      Blk w'' w'.heap.size 23 l ∧ Below w'.heap.size w' w'' := fun w' hb => by
    have k := h.keep hb
    have A := laid_any b f n _ _ vs l pv w' k.blk rfl rfl rfl k.plc k.ring k.few (by omega) hn4 k.elm
    rw [hn, Nat.sub_self, List.replicate_zero, List.append_nil] at A
    exact A
  have p0 := h.blk.at 0 rfl
  have p3 := h.blk.at 3 rfl
  rw [hn] at p3 ⊢
  have hbl := h.blk.lt
  have HD := Lib.hid D
  have Hn := Lib.hid hn
  clear h D hn
  go_enter Tryz.func239, Tryz.ntmps239
  go_wp2_with fail
  refine region_letter 1 rfl ?_
  intro W hW
  obtain ⟨c, hc⟩ : ∃ c, w.heap.size = c := ⟨_, rfl⟩
  have hb0 : Below w.heap.size w W := by rw [hW.out]; exact (Below.refl _ w).alloc (Nat.le_refl _) _
  have hC : Blk W c 188 [.int .i64 0, .slice none 0 0, .int .i64 0, .int .i64 0] := by rw [hW.out, ← hc]; exact Blk.new w _ _
  rw [hc]
  have q0 := cell_keep hb0 p0
  have q3 := cell_keep hb0 p3
  have hbc : b ≠ c := by omega
  have hcb : c ≠ b := by omega
  have Hb0 := Lib.hid hb0
  have HC := Lib.hid hC
  have Hc := Lib.hid hc
  clear p0 p3 hb0 hC hW hc hbl
  go_region_held3 (fun w' => w'.cell? ⟨b, 0, none⟩ = some (.int .i64 (room : Nat)) ∧ w'.cell? ⟨b, 3, none⟩ = some (.int .i64 (n : Nat)))
    (first | exact ⟨cell_keep (Below.refl _ _).drew q0, cell_keep (Below.refl _ _).drew q3⟩ | exact ⟨S0, S3⟩ | assumption | exact cell_keep (Below.refl _ _).drew (by assumption) | exact HS.out.1 | exact HS.out.2 | exact HS.out)
    (first
    | (go_at_call 224; with_reducible refine (HD.out _ (Hb0.out.trans (Below.mono (Below.refl _ _).drew Hb0.out.size))).mono ?_; rintro e w2 ⟨rfl, hg2, hb2⟩; have hb3 := drew_step hb2; have S0 := cell_keep hb3 q0; have S3 := cell_keep hb3 q3; have C2 := Lib.hid (HC.out.keep hb3); have t0 := C2.out.at 0 rfl; have t1 := C2.out.at 1 rfl; have t2 := C2.out.at 2 rfl; have t3 := C2.out.at 3 rfl; have u0 := C2.out.frozen 0; have u1 := C2.out.frozen 1; have u2 := C2.out.frozen 2; have u3 := C2.out.frozen 3; have HS := Lib.hid (show (((((w2.setCell ⟨c, 0, none⟩ (.int .i64 (room : Nat))).setCell ⟨c, 1, none⟩ (.slice (some ⟨W.heap.size, 0, none⟩) n n)).setCell ⟨c, 2, none⟩ (.int .i64 0)).setCell ⟨c, 3, none⟩ (.int .i64 (n : Nat))).cell? ⟨b, 0, none⟩ = some (.int .i64 (room : Nat))) ∧ (((((w2.setCell ⟨c, 0, none⟩ (.int .i64 (room : Nat))).setCell ⟨c, 1, none⟩ (.slice (some ⟨W.heap.size, 0, none⟩) n n)).setCell ⟨c, 2, none⟩ (.int .i64 0)).setCell ⟨c, 3, none⟩ (.int .i64 (n : Nat))).cell? ⟨b, 3, none⟩ = some (.int .i64 (n : Nat))) from ⟨set4 hbc S0, set4 hbc S3⟩)))
  all_goals
    have HR := Lib.hid ((((C2.out.set 0 (.int .i64 (room : Nat))).set 1 (.slice (some ⟨W.heap.size, 0, none⟩) n n)).set 2 (.int .i64 0)).set 3 (.int .i64 (n : Nat)))
    have hgc : W.heap.size ≠ c := by have := HC.out.lt; omega
    have HG := Lib.hid (((((show Blk w2 W.heap.size 23 l from hg2).other (p := ⟨c, 0, none⟩) hgc (.int .i64 (room : Nat))).other (p := ⟨c, 1, none⟩) hgc (.slice (some ⟨W.heap.size, 0, none⟩) n n)).other (p := ⟨c, 2, none⟩) hgc (.int .i64 0)).other (p := ⟨c, 3, none⟩) hgc (.int .i64 (n : Nat)))
    have hcw : w.heap.size ≤ c := Nat.le_of_eq Hc.out
    have HL := Lib.hid (((((Hb0.out.trans (hb3.mono Hb0.out.size)).setCell (p := ⟨c, 0, none⟩) hcw (.int .i64 (room : Nat))).setCell (p := ⟨c, 1, none⟩) hcw (.slice (some ⟨W.heap.size, 0, none⟩) n n)).setCell (p := ⟨c, 2, none⟩) hcw (.int .i64 0)).setCell (p := ⟨c, 3, none⟩) hcw (.int .i64 (n : Nat)))
    have hgw : w.heap.size ≤ W.heap.size := Hb0.out.size
    obtain ⟨g, hg⟩ : ∃ g, W.heap.size = g := ⟨_, rfl⟩
    rw [hg] at HR HG HL hgw ⊢
    refine exit_letter ?_
    intro X hX
    rw [← hX.out] at HR HG HL
    have r0 := HR.out.at 0 rfl
    have r1 := HR.out.at 1 rfl
    have r2 := HR.out.at 2 rfl
    have r3 := HR.out.at 3 rfl
    clear HS S0 S3 t0 t1 t2 t3 u0 u1 u2 u3 C2 hg2 hb2 hb3 q0 q3 hX hg
    rename_i hx
    clear hx
    go_wp2_with fail
    refine bodyPost_ret (v := .agg #[.int .i64 (room : Nat), .slice (some ⟨g, 0, none⟩) n n, .int .i64 0, .int .i64 (n : Nat)]) ?_ rfl ⟨g, rfl, hgw, HG.out, HL.out⟩
    simp [results, Tryz.f239, go_sem, r0, r1, r2, r3]
end Go.Proofs.YtknhgfofmkpnfaaGreat.FL
/- Package fifo's rows of uint32: is, row, and what is asked of a row. -/
namespace Go.Proofs.YtknhgfofmkpnfaaGreat.FL
open Go.RowKit Fifo
set_option linter.unusedVariables false

/-- A row that is one: it bears its own address. -/
abbrev Fif (w : World) (b room : Nat) (l : List Value) (pv : Value) (f : Nat) (vs : List Value) : Prop := Ring ((Value.pointer (some ⟨b, 0, none⟩))) w b room l pv f vs
/-- No row: none, or a zero one. -/
def Non (w : World) (p : Value) : Prop := p = .pointer none ∨ ∃ b, p = (Value.pointer (some ⟨b, 0, none⟩)) ∧ Ring (.pointer none) w b 0 [] (.slice none 0 0) 0 []
theorem Non.keep {w w' : World} {p : Value} (h : Non w p) (hb : Below w.heap.size w w') : Non w' p := by
  rcases h with h | ⟨b, h, k⟩
  · exact .inl h
  · exact .inr ⟨b, h, k.keep hb⟩

theorem row_info : (Tryz.prog.info? 194).isSome = true := by kernel_rfl
theorem eq_own (a : Addr) (w : World) : (binOp .eql 126 (.pointer (some a)) (.pointer (some a))).run Tryz.prog w = .ok (.bool true) w := by
  obtain ⟨j, hj⟩ := Option.isSome_iff_exists.1 row_info
  exact run_eql_ptr_same w a Tryz.underlying126 hj
theorem eq_nil (a : Addr) (w : World) : (binOp .eql 126 (.pointer none) (.pointer (some a))).run Tryz.prog w = .ok (.bool false) w := by
  have h : ∀ d : Nat, (Op.equalIn (d + 1) 126 (.pointer none) (.pointer (some a))).run Tryz.prog w = .ok false w := fun d => by
    simp [Op.equalIn, run_underlying Tryz.underlying126]
  simp only [binOp]
  simp [Op.equal, Op.maxDepth, h 9999]
theorem is_some (b room f : Nat) (l vs : List Value) (pv : Value) (w : World) (h : Fif w b room l pv f vs) :
    Calls Tryz.prog 219 #[(Value.pointer (some ⟨b, 0, none⟩))] w fun e w' => e = .returned (.bool true) ∧ w = w' := by
  have p4 : w.cell? ⟨b, 4, none⟩ = some (.pointer (some ⟨b, 0, none⟩)) := h.blk.at 4 rfl
  have he := eq_own ⟨b, 0, none⟩ w
  clear h
  go_enter Tryz.func219, Tryz.ntmps219
  go_wp2_with fail
  go_ret
  exact ⟨rfl, rfl⟩
theorem is_non (p : Value) (w : World) (h : Non w p) :
    Calls Tryz.prog 219 #[p] w fun e w' => e = .returned (.bool false) ∧ w = w' := by
  rcases h with rfl | ⟨b, rfl, h⟩
  · go_enter Tryz.func219, Tryz.ntmps219
    go_wp2_with fail
    go_ret
    exact ⟨rfl, rfl⟩
  · have p4 := h.blk.at 4 rfl
    have he := eq_nil ⟨b, 0, none⟩ w
    clear h
    go_enter Tryz.func219, Tryz.ntmps219
    go_wp2_with fail
    go_ret
    exact ⟨rfl, rfl⟩
theorem row_some (b room f : Nat) (l vs : List Value) (pv : Value) (w : World) (h : Fif w b room l pv f vs) :
    Calls Tryz.prog 215 #[(Value.pointer (some ⟨b, 0, none⟩))] w fun e w' => e = .returned ((Value.pointer (some ⟨b, 0, none⟩))) ∧ w = w' := by
  have A := is_some b room f l vs pv w h
  clear h
  go_enter Tryz.func215, Tryz.ntmps215
  go_wp2_with fail
  refine A.mono ?_
  rintro e w1 ⟨rfl, rfl⟩
  clear A
  go_wp2_with fail
  go_ret
  exact ⟨rfl, rfl⟩
theorem zero_ring (w : World) : Ring (.pointer none) (w.alloc (.cells #[.int .i64 0, .slice none 0 0, .int .i64 0, .int .i64 0, .pointer none] 194)) w.heap.size 0 [] (.slice none 0 0) 0 [] :=
  ⟨Blk.new w _ _, .inl ⟨rfl, rfl⟩, ringL_self [], Nat.le_refl _, by omega, by simp, fun v h => absurd h (by simp)⟩
theorem row_non (p : Value) (w : World) (h : Non w p) :
    Calls Tryz.prog 215 #[p] w fun e w' => e = .returned (.pointer (some ⟨w.heap.size, 0, none⟩)) ∧ Ring (.pointer none) w' w.heap.size 0 [] (.slice none 0 0) 0 [] ∧ Below w.heap.size w w' := by
  have A := is_non p w h
  clear h
  go_enter Tryz.func215, Tryz.ntmps215
  go_wp2_with fail
  refine A.mono ?_
  rintro e w1 ⟨rfl, rfl⟩
  clear A
  go_wp2_with fail
  go_ret
  exact ⟨rfl, zero_ring _, (Below.refl _ _).alloc (Nat.le_refl _) _⟩

/-! ### Rows -/
theorem Put_row (b room f : Nat) (l vs : List Value) (pv x : Value) (w : World) (h : Fif w b room l pv f vs) (h9 : l.length ≤ 1900) (hx : Elm x) (ok : Bool) (l' : List Value)
    (hok : decide (l.length < room) = ok) (hl' : (if ok then l ++ [x] else l) = l') :
    Calls Tryz.prog 214 #[(Value.pointer (some ⟨b, 0, none⟩)), x] w fun e w' => e = .returned (.bool ok) ∧
      ∃ pv' f' vs', Fif w' b room l' pv' f' vs' ∧ Only (RB b pv) w w' ∧ ∀ j, PB pv' j → PB pv j ∨ w.heap.size ≤ j := by
  have A := row_some b room f l vs pv w h
  have B : Calls Tryz.prog 218 #[(Value.pointer (some ⟨b, 0, none⟩)), x] w fun e w' => e = .returned (.bool ok) ∧
      ∃ pv' f' vs', Fif w' b room l' pv' f' vs' ∧ Only (RB b pv) w w' ∧ ∀ j, PB pv' j → PB pv j ∨ w.heap.size ≤ j := by
    subst hl' hok
    by_cases hl : l.length < room
    · rw [decide_eq_true hl]
      by_cases hv : l.length < vs.length
      · refine (put_fits b room f l vs pv x w h hl hv hx).mono ?_
        rintro e w' ⟨rfl, vs', h1, h2⟩
        exact ⟨rfl, pv, f, vs', h1, h2, fun j h => .inl h⟩
      · refine (put_wide b room f l vs pv x w h hl (by have := h.ring.1; omega) h9 hx).mono ?_
        rintro e w' ⟨rfl, pv', vs', h1, h2, h3⟩
        exact ⟨rfl, pv', 0, vs', h1, h2, fun j h => .inr (h3 j h)⟩
    · rw [decide_eq_false hl]
      refine (put_no b room f l vs pv x w h (by have := h.le; omega)).mono ?_
      rintro e w' ⟨rfl, h1⟩
      exact ⟨rfl, pv, f, vs, h.keep h1, Only.of_below h1, fun j h => .inl h⟩
  have HB := Lib.hid B
  clear h hx hok hl' B h9
  go_enter Tryz.func214, Tryz.ntmps214
  go_wp2_with fail
  refine A.mono ?_
  rintro e w1 ⟨rfl, rfl⟩
  clear A
  go_wp2_with fail
  refine HB.out.mono ?_
  rintro e w1 ⟨rfl, hr⟩
  have Hr := Lib.hid hr
  clear hr HB
  go_wp2_with fail
  go_ret
  exact ⟨rfl, Hr.out⟩
theorem Len_row (b room f : Nat) (l vs : List Value) (pv : Value) (w : World) (h : Fif w b room l pv f vs) :
    Calls Tryz.prog 213 #[(Value.pointer (some ⟨b, 0, none⟩))] w fun e w' => e = .returned (.int .i64 (l.length : Nat)) ∧ w = w' := by
  have A := row_some b room f l vs pv w h
  have p3 := h.blk.at 3 rfl
  clear h
  go_enter Tryz.func213, Tryz.ntmps213
  go_wp2_with fail
  refine A.mono ?_
  rintro e w1 ⟨rfl, rfl⟩
  clear A
  go_wp2_with fail
  go_ret
  exact ⟨rfl, rfl⟩
end Go.Proofs.YtknhgfofmkpnfaaGreat.FL
/- Package fifo's rows of uint32: New, Take, First, Copy, All; what is asked of no row. -/
namespace Go.Proofs.YtknhgfofmkpnfaaGreat.FL
open Go.RowKit Go.Shelf Fifo
set_option linter.unusedVariables false
attribute [local go_sem] Oper.semAt_some

theorem rowOf_any (room n : Int) (a : Option Addr) (m k : Nat) (w : World) :
    Calls Tryz.prog 99 #[.agg #[.int .i64 room, .slice a m k, .int .i64 0, .int .i64 n]] w fun e w' => ∃ c, e = .returned (.pointer (some ⟨c, 0, none⟩)) ∧ w.heap.size ≤ c ∧
      Blk w' c 194 [.int .i64 room, .slice a m k, .int .i64 0, .int .i64 n, .pointer (some ⟨c, 0, none⟩)] ∧ Below w.heap.size w w' := by
  have HB := Lib.hid (Blk.new (w.alloc (.cells #[.int .i64 room, .slice a m k, .int .i64 0, .int .i64 n] 188)) 194 [.int .i64 room, .slice a m k, .int .i64 0, .int .i64 n, .pointer (some ⟨w.heap.size + 1, 0, none⟩)])
  rw [World.size_alloc] at HB
  have HL := Lib.hid (((Below.refl w.heap.size w).alloc (Nat.le_refl _) (.cells #[.int .i64 room, .slice a m k, .int .i64 0, .int .i64 n] 188)).alloc (by simp) (.cells #[.int .i64 room, .slice a m k, .int .i64 0, .int .i64 n, .pointer (some ⟨w.heap.size + 1, 0, none⟩)] 194))
  go_enter Tryz.func99, Tryz.ntmps99
  go_wp2_with fail
  go_ret
  exact ⟨_, rfl, by omega, HB.out, HL.out⟩
theorem New_neg (room : Int) (w : World) (h : room < 0) :
    Calls Tryz.prog 86 #[.int .i64 room] w fun e w' => e = .returned (.pointer none) ∧ Below w.heap.size w w' := by
  go_enter Tryz.func86, Tryz.ntmps86
  go_wp2_with fail
  go_ret
  exact ⟨rfl, Below.refl _ _⟩
theorem New_row (room : Nat) (w : World) (h : room < 9223372036854775808) :
    Calls Tryz.prog 86 #[.int .i64 (room : Nat)] w fun e w' => ∃ b, e = .returned (.pointer (some ⟨b, 0, none⟩)) ∧ w.heap.size ≤ b ∧ Fif w' b room [] (.slice none 0 0) 0 [] ∧ Below w.heap.size w w' := by
  have A := fun w => rowOf_any (room : Nat) 0 none 0 0 w
  go_enter Tryz.func86, Tryz.ntmps86
  go_wp2_with fail
  refine (A _).mono ?_
  rintro e w1 ⟨c, rfl, hc, hB, hb⟩
  have HB := Lib.hid hB
  clear hB A
  go_wp2_with fail
  go_ret
  exact ⟨c, rfl, hc, ⟨HB.out, .inl ⟨rfl, rfl⟩, ringL_self [], Nat.zero_le _, h, by simp, fun v h => absurd h (by simp)⟩, hb⟩

/-- What is told of the first thing. -/
def fst (l : List Value) : Value := (l.head?).getD (.int .u32 0)
theorem Take_with (b room f : Nat) (l vs : List Value) (pv x : Value) (is : Bool) (w : World) (h : Fif w b room l pv f vs) (Q : World → Prop)
    (T : ∀ w', Below w.heap.size w w' → Calls Tryz.prog 216 #[.pointer (some ⟨b, 0, none⟩), .func (.func 217) #[.pointer (some ⟨b, 0, none⟩)] #[]] w' fun e w'' => e = .returned (.tuple #[x, .bool is]) ∧ Q w'') :
    Calls Tryz.prog 212 #[.pointer (some ⟨b, 0, none⟩)] w fun e w' => e = .returned (.tuple #[x, .bool is]) ∧ Q w' := by
  have hmf : ∀ (fn : Fn) (first cap : Array Value) (w : World), (Instr.makeFunc fn first cap).run Tryz.prog w = .ok (.func fn first cap) w := fun _ _ _ _ => rfl
  have A := row_some b room f l vs pv w h
  have HT := Lib.hid T
  clear h T
  go_enter Tryz.func212, Tryz.ntmps212
  go_wp2_with fail
  refine A.mono ?_
  rintro e w1 ⟨rfl, rfl⟩
  clear A
  go_wp2_with fail
  go_region_with ((first | (go_at_call 216; refine (HT.out _ (by repeat (first | exact Below.refl _ _ | refine Below.drew ?_))).mono ?_; rintro e w2 ⟨rfl, hq⟩)))
  all_goals
    have Hq := Lib.hid hq
    clear hq HT
    go_wp2_with fail
    go_ret2
    exact ⟨rfl, Hq.out⟩
theorem Take_row (b room f : Nat) (l vs : List Value) (pv : Value) (w : World) (h : Fif w b room l pv f vs) :
    Calls Tryz.prog 212 #[.pointer (some ⟨b, 0, none⟩)] w fun e w' => e = .returned (.tuple #[fst l, .bool (!l.isEmpty)]) ∧
      ∃ f' vs', Fif w' b room l.tail pv f' vs' ∧ Only (RB b pv) w w' := by
  cases l with
  | nil =>
    refine Take_with b room f _ vs pv _ _ w h _ (fun w' hb => ?_)
    refine (told_none b room f vs pv _ w' (h.keep hb)).mono ?_
    rintro e w2 ⟨rfl, hb2⟩
    exact ⟨rfl, f, vs, (h.keep hb).keep hb2, (Only.of_below hb).trans (Only.of_below hb2)⟩
  | cons x t =>
    refine Take_with b room f _ vs pv _ _ w h _ (fun w' hb => ?_)
    refine told_some b room f _ _ vs pv x w' (h.keep hb) (by simp) _ (.inl rfl) ?_
    refine (take_any b room f t vs pv x w' (h.keep hb)).mono ?_
    rintro e w2 ⟨rfl, f', vs', h1, h2⟩
    exact ⟨rfl, f', vs', h1, (Only.of_below hb).trans h2⟩
theorem Copy_row (b room f : Nat) (l vs : List Value) (pv : Value) (w : World) (h : Fif w b room l pv f vs) :
    Calls Tryz.prog 237 #[.pointer (some ⟨b, 0, none⟩)] w fun e w' => ∃ c pv', e = .returned (.pointer (some ⟨c, 0, none⟩)) ∧ w.heap.size ≤ c ∧ (∀ j, PB pv' j → w.heap.size ≤ j) ∧
      Fif w' c room l pv' 0 l ∧ Below w.heap.size w w' := by
  have A := is_some b room f l vs pv w h
  have P := apart_any b room f l vs pv w h
  have hl4 : l.length ≤ 4000 := by have := h.ring.1; have := h.few; omega
  obtain ⟨n, hn⟩ : ∃ n, l.length = n := ⟨_, rfl⟩
  rw [hn] at P
  have HX := Lib.hid (And.intro h.le (And.intro h.big (And.intro hl4 h.elm)))
  have O := fun w g => rowOf_any (room : Nat) (n : Nat) (some ⟨g, 0, none⟩) n n w
  clear h hl4
  have HP := Lib.hid P
  have HO := Lib.hid O
  have Hn := Lib.hid hn
  clear P O hn
  go_enter Tryz.func237, Tryz.ntmps237
  go_wp2_with fail
  refine A.mono ?_
  rintro e w1 ⟨rfl, rfl⟩
  clear A
  go_wp2_with fail
  refine HP.out.mono ?_
  rintro e w1 ⟨g, rfl, hgw, hg, hb⟩
  clear HP
  have Hg := Lib.hid hg
  have Hb := Lib.hid hb
  have Hgw := Lib.hid hgw
  clear hg hb hgw
  go_wp2_with fail
  refine (HO.out _ g).mono ?_
  rintro e w2 ⟨c, rfl, hc, hB, hb2⟩
  have HB := Lib.hid hB
  have Hc := Lib.hid (Nat.le_trans Hb.out.size hc)
  have Hb2 := Lib.hid (Hb.out.trans (hb2.mono Hb.out.size))
  have Hg2 := Lib.hid (Hg.out.keep hb2)
  clear HO hB hc hb2
  go_wp2_with fail
  go_ret
  obtain ⟨r1, r2, r3, r4⟩ := HX.out
  exact ⟨c, .slice (some ⟨g, 0, none⟩) n n, rfl, Hc.out, (fun j hj => by simp [PB, Value.ownBlock] at hj; subst hj; exact Hgw.out), ⟨by rw [Hn.out]; exact HB.out, .inr ⟨g, by rw [Hn.out], Hg2.out⟩, ringL_self l, r1, r2, r3, r4⟩, Hb2.out⟩
theorem All_any (p : Option Addr) (w : World) :
    Calls Tryz.prog 238 #[.pointer p] w fun e w' => e = .returned (.func (.func 240) #[] #[.pointer (some ⟨w.heap.size, 0, none⟩)]) ∧ w' = w.alloc (.cells #[.pointer p] 126) := by
  have hmf : ∀ (fn : Fn) (first cap : Array Value) (w : World), (Instr.makeFunc fn first cap).run Tryz.prog w = .ok (.func fn first cap) w := fun _ _ _ _ => rfl
  go_enter Tryz.func238, Tryz.ntmps238
  go_wp2_with fail
  go_ret
  exact ⟨rfl, rfl⟩
end Go.Proofs.YtknhgfofmkpnfaaGreat.FL
/- Package fifo's rows of uint32 gone through: All's function, as a function that is ranged over. -/
namespace Go.Proofs.YtknhgfofmkpnfaaGreat.FL
open Go.RowKit Go.Shelf Fifo
set_option linter.unusedVariables false
attribute [local go_sem] Oper.semAt_some

theorem yieldAt_any {n n' : Nat} {P : Program} {l : Nat} {args : Array Value} {W : World} {R : Ending → World → Prop} (h : YieldAt Fence.wide n P l args W R) : YieldAt Fence.wide n' P l args W R := by
  obtain ⟨fn, tmps, assign, body, hy, hr⟩ := h
  exact ⟨fn, tmps, assign, body, hy, ⟨trivial, fun c cs _ => hr.2 c cs (room_wide _)⟩⟩

set_option maxRecDepth 100000 in
set_option maxHeartbeats 1000000 in
theorem seq_row (m : Nat) (hm : 2 ≤ m) (box b room f : Nat) (l vs : List Value) (pv : Value) (w : World) (hbox : Blk w box 126 [.pointer (some ⟨b, 0, none⟩)]) (h : Fif w b room l pv f vs) :
    SeqC Fence.wide m Tryz.prog 240 (fun lp => #[] ++ #[.func (.yield lp) #[] #[]] ++ #[.pointer (some ⟨box, 0, none⟩)]) l.length (els l) (fun _ => False) w := by
  intro lp J Jx T0 W hb hlp1 hlp2 hJ hJx hT hK hY h0
  have k := h.keep hb
  have q0 := (hbox.keep hb).at 0 rfl
  have R := row_some b room f l vs pv W k
  have P := apart_any b room f l vs pv W k
  have hl4 : l.length ≤ 4000 := by have := k.ring.1; have := k.few; omega
  obtain ⟨n, hn⟩ : ∃ n, l.length = n := ⟨_, rfl⟩
  rw [hn] at P
  have HR := Lib.hid R
  have HP := Lib.hid P
  have E : ∀ (w1 : World) (g : Nat), Below W.heap.size W w1 → W.heap.size ≤ g → Blk w1 g 23 l →
      CallsIn Fence.wide (m - 1) Tryz.prog 225 #[.pointer (some ⟨w1.heap.size, 0, none⟩), .func (.yield lp) #[] #[]] (w1.alloc (.cells #[.int .i64 (room : Nat), .slice (some ⟨g, 0, none⟩) n n, .int .i64 0, .int .i64 (n : Nat)] 188))
        fun e W' => (∃ v, e = .returned v) ∧ ∃ T', (J n T' W' ∨ ∃ k, k < n ∧ Jx (k + 1) T' W') := by
    intro w1 g hb1 hg hG
    rw [← hn]
    have hb2 : Below W.heap.size W (w1.alloc (.cells #[.int .i64 (room : Nat), .slice (some ⟨g, 0, none⟩) l.length l.length, .int .i64 0, .int .i64 (l.length : Nat)] 188)) := hb1.alloc hb1.size _
    have hgl := hG.lt
    have hs := hb1.size
    refine each_seq (m - 1) (by omega) w1.heap.size 0 188 [.int .i64 (room : Nat), .slice (some ⟨g, 0, none⟩) l.length l.length, .int .i64 0, .int .i64 (l.length : Nat)] l l (.slice (some ⟨g, 0, none⟩) l.length l.length) _
      (Blk.new w1 _ _) rfl rfl rfl (.inr ⟨g, rfl, hG.alloc _⟩) (ringL_self l) hl4 lp J Jx T0 _ (Below.refl _ _) ?_ (by simp; omega) hJ hJx hT ?_ (fun k T X hk hj => yieldAt_any (hY k T X hk hj)) (hJ _ _ _ _ h0 hb2)
    · rintro (hh | hh)
      · omega
      · simp [PB, Value.ownBlock] at hh
        omega
    · intro j hj hh
      have := hT _ _ _ _ h0 hj
      rcases hh with hh | hh
      · omega
      · simp [PB, Value.ownBlock] at hh
        omega
  have HE := Lib.hid E
  have hm1 : 1 ≤ m := by omega
  rw [hn]
  clear k h R P E hY hJ hJx hT hK h0 hl4 hn hlp1 hlp2 hb hbox
  show CallsIn Fence.wide m Tryz.prog 240 #[.func (.yield lp) #[] #[], .pointer (some ⟨box, 0, none⟩)] W _
  refine callsIn_of_wp Tryz.func240 rfl trivial ?_ rfl
  simp only [Tryz.ntmps240, List.size_toArray, List.length_cons, List.length_nil, Nat.reduceAdd, Nat.reduceSub, Array.replicate_succ, Array.replicate_zero, List.push_toArray, List.append_toArray, List.nil_append, List.cons_append]
  gi_wp2_with (first
    | (refine ⟨trivial, ?_⟩; gi_at_call 215; refine (callsIn_wide.2 HR.out).mono ?_; rintro e w1 ⟨rfl, rfl⟩)
    | (refine ⟨trivial, ?_⟩; gi_at_call 239; refine (callsIn_wide.2 HP.out).mono ?_; rintro e w1 ⟨g, rfl, hg, hG, hb1⟩; have Hg := Lib.hid hg; have HG := Lib.hid hG; have Hb1 := Lib.hid hb1; clear hg hG hb1)
    | (refine ⟨trivial, ?_⟩; gi_at_call 225; refine (HE.out _ g Hb1.out Hg.out HG.out).mono ?_; rintro e w2 ⟨⟨v, rfl⟩, hq⟩; have Hq := Lib.hid hq; clear hq))

  go_end0
  exact ⟨⟨_, rfl⟩, Hq.out⟩
end Go.Proofs.YtknhgfofmkpnfaaGreat.FL
/- What is told of no row of uint32. -/
namespace Go.Proofs.YtknhgfofmkpnfaaGreat.FL
open Go.RowKit Go.Shelf Fifo
set_option linter.unusedVariables false
attribute [local go_sem] Oper.semAt_some

theorem Put_non (p x : Value) (w : World) (h : Non w p) :
    Calls Tryz.prog 214 #[p, x] w fun e w' => e = .returned (.bool false) ∧ Below w.heap.size w w' := by
  have A := row_non p w h
  clear h
  go_enter Tryz.func214, Tryz.ntmps214
  go_wp2_with fail
  refine A.mono ?_
  rintro e w1 ⟨rfl, hr, hb⟩
  have P := put_no _ 0 0 [] [] _ x w1 hr rfl
  have Hb := Lib.hid hb
  clear A hr hb
  go_wp2_with fail
  refine P.mono ?_
  rintro e w2 ⟨rfl, hb2⟩
  clear P
  go_wp2_with fail
  go_ret
  exact ⟨rfl, Hb.out.trans (hb2.mono Hb.out.size)⟩
theorem Len_non (p : Value) (w : World) (h : Non w p) :
    Calls Tryz.prog 213 #[p] w fun e w' => e = .returned (.int .i64 0) ∧ Below w.heap.size w w' := by
  have A := row_non p w h
  clear h
  go_enter Tryz.func213, Tryz.ntmps213
  go_wp2_with fail
  refine A.mono ?_
  rintro e w1 ⟨rfl, hr, hb⟩
  have p3 : w1.cell? ⟨w.heap.size, 3, none⟩ = some (.int .i64 0) := hr.blk.at 3 rfl
  clear A hr
  go_wp2_with fail
  go_ret
  exact ⟨rfl, hb⟩
theorem Copy_non (p : Value) (w : World) (h : Non w p) :
    Calls Tryz.prog 237 #[p] w fun e w' => e = .returned (.pointer none) ∧ Below w.heap.size w w' := by
  have A := is_non p w h
  clear h
  go_enter Tryz.func237, Tryz.ntmps237
  go_wp2_with fail
  refine A.mono ?_
  rintro e w1 ⟨rfl, rfl⟩
  clear A
  go_wp2_with fail
  go_ret
  exact ⟨rfl, Below.refl _ _⟩
theorem Take_non (p : Value) (w : World) (h : Non w p) :
    Calls Tryz.prog 212 #[p] w fun e w' => e = .returned (.tuple #[.int .u32 0, .bool false]) ∧ Below w.heap.size w w' := by
  have hmf : ∀ (fn : Fn) (first cap : Array Value) (w : World), (Instr.makeFunc fn first cap).run Tryz.prog w = .ok (.func fn first cap) w := fun _ _ _ _ => rfl
  have A := row_non p w h
  clear h
  go_enter Tryz.func212, Tryz.ntmps212
  go_wp2_with fail
  refine A.mono ?_
  rintro e w1 ⟨rfl, hr, hb⟩
  have P := fun ask w' (hb : Below w1.heap.size w1 w') => told_none _ 0 0 [] _ ask w' (hr.keep hb)
  have HP := Lib.hid P
  have Hb := Lib.hid hb
  clear A hr hb P
  go_wp2_with fail
  go_region_with ((first | (go_at_call 216; refine (HP.out _ _ (by repeat (first | exact Below.refl _ _ | refine Below.drew ?_))).mono ?_; rintro e w2 ⟨rfl, hq⟩)))
  all_goals
    have Hq := Lib.hid (drew_step hq)
    clear hq HP
    go_wp2_with fail
    go_ret2
    exact ⟨rfl, Hb.out.trans (Hq.out.mono Hb.out.size)⟩
set_option maxRecDepth 100000 in
set_option maxHeartbeats 1000000 in
theorem seq_non (m : Nat) (hm : 2 ≤ m) (box : Nat) (p : Value) (w : World) (hbox : Blk w box 126 [p]) (h : Non w p) :
    SeqC Fence.wide m Tryz.prog 240 (fun lp => #[] ++ #[.func (.yield lp) #[] #[]] ++ #[.pointer (some ⟨box, 0, none⟩)]) 0 (els []) (fun _ => False) w := by
  intro lp J Jx T0 W hb hlp1 hlp2 hJ hJx hT hK hY h0
  have k := h.keep hb
  have q0 := (hbox.keep hb).at 0 rfl
  have R := row_non p W k
  have E : ∀ (w0 w1 : World) (b g : Nat), Below W.heap.size W w0 → Ring (.pointer none) w0 b 0 [] (.slice none 0 0) 0 [] → Below W.heap.size W w1 → W.heap.size ≤ g → Blk w1 g 23 [] →
      CallsIn Fence.wide (m - 1) Tryz.prog 225 #[.pointer (some ⟨w1.heap.size, 0, none⟩), .func (.yield lp) #[] #[]] (w1.alloc (.cells #[.int .i64 0, .slice (some ⟨g, 0, none⟩) 0 0, .int .i64 0, .int .i64 0] 188))
        fun e W' => (∃ v, e = .returned v) ∧ ∃ T', (J 0 T' W' ∨ ∃ k, k < 0 ∧ Jx (k + 1) T' W') := by
    intro w0 w1 b g _ _ hb1 hg hG
    have hb2 : Below W.heap.size W (w1.alloc (.cells #[.int .i64 0, .slice (some ⟨g, 0, none⟩) 0 0, .int .i64 0, .int .i64 0] 188)) := hb1.alloc hb1.size _
    have hgl := hG.lt
    have hs := hb1.size
    refine each_seq (m - 1) (by omega) w1.heap.size 0 188 [.int .i64 0, .slice (some ⟨g, 0, none⟩) 0 0, .int .i64 0, .int .i64 0] [] [] (.slice (some ⟨g, 0, none⟩) 0 0) _
      (Blk.new w1 _ _) rfl rfl rfl (.inr ⟨g, rfl, hG.alloc _⟩) (ringL_self []) (by simp) lp J Jx T0 _ (Below.refl _ _) ?_ (by simp; omega) hJ hJx hT ?_ (fun k T X hk hj => yieldAt_any (hY k T X hk hj)) (hJ _ _ _ _ h0 hb2)
    · rintro (hh | hh)
      · omega
      · simp [PB, Value.ownBlock] at hh
        omega
    · intro j hj hh
      have := hT _ _ _ _ h0 hj
      rcases hh with hh | hh
      · omega
      · simp [PB, Value.ownBlock] at hh
        omega
  have HE := Lib.hid E
  have HR := Lib.hid R
  have hm1 : 1 ≤ m := by omega
  clear k h R E hY hJ hJx hT hK h0 hlp1 hlp2 hb hbox
  show CallsIn Fence.wide m Tryz.prog 240 #[.func (.yield lp) #[] #[], .pointer (some ⟨box, 0, none⟩)] W _
  refine callsIn_of_wp Tryz.func240 rfl trivial ?_ rfl
  simp only [Tryz.ntmps240, List.size_toArray, List.length_cons, List.length_nil, Nat.reduceAdd, Nat.reduceSub, Array.replicate_succ, Array.replicate_zero, List.push_toArray, List.append_toArray, List.nil_append, List.cons_append]
  gi_wp2_with (first
    | (refine ⟨trivial, ?_⟩; gi_at_call 215; refine (callsIn_wide.2 HR.out).mono ?_; rintro e w0 ⟨rfl, hr0, hb0⟩; have Hr0 := Lib.hid hr0; have Hb0 := Lib.hid hb0; clear hr0 hb0)
    | (refine ⟨trivial, ?_⟩; gi_at_call 239; refine (callsIn_wide.2 (apart_any _ 0 0 [] [] _ w0 Hr0.out)).mono ?_; rintro e w1 ⟨g, rfl, hg, hG, hb1⟩; have Hg := Lib.hid (Nat.le_trans Hb0.out.size hg); have HG := Lib.hid hG; have Hb1 := Lib.hid (Hb0.out.trans (hb1.mono Hb0.out.size)); clear hg hG hb1)
    | (refine ⟨trivial, ?_⟩; gi_at_call 225; refine (HE.out w0 _ _ g Hb0.out Hr0.out Hb1.out Hg.out HG.out).mono ?_; rintro e w2 ⟨⟨v, rfl⟩, hq⟩; have Hq := Lib.hid hq; clear hq))
  go_end0
  exact ⟨⟨_, rfl⟩, Hq.out⟩
/-- All, asked of no row. -/
theorem All_non (p : Option Addr) (w : World) (h : Non w (.pointer p)) :
    Calls Tryz.prog 238 #[.pointer p] w fun e w' => ∃ box, e = .returned (.func (.func 240) #[] #[.pointer (some ⟨box, 0, none⟩)]) ∧ Below w.heap.size w w' ∧
      ∀ m w'', 2 ≤ m → Below w'.heap.size w' w'' → SeqC Fence.wide m Tryz.prog 240 (fun lp => #[] ++ #[.func (.yield lp) #[] #[]] ++ #[.pointer (some ⟨box, 0, none⟩)]) 0 (els []) (fun _ => False) w'' := by
  refine (All_any p w).mono ?_
  rintro e w' ⟨rfl, rfl⟩
  have hb0 := (Below.refl w.heap.size w).alloc (Nat.le_refl _) (.cells #[.pointer p] 126)
  exact ⟨_, rfl, hb0, fun m w'' hm hb => seq_non m hm _ (.pointer p) w'' ((Blk.new w _ [_]).keep hb) ((h.keep hb0).keep hb)⟩
end Go.Proofs.YtknhgfofmkpnfaaGreat.FL
/- Package fifo's rows of uint32, with the blocks that are theirs. -/
namespace Go.Proofs.YtknhgfofmkpnfaaGreat.FL
open Go.RowKit Fifo
set_option linter.unusedVariables false

/-- A row: so much room, these things, these blocks. -/
def St (w : World) (b room : Nat) (l : List Value) (O : Nat → Prop) : Prop := ∃ pv f vs, Fif w b room l pv f vs ∧ O = RB b pv
theorem St.only {S O : Nat → Prop} {w w' : World} {b room : Nat} {l : List Value} (h : St w b room l O) (ho : Only S w w') (hn : ∀ j, O j → ¬ S j) : St w' b room l O := by
  obtain ⟨pv, f, vs, h, rfl⟩ := h
  exact ⟨pv, f, vs, h.only ho (hn b (.inl rfl)) (fun j hj => hn j (.inr hj)), rfl⟩
theorem St.keep {O : Nat → Prop} {w w' : World} {b room : Nat} {l : List Value} (h : St w b room l O) (hb : Below w.heap.size w w') : St w' b room l O := by
  obtain ⟨pv, f, vs, h, rfl⟩ := h
  exact ⟨pv, f, vs, h.keep hb, rfl⟩
theorem St.book {B : Nat} {O : Nat → Prop} {w w' : World} {b room : Nat} {l : List Value} (h : St w b room l O) (hb : Book B w w') : St w' b room l O := by
  obtain ⟨pv, f, vs, h, rfl⟩ := h
  exact ⟨pv, f, vs, h.book hb, rfl⟩
theorem St.lt {O : Nat → Prop} {w : World} {b room : Nat} {l : List Value} (h : St w b room l O) : ∀ j, O j → j < w.heap.size := by
  obtain ⟨pv, f, vs, h, rfl⟩ := h
  exact fun j hj => hj.elim (fun e => e ▸ h.blk.lt) (h.plc.lt j)
theorem St.le {O : Nat → Prop} {w : World} {b room : Nat} {l : List Value} (h : St w b room l O) : l.length ≤ room := by
  obtain ⟨pv, f, vs, h, rfl⟩ := h
  exact h.le
theorem St.elm {O : Nat → Prop} {w : World} {b room : Nat} {l : List Value} (h : St w b room l O) : ∀ v ∈ l, Elm v := by
  obtain ⟨pv, f, vs, h, rfl⟩ := h
  exact h.elm
theorem St.few {O : Nat → Prop} {w : World} {b room : Nat} {l : List Value} (h : St w b room l O) : l.length ≤ 4000 := by
  obtain ⟨pv, f, vs, h, rfl⟩ := h
  have := h.ring.1
  have := h.few
  omega

theorem New_st (room : Nat) (w : World) (h : room < 9223372036854775808) :
    Calls Tryz.prog 86 #[.int .i64 (room : Nat)] w fun e w' => ∃ b O, e = .returned (.pointer (some ⟨b, 0, none⟩)) ∧ St w' b room [] O ∧ (∀ j, O j → w.heap.size ≤ j) ∧ Below w.heap.size w w' := by
  refine (New_row room w h).mono ?_
  rintro e w' ⟨b, rfl, hb, hf, hbl⟩
  exact ⟨b, _, rfl, ⟨_, _, _, hf, rfl⟩, fun j hj => hj.elim (fun e => e ▸ hb) (fun e => by simp [PB, Value.ownBlock] at e), hbl⟩
theorem Put_st (b room : Nat) (l l' : List Value) (O : Nat → Prop) (x : Value) (ok : Bool) (w : World) (h : St w b room l O) (h9 : l.length ≤ 1900) (hx : Elm x) (hok : decide (l.length < room) = ok) (hl' : (if ok then l ++ [x] else l) = l') :
    Calls Tryz.prog 214 #[.pointer (some ⟨b, 0, none⟩), x] w fun e w' => e = .returned (.bool ok) ∧
      ∃ O', St w' b room l' O' ∧ Only O w w' ∧ ∀ j, O' j → O j ∨ w.heap.size ≤ j := by
  obtain ⟨pv, f, vs, h, rfl⟩ := h
  refine (Put_row b room f l vs pv x w h h9 hx ok l' hok hl').mono ?_
  rintro e w' ⟨rfl, pv', f', vs', h1, h2, h3⟩
  exact ⟨rfl, _, ⟨_, _, _, h1, rfl⟩, h2, fun j hj => hj.elim (fun e => .inl (.inl e)) (fun e => (h3 j e).imp .inr id)⟩
theorem Take_st (b room : Nat) (l : List Value) (O : Nat → Prop) (w : World) (h : St w b room l O) :
    Calls Tryz.prog 212 #[.pointer (some ⟨b, 0, none⟩)] w fun e w' => e = .returned (.tuple #[fst l, .bool (!l.isEmpty)]) ∧ St w' b room l.tail O ∧ Only O w w' := by
  obtain ⟨pv, f, vs, h, rfl⟩ := h
  refine (Take_row b room f l vs pv w h).mono ?_
  rintro e w' ⟨rfl, f', vs', h1, h2⟩
  exact ⟨rfl, ⟨_, _, _, h1, rfl⟩, h2⟩
theorem Take_cons (b room : Nat) (x : Value) (l : List Value) (O : Nat → Prop) (w : World) (h : St w b room (x :: l) O) :
    Calls Tryz.prog 212 #[.pointer (some ⟨b, 0, none⟩)] w fun e w' => e = .returned (.tuple #[x, .bool true]) ∧ St w' b room l O ∧ Only O w w' := Take_st b room (x :: l) O w h
theorem Take_nil (b room : Nat) (O : Nat → Prop) (w : World) (h : St w b room [] O) :
    Calls Tryz.prog 212 #[.pointer (some ⟨b, 0, none⟩)] w fun e w' => e = .returned (.tuple #[.int .u32 0, .bool false]) ∧ St w' b room [] O ∧ Only O w w' := Take_st b room [] O w h
theorem Len_st (b room : Nat) (l : List Value) (O : Nat → Prop) (w : World) (h : St w b room l O) :
    Calls Tryz.prog 213 #[.pointer (some ⟨b, 0, none⟩)] w fun e w' => e = .returned (.int .i64 (l.length : Nat)) ∧ w = w' := by
  obtain ⟨pv, f, vs, h, rfl⟩ := h
  exact Len_row b room f l vs pv w h
theorem Copy_st (b room : Nat) (l : List Value) (O : Nat → Prop) (w : World) (h : St w b room l O) :
    Calls Tryz.prog 237 #[.pointer (some ⟨b, 0, none⟩)] w fun e w' => ∃ c O', e = .returned (.pointer (some ⟨c, 0, none⟩)) ∧ St w' c room l O' ∧ (∀ j, O' j → w.heap.size ≤ j) ∧ Below w.heap.size w w' := by
  obtain ⟨pv, f, vs, h, rfl⟩ := h
  refine (Copy_row b room f l vs pv w h).mono ?_
  rintro e w' ⟨c, pv', rfl, h1, h2, h3, h4⟩
  exact ⟨c, _, rfl, ⟨_, _, _, h3, rfl⟩, fun j hj => hj.elim (fun e => e ▸ h1) (h2 j), h4⟩
/-- All, asked of a row: its function, over a box that is new. -/
theorem All_st (b room : Nat) (l : List Value) (O : Nat → Prop) (w : World) (h : St w b room l O) :
    Calls Tryz.prog 238 #[.pointer (some ⟨b, 0, none⟩)] w fun e w' => ∃ box, e = .returned (.func (.func 240) #[] #[.pointer (some ⟨box, 0, none⟩)]) ∧ w.heap.size ≤ box ∧ Below w.heap.size w w' ∧
      ∀ m w'', 2 ≤ m → Below w'.heap.size w' w'' → SeqC Fence.wide m Tryz.prog 240 (fun lp => #[] ++ #[.func (.yield lp) #[] #[]] ++ #[.pointer (some ⟨box, 0, none⟩)]) l.length (els l) (fun _ => False) w'' := by
  obtain ⟨pv, f, vs, h, rfl⟩ := h
  refine (All_any _ w).mono ?_
  rintro e w' ⟨rfl, rfl⟩
  have hb0 := (Below.refl w.heap.size w).alloc (Nat.le_refl _) (.cells #[.pointer (some ⟨b, 0, none⟩)] 126)
  exact ⟨_, rfl, Nat.le_refl _, hb0, fun m w'' hm hb => seq_row m hm _ b room f l vs pv w'' ((Blk.new w _ [_]).keep hb) ((h.keep hb0).keep hb)⟩
end Go.Proofs.YtknhgfofmkpnfaaGreat.FL
