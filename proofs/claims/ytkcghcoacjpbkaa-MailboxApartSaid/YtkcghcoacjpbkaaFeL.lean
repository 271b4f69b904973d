/- Package fifo's ring of uint32: laid. -/
import Derived.Test.YtkcghcoacjpbkaaFdL
import Derived.RangeFuncNested
import Derived.OwnWalk
import Derived.Shelf.Abstract
namespace Go.Proofs.Ytkcghcoacjpbkaa.FL
open Go.RowKit Go.Shelf Fifo
set_option linter.unusedVariables false
attribute [local go_sem] Oper.semAt_some

theorem info_e : (Try.prog.info? 28).map (fun i => (i.zero, i.size, i.bytes)) = some (some (.int .u32 0), 1, 4) := by kernel_rfl
theorem made_one (v : Value) (m : Nat) : (madeCells #[v] m).toList = List.replicate m v := by
  apply List.ext_getElem
  · simp [madeCells]
  · intro i h1 h2
    simp [madeCells, Nat.mod_one]
/-- make([]uint32, n): the worlds behind it. -/
theorem make_any (n : Nat) (hn : n ≤ 4000) : ∃ mk : World → World, ∀ W : World, (Instr.makeSlice 27 (.int .i64 (n : Int)) (.int .i64 (n : Int))).run Try.prog W = .ok (.slice (some ⟨W.heap.size, 0, none⟩) n n) (mk W) ∧
    Blk (mk W) W.heap.size 28 (List.replicate n (.int .u32 0)) ∧ Below W.heap.size W (mk W) := by
  obtain ⟨i0, hi, hz0, hz1, hz2⟩ := info_parts info_e
  have h : ∀ W : World, ∃ W', (Instr.makeSlice 27 (.int .i64 (n : Int)) (.int .i64 (n : Int))).run Try.prog W = .ok (.slice (some ⟨W.heap.size, 0, none⟩) n n) W' ∧
      Blk W' W.heap.size 28 (List.replicate n (.int .u32 0)) ∧ Below W.heap.size W W' := fun W => by
    obtain ⟨W', a, b, c⟩ := run_make_full (P := Try.prog) W 0 27 28 i0 (.int .u32 0) 1 Try.underlying27 hi hz0 hz1 .i64 .i64 n (by rw [hz2]; omega) (by unfold maxLen; omega) (Nat.zero_le _)
    refine ⟨W', a, ?_, (Below.refl _ W).grown c (Nat.le_refl _) (fun k e => by cases e)⟩
    have hp := plc_of_row b
    rw [show (.int .u32 0 : Value).cells = #[.int .u32 0] from rfl, made_one, Nat.mul_one] at hp
    rcases hp with ⟨h, _⟩ | ⟨g, h, hb⟩
    · simp at h
    · simp only [Value.slice.injEq, Option.some.injEq, Addr.mk.injEq, and_true] at h
      rw [h.1]
      exact hb
  exact ⟨fun W => (h W).choose, fun W => (h W).choose_spec⟩

/-- A thing of the row's type. -/
def Elm (v : Value) : Prop := ∃ z, v = .int .u32 z
/-- So far filled. -/
def filled (l : List Value) (size k : Nat) : List Value := l.take k ++ List.replicate (size - k) (.int .u32 0)
theorem filled_zero (l : List Value) (size : Nat) : filled l size 0 = List.replicate size (.int .u32 0) := by simp [filled]
theorem filled_all (l : List Value) (size : Nat) : filled l size l.length = l ++ List.replicate (size - l.length) (.int .u32 0) := by simp [filled]
theorem filled_len (l : List Value) {size k : Nat} (h : l.length ≤ size) (hk : k ≤ l.length) : (filled l size k).length = size := by simp [filled]; omega
theorem filled_set (l : List Value) {size k : Nat} {x : Value} (h : l.length ≤ size) (hk : l[k]? = some x) : (filled l size k).set k x = filled l size (k + 1) := by
  have hk2 : k < l.length := (List.getElem?_eq_some_iff.1 hk).1
  have e : l.take (k + 1) = l.take k ++ [x] := by rw [List.take_add_one, hk]; rfl
  have e2 : List.replicate (size - k) (.int .u32 0 : Value) = (.int .u32 0) :: List.replicate (size - (k + 1)) (.int .u32 0) := by
    rw [← List.replicate_succ]; congr 1; omega
  unfold filled
  rw [e, e2, List.set_append_right _ _ (by simp; omega)]
  simp [Nat.min_eq_left (Nat.le_of_lt hk2)]

set_option maxRecDepth 100000 in
set_option maxHeartbeats 1000000 in
theorem laid_any (b f size : Nat) (t : TypeId) (cs vs l : List Value) (pv : Value) (w : World) (hB : Blk w b t cs) (c1 : cs[1]? = some pv) (c2 : cs[2]? = some (.int .i64 (f : Nat))) (c3 : cs[3]? = some (.int .i64 (l.length : Nat)))
    (hP : Plc w 28 pv vs) (hR : RingL vs f l) (h4 : vs.length ≤ 4000) (hs : l.length ≤ size) (hs4 : size ≤ 4000) (he : ∀ v ∈ l, Elm v) :
    Calls Try.prog 54 #[.pointer (some ⟨b, 0, none⟩), .int .i64 (size : Nat)] w fun e w' => e = .returned (.slice (some ⟨w.heap.size, 0, none⟩) size size) ∧
      Blk w' w.heap.size 28 (l ++ List.replicate (size - l.length) (.int .u32 0)) ∧ Below w.heap.size w w' := by
  have hmf : ∀ (fn : Fn) (first cap : Array Value) (w : World), (Instr.makeFunc fn first cap).run Try.prog w = .ok (.func fn first cap) w := fun _ _ _ _ => rfl
  obtain ⟨mk, hmk⟩ := make_any size hs4
  obtain ⟨e1, e2, e3⟩ := hmk w
  refine (callsIn_wide (n := 4)).1 ?_
  refine callsIn_of_wp_marks Try.func54 rfl trivial ?_ rfl
  simp only [Try.ntmps54, List.size_toArray, List.length_cons, List.length_nil, Nat.reduceAdd, Nat.reduceSub, Array.replicate_succ, Array.replicate_zero, List.push_toArray, List.append_toArray, List.nil_append, List.cons_append]
  gi_wp2
  obtain ⟨M, hM⟩ : ∃ M, mk w = M := ⟨_, rfl⟩
  rw [hM] at e2 e3 ⊢
  clear hM hmk e1 hmf
  have hb0 : Below w.heap.size w (M.alloc (.cells #[.slice (some ⟨w.heap.size, 0, none⟩) size size] 27)) := e3.trans (((Below.refl _ M).alloc (Nat.le_refl _) _).mono e3.size)
  have hg := e2.lt
  have hbl := hB.lt
  have hpl := hP.lt
  have hlen := hR.1
  refine range_law rfl (by omega) (gf := 51) (bound := #[.pointer (some ⟨b, 0, none⟩)]) (lb := #[]) rfl trivial (enters_of Try.func51 (by kernel_rfl) rfl)
    (each_seq 3 (by omega) b f t cs vs l pv _ (hB.keep hb0) c1 c2 c3 (hP.keep hb0) hR h4) (fun _ => rfl) (fun j hj => Nat.lt_of_lt_of_le (hj.elim (fun e => by omega) (hpl j)) hb0.size)
    (fun k T X => (T = fun j => j = w.heap.size) ∧ Blk X w.heap.size 28 (filled l size k) ∧ Blk X M.heap.size 27 [.slice (some ⟨w.heap.size, 0, none⟩) size size] ∧ Below w.heap.size w X)
    (fun _ _ _ _ => False) (fun j => j = w.heap.size) (fun j hj hn => by subst hj; exact hn.elim (fun h => by omega) (fun h => by have := hpl _ h; omega)) (fun j hj => by simp; omega)
    (fun k T W W' h hk => ⟨h.1, h.2.1.book hk, h.2.2.1.book hk, hk.below h.2.2.2 (by simp; omega)⟩) (fun _ _ _ _ _ h _ => h) (fun k T W j h hj => by rw [h.1] at hj; subst hj; exact h.2.1.lt)
    ⟨rfl, by rw [filled_zero]; exact e2.alloc _, Blk.new M _ [_], hb0⟩
    ?round ?done ?stop
  case round =>
    intro lp k T W0 hk
    obtain ⟨x, hx⟩ : ∃ x, l[k]? = some x := ⟨_, List.getElem?_eq_getElem hk⟩
    obtain ⟨z, rfl⟩ := he x (List.mem_of_getElem? hx)
    rw [show els l k = #[.int .i64 (k : Nat), .int .u32 z] by simp [els, hx]]
    gi_wp2
    refine ⟨trivial, ?_⟩
    rintro W hsz ⟨rfl, h1, h2, h3⟩ hT
    have q1 : W.cell? ⟨M.heap.size, 0, none⟩ = some (.slice (some ⟨w.heap.size, 0, none⟩) size size) := h2.at 0 rfl
    obtain ⟨y, hy⟩ : ∃ y, (filled l size k)[k]? = some y := ⟨_, List.getElem?_eq_getElem (by rw [filled_len l hs (Nat.le_of_lt hk)]; omega)⟩
    have q2 := h1.at k hy
    have q3 := h1.frozen k
    have H1 := Lib.hid (filled_set l hs hx ▸ h1.set k (.int .u32 z))
    have H2 := Lib.hid (h2.other (p := ⟨w.heap.size, k, none⟩) (by show M.heap.size ≠ w.heap.size; omega) (.int .u32 z))
    have H3 := Lib.hid (h3.setCell (p := ⟨w.heap.size, k, none⟩) (Nat.le_refl _) (.int .u32 z))
    have Ho := Lib.hid (Only.setCell (Only.refl (fun j => j = w.heap.size) W) (p := ⟨w.heap.size, k, none⟩) rfl (.int .u32 z))
    have hks : k < size := by omega
    clear h1 h2 h3 hy hT
    gi_wp2
    exact ⟨_, fun j h => .inl h, Ho.out, rfl, H1.out, H2.out, H3.out⟩
  case done =>
    rintro T W ⟨_, h1, h2, h3⟩ hD
    have q1 : W.cell? ⟨M.heap.size, 0, none⟩ = some (.slice (some ⟨w.heap.size, 0, none⟩) size size) := h2.at 0 rfl
    rw [filled_all] at h1
    have H1 := Lib.hid h1
    have H3 := Lib.hid h3
    have HD := Lib.hid hD
    clear h1 h2 h3 hD
    gi_wp2
    have Hk := Lib.hid (Book.put (B := w.heap.size) (o' := .deferred none) (by simp; omega) HD.out rfl)
    refine ⟨by simp, .inl ⟨_, _, rfl, run_takeDeferred HD.out, ?_⟩⟩
    exact ⟨_, results_tmp rfl _ _ _, rfl, H1.out.book Hk.out, Hk.out.below H3.out (Nat.le_refl _)⟩
  case stop =>
    intro c k T W _ h
    exact h.elim
end Go.Proofs.Ytkcghcoacjpbkaa.FL
