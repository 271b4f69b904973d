/- Put together: S6t, S6r, S6u, S6v. -/
import Derived.Test.YtmdepkehpohgeaaS6a
import Derived.Test.YtmdepkehpohgeaaBa
import Derived.Test.YtmdepkehpohgeaaFa
import Derived.Test.YtmdepkehpohgeaaS6e
import Derived.Laws.OwnMore
import Derived.Deep.QuietTactic
import Derived.Test.YtmdepkehpohgeaaBn
import Derived.Test.YtmdepkehpohgeaaVc
import Derived.Maps.AppendAt
/- The document's row of holds. -/
namespace Go.Proofs.Ytmdepkehpohgeaa.Scr
open Go.RowKit Go.Maps Go.ChangeShapes Go.WideShapes Go.ChangeAt Fifo Orow Word
set_option linter.unusedVariables false

def kv (l : List Int) : List Value := l.map fun x => .int .i64 x
theorem pb_ba {a : Option Addr} {n c j : Nat} (h : BA a j) : PB (.slice a n c) j := by
  obtain ⟨b, rfl, rfl⟩ := h
  rfl
theorem ba_pb {a : Option Addr} {n c j : Nat} (h : PB (.slice a n c) j) : BA a j := by
  cases a with
  | none => simp [PB, Value.ownBlock] at h
  | some b =>
    have : b.block = j := Option.some.inj h
    rw [← this]
    exact ⟨b, rfl, rfl⟩
theorem flHd_o : ∀ (l : List Hd) (p : Nat) (x : Int), p < l.length → (flHd l).set (p * 3) (.int .i64 x) = flHd (l.set p ⟨x, l[p]!.l, l[p]!.n⟩)
  | [], p, x, h => by simp at h
  | y :: t, 0, x, h => by simp [flHd, encHd]
  | y :: t, p + 1, x, h => by
    have e : flHd (y :: t) = encHd y ++ flHd t := by simp [flHd]
    have e3 : (encHd y).length = 3 := rfl
    have ih := flHd_o t p x (by simpa using h)
    rw [e, List.set_append_right _ _ (by rw [e3]; omega), show (p + 1) * 3 - (encHd y).length = p * 3 by rw [e3]; omega, ih]
    simp [flHd]
theorem flHd_l : ∀ (l : List Hd) (p : Nat) (x : Int), p < l.length → (flHd l).set (p * 3 + 1) (.int .i64 x) = flHd (l.set p ⟨l[p]!.o, x, l[p]!.n⟩)
  | [], p, x, h => by simp at h
  | y :: t, 0, x, h => by simp [flHd, encHd]
  | y :: t, p + 1, x, h => by
    have e : flHd (y :: t) = encHd y ++ flHd t := by simp [flHd]
    have e3 : (encHd y).length = 3 := rfl
    have ih := flHd_l t p x (by simpa using h)
    rw [e, List.set_append_right _ _ (by rw [e3]; omega), show (p + 1) * 3 + 1 - (encHd y).length = p * 3 + 1 by rw [e3]; omega, ih]
    simp [flHd]
theorem flHd_app (l m : List Hd) : flHd (l ++ m) = flHd l ++ flHd m := by simp [flHd]
theorem flHd_put {l : List Hd} {n : Nat} {g : Hd} (h : n < l.length) : (flHd l).take (n * 3) ++ encHd g ++ (flHd l).drop (n * 3 + 3) = flHd (l.set n g) := by
  have hs : l = l.take n ++ l[n] :: l.drop (n + 1) := by rw [List.getElem_cons_drop, List.take_append_drop]
  have ht : (l.take n).length = n := by rw [List.length_take]; omega
  have e : l.set n g = l.take n ++ g :: l.drop (n + 1) := by
    conv => lhs; rw [hs]
    rw [List.set_append_right _ _ (by omega), ht, Nat.sub_self, List.set_cons_zero]
  have e1 : flHd l = flHd (l.take n) ++ (encHd l[n] ++ flHd (l.drop (n + 1))) := by
    conv => lhs; rw [hs]
    rw [flHd_app]; rfl
  have el : (flHd (l.take n)).length = n * 3 := by rw [flHd_len, ht]
  rw [e, flHd_app, e1, List.take_append_of_le_length (by omega), List.take_of_length_le (by omega), List.drop_append, el, List.drop_of_length_le (by omega), show n * 3 + 3 - n * 3 = 3 by omega]
  simp [flHd, encHd]
end Go.Proofs.Ytmdepkehpohgeaa.Scr
/- The document's row of holds: Of, Tick. -/
namespace Go.Proofs.Ytmdepkehpohgeaa.Scr
open Go.RowKit Go.Maps Go.ChangeShapes Go.WideShapes Go.ChangeAt Fifo Orow Word
set_option linter.unusedVariables false

theorem row_at {w : World} {B g m cl k : Nat} {L : List Hd} (h : w.ownsRow B 41 3 (.slice (some ⟨g, 0, none⟩) m cl) m (flHd L)) (hk : k < L.length) :
    w.cell? ⟨g, k * 3, none⟩ = some (.int .i64 L[k]!.o) ∧ w.cell? ⟨g, k * 3 + 1, none⟩ = some (.int .i64 L[k]!.l) ∧ w.cell? ⟨g, k * 3 + 2, none⟩ = some (.int .i64 L[k]!.n) := by
  have hc := own_cells h _ rfl
  have c : ∀ t v, t < 3 → (encHd L[k]!)[t]? = some v → w.cell? ⟨g, k * 3 + t, none⟩ = some v := fun t v ht hv => by
    have := hc (k * 3 + t) v (by rw [flHd_get L k t hk ht]; exact hv)
    rwa [Go.WideShapes.add_plain, Nat.zero_add] at this
  exact ⟨c 0 _ (by omega) rfl, c 1 _ (by omega) rfl, c 2 _ (by omega) rfl⟩
theorem row_frozen {w : World} {B g m cl : Nat} {xs : List Value} (h : w.ownsRow B 41 3 (.slice (some ⟨g, 0, none⟩) m cl) m xs) (k : Nat) : w.frozen? ⟨g, k, none⟩ = false := by
  obtain ⟨cur, q1, _⟩ := own_blk h
  exact q1.frozen k
theorem take_snoc {s : List Hd} {k : Nat} (h : k < s.length) : s.take (k + 1) = s.take k ++ [s[k]!] := by
  rw [List.take_add_one, List.getElem?_eq_getElem h, getElem!_pos s k h]; rfl
theorem nums_snoc (p : Hd → Bool) {s : List Hd} {k : Nat} (h : k < s.length) : numsF p 0 (s.take (k + 1)) = numsF p 0 (s.take k) ++ (if p s[k]! then [k] else []) := by
  rw [take_snoc h, nums_app]
  simp [List.length_take, Nat.min_eq_left (Nat.le_of_lt h)]
theorem Dlist_letter {P : Program} {ops : Array Oper} {Q : Exit → Act → World → Prop} {l : List Oper} {a : Act} {w : World} (h : ∀ W, Hid (W = w) → wpList P ops Q l a W) : wpList P ops Q l a w := h w (Lib.hid rfl)
theorem cell_one_set (Y : World) (a : Addr) (v u : Value) (t : TypeId) : ∀ j x, [u][j]? = some x → ((Y.setCell a v).alloc (.cells #[u] t)).cell? ((⟨Y.heap.size, 0, none⟩ : Addr).add j) = some x := by
  have e : (Y.setCell a v).heap.size = Y.heap.size := by simp [World.setCell]
  intro j x hx
  have := Orow.cells_new (Y.setCell a v) [u] t j x hx
  rwa [e] at this
/-- The holds, k of them one tick later. -/
def tickK (l : List Hd) (k : Nat) : List Hd := (l.take k).map tickH ++ l.drop k
theorem tickK_len (l : List Hd) (k : Nat) : (tickK l k).length = l.length := by
  unfold tickK
  rw [List.length_append, List.length_map, List.length_take, List.length_drop]
  omega
theorem tickK_0 (l : List Hd) : tickK l 0 = l := by simp [tickK]
theorem tickK_all (l : List Hd) : tickK l l.length = l.map tickH := by simp [tickK]
theorem tickK_at {l : List Hd} {k : Nat} (h : k < l.length) : (tickK l k)[k]! = l[k]! := by
  have h1 : ((l.take k).map tickH).length = k := by rw [List.length_map, List.length_take]; omega
  rw [getElem!_pos _ _ (by rw [tickK_len]; exact h), getElem!_pos l k h]
  unfold tickK
  rw [List.getElem_append_right (by omega), List.getElem_drop]
  congr 1
  rw [h1]
  omega
theorem tickK_succ {l : List Hd} {k : Nat} (h : k < l.length) : tickK l (k + 1) = (tickK l k).set k (tickH l[k]!) := by
  have h1 : ((l.take k).map tickH).length = k := by rw [List.length_map, List.length_take]; omega
  unfold tickK
  rw [take_snoc h, List.map_append, List.set_append_right _ _ (by omega), h1, Nat.sub_self, List.drop_eq_getElem_cons h, List.set_cons_zero, List.append_assoc]
  rfl
theorem set_same {l : List Hd} {k : Nat} (h : k < l.length) : l.set k l[k]! = l := by
  rw [getElem!_pos l k h]; exact List.set_getElem_self h
end Go.Proofs.Ytmdepkehpohgeaa.Scr
/- The document's row of holds: New. -/
namespace Go.Proofs.Ytmdepkehpohgeaa.Scr
open Go.RowKit Go.Maps Go.ChangeShapes Go.WideShapes Go.ChangeAt Fifo Orow Word
set_option linter.unusedVariables false

theorem info_k : (Try.prog.info? 34).map (fun i => (i.zero, i.size, i.bytes)) = some (some (.int .i64 0), 1, 8) := by kernel_rfl
theorem info_h : (Try.prog.info? 41).map (fun i => (i.zero, i.size, i.bytes)) = some (some (.agg #[.int .i64 0, .int .i64 0, .int .i64 0]), 3, 24) := by kernel_rfl
/-- An append, as one operation of a drawn region; where the row lies then. -/
theorem oper_append_at {P : Program} {o : Oper} {a : Act} {w : World} {K : Act → World → Prop} {Q : Exit → Act → World → Prop} (s x : Operand) (t : TypeId)
    (ho : o.op = .call { callee := .builtin .append, args := #[s, x], argTypes := #[t, t] })
    (base : Nat) (e : TypeId) (i : TypeInfo) (z : Value) (size bytes : Nat) (ht : P.underlying t = some (.slice e)) (hi : P.info? e = some i) (hz : i.zero = some z)
    (hsize : i.size = size) (hby : i.bytes = bytes) (hzs : z.cells.size = size) (hsz : 0 < size)
    (v : Value) (n : Nat) (xs : List Value) (hs : a.eval s = v) (hown : w.ownsRow base e size v n xs)
    (ad : Addr) (m c : Nat) (news : List Value) (hx : a.eval x = .slice (some ad) m c) (hl : news.length = m * size) (hnews : ∀ j u, news[j]? = some u → w.cell? (ad.add j) = some u) (h1 : ∀ u ∈ news, u.oneCell' = true)
    (h63 : n + m ≤ maxLen) (hbytes : (n + m) * bytes ≤ 140737488355328) (hbase : base ≤ w.heap.size)
    (h : ∀ v' w', w'.ownsRow base e size v' (n + m) (xs ++ news) → w.grownBy w' v.ownBlock → (v'.ownBlock = v.ownBlock ∨ v'.ownBlock = some w.heap.size) → K (a.put o.dst v') w') : Oper.wp P o a w K Q := by
  obtain ⟨v', w', hr, h2, h3, h4, h5⟩ := run_append_own_at (P := P) w base t o.type e i z size bytes ht hi hz hsize hby hzs hsz v n xs hown ad m c news hl hnews h1 h63 hbytes hbase
  unfold Oper.wp execOp
  simp only [ho, resolve, invoke, builtin, Sem.run_bind, Sem.run_pure, Result.andThen_ok, List.map_toArray, List.map_cons, List.map_nil, hs, hx, hr]
  exact h v' w' h2 h3 h5
theorem pb_far {vk vl v' : Value} {n : Nat} (h : ∀ j, PB vk j → ¬ PB vl j) (hl : ∀ j, PB vl j → j < n) (h4 : v'.ownBlock = vk.ownBlock ∨ ∃ m, n ≤ m ∧ v'.ownBlock = some m) : ∀ j, PB v' j → ¬ PB vl j := by
  intro j hj
  rcases h4 with e | ⟨m, hm, e⟩
  · exact h j (by unfold PB at hj ⊢; rw [← e]; exact hj)
  · have : j = m := by unfold PB at hj; rw [e] at hj; exact (Option.some.inj hj).symm
    intro k
    have := hl j k
    omega
theorem KitInts_base {w : World} {b n sz : Nat} {e : TypeId} {v : Value} {L : List Value} (h : w.ownsRow b e sz v n L) : w.ownsRow 0 e sz v n L := own_mono h (Nat.zero_le _)
/-- The rows under way. -/
structure Made (B : Nat) (w : World) (vk vl : Value) (k : Nat) (l : List Win.Dv) : Prop where
  kin : w.ownsRow B 34 1 vk k (kv ((newS l).K.take k))
  hol : w.ownsRow B 41 3 vl k (flHd ((newS l).H.take k))
  kl : ∀ j, PB vk j → ¬ PB vl j
end Go.Proofs.Ytmdepkehpohgeaa.Scr
