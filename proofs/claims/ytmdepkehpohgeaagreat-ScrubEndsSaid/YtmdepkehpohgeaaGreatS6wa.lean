/- Package scrub: the row in memory; is, row; what is asked of a hold. -/
import Derived.Test.YtmdepkehpohgeaaGreatS6a
import Derived.Test.YtmdepkehpohgeaaGreatS6y
import Derived.Test.YtmdepkehpohgeaaGreatS6e
import Derived.Test.YtmdepkehpohgeaaGreatFw
import Derived.Test.YtmdepkehpohgeaaGreatOw
import Derived.LaidEqlPtr
namespace Go.Proofs.YtmdepkehpohgeaaGreat.Scr
open Go.RowKit Go.Maps Go.ChangeShapes Go.WideShapes Go.ChangeAt Fifo Orow Word
set_option linter.unusedVariables false

def Hk.hd (x : Hk) : Hd := ⟨x.o, x.l, x.n⟩
def mkH (h : Hd) (k : Int) : Hk := ⟨h.o, h.l, h.n, k⟩
/-- The tables are laid below Bk. -/
def Laid (w : World) (Bk : Nat) : Prop := True
theorem Laid.keep {w w' : World} {Bk : Nat} (h : Laid w Bk) (hb : Below Bk w w') : Laid w' Bk := trivial
/-- A row of holds in block b, its holds in a. -/
structure InB (w : World) (b : Nat) (s : RS) (a : Option Addr) (c : Nat) (L : List Hk) : Prop where
  ok : OkS s
  hd : L.map Hk.hd = s.H
  kn : L.map Hk.k = s.K
  blk : Blk w b 49 [.slice a L.length c, .pointer (some ⟨b, 0, none⟩)]
  row : w.ownsRow 0 81 4 (.slice a L.length c) L.length (flHk L)
  ne : ¬ BA a b
theorem InB.len {w : World} {b : Nat} {s : RS} {a : Option Addr} {c : Nat} {L : List Hk} (h : InB w b s a c L) : L.length = s.H.length := by rw [← h.hd, List.length_map]
theorem InB.at {w : World} {b : Nat} {s : RS} {a : Option Addr} {c : Nat} {L : List Hk} (h : InB w b s a c L) {j : Nat} (hj : j < L.length) : L[j]!.hd = s.H[j]! ∧ L[j]!.k = s.K[j]! := by
  have e1 : s.H[j]! = (L.map Hk.hd)[j]! := by rw [h.hd]
  have e2 : s.K[j]! = (L.map Hk.k)[j]! := by rw [h.kn]
  rw [e1, e2, getElem!_pos L j hj, getElem!_pos (L.map Hk.hd) j (by rw [List.length_map]; exact hj), getElem!_pos (L.map Hk.k) j (by rw [List.length_map]; exact hj), List.getElem_map, List.getElem_map]
  exact ⟨rfl, rfl⟩
theorem InB.only {S : Nat → Prop} {w w' : World} {b : Nat} {s : RS} {a : Option Addr} {c : Nat} {L : List Hk} (h : InB w b s a c L) (ho : Only S w w') (hb : ¬ S b) (hn : ∀ j, BA a j → ¬ S j) : InB w' b s a c L :=
  ⟨h.ok, h.hd, h.kn, h.blk.only ho hb, own_only h.row ho hn, h.ne⟩
def Row (Bk : Nat) (w : World) (b : Nat) (s : RS) (O : Nat → Prop) : Prop := ∃ a c L, InB w b s a c L ∧ Bk ≤ b ∧ (∀ j, BA a j → Bk ≤ j) ∧ ∀ j, O j ↔ j = b ∨ BA a j
theorem Row.only {S O : Nat → Prop} {Bk : Nat} {w w' : World} {b : Nat} {s : RS} (h : Row Bk w b s O) (ho : Only S w w') (hn : ∀ j, O j → ¬ S j) (hS : ∀ j, S j → Bk ≤ j) : Row Bk w' b s O := by
  obtain ⟨a, c, L, hi, h1, h2, h3⟩ := h
  exact ⟨a, c, L, hi.only ho (hn b ((h3 b).2 (.inl rfl))) (fun j hj => hn j ((h3 j).2 (.inr hj))), h1, h2, h3⟩
theorem Row.keep {O : Nat → Prop} {Bk : Nat} {w w' : World} {b : Nat} {s : RS} (h : Row Bk w b s O) (hb : Below w.heap.size w w') : Row Bk w' b s O :=
  h.only (S := fun _ => False) (Only.of_below hb) (fun _ _ h => h) (fun _ h => h.elim)
theorem Row.lt {O : Nat → Prop} {Bk : Nat} {w : World} {b : Nat} {s : RS} (h : Row Bk w b s O) : ∀ j, O j → Bk ≤ j ∧ j < w.heap.size := by
  obtain ⟨a, c, L, hi, h1, h2, h3⟩ := h
  intro j hj
  rcases (h3 j).1 hj with rfl | hj
  · exact ⟨h1, hi.blk.lt⟩
  · exact ⟨h2 j hj, (own_lt hi.row j hj).2⟩
theorem Row.ok {O : Nat → Prop} {Bk : Nat} {w : World} {b : Nat} {s : RS} (h : Row Bk w b s O) : OkS s := by
  obtain ⟨a, c, L, hi, _⟩ := h
  exact hi.ok
/-- What a method leaves. -/
def Left (Bk : Nat) (w w' : World) (b : Nat) (s : RS) (O : Nat → Prop) : Prop := ∃ O', Row Bk w' b s O' ∧ Only O w w' ∧ ∀ j, O' j → O j ∨ w.heap.size ≤ j
theorem Left.same {O : Nat → Prop} {Bk : Nat} {w w' : World} {b : Nat} {s : RS} (h : Row Bk w b s O) (hb : Below w.heap.size w w') : Left Bk w w' b s O :=
  ⟨O, h.keep hb, Only.of_below hb, fun j hj => .inl hj⟩
/-- No row: none at all, or one that was not answered. -/
def ZeroAt (w : World) (b : Nat) : Prop := Blk w b 49 [.slice none 0 0, .pointer none]
/-- The cells of one that was not answered. -/
def zeroCells : Array Value := #[.slice none 0 0, .pointer none]
theorem zero_new (w : World) : ZeroAt (w.alloc (.cells zeroCells 49)) w.heap.size := Blk.new w _ [.slice none 0 0, .pointer none]
theorem ZeroAt.keep {w w' : World} {b : Nat} (h : ZeroAt w b) (hb : Below w.heap.size w w') : ZeroAt w' b := Blk.keep h hb
def Non (w : World) (v : Value) : Prop := v = .pointer none ∨ ∃ b, v = .pointer (some ⟨b, 0, none⟩) ∧ ZeroAt w b
theorem Non.keep {w w' : World} {v : Value} (h : Non w v) (hb : Below w.heap.size w w') : Non w' v := by
  rcases h with rfl | ⟨b, rfl, h⟩
  · exact .inl rfl
  · exact .inr ⟨b, rfl, h.keep hb⟩
theorem hk_at {w : World} {B g m cl k : Nat} {L : List Hk} (h : w.ownsRow B 81 4 (.slice (some ⟨g, 0, none⟩) m cl) m (flHk L)) (hk : k < L.length) :
    w.cell? ⟨g, k * 4, none⟩ = some (.int .i64 L[k]!.o) ∧ w.cell? ⟨g, k * 4 + 1, none⟩ = some (.int .i64 L[k]!.l) ∧ w.cell? ⟨g, k * 4 + 2, none⟩ = some (.int .i64 L[k]!.n) ∧ w.cell? ⟨g, k * 4 + 3, none⟩ = some (.int .i64 L[k]!.k) := by
  have hc := own_cells h _ rfl
  have c : ∀ t v, t < 4 → (encHk L[k]!)[t]? = some v → w.cell? ⟨g, k * 4 + t, none⟩ = some v := fun t v ht hv => by
    have := hc (k * 4 + t) v (by rw [flHk_get L k t hk ht]; exact hv)
    rwa [Go.WideShapes.add_plain, Nat.zero_add] at this
  exact ⟨c 0 _ (by omega) rfl, c 1 _ (by omega) rfl, c 2 _ (by omega) rfl, c 3 _ (by omega) rfl⟩
theorem hk_frozen {w : World} {B g m cl : Nat} {xs : List Value} (h : w.ownsRow B 81 4 (.slice (some ⟨g, 0, none⟩) m cl) m xs) (k : Nat) : w.frozen? ⟨g, k, none⟩ = false := by
  obtain ⟨cur, q1, _⟩ := own_blk h
  exact q1.frozen k

theorem row_info : (Tryz.prog.info? 49).isSome = true := by kernel_rfl
theorem eq_own (a : Addr) (w : World) : (binOp .eql 26 (.pointer (some a)) (.pointer (some a))).run Tryz.prog w = .ok (.bool true) w := by
  obtain ⟨j, hj⟩ := Option.isSome_iff_exists.1 row_info
  exact run_eql_ptr_same w a Tryz.underlying26 hj
theorem eq_nil (a : Addr) (w : World) : (binOp .eql 26 (.pointer none) (.pointer (some a))).run Tryz.prog w = .ok (.bool false) w := by
  have h : ∀ d : Nat, (Op.equalIn (d + 1) 26 (.pointer none) (.pointer (some a))).run Tryz.prog w = .ok false w := fun d => by
    simp [Op.equalIn, run_underlying Tryz.underlying26]
  simp only [binOp]
  simp [Op.equal, Op.maxDepth, h 9999]
theorem is_yes (b : Nat) (w : World) (h : w.cell? ⟨b, 1, none⟩ = some (.pointer (some ⟨b, 0, none⟩))) :
    Calls Tryz.prog 44 #[.pointer (some ⟨b, 0, none⟩)] w fun e w' => e = .returned (.bool true) ∧ w = w' := by
  have he := eq_own ⟨b, 0, none⟩ w
  go_enter Tryz.func44, Tryz.ntmps44
  go_wp2_with fail
  go_ret
  exact ⟨rfl, rfl⟩
theorem is_non (v : Value) (w : World) (h : Non w v) :
    Calls Tryz.prog 44 #[v] w fun e w' => e = .returned (.bool false) ∧ w = w' := by
  rcases h with rfl | ⟨b, rfl, h⟩
  · go_enter Tryz.func44, Tryz.ntmps44
    go_wp2_with fail
    go_ret
    exact ⟨rfl, rfl⟩
  · have c1 : w.cell? ⟨b, 1, none⟩ = some (.pointer none) := Blk.at h 1 rfl
    have he := eq_nil ⟨b, 0, none⟩ w
    clear h
    go_enter Tryz.func44, Tryz.ntmps44
    go_wp2_with fail
    go_ret
    exact ⟨rfl, rfl⟩
theorem row_yes (b : Nat) (w : World) (h : w.cell? ⟨b, 1, none⟩ = some (.pointer (some ⟨b, 0, none⟩))) :
    Calls Tryz.prog 41 #[.pointer (some ⟨b, 0, none⟩)] w fun e w' => e = .returned (.pointer (some ⟨b, 0, none⟩)) ∧ w = w' := by
  have H := Lib.hid (is_yes b w h)
  clear h
  go_enter Tryz.func41, Tryz.ntmps41
  go_wp2_with fail
  refine H.out.mono ?_
  rintro e w1 ⟨rfl, rfl⟩
  clear H
  go_wp2_with fail
  go_ret
  exact ⟨rfl, rfl⟩
theorem row_non (v : Value) (w : World) (h : Non w v) :
    Calls Tryz.prog 41 #[v] w fun e w' => e = .returned (.pointer (some ⟨w.heap.size, 0, none⟩)) ∧ Blk w' w.heap.size 49 [.slice none 0 0, .pointer none] ∧ Below w.heap.size w w' := by
  have H := Lib.hid (is_non v w h)
  clear h
  go_enter Tryz.func41, Tryz.ntmps41
  go_wp2_with fail
  refine H.out.mono ?_
  rintro e w1 ⟨rfl, rfl⟩
  clear H
  go_wp2_with fail
  go_ret
  exact ⟨rfl, Blk.new w _ [.slice none 0 0, .pointer none], (Below.refl _ _).alloc (Nat.le_refl _) _⟩

/- What is asked of a hold. -/
abbrev kV (x : Hk) : Value := .agg #[.int .i64 x.o, .int .i64 x.l, .int .i64 x.n, .int .i64 x.k]
theorem owned_any (o l n k : Int) (w : World) :
    Calls Tryz.prog 43 #[.agg #[.int .i64 o, .int .i64 l, .int .i64 n, .int .i64 k]] w fun e w' => e = .returned (.bool (!(o == -1))) ∧ Below w.heap.size w w' := by
  go_enter Tryz.func43, Tryz.ntmps43
  go_wp2_with fail
  go_ret
  exact ⟨rfl, (Below.refl _ _).alloc (Nat.le_refl _) _⟩
theorem scrubbed_any (o l n k : Int) (w : World) :
    Calls Tryz.prog 52 #[.agg #[.int .i64 o, .int .i64 l, .int .i64 n, .int .i64 k]] w fun e w' => e = .returned (.bool (decide (0 < l))) ∧ Below w.heap.size w w' := by
  go_enter Tryz.func52, Tryz.ntmps52
  go_wp2_with fail
  go_ret
  exact ⟨rfl, (Below.refl _ _).alloc (Nat.le_refl _) _⟩
theorem any_any (o l n k : Int) (w : World) :
    Calls Tryz.prog 54 #[.agg #[.int .i64 o, .int .i64 l, .int .i64 n, .int .i64 k]] w fun e w' => e = .returned (.bool true) ∧ Below w.heap.size w w' := by
  go_enter Tryz.func54, Tryz.ntmps54
  go_wp2_with fail
  go_ret
  exact ⟨rfl, (Below.refl _ _).alloc (Nat.le_refl _) _⟩
theorem had_any (o : Int) (w : World) :
    Calls Tryz.prog 49 #[.int .i64 o] w fun e w' => e = .returned (hV ⟨o, 0, -1⟩) ∧ Below w.heap.size w w' := by
  go_enter Tryz.func49, Tryz.ntmps49
  go_wp2_with fail
  have hb := Blk.new w 52 [.int .i64 o, .int .i64 0, .int .i64 (-1)]
  have r0 := hb.at 0 rfl
  have r1 := hb.at 1 rfl
  have r2 := hb.at 2 rfl
  refine bodyPost_ret (v := hV ⟨o, 0, -1⟩) ?_ rfl ⟨rfl, (Below.refl _ _).alloc (Nat.le_refl _) _⟩
  simp [results, Tryz.results49, go_sem]
theorem free_any' (w : World) :
    Calls Tryz.prog 64 #[] w fun e w' => e = .returned (hV freeH) ∧ Below w.heap.size w w' := by
  go_enter Tryz.func64, Tryz.ntmps64
  go_wp2_with fail
  refine (had_any (-1) _).mono ?_
  rintro e w1 ⟨rfl, hb⟩
  have z := (Blk.new w 52 [.int .i64 0, .int .i64 0, .int .i64 0]).keep hb
  have B := Lib.hid (((Below.refl w.heap.size w).alloc (Nat.le_refl _) (.cells #[.int .i64 0, .int .i64 0, .int .i64 0] 52)).trans (hb.mono (by simp)))
  have Z := Lib.hid z
  have z0 := z.at 0 rfl
  have z1 := z.at 1 rfl
  have z2 := z.at 2 rfl
  have f0 := z.frozen 0
  have f1 := z.frozen 1
  have f2 := z.frozen 2
  clear hb z
  go_wp2_with fail
  refine post_letter ?_
  intro X hX
  have q : Blk X w.heap.size 52 [.int .i64 (-1), .int .i64 0, .int .i64 (-1)] := by rw [hX.out]; exact ((Z.out.set 0 (.int .i64 (-1))).set 1 (.int .i64 0)).set 2 (.int .i64 (-1))
  have BX : Below w.heap.size w X := by rw [hX.out]; exact ((B.out.setCell (p := ⟨w.heap.size, 0, none⟩) (Nat.le_refl _) _).setCell (p := ⟨w.heap.size, 1, none⟩) (Nat.le_refl _) _).setCell (p := ⟨w.heap.size, 2, none⟩) (Nat.le_refl _) _
  have r0 := q.at 0 rfl
  have r1 := q.at 1 rfl
  have r2 := q.at 2 rfl
  refine bodyPost_ret (v := hV freeH) ?_ rfl ⟨rfl, BX⟩
  simp [results, Tryz.results64, go_sem, freeH, r0, r1, r2]
theorem isWorld_any (x : Int) (w : World) :
    Calls Tryz.prog 45 #[.int .i64 x] w fun e w' => e = .returned (.bool (isW x)) ∧ Below w.heap.size w w' := by
  unfold isW
  by_cases h : 0 ≤ x
  · have d : decide (0 ≤ x) = true := decide_eq_true h
    have e : decide (0 ≤ x ∧ x < 8) = decide (x < 8) := by simp [h]
    rw [e]
    go_enter Tryz.func45, Tryz.ntmps45
    go_wp2_with fail
    go_ret
    exact ⟨rfl, Below.refl _ _⟩
  · have d : decide (0 ≤ x) = false := decide_eq_false h
    have e : decide (0 ≤ x ∧ x < 8) = false := decide_eq_false (fun k => h k.1)
    rw [e]
    go_enter Tryz.func45, Tryz.ntmps45
    go_wp2_with fail
    go_ret
    exact ⟨rfl, Below.refl _ _⟩
end Go.Proofs.YtmdepkehpohgeaaGreat.Scr
