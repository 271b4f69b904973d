/- Put together: Ja, Ju, Jv, Jx, Jy, Jw. -/
import Derived.Test.YtknhgfofmkpnfaaGreatBa
import Derived.Test.YtknhgfofmkpnfaaGreatOw
import Derived.Test.YtknhgfofmkpnfaaGreatFl
import Derived.Laws.BitsAllLaws
import Derived.LaidEqlPtr
import Derived.Deep.RegionHeld3
import Derived.Deep.RegionWith
import Derived.OwnWalk
import Derived.RangeFuncNested
import Derived.Laws.OwnMore
import Derived.Maps.OwnIn
/- Plain: what a mailbox has; what is read, written. -/
namespace Go.Proofs.YtknhgfofmkpnfaaGreat.Mbox
set_option linter.unusedVariables false

structure Bx where
  W : List Int
  C : Int
  L : Int
def zeroX : Bx := ⟨[], 0, 0⟩
def OkW (l : List Int) : Prop := ∀ x, x ∈ l → 0 ≤ x ∧ x < 4294967296
structure OkX (u : Bx) : Prop where
  w : OkW u.W ∧ u.W.length ≤ 4
  c : 0 ≤ u.C ∧ u.C ≤ 1
  l : 0 ≤ u.L ∧ u.L < 4294967296
/-- What is read, and what stays. -/
def readX (u : Bx) (reg : Int) : Int × Bx :=
  if reg = 0 then (match u.W with
    | [] => (0, u)
    | b :: t => (b, { u with W := t }))
  else if reg = 1 then ((u.W.length : Int), u) else if reg = 2 then (u.C, u) else if reg = 3 then (u.L, u) else (0, u)
def writeX (u : Bx) (reg v : Int) : Bx :=
  if reg = 0 then (if u.W.length < 4 then { u with W := u.W ++ [v] } else if u.L < 4294967295 then { u with L := u.L + 1 } else u)
  else if reg = 2 then { u with C := v % 2 } else if reg = 3 then { u with L := 0 } else u
def lineX (u : Bx) : Bool := decide (u.C = 1 ∧ 0 < u.W.length)
theorem okW_snoc {l : List Int} {b : Int} (h : OkW l) (hb : 0 ≤ b ∧ b < 4294967296) : OkW (l ++ [b]) := by
  intro x hx
  rcases List.mem_append.mp hx with h1 | h1
  · exact h x h1
  · rw [List.mem_singleton.mp h1]; exact hb
theorem okW_tail {b : Int} {t : List Int} (h : OkW (b :: t)) : OkW t := fun x hx => h x (List.mem_cons_of_mem _ hx)
theorem okW_nil : OkW [] := fun x hx => absurd hx (by simp)
theorem okX_zero : OkX zeroX := ⟨⟨okW_nil, by decide⟩, ⟨by decide, by decide⟩, ⟨by decide, by decide⟩⟩
theorem okX_read {u : Bx} (h : OkX u) (reg : Int) : OkX (readX u reg).2 := by
  unfold readX
  split
  · split
    · exact h
    · rename_i b t e
      have h1 := h.w
      rw [e] at h1
      exact ⟨⟨okW_tail h1.1, by have := h1.2; simp at this; show t.length ≤ 4; omega⟩, h.c, h.l⟩
  split
  · exact h
  split
  · exact h
  split
  · exact h
  · exact h
theorem okX_write {u : Bx} (h : OkX u) (reg : Int) {v : Int} (hv : 0 ≤ v ∧ v < 4294967296) : OkX (writeX u reg v) := by
  unfold writeX
  split
  · split
    · rename_i h4
      have h1 := h.w
      exact ⟨⟨okW_snoc h1.1 hv, by rw [List.length_append]; show u.W.length + 1 ≤ 4; omega⟩, h.c, h.l⟩
    · split
      · rename_i h4 h5
        exact ⟨h.w, h.c, by have := h.l; show 0 ≤ u.L + 1 ∧ u.L + 1 < 4294967296; omega⟩
      · exact h
  split
  · exact ⟨h.w, by show 0 ≤ v % 2 ∧ v % 2 ≤ 1; omega, h.l⟩
  split
  · exact ⟨h.w, h.c, by show (0 : Int) ≤ 0 ∧ (0 : Int) < _; omega⟩
  · exact h
/-- Words as values. -/
def lv (l : List Int) : List Value := l.map fun x => .int .u32 x
theorem lvl (l : List Int) : (lv l).length = l.length := by simp [lv]
theorem lv_app (l m : List Int) : lv (l ++ m) = lv l ++ lv m := by simp [lv]
theorem lv_one (x : Int) : lv [x] = [.int .u32 x] := rfl
end Go.Proofs.YtknhgfofmkpnfaaGreat.Mbox
/- Package mailbox: a mail in a block (a mailbox's, or one that nobody has), over a row that was answered (4 places), or over none (no place). -/
namespace Go.Proofs.YtknhgfofmkpnfaaGreat.Mbox
open Go.RowKit Go.Maps Go.ChangeShapes Go.WideShapes Go.ChangeAt Fifo Orow Word
set_option linter.unusedVariables false

def I64 (x : Int) : Prop := -9223372036854775808 ≤ x ∧ x ≤ 9223372036854775807
abbrev me (b : Nat) : Value := .pointer (some ⟨b, 0, none⟩)
/-- A row that is one, or none; how many places; what it has; which blocks. -/
def Rw (w : World) (p : Value) (room : Nat) (l : List Int) (O : Nat → Prop) : Prop :=
  (∃ g, p = .pointer (some ⟨g, 0, none⟩) ∧ FL.St w g room (lv l) O) ∨ (p = .pointer none ∧ room = 0 ∧ l = [] ∧ O = fun _ => False)
theorem Rw.only {S O : Nat → Prop} {w w' : World} {p : Value} {room : Nat} {l : List Int} (h : Rw w p room l O) (ho : Only S w w') (hn : ∀ j, O j → ¬ S j) : Rw w' p room l O := by
  rcases h with ⟨g, rfl, h⟩ | h
  · exact .inl ⟨g, rfl, h.only ho hn⟩
  · exact .inr h
theorem Rw.keep {O : Nat → Prop} {w w' : World} {p : Value} {room : Nat} {l : List Int} (h : Rw w p room l O) (hb : Below w.heap.size w w') : Rw w' p room l O :=
  h.only (S := fun _ => False) (Only.of_below hb) (fun _ _ e => e)
theorem Rw.lt {O : Nat → Prop} {w : World} {p : Value} {room : Nat} {l : List Int} (h : Rw w p room l O) : ∀ j, O j → j < w.heap.size := by
  rcases h with ⟨g, rfl, h⟩ | ⟨_, _, _, rfl⟩
  · exact h.lt
  · exact fun j e => e.elim
theorem Rw.le {O : Nat → Prop} {w : World} {p : Value} {room : Nat} {l : List Int} (h : Rw w p room l O) : l.length ≤ room := by
  rcases h with ⟨g, rfl, h⟩ | ⟨_, rfl, rfl, _⟩
  · have := h.le; rwa [lvl] at this
  · exact Nat.le_refl _
theorem Rw.put {O : Nat → Prop} {w : World} {p : Value} {room : Nat} {l : List Int} (h : Rw w p room l O) (h9 : l.length ≤ 1900) (x : Int) (ok : Bool) (l' : List Int) (hok : decide (l.length < room) = ok) (hl' : (if ok then l ++ [x] else l) = l') :
    Calls Tryz.prog 214 #[p, .int .u32 x] w fun e w' => e = .returned (.bool ok) ∧ ∃ O', Rw w' p room l' O' ∧ Only O w w' ∧ ∀ j, O' j → O j ∨ w.heap.size ≤ j := by
  rcases h with ⟨g, rfl, h⟩ | ⟨rfl, rfl, rfl, rfl⟩
  · refine (FL.Put_st g room (lv l) (lv l') O (.int .u32 x) ok w h (by rw [lvl]; exact h9) ⟨x, rfl⟩ (by rw [lvl]; exact hok) (by rw [← hl']; cases ok <;> simp [lv])).mono ?_
    rintro e w' ⟨rfl, O', h1, h2, h3⟩
    exact ⟨rfl, O', .inl ⟨g, rfl, h1⟩, h2, h3⟩
  · have e : ok = false := by rw [← hok]; rfl
    subst e
    have e : l' = [] := by rw [← hl']; rfl
    subst e
    refine (FL.Put_non _ (.int .u32 x) w (.inl rfl)).mono ?_
    rintro e w' ⟨rfl, hb⟩
    exact ⟨rfl, fun _ => False, .inr ⟨rfl, rfl, rfl, rfl⟩, Only.of_below hb, fun j e => e.elim⟩
def fstX (l : List Int) : Int := l.headD 0
theorem Rw.take {O : Nat → Prop} {w : World} {p : Value} {room : Nat} {l : List Int} (h : Rw w p room l O) :
    Calls Tryz.prog 212 #[p] w fun e w' => e = .returned (.tuple #[.int .u32 (fstX l), .bool (!l.isEmpty)]) ∧ Rw w' p room l.tail O ∧ Only O w w' := by
  rcases h with ⟨g, rfl, h⟩ | ⟨rfl, rfl, rfl, rfl⟩
  · refine (FL.Take_st g room (lv l) O w h).mono ?_
    rintro e w' ⟨rfl, h1, h2⟩
    cases l with
    | nil => exact ⟨rfl, .inl ⟨g, rfl, h1⟩, h2⟩
    | cons b t => exact ⟨rfl, .inl ⟨g, rfl, h1⟩, h2⟩
  · refine (FL.Take_non _ w (.inl rfl)).mono ?_
    rintro e w' ⟨rfl, hb⟩
    exact ⟨rfl, .inr ⟨rfl, rfl, rfl, rfl⟩, Only.of_below hb⟩
theorem Rw.len {O : Nat → Prop} {w : World} {p : Value} {room : Nat} {l : List Int} (h : Rw w p room l O) :
    Calls Tryz.prog 213 #[p] w fun e w' => e = .returned (.int .i64 (l.length : Nat)) ∧ Below w.heap.size w w' := by
  rcases h with ⟨g, rfl, h⟩ | ⟨rfl, rfl, rfl, rfl⟩
  · refine (FL.Len_st g room (lv l) O w h).mono ?_
    rintro e w' ⟨rfl, rfl⟩
    exact ⟨by rw [lvl], Below.refl _ _⟩
  · exact FL.Len_non _ w (.inl rfl)
/-- All, asked of a row, or of none. -/
theorem Rw.all {O : Nat → Prop} {w : World} {p : Value} {room : Nat} {l : List Int} (h : Rw w p room l O) :
    Calls Tryz.prog 238 #[p] w fun e w' => ∃ box, e = .returned (.func (.func 240) #[] #[.pointer (some ⟨box, 0, none⟩)]) ∧ Below w.heap.size w w' ∧
      ∀ m w'', 2 ≤ m → Below w'.heap.size w' w'' → SeqC Fence.wide m Tryz.prog 240 (fun lp => #[] ++ #[.func (.yield lp) #[] #[]] ++ #[.pointer (some ⟨box, 0, none⟩)]) l.length (FL.els (lv l)) (fun _ => False) w'' := by
  rcases h with ⟨g, rfl, h⟩ | ⟨rfl, rfl, rfl, rfl⟩
  · refine (FL.All_st g room (lv l) O w h).mono ?_
    rintro e w' ⟨box, rfl, _, hb, hs⟩
    rw [lvl] at hs
    exact ⟨box, rfl, hb, hs⟩
  · exact FL.All_non none w (.inl rfl)

abbrev cellsX (u : Bx) (p : Value) (tl : List Value) : List Value := p :: .int .u32 u.C :: .int .u32 u.L :: tl
/-- A mail at the front of block b, of type t; tl stands behind it. -/
structure MB (w : World) (b room : Nat) (t : TypeId) (tl : List Value) (u : Bx) (p : Value) (A : Nat → Prop) : Prop where
  blk : Blk w b t (cellsX u p tl)
  row : Rw w p room u.W A
  ok : OkX u
  na : ¬ A b
/-- The same, with the blocks that are its own. -/
def MW (w : World) (b room : Nat) (t : TypeId) (tl : List Value) (u : Bx) (O : Nat → Prop) : Prop := ∃ p A, MB w b room t tl u p A ∧ ∀ j, O j ↔ (j = b ∨ A j)
theorem MB.only {S : Nat → Prop} {w w' : World} {b room : Nat} {t : TypeId} {tl : List Value} {u : Bx} {p : Value} {A : Nat → Prop} (h : MB w b room t tl u p A) (ho : Only S w w') (h1 : ¬ S b) (h2 : ∀ j, A j → ¬ S j) : MB w' b room t tl u p A :=
  ⟨h.blk.only ho h1, h.row.only ho h2, h.ok, h.na⟩
theorem MB.keep {w w' : World} {b room : Nat} {t : TypeId} {tl : List Value} {u : Bx} {p : Value} {A : Nat → Prop} (h : MB w b room t tl u p A) (hb : Below w.heap.size w w') : MB w' b room t tl u p A :=
  h.only (S := fun _ => False) (Only.of_below hb) (fun e => e) (fun _ _ e => e)
theorem MW.only {S O : Nat → Prop} {w w' : World} {b room : Nat} {t : TypeId} {tl : List Value} {u : Bx} (h : MW w b room t tl u O) (ho : Only S w w') (hn : ∀ j, O j → ¬ S j) : MW w' b room t tl u O := by
  obtain ⟨p, A, h, e⟩ := h
  exact ⟨p, A, h.only ho (hn b ((e b).2 (.inl rfl))) (fun j hj => hn j ((e j).2 (.inr hj))), e⟩
theorem MW.keep {O : Nat → Prop} {w w' : World} {b room : Nat} {t : TypeId} {tl : List Value} {u : Bx} (h : MW w b room t tl u O) (hb : Below w.heap.size w w') : MW w' b room t tl u O :=
  h.only (S := fun _ => False) (Only.of_below hb) (fun _ _ e => e)
theorem MW.lt {O : Nat → Prop} {w : World} {b room : Nat} {t : TypeId} {tl : List Value} {u : Bx} (h : MW w b room t tl u O) : ∀ j, O j → j < w.heap.size := by
  obtain ⟨p, A, h, e⟩ := h
  intro j hj
  rcases (e j).1 hj with rfl | hj
  · exact h.blk.lt
  · exact h.row.lt j hj
theorem MW.ok {O : Nat → Prop} {w : World} {b room : Nat} {t : TypeId} {tl : List Value} {u : Bx} (h : MW w b room t tl u O) : OkX u := by
  obtain ⟨p, A, h, e⟩ := h
  exact h.ok
/-- What a method leaves. -/
def Left (w w' : World) (b room : Nat) (t : TypeId) (tl : List Value) (u : Bx) (O : Nat → Prop) : Prop := ∃ O', MW w' b room t tl u O' ∧ Only O w w' ∧ ∀ j, O' j → O j ∨ w.heap.size ≤ j
/-- Behind another step. -/
theorem Left.trans {w w1 w' : World} {b room : Nat} {t : TypeId} {tl : List Value} {u : Bx} {O : Nat → Prop} (h : Only O w w1) (k : Left w1 w' b room t tl u O) : Left w w' b room t tl u O := by
  obtain ⟨O', k1, k2, k3⟩ := k
  exact ⟨O', k1, h.trans k2, fun j hj => (k3 j hj).imp id (fun e => Nat.le_trans h.size e)⟩
theorem Left.of {w w' : World} {b room : Nat} {t : TypeId} {tl : List Value} {u : Bx} {O : Nat → Prop} (h : MW w' b room t tl u O) (ho : Only O w w') : Left w w' b room t tl u O := ⟨O, h, ho, fun j hj => .inl hj⟩
/-- The row has turned. -/
theorem MB.toRow {w w' : World} {b room : Nat} {t : TypeId} {tl : List Value} {u u' : Bx} {p : Value} {A A' : Nat → Prop} (h : MB w b room t tl u p A) (h1 : Rw w' p room u'.W A') (ho : Only A w w') (hA : ∀ j, A' j → A j ∨ w.heap.size ≤ j)
    (hok : OkX u') (e1 : u'.C = u.C) (e2 : u'.L = u.L) : MB w' b room t tl u' p A' := by
  have hb := h.blk.only ho h.na
  refine ⟨by unfold cellsX; rw [e1, e2]; exact hb, h1, hok, fun e => ?_⟩
  rcases hA b e with k | k
  · exact h.na k
  · have := h.blk.lt; omega
/-- A cell of its block is written. -/
theorem MB.toCell {w : World} {b room : Nat} {t : TypeId} {tl : List Value} {u u' : Bx} {p : Value} {A : Nat → Prop} (h : MB w b room t tl u p A) (k : Nat) (v : Value) (hc : (cellsX u p tl).set k v = cellsX u' p tl) (hok : OkX u') (e1 : u'.W = u.W) :
    MB (w.setCell ⟨b, k, none⟩ v) b room t tl u' p A := by
  have ho : Only (fun j => j = b) w (w.setCell ⟨b, k, none⟩ v) := (Only.refl (fun j => j = b) w).setCell (p := ⟨b, k, none⟩) rfl v
  refine ⟨by have := h.blk.set k v; rwa [hc] at this, by rw [e1]; exact h.row.only ho (fun j hj e => h.na (by have e : j = b := e; rwa [e] at hj)), hok, h.na⟩
/-- The blocks, once the row has turned. -/
theorem own_row {O A A' : Nat → Prop} {b n : Nat} (e : ∀ j, O j ↔ (j = b ∨ A j)) (h : ∀ j, A' j → A j ∨ n ≤ j) : ∀ j, (j = b ∨ A' j) → O j ∨ n ≤ j := fun j hj => by
  rcases hj with rfl | hj
  · exact .inl ((e _).2 (.inl rfl))
  · exact (h j hj).imp (fun k => (e j).2 (.inr k)) id
/-- None of it. -/
theorem MB.zero (w : World) : MB (w.alloc (.cells (cellsX zeroX (.pointer none) []).toArray 128)) w.heap.size 0 128 [] zeroX (.pointer none) (fun _ => False) :=
  ⟨Blk.new w _ _, .inr ⟨rfl, rfl, rfl, rfl⟩, okX_zero, fun e => e⟩
end Go.Proofs.YtknhgfofmkpnfaaGreat.Mbox
/- Package mailbox: the small functions of its mail. -/
namespace Go.Proofs.YtknhgfofmkpnfaaGreat.Mbox
open Go.RowKit Go.Maps Go.ChangeShapes Go.WideShapes Go.ChangeAt Fifo Orow Word
set_option linter.unusedVariables false

theorem next_any (b room : Nat) (t : TypeId) (tl : List Value) (u : Bx) (O : Nat → Prop) (w : World) (h : MW w b room t tl u O) :
    Calls Tryz.prog 204 #[me b] w fun r w' => r = .returned (.int .u32 (readX u 0).1) ∧ Left w w' b room t tl (readX u 0).2 O := by
  obtain ⟨p, A, h, e⟩ := h
  have c0 : w.cell? ⟨b, 0, none⟩ = some p := h.blk.at 0 rfl
  have T := Lib.hid h.row.take
  have hO : ∀ j, A j → O j := fun j hj => (e j).2 (.inr hj)
  have hok := okX_read h.ok 0
  have R := Lib.hid (fun w' (h1 : Rw w' p room u.W.tail A) (h2 : Only A w w') => show Left w w' b room t tl (readX u 0).2 O from by
    obtain ⟨W, C, L⟩ := u
    cases W with
    | nil => exact ⟨_, ⟨p, A, h.toRow (u' := ⟨[], C, L⟩) h1 h2 (fun j hj => .inl hj) h.ok rfl rfl, fun j => Iff.rfl⟩, h2.mono (fun j _ k => hO j k), own_row e (fun j hj => .inl hj)⟩
    | cons y s => exact ⟨_, ⟨p, A, h.toRow (u' := ⟨s, C, L⟩) h1 h2 (fun j hj => .inl hj) hok rfl rfl, fun j => Iff.rfl⟩, h2.mono (fun j _ k => hO j k), own_row e (fun j hj => .inl hj)⟩)
  have E := Lib.hid (show (readX u 0).1 = fstX u.W by obtain ⟨W, C, L⟩ := u; cases W <;> rfl)
  clear h hok e hO
  go_enter Tryz.func204, Tryz.ntmps204
  go_wp2_with fail
  refine T.out.mono ?_
  rintro e w1 ⟨rfl, h1, h2⟩
  have R1 := Lib.hid (R.out w1 h1 h2)
  clear h1 h2 c0
  go_wp2_with fail
  go_ret
  exact ⟨by rw [E.out]; rfl, R1.out⟩
theorem count_any (b room : Nat) (t : TypeId) (tl : List Value) (u : Bx) (O : Nat → Prop) (w : World) (h : MW w b room t tl u O) :
    Calls Tryz.prog 205 #[me b] w fun r w' => r = .returned (.int .u32 (u.W.length : Nat)) ∧ Below w.heap.size w w' := by
  obtain ⟨p, A, h, e⟩ := h
  have c0 : w.cell? ⟨b, 0, none⟩ = some p := h.blk.at 0 rfl
  have L := Lib.hid h.row.len
  have h4 := h.ok.w.2
  obtain ⟨n, hn⟩ : ∃ n, u.W.length = n := ⟨_, rfl⟩
  rw [hn] at L h4 ⊢
  have hw : IntKind.u32.wrap (n : Int) = n := IntWalk.u32_in _ (by omega)
  clear h e hn h4
  go_enter Tryz.func205, Tryz.ntmps205
  go_wp2_with fail
  refine L.out.mono ?_
  rintro e w1 ⟨rfl, hb⟩
  have B1 := Lib.hid hb
  clear hb
  go_wp2_with fail
  go_ret
  exact ⟨rfl, B1.out⟩
theorem ctrlNow_any (b room : Nat) (t : TypeId) (tl : List Value) (u : Bx) (O : Nat → Prop) (w : World) (h : MW w b room t tl u O) :
    Calls Tryz.prog 206 #[me b] w fun r w' => r = .returned (.int .u32 u.C) ∧ w = w' := by
  obtain ⟨p, A, h, e⟩ := h
  have c1 : w.cell? ⟨b, 1, none⟩ = some (.int .u32 u.C) := h.blk.at 1 rfl
  clear h e
  go_enter Tryz.func206, Tryz.ntmps206
  go_wp2_with fail
  go_ret
  exact ⟨rfl, rfl⟩
theorem lostNow_any (b room : Nat) (t : TypeId) (tl : List Value) (u : Bx) (O : Nat → Prop) (w : World) (h : MW w b room t tl u O) :
    Calls Tryz.prog 207 #[me b] w fun r w' => r = .returned (.int .u32 u.L) ∧ w = w' := by
  obtain ⟨p, A, h, e⟩ := h
  have c2 : w.cell? ⟨b, 2, none⟩ = some (.int .u32 u.L) := h.blk.at 2 rfl
  clear h e
  go_enter Tryz.func207, Tryz.ntmps207
  go_wp2_with fail
  go_ret
  exact ⟨rfl, rfl⟩
theorem stay_any (v : Value) (b : Nat) (w : World) :
    Calls Tryz.prog 209 #[me b, v] w fun r w' => r = .returned (.tuple #[]) ∧ w = w' := by
  go_enter Tryz.func209, Tryz.ntmps209
  go_wp2_with fail
  go_end0
  exact ⟨rfl, rfl⟩
theorem and_one {v : Int} (h : 0 ≤ v ∧ v < 4294967296) : bits .and .u32 v 1 = v % 2 := by
  obtain ⟨x, rfl⟩ := Int.eq_ofNat_of_zero_le h.1
  rw [show (1 : Int) = ((1 : Nat) : Int) from rfl, u32_and_nat x 1 (by omega) (by omega), show (1 : Nat) = 2 ^ 1 - 1 from rfl, Nat.and_two_pow_sub_one_eq_mod]
  rfl
theorem setCtrl_any (b room : Nat) (t : TypeId) (tl : List Value) (u : Bx) (O : Nat → Prop) (v : Int) (w : World) (hv : 0 ≤ v ∧ v < 4294967296) (h : MW w b room t tl u O) :
    Calls Tryz.prog 210 #[me b, .int .u32 v] w fun r w' => r = .returned (.tuple #[]) ∧ Left w w' b room t tl (writeX u 2 v) O := by
  obtain ⟨p, A, h, e⟩ := h
  have f1 := h.blk.frozen 1
  have hv1 := and_one hv
  have T := Lib.hid (show Left w (w.setCell ⟨b, 1, none⟩ (.int .u32 (v % 2))) b room t tl (writeX u 2 v) O from
    ⟨O, ⟨p, A, h.toCell (u' := writeX u 2 v) 1 (.int .u32 (v % 2)) rfl (okX_write h.ok 2 hv) rfl, e⟩, (Only.refl O w).setCell (p := ⟨b, 1, none⟩) ((e b).2 (.inl rfl)) _, fun j hj => .inl hj⟩)
  have c1 : w.cell? ⟨b, 1, none⟩ = some (.int .u32 u.C) := h.blk.at 1 rfl
  clear h e hv
  go_enter Tryz.func210, Tryz.ntmps210
  go_wp2_with fail
  go_end0
  exact ⟨rfl, by first | exact T.out | (rw [hv1]; exact T.out)⟩
theorem forgetLost_any (b room : Nat) (t : TypeId) (tl : List Value) (u : Bx) (O : Nat → Prop) (v : Int) (w : World) (hv : 0 ≤ v ∧ v < 4294967296) (h : MW w b room t tl u O) :
    Calls Tryz.prog 211 #[me b, .int .u32 v] w fun r w' => r = .returned (.tuple #[]) ∧ Left w w' b room t tl (writeX u 3 v) O := by
  obtain ⟨p, A, h, e⟩ := h
  have f2 := h.blk.frozen 2
  have T := Lib.hid (show Left w (w.setCell ⟨b, 2, none⟩ (.int .u32 0)) b room t tl (writeX u 3 v) O from
    ⟨O, ⟨p, A, h.toCell (u' := writeX u 3 v) 2 (.int .u32 0) rfl (okX_write h.ok 3 hv) rfl, e⟩, (Only.refl O w).setCell (p := ⟨b, 2, none⟩) ((e b).2 (.inl rfl)) _, fun j hj => .inl hj⟩)
  have c2 : w.cell? ⟨b, 2, none⟩ = some (.int .u32 u.L) := h.blk.at 2 rfl
  clear h e hv
  go_enter Tryz.func211, Tryz.ntmps211
  go_wp2_with fail
  go_end0
  exact ⟨rfl, T.out⟩
/-- The world behind: one more was lost, or not. -/
def asideW (b : Nat) (ok : Bool) (L : Int) (w1 : World) : World := if ok then w1 else if L < 4294967295 then w1.setCell ⟨b, 2, none⟩ (.int .u32 (L + 1)) else w1
theorem aside_core (b : Nat) (p : Value) (v L : Int) (ok : Bool) (R : World → Prop) (w : World) (c0 : w.cell? ⟨b, 0, none⟩ = some p) (hL : 0 ≤ L ∧ L < 4294967296)
    (hp : Calls Tryz.prog 214 #[p, .int .u32 v] w fun e w' => e = .returned (.bool ok) ∧ R w')
    (hc : ∀ w', R w' → w'.cell? ⟨b, 2, none⟩ = some (.int .u32 L) ∧ w'.frozen? ⟨b, 2, none⟩ = false) :
    Calls Tryz.prog 208 #[me b, .int .u32 v] w fun e w' => e = .returned (.tuple #[]) ∧ ∃ w1, R w1 ∧ w' = asideW b ok L w1 := by
  have HP := Lib.hid hp
  have HC := Lib.hid hc
  have HL := Lib.hid hL
  clear hp hc hL
  go_enter Tryz.func208, Tryz.ntmps208
  go_wp2_with fail
  refine HP.out.mono ?_
  rintro e w1 ⟨rfl, hr⟩
  obtain ⟨c2, f2⟩ := HC.out w1 hr
  have HR := Lib.hid hr
  clear hr HP HC
  cases ok
  · by_cases hlt : L < 4294967295
    · have d : decide (L < 4294967295) = true := decide_eq_true hlt
      have hw : IntKind.u32.wrap (L + 1) = L + 1 := IntWalk.u32_in _ (by have := HL.out; omega)
      have E := Lib.hid (show asideW b false L w1 = w1.setCell ⟨b, 2, none⟩ (.int .u32 (L + 1)) by unfold asideW; rw [if_neg (by simp), if_pos hlt])
      clear hlt
      go_wp2_with fail
      first | go_end0 | refine bodyPost_ret (results_none rfl _ _ _) rfl ?_
      exact ⟨rfl, w1, HR.out, E.out.symm⟩
    · have d : decide (L < 4294967295) = false := decide_eq_false hlt
      have E := Lib.hid (show asideW b false L w1 = w1 by unfold asideW; rw [if_neg (by simp), if_neg hlt])
      clear hlt
      go_wp2_with fail
      first | go_end0 | refine bodyPost_ret (results_none rfl _ _ _) rfl ?_
      exact ⟨rfl, w1, HR.out, E.out.symm⟩
  · go_wp2_with fail
    first | go_end0 | refine bodyPost_ret (results_none rfl _ _ _) rfl ?_
    exact ⟨rfl, w1, HR.out, rfl⟩
/-- What is put, where there are so many places. -/
def asideR (room : Nat) (u : Bx) (v : Int) : Bx := if u.W.length < room then { u with W := u.W ++ [v] } else if u.L < 4294967295 then { u with L := u.L + 1 } else u
theorem aside_any (b room : Nat) (t : TypeId) (tl : List Value) (u : Bx) (O : Nat → Prop) (v : Int) (w : World) (h4 : room ≤ 4) (hv : 0 ≤ v ∧ v < 4294967296) (h : MW w b room t tl u O) :
    Calls Tryz.prog 208 #[me b, .int .u32 v] w fun r w' => r = .returned (.tuple #[]) ∧ Left w w' b room t tl (asideR room u v) O := by
  obtain ⟨p, A, h, e⟩ := h
  have hl := h.row.le
  have hO : ∀ j, A j → O j := fun j hj => (e j).2 (.inr hj)
  have c0 : w.cell? ⟨b, 0, none⟩ = some p := h.blk.at 0 rfl
  unfold asideR
  by_cases hlt : u.W.length < room
  · rw [if_pos hlt]
    have hok : OkX { u with W := u.W ++ [v] } := ⟨⟨okW_snoc h.ok.w.1 hv, by rw [List.length_append, List.length_singleton]; omega⟩, h.ok.c, h.ok.l⟩
    refine (aside_core b p v u.L true _ w c0 h.ok.l (h.row.put (by omega) v true _ (decide_eq_true hlt) rfl) ?_).mono ?_
    · rintro w' ⟨A', h1, h2, h3⟩
      have hb := h.blk.only h2 h.na
      exact ⟨hb.at 2 rfl, hb.frozen 2⟩
    · rintro r w' ⟨rfl, w1, ⟨A', h1, h2, h3⟩, rfl⟩
      exact ⟨rfl, _, ⟨p, A', h.toRow (u' := { u with W := u.W ++ [v] }) h1 h2 h3 hok rfl rfl, fun j => Iff.rfl⟩, h2.mono (fun j _ k => hO j k), own_row e h3⟩
  · rw [if_neg hlt]
    refine (aside_core b p v u.L false _ w c0 h.ok.l (h.row.put (by omega) v false _ (decide_eq_false hlt) rfl) ?_).mono ?_
    · rintro w' ⟨A', h1, h2, h3⟩
      have hb := h.blk.only h2 h.na
      exact ⟨hb.at 2 rfl, hb.frozen 2⟩
    · rintro r w' ⟨rfl, w1, ⟨A', h1, h2, h3⟩, rfl⟩
      refine ⟨rfl, ?_⟩
      unfold asideW
      rw [if_neg (by simp)]
      have hu := h.toRow (u' := u) h1 h2 h3 h.ok rfl rfl
      by_cases hm : u.L < 4294967295
      · rw [if_pos hm, if_pos hm]
        have := h.ok.l
        exact ⟨_, ⟨p, A', hu.toCell (u' := { u with L := u.L + 1 }) 2 (.int .u32 (u.L + 1)) rfl ⟨h.ok.w, h.ok.c, by show 0 ≤ u.L + 1 ∧ u.L + 1 < 4294967296; omega⟩ rfl, fun j => Iff.rfl⟩, (h2.mono (fun j _ k => hO j k)).setCell (p := ⟨b, 2, none⟩) ((e b).2 (.inl rfl)) _, own_row e h3⟩
      · rw [if_neg hm, if_neg hm]
        exact ⟨_, ⟨p, A', hu, fun j => Iff.rfl⟩, h2.mono (fun j _ k => hO j k), own_row e h3⟩
theorem lineM1 (b room : Nat) (t : TypeId) (tl : List Value) (u : Bx) (O : Nat → Prop) (w : World) (hc : u.C = 1) (h : MW w b room t tl u O) :
    Calls Tryz.prog 232 #[me b] w fun e w' => e = .returned (.bool (decide (0 < u.W.length))) ∧ Below w.heap.size w w' := by
  obtain ⟨p, A, h, e⟩ := h
  have d1 : (u.C == 1) = true := by simpa using hc
  have c0 : w.cell? ⟨b, 0, none⟩ = some p := h.blk.at 0 rfl
  have c1 : w.cell? ⟨b, 1, none⟩ = some (.int .u32 u.C) := h.blk.at 1 rfl
  have L := Lib.hid h.row.len
  obtain ⟨n, hn⟩ : ∃ n, u.W.length = n := ⟨_, rfl⟩
  rw [hn] at L ⊢
  clear h e hc hn
  go_enter Tryz.func232, Tryz.ntmps232
  go_wp2_with fail
  refine L.out.mono ?_
  rintro e w2 ⟨rfl, hb⟩
  have B2 := Lib.hid hb
  clear hb
  go_wp2_with fail
  go_ret
  exact ⟨by first | rfl | exact ret_bool (by simp), B2.out⟩
theorem lineM0 (b room : Nat) (t : TypeId) (tl : List Value) (u : Bx) (O : Nat → Prop) (w : World) (hc : ¬ u.C = 1) (h : MW w b room t tl u O) :
    Calls Tryz.prog 232 #[me b] w fun e w' => e = .returned (.bool false) ∧ Below w.heap.size w w' := by
  obtain ⟨p, A, h, e⟩ := h
  have d1 : (u.C == 1) = false := by simpa using hc
  have c0 : w.cell? ⟨b, 0, none⟩ = some p := h.blk.at 0 rfl
  have c1 : w.cell? ⟨b, 1, none⟩ = some (.int .u32 u.C) := h.blk.at 1 rfl
  clear h e hc
  go_enter Tryz.func232, Tryz.ntmps232
  go_wp2_with fail
  go_ret
  exact ⟨rfl, Below.refl _ _⟩
theorem lineM_any (b room : Nat) (t : TypeId) (tl : List Value) (u : Bx) (O : Nat → Prop) (w : World) (h : MW w b room t tl u O) :
    Calls Tryz.prog 232 #[me b] w fun e w' => e = .returned (.bool (lineX u)) ∧ Below w.heap.size w w' := by
  by_cases hc : u.C = 1
  · rw [show lineX u = decide (0 < u.W.length) by unfold lineX; simp [hc]]
    exact lineM1 b room t tl u O w hc h
  · rw [show lineX u = false by unfold lineX; simp [hc]]
    exact lineM0 b room t tl u O w hc h
theorem isReg_any (k : Int) (w : World) (hk : I64 k) :
    Calls Tryz.prog 201 #[.int .i64 k] w fun e w' => e = .returned (.bool (decide (0 ≤ k ∧ k < 4))) ∧ w = w' := by
  by_cases h0 : 0 ≤ k
  · by_cases h1 : k < 4
    · have d0 : decide (0 ≤ k) = true := decide_eq_true h0
      have d1 : decide (k < 4) = true := decide_eq_true h1
      rw [show decide (0 ≤ k ∧ k < 4) = true from decide_eq_true ⟨h0, h1⟩]
      clear h0 h1 hk
      go_enter Tryz.func201, Tryz.ntmps201
      go_wp2_with fail
      go_ret
      exact ⟨rfl, rfl⟩
    · have d0 : decide (0 ≤ k) = true := decide_eq_true h0
      have d1 : decide (k < 4) = false := decide_eq_false h1
      rw [show decide (0 ≤ k ∧ k < 4) = false from decide_eq_false (fun h => h1 h.2)]
      clear h0 h1 hk
      go_enter Tryz.func201, Tryz.ntmps201
      go_wp2_with fail
      go_ret
      exact ⟨rfl, rfl⟩
  · have d0 : decide (0 ≤ k) = false := decide_eq_false h0
    rw [show decide (0 ≤ k ∧ k < 4) = false from decide_eq_false (fun h => h0 h.1)]
    clear h0 hk
    go_enter Tryz.func201, Tryz.ntmps201
    go_wp2_with fail
    go_ret
    exact ⟨rfl, rfl⟩
def mexp (f : Nat) : Value := .func (.func f) #[] #[]
def readA : Value := .agg #[mexp 204, mexp 205, mexp 206, mexp 207]
def writeA : Value := .agg #[mexp 208, mexp 209, mexp 210, mexp 211]
theorem reads_any (w : World) :
    Calls Tryz.prog 202 #[] w fun e w' => e = .returned readA ∧ Below w.heap.size w w' := by
  have hmf : ∀ w f, (Instr.makeFunc (.func f) #[] #[]).run Tryz.prog w = .ok (.func (.func f) #[] #[]) w := fun w f => rfl
  go_enter Tryz.func202, Tryz.ntmps202
  go_wp2_with (with_reducible refine at_store _ _ _ rfl ?_)
  refine Lib.hid ?_
  refine store_all rfl _ _ _ rfl w.heap.size [mexp 204, mexp 205, mexp 206, mexp 207] rfl rfl _ _ (Blk.new w 261 [.nilFunc, .nilFunc, .nilFunc, .nilFunc]) (by kernel_rfl) rfl (by simp [Value.oneCell', mexp]) ?_
  intro X hX ho
  have r0 := hX.at 0 rfl
  have r1 := hX.at 1 rfl
  have r2 := hX.at 2 rfl
  have r3 := hX.at 3 rfl
  have B := Lib.hid (show Below w.heap.size w X from ((Below.refl w.heap.size w).alloc (Nat.le_refl _) _).trans (ho.below (by simp) (fun k e => Nat.le_of_eq e.symm)))
  clear hX ho
  go_wp2_with fail
  refine bodyPost_ret (v := readA) ?_ rfl ⟨rfl, B.out⟩
  simp [results, Tryz.results202, go_sem, r0, r1, r2, r3, readA]
theorem writes_any (w : World) :
    Calls Tryz.prog 203 #[] w fun e w' => e = .returned writeA ∧ Below w.heap.size w w' := by
  have hmf : ∀ w f, (Instr.makeFunc (.func f) #[] #[]).run Tryz.prog w = .ok (.func (.func f) #[] #[]) w := fun w f => rfl
  go_enter Tryz.func203, Tryz.ntmps203
  go_wp2_with (with_reducible refine at_store _ _ _ rfl ?_)
  refine Lib.hid ?_
  refine store_all rfl _ _ _ rfl w.heap.size [mexp 208, mexp 209, mexp 210, mexp 211] rfl rfl _ _ (Blk.new w 264 [.nilFunc, .nilFunc, .nilFunc, .nilFunc]) (by kernel_rfl) rfl (by simp [Value.oneCell', mexp]) ?_
  intro X hX ho
  have r0 := hX.at 0 rfl
  have r1 := hX.at 1 rfl
  have r2 := hX.at 2 rfl
  have r3 := hX.at 3 rfl
  have B := Lib.hid (show Below w.heap.size w X from ((Below.refl w.heap.size w).alloc (Nat.le_refl _) _).trans (ho.below (by simp) (fun k e => Nat.le_of_eq e.symm)))
  clear hX ho
  go_wp2_with fail
  refine bodyPost_ret (v := writeA) ?_ rfl ⟨rfl, B.out⟩
  simp [results, Tryz.results203, go_sem, r0, r1, r2, r3, writeA]
end Go.Proofs.YtknhgfofmkpnfaaGreat.Mbox
/- Package mailbox: is, all, laid, New, what a register does, apart. -/
namespace Go.Proofs.YtknhgfofmkpnfaaGreat.Mbox
open Go.RowKit Go.Maps Go.ChangeShapes Go.WideShapes Go.ChangeAt Fifo Orow Word
set_option linter.unusedVariables false
attribute [local go_sem] Oper.semAt_some

theorem box_info : (Tryz.prog.info? 176).isSome = true := by kernel_rfl
theorem eq_own (a : Addr) (w : World) : (binOp .eql 86 (.pointer (some a)) (.pointer (some a))).run Tryz.prog w = .ok (.bool true) w := by
  obtain ⟨j, hj⟩ := Option.isSome_iff_exists.1 box_info
  exact run_eql_ptr_same w a Tryz.underlying86 hj
theorem eq_nil (a : Addr) (w : World) : (binOp .eql 86 (.pointer none) (.pointer (some a))).run Tryz.prog w = .ok (.bool false) w := by
  have h : ∀ d : Nat, (Op.equalIn (d + 1) 86 (.pointer none) (.pointer (some a))).run Tryz.prog w = .ok false w := fun d => by
    simp [Op.equalIn, run_underlying Tryz.underlying86]
  simp only [binOp]
  simp [Op.equal, Op.maxDepth, h 9999]
theorem is_yes (b : Nat) (w : World) (h : w.cell? ⟨b, 3, none⟩ = some (me b)) :
    Calls Tryz.prog 200 #[me b] w fun e w' => e = .returned (.bool true) ∧ w = w' := by
  have he := eq_own ⟨b, 0, none⟩ w
  go_enter Tryz.func200, Tryz.ntmps200
  go_wp2_with fail
  go_ret
  exact ⟨rfl, rfl⟩
/-- No mailbox: none at all, or one that was not answered. -/
def zeroCells : Array Value := (cellsX zeroX (.pointer none) [.pointer none]).toArray
def ZeroAt (w : World) (b : Nat) : Prop := Blk w b 176 (cellsX zeroX (.pointer none) [.pointer none])
theorem zero_new (w : World) : ZeroAt (w.alloc (.cells zeroCells 176)) w.heap.size := Blk.new w _ _
theorem ZeroAt.keep {w w' : World} {b : Nat} (h : ZeroAt w b) (hb : Below w.heap.size w w') : ZeroAt w' b := Blk.keep h hb
def Non (w : World) (v : Value) : Prop := v = .pointer none ∨ ∃ b, v = .pointer (some ⟨b, 0, none⟩) ∧ ZeroAt w b
theorem Non.keep {w w' : World} {v : Value} (h : Non w v) (hb : Below w.heap.size w w') : Non w' v := by
  rcases h with rfl | ⟨b, rfl, h⟩
  · exact .inl rfl
  · exact .inr ⟨b, rfl, h.keep hb⟩
theorem is_non (v : Value) (w : World) (h : Non w v) :
    Calls Tryz.prog 200 #[v] w fun e w' => e = .returned (.bool false) ∧ w = w' := by
  rcases h with rfl | ⟨b, rfl, h⟩
  · go_enter Tryz.func200, Tryz.ntmps200
    go_wp2_with fail
    go_ret
    exact ⟨rfl, rfl⟩
  · have c1 : w.cell? ⟨b, 3, none⟩ = some (.pointer none) := Blk.at h 3 rfl
    have he := eq_nil ⟨b, 0, none⟩ w
    clear h
    go_enter Tryz.func200, Tryz.ntmps200
    go_wp2_with fail
    go_ret
    exact ⟨rfl, rfl⟩
theorem all_yes (b : Nat) (w : World) (h : w.cell? ⟨b, 3, none⟩ = some (me b)) :
    Calls Tryz.prog 197 #[me b] w fun e w' => e = .returned (me b) ∧ w = w' := by
  have H := Lib.hid (is_yes b w h)
  clear h
  go_enter Tryz.func197, Tryz.ntmps197
  go_wp2_with fail
  refine H.out.mono ?_
  rintro e w1 ⟨rfl, rfl⟩
  go_wp2_with fail
  go_ret
  exact ⟨rfl, rfl⟩
/-- Mail without a row that nobody has: its block is new. -/
theorem all_non (v : Value) (w : World) (h : Non w v) :
    Calls Tryz.prog 197 #[v] w fun e w' => e = .returned (me w.heap.size) ∧ MB w' w.heap.size 0 128 [] zeroX (.pointer none) (fun _ => False) ∧ Below w.heap.size w w' := by
  have H := Lib.hid (is_non v w h)
  clear h
  go_enter Tryz.func197, Tryz.ntmps197
  go_wp2_with fail
  refine H.out.mono ?_
  rintro e w1 ⟨rfl, rfl⟩
  go_wp2_with fail
  go_ret
  exact ⟨rfl, MB.zero w, (Below.refl _ _).alloc (Nat.le_refl _) _⟩
theorem laid_any (u : Bx) (q : Option Addr) (w : World) :
    Calls Tryz.prog 65 #[.agg #[.pointer q, .int .u32 u.C, .int .u32 u.L]] w fun e w' => (∃ c, e = .returned (me c) ∧ Blk w' c 176 (cellsX u (.pointer q) [me c]) ∧ w.heap.size ≤ c) ∧ Below w.heap.size w w' := by
  obtain ⟨W, C, L⟩ := u
  unfold cellsX
  go_enter Tryz.func65, Tryz.ntmps65
  go_wp2_with fail
  go_ret
  have hb := Blk.new (w.alloc (.cells #[.pointer q, .int .u32 C, .int .u32 L] 128)) 176 [.pointer q, .int .u32 C, .int .u32 L, me (w.heap.size + 1)]
  rw [World.size_alloc] at hb
  exact ⟨⟨_, rfl, hb, Nat.le_succ _⟩, ((Below.refl w.heap.size w).alloc (Nat.le_refl _) _).alloc (by rw [World.size_alloc]; exact Nat.le_succ _) _⟩
theorem New_any0 (w : World) :
    Calls Tryz.prog 43 #[] w fun e w' => (∃ b O, e = .returned (me b) ∧ MW w' b 4 176 [me b] zeroX O ∧ ∀ j, O j → w.heap.size ≤ j) ∧ Below w.heap.size w w' := by
  have HF : ∀ w : World, Calls Tryz.prog 66 #[] w fun e w' => ∃ b O, e = .returned (.agg #[me b, .int .u32 0, .int .u32 0]) ∧ FL.St w' b 4 [] O ∧ (∀ j, O j → w.heap.size ≤ j) ∧ Below w.heap.size w w' := by
    intro w
    go_enter Tryz.func66, Tryz.ntmps66
    go_wp2_with fail
    refine calls_letter ?_
    intro X hX
    have Z := Lib.hid (show Blk X w.heap.size 128 [.pointer none, .int .u32 0, .int .u32 0] by rw [hX.out]; exact Blk.new w _ [.pointer none, .int .u32 0, .int .u32 0])
    have BX := Lib.hid (show Below w.heap.size w X by rw [hX.out]; exact (Below.refl w.heap.size w).alloc (Nat.le_refl _) _)
    have NX := Lib.hid (show w.heap.size < X.heap.size by rw [hX.out]; simp)
    obtain ⟨g, hg⟩ : ∃ g, w.heap.size = g := ⟨_, rfl⟩
    have G := Lib.hid hg
    rw [hg] at Z
    rw [hg]
    clear hX hg
    have HN : Calls Tryz.prog 86 #[.int .i64 4] X _ := FL.New_st 4 X (by omega)
    refine HN.mono ?_
    rintro e w1 ⟨b1, O1, rfl, h1, n1, k1⟩
    have Z1 := Lib.hid (Z.out.keep k1)
    have S1 := Lib.hid h1
    have N1 := Lib.hid n1
    have B1 := Lib.hid (BX.out.trans (k1.mono BX.out.size))
    clear h1 n1 k1 HN
    go_wp2_with (with_reducible refine at_store _ _ _ rfl ?_)
    refine Lib.hid ?_
    refine store_all rfl _ _ _ rfl g [.pointer (some ⟨b1, 0, none⟩), .int .u32 0, .int .u32 0] rfl rfl _ _ Z1.out (by kernel_rfl) rfl (by simp [Value.oneCell']) ?_
    intro Y hY ho
    have r0 := hY.at 0 rfl
    have r1 := hY.at 1 rfl
    have r2 := hY.at 2 rfl
    have gs : g < X.heap.size := by have := NX.out; have := G.out; omega
    have R1 := Lib.hid (S1.out.only ho (fun j hj e => by have := N1.out j hj; have e : j = g := e; omega))
    have R2 := Lib.hid (show ∀ j, O1 j → w.heap.size ≤ j from fun j hj => by have := N1.out j hj; have := NX.out; omega)
    have R3 := Lib.hid (show Below w.heap.size w Y from B1.out.trans (ho.below B1.out.size (fun k e => by have e : k = g := e; have := G.out; omega)))
    clear hY ho gs
    go_wp2_with fail
    refine bodyPost_ret (v := .agg #[me b1, .int .u32 0, .int .u32 0]) ?_ rfl ⟨b1, O1, rfl, R1.out, R2.out, R3.out⟩
    simp [results, Tryz.results66, go_sem, r0, r1, r2]
  go_enter Tryz.func43, Tryz.ntmps43
  go_wp2_with fail
  refine (HF w).mono ?_
  rintro e w1 ⟨b1, O1, rfl, h1, n1, k1⟩
  have S1 := Lib.hid h1
  have N1 := Lib.hid n1
  have B1 := Lib.hid k1
  clear h1 n1 k1 HF
  go_wp2_with fail
  refine (laid_any zeroX (some ⟨b1, 0, none⟩) w1).mono ?_
  rintro e w3 ⟨⟨c, rfl, hc, hn⟩, k3⟩
  have hl1 := S1.out.lt
  have hs := B1.out.size
  have R := Lib.hid (show MB w3 c 4 176 [me c] zeroX (me b1) O1 from ⟨hc, .inl ⟨b1, rfl, S1.out.keep k3⟩, okX_zero, fun e => by have := hl1 c e; omega⟩)
  have B3 := Lib.hid (B1.out.trans (k3.mono B1.out.size))
  have hN : ∀ j, (j = c ∨ O1 j) → w.heap.size ≤ j := fun j hj => by
    rcases hj with rfl | hj
    · omega
    · exact N1.out j hj
  clear hc hn k3 hl1 hs
  go_wp2_with fail
  go_ret
  exact ⟨⟨c, _, rfl, ⟨_, _, R.out, fun j => Iff.rfl⟩, hN⟩, B3.out⟩
theorem ixr0 (w : World) : (Instr.index 261 readA (.int .i64 0)).run Tryz.prog w = .ok (mexp 204) w := by kernel_rfl
theorem ixw0 (w : World) : (Instr.index 264 writeA (.int .i64 0)).run Tryz.prog w = .ok (mexp 208) w := by kernel_rfl
theorem ixr1 (w : World) : (Instr.index 261 readA (.int .i64 1)).run Tryz.prog w = .ok (mexp 205) w := by kernel_rfl
theorem ixw1 (w : World) : (Instr.index 264 writeA (.int .i64 1)).run Tryz.prog w = .ok (mexp 209) w := by kernel_rfl
theorem ixr2 (w : World) : (Instr.index 261 readA (.int .i64 2)).run Tryz.prog w = .ok (mexp 206) w := by kernel_rfl
theorem ixw2 (w : World) : (Instr.index 264 writeA (.int .i64 2)).run Tryz.prog w = .ok (mexp 210) w := by kernel_rfl
theorem ixr3 (w : World) : (Instr.index 261 readA (.int .i64 3)).run Tryz.prog w = .ok (mexp 207) w := by kernel_rfl
theorem ixw3 (w : World) : (Instr.index 264 writeA (.int .i64 3)).run Tryz.prog w = .ok (mexp 211) w := by kernel_rfl
theorem readM0 (b room : Nat) (t : TypeId) (tl : List Value) (u : Bx) (O : Nat → Prop) (w : World) (h : MW w b room t tl u O) :
    Calls Tryz.prog 198 #[me b, .int .i64 0] w fun e w' => e = .returned (.int .u32 (readX u 0).1) ∧ Left w w' b room t tl (readX u 0).2 O := by
  have T := Lib.hid h
  have I := Lib.hid (isReg_any 0 w ⟨by decide, by decide⟩)
  have hd : decide ((0 : Int) ≤ 0 ∧ (0 : Int) < 4) = true := by decide
  rw [hd] at I
  clear h hd
  go_enter Tryz.func198, Tryz.ntmps198
  go_wp2_with fail
  refine I.out.mono ?_
  rintro e w1 ⟨rfl, rfl⟩
  clear I
  go_wp2_with fail
  refine (reads_any w).mono ?_
  rintro e w2 ⟨rfl, hb⟩
  have T2 := Lib.hid (T.out.keep hb)
  have B2 := Lib.hid (show Only O w w2 from Only.of_below hb)
  clear hb
  have hix := ixr0
  unfold readA mexp at *
  go_wp2_with fail
  refine (next_any b room t tl u O w2 T2.out).mono ?_
  rintro e w3 ⟨rfl, h3⟩
  have R := Lib.hid (Left.trans B2.out h3)
  clear h3
  go_wp2_with fail
  go_ret
  exact ⟨rfl, R.out⟩
theorem readM1 (b room : Nat) (t : TypeId) (tl : List Value) (u : Bx) (O : Nat → Prop) (w : World) (h : MW w b room t tl u O) :
    Calls Tryz.prog 198 #[me b, .int .i64 1] w fun e w' => e = .returned (.int .u32 (readX u 1).1) ∧ Left w w' b room t tl (readX u 1).2 O := by
  have T := Lib.hid h
  have I := Lib.hid (isReg_any 1 w ⟨by decide, by decide⟩)
  have hd : decide ((0 : Int) ≤ 1 ∧ (1 : Int) < 4) = true := by decide
  rw [hd] at I
  clear h hd
  go_enter Tryz.func198, Tryz.ntmps198
  go_wp2_with fail
  refine I.out.mono ?_
  rintro e w1 ⟨rfl, rfl⟩
  clear I
  go_wp2_with fail
  refine (reads_any w).mono ?_
  rintro e w2 ⟨rfl, hb⟩
  have T2 := Lib.hid (T.out.keep hb)
  have B2 := Lib.hid (show Only O w w2 from Only.of_below hb)
  clear hb
  have hix := ixr1
  unfold readA mexp at *
  go_wp2_with fail
  refine (count_any b room t tl u O w2 T2.out).mono ?_
  rintro e w3 ⟨rfl, h3⟩
  have R := Lib.hid (show Left w w3 b room t tl u O from Left.of (T2.out.keep h3) (B2.out.trans (Only.of_below h3)))
  clear h3
  go_wp2_with fail
  go_ret
  exact ⟨rfl, R.out⟩
theorem readM2 (b room : Nat) (t : TypeId) (tl : List Value) (u : Bx) (O : Nat → Prop) (w : World) (h : MW w b room t tl u O) :
    Calls Tryz.prog 198 #[me b, .int .i64 2] w fun e w' => e = .returned (.int .u32 (readX u 2).1) ∧ Left w w' b room t tl (readX u 2).2 O := by
  have T := Lib.hid h
  have I := Lib.hid (isReg_any 2 w ⟨by decide, by decide⟩)
  have hd : decide ((0 : Int) ≤ 2 ∧ (2 : Int) < 4) = true := by decide
  rw [hd] at I
  clear h hd
  go_enter Tryz.func198, Tryz.ntmps198
  go_wp2_with fail
  refine I.out.mono ?_
  rintro e w1 ⟨rfl, rfl⟩
  clear I
  go_wp2_with fail
  refine (reads_any w).mono ?_
  rintro e w2 ⟨rfl, hb⟩
  have T2 := Lib.hid (T.out.keep hb)
  have B2 := Lib.hid (show Only O w w2 from Only.of_below hb)
  clear hb
  have hix := ixr2
  unfold readA mexp at *
  go_wp2_with fail
  refine (ctrlNow_any b room t tl u O w2 T2.out).mono ?_
  rintro e w3 ⟨rfl, rfl⟩
  have R := Lib.hid (show Left w w2 b room t tl u O from Left.of T2.out B2.out)
  go_wp2_with fail
  go_ret
  exact ⟨rfl, R.out⟩
theorem readM3 (b room : Nat) (t : TypeId) (tl : List Value) (u : Bx) (O : Nat → Prop) (w : World) (h : MW w b room t tl u O) :
    Calls Tryz.prog 198 #[me b, .int .i64 3] w fun e w' => e = .returned (.int .u32 (readX u 3).1) ∧ Left w w' b room t tl (readX u 3).2 O := by
  have T := Lib.hid h
  have I := Lib.hid (isReg_any 3 w ⟨by decide, by decide⟩)
  have hd : decide ((0 : Int) ≤ 3 ∧ (3 : Int) < 4) = true := by decide
  rw [hd] at I
  clear h hd
  go_enter Tryz.func198, Tryz.ntmps198
  go_wp2_with fail
  refine I.out.mono ?_
  rintro e w1 ⟨rfl, rfl⟩
  clear I
  go_wp2_with fail
  refine (reads_any w).mono ?_
  rintro e w2 ⟨rfl, hb⟩
  have T2 := Lib.hid (T.out.keep hb)
  have B2 := Lib.hid (show Only O w w2 from Only.of_below hb)
  clear hb
  have hix := ixr3
  unfold readA mexp at *
  go_wp2_with fail
  refine (lostNow_any b room t tl u O w2 T2.out).mono ?_
  rintro e w3 ⟨rfl, rfl⟩
  have R := Lib.hid (show Left w w2 b room t tl u O from Left.of T2.out B2.out)
  go_wp2_with fail
  go_ret
  exact ⟨rfl, R.out⟩
theorem readQ1 (b room : Nat) (t : TypeId) (tl : List Value) (u : Bx) (O : Nat → Prop) (w : World) (h : MW w b room t tl u O) :
    Calls Tryz.prog 198 #[me b, .int .i64 1] w fun e w' => e = .returned (.int .u32 (readX u 1).1) ∧ Below w.heap.size w w' := by
  have T := Lib.hid h
  have I := Lib.hid (isReg_any 1 w ⟨by decide, by decide⟩)
  have hd : decide ((0 : Int) ≤ 1 ∧ (1 : Int) < 4) = true := by decide
  rw [hd] at I
  clear h hd
  go_enter Tryz.func198, Tryz.ntmps198
  go_wp2_with fail
  refine I.out.mono ?_
  rintro e w1 ⟨rfl, rfl⟩
  clear I
  go_wp2_with fail
  refine (reads_any w).mono ?_
  rintro e w2 ⟨rfl, hb⟩
  have T2 := Lib.hid (T.out.keep hb)
  have B2 := Lib.hid hb
  clear hb
  have hix := ixr1
  unfold readA mexp at *
  go_wp2_with fail
  refine (count_any b room t tl u O w2 T2.out).mono ?_
  rintro e w3 ⟨rfl, h3⟩
  have R := Lib.hid (show Below w.heap.size w w3 from B2.out.trans (h3.mono B2.out.size))
  try clear h3
  go_wp2_with fail
  go_ret
  exact ⟨rfl, R.out⟩
theorem readQ2 (b room : Nat) (t : TypeId) (tl : List Value) (u : Bx) (O : Nat → Prop) (w : World) (h : MW w b room t tl u O) :
    Calls Tryz.prog 198 #[me b, .int .i64 2] w fun e w' => e = .returned (.int .u32 (readX u 2).1) ∧ Below w.heap.size w w' := by
  have T := Lib.hid h
  have I := Lib.hid (isReg_any 2 w ⟨by decide, by decide⟩)
  have hd : decide ((0 : Int) ≤ 2 ∧ (2 : Int) < 4) = true := by decide
  rw [hd] at I
  clear h hd
  go_enter Tryz.func198, Tryz.ntmps198
  go_wp2_with fail
  refine I.out.mono ?_
  rintro e w1 ⟨rfl, rfl⟩
  clear I
  go_wp2_with fail
  refine (reads_any w).mono ?_
  rintro e w2 ⟨rfl, hb⟩
  have T2 := Lib.hid (T.out.keep hb)
  have B2 := Lib.hid hb
  clear hb
  have hix := ixr2
  unfold readA mexp at *
  go_wp2_with fail
  refine (ctrlNow_any b room t tl u O w2 T2.out).mono ?_
  rintro e w3 ⟨rfl, rfl⟩
  have R := Lib.hid (show Below w.heap.size w w2 from B2.out)
  try clear h3
  go_wp2_with fail
  go_ret
  exact ⟨rfl, R.out⟩
theorem readQ3 (b room : Nat) (t : TypeId) (tl : List Value) (u : Bx) (O : Nat → Prop) (w : World) (h : MW w b room t tl u O) :
    Calls Tryz.prog 198 #[me b, .int .i64 3] w fun e w' => e = .returned (.int .u32 (readX u 3).1) ∧ Below w.heap.size w w' := by
  have T := Lib.hid h
  have I := Lib.hid (isReg_any 3 w ⟨by decide, by decide⟩)
  have hd : decide ((0 : Int) ≤ 3 ∧ (3 : Int) < 4) = true := by decide
  rw [hd] at I
  clear h hd
  go_enter Tryz.func198, Tryz.ntmps198
  go_wp2_with fail
  refine I.out.mono ?_
  rintro e w1 ⟨rfl, rfl⟩
  clear I
  go_wp2_with fail
  refine (reads_any w).mono ?_
  rintro e w2 ⟨rfl, hb⟩
  have T2 := Lib.hid (T.out.keep hb)
  have B2 := Lib.hid hb
  clear hb
  have hix := ixr3
  unfold readA mexp at *
  go_wp2_with fail
  refine (lostNow_any b room t tl u O w2 T2.out).mono ?_
  rintro e w3 ⟨rfl, rfl⟩
  have R := Lib.hid (show Below w.heap.size w w2 from B2.out)
  try clear h3
  go_wp2_with fail
  go_ret
  exact ⟨rfl, R.out⟩
theorem readX_other (u : Bx) (k : Int) (h : ¬ (0 ≤ k ∧ k < 4)) : readX u k = (0, u) := by
  unfold readX
  rw [if_neg (by omega), if_neg (by omega), if_neg (by omega), if_neg (by omega)]
theorem readMo (b room : Nat) (t : TypeId) (tl : List Value) (u : Bx) (O : Nat → Prop) (k : Int) (w : World) (hk : I64 k) (hn : ¬ (0 ≤ k ∧ k < 4)) (h : MW w b room t tl u O) :
    Calls Tryz.prog 198 #[me b, .int .i64 k] w fun e w' => e = .returned (.int .u32 0) ∧ w = w' := by
  have I := Lib.hid (isReg_any k w hk)
  rw [decide_eq_false hn] at I
  clear hk hn h
  go_enter Tryz.func198, Tryz.ntmps198
  go_wp2_with fail
  refine I.out.mono ?_
  rintro e w1 ⟨rfl, rfl⟩
  clear I
  go_wp2_with fail
  go_ret
  exact ⟨rfl, rfl⟩
theorem readM_any (b room : Nat) (t : TypeId) (tl : List Value) (u : Bx) (O : Nat → Prop) (k : Int) (w : World) (hk : I64 k) (h : MW w b room t tl u O) :
    Calls Tryz.prog 198 #[me b, .int .i64 k] w fun e w' => e = .returned (.int .u32 (readX u k).1) ∧ Left w w' b room t tl (readX u k).2 O := by
  by_cases hn : 0 ≤ k ∧ k < 4
  · have hc : k = 0 ∨ k = 1 ∨ k = 2 ∨ k = 3 := by omega
    rcases hc with rfl | rfl | rfl | rfl
    · exact readM0 b room t tl u O w h
    · exact readM1 b room t tl u O w h
    · exact readM2 b room t tl u O w h
    · exact readM3 b room t tl u O w h
  · rw [readX_other u k hn]
    refine (readMo b room t tl u O k w hk hn h).mono ?_
    rintro e w' ⟨rfl, rfl⟩
    exact ⟨rfl, Left.of h (Only.refl _ _)⟩
theorem readQ_any (b room : Nat) (t : TypeId) (tl : List Value) (u : Bx) (O : Nat → Prop) (k : Int) (w : World) (hk : I64 k) (h0 : ¬ k = 0) (h : MW w b room t tl u O) :
    Calls Tryz.prog 198 #[me b, .int .i64 k] w fun e w' => e = .returned (.int .u32 (readX u k).1) ∧ Below w.heap.size w w' := by
  by_cases hn : 0 ≤ k ∧ k < 4
  · have hc : k = 1 ∨ k = 2 ∨ k = 3 := by omega
    rcases hc with rfl | rfl | rfl
    · exact readQ1 b room t tl u O w h
    · exact readQ2 b room t tl u O w h
    · exact readQ3 b room t tl u O w h
  · rw [readX_other u k hn]
    refine (readMo b room t tl u O k w hk hn h).mono ?_
    rintro e w' ⟨rfl, rfl⟩
    exact ⟨rfl, Below.refl _ _⟩
/-- What is written, where there are so many places. -/
def writeR (room : Nat) (u : Bx) (k v : Int) : Bx := if k = 0 then asideR room u v else writeX u k v
theorem writeR_4 (u : Bx) (k v : Int) : writeR 4 u k v = writeX u k v := by
  unfold writeR writeX asideR
  by_cases e : k = 0
  · rw [if_pos e, if_pos e]
  · rw [if_neg e]
theorem writeM0 (b room : Nat) (t : TypeId) (tl : List Value) (u : Bx) (O : Nat → Prop) (z : Int) (w : World) (h4 : room ≤ 4) (hz : 0 ≤ z ∧ z < 4294967296) (h : MW w b room t tl u O) :
    Calls Tryz.prog 199 #[me b, .int .i64 0, .int .u32 z] w fun e w' => e = .returned (.tuple #[]) ∧ Left w w' b room t tl (writeR room u 0 z) O := by
  have T := Lib.hid h
  have Hz := Lib.hid hz
  have H4 := Lib.hid h4
  have I := Lib.hid (isReg_any 0 w ⟨by decide, by decide⟩)
  have hd : decide ((0 : Int) ≤ 0 ∧ (0 : Int) < 4) = true := by decide
  rw [hd] at I
  clear h hd hz h4
  go_enter Tryz.func199, Tryz.ntmps199
  go_wp2_with fail
  refine I.out.mono ?_
  rintro e w1 ⟨rfl, rfl⟩
  clear I
  go_wp2_with fail
  refine (writes_any w).mono ?_
  rintro e w2 ⟨rfl, hb⟩
  have T2 := Lib.hid (T.out.keep hb)
  have B2 := Lib.hid (show Only O w w2 from Only.of_below hb)
  clear hb
  have hix := ixw0
  unfold writeA mexp at *
  go_wp2_with fail
  refine (aside_any b room t tl u O z w2 H4.out Hz.out T2.out).mono ?_
  rintro e w3 ⟨rfl, h3⟩
  have R := Lib.hid (show Left w w3 b room t tl (writeR room u 0 z) O from Left.trans B2.out h3)
  clear h3
  go_wp2_with fail
  first | go_end0 | refine bodyPost_ret (results_none rfl _ _ _) rfl ?_
  exact ⟨rfl, R.out⟩
theorem writeM1 (b room : Nat) (t : TypeId) (tl : List Value) (u : Bx) (O : Nat → Prop) (z : Int) (w : World) (h4 : room ≤ 4) (hz : 0 ≤ z ∧ z < 4294967296) (h : MW w b room t tl u O) :
    Calls Tryz.prog 199 #[me b, .int .i64 1, .int .u32 z] w fun e w' => e = .returned (.tuple #[]) ∧ Left w w' b room t tl (writeR room u 1 z) O := by
  have T := Lib.hid h
  have Hz := Lib.hid hz
  have H4 := Lib.hid h4
  have I := Lib.hid (isReg_any 1 w ⟨by decide, by decide⟩)
  have hd : decide ((0 : Int) ≤ 1 ∧ (1 : Int) < 4) = true := by decide
  rw [hd] at I
  clear h hd hz h4
  go_enter Tryz.func199, Tryz.ntmps199
  go_wp2_with fail
  refine I.out.mono ?_
  rintro e w1 ⟨rfl, rfl⟩
  clear I
  go_wp2_with fail
  refine (writes_any w).mono ?_
  rintro e w2 ⟨rfl, hb⟩
  have T2 := Lib.hid (T.out.keep hb)
  have B2 := Lib.hid (show Only O w w2 from Only.of_below hb)
  clear hb
  have hix := ixw1
  unfold writeA mexp at *
  go_wp2_with fail
  refine (stay_any (.int .u32 z) b w2).mono ?_
  rintro e w3 ⟨rfl, rfl⟩
  have R := Lib.hid (show Left w w2 b room t tl (writeR room u 1 z) O from Left.of T2.out B2.out)
  go_wp2_with fail
  first | go_end0 | refine bodyPost_ret (results_none rfl _ _ _) rfl ?_
  exact ⟨rfl, R.out⟩
theorem writeM2 (b room : Nat) (t : TypeId) (tl : List Value) (u : Bx) (O : Nat → Prop) (z : Int) (w : World) (h4 : room ≤ 4) (hz : 0 ≤ z ∧ z < 4294967296) (h : MW w b room t tl u O) :
    Calls Tryz.prog 199 #[me b, .int .i64 2, .int .u32 z] w fun e w' => e = .returned (.tuple #[]) ∧ Left w w' b room t tl (writeR room u 2 z) O := by
  have T := Lib.hid h
  have Hz := Lib.hid hz
  have H4 := Lib.hid h4
  have I := Lib.hid (isReg_any 2 w ⟨by decide, by decide⟩)
  have hd : decide ((0 : Int) ≤ 2 ∧ (2 : Int) < 4) = true := by decide
  rw [hd] at I
  clear h hd hz h4
  go_enter Tryz.func199, Tryz.ntmps199
  go_wp2_with fail
  refine I.out.mono ?_
  rintro e w1 ⟨rfl, rfl⟩
  clear I
  go_wp2_with fail
  refine (writes_any w).mono ?_
  rintro e w2 ⟨rfl, hb⟩
  have T2 := Lib.hid (T.out.keep hb)
  have B2 := Lib.hid (show Only O w w2 from Only.of_below hb)
  clear hb
  have hix := ixw2
  unfold writeA mexp at *
  go_wp2_with fail
  refine (setCtrl_any b room t tl u O z w2 Hz.out T2.out).mono ?_
  rintro e w3 ⟨rfl, h3⟩
  have R := Lib.hid (show Left w w3 b room t tl (writeR room u 2 z) O from Left.trans B2.out h3)
  clear h3
  go_wp2_with fail
  first | go_end0 | refine bodyPost_ret (results_none rfl _ _ _) rfl ?_
  exact ⟨rfl, R.out⟩
theorem writeM3 (b room : Nat) (t : TypeId) (tl : List Value) (u : Bx) (O : Nat → Prop) (z : Int) (w : World) (h4 : room ≤ 4) (hz : 0 ≤ z ∧ z < 4294967296) (h : MW w b room t tl u O) :
    Calls Tryz.prog 199 #[me b, .int .i64 3, .int .u32 z] w fun e w' => e = .returned (.tuple #[]) ∧ Left w w' b room t tl (writeR room u 3 z) O := by
  have T := Lib.hid h
  have Hz := Lib.hid hz
  have H4 := Lib.hid h4
  have I := Lib.hid (isReg_any 3 w ⟨by decide, by decide⟩)
  have hd : decide ((0 : Int) ≤ 3 ∧ (3 : Int) < 4) = true := by decide
  rw [hd] at I
  clear h hd hz h4
  go_enter Tryz.func199, Tryz.ntmps199
  go_wp2_with fail
  refine I.out.mono ?_
  rintro e w1 ⟨rfl, rfl⟩
  clear I
  go_wp2_with fail
  refine (writes_any w).mono ?_
  rintro e w2 ⟨rfl, hb⟩
  have T2 := Lib.hid (T.out.keep hb)
  have B2 := Lib.hid (show Only O w w2 from Only.of_below hb)
  clear hb
  have hix := ixw3
  unfold writeA mexp at *
  go_wp2_with fail
  refine (forgetLost_any b room t tl u O z w2 Hz.out T2.out).mono ?_
  rintro e w3 ⟨rfl, h3⟩
  have R := Lib.hid (show Left w w3 b room t tl (writeR room u 3 z) O from Left.trans B2.out h3)
  clear h3
  go_wp2_with fail
  first | go_end0 | refine bodyPost_ret (results_none rfl _ _ _) rfl ?_
  exact ⟨rfl, R.out⟩
theorem writeMo (b room : Nat) (t : TypeId) (tl : List Value) (u : Bx) (O : Nat → Prop) (k z : Int) (w : World) (hk : I64 k) (hn : ¬ (0 ≤ k ∧ k < 4)) (h : MW w b room t tl u O) :
    Calls Tryz.prog 199 #[me b, .int .i64 k, .int .u32 z] w fun e w' => e = .returned (.tuple #[]) ∧ w = w' := by
  have I := Lib.hid (isReg_any k w hk)
  rw [decide_eq_false hn] at I
  clear hk hn h
  go_enter Tryz.func199, Tryz.ntmps199
  go_wp2_with fail
  refine I.out.mono ?_
  rintro e w1 ⟨rfl, rfl⟩
  clear I
  go_wp2_with fail
  first | go_end0 | refine bodyPost_ret (results_none rfl _ _ _) rfl ?_
  exact ⟨rfl, rfl⟩
theorem writeM_any (b room : Nat) (t : TypeId) (tl : List Value) (u : Bx) (O : Nat → Prop) (k z : Int) (w : World) (h4 : room ≤ 4) (hk : I64 k) (hz : 0 ≤ z ∧ z < 4294967296) (h : MW w b room t tl u O) :
    Calls Tryz.prog 199 #[me b, .int .i64 k, .int .u32 z] w fun e w' => e = .returned (.tuple #[]) ∧ Left w w' b room t tl (writeR room u k z) O := by
  by_cases hn : 0 ≤ k ∧ k < 4
  · have hc : k = 0 ∨ k = 1 ∨ k = 2 ∨ k = 3 := by omega
    rcases hc with rfl | rfl | rfl | rfl
    · exact writeM0 b room t tl u O z w h4 hz h
    · exact writeM1 b room t tl u O z w h4 hz h
    · exact writeM2 b room t tl u O z w h4 hz h
    · exact writeM3 b room t tl u O z w h4 hz h
  · rw [show writeR room u k z = u by unfold writeR writeX; rw [if_neg (by omega), if_neg (by omega), if_neg (by omega), if_neg (by omega)]]
    refine (writeMo b room t tl u O k z w hk hn h).mono ?_
    rintro e w' ⟨rfl, rfl⟩
    exact ⟨rfl, Left.of h (Only.refl _ _)⟩
end Go.Proofs.YtknhgfofmkpnfaaGreat.Mbox
/- Package mailbox: state, apart. -/
namespace Go.Proofs.YtknhgfofmkpnfaaGreat.Mbox
open Go.RowKit Go.Maps Go.ChangeShapes Go.WideShapes Go.ChangeAt Fifo Orow Word
set_option linter.unusedVariables false
attribute [local go_sem] Oper.semAt_some

theorem okb_keep {w w' : World} {B n sz : Nat} {e : TypeId} {v : Value} {L : List Value} (h : w.ownsRow B e sz v n L) {C : Nat} (hk : Book C w w') : w'.ownsRow B e sz v n L := by
  refine ⟨h.1, ?_⟩
  rcases h.2 with h2 | ⟨g, cap, cur, h1, h2, h3, r⟩
  · exact .inl h2
  · exact .inr ⟨g, cap, cur, h1, h2, hk.cells g _ h3 rfl, r⟩
/-- A round that appends to a row whose slice lies at the front of a block of its own. -/
theorem step_grow {k : Nat} {w W w5 : World} {t e : TypeId} {v v' : Value} {L L' : List Value} {o : Obj} {C sb : Nat} {tl : List Value} (hC : C ≤ sb) (h1 : Blk W sb t (v :: tl)) (h2 : W.ownsRow (sb + 1) e 1 v k L) (h3 : Below C w W) (r1 : w5.ownsRow (sb + 1) e 1 v' (k + 1) L')
    (r2 : (W.alloc o).grownBy w5 v.ownBlock) (r4 : v'.ownBlock = v.ownBlock ∨ v'.ownBlock = some (W.alloc o).heap.size) :
    ∃ a c, v' = .slice a (k + 1) c ∧ w5.cell? ⟨sb, 0, none⟩ = some v ∧ w5.frozen? ⟨sb, 0, none⟩ = false ∧ Blk (w5.setCell ⟨sb, 0, none⟩ v') sb t (v' :: tl) ∧ (w5.setCell ⟨sb, 0, none⟩ v').ownsRow (sb + 1) e 1 v' (k + 1) L' ∧
      Below C w (w5.setCell ⟨sb, 0, none⟩ v') ∧ (∀ j, (j = sb ∨ PB v' j) → (j = sb ∨ PB v j) ∨ W.heap.size ≤ j) ∧ Only (fun j => j = sb ∨ PB v j) W (w5.setCell ⟨sb, 0, none⟩ v') := by
  obtain ⟨a, c, hv, _⟩ := own_shape r1
  have hpv : ∀ j, PB v j → sb + 1 ≤ j := fun j hj => (h2.lt j hj).1
  have hpv' : ∀ j, PB v' j → sb + 1 ≤ j := fun j hj => (r1.lt j hj).1
  have hg : Only (PB v) (W.alloc o) w5 := ⟨r2.os, r2.tape, r2.output, r2.size, fun k hk hn => r2.block k hk (fun e => hn e.symm)⟩
  have ho1 : Only (PB v) W w5 := (Only.of_below ((Below.refl _ W).alloc (Nat.le_refl _) o)).trans hg
  have hB : Blk w5 sb t (v :: tl) := h1.only ho1 (fun hj => by have := hpv _ hj; omega)
  have hset := (Only.refl (fun j => j = sb) w5).setCell (p := ⟨sb, 0, none⟩) rfl v'
  subst hv
  refine ⟨a, c, rfl, hB.at 0 rfl, hB.frozen 0, hB.set 0 _, own_only r1 hset (fun j hj e => by have := (own_lt r1 j hj).1; omega), ?_, ?_, (ho1.mono (fun j _ h => .inr h)).trans (hset.mono (fun j _ h => .inl h))⟩
  · exact (h3.trans (ho1.below (by have := h1.lt; omega) (fun j hj => by have := hpv j hj; omega))).setCell (p := ⟨sb, 0, none⟩) hC _
  · rintro j (rfl | hj)
    · exact .inl (.inl rfl)
    · unfold PB at hj ⊢
      rcases r4 with h | h
      · exact .inl (.inr (h ▸ hj))
      · rw [h, World.size_alloc] at hj
        simp only [Option.some.injEq] at hj
        exact .inr (by omega)
set_option maxRecDepth 100000 in
set_option maxHeartbeats 2000000 in
theorem stateM_any (b room : Nat) (t : TypeId) (tl : List Value) (u : Bx) (O : Nat → Prop) (w : World) (h : MW w b room t tl u O) :
    Calls Tryz.prog 236 #[me b] w fun e w' => (∃ a c, e = .returned (.agg #[.slice a u.W.length c, .int .u32 u.C, .int .u32 u.L]) ∧ w'.ownsRow w.heap.size 23 1 (.slice a u.W.length c) u.W.length (lv u.W)) ∧ Below w.heap.size w w' := by
  obtain ⟨p, A, h, e⟩ := h
  obtain ⟨l, C, L⟩ := u
  obtain ⟨i0, hi, hz0, hz1, hz2⟩ := info_parts FL.info_e
  have Hi := Lib.hid hi
  have Hz0 := Lib.hid hz0
  have Hz1 := Lib.hid hz1
  have Hz2 := Lib.hid hz2
  clear hi hz0 hz1 hz2
  have K := Lib.hid (fun W (hb : Below w.heap.size w W) => h.keep hb)
  have c0 : ∀ W, Below w.heap.size w W → W.cell? ⟨b, 0, none⟩ = some p := fun W hb => (K.out W hb).blk.at 0 rfl
  have c1 : ∀ W, Below w.heap.size w W → W.cell? ⟨b, 1, none⟩ = some (.int .u32 C) := fun W hb => (K.out W hb).blk.at 1 rfl
  have c2 : ∀ W, Below w.heap.size w W → W.cell? ⟨b, 2, none⟩ = some (.int .u32 L) := fun W hb => (K.out W hb).blk.at 2 rfl
  have HA := Lib.hid (fun W (hb : Below w.heap.size w W) => (K.out W hb).row.all)
  have Hlen := Lib.hid h.ok.w.2
  clear h e
  refine (callsIn_wide (n := 4)).1 ?_
  refine callsIn_of_wp_marks Tryz.func236 rfl trivial ?_ rfl
  simp only [Tryz.ntmps236, List.size_toArray, List.length_cons, List.length_nil, Nat.reduceAdd, Nat.reduceSub, Array.replicate_succ, Array.replicate_zero, List.push_toArray, List.append_toArray, List.nil_append, List.cons_append]
  gi_wp2_with fail
  refine wpIn_wide.2 ?_
  refine code_letter ?_
  intro W hW
  have B0 := Lib.hid (show Below w.heap.size w W by rw [hW.out]; exact (Below.refl w.heap.size w).alloc (Nat.le_refl _) _)
  have Z0 := Lib.hid (show Blk W w.heap.size 276 [.slice none 0 0, .int .u32 0, .int .u32 0] by rw [hW.out]; exact Blk.new w _ [.slice none 0 0, .int .u32 0, .int .u32 0])
  clear hW
  obtain ⟨g, hg⟩ : ∃ g, w.heap.size = g := ⟨_, rfl⟩
  have HG := Lib.hid hg
  rw [hg] at Z0
  rw [hg]
  clear hg
  have e1 := c1 _ B0.out
  have e2 := c2 _ B0.out
  have e3 := c1 _ (B0.out.alloc B0.out.size (.cells #[.slice none 0 0, .int .u32 0, .int .u32 0] 276))
  have e4 := c2 _ (B0.out.alloc B0.out.size (.cells #[.slice none 0 0, .int .u32 0, .int .u32 0] 276))
  go_region
  refine exit_letter ?_
  intro X hX
  obtain ⟨sb, hsb⟩ : ∃ n, W.heap.size = n := ⟨_, rfl⟩
  have Hgs := Lib.hid (show g < sb by have := Z0.out.lt; omega)
  have B1 := Lib.hid (show Below w.heap.size w X by rw [hX.out]; exact (B0.out.alloc B0.out.size _).drew)
  have Z1 := Lib.hid (show Blk X g 276 [.slice none 0 0, .int .u32 0, .int .u32 0] by rw [hX.out]; exact Z0.out.keep ((Below.refl _ _).alloc (Nat.le_refl _) _).drew)
  have S1 := Lib.hid (show Blk X sb 276 [.slice none 0 0, .int .u32 C, .int .u32 L] by rw [hX.out, ← hsb]; exact (Blk.new W _ [.slice none 0 0, .int .u32 C, .int .u32 L]).keep (Below.refl _ _).drew)
  have e0 := c0 _ B1.out
  have HA1 := Lib.hid (HA.out _ B1.out)
  rw [hsb]
  clear hX e1 e2 e3 e4 Z0 B0 hsb c0 c1 c2 HA K
  gi_wp2_with (refine ⟨trivial, ?_⟩; gi_at_call 238; refine (callsIn_wide.2 HA1.out).mono ?_; rintro e w1 ⟨box, rfl, hb1, hs⟩; have Hseq := Lib.hid (hs 3 w1 (by omega) (Below.refl _ _)); have Hb1 := Lib.hid hb1; have Hbx := Lib.hid (S1.out.keep hb1); have Hbz := Lib.hid (Z1.out.keep hb1); clear hs hb1)
  have hs1 := Hb1.out.size
  have hs2 : sb < w1.heap.size := Hbx.out.lt
  have Hbw := Lib.hid (show Below g w w1 by have := B1.out.trans (Hb1.out.mono B1.out.size); rwa [HG.out] at this)
  refine range_law rfl (by omega) (gf := 240) (bound := #[]) (lb := #[.pointer (some ⟨box, 0, none⟩)]) rfl trivial (enters_of Tryz.func240 (by kernel_rfl) rfl)
    Hseq.out (fun _ => rfl) (fun j hj => hj.elim)
    (fun k T X => ∃ v, (T = fun j => j = sb ∨ PB v j) ∧ Blk X sb 276 [v, .int .u32 C, .int .u32 L] ∧ X.ownsRow (sb + 1) 23 1 v k (lv (l.take k)) ∧ Below g w X ∧ Blk X g 276 [.slice none 0 0, .int .u32 0, .int .u32 0])
    (fun _ _ _ _ => False) (fun j => j = sb ∨ PB (.slice none 0 0) j)
    (fun j hj hk => hk)
    (fun j hj => by
      rcases hj with hj | hj
      · omega
      · simp [PB, Value.ownBlock] at hj)
    (fun k T W W' h hk => by
      obtain ⟨v, hT, h1, h2, h3, h4⟩ := h
      exact ⟨v, hT, h1.book hk, okb_keep h2 hk, hk.below h3 (by have := Hgs.out; omega), h4.book hk⟩)
    (fun _ _ _ _ _ h _ => h)
    (fun k T W j h hj => by
      obtain ⟨v, rfl, h1, h2, h3, h4⟩ := h
      rcases hj with rfl | hj
      · exact h1.lt
      · exact (h2.lt j hj).2)
    ⟨.slice none 0 0, rfl, Hbx.out, World.ownsRow_nil _ _ _ _, Hbw.out, Hbz.out⟩ ?round ?done ?stop
  case round =>
    intro lp k T W0 hk
    obtain ⟨y, hy⟩ : ∃ y, l[k]? = some y := ⟨_, List.getElem?_eq_getElem hk⟩
    rw [show FL.els (lv l) k = #[.int .i64 (k : Nat), .int .u32 y] by simp [FL.els, lv, hy]]
    have Hk := Lib.hid hk
    have Hy := Lib.hid hy
    clear hk hy
    gi_wp2
    refine ⟨trivial, ?_⟩
    rintro W hsz ⟨v, rfl, h1, h2, h3, h4⟩ hT
    have q1 := h1.at 0 rfl
    have H1 := Lib.hid h1
    have H2 := Lib.hid h2
    have H3 := Lib.hid h3
    have H4 := Lib.hid h4
    obtain ⟨av, cv, hv, _⟩ := own_shape h2
    subst hv
    have hk6 : k ≤ 8 := by have := Hk.out; have := Hlen.out; omega
    clear h1 h2 h3 h4 hT
    gi_wp2_with (gi_at_builtin; refine wpListIn_append_own_at _ rfl _ _ 32 rfl (sb + 1) 23 i0 (.int .u32 0) 1 4 Tryz.underlying32 Hi.out Hz0.out Hz1.out Hz2.out rfl (by decide) _ _ _ rfl (own_keep H2.out ((Below.refl _ _).alloc (Nat.le_refl _) _)) ⟨W.heap.size, 0, none⟩ 1 1 [.int .u32 y] rfl rfl (cell_one_new _ _ _) (by simp [Value.oneCell']) (by unfold maxLen; omega) (by omega) (by simp; omega) ?_; intro v' w5 r1 r2 _ r4; obtain ⟨a5, c5, hv5, q5, f5, g1, g2, g3, g4, g5⟩ := step_grow (Nat.le_of_lt Hgs.out) H1.out H2.out H3.out r1 r2 r4; subst hv5; have G1 := Lib.hid g1; have G2 := Lib.hid g2; have G3 := Lib.hid g3; have G4 := Lib.hid g4; have G5 := Lib.hid g5; clear r1 r2 r4 g1 g2 g3 g4 g5 q1)
    refine ⟨_, G4.out, G5.out, _, rfl, G1.out, ?_, G3.out, H4.out.only G5.out (fun hj => by
      have hx := Hgs.out
      rcases hj with hj | hj
      · omega
      · have := (H2.out.lt g hj).1
        omega)⟩
    have e : l.take (k + 1) = l.take k ++ [y] := by rw [List.take_add_one, Hy.out]; rfl
    have e2 : lv (l.take (k + 1)) = lv (l.take k) ++ [.int .u32 y] := by rw [e]; simp [lv]
    rw [e2]
    exact G2.out
  case done =>
    rintro T W ⟨v, -, h1, h2, h3, h4⟩ hD
    obtain ⟨av, cv, hv, _⟩ := own_shape h2
    subst hv
    rw [List.take_length] at h2
    have q0 := h1.at 0 rfl
    have q1 := h1.at 1 rfl
    have q2 := h1.at 2 rfl
    have z0 := h4.at 0 rfl
    have z1 := h4.at 1 rfl
    have z2 := h4.at 2 rfl
    have f0 := h4.frozen 0
    have f1 := h4.frozen 1
    have f2 := h4.frozen 2
    have H2 := Lib.hid h2
    have H3 := Lib.hid h3
    have H4 := Lib.hid h4
    have HD := Lib.hid hD
    clear h1 h2 h3 h4 hD
    gi_wp2
    obtain ⟨Y, hY⟩ : ∃ Y, ((W.setCell ⟨g, 0, none⟩ (.slice av l.length cv)).setCell ⟨g, 1, none⟩ (.int .u32 C)).setCell ⟨g, 2, none⟩ (.int .u32 L) = Y := ⟨_, rfl⟩
    have YB : Blk Y g 276 [.slice av l.length cv, .int .u32 C, .int .u32 L] := by rw [← hY]; exact ((H4.out.set 0 _).set 1 _).set 2 _
    have YO : Only (fun j => j = g) W Y := by rw [← hY]; exact (((Only.refl (fun j => j = g) W).setCell (p := ⟨g, 0, none⟩) rfl _).setCell (p := ⟨g, 1, none⟩) rfl _).setCell (p := ⟨g, 2, none⟩) rfl _
    rw [hY]
    have hx := Hgs.out
    have YR := own_only H2.out YO (fun j hj e => by have := (own_lt H2.out j hj).1; have e : j = g := e; omega)
    have YD := YO.heap HD.out (fun e => by have e : w1.heap.size = g := e; omega)
    have YH : Below g w Y := H3.out.trans (YO.below (by have := H3.out.size; have := HG.out; omega) (fun k e => by have e : k = g := e; omega))
    have Hk := Book.put (B := w1.heap.size) (o' := .deferred none) (Nat.le_refl _) YD rfl
    have RB := YB.book Hk
    have r0 := RB.at 0 rfl
    have r1 := RB.at 1 rfl
    have r2 := RB.at 2 rfl
    refine ⟨by simp, .inl ⟨_, _, rfl, run_takeDeferred YD, ?_⟩⟩
    refine ⟨.agg #[.slice av l.length cv, .int .u32 C, .int .u32 L], ?_, ⟨av, cv, rfl, own_mono (okb_keep YR Hk) (by have := HG.out; omega)⟩, by rw [HG.out]; exact Hk.below YH (by omega)⟩
    simp [results, Tryz.results236, go_sem, r0, r1, r2]
  case stop =>
    intro c k T W _ h
    exact h.elim
set_option maxRecDepth 100000 in
theorem apart_any (b : Nat) (t : TypeId) (tl : List Value) (u : Bx) (g1 : Nat) (A : Nat → Prop) (w : World) (h : MB w b 4 t tl u (me g1) A) (hs : FL.St w g1 4 (lv u.W) A) :
    Calls Tryz.prog 235 #[me b] w fun e w' => ∃ c A', e = .returned (.agg #[me c, .int .u32 u.C, .int .u32 u.L]) ∧ FL.St w' c 4 (lv u.W) A' ∧ (∀ j, A' j → w.heap.size ≤ j) ∧ Below w.heap.size w w' := by
  obtain ⟨l, C, L⟩ := u
  go_enter Tryz.func235, Tryz.ntmps235
  go_wp2_with fail
  refine code_letter ?_
  intro W hW
  have B0 := Lib.hid (show Below w.heap.size w W by rw [hW.out]; exact (Below.refl w.heap.size w).alloc (Nat.le_refl _) _)
  have Z0 := Lib.hid (show Blk W w.heap.size 128 [.pointer none, .int .u32 0, .int .u32 0] by rw [hW.out]; exact Blk.new w _ [.pointer none, .int .u32 0, .int .u32 0])
  clear hW
  obtain ⟨g, hg⟩ : ∃ g, w.heap.size = g := ⟨_, rfl⟩
  have HG := Lib.hid hg
  rw [hg] at Z0
  rw [hg]
  clear hg
  have hbg : b < g := by have := h.blk.lt; have := HG.out; omega
  have hag : ∀ j, A j → j < g := fun j hj => by have := h.row.lt j hj; have := HG.out; omega
  have K := Lib.hid (fun W' (ho : Only (fun j => j = g) W W') => show MB W' b 4 t tl ⟨l, C, L⟩ (me g1) A from (h.keep B0.out).only ho (fun e => by have e : b = g := e; omega) (fun j hj e => by have := hag j hj; have e : j = g := e; omega))
  have HC := Lib.hid (fun W' (ho : Only (fun j => j = g) W W') => FL.Copy_st g1 4 _ A W' ((hs.keep B0.out).only ho (fun j hj e => by have := hag j hj; have e : j = g := e; omega)))
  have c0 : ∀ w', Only (fun j => j = g) W w' → w'.cell? ⟨b, 0, none⟩ = some (me g1) := fun w' h => (K.out w' h).blk.at 0 rfl
  have c1 : ∀ w', Only (fun j => j = g) W w' → w'.cell? ⟨b, 1, none⟩ = some (.int .u32 C) := fun w' h => (K.out w' h).blk.at 1 rfl
  have c2 : ∀ w', Only (fun j => j = g) W w' → w'.cell? ⟨b, 2, none⟩ = some (.int .u32 L) := fun w' h => (K.out w' h).blk.at 2 rfl
  have D1 : Below W.heap.size W W.drew := (Below.refl W.heap.size W).drew
  have D0 : Only (fun j => j = g) W W.drew := Only.of_below D1
  clear K h hs hbg hag
  refine wp_region_held_drew (S := fun w' => Only (fun j => j = g) W w') (by kernel_rfl) D0 (fun hHeld => ?_)
  refine wpAnyH_take (i := 0) (v := ?_) rfl (by kernel_rfl) (by kernel_rfl) (by kernel_rfl) (fun _ _ _ h => h) (Or.inl ⟨by rfl, ?_⟩) (by assumption) ?_
  rotate_left
  · (intro w hSw; (try dsimp only at hSw); go_simp; try (with_reducible rfl))
  try simp only [Act.put]
  refine wpAnyH_take (i := 1) (v := ?_) rfl (by kernel_rfl) (by kernel_rfl) (by kernel_rfl) (fun _ _ _ h => h) (Or.inl ⟨by rfl, ?_⟩) (by assumption) ?_
  rotate_left
  · (intro w hSw; (try dsimp only at hSw); go_simp; try (with_reducible rfl))
  try simp only [Act.put]
  refine wpAnyH_take (i := 2) (v := ?_) rfl (by kernel_rfl) (by kernel_rfl) (by kernel_rfl) (fun _ _ _ h => h) (Or.inl ⟨by rfl, ?_⟩) (by assumption) ?_
  rotate_left
  · (intro w hSw; (try dsimp only at hSw); go_simp; try (with_reducible rfl))
  try simp only [Act.put]
  refine wpAnyH_take (i := 3) (v := ?_) rfl (by kernel_rfl) (by kernel_rfl) (by kernel_rfl) (fun _ _ _ h => h) (Or.inl ⟨by rfl, ?_⟩) (by assumption) ?_
  rotate_left
  · (intro w hSw; (try dsimp only at hSw); go_simp; try (with_reducible rfl))
  try simp only [Act.put]
  refine wpAnyH_take (i := 5) (v := ?_) rfl (by kernel_rfl) (by kernel_rfl) (by kernel_rfl) (fun _ _ _ h => h) (Or.inl ⟨by rfl, ?_⟩) (by assumption) ?_
  rotate_left
  · (intro w hSw; (try dsimp only at hSw); go_simp; try (with_reducible rfl))
  try simp only [Act.put]
  refine wpAnyH_take (i := 6) (v := ?_) rfl (by kernel_rfl) (by kernel_rfl) (by kernel_rfl) (fun _ _ _ h => h) (Or.inl ⟨by rfl, ?_⟩) (by assumption) ?_
  rotate_left
  · (intro w hSw; (try dsimp only at hSw); go_simp; try (with_reducible rfl))
  try simp only [Act.put]
  refine wpAnyH_take (i := 7) (v := ?_) rfl (by kernel_rfl) (by kernel_rfl) (by kernel_rfl) (fun _ _ _ h => h) (Or.inl ⟨by rfl, ?_⟩) (by assumption) ?_
  rotate_left
  · (intro w hSw; (try dsimp only at hSw); go_simp; try (with_reducible rfl))
  try simp only [Act.put]
  refine wpAnyH_take (i := 8) (v := ?_) rfl (by kernel_rfl) (by kernel_rfl) (by kernel_rfl) (fun _ _ _ h => h) (Or.inl ⟨by rfl, ?_⟩) (by assumption) ?_
  rotate_left
  · (intro w hSw; (try dsimp only at hSw); go_simp; try (with_reducible rfl))
  try simp only [Act.put]
  refine wpAnyH_take (i := 9) (v := ?_) rfl (by kernel_rfl) (by kernel_rfl) (by kernel_rfl) (fun _ _ _ h => h) (Or.inl ⟨by rfl, ?_⟩) (by assumption) ?_
  rotate_left
  · (intro w hSw; (try dsimp only at hSw); go_simp; try (with_reducible rfl))
  try simp only [Act.put]
  refine wpAnyH_take (i := 10) (v := ?_) rfl (by kernel_rfl) (by kernel_rfl) (by kernel_rfl) (fun _ _ _ h => h) (Or.inl ⟨by rfl, ?_⟩) (by assumption) ?_
  rotate_left
  · (intro w hSw; (try dsimp only at hSw); go_simp; try (with_reducible rfl))
  try simp only [Act.put]
  refine wpAnyH_take (i := 11) (v := ?_) rfl (by kernel_rfl) (by kernel_rfl) (by kernel_rfl) (fun _ _ _ h => h) (Or.inl ⟨by rfl, ?_⟩) (by assumption) ?_
  rotate_left
  · (intro w hSw; (try dsimp only at hSw); go_simp; try (with_reducible rfl))
  try simp only [Act.put]
  refine wpAnyH_take (i := 12) (v := ?_) rfl (by kernel_rfl) (by kernel_rfl) (by kernel_rfl) (fun _ _ _ h => h) (Or.inl ⟨by rfl, ?_⟩) (by assumption) ?_
  rotate_left
  · (intro w hSw; (try dsimp only at hSw); go_simp; try (with_reducible rfl))
  try simp only [Act.put]
  refine wpAnyH_ready (rs := [4]) (by kernel_rfl) (by simp) ?_
  refine AllReadyH.cons rfl (fun K hK => ?_) AllReadyH.nil
  go_simp
  refine (HC.out _ hHeld).mono ?_
  rintro e w5 ⟨c, A', rfl, ho1, hn1, hb5⟩
  have R1 := Lib.hid ho1
  have N1 := Lib.hid hn1
  have X1 := Lib.hid (D1.trans (hb5.mono D1.size))
  have hon : Only (fun j => j = g) W w5 := Only.of_below X1.out
  clear ho1 hb5 hn1
  refine hK.out _ _ hon (fun hHeld => ?_)
  clear hK hon
  try simp only [Act.put]
  refine wpAnyH_take (i := 13) (v := ?_) rfl (by kernel_rfl) (by kernel_rfl) (by kernel_rfl) (fun _ _ _ h => h) (Or.inl ⟨by rfl, ?_⟩) (by assumption) ?_
  rotate_left
  · (intro w hSw; (try dsimp only at hSw); go_simp; try (with_reducible rfl))
  try simp only [Act.put]
  refine wpAnyH_ready (rs := [14]) (by kernel_rfl) (by simp) ?_
  refine AllReadyH.cons rfl (fun K hK => ?_) AllReadyH.nil
  rw [if_pos (by rfl)]
  refine oper_store _ _ _ rfl g 0 [me c, .int .u32 C, .int .u32 L] rfl rfl 128 _ (Z0.out.keep X1.out) (by kernel_rfl) (by simp) (by simp [Value.oneCell']) ?_
  intro Y hY hoY
  have R := Lib.hid (show Blk Y g 128 [me c, .int .u32 C, .int .u32 L] from hY)
  have O := Lib.hid hoY
  clear hY hoY
  have hon : Only (fun j => j = g) W Y := (Only.of_below X1.out).trans O.out
  refine hK.out _ _ hon (fun hHeld => ?_)
  clear hK hon
  simp only [Act.put, List.getElem_toArray, List.getElem_cons_succ, List.getElem_cons_zero]
  refine wpAnyH_done (by kernel_rfl) ?_ _
  have r0 := R.out.at 0 rfl
  have r1 := R.out.at 1 rfl
  have r2 := R.out.at 2 rfl
  go_wp2_with fail
  have hg := HG.out
  have hgW := Z0.out.lt
  have hd : W.drew.heap.size = W.heap.size := rfl
  have n1 := N1.out
  have T1 : FL.St Y c 4 (lv l) A' := R1.out.only O.out (fun j hj e => by have := n1 j hj; have e : j = g := e; omega)
  have T2 : ∀ j, A' j → w.heap.size ≤ j := fun j hj => by have := n1 j hj; omega
  have T3 : Below w.heap.size w Y := (B0.out.trans (X1.out.mono B0.out.size)).trans (O.out.below (by have := (B0.out.trans (X1.out.mono B0.out.size)).size; omega) (fun k e => by have e : k = g := e; omega))
  refine bodyPost_ret (v := .agg #[me c, .int .u32 C, .int .u32 L]) ?_ rfl ⟨c, A', rfl, T1, T2, T3⟩
  simp [results, Tryz.results235, go_sem, r0, r1, r2]
end Go.Proofs.YtknhgfofmkpnfaaGreat.Mbox
/- Package mailbox's contracts. Box w b u O: the mailbox in block b has u; O: the blocks that are its own. -/
namespace Go.Proofs.YtknhgfofmkpnfaaGreat.Mbox
open Go.RowKit Go.Maps Go.ChangeShapes Go.WideShapes Go.ChangeAt Fifo Orow Word
set_option linter.unusedVariables false

def Box (w : World) (b : Nat) (u : Bx) (O : Nat → Prop) : Prop := MW w b 4 176 [me b] u O
theorem Box.only {S O : Nat → Prop} {w w' : World} {b : Nat} {u : Bx} (h : Box w b u O) (ho : Only S w w') (hn : ∀ j, O j → ¬ S j) : Box w' b u O := MW.only h ho hn
theorem Box.keep {O : Nat → Prop} {w w' : World} {b : Nat} {u : Bx} (h : Box w b u O) (hb : Below w.heap.size w w') : Box w' b u O := MW.keep h hb
theorem Box.lt {O : Nat → Prop} {w : World} {b : Nat} {u : Bx} (h : Box w b u O) : ∀ j, O j → j < w.heap.size := MW.lt h
theorem Box.ok {O : Nat → Prop} {w : World} {b : Nat} {u : Bx} (h : Box w b u O) : OkX u := MW.ok h
/-- Which mail is asked: its own, or one that nobody has. -/
def Asked (v : Value) (w : World) (b room : Nat) (t : TypeId) (tl : List Value) (u : Bx) (O : Nat → Prop) : Prop :=
  Calls Tryz.prog 197 #[v] w fun e w' => e = .returned (me b) ∧ MW w' b room t tl u O ∧ Below w.heap.size w w'
theorem Box.self {O : Nat → Prop} {w : World} {b : Nat} {u : Bx} (h : Box w b u O) : w.cell? ⟨b, 3, none⟩ = some (me b) := by
  obtain ⟨p, A, h2, e⟩ := h
  exact h2.blk.at 3 rfl
theorem Asked.yes {O : Nat → Prop} {w : World} {b : Nat} {u : Bx} (h : Box w b u O) : Asked (me b) w b 4 176 [me b] u O := by
  refine (all_yes b w h.self).mono ?_
  rintro e w' ⟨rfl, rfl⟩
  exact ⟨rfl, h, Below.refl _ _⟩
theorem Asked.non {w : World} {v : Value} (h : Non w v) : Asked v w w.heap.size 0 128 [] zeroX (fun j => j = w.heap.size) := by
  refine (all_non v w h).mono ?_
  rintro e w' ⟨rfl, h1, hb⟩
  exact ⟨rfl, ⟨_, _, h1, fun j => ⟨fun e => .inl e, fun e => by rcases e with e | e; exact e; exact e.elim⟩⟩, hb⟩
theorem read_q (v : Value) (b room : Nat) (t : TypeId) (tl : List Value) (u : Bx) (O : Nat → Prop) (k : Int) (hk : I64 k) (w : World) (hq : Asked v w b room t tl u O) :
    Calls Tryz.prog 195 #[v, .int .i64 k] w fun e w' => e = .returned (.int .u32 (readX u k).1) ∧ Left w w' b room t tl (readX u k).2 O := by
  have T := Lib.hid hq
  have HC := Lib.hid (fun w1 (h1 : MW w1 b room t tl u O) => readM_any b room t tl u O k w1 hk h1)
  clear hq
  go_enter Tryz.func195, Tryz.ntmps195
  go_wp2_with fail
  refine T.out.mono ?_
  rintro e w1 ⟨rfl, h1, hb1⟩
  have H1 := Lib.hid (HC.out w1 h1)
  have B1 := Lib.hid hb1
  clear h1 hb1 T HC
  go_wp2_with fail
  refine H1.out.mono ?_
  rintro e w2 ⟨rfl, h2⟩
  have R := Lib.hid (Left.trans (Only.of_below B1.out) h2)
  clear h2 H1
  go_wp2_with fail
  go_ret
  exact ⟨rfl, R.out⟩
theorem read_quiet (v : Value) (b room : Nat) (t : TypeId) (tl : List Value) (u : Bx) (O : Nat → Prop) (k : Int) (hk : I64 k) (h0 : ¬ k = 0) (w : World) (hq : Asked v w b room t tl u O) :
    Calls Tryz.prog 195 #[v, .int .i64 k] w fun e w' => e = .returned (.int .u32 (readX u k).1) ∧ Below w.heap.size w w' := by
  have T := Lib.hid hq
  have HC := Lib.hid (fun w1 (h1 : MW w1 b room t tl u O) => readQ_any b room t tl u O k w1 hk h0 h1)
  clear hq
  go_enter Tryz.func195, Tryz.ntmps195
  go_wp2_with fail
  refine T.out.mono ?_
  rintro e w1 ⟨rfl, h1, hb1⟩
  have H1 := Lib.hid (HC.out w1 h1)
  have B1 := Lib.hid hb1
  clear h1 hb1 T HC
  go_wp2_with fail
  refine H1.out.mono ?_
  rintro e w2 ⟨rfl, h2⟩
  have R := Lib.hid (B1.out.trans (h2.mono B1.out.size))
  clear h2 H1
  go_wp2_with fail
  go_ret
  exact ⟨rfl, R.out⟩
theorem write_q (v : Value) (b room : Nat) (t : TypeId) (tl : List Value) (u : Bx) (O : Nat → Prop) (k z : Int) (h4 : room ≤ 4) (hk : I64 k) (hz : 0 ≤ z ∧ z < 4294967296) (w : World) (hq : Asked v w b room t tl u O) :
    Calls Tryz.prog 196 #[v, .int .i64 k, .int .u32 z] w fun e w' => e = .returned (.tuple #[]) ∧ Left w w' b room t tl (writeR room u k z) O := by
  have T := Lib.hid hq
  have HC := Lib.hid (fun w1 (h1 : MW w1 b room t tl u O) => writeM_any b room t tl u O k z w1 h4 hk hz h1)
  clear hq
  go_enter Tryz.func196, Tryz.ntmps196
  go_wp2_with fail
  refine T.out.mono ?_
  rintro e w1 ⟨rfl, h1, hb1⟩
  have H1 := Lib.hid (HC.out w1 h1)
  have B1 := Lib.hid hb1
  clear h1 hb1 T HC
  go_wp2_with fail
  refine H1.out.mono ?_
  rintro e w2 ⟨rfl, h2⟩
  have R := Lib.hid (Left.trans (Only.of_below B1.out) h2)
  clear h2 H1
  go_wp2_with fail
  first | go_end0 | refine bodyPost_ret (results_none rfl _ _ _) rfl ?_
  exact ⟨rfl, R.out⟩
theorem line_q (v : Value) (b room : Nat) (t : TypeId) (tl : List Value) (u : Bx) (O : Nat → Prop) (w : World) (hq : Asked v w b room t tl u O) :
    Calls Tryz.prog 194 #[v] w fun e w' => e = .returned (.bool (lineX u)) ∧ Below w.heap.size w w' := by
  have T := Lib.hid hq
  have HC := Lib.hid (fun w1 (h1 : MW w1 b room t tl u O) => lineM_any b room t tl u O w1 h1)
  clear hq
  go_enter Tryz.func194, Tryz.ntmps194
  go_wp2_with fail
  refine T.out.mono ?_
  rintro e w1 ⟨rfl, h1, hb1⟩
  have H1 := Lib.hid (HC.out w1 h1)
  have B1 := Lib.hid hb1
  clear h1 hb1 T HC
  go_wp2_with fail
  refine H1.out.mono ?_
  rintro e w2 ⟨rfl, h2⟩
  have R := Lib.hid (B1.out.trans (h2.mono B1.out.size))
  clear h2 H1
  go_wp2_with fail
  go_ret
  exact ⟨rfl, R.out⟩
set_option maxHeartbeats 1000000 in
theorem state_q (v : Value) (room : Nat) (t : TypeId) (tl : List Value) (u : Bx) (w : World) (hq : ∀ W, Below w.heap.size w W → Calls Tryz.prog 197 #[v] W fun e w' => ∃ b O, e = .returned (me b) ∧ MW w' b room t tl u O ∧ Below W.heap.size W w') :
    Calls Tryz.prog 233 #[v] w fun e w' => (∃ a c, e = .returned (.agg #[.slice a u.W.length c, .int .u32 u.C, .int .u32 u.L]) ∧ w'.ownsRow w.heap.size 23 1 (.slice a u.W.length c) u.W.length (lv u.W)) ∧ Below w.heap.size w w' := by
  have Hq := Lib.hid hq
  clear hq
  obtain ⟨n, hn⟩ : ∃ n, u.W.length = n := ⟨_, rfl⟩
  obtain ⟨l, hl⟩ : ∃ l, lv u.W = l := ⟨_, rfl⟩
  obtain ⟨C, hC⟩ : ∃ C, u.C = C := ⟨_, rfl⟩
  obtain ⟨L, hL⟩ : ∃ L, u.L = L := ⟨_, rfl⟩
  have HC := Lib.hid (fun w1 b' O' (h1 : MW w1 b' room t tl u O') => stateM_any b' room t tl u O' w1 h1)
  rw [hn, hl, hC, hL] at HC
  rw [hn, hl, hC, hL]
  clear hn hl hC hL
  go_enter Tryz.func233, Tryz.ntmps233
  go_wp2_with fail
  refine calls_letter ?_
  intro X hX
  have Z := Lib.hid (show Blk X w.heap.size 276 [.slice none 0 0, .int .u32 0, .int .u32 0] by rw [hX.out]; exact Blk.new w _ [.slice none 0 0, .int .u32 0, .int .u32 0])
  have BX := Lib.hid (show Below w.heap.size w X by rw [hX.out]; exact (Below.refl w.heap.size w).alloc (Nat.le_refl _) _)
  obtain ⟨g, hg⟩ : ∃ g, w.heap.size = g := ⟨_, rfl⟩
  have G := Lib.hid hg
  rw [hg] at Z
  rw [hg]
  have HQ := Lib.hid (Hq.out X BX.out)
  clear hX hg Hq
  refine HQ.out.mono ?_
  rintro e w1 ⟨b, O, rfl, h1, hb1⟩
  have Z1 := Lib.hid (Z.out.keep hb1)
  have B1 := Lib.hid (BX.out.trans (hb1.mono BX.out.size))
  have H1 := Lib.hid (HC.out w1 b O h1)
  clear h1 hb1 HC HQ Z BX
  go_wp2_with fail
  refine H1.out.mono ?_
  rintro e w2 ⟨⟨a, c, rfl, h2⟩, hb2⟩
  have Z2 := Lib.hid (Z1.out.keep hb2)
  have B2 := Lib.hid (B1.out.trans (hb2.mono B1.out.size))
  have R2 := Lib.hid h2
  have Hlt := Lib.hid (show g < w1.heap.size from Z1.out.lt)
  clear h2 hb2 H1 Z1
  go_wp2_with (with_reducible refine at_store _ _ _ rfl ?_)
  refine Lib.hid ?_
  refine store_all rfl _ _ _ rfl g [.slice a n c, .int .u32 C, .int .u32 L] rfl rfl _ _ Z2.out (by kernel_rfl) rfl (by simp [Value.oneCell']) ?_
  intro Y hY ho
  have r0 := hY.at 0 rfl
  have r1 := hY.at 1 rfl
  have r2 := hY.at 2 rfl
  have hlt := Hlt.out
  have hgw := G.out
  have s1 := B1.out.size
  have R3 := Lib.hid (own_only R2.out ho (fun j hj e => by have := (own_lt R2.out j hj).1; have e : j = g := e; omega))
  have R4 := Lib.hid (own_mono R3.out (show w.heap.size ≤ w1.heap.size from s1))
  have R5 := Lib.hid (show Below w.heap.size w Y from B2.out.trans (ho.below B2.out.size (fun k e => by have e : k = g := e; omega)))
  clear hY ho hlt hgw s1
  go_wp2_with fail
  refine bodyPost_ret (v := .agg #[.slice a n c, .int .u32 C, .int .u32 L]) ?_ rfl ⟨⟨a, c, rfl, by have := R4.out; have hgw := G.out; first | exact this | (rw [← hgw]; exact this)⟩, by first | exact R5.out | (rw [← G.out]; exact R5.out)⟩
  simp [results, Tryz.results233, go_sem, r0, r1, r2]
theorem Copy_any0 (b : Nat) (u : Bx) (O : Nat → Prop) (w : World) (h : Box w b u O) :
    Calls Tryz.prog 231 #[me b] w fun r w' => (∃ c O', r = .returned (me c) ∧ Box w' c u O' ∧ ∀ j, O' j → w.heap.size ≤ j) ∧ Below w.heap.size w w' := by
  have I := Lib.hid (is_yes b w h.self)
  obtain ⟨p, A, h, e⟩ := h
  have hz : ∃ g, p = .pointer (some ⟨g, 0, none⟩) ∧ FL.St w g 4 (lv u.W) A := by
    rcases h.row with h | ⟨_, h, _⟩
    · exact h
    · cases h
  obtain ⟨g1, rfl, s1⟩ := hz
  have C1 := Lib.hid (apart_any b _ _ u g1 A w h s1)
  have Hok := Lib.hid h.ok
  clear h e s1
  go_enter Tryz.func231, Tryz.ntmps231
  go_wp2_with fail
  refine I.out.mono ?_
  rintro e w1 ⟨rfl, rfl⟩
  clear I
  go_wp2_with fail
  refine C1.out.mono ?_
  rintro e w1 ⟨c, A', rfl, h1, n1, k1⟩
  have S1 := Lib.hid h1
  have N1 := Lib.hid n1
  have B1 := Lib.hid k1
  clear h1 n1 k1 C1
  go_wp2_with fail
  refine (laid_any u (some ⟨c, 0, none⟩) w1).mono ?_
  rintro e w3 ⟨⟨d, rfl, hc, hn⟩, k3⟩
  have hl1 := S1.out.lt
  have hs := B1.out.size
  have R := Lib.hid (show MB w3 d 4 176 [me d] u (me c) A' from ⟨hc, .inl ⟨c, rfl, S1.out.keep k3⟩, Hok.out, fun e => by have := hl1 d e; omega⟩)
  have B3 := Lib.hid (B1.out.trans (k3.mono B1.out.size))
  have hN : ∀ j, (j = d ∨ A' j) → w.heap.size ≤ j := fun j hj => by
    rcases hj with rfl | hj
    · omega
    · exact N1.out j hj
  clear hc hn k3 hl1 hs
  go_wp2_with fail
  go_ret
  exact ⟨⟨d, _, rfl, ⟨_, _, R.out, fun j => Iff.rfl⟩, hN⟩, B3.out⟩

/-! ### The contracts -/
theorem New_any (w : World) :
    Calls Tryz.prog 43 #[] w fun e w' => (∃ b O, e = .returned (.pointer (some ⟨b, 0, none⟩)) ∧ Box w' b zeroX O ∧ ∀ j, O j → w.heap.size ≤ j) ∧ Below w.heap.size w w' := New_any0 w
theorem Read_any (b : Nat) (u : Bx) (O : Nat → Prop) (reg : Int) (w : World) (h1 : I64 reg) (h : Box w b u O) :
    Calls Tryz.prog 195 #[.pointer (some ⟨b, 0, none⟩), .int .i64 reg] w fun e w' => e = .returned (.int .u32 (readX u reg).1) ∧ ∃ O', Box w' b (readX u reg).2 O' ∧ Only O w w' ∧ ∀ j, O' j → O j ∨ w.heap.size ≤ j :=
  read_q (me b) b 4 _ _ u O reg h1 w (Asked.yes h)
theorem Read_quiet (b : Nat) (u : Bx) (O : Nat → Prop) (reg : Int) (w : World) (h1 : I64 reg) (hr : ¬ reg = 0) (h : Box w b u O) :
    Calls Tryz.prog 195 #[.pointer (some ⟨b, 0, none⟩), .int .i64 reg] w fun e w' => e = .returned (.int .u32 (readX u reg).1) ∧ Below w.heap.size w w' :=
  read_quiet (me b) b 4 _ _ u O reg h1 hr w (Asked.yes h)
theorem Write_any (b : Nat) (u : Bx) (O : Nat → Prop) (reg v : Int) (w : World) (h1 : I64 reg) (h2 : 0 ≤ v ∧ v < 4294967296) (h : Box w b u O) :
    Calls Tryz.prog 196 #[.pointer (some ⟨b, 0, none⟩), .int .i64 reg, .int .u32 v] w fun e w' => e = .returned (.tuple #[]) ∧ ∃ O', Box w' b (writeX u reg v) O' ∧ Only O w w' ∧ ∀ j, O' j → O j ∨ w.heap.size ≤ j := by
  have := write_q (me b) b 4 _ _ u O reg v (Nat.le_refl _) h1 h2 w (Asked.yes h)
  rw [writeR_4] at this
  exact this
theorem Line_any (b : Nat) (u : Bx) (O : Nat → Prop) (w : World) (h : Box w b u O) :
    Calls Tryz.prog 194 #[.pointer (some ⟨b, 0, none⟩)] w fun e w' => e = .returned (.bool (lineX u)) ∧ Below w.heap.size w w' :=
  line_q (me b) b 4 _ _ u O w (Asked.yes h)
/-- State: a row of its own, laid anew. -/
theorem State_any (b : Nat) (u : Bx) (O : Nat → Prop) (w : World) (h : Box w b u O) :
    Calls Tryz.prog 233 #[.pointer (some ⟨b, 0, none⟩)] w fun e w' => (∃ a1 c1, e = .returned (.agg #[.slice a1 u.W.length c1, .int .u32 u.C, .int .u32 u.L]) ∧ w'.ownsRow w.heap.size 23 1 (.slice a1 u.W.length c1) u.W.length (lv u.W)) ∧ Below w.heap.size w w' := by
  refine state_q (me b) 4 176 [me b] u w (fun W hb => (all_yes b W ((h.keep hb).self)).mono ?_)
  rintro e w' ⟨rfl, rfl⟩
  exact ⟨b, O, rfl, h.keep hb, Below.refl _ _⟩
theorem Copy_any (b : Nat) (u : Bx) (O : Nat → Prop) (w : World) (h : Box w b u O) :
    Calls Tryz.prog 231 #[.pointer (some ⟨b, 0, none⟩)] w fun e w' => (∃ c O', e = .returned (.pointer (some ⟨c, 0, none⟩)) ∧ Box w' c u O' ∧ ∀ j, O' j → w.heap.size ≤ j) ∧ Below w.heap.size w w' := Copy_any0 b u O w h
/-- What nobody has turns nothing. -/
theorem left_below {w w' : World} {room : Nat} {t : TypeId} {tl : List Value} {u : Bx} (h : Left w w' w.heap.size room t tl u (fun j => j = w.heap.size)) : Below w.heap.size w w' := by
  obtain ⟨O', h1, h2, h3⟩ := h
  exact h2.below (Nat.le_refl _) (fun k e => Nat.le_of_eq e.symm)
theorem Read_non (v : Value) (reg : Int) (w : World) (h1 : I64 reg) (h : Non w v) :
    Calls Tryz.prog 195 #[v, .int .i64 reg] w fun e w' => e = .returned (.int .u32 0) ∧ Below w.heap.size w w' := by
  refine (read_q v w.heap.size 0 _ _ zeroX _ reg h1 w (Asked.non h)).mono ?_
  rintro e w' ⟨rfl, hl⟩
  refine ⟨?_, left_below hl⟩
  congr 2
  unfold readX
  split
  · rfl
  split
  · rfl
  split
  · rfl
  split
  · rfl
  · rfl
theorem Write_non (v : Value) (reg x : Int) (w : World) (h1 : I64 reg) (h2 : 0 ≤ x ∧ x < 4294967296) (h : Non w v) :
    Calls Tryz.prog 196 #[v, .int .i64 reg, .int .u32 x] w fun e w' => e = .returned (.tuple #[]) ∧ Below w.heap.size w w' := by
  refine (write_q v w.heap.size 0 _ _ zeroX _ reg x (by omega) h1 h2 w (Asked.non h)).mono ?_
  rintro e w' ⟨rfl, hl⟩
  exact ⟨rfl, left_below hl⟩
theorem Line_non (v : Value) (w : World) (h : Non w v) :
    Calls Tryz.prog 194 #[v] w fun e w' => e = .returned (.bool false) ∧ Below w.heap.size w w' :=
  line_q v w.heap.size 0 _ _ zeroX _ w (Asked.non h)
theorem State_non (v : Value) (w : World) (h : Non w v) :
    Calls Tryz.prog 233 #[v] w fun e w' => (∃ a1 c1, e = .returned (.agg #[.slice a1 0 c1, .int .u32 0, .int .u32 0])) ∧ Below w.heap.size w w' := by
  refine (state_q v 0 128 [] zeroX w (fun W hb => (Asked.non (h.keep hb)).mono ?_)).mono ?_
  · rintro e w' ⟨rfl, h1, hb1⟩
    exact ⟨_, _, rfl, h1, hb1⟩
  · rintro e w' ⟨⟨a1, c1, rfl, -⟩, hb⟩
    exact ⟨⟨a1, c1, rfl⟩, hb⟩
theorem Copy_non (v : Value) (w : World) (h : Non w v) :
    Calls Tryz.prog 231 #[v] w fun e w' => e = .returned (.pointer none) ∧ Below w.heap.size w w' := by
  have A := is_non v w h
  clear h
  go_enter Tryz.func231, Tryz.ntmps231
  go_wp2_with fail
  refine A.mono ?_
  rintro e w1 ⟨rfl, rfl⟩
  clear A
  go_wp2_with fail
  go_ret
  exact ⟨rfl, Below.refl _ _⟩
end Go.Proofs.YtknhgfofmkpnfaaGreat.Mbox
