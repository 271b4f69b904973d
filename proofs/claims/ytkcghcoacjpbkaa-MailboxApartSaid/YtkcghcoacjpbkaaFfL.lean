/- Package fifo's ring of uint32: widen, put, take, told, drop, apart. -/
import Derived.Test.YtkcghcoacjpbkaaFeL
import Derived.Deep.RegionHeld3
import Derived.Deep.RegionWith
namespace Go.Proofs.Ytkcghcoacjpbkaa.FL
open Go.RowKit Fifo
set_option linter.unusedVariables false

/-- A row at b: so much room, these things, in these places. -/
structure Ring (sf : Value) (w : World) (b room : Nat) (l : List Value) (pv : Value) (f : Nat) (vs : List Value) : Prop where
  blk : Blk w b 76 [.int .i64 (room : Nat), pv, .int .i64 (f : Nat), .int .i64 (l.length : Nat), sf]
  plc : Plc w 28 pv vs
  ring : RingL vs f l
  le : l.length ≤ room
  big : room < 9223372036854775808
  few : vs.length ≤ 4000
  elm : ∀ v ∈ l, Elm v
theorem Ring.keep {w w' : World} {sf : Value} {b room f : Nat} {l vs : List Value} {pv : Value} (h : Ring sf w b room l pv f vs) (hb : Below w.heap.size w w') : Ring sf w' b room l pv f vs :=
  ⟨h.blk.keep hb, h.plc.keep hb, h.ring, h.le, h.big, h.few, h.elm⟩
theorem Ring.book {B : Nat} {w w' : World} {sf : Value} {b room f : Nat} {l vs : List Value} {pv : Value} (h : Ring sf w b room l pv f vs) (hb : Book B w w') : Ring sf w' b room l pv f vs :=
  ⟨h.blk.book hb, h.plc.book hb, h.ring, h.le, h.big, h.few, h.elm⟩
theorem Ring.only {S : Nat → Prop} {w w' : World} {sf : Value} {b room f : Nat} {l vs : List Value} {pv : Value} (h : Ring sf w b room l pv f vs) (ho : Only S w w') (hb : ¬ S b) (hp : ∀ j, PB pv j → ¬ S j) : Ring sf w' b room l pv f vs :=
  ⟨h.blk.only ho hb, h.plc.only ho hp, h.ring, h.le, h.big, h.few, h.elm⟩
/-- The row's own blocks. -/
def RB (b : Nat) (pv : Value) : Nat → Prop := fun j => j = b ∨ PB pv j

set_option maxHeartbeats 4000000 in
theorem widen_any {sf : Value} (b room f : Nat) (l vs : List Value) (pv : Value) (w : World) (h : Ring sf w b room l pv f vs) (hl : l.length < room) (h9 : l.length ≤ 1900) :
    Calls Try.prog 61 #[.pointer (some ⟨b, 0, none⟩)] w fun e w' => (∃ v, e = .returned v) ∧
      ∃ pv' vs', (∀ j, PB pv' j → w.heap.size ≤ j) ∧ l.length < vs'.length ∧ Ring sf w' b room l pv' 0 vs' ∧ Only (fun j => j = b) w w' := by
  obtain ⟨hB, hP, hR, hle, hbig, hfew, helm⟩ := h
  have L : ∀ w', Below w.heap.size w w' → Calls Try.prog 60 #[.pointer (some ⟨b, 0, none⟩)] w' fun e w'' => e = .returned (.int .i64 ((room - l.length : Nat) : Int)) ∧ Below w'.heap.size w' w'' :=
    fun w' hb => left_any b room l.length w' ((hB.keep hb).at 0 rfl) ((hB.keep hb).at 3 rfl) hle hbig
  obtain ⟨d, hd⟩ : ∃ d, room - l.length = d := ⟨_, rfl⟩
  rw [hd] at L
  obtain ⟨m, hm⟩ : ∃ m, min (l.length + 4) d = m := ⟨_, rfl⟩
  obtain ⟨size, hsz⟩ : ∃ size, l.length + m = size := ⟨_, rfl⟩
  have D : ∀ w', Below w.heap.size w w' → Calls Try.prog 54 #[.pointer (some ⟨b, 0, none⟩), .int .i64 (size : Nat)] w' fun e w'' => e = .returned (.slice (some ⟨w'.heap.size, 0, none⟩) size size) ∧
      Blk w'' w'.heap.size 28 (l ++ List.replicate (size - l.length) (.int .u32 0)) ∧ Below w'.heap.size w' w'' :=
    fun w' hb => laid_any b f size _ _ vs l pv w' (hB.keep hb) rfl rfl rfl (hP.keep hb) hR hfew (by omega) (by omega) helm
  obtain ⟨p, hp⟩ : ∃ p, l.length + 4 = p := ⟨_, rfl⟩
  have hw1 : IntKind.i64.wrap ((l.length : Int) + 4) = (p : Int) := by rw [i64w (by omega)]; omega
  have hw2 : IntKind.i64.wrap ((l.length : Int) + (m : Int)) = (size : Int) := by rw [i64w (by omega)]; omega
  rw [hp] at hm
  have hmi : (if d < p then (d : Int) else (p : Int)) = (m : Int) := by split <;> omega
  have hsl : l.length < size ∧ size ≤ 4000 := by omega
  have q3 := hB.at 3 rfl
  have HBk := Lib.hid hB
  have HP := Lib.hid hP
  have HL := Lib.hid L
  have HD := Lib.hid D
  have Hsl := Lib.hid hsl
  have Hd := Lib.hid hd
  have HX := Lib.hid (And.intro hle (And.intro hbig helm))
  clear hd hm hsz hp hsl L D hP hR hB helm hfew hbig hle hl h9
  go_enter Try.func61, Try.ntmps61
  go_wp2_with fail
  go_region_held3 (fun w' => w'.cell? ⟨b, 3, none⟩ = some (.int .i64 (l.length : Nat)))
    (first | assumption | exact cell_keep (Below.refl _ _).drew (by assumption) | exact cell_set_off (by assumption) (by decide))
    (first
    | (go_at_call 60; refine (HL.out _ (Below.refl _ _).drew).mono ?_; rintro e w1 ⟨rfl, hb1⟩; have Hb1 := Lib.hid (Below.trans (Below.refl _ _).drew hb1 : Below w.heap.size w w1); have S1 : w1.cell? ⟨b, 3, none⟩ = some (.int .i64 (l.length : Nat)) := cell_keep Hb1.out q3)
    | (go_at_call 54; with_reducible refine (HD.out _ Hb1.out).mono ?_; rintro e w2 ⟨rfl, hg2, hb2⟩; have S2 : w2.cell? ⟨b, 3, none⟩ = some (.int .i64 (l.length : Nat)) := cell_keep hb2 S1; have B2 := Lib.hid (HBk.out.keep (Hb1.out.trans (hb2.mono Hb1.out.size))); have S3 := B2.out.at 1 rfl; have S4 := B2.out.frozen 1))
  all_goals
    have hbl := HBk.out.lt
    have hs1 := Hb1.out.size
    have B3 := Lib.hid (B2.out.set 1 (.slice (some ⟨w1.heap.size, 0, none⟩) size size))
    have G3 := Lib.hid (hg2.other (p := ⟨b, 1, none⟩) (show w1.heap.size ≠ b by omega) (.slice (some ⟨w1.heap.size, 0, none⟩) size size))
    have O3 := Lib.hid ((Only.of_below (S := fun j => j = b) (Hb1.out.trans (hb2.mono hs1))).setCell (p := ⟨b, 1, none⟩) rfl (.slice (some ⟨w1.heap.size, 0, none⟩) size size))
    obtain ⟨g, hg⟩ : ∃ g, w1.heap.size = g := ⟨_, rfl⟩
    rw [hg] at B3 G3 O3 hs1 ⊢
    refine exit_letter ?_
    intro W hW
    rw [← hW.out] at B3 G3 O3
    clear S1 S2 S3 S4 B2 hg2 hb2 hb1 hW hg Hb1 q3
    rename_i hx
    clear hx
    have T2 := B3.out.at 2 rfl
    have F2 := B3.out.frozen 2
    have B4 := Lib.hid (B3.out.set 2 (.int .i64 0))
    have G4 := Lib.hid (G3.out.other (p := ⟨b, 2, none⟩) (show g ≠ b by omega) (.int .i64 0))
    have O4 := Lib.hid (O3.out.setCell (p := ⟨b, 2, none⟩) rfl (.int .i64 0))
    clear B3 G3 O3
    go_wp2_with fail
    go_end0
    have hsl := Hsl.out
    have hvl : (l ++ List.replicate (size - l.length) (.int .u32 0 : Value)).length = size := by simp; omega
    obtain ⟨hle, hbig, helm⟩ := HX.out
    exact ⟨⟨_, rfl⟩, .slice (some ⟨g, 0, none⟩) size size, _, (fun j hj => by simp [PB, Value.ownBlock] at hj; omega), by rw [hvl]; exact hsl.1, ⟨B4.out, .inr ⟨g, by rw [hvl], G4.out⟩, ringL_wide _ _, hle, hbig, by rw [hvl]; exact hsl.2, helm⟩, O4.out⟩
end Go.Proofs.Ytkcghcoacjpbkaa.FL
