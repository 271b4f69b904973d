/- Package fifo's ring of uint32: told, drop, apart. -/
import Derived.Test.YtkcghcoacjpbkaaFhL
namespace Go.Proofs.Ytkcghcoacjpbkaa.FL
open Go.RowKit Fifo
set_option linter.unusedVariables false

theorem told_none {sf : Value} (b room f : Nat) (vs : List Value) (pv ask : Value) (w : World) (h : Ring sf w b room [] pv f vs) :
    Calls Try.prog 56 #[.pointer (some ⟨b, 0, none⟩), ask] w fun e w' => e = .returned (.tuple #[.int .u32 0, .bool false]) ∧ Below w.heap.size w w' := by
  have p3 := h.blk.at 3 rfl
  simp only [List.length_nil] at p3
  clear h
  go_enter Try.func56, Try.ntmps56
  go_wp2_with fail
  go_ret2
  exact ⟨rfl, Below.refl _ _⟩
theorem told_some {sf : Value} (b room f F : Nat) (l vs : List Value) (pv x : Value) (w : World) (h : Ring sf w b room l pv f vs) (hl : l ≠ []) (Q : World → Prop)
    (hF : F = 57 ∨ F = 59)
    (hA : Calls Try.prog F #[.pointer (some ⟨b, 0, none⟩)] w fun e w' => e = .returned x ∧ Q w') :
    Calls Try.prog 56 #[.pointer (some ⟨b, 0, none⟩), .func (.func F) #[.pointer (some ⟨b, 0, none⟩)] #[]] w fun e w' => e = .returned (.tuple #[x, .bool true]) ∧ Q w' := by
  have hl0 : 0 < l.length := List.length_pos_iff.2 hl
  have p3 := h.blk.at 3 rfl
  obtain ⟨n, hn⟩ : ∃ n, l.length = n := ⟨_, rfl⟩
  rw [hn] at p3 hl0
  have d1 : ¬ ((n : Int) = 0) := by omega
  have HA := Lib.hid hA
  clear h hA hn hl
  rcases hF with rfl | rfl
  all_goals
    go_enter Try.func56, Try.ntmps56
    go_wp2_with fail
    refine HA.out.mono ?_
    rintro e w1 ⟨rfl, hq⟩
    have Hq := Lib.hid hq
    clear hq HA
    go_wp2_with fail
    go_ret2
    exact ⟨rfl, Hq.out⟩

theorem drew_step {w w' : World} (h : Below w.drew.heap.size w.drew w') : Below w.heap.size w w' :=
  ⟨h.os, h.tape, h.output, h.size, fun k hk => h.block k hk⟩
theorem set4 {w : World} {b c k : Nat} {v x0 x1 x2 x3 : Value} (hbc : b ≠ c) (h : w.cell? ⟨b, k, none⟩ = some v) : ((((w.setCell ⟨c, 0, none⟩ x0).setCell ⟨c, 1, none⟩ x1).setCell ⟨c, 2, none⟩ x2).setCell ⟨c, 3, none⟩ x3).cell? ⟨b, k, none⟩ = some v := by
  rw [← h]
  exact World.cell?_of_block (w := w) ((((Below.heap_setCell _ _ _ _ hbc).trans (Below.heap_setCell _ _ _ _ hbc)).trans (Below.heap_setCell _ _ _ _ hbc)).trans (Below.heap_setCell _ _ _ _ hbc))
set_option maxHeartbeats 1000000 in
theorem apart_any {sf : Value} (b room f : Nat) (l vs : List Value) (pv : Value) (w : World) (h : Ring sf w b room l pv f vs) :
    Calls Try.prog 48 #[.pointer (some ⟨b, 0, none⟩)] w fun e w' => ∃ g, e = .returned (.agg #[.int .i64 (room : Nat), .slice (some ⟨g, 0, none⟩) l.length l.length, .int .i64 0, .int .i64 (l.length : Nat)]) ∧
      w.heap.size ≤ g ∧ Blk w' g 28 l ∧ Below w.heap.size w w' := by
  obtain ⟨n, hn⟩ : ∃ n, l.length = n := ⟨_, rfl⟩
  have hn4 : n ≤ 4000 := by have := h.ring.1; have := h.few; omega
  have D : ∀ w', Below w.heap.size w w' → Calls Try.prog 54 #[.pointer (some ⟨b, 0, none⟩), .int .i64 (n : Nat)] w' fun e w'' => e = .returned (.slice (some ⟨w'.heap.size, 0, none⟩) n n) ∧
      Blk w'' w'.heap.size 28 l ∧ Below w'.heap.size w' w'' := fun w' hb => by
    have k := h.keep hb
    have A := laid_any b f n _ _ vs l pv w' k.blk rfl rfl rfl k.plc k.ring k.few (by omega) hn4 k.elm
    rw [hn, Nat.sub_self, List.replicate_zero, List.append_nil] at A
    exact A
  have p0 := h.blk.at 0 rfl
  have p3 := h.blk.at 3 rfl
  rw [hn] at p3 ⊢
  have hbl := h.blk.lt
  have HD := Lib.hid D
  have Hn := Lib.hid hn
  clear h D hn
  go_enter Try.func48, Try.ntmps48
  go_wp2_with fail
  refine region_letter 1 rfl ?_
  intro W hW
  obtain ⟨c, hc⟩ : ∃ c, w.heap.size = c := ⟨_, rfl⟩
  have hb0 : Below w.heap.size w W := by rw [hW.out]; exact (Below.refl _ w).alloc (Nat.le_refl _) _
  have hC : Blk W c 71 [.int .i64 0, .slice none 0 0, .int .i64 0, .int .i64 0] := by rw [hW.out, ← hc]; exact Blk.new w _ _
  rw [hc]
  have q0 := cell_keep hb0 p0
  have q3 := cell_keep hb0 p3
  have hbc : b ≠ c := by omega
  have hcb : c ≠ b := by omega
  have Hb0 := Lib.hid hb0
  have HC := Lib.hid hC
  have Hc := Lib.hid hc
  clear p0 p3 hb0 hC hW hc hbl
  go_region_held3 (fun w' => w'.cell? ⟨b, 0, none⟩ = some (.int .i64 (room : Nat)) ∧ w'.cell? ⟨b, 3, none⟩ = some (.int .i64 (n : Nat)))
    (first | exact ⟨cell_keep (Below.refl _ _).drew q0, cell_keep (Below.refl _ _).drew q3⟩ | exact ⟨S0, S3⟩ | assumption | exact cell_keep (Below.refl _ _).drew (by assumption) | exact HS.out.1 | exact HS.out.2 | exact HS.out)
    (first
    | (go_at_call 54; with_reducible refine (HD.out _ (Hb0.out.trans (Below.mono (Below.refl _ _).drew Hb0.out.size))).mono ?_; rintro e w2 ⟨rfl, hg2, hb2⟩; have hb3 := drew_step hb2; have S0 := cell_keep hb3 q0; have S3 := cell_keep hb3 q3; have C2 := Lib.hid (HC.out.keep hb3); have t0 := C2.out.at 0 rfl; have t1 := C2.out.at 1 rfl; have t2 := C2.out.at 2 rfl; have t3 := C2.out.at 3 rfl; have u0 := C2.out.frozen 0; have u1 := C2.out.frozen 1; have u2 := C2.out.frozen 2; have u3 := C2.out.frozen 3; have HS := Lib.hid (show (((((w2.setCell ⟨c, 0, none⟩ (.int .i64 (room : Nat))).setCell ⟨c, 1, none⟩ (.slice (some ⟨W.heap.size, 0, none⟩) n n)).setCell ⟨c, 2, none⟩ (.int .i64 0)).setCell ⟨c, 3, none⟩ (.int .i64 (n : Nat))).cell? ⟨b, 0, none⟩ = some (.int .i64 (room : Nat))) ∧ (((((w2.setCell ⟨c, 0, none⟩ (.int .i64 (room : Nat))).setCell ⟨c, 1, none⟩ (.slice (some ⟨W.heap.size, 0, none⟩) n n)).setCell ⟨c, 2, none⟩ (.int .i64 0)).setCell ⟨c, 3, none⟩ (.int .i64 (n : Nat))).cell? ⟨b, 3, none⟩ = some (.int .i64 (n : Nat))) from ⟨set4 hbc S0, set4 hbc S3⟩)))
  all_goals
    have HR := Lib.hid ((((C2.out.set 0 (.int .i64 (room : Nat))).set 1 (.slice (some ⟨W.heap.size, 0, none⟩) n n)).set 2 (.int .i64 0)).set 3 (.int .i64 (n : Nat)))
    have hgc : W.heap.size ≠ c := by have := HC.out.lt; omega
    have HG := Lib.hid (((((show Blk w2 W.heap.size 28 l from hg2).other (p := ⟨c, 0, none⟩) hgc (.int .i64 (room : Nat))).other (p := ⟨c, 1, none⟩) hgc (.slice (some ⟨W.heap.size, 0, none⟩) n n)).other (p := ⟨c, 2, none⟩) hgc (.int .i64 0)).other (p := ⟨c, 3, none⟩) hgc (.int .i64 (n : Nat)))
    have hcw : w.heap.size ≤ c := Nat.le_of_eq Hc.out
    have HL := Lib.hid (((((Hb0.out.trans (hb3.mono Hb0.out.size)).setCell (p := ⟨c, 0, none⟩) hcw (.int .i64 (room : Nat))).setCell (p := ⟨c, 1, none⟩) hcw (.slice (some ⟨W.heap.size, 0, none⟩) n n)).setCell (p := ⟨c, 2, none⟩) hcw (.int .i64 0)).setCell (p := ⟨c, 3, none⟩) hcw (.int .i64 (n : Nat)))
    have hgw : w.heap.size ≤ W.heap.size := Hb0.out.size
    obtain ⟨g, hg⟩ : ∃ g, W.heap.size = g := ⟨_, rfl⟩
    rw [hg] at HR HG HL hgw ⊢
    refine exit_letter ?_
    intro X hX
    rw [← hX.out] at HR HG HL
    have r0 := HR.out.at 0 rfl
    have r1 := HR.out.at 1 rfl
    have r2 := HR.out.at 2 rfl
    have r3 := HR.out.at 3 rfl
    clear HS S0 S3 t0 t1 t2 t3 u0 u1 u2 u3 C2 hg2 hb2 hb3 q0 q3 hX hg
    rename_i hx
    clear hx
    go_wp2_with fail
    refine bodyPost_ret (v := .agg #[.int .i64 (room : Nat), .slice (some ⟨g, 0, none⟩) n n, .int .i64 0, .int .i64 (n : Nat)]) ?_ rfl ⟨g, rfl, hgw, HG.out, HL.out⟩
    simp [results, Try.f48, go_sem, r0, r1, r2, r3]
end Go.Proofs.Ytkcghcoacjpbkaa.FL
