/- Package dma: all that an engine has, told; a state made right; Of, New. -/
import Derived.Test.YthpkebcedaakhaaDu
import Derived.Deep.RegionWith
namespace Go.Proofs.Ythpkebcedaakhaa.Dma
open Go.RowKit Go.Maps Go.ChangeShapes Go.WideShapes Go.ChangeAt Fifo Orow Word Fmap
set_option linter.unusedVariables false

abbrev zcells : List Value := [.int .u32 0, .int .u32 0, .int .u32 0, .int .u32 0, .bool false, .bool false, .bool false, .bool false, .bool false]
set_option maxRecDepth 100000 in
set_option maxHeartbeats 2000000 in
theorem told_any (b : Nat) (s : En) (k : Bool) (x : Value) (w : World) (h : EX w b s k x) :
    Calls Try.prog 37 #[.pointer (some ⟨b, 0, none⟩)] w fun e w' => e = .returned (stE s) ∧ Below w.heap.size w w' := by
  have H := Lib.hid h
  have hlt := h.lt
  clear h
  go_enter Try.func37, Try.ntmps37
  go_wp2_with fail
  refine code_letter ?_
  intro W hW
  have B := Lib.hid (show Below w.heap.size w W by rw [hW.out]; exact (Below.refl _ _).alloc (Nat.le_refl _) _)
  have S := Lib.hid (H.out.keep B.out)
  have Z := Lib.hid (show Blk W w.heap.size 24 zcells by rw [hW.out]; exact Blk.new w _ zcells)
  clear hW
  obtain ⟨g, hg⟩ : ∃ g, w.heap.size = g := ⟨_, rfl⟩
  rw [hg] at B Z hlt
  rw [hg]
  have c0 : ∀ w', EX w' b s k x → w'.cell? ⟨b, 0, none⟩ = some (.int .u32 s.F) := fun w' h => h.c 0 rfl
  have c1 : ∀ w', EX w' b s k x → w'.cell? ⟨b, 1, none⟩ = some (.int .u32 s.T) := fun w' h => h.c 1 rfl
  have c2 : ∀ w', EX w' b s k x → w'.cell? ⟨b, 2, none⟩ = some (.int .u32 s.L) := fun w' h => h.c 2 rfl
  have c3 : ∀ w', EX w' b s k x → w'.cell? ⟨b, 3, none⟩ = some (.int .u32 s.H) := fun w' h => h.c 3 rfl
  have c4 : ∀ w', EX w' b s k x → w'.cell? ⟨b, 4, none⟩ = some (.bool s.has) := fun w' h => h.c 4 rfl
  have c5 : ∀ w', EX w' b s k x → w'.cell? ⟨b, 5, none⟩ = some (.bool s.busy) := fun w' h => h.c 5 rfl
  have c6 : ∀ w', EX w' b s k x → w'.cell? ⟨b, 6, none⟩ = some (.bool s.den) := fun w' h => h.c 6 rfl
  have c7 : ∀ w', EX w' b s k x → w'.cell? ⟨b, 7, none⟩ = some (.bool s.don) := fun w' h => h.c 7 rfl
  have c8 : ∀ w', EX w' b s k x → w'.cell? ⟨b, 8, none⟩ = some (.bool s.cal) := fun w' h => h.c 8 rfl
  have ZZ := Z.out
  have SS : EX W.drew b s k x := S.out.keep (Below.refl _ _).drew
  clear H
  refine wp_region_held_drew (S := fun w' => EX w' b s k x) (by kernel_rfl) SS (fun hHeld => ?_)
  refine wpAnyH_take (i := 0) (v := ?_) rfl (by kernel_rfl) (by kernel_rfl) (by kernel_rfl) (fun _ _ _ h => h) (Or.inl ⟨by rfl, ?_⟩) (by assumption) ?_
  rotate_left
  · (intro w hSw; (try dsimp only at hSw); go_simp; try (with_reducible rfl))
  try simp only [Act.put, List.getElem_toArray, List.getElem_cons_zero, List.setIfInBounds_toArray, List.set_cons_succ, List.set_cons_zero]
  refine wpAnyH_take (i := 1) (v := ?_) rfl (by kernel_rfl) (by kernel_rfl) (by kernel_rfl) (fun _ _ _ h => h) (Or.inl ⟨by rfl, ?_⟩) (by assumption) ?_
  rotate_left
  · (intro w hSw; (try dsimp only at hSw); go_simp; try (with_reducible rfl))
  try simp only [Act.put, List.getElem_toArray, List.getElem_cons_succ, List.getElem_cons_zero, List.setIfInBounds_toArray, List.set_cons_succ, List.set_cons_zero]
  refine wpAnyH_take (i := 2) (v := ?_) rfl (by kernel_rfl) (by kernel_rfl) (by kernel_rfl) (fun _ _ _ h => h) (Or.inl ⟨by rfl, ?_⟩) (by assumption) ?_
  rotate_left
  · (intro w hSw; (try dsimp only at hSw); go_simp; try (with_reducible rfl))
  try simp only [Act.put, List.getElem_toArray, List.getElem_cons_succ, List.getElem_cons_zero, List.setIfInBounds_toArray, List.set_cons_succ, List.set_cons_zero]
  refine wpAnyH_take (i := 3) (v := ?_) rfl (by kernel_rfl) (by kernel_rfl) (by kernel_rfl) (fun _ _ _ h => h) (Or.inl ⟨by rfl, ?_⟩) (by assumption) ?_
  rotate_left
  · (intro w hSw; (try dsimp only at hSw); go_simp; try (with_reducible rfl))
  try simp only [Act.put, List.getElem_toArray, List.getElem_cons_succ, List.getElem_cons_zero, List.setIfInBounds_toArray, List.set_cons_succ, List.set_cons_zero]
  refine wpAnyH_take (i := 4) (v := ?_) rfl (by kernel_rfl) (by kernel_rfl) (by kernel_rfl) (fun _ _ _ h => h) (Or.inl ⟨by rfl, ?_⟩) (by assumption) ?_
  rotate_left
  · (intro w hSw; (try dsimp only at hSw); go_simp; try (with_reducible rfl))
  try simp only [Act.put, List.getElem_toArray, List.getElem_cons_succ, List.getElem_cons_zero, List.setIfInBounds_toArray, List.set_cons_succ, List.set_cons_zero]
  refine wpAnyH_take (i := 5) (v := ?_) rfl (by kernel_rfl) (by kernel_rfl) (by kernel_rfl) (fun _ _ _ h => h) (Or.inl ⟨by rfl, ?_⟩) (by assumption) ?_
  rotate_left
  · (intro w hSw; (try dsimp only at hSw); go_simp; try (with_reducible rfl))
  try simp only [Act.put, List.getElem_toArray, List.getElem_cons_succ, List.getElem_cons_zero, List.setIfInBounds_toArray, List.set_cons_succ, List.set_cons_zero]
  refine wpAnyH_take (i := 6) (v := ?_) rfl (by kernel_rfl) (by kernel_rfl) (by kernel_rfl) (fun _ _ _ h => h) (Or.inl ⟨by rfl, ?_⟩) (by assumption) ?_
  rotate_left
  · (intro w hSw; (try dsimp only at hSw); go_simp; try (with_reducible rfl))
  try simp only [Act.put, List.getElem_toArray, List.getElem_cons_succ, List.getElem_cons_zero, List.setIfInBounds_toArray, List.set_cons_succ, List.set_cons_zero]
  refine wpAnyH_take (i := 7) (v := ?_) rfl (by kernel_rfl) (by kernel_rfl) (by kernel_rfl) (fun _ _ _ h => h) (Or.inl ⟨by rfl, ?_⟩) (by assumption) ?_
  rotate_left
  · (intro w hSw; (try dsimp only at hSw); go_simp; try (with_reducible rfl))
  try simp only [Act.put, List.getElem_toArray, List.getElem_cons_succ, List.getElem_cons_zero, List.setIfInBounds_toArray, List.set_cons_succ, List.set_cons_zero]
  refine wpAnyH_take (i := 8) (v := ?_) rfl (by kernel_rfl) (by kernel_rfl) (by kernel_rfl) (fun _ _ _ h => h) (Or.inl ⟨by rfl, ?_⟩) (by assumption) ?_
  rotate_left
  · (intro w hSw; (try dsimp only at hSw); go_simp; try (with_reducible rfl))
  try simp only [Act.put, List.getElem_toArray, List.getElem_cons_succ, List.getElem_cons_zero, List.setIfInBounds_toArray, List.set_cons_succ, List.set_cons_zero]
  refine wpAnyH_take (i := 9) (v := ?_) rfl (by kernel_rfl) (by kernel_rfl) (by kernel_rfl) (fun _ _ _ h => h) (Or.inl ⟨by rfl, ?_⟩) (by assumption) ?_
  rotate_left
  · (intro w hSw; (try dsimp only at hSw); go_simp; try (with_reducible rfl))
  try simp only [Act.put, List.getElem_toArray, List.getElem_cons_succ, List.getElem_cons_zero, List.setIfInBounds_toArray, List.set_cons_succ, List.set_cons_zero]
  refine wpAnyH_take (i := 10) (v := ?_) rfl (by kernel_rfl) (by kernel_rfl) (by kernel_rfl) (fun _ _ _ h => h) (Or.inl ⟨by rfl, ?_⟩) (by assumption) ?_
  rotate_left
  · (intro w hSw; (try dsimp only at hSw); go_simp; try (with_reducible rfl))
  try simp only [Act.put, List.getElem_toArray, List.getElem_cons_succ, List.getElem_cons_zero, List.setIfInBounds_toArray, List.set_cons_succ, List.set_cons_zero]
  refine wpAnyH_take (i := 11) (v := ?_) rfl (by kernel_rfl) (by kernel_rfl) (by kernel_rfl) (fun _ _ _ h => h) (Or.inl ⟨by rfl, ?_⟩) (by assumption) ?_
  rotate_left
  · (intro w hSw; (try dsimp only at hSw); go_simp; try (with_reducible rfl))
  try simp only [Act.put, List.getElem_toArray, List.getElem_cons_succ, List.getElem_cons_zero, List.setIfInBounds_toArray, List.set_cons_succ, List.set_cons_zero]
  refine wpAnyH_take (i := 12) (v := ?_) rfl (by kernel_rfl) (by kernel_rfl) (by kernel_rfl) (fun _ _ _ h => h) (Or.inl ⟨by rfl, ?_⟩) (by assumption) ?_
  rotate_left
  · (intro w hSw; (try dsimp only at hSw); go_simp; try (with_reducible rfl))
  try simp only [Act.put, List.getElem_toArray, List.getElem_cons_succ, List.getElem_cons_zero, List.setIfInBounds_toArray, List.set_cons_succ, List.set_cons_zero]
  refine wpAnyH_take (i := 13) (v := ?_) rfl (by kernel_rfl) (by kernel_rfl) (by kernel_rfl) (fun _ _ _ h => h) (Or.inl ⟨by rfl, ?_⟩) (by assumption) ?_
  rotate_left
  · (intro w hSw; (try dsimp only at hSw); go_simp; try (with_reducible rfl))
  try simp only [Act.put, List.getElem_toArray, List.getElem_cons_succ, List.getElem_cons_zero, List.setIfInBounds_toArray, List.set_cons_succ, List.set_cons_zero]
  refine wpAnyH_take (i := 14) (v := ?_) rfl (by kernel_rfl) (by kernel_rfl) (by kernel_rfl) (fun _ _ _ h => h) (Or.inl ⟨by rfl, ?_⟩) (by assumption) ?_
  rotate_left
  · (intro w hSw; (try dsimp only at hSw); go_simp; try (with_reducible rfl))
  try simp only [Act.put, List.getElem_toArray, List.getElem_cons_succ, List.getElem_cons_zero, List.setIfInBounds_toArray, List.set_cons_succ, List.set_cons_zero]
  refine wpAnyH_take (i := 15) (v := ?_) rfl (by kernel_rfl) (by kernel_rfl) (by kernel_rfl) (fun _ _ _ h => h) (Or.inl ⟨by rfl, ?_⟩) (by assumption) ?_
  rotate_left
  · (intro w hSw; (try dsimp only at hSw); go_simp; try (with_reducible rfl))
  try simp only [Act.put, List.getElem_toArray, List.getElem_cons_succ, List.getElem_cons_zero, List.setIfInBounds_toArray, List.set_cons_succ, List.set_cons_zero]
  refine wpAnyH_take (i := 16) (v := ?_) rfl (by kernel_rfl) (by kernel_rfl) (by kernel_rfl) (fun _ _ _ h => h) (Or.inl ⟨by rfl, ?_⟩) (by assumption) ?_
  rotate_left
  · (intro w hSw; (try dsimp only at hSw); go_simp; try (with_reducible rfl))
  try simp only [Act.put, List.getElem_toArray, List.getElem_cons_succ, List.getElem_cons_zero, List.setIfInBounds_toArray, List.set_cons_succ, List.set_cons_zero]
  refine wpAnyH_take (i := 17) (v := ?_) rfl (by kernel_rfl) (by kernel_rfl) (by kernel_rfl) (fun _ _ _ h => h) (Or.inl ⟨by rfl, ?_⟩) (by assumption) ?_
  rotate_left
  · (intro w hSw; (try dsimp only at hSw); go_simp; try (with_reducible rfl))
  try simp only [Act.put, List.getElem_toArray, List.getElem_cons_succ, List.getElem_cons_zero, List.setIfInBounds_toArray, List.set_cons_succ, List.set_cons_zero]
  refine wpAnyH_take (i := 18) (v := ?_) rfl (by kernel_rfl) (by kernel_rfl) (by kernel_rfl) (fun _ _ _ h => h) (Or.inl ⟨by rfl, ?_⟩) (by assumption) ?_
  rotate_left
  · (intro w hSw; (try dsimp only at hSw); go_simp; try (with_reducible rfl))
  try simp only [Act.put, List.getElem_toArray, List.getElem_cons_succ, List.getElem_cons_zero, List.setIfInBounds_toArray, List.set_cons_succ, List.set_cons_zero]
  refine wpAnyH_take (i := 19) (v := ?_) rfl (by kernel_rfl) (by kernel_rfl) (by kernel_rfl) (fun _ _ _ h => h) (Or.inl ⟨by rfl, ?_⟩) (by assumption) ?_
  rotate_left
  · (intro w hSw; (try dsimp only at hSw); go_simp; try (with_reducible rfl))
  try simp only [Act.put, List.getElem_toArray, List.getElem_cons_succ, List.getElem_cons_zero, List.setIfInBounds_toArray, List.set_cons_succ, List.set_cons_zero]
  refine wpAnyH_take (i := 20) (v := ?_) rfl (by kernel_rfl) (by kernel_rfl) (by kernel_rfl) (fun _ _ _ h => h) (Or.inl ⟨by rfl, ?_⟩) (by assumption) ?_
  rotate_left
  · (intro w hSw; (try dsimp only at hSw); go_simp; try (with_reducible rfl))
  try simp only [Act.put, List.getElem_toArray, List.getElem_cons_succ, List.getElem_cons_zero, List.setIfInBounds_toArray, List.set_cons_succ, List.set_cons_zero]
  refine wpAnyH_take (i := 21) (v := ?_) rfl (by kernel_rfl) (by kernel_rfl) (by kernel_rfl) (fun _ _ _ h => h) (Or.inl ⟨by rfl, ?_⟩) (by assumption) ?_
  rotate_left
  · (intro w hSw; (try dsimp only at hSw); go_simp; try (with_reducible rfl))
  try simp only [Act.put, List.getElem_toArray, List.getElem_cons_succ, List.getElem_cons_zero, List.setIfInBounds_toArray, List.set_cons_succ, List.set_cons_zero]
  refine wpAnyH_take (i := 22) (v := ?_) rfl (by kernel_rfl) (by kernel_rfl) (by kernel_rfl) (fun _ _ _ h => h) (Or.inl ⟨by rfl, ?_⟩) (by assumption) ?_
  rotate_left
  · (intro w hSw; (try dsimp only at hSw); go_simp; try (with_reducible rfl))
  try simp only [Act.put, List.getElem_toArray, List.getElem_cons_succ, List.getElem_cons_zero, List.setIfInBounds_toArray, List.set_cons_succ, List.set_cons_zero]
  refine wpAnyH_take (i := 23) (v := ?_) rfl (by kernel_rfl) (by kernel_rfl) (by kernel_rfl) (fun _ _ _ h => h) (Or.inl ⟨by rfl, ?_⟩) (by assumption) ?_
  rotate_left
  · (intro w hSw; (try dsimp only at hSw); go_simp; try (with_reducible rfl))
  try simp only [Act.put, List.getElem_toArray, List.getElem_cons_succ, List.getElem_cons_zero, List.setIfInBounds_toArray, List.set_cons_succ, List.set_cons_zero]
  refine wpAnyH_take (i := 24) (v := ?_) rfl (by kernel_rfl) (by kernel_rfl) (by kernel_rfl) (fun _ _ _ h => h) (Or.inl ⟨by rfl, ?_⟩) (by assumption) ?_
  rotate_left
  · (intro w hSw; (try dsimp only at hSw); go_simp; try (with_reducible rfl))
  try simp only [Act.put, List.getElem_toArray, List.getElem_cons_succ, List.getElem_cons_zero, List.setIfInBounds_toArray, List.set_cons_succ, List.set_cons_zero]
  refine wpAnyH_take (i := 25) (v := ?_) rfl (by kernel_rfl) (by kernel_rfl) (by kernel_rfl) (fun _ _ _ h => h) (Or.inl ⟨by rfl, ?_⟩) (by assumption) ?_
  rotate_left
  · (intro w hSw; (try dsimp only at hSw); go_simp; try (with_reducible rfl))
  try simp only [Act.put, List.getElem_toArray, List.getElem_cons_succ, List.getElem_cons_zero, List.setIfInBounds_toArray, List.set_cons_succ, List.set_cons_zero]
  refine wpAnyH_take (i := 26) (v := ?_) rfl (by kernel_rfl) (by kernel_rfl) (by kernel_rfl) (fun _ _ _ h => h) (Or.inl ⟨by rfl, ?_⟩) (by assumption) ?_
  rotate_left
  · (intro w hSw; (try dsimp only at hSw); go_simp; try (with_reducible rfl))
  try simp only [Act.put, List.getElem_toArray, List.getElem_cons_succ, List.getElem_cons_zero, List.setIfInBounds_toArray, List.set_cons_succ, List.set_cons_zero]
  refine wpAnyH_take (i := 27) (v := ?_) rfl (by kernel_rfl) (by kernel_rfl) (by kernel_rfl) (fun _ _ _ h => h) (Or.inl ⟨by rfl, ?_⟩) (by assumption) ?_
  rotate_left
  · (intro w hSw; (try dsimp only at hSw); go_simp; try (with_reducible rfl))
  try simp only [Act.put, List.getElem_toArray, List.getElem_cons_succ, List.getElem_cons_zero, List.setIfInBounds_toArray, List.set_cons_succ, List.set_cons_zero]
  refine wpAnyH_take (i := 28) (v := ?_) rfl (by kernel_rfl) (by kernel_rfl) (by kernel_rfl) (fun _ _ _ h => h) (Or.inl ⟨by rfl, ?_⟩) (by assumption) ?_
  rotate_left
  · (intro w hSw; (try dsimp only at hSw); go_simp; try (with_reducible rfl))
  try simp only [Act.put, List.getElem_toArray, List.getElem_cons_succ, List.getElem_cons_zero, List.setIfInBounds_toArray, List.set_cons_succ, List.set_cons_zero]
  refine wpAnyH_take (i := 29) (v := ?_) rfl (by kernel_rfl) (by kernel_rfl) (by kernel_rfl) (fun _ _ _ h => h) (Or.inl ⟨by rfl, ?_⟩) (by assumption) ?_
  rotate_left
  · (intro w hSw; (try dsimp only at hSw); go_simp; try (with_reducible rfl))
  try simp only [Act.put, List.getElem_toArray, List.getElem_cons_succ, List.getElem_cons_zero, List.setIfInBounds_toArray, List.set_cons_succ, List.set_cons_zero]
  refine wpAnyH_take (i := 30) (v := ?_) rfl (by kernel_rfl) (by kernel_rfl) (by kernel_rfl) (fun _ _ _ h => h) (Or.inl ⟨by rfl, ?_⟩) (by assumption) ?_
  rotate_left
  · (intro w hSw; (try dsimp only at hSw); go_simp; try (with_reducible rfl))
  try simp only [Act.put, List.getElem_toArray, List.getElem_cons_succ, List.getElem_cons_zero, List.setIfInBounds_toArray, List.set_cons_succ, List.set_cons_zero]
  refine wpAnyH_take (i := 31) (v := ?_) rfl (by kernel_rfl) (by kernel_rfl) (by kernel_rfl) (fun _ _ _ h => h) (Or.inl ⟨by rfl, ?_⟩) (by assumption) ?_
  rotate_left
  · (intro w hSw; (try dsimp only at hSw); go_simp; try (with_reducible rfl))
  try simp only [Act.put, List.getElem_toArray, List.getElem_cons_succ, List.getElem_cons_zero, List.setIfInBounds_toArray, List.set_cons_succ, List.set_cons_zero]
  refine wpAnyH_take (i := 32) (v := ?_) rfl (by kernel_rfl) (by kernel_rfl) (by kernel_rfl) (fun _ _ _ h => h) (Or.inl ⟨by rfl, ?_⟩) (by assumption) ?_
  rotate_left
  · (intro w hSw; (try dsimp only at hSw); go_simp; try (with_reducible rfl))
  try simp only [Act.put, List.getElem_toArray, List.getElem_cons_succ, List.getElem_cons_zero, List.setIfInBounds_toArray, List.set_cons_succ, List.set_cons_zero]
  refine wpAnyH_take (i := 33) (v := ?_) rfl (by kernel_rfl) (by kernel_rfl) (by kernel_rfl) (fun _ _ _ h => h) (Or.inl ⟨by rfl, ?_⟩) (by assumption) ?_
  rotate_left
  · (intro w hSw; (try dsimp only at hSw); go_simp; try (with_reducible rfl))
  try simp only [Act.put, List.getElem_toArray, List.getElem_cons_succ, List.getElem_cons_zero, List.setIfInBounds_toArray, List.set_cons_succ, List.set_cons_zero]
  refine wpAnyH_take (i := 34) (v := ?_) rfl (by kernel_rfl) (by kernel_rfl) (by kernel_rfl) (fun _ _ _ h => h) (Or.inl ⟨by rfl, ?_⟩) (by assumption) ?_
  rotate_left
  · (intro w hSw; (try dsimp only at hSw); go_simp; try (with_reducible rfl))
  try simp only [Act.put, List.getElem_toArray, List.getElem_cons_succ, List.getElem_cons_zero, List.setIfInBounds_toArray, List.set_cons_succ, List.set_cons_zero]
  refine wpAnyH_take (i := 35) (v := ?_) rfl (by kernel_rfl) (by kernel_rfl) (by kernel_rfl) (fun _ _ _ h => h) (Or.inl ⟨by rfl, ?_⟩) (by assumption) ?_
  rotate_left
  · (intro w hSw; (try dsimp only at hSw); go_simp; try (with_reducible rfl))
  try simp only [Act.put, List.getElem_toArray, List.getElem_cons_succ, List.getElem_cons_zero, List.setIfInBounds_toArray, List.set_cons_succ, List.set_cons_zero]
  refine wpAnyH_take (i := 36) (v := ?_) rfl (by kernel_rfl) (by kernel_rfl) (by kernel_rfl) (fun _ _ _ h => h) (Or.inl ⟨by rfl, ?_⟩) (by assumption) ?_
  rotate_left
  · (intro w hSw; (try dsimp only at hSw); go_simp; try (with_reducible rfl))
  try simp only [Act.put, List.getElem_toArray, List.getElem_cons_succ, List.getElem_cons_zero, List.setIfInBounds_toArray, List.set_cons_succ, List.set_cons_zero]
  refine wpAnyH_ready (rs := [37]) (by kernel_rfl) (by simp) ?_
  refine AllReadyH.cons rfl (fun K1 hK => ?_) AllReadyH.nil
  rw [if_pos (by rfl)]
  refine oper_store _ _ _ rfl g 0 (cellsE s) rfl rfl 24 _ ZZ (by kernel_rfl) (by simp) (by simp [Value.oneCell']) ?_
  intro Y hY hoY
  have hon : EX Y b s k x := EX.only (w := W.drew) (S := fun j => j = g) SS hoY (by show ¬ b = g; omega)
  have R := Lib.hid (show Blk Y g 24 (cellsE s) from hY)
  have O := Lib.hid (show Below g w Y from B.out.trans ((Only.below (Only.far (Only.of_below (Below.refl W.heap.size W).drew) hoY (fun i _ e => e)) (Nat.le_of_lt Z.out.lt) (fun k e => by have : k = g := e; omega))))
  refine hK.out _ _ hon (fun hHeld => ?_)
  clear hK hY hoY hon
  simp only [Act.put, List.getElem_toArray, List.getElem_cons_succ, List.getElem_cons_zero]
  refine wpAnyH_done (by kernel_rfl) ?_ _
  have r0 := R.out.at 0 rfl
  have r1 := R.out.at 1 rfl
  have r2 := R.out.at 2 rfl
  have r3 := R.out.at 3 rfl
  have r4 := R.out.at 4 rfl
  have r5 := R.out.at 5 rfl
  have r6 := R.out.at 6 rfl
  have r7 := R.out.at 7 rfl
  have r8 := R.out.at 8 rfl
  go_wp2_with fail
  refine bodyPost_ret (v := stE s) ?_ rfl ⟨rfl, by rw [hg]; exact O.out⟩
  simp [results, Try.results37, go_sem, r0, r1, r2, r3, r4, r5, r6, r7, r8]
set_option maxHeartbeats 1000000 in
theorem stateOf_a (F T L H : Int) (has den don cal : Bool) (w : World) :
    Calls Try.prog 25 #[stE ⟨F, T, L, H, has, false, den, don, cal⟩] w fun e w' => e = .returned (stE ⟨F, T, L, 0, false, false, den, don, cal⟩) ∧ Below w.heap.size w w' := by
  go_enter Try.func25, Try.ntmps25
  go_wp2_with (with_reducible refine at_store 48 _ _ rfl ?_)
  refine Lib.hid ?_
  refine list_letter ?_
  intro W hW
  have B := Lib.hid (show Below w.heap.size w W by rw [hW.out]; exact (((Below.refl _ _).alloc (Nat.le_refl _) _).alloc (by simp) _).alloc (by simp; omega) _)
  have S := Lib.hid (show Blk W w.heap.size 24 (cellsE ⟨F, T, L, H, has, false, den, don, cal⟩) by rw [hW.out]; exact ((Blk.new w _ _).alloc _).alloc _)
  have Z : ∀ X : World, Blk (X.alloc (.cells #[.int .u32 0, .int .u32 0, .int .u32 0, .int .u32 0, .bool false, .bool false, .bool false, .bool false, .bool false] 48)) X.heap.size 48 zcells := fun X => Blk.new X _ zcells
  have Z1 := Lib.hid (show Blk W (w.heap.size + 1) 48 zcells by
    rw [hW.out]
    have e := (Z (w.alloc (.cells (cellsE ⟨F, T, L, H, has, false, den, don, cal⟩).toArray 24))).alloc (.cells #[.int .u32 0, .int .u32 0, .int .u32 0, .int .u32 0, .bool false, .bool false, .bool false, .bool false, .bool false] 48)
    simpa using e)
  have Z2 := Lib.hid (show Blk W (w.heap.size + 2) 48 zcells by
    rw [hW.out]
    have e := Z ((w.alloc (.cells (cellsE ⟨F, T, L, H, has, false, den, don, cal⟩).toArray 24)).alloc (.cells #[.int .u32 0, .int .u32 0, .int .u32 0, .int .u32 0, .bool false, .bool false, .bool false, .bool false, .bool false] 48))
    simpa using e)
  clear hW Z
  obtain ⟨g, hg⟩ : ∃ g, w.heap.size = g := ⟨_, rfl⟩
  rw [hg] at B S Z1 Z2
  rw [hg]
  refine store_all rfl _ _ _ rfl (g + 2) [.int .u32 F, .int .u32 T, .int .u32 L, .int .u32 0, .bool false, .bool false, .bool den, .bool don, .bool cal] rfl rfl 48 _ Z2.out (by kernel_rfl) rfl (by simp [Value.oneCell']) ?_
  intro Y hY hoY
  have BY := Lib.hid (show Below g w Y from B.out.trans (hoY.below (Nat.le_trans (Nat.le_add_right g 2) (Nat.le_of_lt Z2.out.lt)) (fun k e => by have : k = g + 2 := e; omega)))
  have SY := Lib.hid (show Blk Y g 24 (cellsE ⟨F, T, L, H, has, false, den, don, cal⟩) from S.out.only hoY (by show ¬ g = g + 2; omega))
  have RY := Lib.hid (show Blk Y (g + 1) 48 zcells from Z1.out.only hoY (by show ¬ g + 1 = g + 2; omega))
  have NY := Lib.hid hY
  clear hY hoY B S Z1 Z2
  have s2 := SY.out.at 2 rfl
  have s3 := SY.out.at 3 rfl
  have s4 := SY.out.at 4 rfl
  have s5 := SY.out.at 5 rfl
  have n0 := NY.out.at 0 rfl
  have n1 := NY.out.at 1 rfl
  have n2 := NY.out.at 2 rfl
  have n3 := NY.out.at 3 rfl
  have n4 := NY.out.at 4 rfl
  have n5 := NY.out.at 5 rfl
  have n6 := NY.out.at 6 rfl
  have n7 := NY.out.at 7 rfl
  have n8 := NY.out.at 8 rfl
  have q3 := NY.out.frozen 3
  have q4 := NY.out.frozen 4
  have q5 := NY.out.frozen 5
  go_wp2_with (with_reducible refine at_store 48 _ _ rfl ?_)
  refine Lib.hid ?_
  refine store_all rfl _ _ _ rfl (g + 1) (cellsE ⟨F, T, L, 0, false, false, den, don, cal⟩) rfl rfl 48 _ (RY.out.other (by show ¬ g + 1 = g + 2; omega) _) (by kernel_rfl) rfl (by simp [Value.oneCell']) ?_
  intro X hX hoX
  have BX := Lib.hid (show Below g w X from (BY.out.setCell (by show g ≤ g + 2; omega) _).trans (hoX.below (Nat.le_trans (Nat.le_add_right g 1) (Nat.le_of_lt (RY.out.other (by show ¬ g + 1 = g + 2; omega) _).lt)) (fun k e => by have : k = g + 1 := e; omega)))
  have RX := Lib.hid hX
  clear hX hoX
  have r0 := RX.out.at 0 rfl
  have r1 := RX.out.at 1 rfl
  have r2 := RX.out.at 2 rfl
  have r3 := RX.out.at 3 rfl
  have r4 := RX.out.at 4 rfl
  have r5 := RX.out.at 5 rfl
  have r6 := RX.out.at 6 rfl
  have r7 := RX.out.at 7 rfl
  have r8 := RX.out.at 8 rfl
  go_wp2_with fail
  refine bodyPost_ret (v := stE ⟨F, T, L, 0, false, false, den, don, cal⟩) ?_ rfl ⟨rfl, BX.out⟩
  simp [results, Try.results25, go_sem, r0, r1, r2, r3, r4, r5, r6, r7, r8]
set_option maxHeartbeats 1000000 in
theorem stateOf_b (F T L H : Int) (has den don cal : Bool) (w : World) (d : decide (0 < L) = false) :
    Calls Try.prog 25 #[stE ⟨F, T, L, H, has, true, den, don, cal⟩] w fun e w' => e = .returned (stE ⟨F, T, L, 0, false, false, den, don, cal⟩) ∧ Below w.heap.size w w' := by
  go_enter Try.func25, Try.ntmps25
  go_wp2_with (with_reducible refine at_store 48 _ _ rfl ?_)
  refine Lib.hid ?_
  refine list_letter ?_
  intro W hW
  have B := Lib.hid (show Below w.heap.size w W by rw [hW.out]; exact (((Below.refl _ _).alloc (Nat.le_refl _) _).alloc (by simp) _).alloc (by simp; omega) _)
  have S := Lib.hid (show Blk W w.heap.size 24 (cellsE ⟨F, T, L, H, has, true, den, don, cal⟩) by rw [hW.out]; exact ((Blk.new w _ _).alloc _).alloc _)
  have Z : ∀ X : World, Blk (X.alloc (.cells #[.int .u32 0, .int .u32 0, .int .u32 0, .int .u32 0, .bool false, .bool false, .bool false, .bool false, .bool false] 48)) X.heap.size 48 zcells := fun X => Blk.new X _ zcells
  have Z1 := Lib.hid (show Blk W (w.heap.size + 1) 48 zcells by
    rw [hW.out]
    have e := (Z (w.alloc (.cells (cellsE ⟨F, T, L, H, has, true, den, don, cal⟩).toArray 24))).alloc (.cells #[.int .u32 0, .int .u32 0, .int .u32 0, .int .u32 0, .bool false, .bool false, .bool false, .bool false, .bool false] 48)
    simpa using e)
  have Z2 := Lib.hid (show Blk W (w.heap.size + 2) 48 zcells by
    rw [hW.out]
    have e := Z ((w.alloc (.cells (cellsE ⟨F, T, L, H, has, true, den, don, cal⟩).toArray 24)).alloc (.cells #[.int .u32 0, .int .u32 0, .int .u32 0, .int .u32 0, .bool false, .bool false, .bool false, .bool false, .bool false] 48))
    simpa using e)
  clear hW Z
  obtain ⟨g, hg⟩ : ∃ g, w.heap.size = g := ⟨_, rfl⟩
  rw [hg] at B S Z1 Z2
  rw [hg]
  refine store_all rfl _ _ _ rfl (g + 2) [.int .u32 F, .int .u32 T, .int .u32 L, .int .u32 0, .bool false, .bool false, .bool den, .bool don, .bool cal] rfl rfl 48 _ Z2.out (by kernel_rfl) rfl (by simp [Value.oneCell']) ?_
  intro Y hY hoY
  have BY := Lib.hid (show Below g w Y from B.out.trans (hoY.below (Nat.le_trans (Nat.le_add_right g 2) (Nat.le_of_lt Z2.out.lt)) (fun k e => by have : k = g + 2 := e; omega)))
  have SY := Lib.hid (show Blk Y g 24 (cellsE ⟨F, T, L, H, has, true, den, don, cal⟩) from S.out.only hoY (by show ¬ g = g + 2; omega))
  have RY := Lib.hid (show Blk Y (g + 1) 48 zcells from Z1.out.only hoY (by show ¬ g + 1 = g + 2; omega))
  have NY := Lib.hid hY
  clear hY hoY B S Z1 Z2
  have s2 := SY.out.at 2 rfl
  have s3 := SY.out.at 3 rfl
  have s4 := SY.out.at 4 rfl
  have s5 := SY.out.at 5 rfl
  have n0 := NY.out.at 0 rfl
  have n1 := NY.out.at 1 rfl
  have n2 := NY.out.at 2 rfl
  have n3 := NY.out.at 3 rfl
  have n4 := NY.out.at 4 rfl
  have n5 := NY.out.at 5 rfl
  have n6 := NY.out.at 6 rfl
  have n7 := NY.out.at 7 rfl
  have n8 := NY.out.at 8 rfl
  have q3 := NY.out.frozen 3
  have q4 := NY.out.frozen 4
  have q5 := NY.out.frozen 5
  go_wp2_with (with_reducible refine at_store 48 _ _ rfl ?_)
  refine Lib.hid ?_
  refine store_all rfl _ _ _ rfl (g + 1) (cellsE ⟨F, T, L, 0, false, false, den, don, cal⟩) rfl rfl 48 _ (RY.out.other (by show ¬ g + 1 = g + 2; omega) _) (by kernel_rfl) rfl (by simp [Value.oneCell']) ?_
  intro X hX hoX
  have BX := Lib.hid (show Below g w X from (BY.out.setCell (by show g ≤ g + 2; omega) _).trans (hoX.below (Nat.le_trans (Nat.le_add_right g 1) (Nat.le_of_lt (RY.out.other (by show ¬ g + 1 = g + 2; omega) _).lt)) (fun k e => by have : k = g + 1 := e; omega)))
  have RX := Lib.hid hX
  clear hX hoX
  have r0 := RX.out.at 0 rfl
  have r1 := RX.out.at 1 rfl
  have r2 := RX.out.at 2 rfl
  have r3 := RX.out.at 3 rfl
  have r4 := RX.out.at 4 rfl
  have r5 := RX.out.at 5 rfl
  have r6 := RX.out.at 6 rfl
  have r7 := RX.out.at 7 rfl
  have r8 := RX.out.at 8 rfl
  go_wp2_with fail
  refine bodyPost_ret (v := stE ⟨F, T, L, 0, false, false, den, don, cal⟩) ?_ rfl ⟨rfl, BX.out⟩
  simp [results, Try.results25, go_sem, r0, r1, r2, r3, r4, r5, r6, r7, r8]
set_option maxHeartbeats 1000000 in
theorem stateOf_c (F T L H : Int) (den don cal : Bool) (w : World) (d : decide (0 < L) = true) :
    Calls Try.prog 25 #[stE ⟨F, T, L, H, false, true, den, don, cal⟩] w fun e w' => e = .returned (stE ⟨F, T, L, 0, false, true, den, don, cal⟩) ∧ Below w.heap.size w w' := by
  go_enter Try.func25, Try.ntmps25
  go_wp2_with (with_reducible refine at_store 48 _ _ rfl ?_)
  refine Lib.hid ?_
  refine list_letter ?_
  intro W hW
  have B := Lib.hid (show Below w.heap.size w W by rw [hW.out]; exact (((Below.refl _ _).alloc (Nat.le_refl _) _).alloc (by simp) _).alloc (by simp; omega) _)
  have S := Lib.hid (show Blk W w.heap.size 24 (cellsE ⟨F, T, L, H, false, true, den, don, cal⟩) by rw [hW.out]; exact ((Blk.new w _ _).alloc _).alloc _)
  have Z : ∀ X : World, Blk (X.alloc (.cells #[.int .u32 0, .int .u32 0, .int .u32 0, .int .u32 0, .bool false, .bool false, .bool false, .bool false, .bool false] 48)) X.heap.size 48 zcells := fun X => Blk.new X _ zcells
  have Z1 := Lib.hid (show Blk W (w.heap.size + 1) 48 zcells by
    rw [hW.out]
    have e := (Z (w.alloc (.cells (cellsE ⟨F, T, L, H, false, true, den, don, cal⟩).toArray 24))).alloc (.cells #[.int .u32 0, .int .u32 0, .int .u32 0, .int .u32 0, .bool false, .bool false, .bool false, .bool false, .bool false] 48)
    simpa using e)
  have Z2 := Lib.hid (show Blk W (w.heap.size + 2) 48 zcells by
    rw [hW.out]
    have e := Z ((w.alloc (.cells (cellsE ⟨F, T, L, H, false, true, den, don, cal⟩).toArray 24)).alloc (.cells #[.int .u32 0, .int .u32 0, .int .u32 0, .int .u32 0, .bool false, .bool false, .bool false, .bool false, .bool false] 48))
    simpa using e)
  clear hW Z
  obtain ⟨g, hg⟩ : ∃ g, w.heap.size = g := ⟨_, rfl⟩
  rw [hg] at B S Z1 Z2
  rw [hg]
  refine store_all rfl _ _ _ rfl (g + 2) [.int .u32 F, .int .u32 T, .int .u32 L, .int .u32 0, .bool false, .bool false, .bool den, .bool don, .bool cal] rfl rfl 48 _ Z2.out (by kernel_rfl) rfl (by simp [Value.oneCell']) ?_
  intro Y hY hoY
  have BY := Lib.hid (show Below g w Y from B.out.trans (hoY.below (Nat.le_trans (Nat.le_add_right g 2) (Nat.le_of_lt Z2.out.lt)) (fun k e => by have : k = g + 2 := e; omega)))
  have SY := Lib.hid (show Blk Y g 24 (cellsE ⟨F, T, L, H, false, true, den, don, cal⟩) from S.out.only hoY (by show ¬ g = g + 2; omega))
  have RY := Lib.hid (show Blk Y (g + 1) 48 zcells from Z1.out.only hoY (by show ¬ g + 1 = g + 2; omega))
  have NY := Lib.hid hY
  clear hY hoY B S Z1 Z2
  have s2 := SY.out.at 2 rfl
  have s3 := SY.out.at 3 rfl
  have s4 := SY.out.at 4 rfl
  have s5 := SY.out.at 5 rfl
  have n0 := NY.out.at 0 rfl
  have n1 := NY.out.at 1 rfl
  have n2 := NY.out.at 2 rfl
  have n3 := NY.out.at 3 rfl
  have n4 := NY.out.at 4 rfl
  have n5 := NY.out.at 5 rfl
  have n6 := NY.out.at 6 rfl
  have n7 := NY.out.at 7 rfl
  have n8 := NY.out.at 8 rfl
  have q3 := NY.out.frozen 3
  have q4 := NY.out.frozen 4
  have q5 := NY.out.frozen 5
  go_wp2_with (with_reducible refine at_store 48 _ _ rfl ?_)
  refine Lib.hid ?_
  refine store_all rfl _ _ _ rfl (g + 1) (cellsE ⟨F, T, L, 0, false, true, den, don, cal⟩) rfl rfl 48 _ (RY.out.other (by show ¬ g + 1 = g + 2; omega) _) (by kernel_rfl) rfl (by simp [Value.oneCell']) ?_
  intro X hX hoX
  have BX := Lib.hid (show Below g w X from (BY.out.setCell (by show g ≤ g + 2; omega) _).trans (hoX.below (Nat.le_trans (Nat.le_add_right g 1) (Nat.le_of_lt (RY.out.other (by show ¬ g + 1 = g + 2; omega) _).lt)) (fun k e => by have : k = g + 1 := e; omega)))
  have RX := Lib.hid hX
  clear hX hoX
  have r0 := RX.out.at 0 rfl
  have r1 := RX.out.at 1 rfl
  have r2 := RX.out.at 2 rfl
  have r3 := RX.out.at 3 rfl
  have r4 := RX.out.at 4 rfl
  have r5 := RX.out.at 5 rfl
  have r6 := RX.out.at 6 rfl
  have r7 := RX.out.at 7 rfl
  have r8 := RX.out.at 8 rfl
  go_wp2_with fail
  refine bodyPost_ret (v := stE ⟨F, T, L, 0, false, true, den, don, cal⟩) ?_ rfl ⟨rfl, BX.out⟩
  simp [results, Try.results25, go_sem, r0, r1, r2, r3, r4, r5, r6, r7, r8]
set_option maxHeartbeats 1000000 in
theorem stateOf_d (F T L H : Int) (den don cal : Bool) (w : World) (d : decide (0 < L) = true) :
    Calls Try.prog 25 #[stE ⟨F, T, L, H, true, true, den, don, cal⟩] w fun e w' => e = .returned (stE ⟨F, T, L, H, true, true, den, don, cal⟩) ∧ Below w.heap.size w w' := by
  go_enter Try.func25, Try.ntmps25
  go_wp2_with (with_reducible refine at_store 48 _ _ rfl ?_)
  refine Lib.hid ?_
  refine list_letter ?_
  intro W hW
  have B := Lib.hid (show Below w.heap.size w W by rw [hW.out]; exact (((Below.refl _ _).alloc (Nat.le_refl _) _).alloc (by simp) _).alloc (by simp; omega) _)
  have S := Lib.hid (show Blk W w.heap.size 24 (cellsE ⟨F, T, L, H, true, true, den, don, cal⟩) by rw [hW.out]; exact ((Blk.new w _ _).alloc _).alloc _)
  have Z : ∀ X : World, Blk (X.alloc (.cells #[.int .u32 0, .int .u32 0, .int .u32 0, .int .u32 0, .bool false, .bool false, .bool false, .bool false, .bool false] 48)) X.heap.size 48 zcells := fun X => Blk.new X _ zcells
  have Z1 := Lib.hid (show Blk W (w.heap.size + 1) 48 zcells by
    rw [hW.out]
    have e := (Z (w.alloc (.cells (cellsE ⟨F, T, L, H, true, true, den, don, cal⟩).toArray 24))).alloc (.cells #[.int .u32 0, .int .u32 0, .int .u32 0, .int .u32 0, .bool false, .bool false, .bool false, .bool false, .bool false] 48)
    simpa using e)
  have Z2 := Lib.hid (show Blk W (w.heap.size + 2) 48 zcells by
    rw [hW.out]
    have e := Z ((w.alloc (.cells (cellsE ⟨F, T, L, H, true, true, den, don, cal⟩).toArray 24)).alloc (.cells #[.int .u32 0, .int .u32 0, .int .u32 0, .int .u32 0, .bool false, .bool false, .bool false, .bool false, .bool false] 48))
    simpa using e)
  clear hW Z
  obtain ⟨g, hg⟩ : ∃ g, w.heap.size = g := ⟨_, rfl⟩
  rw [hg] at B S Z1 Z2
  rw [hg]
  refine store_all rfl _ _ _ rfl (g + 2) [.int .u32 F, .int .u32 T, .int .u32 L, .int .u32 0, .bool false, .bool false, .bool den, .bool don, .bool cal] rfl rfl 48 _ Z2.out (by kernel_rfl) rfl (by simp [Value.oneCell']) ?_
  intro Y hY hoY
  have BY := Lib.hid (show Below g w Y from B.out.trans (hoY.below (Nat.le_trans (Nat.le_add_right g 2) (Nat.le_of_lt Z2.out.lt)) (fun k e => by have : k = g + 2 := e; omega)))
  have SY := Lib.hid (show Blk Y g 24 (cellsE ⟨F, T, L, H, true, true, den, don, cal⟩) from S.out.only hoY (by show ¬ g = g + 2; omega))
  have RY := Lib.hid (show Blk Y (g + 1) 48 zcells from Z1.out.only hoY (by show ¬ g + 1 = g + 2; omega))
  have NY := Lib.hid hY
  clear hY hoY B S Z1 Z2
  have s2 := SY.out.at 2 rfl
  have s3 := SY.out.at 3 rfl
  have s4 := SY.out.at 4 rfl
  have s5 := SY.out.at 5 rfl
  have n0 := NY.out.at 0 rfl
  have n1 := NY.out.at 1 rfl
  have n2 := NY.out.at 2 rfl
  have n3 := NY.out.at 3 rfl
  have n4 := NY.out.at 4 rfl
  have n5 := NY.out.at 5 rfl
  have n6 := NY.out.at 6 rfl
  have n7 := NY.out.at 7 rfl
  have n8 := NY.out.at 8 rfl
  have q3 := NY.out.frozen 3
  have q4 := NY.out.frozen 4
  have q5 := NY.out.frozen 5
  go_wp2_with fail
  refine calls_letter ?_
  intro U hU
  have BU := Lib.hid (show Below g w U by rw [hU.out]; exact BY.out.setCell (by show g ≤ g + 2; omega) _)
  have RU := Lib.hid (show Blk U (g + 1) 48 zcells by rw [hU.out]; exact RY.out.other (by show ¬ g + 1 = g + 2; omega) _)
  have NU := Lib.hid (show Blk U (g + 2) 48 [.int .u32 F, .int .u32 T, .int .u32 L, .int .u32 0, .bool false, .bool true, .bool den, .bool don, .bool cal] by rw [hU.out]; exact NY.out.set 5 (.bool true))
  clear hU s2 s3 s4 s5 n0 n1 n2 n3 n4 n5 n6 n7 n8 q3 q4 q5 BY SY RY NY
  have HH := Lib.hid (hold_any (g + 2) H _ _ U (NU.out.at 3 rfl) (NU.out.at 4 rfl) (NU.out.frozen 3) (NU.out.frozen 4))
  refine HH.out.mono ?_
  rintro e V ⟨rfl, hV⟩
  have BV := Lib.hid (show Below g w V by rw [hV]; exact (BU.out.setCell (by show g ≤ g + 2; omega) _).setCell (by show g ≤ g + 2; omega) _)
  have RV := Lib.hid (show Blk V (g + 1) 48 zcells by rw [hV]; exact (RU.out.other (by show ¬ g + 1 = g + 2; omega) _).other (by show ¬ g + 1 = g + 2; omega) _)
  have NV := Lib.hid (show Blk V (g + 2) 48 (cellsE ⟨F, T, L, H, true, true, den, don, cal⟩) by rw [hV]; exact (NU.out.set 3 (.int .u32 H)).set 4 (.bool true))
  clear hV HH
  have m0 := NV.out.at 0 rfl
  have m1 := NV.out.at 1 rfl
  have m2 := NV.out.at 2 rfl
  have m3 := NV.out.at 3 rfl
  have m4 := NV.out.at 4 rfl
  have m5 := NV.out.at 5 rfl
  have m6 := NV.out.at 6 rfl
  have m7 := NV.out.at 7 rfl
  have m8 := NV.out.at 8 rfl
  go_wp2_with (with_reducible refine at_store 48 _ _ rfl ?_)
  refine Lib.hid ?_
  refine store_all rfl _ _ _ rfl (g + 1) (cellsE ⟨F, T, L, H, true, true, den, don, cal⟩) rfl rfl 48 _ RV.out (by kernel_rfl) rfl (by simp [Value.oneCell']) ?_
  intro X hX hoX
  have BX := Lib.hid (show Below g w X from BV.out.trans (hoX.below (Nat.le_trans (Nat.le_add_right g 1) (Nat.le_of_lt RV.out.lt)) (fun k e => by have : k = g + 1 := e; omega)))
  have RX := Lib.hid hX
  clear hX hoX
  have r0 := RX.out.at 0 rfl
  have r1 := RX.out.at 1 rfl
  have r2 := RX.out.at 2 rfl
  have r3 := RX.out.at 3 rfl
  have r4 := RX.out.at 4 rfl
  have r5 := RX.out.at 5 rfl
  have r6 := RX.out.at 6 rfl
  have r7 := RX.out.at 7 rfl
  have r8 := RX.out.at 8 rfl
  go_wp2_with fail
  refine bodyPost_ret (v := stE ⟨F, T, L, H, true, true, den, don, cal⟩) ?_ rfl ⟨rfl, BX.out⟩
  simp [results, Try.results25, go_sem, r0, r1, r2, r3, r4, r5, r6, r7, r8]
theorem stateOf_any (s : En) (w : World) :
    Calls Try.prog 25 #[stE s] w fun e w' => e = .returned (stE (ofE s)) ∧ Below w.heap.size w w' := by
  obtain ⟨F, T, L, H, has, busy, den, don, cal⟩ := s
  cases busy
  · rw [show ofE ⟨F, T, L, H, has, false, den, don, cal⟩ = ⟨F, T, L, 0, false, false, den, don, cal⟩ by cases has <;> simp [ofE]]
    exact stateOf_a F T L H has den don cal w
  · by_cases hl : 0 < L
    · cases has
      · rw [show ofE ⟨F, T, L, H, false, true, den, don, cal⟩ = ⟨F, T, L, 0, false, true, den, don, cal⟩ by simp [ofE, hl]]
        exact stateOf_c F T L H den don cal w (decide_eq_true hl)
      · rw [show ofE ⟨F, T, L, H, true, true, den, don, cal⟩ = ⟨F, T, L, H, true, true, den, don, cal⟩ by simp [ofE, hl]]
        exact stateOf_d F T L H den don cal w (decide_eq_true hl)
    · rw [show ofE ⟨F, T, L, H, has, true, den, don, cal⟩ = ⟨F, T, L, 0, false, false, den, don, cal⟩ by cases has <;> simp [ofE, hl]]
      exact stateOf_b F T L H has den don cal w (decide_eq_false hl)
theorem Of_core (s t : En) (w : World) (hg : ∀ w, Calls Try.prog 25 #[stE s] w fun e w' => e = .returned (stE t) ∧ Below w.heap.size w w') (h : OkE t) :
    Calls Try.prog 8 #[stE s] w fun e w' => (∃ b, e = .returned (me b) ∧ EX w' b t false (me b) ∧ w.heap.size ≤ b) ∧ Below w.heap.size w w' := by
  have G := Lib.hid hg
  have H := Lib.hid h
  clear h hg
  go_enter Try.func8, Try.ntmps8
  go_wp2_with fail
  refine (G.out _).mono ?_
  rintro e w1 ⟨rfl, hb⟩
  have B1 := Lib.hid (show Below w.heap.size w w1 from ((Below.refl _ _).alloc (Nat.le_refl _) _).trans (hb.mono (by simp)))
  have hs := B1.out.size
  clear hb G
  go_wp2_with fail
  go_ret
  exact ⟨⟨_, rfl, ⟨Blk.new w1 _ (cellsQ t false (me w1.heap.size)), H.out⟩, hs⟩, B1.out.alloc hs _⟩
theorem Of_any0 (s : En) (w : World) (h : OkE s) :
    Calls Try.prog 8 #[stE s] w fun e w' => (∃ b, e = .returned (me b) ∧ EX w' b (ofE s) false (me b) ∧ w.heap.size ≤ b) ∧ Below w.heap.size w w' :=
  Of_core s (ofE s) w (fun w => stateOf_any s w) (ok_of h)
theorem New_any0 (w : World) :
    Calls Try.prog 19 #[] w fun e w' => (∃ b, e = .returned (me b) ∧ EX w' b zeroE false (me b) ∧ w.heap.size ≤ b) ∧ Below w.heap.size w w' := by
  have G := Lib.hid (Of_any0 zeroE w ok_zero)
  rw [show ofE zeroE = zeroE from rfl] at G
  go_enter Try.func19, Try.ntmps19
  go_wp2_with fail
  refine G.out.mono ?_
  rintro e w1 ⟨⟨b, rfl, h1, h2⟩, hb⟩
  have R := Lib.hid (And.intro h1 (And.intro h2 hb))
  clear h1 h2 hb
  go_wp2_with fail
  go_ret
  exact ⟨⟨b, rfl, R.out.1, R.out.2.1⟩, R.out.2.2⟩
end Go.Proofs.Ythpkebcedaakhaa.Dma
