/- The chapter's example: awake. -/
import Derived.Test.YtblccnpdcnlhiaaCm
namespace Go.Proofs.Ytblccnpdcnlhiaa.Access
open Go.RowKit Go.Maps Go.ChangeShapes Go.WideShapes Go.ChangeAt Kit Word
set_option linter.unusedVariables false

theorem example_any (w : World) : Calls Try.prog 12 #[] w fun e w' => e = .returned (acc 3 true 256 2 4660) ∧ Below w.heap.size w w' := by
  go_enter Try.func12, Try.ntmps12
  go_wp2_with fail
  refine bodyPost_ret (v := acc 3 true 256 2 4660) ?_ rfl ⟨rfl, by repeat (first | exact (Below.refl _ _).alloc (Nat.le_refl _) _ | refine Below.setCell ?_ (by simp) _)⟩
  simp [results, Try.results12, go_sem]
theorem Deny_any (w : World) : Calls Try.prog 23 #[] w fun e w' => e = .returned (.agg #[.int .u32 0, .int .i64 10]) ∧ Below w.heap.size w w' := by
  go_enter Try.func23, Try.ntmps23
  go_wp2_with fail
  refine bodyPost_ret (v := .agg #[.int .u32 0, .int .i64 10]) ?_ rfl ⟨rfl, by repeat (first | exact (Below.refl _ _).alloc (Nat.le_refl _) _ | refine Below.setCell ?_ (by simp) _)⟩
  simp [results, Try.results23, go_sem]
theorem Done_any (v : Int) (w : World) : Calls Try.prog 24 #[.int .u32 v] w fun e w' => e = .returned (.agg #[.int .u32 v, .int .i64 0]) ∧ Below w.heap.size w w' := by
  go_enter Try.func24, Try.ntmps24
  go_wp2_with fail
  refine bodyPost_ret (v := .agg #[.int .u32 v, .int .i64 0]) ?_ rfl ⟨rfl, by repeat (first | exact (Below.refl _ _).alloc (Nat.le_refl _) _ | refine Below.setCell ?_ (by simp) _)⟩
  simp [results, Try.results24, go_sem]

theorem wf_u8 {c : Int} (h : 0 ≤ c ∧ c < 256) : (Lit.int .u8 c).wf = true := by
  have e1 : IntKind.u8.min = 0 := rfl
  have e2 : IntKind.u8.max = 255 := rfl
  unfold Lit.wf
  simp [e1, e2]
  omega
/-- An own row of bytes reads as its numbers. -/
theorem row_own {w : World} {b n c : Nat} {a : Option Addr} {l : List Int} (h : w.ownsRow b 5 1 (.slice a n c) n (bv l)) (hb : ∀ x ∈ l, 0 ≤ x ∧ x < 256) : Row .u8 w a n l := by
  have hl : l.length = n := by have := h.1; simpa [bv] using this
  refine ⟨hl, Nat.le_trans (KitBytes.r_le h) (KitBytes.r_max h), fun x hx => wf_u8 (hb x hx), ?_⟩
  rcases Nat.eq_zero_or_pos n with h0 | h0
  · exact .inl h0
  · obtain ⟨g, rfl⟩ := KitBytes.r_some h (.inl h0)
    exact .inr ⟨g, 0, rfl, (KitBytes.r_lt h g ⟨_, rfl, rfl⟩).2, rec_at h hl⟩
theorem same_lit (g g' n c c' : Nat) (l : List Int) (w : World) (hn : n ≤ 1000000) (hl : l.length = n) (h : ∀ i, i < n → w.cell? ⟨g, 0 + i, none⟩ = some (.int .u8 (l.getD i 0))) (h' : ∀ i, i < n → w.cell? ⟨g', 0 + i, none⟩ = some (.int .u8 (l.getD i 0))) :
    Calls Try.prog 18 #[.slice (some ⟨g, 0, none⟩) n c, .slice (some ⟨g', 0, none⟩) n c'] w fun e w' => e = .returned (.bool true) ∧ Below w.heap.size w w' := by
  refine (same_bytes g 0 g' 0 n c c' l l w (by omega) hl hl h h').mono ?_
  rintro e w' ⟨rfl, j, rfl⟩
  exact ⟨Word.ret_bool (eqB_refl _), below_drewN (Below.refl _ _) j⟩
theorem lit_at (w : World) (l : List Int) (cs : Array Value) (t : TypeId) (n : Nat) (hc : cs = (bv l).toArray) (hl : l.length = n) : ∀ i, i < n → (w.alloc (.cells cs t)).cell? ⟨w.heap.size, 0 + i, none⟩ = some (.int .u8 (l.getD i 0)) := by
  intro i hi
  rw [Nat.zero_add, World.cell?_alloc_at _ _ _ _ rfl, hc]
  simp [bv, List.getD_eq_getElem?_getD, show i < l.length by omega]
theorem exL_enc : Enc true 3 true 256 2 4660 12 [3, 3, 0, 0, 0, 1, 0, 0, 52, 18, 0, 0] 0 := .inl ⟨rfl, rfl, by decide, rfl⟩
theorem exL_right : rightB 3 true 256 2 4660 = true := by decide
theorem exL_dec : Dec 12 [3, 3, 0, 0, 0, 1, 0, 0, 52, 18, 0, 0] 3 true 256 2 4660 0 := .inr (.inr (.inr ⟨rfl, by decide, by decide, by decide, by decide, by decide, by decide, rfl⟩))
theorem exL_bd : ∀ x ∈ [(3 : Int), 3, 0, 0, 0, 1, 0, 0, 52, 18, 0, 0], 0 ≤ x ∧ x < 256 := by decide
set_option maxRecDepth 100000 in
set_option maxHeartbeats 2000000 in
theorem awake_any (w : World) : Calls Try.prog 9 #[] w fun e w' => e = .returned (.bool true) ∧ Below w.heap.size w w' := by
  go_enter Try.func9, Try.ntmps9
  go_wp2_with fail
  refine (example_any _).mono ?_
  rintro e w1 ⟨rfl, hb⟩
  have B1 := Lib.hid hb
  clear hb
  go_wp2_with fail
  refine (Encode_any 3 true 256 2 4660 true 12 _ 0 _ (by omega) (by omega) (by omega) (by omega) exL_right exL_enc).mono ?_
  rintro e w2 ⟨a, c, rfl, hown, hb⟩
  obtain ⟨g, rfl⟩ := KitBytes.r_some hown (.inl (by omega))
  have O2 := Lib.hid hown
  have B2 := Lib.hid (B1.out.trans (hb.mono B1.out.size))
  clear hown hb B1
  go_wp2_with fail
  refine (Decode_any _ 12 c _ 3 true 256 2 4660 0 _ (row_own O2.out exL_bd) (KitBytes.r_le O2.out) exL_dec).mono ?_
  rintro e w3 ⟨rfl, hb⟩
  have O3 := Lib.hid (bown_below O2.out hb)
  have B3 := Lib.hid (B2.out.trans (hb.mono B2.out.size))
  clear hb O2 B2
  go_wp2_with fail
  refine code_letter ?_
  intro W hW
  have F := Lib.hid (show Five W w3.heap.size 3 true 256 2 4660 by rw [hW.out]; exact five_new w3 _ _ _ _ _ _)
  have O := Lib.hid (show W.ownsRow w1.heap.size 5 1 (.slice (some ⟨g, 0, none⟩) 12 c) 12 (bv [3, 3, 0, 0, 0, 1, 0, 0, 52, 18, 0, 0]) by rw [hW.out]; exact bown_below O3.out ((Below.refl _ _).alloc (Nat.le_refl _) _))
  have B := Lib.hid (show Below w.heap.size w W by rw [hW.out]; exact B3.out.alloc B3.out.size _)
  obtain ⟨b, hb⟩ : ∃ b, w3.heap.size = b := ⟨_, rfl⟩
  rw [hb] at F
  rw [hb]
  clear hW O3 B3 hb
  obtain ⟨k0, k1, k2, k3, k4⟩ := F.out
  go_region_with ((first
    | (go_at_call 12; refine (example_any _).mono ?_; rintro e w5 ⟨rfl, hb⟩; have O5 := Lib.hid (bown_below O.out ((Below.refl _ _).drew.trans hb)); have B5 := Lib.hid (B.out.trans (((Below.refl _ _).drew.trans hb).mono B.out.size)); have k0 := cell_keep ((Below.refl _ _).drew.trans hb) F.out.c0; have k1 := cell_keep ((Below.refl _ _).drew.trans hb) F.out.c1; have k2 := cell_keep ((Below.refl _ _).drew.trans hb) F.out.c2; have k3 := cell_keep ((Below.refl _ _).drew.trans hb) F.out.c3; have k4 := cell_keep ((Below.refl _ _).drew.trans hb) F.out.c4)
    | (go_at_call 18; refine (same_lit g _ 12 c 12 [3, 3, 0, 0, 0, 1, 0, 0, 52, 18, 0, 0] _ (by omega) rfl (rec_at (bown_below O5.out ((Below.refl _ _).alloc (Nat.le_refl _) _)) rfl) (lit_at _ _ _ _ 12 rfl rfl)).mono ?_; rintro e w6 ⟨rfl, hb6⟩; have B6 := Lib.hid ((B5.out.alloc B5.out.size _).trans (hb6.mono (B5.out.alloc B5.out.size _).size)))
    | (go_at_call 14; with_reducible refine (Right_any 0 false 0 4 1 false _ (by omega) (by omega) (by omega) (by omega) (by decide)).mono ?_; rintro e w7 ⟨rfl, hb7⟩; have B7 := Lib.hid (B6.out.trans (hb7.mono B6.out.size)))
    | (go_at_call 14; with_reducible refine (Right_any 0 false 0 4 0 true _ (by omega) (by omega) (by omega) (by omega) (by decide)).mono ?_; rintro e w8 ⟨rfl, hb8⟩; have B8 := Lib.hid (B7.out.trans (hb8.mono B7.out.size)))
    | (go_at_call 23; refine (Deny_any _).mono ?_; rintro e w9 ⟨rfl, hb9⟩; have B9 := Lib.hid (B8.out.trans (hb9.mono B8.out.size)))
    | (go_at_call 24; refine (Done_any 7 _).mono ?_; rintro e w10 ⟨rfl, hb10⟩; have B10 := Lib.hid (B9.out.trans (hb10.mono B9.out.size)))))
  all_goals
    go_wp2_with fail
    go_ret
    exact ⟨rfl, B10.out⟩
end Go.Proofs.Ytblccnpdcnlhiaa.Access
