/- Package device: copies of its parts; what each has, as words. -/
import Derived.Test.YtknhgfofmkpnfaaGreatS5wc
import Derived.Test.YtknhgfofmkpnfaaGreatBn
import Derived.LoopN
import Derived.Maps.AppendAt
namespace Go.Proofs.YtknhgfofmkpnfaaGreat.Devs
set_option linter.unusedSectionVars false
variable [Inhabited Lane.OTab]
open Go.RowKit Go.Maps Go.ChangeShapes Go.WideShapes Go.ChangeAt Fifo Orow Word
set_option linter.unusedVariables false

theorem ofS_self {s : Timer.St} (h : Timer.OkS s ∧ s.K < 8) : Timer.ofS s = s := by
  have h0 := h.1.k.1
  have h1 := h.2
  obtain ⟨C, L, K, H⟩ := s
  show Timer.St.mk C L (K % 8) H = _
  have h0 : 0 ≤ K := h0
  have h1 : K < 8 := h1
  rw [Int.emod_eq_of_lt h0 h1]
theorem ofE_self {e : Dma.En} (h : Dma.InvE e) : Dma.ofE e = e := by
  have a := h.a
  have b := h.b
  have c := h.c
  obtain ⟨F, T, L, H, has, busy, den, don, cal⟩ := e
  simp only at a b c
  unfold Dma.ofE
  cases busy
  · cases has
    · simp at b ⊢
      exact b.symm
    · simp at a
  · have hL : decide (0 < L) = true := decide_eq_true (c rfl)
    cases has
    · simp [hL] at b ⊢
      exact b.symm
    · simp [hL]
/-- What a look answers. -/
def Looked (w w' : World) (z : Ending) (l : List Int) : Prop := ∃ a c, z = .returned (.slice a l.length c) ∧ w'.ownsRow w.heap.size 23 1 (.slice a l.length c) l.length (Mbox.lv l)
theorem tim_apart (m : Nat) (s : Timer.St) (Q : Nat → Prop) (w : World) (h : ObjAt w m (.tim s) Q) :
    Calls Tryz.prog 124 #[.agg #[ptr m]] w fun z w' => NewObj w w' z (.tim s) ∧ Below w.heap.size w w' := by
  have H := Lib.hid h
  have Hok := Lib.hid (show Timer.OkS s ∧ s.K < 8 from h.ok)
  clear h
  go_enter Tryz.func124, Tryz.ntmps124
  go_wp2_with fail
  refine (Timer.State_any m s Q _ (H.out.keep ((Below.refl _ _).alloc (Nat.le_refl _) _))).mono ?_
  rintro z w1 ⟨rfl, hb⟩
  have B1 := Lib.hid (((Below.refl w.heap.size w).alloc (Nat.le_refl _) _).trans (hb.mono (by simp)))
  clear hb
  go_wp2_with fail
  refine (Timer.Of_any s _ Hok.out.1).mono ?_
  rintro z w2 ⟨⟨c, O, rfl, hc, hn⟩, hb⟩
  rw [ofS_self Hok.out] at hc
  have HC := Lib.hid hc
  have HN := Lib.hid (show ∀ j, O j → w.heap.size ≤ j from fun j hj => Nat.le_trans B1.out.size (hn j hj))
  have B2 := Lib.hid (B1.out.trans (hb.mono B1.out.size))
  clear hc hn hb
  go_wp2_with fail
  refine (regs_tim c w2).mono ?_
  rintro z w3 ⟨rfl, hb⟩
  have H3 := Lib.hid (show ObjAt w3 c (.tim s) O from ObjAt.keep (d := .tim s) HC.out hb)
  have B3 := Lib.hid (B2.out.trans (hb.mono B2.out.size))
  clear hb
  go_wp2_with fail
  go_ret
  exact ⟨⟨c, O, rfl, H3.out, HN.out⟩, B3.out⟩
theorem eng_apart (m : Nat) (e : Dma.En) (Q : Nat → Prop) (w : World) (h : ObjAt w m (.eng e) Q) :
    Calls Tryz.prog 285 #[.agg #[ptr m]] w fun z w' => NewObj w w' z (.eng e) ∧ Below w.heap.size w w' := by
  have H := Lib.hid h
  have Hok := Lib.hid (show Dma.OkE e ∧ Dma.InvE e from h.ok)
  clear h
  go_enter Tryz.func285, Tryz.ntmps285
  go_wp2_with fail
  refine (Dma.State_any m e Q _ (H.out.keep ((Below.refl _ _).alloc (Nat.le_refl _) _))).mono ?_
  rintro z w1 ⟨rfl, hb⟩
  have B1 := Lib.hid (((Below.refl w.heap.size w).alloc (Nat.le_refl _) _).trans (hb.mono (by simp)))
  clear hb
  go_wp2_with fail
  refine (Dma.Of_any e _ Hok.out.1).mono ?_
  rintro z w2 ⟨⟨c, O, rfl, hc, hn⟩, hb⟩
  rw [ofE_self Hok.out.2] at hc
  have HC := Lib.hid hc
  have HN := Lib.hid (show ∀ j, O j → w.heap.size ≤ j from fun j hj => Nat.le_trans B1.out.size (hn j hj))
  have B2 := Lib.hid (B1.out.trans (hb.mono B1.out.size))
  clear hc hn hb
  go_wp2_with fail
  refine (regs_eng c w2).mono ?_
  rintro z w3 ⟨rfl, hb⟩
  have H3 := Lib.hid (show ObjAt w3 c (.eng e) O from ObjAt.keep (d := .eng e) HC.out hb)
  have B3 := Lib.hid (B2.out.trans (hb.mono B2.out.size))
  clear hb
  go_wp2_with fail
  go_ret
  exact ⟨⟨c, O, rfl, H3.out, HN.out⟩, B3.out⟩
theorem uar_apart (m : Nat) (u : Uart.Un) (Q : Nat → Prop) (w : World) (h : ObjAt w m (.uar u) Q) :
    Calls Tryz.prog 145 #[.agg #[ptr m]] w fun z w' => NewObj w w' z (.uar u) ∧ Below w.heap.size w w' := by
  have H := Lib.hid h
  clear h
  go_enter Tryz.func145, Tryz.ntmps145
  go_wp2_with fail
  refine (Uart.Copy_any m u Q _ (H.out.keep ((Below.refl _ _).alloc (Nat.le_refl _) _))).mono ?_
  rintro z w2 ⟨⟨c, O, rfl, hc, hn⟩, hb⟩
  have HC := Lib.hid hc
  have HN := Lib.hid (show ∀ j, O j → w.heap.size ≤ j from fun j hj => by have := hn j hj; simp at this; omega)
  have B2 := Lib.hid (((Below.refl w.heap.size w).alloc (Nat.le_refl _) _).trans (hb.mono (by simp)))
  clear hc hn hb
  go_wp2_with fail
  refine (regs_uar c w2).mono ?_
  rintro z w3 ⟨rfl, hb⟩
  have H3 := Lib.hid (show ObjAt w3 c (.uar u) O from ObjAt.keep (d := .uar u) HC.out hb)
  have B3 := Lib.hid (B2.out.trans (hb.mono B2.out.size))
  clear hb
  go_wp2_with fail
  go_ret
  exact ⟨⟨c, O, rfl, H3.out, HN.out⟩, B3.out⟩
theorem box_apart (m : Nat) (x : Mbox.Bx) (Q : Nat → Prop) (w : World) (h : ObjAt w m (.box x) Q) :
    Calls Tryz.prog 228 #[.agg #[ptr m]] w fun z w' => NewObj w w' z (.box x) ∧ Below w.heap.size w w' := by
  have H := Lib.hid h
  clear h
  go_enter Tryz.func228, Tryz.ntmps228
  go_wp2_with fail
  refine (Mbox.Copy_any m x Q _ (H.out.keep ((Below.refl _ _).alloc (Nat.le_refl _) _))).mono ?_
  rintro z w2 ⟨⟨c, O, rfl, hc, hn⟩, hb⟩
  have HC := Lib.hid hc
  have HN := Lib.hid (show ∀ j, O j → w.heap.size ≤ j from fun j hj => by have := hn j hj; simp at this; omega)
  have B2 := Lib.hid (((Below.refl w.heap.size w).alloc (Nat.le_refl _) _).trans (hb.mono (by simp)))
  clear hc hn hb
  go_wp2_with fail
  refine (regs_box c w2).mono ?_
  rintro z w3 ⟨rfl, hb⟩
  have H3 := Lib.hid (show ObjAt w3 c (.box x) O from ObjAt.keep (d := .box x) HC.out hb)
  have B3 := Lib.hid (B2.out.trans (hb.mono B2.out.size))
  clear hb
  go_wp2_with fail
  go_ret
  exact ⟨⟨c, O, rfl, H3.out, HN.out⟩, B3.out⟩
theorem rot_apart (m : Nat) (s : Rotor.RS) (Q : Nat → Prop) (w : World) (h : ObjAt w m (.rot s) Q) :
    Calls Tryz.prog 263 #[.agg #[ptr m]] w fun z w' => NewObj w w' z (.rot s) ∧ Below w.heap.size w w' := by
  have H := Lib.hid h
  clear h
  go_enter Tryz.func263, Tryz.ntmps263
  go_wp2_with fail
  refine (Rotor.Copy_any m s Q _ (H.out.keep ((Below.refl _ _).alloc (Nat.le_refl _) _))).mono ?_
  rintro z w2 ⟨⟨c, O, rfl, hc, hn⟩, hb⟩
  have HC := Lib.hid hc
  have HN := Lib.hid (show ∀ j, O j → w.heap.size ≤ j from fun j hj => by have := hn j hj; simp at this; omega)
  have B2 := Lib.hid (((Below.refl w.heap.size w).alloc (Nat.le_refl _) _).trans (hb.mono (by simp)))
  clear hc hn hb
  go_wp2_with fail
  refine (regs_rot c w2).mono ?_
  rintro z w3 ⟨rfl, hb⟩
  have H3 := Lib.hid (show ObjAt w3 c (.rot s) O from ObjAt.keep (d := .rot s) HC.out hb)
  have B3 := Lib.hid (B2.out.trans (hb.mono B2.out.size))
  clear hb
  go_wp2_with fail
  go_ret
  exact ⟨⟨c, O, rfl, H3.out, HN.out⟩, B3.out⟩
theorem ram_apart (m : Nat) (bs : List Int) (Q : Nat → Prop) (w : World) (h : ObjAt w m (.ram bs) Q) :
    Calls Tryz.prog 185 #[.agg #[ptr m]] w fun z w' => NewObj w w' z (.ram bs) ∧ Below w.heap.size w w' := by
  have H := Lib.hid h
  clear h
  go_enter Tryz.func185, Tryz.ntmps185
  go_wp2_with fail
  refine (Ram.Copy_any m bs Q _ (H.out.keep ((Below.refl _ _).alloc (Nat.le_refl _) _))).mono ?_
  rintro z w2 ⟨⟨c, O, rfl, hc, hn⟩, hb⟩
  have HC := Lib.hid hc
  have HN := Lib.hid (show ∀ j, O j → w.heap.size ≤ j from fun j hj => by have := hn j hj; simp at this; omega)
  have B2 := Lib.hid (((Below.refl w.heap.size w).alloc (Nat.le_refl _) _).trans (hb.mono (by simp)))
  clear hc hn hb
  have H3 := HC
  have B3 := B2
  go_wp2_with fail
  go_ret
  exact ⟨⟨c, O, rfl, H3.out, HN.out⟩, B3.out⟩
theorem lv_len (l : List Int) : (Mbox.lv l).length = l.length := by simp [Mbox.lv]
theorem looked_new {w W : World} {l : List Int} {t : Array Value} {g : Nat} (hg : W.heap.size = g) (hb : Below w.heap.size w W) (ht : t = (Mbox.lv l).toArray) (hl : l.length ≤ 1000) : Looked w (W.alloc (.cells t 23)) (.returned (.slice (some ⟨g, 0, none⟩) l.length l.length)) l := by
  subst ht
  subst hg
  exact ⟨_, _, rfl, blk_own (Blk.new W 23 (Mbox.lv l)) (by rw [Nat.mul_one, ← lv_len l, List.take_length]) (by rw [lv_len, Nat.mul_one]) (Nat.le_refl _) (by unfold maxLen; omega) hb.size⟩
theorem tim_look (m : Nat) (s : Timer.St) (Q : Nat → Prop) (w : World) (h : ObjAt w m (.tim s) Q) :
    Calls Tryz.prog 126 #[.agg #[ptr m]] w fun z w' => Looked w w' z (lookD (.tim s)) ∧ Below w.heap.size w w' := by
  have H := Lib.hid h
  clear h
  obtain ⟨C, L, K, Ht⟩ := s
  go_enter Tryz.func126, Tryz.ntmps126
  go_wp2_with fail
  refine (Timer.State_any m _ Q _ (H.out.keep ((Below.refl _ _).alloc (Nat.le_refl _) _))).mono ?_
  rintro z w1 ⟨rfl, hb⟩
  have B1 := Lib.hid (((Below.refl w.heap.size w).alloc (Nat.le_refl _) _).trans (hb.mono (by simp)))
  clear hb
  go_wp2_with fail
  go_ret
  exact ⟨looked_new (l := lookD (.tim ⟨C, L, K, Ht⟩)) (by simp) (B1.out.alloc B1.out.size _) rfl (by simp [lookD]), (B1.out.alloc B1.out.size _).alloc (by have := B1.out.size; simp; omega) _⟩
theorem rot_look (m : Nat) (s : Rotor.RS) (Q : Nat → Prop) (w : World) (h : ObjAt w m (.rot s) Q) :
    Calls Tryz.prog 265 #[.agg #[ptr m]] w fun z w' => Looked w w' z (lookD (.rot s)) ∧ Below w.heap.size w w' := by
  have H := Lib.hid h
  clear h
  go_enter Tryz.func265, Tryz.ntmps265
  go_wp2_with fail
  refine (Rotor.State_any m _ Q _ (H.out.keep ((Below.refl _ _).alloc (Nat.le_refl _) _))).mono ?_
  rintro z w1 ⟨rfl, hb⟩
  have B1 := Lib.hid (((Below.refl w.heap.size w).alloc (Nat.le_refl _) _).trans (hb.mono (by simp)))
  clear hb
  go_wp2_with fail
  go_ret
  exact ⟨looked_new (l := lookD (.rot s)) rfl B1.out rfl (by simp [lookD]), B1.out.alloc B1.out.size _⟩
end Go.Proofs.YtknhgfofmkpnfaaGreat.Devs
