/- same: a mailbox is the document's. -/
import Derived.Test.YtkcghcoacjpbkaaJp
namespace Go.Proofs.Ytkcghcoacjpbkaa.Mbox
open Go.RowKit Go.Maps Go.ChangeShapes Go.WideShapes Go.ChangeAt Fifo Orow Word OffL
set_option linter.unusedVariables false

set_option maxRecDepth 100000 in
set_option maxHeartbeats 8000000 in
theorem same_pair (K : Nat → Prop) (b r : Nat) (u : Bx) (w : World) (h : PairX K w b r u u) :
    Calls Try.prog 15 #[.pointer (some ⟨b, 0, none⟩), .pointer (some ⟨r, 0, none⟩)] w fun e w' => e = .returned (.bool true) ∧ Below w.heap.size w w' := by
  have HST := Lib.hid (state_pair K b r _ _ w h)
  obtain ⟨O, P, hU, ⟨va, hr, hP⟩, _⟩ := h
  obtain ⟨ra, rc, hva⟩ := hr.row.shape
  subst hva
  obtain ⟨Ws, C, L⟩ := u
  have ok1 := hr.ok.w.2
  obtain ⟨n, hn⟩ : ∃ n, Ws.length = n := ⟨_, rfl⟩
  have HD := hr.head
  have F1 := hr.row
  simp only [lvl, hn] at HD F1 ok1
  have HD := Lib.hid HD
  have F1 := Lib.hid F1
  have Hn := Lib.hid hn
  have HU := Lib.hid hU
  have HR := Lib.hid (show RefB w r ⟨Ws, C, L⟩ P from ⟨_, hr, hP⟩)
  clear hU hr hP hn
  go_enter Try.func15, Try.ntmps15
  go_wp2_with fail
  refine HST.out.mono ?_
  rintro e w1 ⟨⟨a1, c1, rfl, ho1⟩, hb⟩
  have O1 := Lib.hid hb
  simp only [Hn.out] at ho1 ⊢
  have R1 := Lib.hid ho1
  obtain ⟨g, hg⟩ : ∃ g, w1.heap.size = g := ⟨_, rfl⟩
  clear ho1 hb HST
  go_wp2_with (with_reducible refine at_store _ _ _ rfl ?_)
  refine Lib.hid ?_
  have hnew := Blk.new w1 37 [.slice none 0 0, .int .u32 0, .int .u32 0]
  rw [hg] at hnew
  refine store_all rfl _ _ _ rfl g [.slice a1 n c1, .int .u32 C, .int .u32 L] rfl rfl _ _ hnew (by kernel_rfl) rfl (by simp [Value.oneCell']) ?_
  intro X hX hoX
  have hal := (Below.refl w1.heap.size w1).alloc (Nat.le_refl _) (.cells #[.slice none 0 0, .int .u32 0, .int .u32 0] 37)
  have hbX : Below w1.heap.size w1 X := hal.trans (hoX.below hal.size (fun j e => by rw [e, ← hg]; exact Nat.le_refl _))
  have OX := Lib.hid (O1.out.trans (hbX.mono O1.out.size))
  have RX1 := own_keep R1.out hbX
  clear hoX hal hbX hnew hg
  go_wp2_with fail
  try simp only [Act.put]
  refine wp_region_ext (by kernel_rfl) (by kernel_rfl) ?_
  intro W hW
  obtain rfl : W = X := hW.out
  clear hW
  have BE : ∀ p, Below W.heap.size W (ext W p) := fun p => ext_below W p
  have HB : ∀ p, Box (ext W p) b ⟨Ws, C, L⟩ O := fun p => (HU.out.keep OX.out).keep (BE p)
  have HRf : ∀ p, RefB (ext W p) r ⟨Ws, C, L⟩ P := fun p => (HR.out.keep OX.out).keep (BE p)
  have S1 := Lib.hid (fun p => same_off (own_keep RX1 (BE p)) ((F1.out.keep OX.out).keep (BE p)) Hn.out (by omega))
  have L1 := Lib.hid (fun p => Line_any b _ O (ext W p) (HB p))
  have L2 := Lib.hid (fun p => rLine_any r _ P (ext W p) (HRf p))
  have Q1 := Lib.hid (fun p => Read_quiet b _ O 1 (ext W p) ⟨by omega, by omega⟩ (by decide) (HB p))
  have Q2 := Lib.hid (fun p => Read_quiet b _ O 2 (ext W p) ⟨by omega, by omega⟩ (by decide) (HB p))
  have Q3 := Lib.hid (fun p => Read_quiet b _ O 3 (ext W p) ⟨by omega, by omega⟩ (by decide) (HB p))
  have R1' := Lib.hid (fun p => rRead_1 r _ P (ext W p) (HRf p))
  have R2' := Lib.hid (fun p => rRead_2 r _ P (ext W p) (HRf p))
  have R3' := Lib.hid (fun p => rRead_3 r _ P (ext W p) (HRf p))
  simp only [read_1, read_2, read_3, Hn.out] at Q1 Q2 Q3 R1' R2' R3'
  obtain ⟨ln, hln⟩ : ∃ v, lineX ⟨Ws, C, L⟩ = v := ⟨_, rfl⟩
  rw [hln] at L1 L2
  have d0 := ext_cell (hX.at 0 rfl)
  have d1 := ext_cell (hX.at 1 rfl)
  have d2 := ext_cell (hX.at 2 rfl)
  have HDW := HD.out.keep OX.out
  have q0 := ext_cell (HDW.at 0 rfl)
  have q1 := ext_cell (HDW.at 1 rfl)
  have q2 := ext_cell (HDW.at 2 rfl)
  have y1 : (C == C) = true := by simp
  have y2 : (L == L) = true := by simp
  have y3 : (ln == ln) = true := by simp
  have y4 : ((n : Int) == (n : Int)) = true := by simp
  clear hX RX1 hln HDW BE HB HRf HD F1 HU HR R1 O1
  repeat (go_big_quiet_step ((first
    | (go_at_call 19; with_reducible exact ext_of (S1.out _))
    | (go_at_call 18; with_reducible exact ext_of (L1.out _))
    | (go_at_call 27; with_reducible exact ext_same (L2.out _))
    | (go_at_call 10; first | with_reducible exact ext_of (Q1.out _) | with_reducible exact ext_of (Q2.out _) | with_reducible exact ext_of (Q3.out _))
    | (go_at_call 11; first | with_reducible exact ext_same (R1'.out _) | with_reducible exact ext_same (R2'.out _) | with_reducible exact ext_same (R3'.out _)))))
  refine wpQuiet_nil ?_
  intro w' hw'
  obtain ⟨p, rfl⟩ := hw'
  go_wp2_with fail
  go_ret
  exact ⟨rfl, OX.out.trans ((ext_below W p).mono OX.out.size)⟩
end Go.Proofs.Ytkcghcoacjpbkaa.Mbox
