/- Package ram's contracts: Len, Reset, Read. -/
import Derived.Test.YtffjnahcdgpklaaDoorMu
namespace Go.Proofs.YtffjnahcdgpklaaDoor.Ram
open Go.RowKit Go.Maps Go.ChangeShapes Go.WideShapes Go.ChangeAt Fifo Orow Word
open Lane (takeV putV alB)
set_option linter.unusedVariables false

theorem quo_4 (o : Nat) (h : o < 4096) : wrap64 ((o : Int) / 4) = ((o / 4 : Nat) : Int) := by
  rw [IntWalk.wrap64_in _ (by omega)]
  omega
theorem clear_nil (w : World) (ty : TypeId) : (Builtin.clear_ #[48] ty #[.slice none 0 0]).run Tryd.prog w = .ok (.tuple #[]) w := by
  simp [Builtin.clear_, run_underlying Tryd.underlying48, go_sem]
theorem told_take (g n c o : Nat) (size v x : Int) (is : Bool) (w : World) (hn : n ≤ 1024) (ho : o < 4 * n) (hc : w.cell? ⟨g, o / 4, none⟩ = some (.int .u32 v)) (hv : 0 ≤ v) (hv' : v < 4294967296) (ht : Lane.Tab w) (hx : takeV v o size = x) (hb : alB o size = is) :
    Calls Tryd.prog 37 #[.slice (some ⟨g, 0, none⟩) n c, .int .i64 o, .func (.func 38) #[.agg #[.int .i64 o, .int .i64 size]] #[]] w fun e w' => e = .returned (.tuple #[.int .u32 x, .bool is]) ∧ Below w.heap.size w w' := by
  have H := Lib.hid (has_w (some ⟨g, 0, none⟩) n c o true w hn (decide_eq_true (by omega)))
  have T := Lib.hid (taken_w o size v x is w (by omega) hv hv' ht hx hb)
  have hq := quo_4 o (by omega)
  obtain ⟨q, hq0⟩ : ∃ q, o / 4 = q := ⟨_, rfl⟩
  rw [hq0] at hq hc
  have i1 : (0 : Int) ≤ (q : Int) := by omega
  have i2 : (q : Int) < (n : Int) := by omega
  clear hx hb ht hv hv' hq0 ho
  go_enter Tryd.func37, Tryd.ntmps37
  go_wp2_with fail
  refine H.out.mono ?_
  rintro e w1 ⟨rfl, rfl⟩
  go_wp2_with fail
  refine T.out.mono ?_
  rintro e w1 ⟨rfl, hb⟩
  have Hb := Lib.hid hb
  clear hb
  go_wp2_with fail
  go_ret2
  exact ⟨rfl, Hb.out⟩
theorem Len_any (b : Nat) (bs : List Int) (O : Nat → Prop) (w : World) (h : Mem w b bs O) :
    Calls Tryd.prog 17 #[.pointer (some ⟨b, 0, none⟩)] w fun e w' => e = .returned (.int .i64 (bs.length : Nat)) ∧ Below w.heap.size w w' := by
  obtain ⟨g, c, h, _⟩ := h
  have h4 := h.ok.four
  have h5 := h.ok.hi
  have c0 := h.head.at 0 rfl
  have M := Lib.hid (memory_yes b w (h.head.at 1 rfl))
  have S := Lib.hid (size_w (some ⟨g, 0, none⟩) (bs.length / 4) c w (by omega))
  rw [show ((bs.length : Nat) : Int) = 4 * ((bs.length / 4 : Nat) : Int) by omega]
  clear h h4 h5
  go_enter Tryd.func17, Tryd.ntmps17
  go_wp2_with fail
  refine M.out.mono ?_
  rintro e w1 ⟨rfl, rfl⟩
  go_wp2_with fail
  refine S.out.mono ?_
  rintro e w1 ⟨rfl, rfl⟩
  go_wp2_with fail
  go_ret
  exact ⟨rfl, Below.refl _ _⟩
theorem Len_non (v : Value) (w : World) (h : Non w v) :
    Calls Tryd.prog 17 #[v] w fun e w' => e = .returned (.int .i64 0) ∧ Below w.heap.size w w' := by
  have M := Lib.hid (memory_non v w h)
  have S := Lib.hid (fun w => size_w none 0 0 w (by omega))
  clear h
  go_enter Tryd.func17, Tryd.ntmps17
  go_wp2_with fail
  refine M.out.mono ?_
  rintro e w1 ⟨⟨b, rfl, hz⟩, hb⟩
  have c0 := Blk.at hz 0 rfl
  have Hb := Lib.hid hb
  clear hb hz
  go_wp2_with fail
  refine (S.out _).mono ?_
  rintro e w2 ⟨rfl, rfl⟩
  go_wp2_with fail
  go_ret
  exact ⟨rfl, Hb.out⟩
theorem reset_none (w : World) :
    Calls Tryd.prog 27 #[.slice none 0 0] w fun e w' => e = .returned (.tuple #[]) ∧ w = w' := by
  have hc := fun ty => clear_nil w ty
  go_enter Tryd.func27, Tryd.ntmps27
  go_wp2_with fail
  go_end0
  exact ⟨rfl, rfl⟩
theorem info_w : (Tryd.prog.info? 31).map (fun i => (i.zero, i.size, i.bytes)) = some (some (.int .u32 0), 1, 4) := by kernel_rfl
theorem zero_w (w : World) : (zeroValue 31).run Tryd.prog w = .ok (.int .u32 0) w := by
  obtain ⟨i0, hi, hz0, hz1, hz2⟩ := info_parts info_w
  simp [zeroValue, typeInfo, hi, hz0]
/-- Cells of a block that is known are stored. -/
theorem set_cells {g : Nat} {t : TypeId} : ∀ (vs : List Value) (o : Nat) (w : World) (cur : List Value), Blk w g t cur → o + vs.length ≤ cur.length → Blk (w.setCells g o vs) g t (cur.take o ++ vs ++ cur.drop (o + vs.length)) ∧ Only (fun j => j = g) w (w.setCells g o vs) := by
  intro vs
  induction vs with
  | nil => intro o w cur h _; exact ⟨by simpa [World.setCells] using h, Only.refl _ _⟩
  | cons v r ih =>
    intro o w cur h hl
    simp only [List.length_cons] at hl
    obtain ⟨h1, h2⟩ := ih (o + 1) _ _ (h.set o v) (by rw [List.length_set]; omega)
    rw [World.setCells]
    refine ⟨?_, ((Only.refl (fun j => j = g) w).setCell (p := ⟨g, o, none⟩) rfl v).trans h2⟩
    have e : (cur.set o v).take (o + 1) ++ r ++ (cur.set o v).drop (o + 1 + r.length) = cur.take o ++ v :: r ++ cur.drop (o + (v :: r).length) := by
      rw [List.take_add_one, List.take_set_of_le (Nat.le_refl _), List.getElem?_set_self (by omega), List.drop_set_of_lt (by omega), List.length_cons, show o + 1 + r.length = o + (r.length + 1) by omega]
      simp
    rw [e] at h1
    exact h1
theorem reset_w (g n c : Nat) (L : List Value) (w : World) (hn : 0 < n) (hl : L.length = n) (h : w.ownsRow 0 31 1 (.slice (some ⟨g, 0, none⟩) n c) n L) :
    Calls Tryd.prog 27 #[.slice (some ⟨g, 0, none⟩) n c] w fun e w' => e = .returned (.tuple #[]) ∧ w'.ownsRow 0 31 1 (.slice (some ⟨g, 0, none⟩) n c) n (List.replicate n (.int .u32 0)) ∧ Only (fun j => j = g) w w' := by
  have q1 : ∀ j, j < n → (w.cell? ⟨g, 0 + j, none⟩).isSome = true := fun j hj => by
    have := own_cells h _ rfl j _ (List.getElem?_eq_getElem (by omega))
    rw [Go.WideShapes.add_plain] at this
    rw [this]; rfl
  obtain ⟨cur, u1, u2, u3, u4, u5, u6⟩ := own_blk h
  have hcl := fun ty => Lib.run_clear_slice w 48 31 ty (.int .u32 0) Tryd.underlying48 zero_w rfl rfl g 0 n c hn q1 (fun j _ => u1.frozen _)
  obtain ⟨k1, k2⟩ := set_cells (List.replicate n (.int .u32 0)) 0 w cur u1 (by rw [List.length_replicate]; omega)
  obtain ⟨X, hX⟩ : ∃ X, w.setCells g 0 (List.replicate n (.int .u32 0)) = X := ⟨_, rfl⟩
  rw [hX] at hcl k1 k2
  have K1 := Lib.hid k1
  have K2 := Lib.hid k2
  clear q1 k1 k2 hX u1 u2 h
  go_enter Tryd.func27, Tryd.ntmps27
  go_wp2_with fail
  go_end0
  refine ⟨rfl, blk_own K1.out ?_ ?_ u4 u5 u6, K2.out⟩
  · simp
  · simp; omega
theorem Reset_any (b : Nat) (bs : List Int) (O : Nat → Prop) (w : World) (h : Mem w b bs O) :
    Calls Tryd.prog 12 #[.pointer (some ⟨b, 0, none⟩)] w fun e w' => e = .returned (.tuple #[]) ∧ ∃ O', Mem w' b (zerosB bs.length) O' ∧ Only O w w' ∧ ∀ j, O' j → O j ∨ w.heap.size ≤ j := by
  obtain ⟨g, c, h, hO⟩ := h
  have h4 := h.ok.four
  have h5 := h.ok.lo
  have h6 := h.ok.hi
  have c0 := h.head.at 0 rfl
  have M := Lib.hid (memory_yes b w (h.head.at 1 rfl))
  have R := Lib.hid (reset_w g (bs.length / 4) c (wv bs) w (by omega) (wv_len _) h.row)
  have H := Lib.hid h
  have Hsz := Lib.hid (show sizeM (bs.length : Nat) = true from decide_eq_true (by omega))
  clear h h4 h5 h6
  go_enter Tryd.func12, Tryd.ntmps12
  go_wp2_with fail
  refine M.out.mono ?_
  rintro e w1 ⟨rfl, rfl⟩
  go_wp2_with fail
  refine R.out.mono ?_
  rintro e w2 ⟨rfl, k1, k2⟩
  have K1 := Lib.hid k1
  have K2 := Lib.hid k2
  clear k1 k2
  go_wp2_with fail
  go_end0
  refine ⟨rfl, O, ⟨g, c, ⟨?_, ?_, tab_only H.out.tab K2.out (fun e => H.out.ng e.symm), H.out.ne, H.out.nb, H.out.ng, okM_zeros Hsz.out⟩, hO⟩, K2.out.mono (fun j _ e => (hO j).2 (.inr e)), fun j hj => .inl hj⟩
  · rw [zeros_length]
    exact H.out.head.only K2.out H.out.ne
  · rw [zeros_length, wv_zeros]
    exact K1.out
theorem Reset_non (v : Value) (w : World) (h : Non w v) :
    Calls Tryd.prog 12 #[v] w fun e w' => e = .returned (.tuple #[]) ∧ Below w.heap.size w w' := by
  have M := Lib.hid (memory_non v w h)
  clear h
  go_enter Tryd.func12, Tryd.ntmps12
  go_wp2_with fail
  refine M.out.mono ?_
  rintro e w1 ⟨⟨b, rfl, hz⟩, hb⟩
  have c0 := Blk.at hz 0 rfl
  have Hb := Lib.hid hb
  clear hb hz
  go_wp2_with fail
  refine (reset_none _).mono ?_
  rintro e w2 ⟨rfl, rfl⟩
  go_wp2_with fail
  go_end0
  exact ⟨rfl, Hb.out⟩
theorem Read_any (b : Nat) (bs : List Int) (O : Nat → Prop) (off size v : Int) (is : Bool) (w : World) (h1 : I64 off) (h2 : I64 size) (h : Mem w b bs O) (hv : readV bs off size = v) (hb : placeB bs.length off size = is) :
    Calls Tryd.prog 20 #[.pointer (some ⟨b, 0, none⟩), .int .i64 off, .int .i64 size] w fun e w' => e = .returned (.tuple #[.int .u32 v, .bool is]) ∧ Below w.heap.size w w' := by
  have hmf : ∀ (fn : Fn) (first cap : Array Value) (w : World), (Instr.makeFunc fn first cap).run Tryd.prog w = .ok (.func fn first cap) w := fun _ _ _ _ => rfl
  obtain ⟨g, c, h, hO⟩ := h
  have h4 := h.ok.four
  have h5 := h.ok.lo
  have h6 := h.ok.hi
  obtain ⟨n, hn⟩ : ∃ n, bs.length / 4 = n := ⟨_, rfl⟩
  have T : ∀ W, Below w.heap.size w W → Calls Tryd.prog 37 #[.slice (some ⟨g, 0, none⟩) n c, .int .i64 off, .func (.func 38) #[.agg #[.int .i64 off, .int .i64 size]] #[]] W fun e w' => e = .returned (.tuple #[.int .u32 v, .bool is]) ∧ Below W.heap.size W w' := by
    intro W hW
    have hp := place_has bs.length off size
    cases hh : hasB bs.length off with
    | false =>
      rw [hh, Bool.false_and] at hp
      rw [hp] at hb
      rw [read_no hp] at hv
      subst hb hv
      rw [has_four h.ok, hn] at hh
      refine (told_no _ n c off _ W (by omega) hh).mono ?_
      rintro e w' ⟨rfl, rfl⟩
      exact ⟨rfl, Below.refl _ _⟩
    | true =>
      obtain ⟨o, rfl⟩ : ∃ o : Nat, off = o := ⟨off.toNat, by have := of_decide_eq_true hh; omega⟩
      have ho : o < bs.length := by have := of_decide_eq_true hh; omega
      rw [hh, Bool.true_and, hb] at hp
      have hbd := wordAt_bd h.ok (o / 4)
      exact told_take g n c o size (wordAt bs (o / 4)) v is W (by omega) (by omega) ((h.keep hW).cell _ (by omega)) hbd.1 hbd.2 ((h.keep hW).tab) ((take_is h.ok ho).trans hv) hp.symm
  have M : ∀ W, Below w.heap.size w W → Calls Tryd.prog 26 #[.pointer (some ⟨b, 0, none⟩)] W fun e w' => e = .returned (.pointer (some ⟨b, 0, none⟩)) ∧ W = w' := fun W hW => memory_yes b W ((h.keep hW).head.at 1 rfl)
  have C0 : ∀ W, Below w.heap.size w W → W.cell? ⟨b, 0, none⟩ = some (.slice (some ⟨g, 0, none⟩) n c) := fun W hW => by rw [← hn]; exact (h.keep hW).head.at 0 rfl
  have HT := Lib.hid T
  have HM := Lib.hid M
  have HC := Lib.hid C0
  clear T M C0 h hO h4 h5 h6 hn hv hb
  go_enter Tryd.func20, Tryd.ntmps20
  go_wp2_with fail
  refine region_letter 2 rfl ?_
  intro X hX
  obtain ⟨k, hk⟩ : ∃ k, w.heap.size = k := ⟨_, rfl⟩
  have B0 : Below w.heap.size w X := by rw [hX.out]; exact (Below.refl _ _).alloc (Nat.le_refl _) _
  have q0 : ∀ w', Below X.heap.size X w' → w'.cell? ⟨k, 0, none⟩ = some (.int .i64 off) := fun w' h => by
    rw [← hk]; exact cell_keep h (by rw [hX.out]; exact World.cell?_alloc_at _ _ _ 0 rfl)
  have q1 : ∀ w', Below X.heap.size X w' → w'.cell? ⟨k, 1, none⟩ = some (.int .i64 size) := fun w' h => by
    rw [← hk]; exact cell_keep h (by rw [hX.out]; exact World.cell?_alloc_at _ _ _ 1 rfl)
  have q2 : ∀ w', Below X.heap.size X w' → w'.cell? ⟨b, 0, none⟩ = some (.slice (some ⟨g, 0, none⟩) n c) := fun w' h => HC.out w' (B0.trans (h.mono B0.size))
  have BX := Lib.hid (fun w' (h : Below X.heap.size X w') => B0.trans (h.mono B0.size))
  have hS0 : Below X.heap.size X X.drew := (Below.refl _ _).drew
  rw [hk]
  clear hX hk B0 HC
  go_region_held3 (fun w' => Below X.heap.size X w')
    (first | assumption)
    (first
      | (go_at_call 26; refine (HM.out _ (BX.out _ (by assumption))).mono ?_; rintro e w' ⟨rfl, rfl⟩)
      | (go_at_call 37; refine (HT.out _ (BX.out _ (by assumption))).mono ?_; rintro e w' ⟨rfl, hb⟩; have hoS : Below X.heap.size X w' := (show Below X.heap.size X _ by assumption).trans (hb.mono (Below.size (by assumption)))))
  all_goals
    go_wp2_with fail
    go_ret2
    exact ⟨rfl, BX.out _ hoS⟩
set_option maxHeartbeats 4000000 in
theorem Read_non (v : Value) (off size : Int) (w : World) (h1 : I64 off) (h2 : I64 size) (h : Non w v) :
    Calls Tryd.prog 20 #[v, .int .i64 off, .int .i64 size] w fun e w' => e = .returned (.tuple #[.int .u32 0, .bool false]) ∧ Below w.heap.size w w' := by
  have hmf : ∀ (fn : Fn) (first cap : Array Value) (w : World), (Instr.makeFunc fn first cap).run Tryd.prog w = .ok (.func fn first cap) w := fun _ _ _ _ => rfl
  have HT := Lib.hid (fun f W => told_no none 0 0 off f W (by omega) (decide_eq_false (by omega)))
  have HM := Lib.hid (fun W (hW : Below w.heap.size w W) => memory_non v W (h.keep hW))
  clear h h1 h2
  go_enter Tryd.func20, Tryd.ntmps20
  go_wp2_with fail
  refine region_letter 2 rfl ?_
  intro X hX
  obtain ⟨k, hk⟩ : ∃ k, w.heap.size = k := ⟨_, rfl⟩
  have B0 : Below w.heap.size w X := by rw [hX.out]; exact (Below.refl _ _).alloc (Nat.le_refl _) _
  have q0 : ∀ w', Below X.heap.size X w' → w'.cell? ⟨k, 0, none⟩ = some (.int .i64 off) := fun w' h => by
    rw [← hk]; exact cell_keep h (by rw [hX.out]; exact World.cell?_alloc_at _ _ _ 0 rfl)
  have q1 : ∀ w', Below X.heap.size X w' → w'.cell? ⟨k, 1, none⟩ = some (.int .i64 size) := fun w' h => by
    rw [← hk]; exact cell_keep h (by rw [hX.out]; exact World.cell?_alloc_at _ _ _ 1 rfl)
  have BX := Lib.hid (fun w' (h : Below X.heap.size X w') => B0.trans (h.mono B0.size))
  have hS0 : Below X.heap.size X X.drew := (Below.refl _ _).drew
  rw [hk]
  clear hX hk B0
  have Q0 := q0 _ hS0
  have Q1 := q1 _ hS0
  have MX := Lib.hid (HM.out _ (BX.out _ hS0))
  have hS1 := Lib.hid (fun w' (h : Below X.heap.size X.drew w') => (show Below X.heap.size X w' from hS0.trans (h.mono hS0.size)))
  go_region_with ((first | (go_at_call 26; refine MX.out.mono ?_; rintro e w' ⟨⟨z, rfl, hz⟩, hb⟩; have hoS := hS1.out w' hb; have c0 := Blk.at hz 0 rfl; have Q0' := q0 _ hoS; have Q1' := q1 _ hoS) | (go_at_call 37; refine (HT.out _ _).mono ?_; rintro e w' ⟨rfl, rfl⟩)))
  all_goals
    go_wp2_with fail
    go_ret2
    exact ⟨rfl, BX.out _ hoS⟩
end Go.Proofs.YtffjnahcdgpklaaDoor.Ram
