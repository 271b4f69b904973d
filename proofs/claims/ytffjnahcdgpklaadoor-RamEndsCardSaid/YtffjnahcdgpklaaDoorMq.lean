/- Package ram's contracts: Write. -/
import Derived.Test.YtffjnahcdgpklaaDoorMp
namespace Go.Proofs.YtffjnahcdgpklaaDoor.Ram
open Go.RowKit Go.Maps Go.ChangeShapes Go.WideShapes Go.ChangeAt Fifo Orow Word
open Lane (takeV putV alB)
set_option linter.unusedVariables false

theorem putting_w (off size v : Int) (w : World) :
    Calls Tryd.prog 31 #[.agg #[.int .i64 off, .int .i64 size], .int .u32 v] w fun e w' => (∃ p q, e = .returned (.func (.func 41) #[] #[.pointer (some ⟨p, 0, none⟩), .pointer (some ⟨q, 0, none⟩)]) ∧ w'.cell? ⟨p, 0, none⟩ = some (.int .i64 off) ∧ w'.cell? ⟨p, 1, none⟩ = some (.int .i64 size) ∧ w'.cell? ⟨q, 0, none⟩ = some (.int .u32 v)) ∧ Below w.heap.size w w' := by
  have hmf : ∀ (fn : Fn) (first cap : Array Value) (w : World), (Instr.makeFunc fn first cap).run Tryd.prog w = .ok (.func fn first cap) w := fun _ _ _ _ => rfl
  go_enter Tryd.func31, Tryd.ntmps31
  go_wp2_with fail
  go_ret
  refine ⟨⟨_, _, rfl, ?_, ?_, World.cell?_alloc_at _ _ _ 0 (by simp)⟩, ((Below.refl _ _).alloc (Nat.le_refl _) _).alloc (by simp) _⟩
  · exact cell_keep ((Below.refl _ _).alloc (Nat.le_refl _) _) (World.cell?_alloc_at _ _ _ 0 rfl)
  · exact cell_keep ((Below.refl _ _).alloc (Nat.le_refl _) _) (World.cell?_alloc_at _ _ _ 1 rfl)
theorem putting_1 (o p q : Nat) (size d v x : Int) (is : Bool) (w : World) (ho : o < 4096) (hv : 0 ≤ v) (hv' : v < 4294967296) (hd : 0 ≤ d) (p0 : w.cell? ⟨p, 0, none⟩ = some (.int .i64 o)) (p1 : w.cell? ⟨p, 1, none⟩ = some (.int .i64 size)) (q0 : w.cell? ⟨q, 0, none⟩ = some (.int .u32 d)) (ht : Lane.Tab w) (hx : putV v o size d = x) (hb : alB o size = is) :
    Calls Tryd.prog 41 #[.int .u32 v, .pointer (some ⟨p, 0, none⟩), .pointer (some ⟨q, 0, none⟩)] w fun e w' => e = .returned (.tuple #[.int .u32 x, .bool is]) ∧ Below w.heap.size w w' := by
  have h1 : IntKind.u32.wrap (o : Int) = (o : Int) := IntWalk.u32_in _ (by omega)
  have H := Lib.hid (Lane.Put_any o size v d x is w (by omega) (by omega) hv hv' hd ht hx hb)
  clear hx hb ht hv hv' ho hd
  go_enter Tryd.func41, Tryd.ntmps41
  go_wp2_with fail
  refine H.out.mono ?_
  rintro e w1 ⟨rfl, hb⟩
  have Hb := Lib.hid hb
  clear hb
  go_wp2_with fail
  go_ret2
  exact ⟨rfl, Hb.out⟩
theorem told_put (g n c o p q : Nat) (size d v x : Int) (is : Bool) (w : World) (hn : n ≤ 1024) (ho : o < 4 * n) (hc : w.cell? ⟨g, o / 4, none⟩ = some (.int .u32 v)) (hv : 0 ≤ v) (hv' : v < 4294967296) (hd : 0 ≤ d) (p0 : w.cell? ⟨p, 0, none⟩ = some (.int .i64 o)) (p1 : w.cell? ⟨p, 1, none⟩ = some (.int .i64 size)) (q0 : w.cell? ⟨q, 0, none⟩ = some (.int .u32 d)) (ht : Lane.Tab w) (hx : putV v o size d = x) (hb : alB o size = is) :
    Calls Tryd.prog 37 #[.slice (some ⟨g, 0, none⟩) n c, .int .i64 o, .func (.func 41) #[] #[.pointer (some ⟨p, 0, none⟩), .pointer (some ⟨q, 0, none⟩)]] w fun e w' => e = .returned (.tuple #[.int .u32 x, .bool is]) ∧ Below w.heap.size w w' := by
  have H := Lib.hid (has_w (some ⟨g, 0, none⟩) n c o true w hn (decide_eq_true (by omega)))
  have T := Lib.hid (putting_1 o p q size d v x is w (by omega) hv hv' hd p0 p1 q0 ht hx hb)
  have hq := quo_4 o (by omega)
  obtain ⟨q, hq0⟩ : ∃ q, o / 4 = q := ⟨_, rfl⟩
  rw [hq0] at hq hc
  have i1 : (0 : Int) ≤ (q : Int) := by omega
  have i2 : (q : Int) < (n : Int) := by omega
  clear hx hb ht hv hv' hq0 ho p0 p1 q0 hd
  go_enter Tryd.func37, Tryd.ntmps37
  go_wp2_with fail
  refine H.out.mono ?_
  rintro e w1 ⟨rfl, rfl⟩
  go_wp2_with fail
  refine T.out.mono ?_
  rintro e w1 ⟨rfl, hb⟩
  have Hb := Lib.hid hb
  clear hb
  go_wp2_with fail
  go_ret2
  exact ⟨rfl, Hb.out⟩
theorem changed_no (s f : Value) (off x : Int) (w : World) (T : Calls Tryd.prog 37 #[s, .int .i64 off, f] w fun e w' => e = .returned (.tuple #[.int .u32 x, .bool false]) ∧ Below w.heap.size w w') :
    Calls Tryd.prog 30 #[s, .int .i64 off, f] w fun e w' => e = .returned (.bool false) ∧ Below w.heap.size w w' := by
  have T := Lib.hid T
  go_enter Tryd.func30, Tryd.ntmps30
  go_wp2_with fail
  refine T.out.mono ?_
  rintro e w1 ⟨rfl, hb⟩
  have Hb := Lib.hid hb
  clear hb
  go_wp2_with fail
  go_ret
  exact ⟨rfl, Hb.out⟩
theorem changed_yes (g n c o : Nat) (f : Value) (x : Int) (L : List Value) (w : World) (hn : n ≤ 1024) (ho : o < 4 * n) (h : w.ownsRow 0 31 1 (.slice (some ⟨g, 0, none⟩) n c) n L) (T : Calls Tryd.prog 37 #[.slice (some ⟨g, 0, none⟩) n c, .int .i64 o, f] w fun e w' => e = .returned (.tuple #[.int .u32 x, .bool true]) ∧ Below w.heap.size w w') :
    Calls Tryd.prog 30 #[.slice (some ⟨g, 0, none⟩) n c, .int .i64 o, f] w fun e w' => e = .returned (.bool true) ∧ w'.ownsRow 0 31 1 (.slice (some ⟨g, 0, none⟩) n c) n (L.set (o / 4) (.int .u32 x)) ∧ Only (fun j => j = g) w w' := by
  have T := Lib.hid T
  have hq := quo_4 o (by omega)
  obtain ⟨q, hq0⟩ : ∃ q, o / 4 = q := ⟨_, rfl⟩
  rw [hq0] at hq ⊢
  have hqn : q < n := by omega
  have i1 : (0 : Int) ≤ (q : Int) := by omega
  have i2 : (q : Int) < (n : Int) := by omega
  have H := Lib.hid h
  clear hq0 ho h
  go_enter Tryd.func30, Tryd.ntmps30
  go_wp2_with fail
  refine T.out.mono ?_
  rintro e w1 ⟨rfl, hb⟩
  obtain ⟨cur, u1, u2, u3, u4, u5, u6⟩ := own_blk (own_keep H.out hb)
  have Hb := Lib.hid hb
  have hl := (own_keep H.out hb).1
  have fz := u1.frozen q
  obtain ⟨y, hy⟩ : ∃ y, cur[q]? = some y := ⟨_, List.getElem?_eq_getElem (by omega)⟩
  have cq := u1.at q hy
  have U1 := Lib.hid u1
  clear hb hy u1
  go_wp2_with fail
  go_ret
  refine ⟨rfl, blk_own (U1.out.set q (.int .u32 x)) ?_ (by rw [List.length_set]; exact u3) u4 u5 u6, (Only.of_below (S := fun j => j = g) Hb.out).setCell (p := ⟨g, q, none⟩) rfl _⟩
  rw [List.take_set, u2]
set_option maxHeartbeats 1000000 in
theorem Write_any (b : Nat) (bs : List Int) (O : Nat → Prop) (off size v : Int) (is : Bool) (w : World) (h1 : I64 off) (h2 : I64 size) (h3 : 0 ≤ v) (h4 : v < 4294967296) (h : Mem w b bs O) (hb : placeB bs.length off size = is) :
    Calls Tryd.prog 14 #[.pointer (some ⟨b, 0, none⟩), .int .i64 off, .int .i64 size, .int .u32 v] w fun e w' => e = .returned (.bool is) ∧ ∃ O', Mem w' b (writeV bs off size v.toNat) O' ∧ Only O w w' ∧ ∀ j, O' j → O j ∨ w.heap.size ≤ j := by
  obtain ⟨x, rfl⟩ : ∃ x : Nat, v = (x : Int) := ⟨v.toNat, by omega⟩
  rw [Int.toNat_natCast]
  obtain ⟨g, c, h, hO⟩ := h
  have a4 := h.ok.four
  have a5 := h.ok.lo
  have a6 := h.ok.hi
  have hgw : g < w.heap.size := (own_lt h.row _ (ba_self _ _)).2
  obtain ⟨n, hn⟩ : ∃ n, bs.length / 4 = n := ⟨_, rfl⟩
  have HC : ∀ (W : World) (p q : Nat), MemS W b g c bs → W.cell? ⟨p, 0, none⟩ = some (.int .i64 off) → W.cell? ⟨p, 1, none⟩ = some (.int .i64 size) → W.cell? ⟨q, 0, none⟩ = some (.int .u32 x) →
      Calls Tryd.prog 30 #[.slice (some ⟨g, 0, none⟩) n c, .int .i64 off, .func (.func 41) #[] #[.pointer (some ⟨p, 0, none⟩), .pointer (some ⟨q, 0, none⟩)]] W fun e w' => e = .returned (.bool is) ∧ w'.ownsRow 0 31 1 (.slice (some ⟨g, 0, none⟩) n c) n (wv (writeV bs off size x)) ∧ Only (fun j => j = g) W w' := by
    intro W p q hM p0 p1 q0
    have hp := place_has bs.length off size
    have hrow := hM.row
    rw [hn] at hrow
    cases hh : hasB bs.length off with
    | false =>
      rw [hh, Bool.false_and] at hp
      rw [hp] at hb
      subst hb
      rw [has_four h.ok, hn] at hh
      refine (changed_no _ _ off 0 W ((told_no _ n c off _ W (by omega) hh).mono ?_)).mono ?_
      · rintro e w' ⟨rfl, rfl⟩
        exact ⟨rfl, Below.refl _ _⟩
      · rintro e w' ⟨rfl, hb⟩
        rw [write_no hp]
        exact ⟨rfl, own_keep hrow hb, Only.of_below hb⟩
    | true =>
      obtain ⟨o, rfl⟩ : ∃ o : Nat, off = o := ⟨off.toNat, by have := of_decide_eq_true hh; omega⟩
      have ho : o < bs.length := by have := of_decide_eq_true hh; omega
      rw [hh, Bool.true_and, hb] at hp
      have hbd := wordAt_bd h.ok (o / 4)
      have T := told_put g n c o p q size x (wordAt bs (o / 4)) _ is W (by omega) (by omega) (hM.cell _ (by omega)) hbd.1 hbd.2 (by omega) p0 p1 q0 hM.tab rfl hp.symm
      cases is with
      | false =>
        refine (changed_no _ _ _ _ W T).mono ?_
        rintro e w' ⟨rfl, hb2⟩
        rw [write_no hb]
        exact ⟨rfl, own_keep hrow hb2, Only.of_below hb2⟩
      | true =>
        refine (changed_yes g n c o _ _ _ W (by omega) (by omega) hrow T).mono ?_
        rintro e w' ⟨rfl, k1, k2⟩
        rw [put_is h.ok (by omega) ho hp.symm]
        exact ⟨rfl, k1, k2⟩
  have H := Lib.hid h
  have Hn := Lib.hid hn
  have HL : Hid ((writeV bs off size x).length = bs.length) := Lib.hid (write_length ..)
  have HK := Lib.hid (write_ok h.ok off size x)
  have HC := Lib.hid HC
  clear h hb hn h1 h2 h3 h4 a4 a5 a6
  go_enter Tryd.func14, Tryd.ntmps14
  go_wp2_with fail
  refine region_letter 2 rfl ?_
  intro X hX
  obtain ⟨k, hk⟩ : ∃ k, w.heap.size = k := ⟨_, rfl⟩
  have B0 : Below w.heap.size w X := by rw [hX.out]; exact (Below.refl _ _).alloc (Nat.le_refl _) _
  have hkg : k ≠ g := by omega
  have q0 : ∀ w', Only (fun j => j = g) X w' → w'.cell? ⟨k, 0, none⟩ = some (.int .i64 off) := fun w' h => by
    refine only_cell h hkg ?_
    rw [hX.out, ← hk]; exact World.cell?_alloc_at _ _ _ 0 rfl
  have q1 : ∀ w', Only (fun j => j = g) X w' → w'.cell? ⟨k, 1, none⟩ = some (.int .i64 size) := fun w' h => by
    refine only_cell h hkg ?_
    rw [hX.out, ← hk]; exact World.cell?_alloc_at _ _ _ 1 rfl
  have q2 : ∀ w', Only (fun j => j = g) X w' → w'.cell? ⟨b, 0, none⟩ = some (.slice (some ⟨g, 0, none⟩) n c) := fun w' h => by
    refine only_cell h (show ¬ b = g from H.out.ne) ?_
    rw [← Hn.out]
    exact (H.out.keep B0).head.at 0 rfl
  have HM := Lib.hid (fun W (h : Only (fun j => j = g) X W) => memory_yes b W (only_cell h (show ¬ b = g from H.out.ne) ((H.out.keep B0).head.at 1 rfl)))
  have HX := Lib.hid (show MemS X.drew b g c bs from (H.out.keep B0).keep (Below.refl _ _).drew)
  have BX := Lib.hid B0
  have hS0 : Only (fun j => j = g) X X.drew := only_drew2 (Only.refl _ _)
  rw [hk]
  clear hX hk B0 hkg
  go_region_held3 (fun w' => Only (fun j => j = g) X w')
    (first | assumption)
    (first
      | (go_at_call 30; refine (HC.out _ _ _ (hMp) (by assumption) (by assumption) (by assumption)).mono ?_; rintro e w' ⟨rfl, hrow, hoo⟩; have hoS : Only (fun j => j = g) X w' := hoP.trans hoo)
      | (go_at_call 26; refine (HM.out _ (by assumption)).mono ?_; rintro e w' ⟨rfl, rfl⟩)
      | (go_at_call 31; refine (putting_w off size x _).mono ?_; rintro e w' ⟨⟨p, q, rfl, c0, c1, c2⟩, hb⟩; have hMp := HX.out.keep hb; have hoP : Only (fun j => j = g) X w' := (show Only (fun j => j = g) X _ by assumption).trans (Only.of_below hb)))
  go_wp2_with fail
  go_ret
  have hO1 : Only (fun j => j = g) w w' := (Only.of_below BX.out).trans hoS
  refine ⟨rfl, O, ⟨g, c, ⟨?_, ?_, tab_only H.out.tab hO1 (fun e => H.out.ng e.symm), H.out.ne, H.out.nb, H.out.ng, HK.out⟩, hO⟩, hO1.mono (fun j _ e => (hO j).2 (.inr e)), fun j hj => .inl hj⟩
  · rw [HL.out]
    exact H.out.head.only hO1 H.out.ne
  · rw [HL.out, Hn.out]
    exact hrow
set_option maxHeartbeats 8000000 in
theorem Write_non (v : Value) (off size x : Int) (w : World) (h1 : I64 off) (h2 : I64 size) (h3 : 0 ≤ x) (h4 : x < 4294967296) (h : Non w v) :
    Calls Tryd.prog 14 #[v, .int .i64 off, .int .i64 size, .int .u32 x] w fun e w' => e = .returned (.bool false) ∧ Below w.heap.size w w' := by
  have HC : ∀ f W, Calls Tryd.prog 30 #[.slice none 0 0, .int .i64 off, f] W fun e w' => e = .returned (.bool false) ∧ Below W.heap.size W w' := fun f W =>
    changed_no _ f off 0 W ((told_no none 0 0 off f W (by omega) (decide_eq_false (by omega))).mono (by rintro e w' ⟨rfl, rfl⟩; exact ⟨rfl, Below.refl _ _⟩))
  have HC := Lib.hid HC
  have HM := Lib.hid (fun W (hW : Below w.heap.size w W) => memory_non v W (h.keep hW))
  clear h h1 h2 h3 h4
  go_enter Tryd.func14, Tryd.ntmps14
  go_wp2_with fail
  refine region_letter 2 rfl ?_
  intro X hX
  obtain ⟨k, hk⟩ : ∃ k, w.heap.size = k := ⟨_, rfl⟩
  have B0 : Below w.heap.size w X := by rw [hX.out]; exact (Below.refl _ _).alloc (Nat.le_refl _) _
  have q0 : ∀ w', Below X.heap.size X w' → w'.cell? ⟨k, 0, none⟩ = some (.int .i64 off) := fun w' h => by
    rw [← hk]; exact cell_keep h (by rw [hX.out]; exact World.cell?_alloc_at _ _ _ 0 rfl)
  have q1 : ∀ w', Below X.heap.size X w' → w'.cell? ⟨k, 1, none⟩ = some (.int .i64 size) := fun w' h => by
    rw [← hk]; exact cell_keep h (by rw [hX.out]; exact World.cell?_alloc_at _ _ _ 1 rfl)
  have BX := Lib.hid (fun w' (h : Below X.heap.size X w') => B0.trans (h.mono B0.size))
  have hS0 : Below X.heap.size X X.drew := (Below.refl _ _).drew
  rw [hk]
  clear hX hk B0
  have Q0 := q0 _ hS0
  have Q1 := q1 _ hS0
  have hS1 : ∀ {W w' : World}, Below X.heap.size X W → Below W.heap.size W w' → Below X.heap.size X w' := fun h k => h.trans (k.mono h.size)
  go_region_with ((first
    | (go_at_call 30; refine (HC.out _ _).mono ?_; rintro e w' ⟨rfl, hb⟩; have hoS := hS1 (by assumption) hb)
    | (go_at_call 26; refine (HM.out _ (BX.out _ (by assumption))).mono ?_; rintro e w' ⟨⟨z, rfl, hz⟩, hb⟩; have hoM := hS1 (by assumption) hb; have c0 := Blk.at hz 0 rfl; have cM := Lib.hid (fun w2 (h : Below w'.heap.size w' w2) => cell_keep h c0); have Q0' := q0 _ hoM; have Q1' := q1 _ hoM)
    | (go_at_call 31; refine (putting_w off size x _).mono ?_; rintro e w' ⟨⟨p, q, rfl, _⟩, hb⟩; have hoP := hS1 (by assumption) hb; have Q0p := q0 _ hoP; have Q1p := q1 _ hoP; (try have c0p := cM.out _ hb))))
  all_goals
    go_wp2_with fail
    go_ret
    exact ⟨rfl, BX.out _ hoS⟩
end Go.Proofs.YtffjnahcdgpklaaDoor.Ram
