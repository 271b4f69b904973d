/- Package ram's contracts: New, Bytes, Copy. -/
import Derived.Test.YtffjnahcdgpklaaDoorMq
namespace Go.Proofs.YtffjnahcdgpklaaDoor.Ram
open Go.RowKit Go.Maps Go.ChangeShapes Go.WideShapes Go.ChangeAt Fifo Orow Word
set_option linter.unusedVariables false

theorem ramOf_any (g c n : Nat) (bs : List Int) (w : World) (hn : bs.length / 4 = n) (ht : Lane.Tab w) (hk : OkM bs) (hg : g ≠ tabB) (h : w.ownsRow 0 31 1 (.slice (some ⟨g, 0, none⟩) n c) n (wv bs)) :
    Calls Tryd.prog 24 #[.slice (some ⟨g, 0, none⟩) n c] w fun e w' => e = .returned (.pointer (some ⟨w.heap.size, 0, none⟩)) ∧ MemS w' w.heap.size g c bs ∧ Below w.heap.size w w' := by
  have hgw := (own_lt h _ (ba_self _ _)).2
  have htw := tab_lt ht
  have Hn := Lib.hid hn
  have Ht := Lib.hid ht
  have Hk := Lib.hid hk
  have H := Lib.hid h
  clear hn ht hk h
  go_enter Tryd.func24, Tryd.ntmps24
  go_wp2_with fail
  go_ret
  have B0 : Below w.heap.size w (w.alloc (.cells #[.slice (some ⟨g, 0, none⟩) n c, .pointer (some ⟨w.heap.size, 0, none⟩)] 50)) := (Below.refl _ _).alloc (Nat.le_refl _) _
  refine ⟨rfl, ⟨?_, ?_, Ht.out.below B0, by omega, by omega, hg, Hk.out⟩, B0⟩
  · rw [Hn.out]
    exact Blk.new w 50 [.slice (some ⟨g, 0, none⟩) n c, .pointer (some ⟨w.heap.size, 0, none⟩)]
  · rw [Hn.out]
    exact own_keep H.out B0
theorem New_no (n : Int) (w : World) (h1 : I64 n) (h : sizeM n = false) :
    Calls Tryd.prog 8 #[.int .i64 n] w fun e w' => e = .returned (.tuple #[.pointer none, .int .i64 2]) ∧ Below w.heap.size w w' := by
  by_cases h1 : n < 4
  · have d1 : decide (n < 4) = true := decide_eq_true h1
    clear h
    go_enter Tryd.func8, Tryd.ntmps8
    go_wp2_with fail
    go_ret2
    exact ⟨rfl, Below.refl _ _⟩
  · have d1 : decide (n < 4) = false := decide_eq_false h1
    by_cases h2 : 4096 < n
    · have d2 : decide (4096 < n) = true := decide_eq_true h2
      clear h
      go_enter Tryd.func8, Tryd.ntmps8
      go_wp2_with fail
      go_ret2
      exact ⟨rfl, Below.refl _ _⟩
    · have d2 : decide (4096 < n) = false := decide_eq_false h2
      have h3 : ¬ n % 4 = 0 := by
        unfold sizeM at h
        have := of_decide_eq_false h
        omega
      have d3 : (n % 4 != 0) = true := by simpa using h3
      have hn : 0 ≤ n := by omega
      obtain ⟨m, rfl⟩ : ∃ m : Nat, n = m := ⟨n.toNat, by omega⟩
      clear h h1 h2 h3 hn
      go_enter Tryd.func8, Tryd.ntmps8
      go_wp2_with fail
      go_ret2
      exact ⟨rfl, Below.refl _ _⟩
theorem made_w (n : Nat) : (madeCells #[Value.int .u32 0] n).toList = List.replicate n (.int .u32 0) := by
  apply List.ext_getElem
  · simp [madeCells]
  · intro i h1 h2
    simp [madeCells, Nat.mod_one]
set_option maxHeartbeats 1000000 in
theorem New_yes (n : Nat) (w : World) (h : sizeM n = true) (ht : Lane.Tab w) :
    Calls Tryd.prog 8 #[.int .i64 n] w fun e w' => (∃ b O, e = .returned (.tuple #[.pointer (some ⟨b, 0, none⟩), .int .i64 0]) ∧ Mem w' b (zerosB n) O ∧ ∀ j, O j → w.heap.size ≤ j) ∧ Below w.heap.size w w' := by
  have hp : 4 ≤ (n : Int) ∧ (n : Int) ≤ 4096 ∧ (n : Int) % 4 = 0 := of_decide_eq_true h
  obtain ⟨i0, hi, hz0, hz1, hz2⟩ := info_parts info_w
  have Hi := Lib.hid hi
  have Hz0 := Lib.hid hz0
  have Hz1 := Lib.hid hz1
  have Hz2 := Lib.hid hz2
  have d1 : decide ((n : Int) < 4) = false := decide_eq_false (by omega)
  have d2 : decide (4096 < (n : Int)) = false := decide_eq_false (by omega)
  have d3 : ((n : Int) % 4 != 0) = false := by have := hp.2.2; simpa using this
  have hq : wrap64 ((n : Int) / 4) = ((n / 4 : Nat) : Int) := by rw [IntWalk.wrap64_in _ (by omega)]; omega
  obtain ⟨m, hm⟩ : ∃ m, n / 4 = m := ⟨_, rfl⟩
  have hm0 : m ≤ 1024 := by omega
  rw [hm] at hq
  have Hm := Lib.hid hm
  have Ht := Lib.hid ht
  have Hk := Lib.hid (okM_zeros h)
  have hw := tab_lt ht
  clear hi hz0 hz1 hz2 h hp ht hm
  go_enter Tryd.func8, Tryd.ntmps8
  go_wp2_with (at_make; refine wpList_make_full w rfl _ _ 48 rfl w.heap.size 31 i0 (.int .u32 0) 1 Tryd.underlying48 Hi.out Hz0.out Hz1.out .i64 .i64 m m m (congrArg (Value.int .i64) hq) (congrArg (Value.int .i64) hq) rfl rfl (by rw [Hz2.out]; omega) (by unfold maxLen; omega) (Nat.le_refl _) ?_; intro wm hown hgrow)
  have hl : (madeCells (Value.int .u32 0).cells (m * 1)).toList = wv (zerosB n) := by rw [Nat.mul_one, wv_zeros, Hm.out]; exact made_w m
  rw [hl] at hown
  have hb := (Below.refl w.heap.size w).grown hgrow (Nat.le_refl _) (fun k h => by cases h)
  have Hb := Lib.hid hb
  have R := Lib.hid (ramOf_any w.heap.size m m (zerosB n) wm (by rw [zeros_length]; exact Hm.out) (Ht.out.below hb) Hk.out (by omega) (own_mono hown (Nat.zero_le _)))
  clear hl hown hgrow hb
  go_wp2_with fail
  refine R.out.mono ?_
  rintro e w2 ⟨rfl, hS, hb2⟩
  have HS := Lib.hid hS
  have Hb2 := Lib.hid (Hb.out.trans (hb2.mono Hb.out.size))
  clear hS hb2
  go_wp2_with fail
  go_ret2
  refine ⟨⟨_, fun j => j = wm.heap.size ∨ j = w.heap.size, rfl, ⟨_, _, HS.out, fun j => Iff.rfl⟩, ?_⟩, Hb2.out⟩
  have := Hb.out.size
  intro j hj
  omega
theorem at_append {P : Program} {ops : Array Oper} {Q : Exit → Act → World → Prop} {rest : List Oper} {op : Oper} {a : Act} {w : World} (x y : Operand) (t u : TypeId) (ho : op.op = .call { callee := .builtin .append, args := #[x, y], argTypes := #[t, u] }) (h : Hid (wpList P ops Q (op :: rest) a w)) : wpList P ops Q (op :: rest) a w := h.out
def sizL : List Value := [.int .i64 (-9223372036854775808), .int .i64 (-4), .int .i64 0, .int .i64 3, .int .i64 4, .int .i64 5, .int .i64 6, .int .i64 8, .int .i64 4092, .int .i64 4096, .int .i64 4100, .int .i64 4294967296, .int .i64 9223372036854775807]
def offL : List Value := [.int .i64 (-9223372036854775808), .int .i64 (-4), .int .i64 (-1), .int .i64 4294967296, .int .i64 4294967300, .int .i64 4611686018427387908, .int .i64 9223372036854775804, .int .i64 9223372036854775807]
def fivL : List Value := [.int .i64 1, .int .i64 2, .int .i64 4, .int .i64 3, .int .i64 8]
theorem bytes_none (w : World) :
    Calls Tryd.prog 34 #[.slice none 0 0] w fun e w' => e = .returned (.slice none 0 0) ∧ Below w.heap.size w w' := by
  go_enter Tryd.func34, Tryd.ntmps34
  go_wp2_with fail
  go_loopw [3, 8] (fun s i wr => s = .slice none 0 0 ∧ i = .int .i64 0 ∧ Below w.heap.size w wr) (fun _ i _ => 0)
  case atStart => exact ⟨rfl, rfl, Below.refl _ _⟩
  case round =>
  obtain ⟨rfl, rfl, hb⟩ := hrel
  have Hb := Lib.hid hb
  clear hb
  go_wp2_with fail
  go_ret
  exact ⟨rfl, Hb.out⟩
set_option maxHeartbeats 1000000 in
theorem bytes_w (g c n : Nat) (bs : List Int) (w : World) (hn : bs.length / 4 = n) (hk : OkM bs) (h : w.ownsRow 0 31 1 (.slice (some ⟨g, 0, none⟩) n c) n (wv bs)) :
    Calls Tryd.prog 34 #[.slice (some ⟨g, 0, none⟩) n c] w fun e w' => (∃ a c, e = .returned (.slice a bs.length c) ∧ w'.ownsRow w.heap.size 5 1 (.slice a bs.length c) bs.length (bv bs)) ∧ Below w.heap.size w w' := by
  obtain ⟨i0, hi, hz0, hz1, hz2⟩ := info_parts KitBytes.info_e
  have Hi := Lib.hid hi
  have Hz0 := Lib.hid hz0
  have Hz1 := Lib.hid hz1
  have Hz2 := Lib.hid hz2
  have Hk := Lib.hid hk
  have Hn := Lib.hid hn
  have Hl := Lib.hid (show bs.length = 4 * n by have := hk.four; omega)
  have hn0 : n ≤ 1024 := by have := hk.hi; omega
  have C := Lib.hid (fun (k : Nat) (hlt : k < n) => show w.cell? ⟨g, k, none⟩ = some (.int .u32 (wordAt bs k)) by
    have := own_cells h _ rfl k _ (wv_get bs (by omega))
    rwa [Go.WideShapes.add_plain, Nat.zero_add] at this)
  clear hi hz0 hz1 hz2 hk hn h
  go_enter Tryd.func34, Tryd.ntmps34
  go_wp2_with fail
  go_loopw [3, 8] (fun s i wr => ∃ k : Nat, k ≤ n ∧ i = .int .i64 k ∧ wr.ownsRow w.heap.size 5 1 s (4 * k) (bv (bs.take (4 * k))) ∧ Below w.heap.size w wr) (fun _ i _ => n - (intOf i).toNat)
  case atStart => exact ⟨0, Nat.zero_le _, rfl, World.ownsRow_nil _ _ _ _, Below.refl _ _⟩
  case round =>
  obtain ⟨k, hk, rfl, hown, hb⟩ := hrel
  obtain ⟨a, cp, rfl, hcv, hno⟩ := own_shape hown
  have HO := Lib.hid hown
  have Hb := Lib.hid hb
  clear hown hb
  by_cases hlt : k < n
  · have d1 : decide ((k : Int) < (n : Int)) = true := decide_eq_true (by omega)
    have i1 : (0 : Int) ≤ (k : Int) := by omega
    have i2 : (k : Int) < (n : Int) := by omega
    have hc := C.out k hlt
    have hbd := wordAt_bd Hk.out k
    obtain ⟨x, hx⟩ : ∃ x : Nat, wordAt bs k = x := ⟨(wordAt bs k).toNat, by omega⟩
    have hst := Lib.hid (bytes_step Hk.out (show k < bs.length / 4 by rw [Hn.out]; exact hlt) hx)
    rw [hx] at hc hbd
    have hcr := cell_keep Hb.out hc
    have HB := Lib.hid (bytes_row_4 x (by omega))
    clear hx hbd hc hcv hno
    go_wp2_with fail
    refine (HB.out _).mono ?_
    rintro e w2 ⟨a2, c2, rfl, hown, hb2⟩
    have HO2 := Lib.hid (own_keep HO.out hb2)
    have Hb2 := Lib.hid (Hb.out.trans (hb2.mono Hb.out.size))
    obtain ⟨g2, c3, e1⟩ := own_pos hown (by decide)
    simp only [Value.slice.injEq] at e1
    obtain ⟨rfl, _, rfl⟩ := e1
    have HN := Lib.hid hown
    clear hown hb2 HB hcr
    go_wp2_with (with_reducible refine at_append _ _ _ _ rfl ?_)
    apply Lib.hid
    refine wpList_append_own _ rfl _ _ 36 rfl w.heap.size 5 i0 (.int .u8 0) 1 1 Tryd.underlying36 Hi.out Hz0.out Hz1.out Hz2.out rfl (by decide) (.slice a (4 * k) cp) (4 * k) (bv (bs.take (4 * k))) rfl HO2.out ⟨g2, 0, none⟩ 4 c2 (bv (bK x 4)) rfl (by simp [bv, bK]) (own_cells HN.out _ rfl) (by simp [bv, bK, Value.oneCell']) (by unfold maxLen; omega) (by omega) Hb2.out.size ?_
    intro v' w5 r1 r2 _
    rw [hst.out] at r1
    have R1 := Lib.hid (show w5.ownsRow w.heap.size 5 1 v' (4 * (k + 1)) (bv (bs.take (4 * (k + 1)))) from r1)
    have Hb5 := Lib.hid (Hb2.out.trans ((grown_only r2).below Hb2.out.size (fun j hj => (HO2.out.lt j hj).1)))
    clear r1 r2 HO HO2 HN hst
    go_wp2_with fail
    exact ⟨⟨k + 1, by omega, by go_num, R1.out, Hb5.out⟩, by simp [intOf]; omega⟩
  · obtain rfl : k = n := by omega
    have d1 : decide ((k : Int) < (k : Int)) = false := decide_eq_false (by omega)
    go_wp2_with fail
    go_ret
    have ho := HO.out
    rw [← Hl.out, List.take_length] at ho
    exact ⟨⟨a, cp, by rw [Hl.out]; rfl, ho⟩, Hb.out⟩
theorem Bytes_any (b : Nat) (bs : List Int) (O : Nat → Prop) (w : World) (h : Mem w b bs O) :
    Calls Tryd.prog 16 #[.pointer (some ⟨b, 0, none⟩)] w fun e w' => (∃ a c, e = .returned (.slice a bs.length c) ∧ w'.ownsRow w.heap.size 5 1 (.slice a bs.length c) bs.length (bv bs)) ∧ Below w.heap.size w w' := by
  obtain ⟨g, c, h, _⟩ := h
  obtain ⟨n, hn⟩ : ∃ n, bs.length / 4 = n := ⟨_, rfl⟩
  have c0 := h.head.at 0 rfl
  have M := Lib.hid (memory_yes b w (h.head.at 1 rfl))
  have hr := h.row
  rw [hn] at hr c0
  have S := Lib.hid (bytes_w g c n bs w hn h.ok hr)
  clear h hr hn
  go_enter Tryd.func16, Tryd.ntmps16
  go_wp2_with fail
  refine M.out.mono ?_
  rintro e w1 ⟨rfl, rfl⟩
  go_wp2_with fail
  refine S.out.mono ?_
  rintro e w1 ⟨⟨a, c, rfl, ho⟩, hb⟩
  have Ho := Lib.hid ho
  have Hb := Lib.hid hb
  clear ho hb
  go_wp2_with fail
  go_ret
  exact ⟨⟨a, c, rfl, Ho.out⟩, Hb.out⟩
theorem Bytes_non (v : Value) (w : World) (h : Non w v) :
    Calls Tryd.prog 16 #[v] w fun e w' => (∃ a c, e = .returned (.slice a 0 c)) ∧ Below w.heap.size w w' := by
  have M := Lib.hid (memory_non v w h)
  clear h
  go_enter Tryd.func16, Tryd.ntmps16
  go_wp2_with fail
  refine M.out.mono ?_
  rintro e w1 ⟨⟨b, rfl, hz⟩, hb⟩
  have c0 := Blk.at hz 0 rfl
  have Hb := Lib.hid hb
  clear hb hz
  go_wp2_with fail
  refine (bytes_none _).mono ?_
  rintro e w2 ⟨rfl, hb⟩
  have Hb2 := Lib.hid (Hb.out.trans (hb.mono Hb.out.size))
  clear hb
  go_wp2_with fail
  go_ret
  exact ⟨⟨_, _, rfl⟩, Hb2.out⟩
theorem Copy_non (v : Value) (w : World) (h : Non w v) :
    Calls Tryd.prog 13 #[v] w fun e w' => e = .returned (.pointer none) ∧ Below w.heap.size w w' := by
  have M := Lib.hid (is_non v w h)
  clear h
  go_enter Tryd.func13, Tryd.ntmps13
  go_wp2_with fail
  refine M.out.mono ?_
  rintro e w1 ⟨rfl, rfl⟩
  go_wp2_with fail
  go_ret
  exact ⟨rfl, Below.refl _ _⟩
theorem clone_w (g c n : Nat) (L : List Value) (w : World) (hn : 0 < n) (hn2 : n ≤ 1024) (h : w.ownsRow 0 31 1 (.slice (some ⟨g, 0, none⟩) n c) n L) (h1 : ∀ u ∈ L, u.oneCell' = true) :
    Calls Tryd.prog 40 #[.slice (some ⟨g, 0, none⟩) n c] w fun e w' => (∃ g' c', e = .returned (.slice (some ⟨g', 0, none⟩) n c') ∧ w'.ownsRow w.heap.size 31 1 (.slice (some ⟨g', 0, none⟩) n c') n L) ∧ Below w.heap.size w w' := by
  obtain ⟨i0, hi, hz0, hz1, hz2⟩ := info_parts info_w
  have Hi := Lib.hid hi
  have Hz0 := Lib.hid hz0
  have Hz1 := Lib.hid hz1
  have Hz2 := Lib.hid hz2
  have H := Lib.hid h
  have H1 := Lib.hid h1
  have he := Lib.run_eql_slice_nil w 48 31 (some ⟨g, 0, none⟩) n c 0 0 Tryd.underlying48
  clear hi hz0 hz1 hz2 h h1
  go_enter Tryd.func40, Tryd.ntmps40
  go_wp2_with (with_reducible refine at_append _ _ _ _ rfl ?_)
  apply Lib.hid
  have ho : (w.alloc (.cells #[] 31)).ownsRow w.heap.size 31 1 (.slice (some ⟨w.heap.size, 0, none⟩) 0 0) 0 [] := blk_own (Blk.new w 31 []) rfl rfl (Nat.le_refl _) (by unfold maxLen; omega) (Nat.le_refl _)
  have hb0 : Below w.heap.size w (w.alloc (.cells #[] 31)) := (Below.refl _ _).alloc (Nat.le_refl _) _
  refine wpList_append_own _ rfl _ _ 48 rfl w.heap.size 31 i0 (.int .u32 0) 1 4 Tryd.underlying48 Hi.out Hz0.out Hz1.out Hz2.out rfl (by decide) (.slice (some ⟨w.heap.size, 0, none⟩) 0 0) 0 [] rfl ho ⟨g, 0, none⟩ n c L rfl (by have := H.out.1; omega) (own_cells (own_keep H.out hb0) _ rfl) H1.out (by unfold maxLen; omega) (by omega) hb0.size ?_
  intro v' w5 r1 r2 _
  rw [Nat.zero_add, List.nil_append] at r1
  obtain ⟨g', c', rfl⟩ := own_pos r1 hn
  have R1 := Lib.hid r1
  have Hb := Lib.hid (hb0.trans ((grown_only r2).below hb0.size (fun j hj => (ho.lt j hj).1)))
  clear r1 r2 ho hb0 he
  go_wp2_with fail
  go_ret
  exact ⟨⟨g', c', rfl, R1.out⟩, Hb.out⟩
theorem apart_w (g c n : Nat) (L : List Value) (w : World) (hn : 0 < n) (hn2 : n ≤ 1024) (h : w.ownsRow 0 31 1 (.slice (some ⟨g, 0, none⟩) n c) n L) (h1 : ∀ u ∈ L, u.oneCell' = true) :
    Calls Tryd.prog 29 #[.slice (some ⟨g, 0, none⟩) n c] w fun e w' => (∃ g' c', e = .returned (.slice (some ⟨g', 0, none⟩) n c') ∧ w'.ownsRow w.heap.size 31 1 (.slice (some ⟨g', 0, none⟩) n c') n L) ∧ Below w.heap.size w w' := by
  have C := Lib.hid (clone_w g c n L w hn hn2 h h1)
  clear h h1
  go_enter Tryd.func29, Tryd.ntmps29
  go_wp2_with fail
  refine C.out.mono ?_
  rintro e w1 ⟨⟨g', c', rfl, ho⟩, hb⟩
  have Ho := Lib.hid ho
  have Hb := Lib.hid hb
  clear ho hb
  go_wp2_with fail
  go_ret
  exact ⟨⟨g', c', rfl, Ho.out⟩, Hb.out⟩
theorem Copy_any (b : Nat) (bs : List Int) (O : Nat → Prop) (w : World) (h : Mem w b bs O) :
    Calls Tryd.prog 13 #[.pointer (some ⟨b, 0, none⟩)] w fun e w' => (∃ c O', e = .returned (.pointer (some ⟨c, 0, none⟩)) ∧ Mem w' c bs O' ∧ ∀ j, O' j → w.heap.size ≤ j) ∧ Below w.heap.size w w' := by
  obtain ⟨g, c, h, _⟩ := h
  have h5 := h.ok.lo
  have h6 := h.ok.hi
  obtain ⟨n, hn⟩ : ∃ n, bs.length / 4 = n := ⟨_, rfl⟩
  have c0 := h.head.at 0 rfl
  have M := Lib.hid (is_yes b w (h.head.at 1 rfl))
  have hr := h.row
  rw [hn] at hr c0
  have A := Lib.hid (apart_w g c n (wv bs) w (by omega) (by omega) hr (by simp [wv, Value.oneCell']))
  have H := Lib.hid h
  have Hn := Lib.hid hn
  have ht := tab_lt h.tab
  clear h hr hn h5 h6
  go_enter Tryd.func13, Tryd.ntmps13
  go_wp2_with fail
  refine M.out.mono ?_
  rintro e w1 ⟨rfl, rfl⟩
  go_wp2_with fail
  refine A.out.mono ?_
  rintro e w1 ⟨⟨g', c', rfl, ho⟩, hb⟩
  have hg := (own_lt ho _ (ba_self _ _)).1
  have Hb := Lib.hid hb
  have R := Lib.hid (ramOf_any g' c' n bs w1 Hn.out (H.out.tab.below hb) H.out.ok (by omega) (own_mono ho (Nat.zero_le _)))
  clear ho hb
  go_wp2_with fail
  refine R.out.mono ?_
  rintro e w2 ⟨rfl, hS, hb2⟩
  have HS := Lib.hid hS
  have Hb2 := Lib.hid (Hb.out.trans (hb2.mono Hb.out.size))
  clear hS hb2
  go_wp2_with fail
  go_ret
  refine ⟨⟨_, fun j => j = w1.heap.size ∨ j = g', rfl, ⟨_, _, HS.out, fun j => Iff.rfl⟩, ?_⟩, Hb2.out⟩
  have := Hb.out.size
  intro j hj
  omega
end Go.Proofs.YtffjnahcdgpklaaDoor.Ram
