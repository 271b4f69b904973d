/- Rows of devices as own rows; lent, with marks behind; whether what was lent is kept. -/
import Derived.Test.YtmdepkehpohgeaaGreatVb
import Derived.Test.YtmdepkehpohgeaaGreatKgDevices
namespace Go.Proofs.YtmdepkehpohgeaaGreat.Win
open Go.RowKit Fifo Go.Maps Go.ChangeShapes Go.WideShapes Go.ChangeAt KitDevices
open Go.Proofs.YtmdepkehpohgeaaGreat.Orow (own_keep own_only own_mono own_blk own_lt own_shape)
set_option linter.unusedVariables false

def encV (d : Dv) : List Value := [.int .i64 d.k, .int .u32 d.B, .int .i64 d.S, .int .i64 d.O, .int .i64 d.L]
def flV (l : List Dv) : List Value := l.flatMap encV
theorem flV_len (l : List Dv) : (flV l).length = l.length * 5 := by
  induction l with
  | nil => rfl
  | cons g l ih => simp only [flV, List.flatMap_cons, List.length_append, List.length_cons] at ih ⊢; rw [ih]; simp [encV]; omega
theorem flV_snoc (l : List Dv) (x : Dv) : flV (l ++ [x]) = flV l ++ encV x := by simp [flV]
theorem flV_app (l m : List Dv) : flV (l ++ m) = flV l ++ flV m := by simp [flV]
theorem flV_get : ∀ (d : List Dv) (j c : Nat), j < d.length → c < 5 → (flV d)[j * 5 + c]? = (encV d[j]!)[c]?
  | g :: d, 0, c, _, hc => by
    rw [Nat.zero_mul, Nat.zero_add]
    show (encV g ++ flV d)[c]? = _
    rw [List.getElem?_append_left (by simp [encV]; omega)]
    rfl
  | g :: d, j + 1, c, hj, hc => by
    have ih := flV_get d j c (by simpa using hj) hc
    show (encV g ++ flV d)[(j + 1) * 5 + c]? = _
    rw [List.getElem?_append_right (by simp [encV]; omega)]
    have e : (j + 1) * 5 + c - (encV g).length = j * 5 + c := by simp [encV]; omega
    rw [e, ih]
    simp
theorem flV_cells {d : List Dv} : ∀ v ∈ flV d, v.oneCell' = true := by
  intro v hv
  simp only [flV, List.mem_flatMap] at hv
  obtain ⟨g, _, hg⟩ := hv
  simp [encV] at hg
  rcases hg with rfl | rfl | rfl | rfl | rfl <;> rfl
theorem rowV_of_own {w : World} {B n : Nat} {a : Option Addr} {cap : Nat} {d : List Dv} (hd : d.length = n) (hok : ∀ j, j < n → okD d[j]!) (h : w.ownsRow B 45 5 (.slice a n cap) n (flV d)) : RowV w a n d := by
  refine ⟨hd, hok, fun j hj => ?_⟩
  obtain ⟨g, rfl⟩ := Orow.own_some h (.inl (by omega))
  have q : ∀ c v, c < 5 → (encV d[j]!)[c]? = some v → w.cell? ⟨g, 0 + j * 5 + c, none⟩ = some v := fun c v hc hv => by
    rw [Nat.zero_add, h.cellAt (j * 5 + c) (by omega), flV_get d j c (by omega) hc, hv]
  exact ⟨g, 0, rfl, ⟨q 0 _ (by omega) rfl, q 1 _ (by omega) rfl, q 2 _ (by omega) rfl, q 3 _ (by omega) rfl, q 4 _ (by omega) rfl⟩⟩
theorem rowV_cells {w : World} {a : Option Addr} {n : Nat} {d : List Dv} (h : RowV w a n d) : ∀ ad, a = some ad → ∀ j v, (flV d)[j]? = some v → w.cell? (ad.add j) = some v := by
  rintro ad rfl j v hj
  have hlt : j < n * 5 := by
    have := (List.getElem?_eq_some_iff.1 hj).1
    rw [flV_len, h.1] at this
    exact this
  obtain ⟨b, off, ha, c⟩ := h.2.2 (j / 5) (by omega)
  simp only [Option.some.injEq] at ha
  subst ha
  have e := flV_get d (j / 5) (j % 5) (by rw [h.1]; omega) (by omega)
  rw [show j / 5 * 5 + j % 5 = j by omega, hj] at e
  rw [add_plain, show off + j = off + j / 5 * 5 + j % 5 by omega]
  have hm : j % 5 < 5 := by omega
  obtain ⟨c0, c1, c2, c3, c4⟩ := c
  generalize j % 5 = r at *
  match r, hm with
  | 0, _ => rw [e]; exact c0
  | 1, _ => rw [e]; exact c1
  | 2, _ => rw [e]; exact c2
  | 3, _ => rw [e]; exact c3
  | 4, _ => rw [e]; exact c4

theorem marks1_succ (P : List Value) (k : Nat) : (P ++ marks 1 k) ++ mE 1 (k : Nat) = P ++ marks 1 (k + 1) := by rw [marks_succ, List.append_assoc]
/-- What Lent answers. -/
def LentPost (n : Nat) (d : List Dv) (w : World) (e : Ending) (w' : World) : Prop := ∃ g, e = .returned (.slice (some ⟨g, 0, none⟩) n (n + 12)) ∧
  w'.ownsRow w.heap.size 45 5 (.slice (some ⟨g, 0, none⟩) (n + 12) (n + 12)) (n + 12) (flV d ++ marks 1 12) ∧ Below w.heap.size w w'
set_option maxRecDepth 100000 in
set_option maxHeartbeats 1000000 in
theorem lent_any (a : Option Addr) (n cap : Nat) (d : List Dv) (w : World) (h : RowV w a n d) (hno : a = none → n = 0 ∧ cap = 0) (hn : n ≤ 1000) :
    Calls Tryz.prog 6 #[.slice a n cap] w (LentPost n d w) := by
  obtain ⟨i0, hi, hz0, hz1, hz2⟩ := info_parts info_e
  have Hi := Lib.hid hi
  have Hz0 := Lib.hid hz0
  have Hz1 := Lib.hid hz1
  have Hz2 := Lib.hid hz2
  have Hno := Lib.hid hno
  have Hlen := Lib.hid (show (flV d).length = n * 5 by rw [flV_len, h.1])
  have Hr := Lib.hid h
  clear hi hz0 hz1 hz2 hno h
  go_enter Tryz.func6, Tryz.ntmps6
  go_wp2_with (first | (refine wpList_make_own _ rfl _ _ 22 rfl w.heap.size 45 i0 (.agg #[.int .i64 0, .int .u32 0, .int .i64 0, .int .i64 0, .int .i64 0]) 5 Tryz.underlying22 Hi.out Hz0.out Hz1.out _ _ _ (n + 12) rfl rfl (by omega) (by rw [Hz2.out]; omega) (by unfold maxLen; omega) (Nat.le_refl _) ?_; intro w1 hown1 hgrow1) | (at_builtin; refine wpList_append_fits_any w1 rfl _ _ 22 rfl w.heap.size 45 i0 5 Tryz.underlying22 Hi.out Hz1.out w.heap.size 0 (n + 12) [] rfl hown1 a n cap (flV d) rfl Hlen.out Hno.out (rowV_cells (Hr.out.keep ((Below.refl _ _).grown hgrow1 (Nat.le_refl _) (fun k h => by cases h)))) flV_cells (by omega) ?_; intro w2 hown2 hgrow2))
  have Hb1 : Hid (Below w.heap.size w w1) := Lib.hid ((Below.refl _ _).grown hgrow1 (Nat.le_refl _) (fun k h => by cases h))
  have sz1 := Hb1.out.size
  have Hb2 := Lib.hid (Hb1.out.grown hgrow2 sz1 (fun k h => by cases h; exact Nat.le_refl _))
  rw [List.nil_append, Nat.zero_add] at hown2
  have Hown2 := Lib.hid hown2
  clear hgrow2 hown2 sz1 hown1 hgrow1
  obtain ⟨g, hg⟩ : ∃ g, w.heap.size = g := ⟨_, rfl⟩
  have Hg := Lib.hid hg
  rw [hg] at Hown2
  simp only [hg]
  go_loopw [3, 4] (fun o i wr => ∃ k : Nat, k ≤ 12 ∧ i = .int .i64 k ∧ o = .slice (some ⟨g, 0, none⟩) (n + k) (n + 12) ∧ wr.ownsRow g 45 5 (.slice (some ⟨g, 0, none⟩) (n + k) (n + 12)) (n + k) (flV d ++ marks 1 k) ∧ Below w.heap.size w wr) (fun _ i _ => 12 - (intOf i).toNat)
  case atStart => exact ⟨0, by omega, rfl, rfl, by simpa [marks] using Hown2.out, Hb2.out⟩
  case round =>
    clear hg
    obtain ⟨k, hk, rfl, rfl, hown, hb⟩ := hrel
    have Hown := Lib.hid hown
    have Hb := Lib.hid hb
    have hsz := hb.size
    clear hown hb
    by_cases hlt : k < 12
    · go_wp2_with fail
      refine (markE_any 1 (k : Int) _ (by omega) (by omega) (by omega) (by omega)).mono ?_
      rintro e w5 ⟨rfl, hb5⟩
      have Hb5 := Lib.hid (Hb.out.trans (hb5.mono hsz))
      have Hown5 := Lib.hid (own_keep Hown.out hb5)
      have hs5 := Hb5.out.size
      clear hb5
      go_wp2_with (at_builtin; refine wpList_append_fits (w5.alloc (.cells #[.int .i64 0, .int .u32 0, .int .i64 (mk 1 (k : Nat)), .int .i64 0, .int .i64 0] 45)) rfl _ _ 22 rfl g 45 i0 5 Tryz.underlying22 Hi.out Hz1.out g (n + k) (n + 12) (flV d ++ marks 1 k) rfl (Hown5.out.alloc _) ⟨w5.heap.size, 0, none⟩ 1 1 [.int .i64 0, .int .u32 0, .int .i64 (mk 1 (k : Nat)), .int .i64 0, .int .i64 0] rfl rfl (Orow.cells_new _ _ _) (by simp [Value.oneCell']) (by omega) ?_; intro w1' hown1 hgrow)
      refine ⟨⟨k + 1, by omega, by go_num, rfl, ?_, ?_⟩, by simp [intOf]; omega⟩
      · rw [show [.int .i64 0, .int .u32 0, .int .i64 (mk 1 (k : Nat)), .int .i64 0, .int .i64 0] = mE 1 (k : Nat) from rfl, marks1_succ] at hown1
        exact hown1
      · exact (Hb5.out.alloc hs5 _).grown hgrow (by simp; omega) (fun k h => by cases h; exact Nat.le_of_eq Hg.out)
    · obtain rfl : k = 12 := by omega
      go_wp2_with fail
      go_ret
      exact ⟨g, rfl, by rw [Hg.out]; exact Hown.out, Hb.out⟩

/-- What was lent: its elements, the marks behind them. -/
theorem lent_left {w : World} {B g n c : Nat} {d : List Dv} {M : List Value} (h : w.ownsRow B 45 5 (.slice (some ⟨g, 0, none⟩) (n + 12) c) (n + 12) (flV d ++ M)) (hd : d.length = n) : ∀ j, j < n → AtD w g (0 + j * 5) d[j]! := fun j hj => by
  have q : ∀ c v, c < 5 → (encV d[j]!)[c]? = some v → w.cell? ⟨g, 0 + j * 5 + c, none⟩ = some v := fun c v hc hv => by
    rw [Nat.zero_add, h.cellAt (j * 5 + c) (by omega), List.getElem?_append_left (by rw [flV_len]; omega), flV_get d j c (by omega) hc, hv]
  exact ⟨q 0 _ (by omega) rfl, q 1 _ (by omega) rfl, q 2 _ (by omega) rfl, q 3 _ (by omega) rfl, q 4 _ (by omega) rfl⟩
theorem lent_right {w : World} {B g n c : Nat} {d : List Dv} (h : w.ownsRow B 45 5 (.slice (some ⟨g, 0, none⟩) (n + 12) c) (n + 12) (flV d ++ marks 1 12)) (hd : d.length = n) : ∀ j, n ≤ j → j < n + 12 → AtM w g (0 + j * 5) 1 ((j : Int) - (n : Int)) := fun j h1 h2 => by
  obtain ⟨m, rfl⟩ : ∃ m, j = n + m := ⟨j - n, by omega⟩
  have q : ∀ c v, c < 5 → (mE 1 (m : Nat))[c]? = some v → w.cell? ⟨g, 0 + (n + m) * 5 + c, none⟩ = some v := fun c v hc hv => by
    rw [Nat.zero_add, h.cellAt ((n + m) * 5 + c) (by omega), List.getElem?_append_right (by rw [flV_len]; omega), flV_len, ← hv, ← marks_at 1 (show m < 12 by omega) hc]
    congr 1
    omega
  rw [show ((n + m : Nat) : Int) - (n : Int) = (m : Int) by omega]
  exact ⟨q 0 _ (by omega) rfl, q 1 _ (by omega) rfl, q 2 _ (by omega) rfl, q 3 _ (by omega) rfl, q 4 _ (by omega) rfl⟩
theorem lent_row {w : World} {B g n c : Nat} {d : List Dv} {M : List Value} (h : w.ownsRow B 45 5 (.slice (some ⟨g, 0, none⟩) (n + 12) c) (n + 12) (flV d ++ M)) (hd : d.length = n) (hok : ∀ j, j < n → okD d[j]!) : RowV w (some ⟨g, 0, none⟩) n d := ⟨hd, hok, fun j hj => ⟨g, 0, rfl, lent_left h hd j hj⟩⟩
set_option maxRecDepth 100000 in
set_option maxHeartbeats 4000000 in
theorem kept_core (b off n cap : Nat) (a : Option Addr) (d : List Dv) (w : World) (hn : n ≤ 1000) (h : RowV w a n d) (h1 : ∀ j, j < n → AtD w b (off + j * 5) d[j]!) (h2 : ∀ j, n ≤ j → j < n + 12 → AtM w b (off + j * 5) 1 ((j : Int) - (n : Int))) :
    Calls Tryz.prog 9 #[.slice (some ⟨b, off, none⟩) n (n + 12), .slice a n cap] w fun e w' => e = .returned (.bool true) ∧ Below w.heap.size w w' := by
  have Hr := Lib.hid h
  have HL := Lib.hid h1
  have HR := Lib.hid h2
  clear h h1 h2
  go_enter Tryz.func9, Tryz.ntmps9
  go_wp2_with fail
  go_loopw [6] (fun i wr => ∃ k : Nat, k ≤ n + 12 ∧ i = .int .i64 k ∧ Below w.heap.size w wr) (fun i _ => n + 12 - (intOf i).toNat)
  case atStart => exact ⟨0, Nat.zero_le _, rfl, Below.refl _ _⟩
  case round =>
    obtain ⟨k, hk, rfl, hb⟩ := hrel
    have Hb := Lib.hid hb
    have hsz := hb.size
    clear hb
    have i1 : (0 : Int) ≤ (k : Int) := by omega
    by_cases hlt : k < n
    · have i2 : (k : Int) < (n : Int) := by omega
      have i3 : (k : Int) < (n : Int) + 12 := by omega
      have d1 : decide ((k : Int) < (n : Int)) = true := decide_eq_true i2
      have d3 : decide (k < n) = true := decide_eq_true hlt
      have d2 : decide ((n : Int) ≤ (k : Int)) = false := decide_eq_false (by omega)
      have d4 : decide (n ≤ k) = false := decide_eq_false (by omega)
      have ce := (HL.out k hlt).keep Hb.out
      obtain ⟨b2, off2, rfl, cf⟩ := Hr.out.2.2 k hlt
      have cf := cf.keep Hb.out
      obtain ⟨x, hx⟩ : ∃ x, d[k]! = x := ⟨_, rfl⟩
      rw [hx] at ce cf
      clear hx
      obtain ⟨xk, xB, xS, xO, xL⟩ := x
      obtain ⟨e0, e1, e2, e3, e4⟩ := ce
      obtain ⟨f0, f1, f2, f3, f4⟩ := cf
      go_wp2_with fail
      refine wp_region_ext (by kernel_rfl) (by kernel_rfl) ?_
      intro Y hY
      obtain rfl := hY.out
      clear hY
      have x0 := ext_cell e0
      have x1 := ext_cell e1
      have x2 := ext_cell e2
      have x3 := ext_cell e3
      have x4 := ext_cell e4
      have y0 := ext_cell f0
      have y1 := ext_cell f1
      have y2 := ext_cell f2
      have y3 := ext_cell f3
      have y4 := ext_cell f4
      clear e0 e1 e2 e3 e4 f0 f1 f2 f3 f4
      repeat (go_big_quiet_step (fail))
      refine wpQuiet_nil ?_
      intro w9 hw9
      have h9 : Below Y.heap.size Y w9 := by obtain ⟨p9, rfl⟩ := hw9; exact ext_below Y p9
      have B9 := Lib.hid (Hb.out.trans (h9.mono hsz))
      clear hw9 h9 x0 x1 x2 x3 x4 y0 y1 y2 y3 y4
      go_wp2_with fail
      exact ⟨⟨k + 1, by omega, by go_num, B9.out⟩, by simp [intOf]; omega⟩
    · by_cases hlt2 : k < n + 12
      · have i3 : (k : Int) < (n : Int) + 12 := by omega
        have d1 : decide ((k : Int) < (n : Int)) = false := decide_eq_false (by omega)
        have d3 : decide (k < n) = false := decide_eq_false hlt
        have d2 : decide ((n : Int) ≤ (k : Int)) = true := decide_eq_true (by omega)
        have d4 : decide (n ≤ k) = true := decide_eq_true (by omega)
        have ce := (HR.out k (by omega) hlt2).keep Hb.out
        obtain ⟨s, hs⟩ : ∃ s, (k : Int) - (n : Int) = s := ⟨_, rfl⟩
        have wq : IntKind.i64.wrap s = s := IntWalk.i64_in _ (by omega)
        rw [hs] at ce
        have Mk := fun w => markE_any 1 s w (by omega) (by omega) (by omega) (by omega)
        obtain ⟨mv, hmv⟩ : ∃ v, mk 1 s = v := ⟨_, rfl⟩
        rw [hmv] at Mk
        have Hmv := Lib.hid hmv
        have HMk := Lib.hid Mk
        clear hmv Mk
        go_wp2_with fail
        refine wp_region_ext (by kernel_rfl) (by kernel_rfl) ?_
        intro Y hY
        obtain rfl := hY.out
        clear hY
        have x0 := ext_cell ce.c0
        have x1 := ext_cell ce.c1
        have x2 : ∀ p, (ext Y p).cell? ⟨b, off + k * 5 + 2, none⟩ = some (.int .i64 mv) := by rw [← Hmv.out]; exact ext_cell ce.c2
        have x3 := ext_cell ce.c3
        have x4 := ext_cell ce.c4
        clear ce
        repeat (go_big_quiet_step ((go_at_call 24; with_reducible exact ext_of (HMk.out _))))
        refine wpQuiet_nil ?_
        intro w9 hw9
        have h9 : Below Y.heap.size Y w9 := by obtain ⟨p9, rfl⟩ := hw9; exact ext_below Y p9
        have B9 := Lib.hid (Hb.out.trans (h9.mono hsz))
        clear hw9 h9 x0 x1 x2 x3 x4
        go_wp2_with fail
        exact ⟨⟨k + 1, by omega, by go_num, B9.out⟩, by simp [intOf]; omega⟩
      · obtain rfl : k = n + 12 := by omega
        go_wp2_with fail
        go_ret
        exact ⟨rfl, Hb.out⟩
theorem kept_any (B g n cap : Nat) (a : Option Addr) (d : List Dv) (w : World) (hn : n ≤ 1000) (h : RowV w a n d) (h1 : w.ownsRow B 45 5 (.slice (some ⟨g, 0, none⟩) (n + 12) (n + 12)) (n + 12) (flV d ++ marks 1 12)) :
    Calls Tryz.prog 9 #[.slice (some ⟨g, 0, none⟩) n (n + 12), .slice a n cap] w fun e w' => e = .returned (.bool true) ∧ Below w.heap.size w w' :=
  kept_core g 0 n cap a d w hn h (lent_left h1 h.1) (lent_right h1 h.1)
end Go.Proofs.YtmdepkehpohgeaaGreat.Win
