/- DmaMoves: its asker. -/
import Derived.Test.YthpkebcedaakhaaDk
namespace Go.Proofs.Ythpkebcedaakhaa.Dma
open Go.RowKit Go.Maps Fifo Orow
set_option linter.unusedVariables false

abbrev capA (gn gr gw gf gh gv gt gd : Nat) : Array Value := #[.pointer (some ⟨gn, 0, none⟩), .pointer (some ⟨gr, 0, none⟩), .pointer (some ⟨gw, 0, none⟩), .pointer (some ⟨gf, 0, none⟩), .pointer (some ⟨gh, 0, none⟩), .pointer (some ⟨gv, 0, none⟩), .pointer (some ⟨gt, 0, none⟩), .pointer (some ⟨gd, 0, none⟩)]
theorem Cap.as {w : World} {gn gr gw gf gh gv gt gd : Nat} {i i' world F T held held' den : Int} {vs : Value} (c : Cap w gn gr gw gf gh gv gt gd i world F T held den vs) (h1 : i = i') (h2 : held = held') : Cap w gn gr gw gf gh gv gt gd i' world F T held' den vs := by subst h1; subst h2; exact c
theorem _root_.Go.Proofs.Ythpkebcedaakhaa.Row.only {k : IntKind} {S : Nat → Prop} {w w' : World} {a : Option Addr} {len : Nat} {l : List Int} (h : Row k w a len l) (ho : Only S w w') (hs : 0 < len → ∀ b off, a = some ⟨b, off, none⟩ → ¬ S b) : Row k w' a len l := by
  obtain ⟨h1, h2, h3, h4⟩ := h
  refine ⟨h1, h2, h3, h4.imp id ?_⟩
  rintro ⟨b, off, e, hb, hc⟩
  exact ⟨b, off, e, Nat.lt_of_lt_of_le hb ho.size, fun i hi => only_cell ho (hs (by omega) b off e) (hc i hi)⟩
set_option maxHeartbeats 4000000 in
theorem ask_even (gn gr gw gf gh gv gt gd i len cap : Nat) (world F T held den : Int) (a : Option Addr) (l : List Int) (w : World) (hi : i < 200) (hi2 : i % 2 = 0) (hF : 0 ≤ F ∧ F < 4294967296) (hT : 0 ≤ T ∧ T < 4294967296)
    (hc : Chain gn gr gw gf gh gv gt gd) (c : Cap w gn gr gw gf gh gv gt gd i world F T held den (.slice a len cap)) (hr : Row .u32 w a len l) (hb : 0 < len → ∀ b off, a = some ⟨b, off, none⟩ → b < gf) :
    Calls Try.prog 22 (#[accV world false (onA F (i / 2)) 4 0] ++ capA gn gr gw gf gh gv gt gd) w fun e w' => e = .returned (if (i : Int) = den then .agg #[.int .u32 0, .int .i64 10] else .agg #[.int .u32 (valV l (i / 2)), .int .i64 0]) ∧ Cap w' gn gr gw gf gh gv gt gd ((i : Int) + 1) world F T (valV l (i / 2)) den (.slice a len cap) ∧ Only (fun j => j = gn ∨ j = gr ∨ j = gh) w w' := by
  obtain ⟨q, hq⟩ : ∃ q, w.heap.size = q := ⟨_, rfl⟩
  have HQ := Lib.hid hq
  have C := Lib.hid c
  have HC := Lib.hid hc
  have HR := Lib.hid hr
  have HBr := Lib.hid hb
  have LT := Lib.hid (show gn < q ∧ gr < q ∧ gw < q ∧ gf < q ∧ gh < q ∧ gv < q ∧ gt < q ∧ gd < q ∧ gf < gn ∧ gf < gr ∧ gf < gh from by
    obtain ⟨h1, h2, h3, h4, h5, h6, h7⟩ := hc
    have := c.ch.lt
    omega)
  have tq : Int.tmod (i : Int) 2 = 0 := tmod_at i 2 0 hi2
  have dn := fun o o' => ((c.cn.alloc o).alloc o').at 0 rfl
  have dr := fun o o' => ((c.cr.alloc o).alloc o').at 0 rfl
  have dw := fun o o' => ((c.cw.alloc o).alloc o').at 0 rfl
  have df := fun o o' => ((c.cf.alloc o).alloc o').at 0 rfl
  have dt := fun o o' => ((c.ct.alloc o).alloc o').at 0 rfl
  have dh := fun o o' => ((c.ch.alloc o).alloc o').at 0 rfl
  have f0 := hF.1
  have f1 := hF.2
  have t0 := hT.1
  have t1 := hT.2
  clear c hc hr hb hF hT
  rw [show onA F (i / 2) = (F + 4 * ((i : Int) / 2)) % 4294967296 by unfold onA; omega]
  have ew : (world == world) = true := by simp
  have eh : (held == held) = true := by simp
  show Calls Try.prog _ #[accV world false ((F + 4 * ((i : Int) / 2)) % 4294967296) 4 0, .pointer (some ⟨gn, 0, none⟩), .pointer (some ⟨gr, 0, none⟩), .pointer (some ⟨gw, 0, none⟩), .pointer (some ⟨gf, 0, none⟩), .pointer (some ⟨gh, 0, none⟩), .pointer (some ⟨gv, 0, none⟩), .pointer (some ⟨gt, 0, none⟩), .pointer (some ⟨gd, 0, none⟩)] w _
  go_enter Try.func22, Try.ntmps22
  go_wp2_with (with_reducible refine at_store _ _ _ rfl ?_)
  refine Lib.hid ?_
  refine list_letter ?_
  intro X hX
  have BX := Lib.hid (show Below w.heap.size w X by rw [hX.out]; exact ((Below.refl _ _).alloc (Nat.le_refl _) _).alloc (by simp) _)
  have A0 := Lib.hid (show Blk X q 53 (accL world false ((F + 4 * ((i : Int) / 2)) % 4294967296) 4 0) by
    rw [hX.out, ← HQ.out]; exact (Blk.new w _ _).alloc _)
  have Z0 := Lib.hid (show Blk X (q + 1) 41 [.int .u32 0, .int .i64 0] by
    rw [hX.out]
    have e : ∀ Y : World, Y.heap.size = q + 1 → Blk (Y.alloc (.cells #[.int .u32 0, .int .i64 0] 41)) (q + 1) 41 [.int .u32 0, .int .i64 0] := fun Y h => by rw [← h]; exact Blk.new Y _ _
    exact e _ (by simp [HQ.out]))
  have C0 := Lib.hid (C.out.keep BX.out)
  have R0 := Lib.hid (HR.out.only (S := fun _ => False) (Only.of_below BX.out) (fun _ _ _ _ e => e))
  have O0 := Lib.hid (show Only (fun j => j = gn ∨ j = gr ∨ j = gh) w X from Only.of_below BX.out)
  clear hX dn dr dw df dt dh C HR BX hq
  refine store_one rfl _ _ _ rfl gr 0 (.bool true) rfl rfl _ _ C0.out.cr (by kernel_rfl) (by simp) (by simp [Value.oneCell']) rfl ?_
  intro Y1 hY hoY
  have C1 := Lib.hid (C0.out.setR HC.out hoY hY)
  have A1 := Lib.hid (A0.out.only (S := fun j => j = gr) hoY (fun e => by have : q = gr := e; have := LT.out; omega))
  have Z1 := Lib.hid (Z0.out.only (S := fun j => j = gr) hoY (fun e => by have : q + 1 = gr := e; have := LT.out; omega))
  have R1 := Lib.hid (R0.out.only hoY (by intro lp b off e e2; have : b = gr := e2; have := HBr.out lp b off e; have := LT.out; omega))
  have O1 := Lib.hid (show Only (fun j => j = gn ∨ j = gr ∨ j = gh) w Y1 from O0.out.trans (hoY.mono (fun j _ e => by have : j = gr := e; simp [this])))
  clear hY hoY
  go_wp2_with (with_reducible refine at_store _ _ _ rfl ?_)
  refine Lib.hid ?_
  refine store_one rfl _ _ _ rfl gh 0 (.int .u32 0) rfl rfl _ _ C1.out.ch (by kernel_rfl) (by simp) (by simp [Value.oneCell']) rfl ?_
  intro Y2 hY hoY
  have C2 := Lib.hid (C1.out.setH HC.out hoY 0 hY)
  have A2 := Lib.hid (A1.out.only (S := fun j => j = gh) hoY (fun e => by have : q = gh := e; have := LT.out; omega))
  have Z2 := Lib.hid (Z1.out.only (S := fun j => j = gh) hoY (fun e => by have : q + 1 = gh := e; have := LT.out; omega))
  have R2 := Lib.hid (R1.out.only hoY (by intro lp b off e e2; have : b = gh := e2; have := HBr.out lp b off e; have := LT.out; omega))
  have O2 := Lib.hid (show Only (fun j => j = gn ∨ j = gr ∨ j = gh) w Y2 from O1.out.trans (hoY.mono (fun j _ e => by have : j = gh := e; simp [this])))
  clear hY hoY
  have xv := C2.out.cv.at 0 rfl
  by_cases hk : i / 2 < len
  · have dk : decide ((i : Int) / 2 < (len : Int)) = true := decide_eq_true (by omega)
    have dk2 : decide (i / 2 < len) = true := decide_eq_true hk
    have hlw := R2.out.2.2.1
    obtain ⟨bb, off, rfl, hb1, hb2⟩ : ∃ b off, a = some ⟨b, off, none⟩ ∧ b < Y2.heap.size ∧ ∀ k, k < len → Y2.cell? ⟨b, off + k, none⟩ = some (.int .u32 (l.getD k 0)) := R2.out.2.2.2.elim (fun e => by omega) id
    have hcell := hb2 (i / 2) hk
    obtain ⟨x, hx⟩ : ∃ x, l.getD (i / 2) 0 = x := ⟨_, rfl⟩
    rw [hx] at hcell
    have hv : valV l (i / 2) = x := hx
    have HX := Lib.hid hv
    have i1 : (0 : Int) ≤ (i : Int) / 2 := by omega
    have i2 : (i : Int) / 2 < (len : Int) := by omega
    clear hb2 hx hv
    go_wp2_with (with_reducible refine at_store _ _ _ rfl ?_)
    refine Lib.hid ?_
    refine store_one rfl _ _ _ rfl gh 0 (.int .u32 x) rfl rfl _ _ C2.out.ch (by kernel_rfl) (by simp) (by simp [Value.oneCell']) rfl ?_
    intro Y3 hY hoY
    have C3 := Lib.hid (C2.out.setH HC.out hoY x hY)
    have A3 := Lib.hid (A2.out.only (S := fun j => j = gh) hoY (fun e => by have : q = gh := e; have := LT.out; omega))
    have Z3 := Lib.hid (Z2.out.only (S := fun j => j = gh) hoY (fun e => by have : q + 1 = gh := e; have := LT.out; omega))
    have R3 := Lib.hid (R2.out.only hoY (by intro lp b off e e2; have : b = gh := e2; have := HBr.out lp b off e; have := LT.out; omega))
    have O3 := Lib.hid (show Only (fun j => j = gn ∨ j = gr ∨ j = gh) w Y3 from O2.out.trans (hoY.mono (fun j _ e => by have : j = gh := e; simp [this])))
    clear hY hoY
    clear xv hcell
    have xn := C3.out.cn.at 0 rfl
    have wn : IntKind.i64.wrap ((i : Int) + 1) = (i : Int) + 1 := i64w (by omega)
    go_wp2_with (with_reducible refine at_store _ _ _ rfl ?_)
    refine Lib.hid ?_
    refine store_one rfl _ _ _ rfl gn 0 (.int .i64 ((i : Int) + 1)) rfl rfl _ _ C3.out.cn (by kernel_rfl) (by simp) (by simp [Value.oneCell']) rfl ?_
    intro Y4 hY hoY
    have C4 := Lib.hid (C3.out.setN HC.out hoY _ hY)
    have A4 := Lib.hid (A3.out.only (S := fun j => j = gn) hoY (fun e => by have : q = gn := e; have := LT.out; omega))
    have Z4 := Lib.hid (Z3.out.only (S := fun j => j = gn) hoY (fun e => by have : q + 1 = gn := e; have := LT.out; omega))
    have R4 := Lib.hid (R3.out.only hoY (by intro lp b off e e2; have : b = gn := e2; have := HBr.out lp b off e; have := LT.out; omega))
    have O4 := Lib.hid (show Only (fun j => j = gn ∨ j = gr ∨ j = gh) w Y4 from O3.out.trans (hoY.mono (fun j _ e => by have : j = gn := e; simp [this])))
    clear hY hoY
    clear xn
    have xn := C4.out.cn.at 0 rfl
    have xd := C4.out.cd.at 0 rfl
    have xh := C4.out.ch.at 0 rfl
    have wm : IntKind.i64.wrap ((i : Int) + 1 - 1) = (i : Int) := by rw [i64w (by omega)]; omega
    by_cases hd : (i : Int) = den
    · have d : ((i : Int) == den) = true := by simpa using hd
      have HD := Lib.hid hd
      clear hd
      go_wp2_with (with_reducible refine at_store _ _ _ rfl ?_)
      refine Lib.hid ?_
      refine store_all rfl _ _ _ rfl (q + 1) [.int .u32 0, .int .i64 10] rfl rfl _ _ Z4.out (by kernel_rfl) rfl (by simp [Value.oneCell']) ?_
      intro V hV hoV
      have CV := Lib.hid (C4.out.only (S := fun j => j = q + 1) hoV (fun j hj e => by have : j = q + 1 := e; have := LT.out; omega))
      have OV := Lib.hid (show Only (fun j => j = gn ∨ j = gr ∨ j = gh) w V from O4.out.far hoV (fun m hm e => by have := HQ.out; have : m = q + 1 := e; omega))
      have p0 := hV.at 0 rfl
      have p1 := hV.at 1 rfl
      clear hV hoV xn xd xh
      go_wp2_with fail
      refine bodyPost_ret (v := .agg #[.int .u32 0, .int .i64 10]) ?_ rfl ⟨rfl, CV.out.as (by rw [HD.out]) (HX.out.symm), OV.out⟩
      simp [results, Try.results22, go_sem, p0, p1]
    · have d : ((i : Int) == den) = false := by simpa using hd
      have HD := Lib.hid hd
      clear hd
      go_wp2_with (with_reducible refine at_store _ _ _ rfl ?_)
      refine Lib.hid ?_
      refine store_all rfl _ _ _ rfl (q + 1) [.int .u32 (x), .int .i64 0] rfl rfl _ _ Z4.out (by kernel_rfl) rfl (by simp [Value.oneCell']) ?_
      intro V hV hoV
      have CV := Lib.hid (C4.out.only (S := fun j => j = q + 1) hoV (fun j hj e => by have : j = q + 1 := e; have := LT.out; omega))
      have OV := Lib.hid (show Only (fun j => j = gn ∨ j = gr ∨ j = gh) w V from O4.out.far hoV (fun m hm e => by have := HQ.out; have : m = q + 1 := e; omega))
      have p0 := hV.at 0 rfl
      have p1 := hV.at 1 rfl
      clear hV hoV xn xd xh
      go_wp2_with fail
      refine bodyPost_ret (v := .agg #[.int .u32 (x), .int .i64 0]) ?_ rfl ⟨(by rw [HX.out]), CV.out.as (rfl) (HX.out.symm), OV.out⟩
      simp [results, Try.results22, go_sem, p0, p1]
  · have dk : decide ((i : Int) / 2 < (len : Int)) = false := decide_eq_false (by omega)
    have dk2 : decide (i / 2 < len) = false := decide_eq_false hk
    have hl0 := R2.out.1
    have hv : valV l (i / 2) = 0 := by unfold valV; rw [List.getD_eq_getElem?_getD, List.getElem?_eq_none (by omega)]; rfl
    have HX := Lib.hid hv
    clear xv hv
    have xn := C2.out.cn.at 0 rfl
    have xv := C2.out.cv.at 0 rfl
    have wn : IntKind.i64.wrap ((i : Int) + 1) = (i : Int) + 1 := i64w (by omega)
    go_wp2_with (with_reducible refine at_store _ _ _ rfl ?_)
    refine Lib.hid ?_
    refine store_one rfl _ _ _ rfl gn 0 (.int .i64 ((i : Int) + 1)) rfl rfl _ _ C2.out.cn (by kernel_rfl) (by simp) (by simp [Value.oneCell']) rfl ?_
    intro Y3 hY hoY
    have C3 := Lib.hid (C2.out.setN HC.out hoY _ hY)
    have A3 := Lib.hid (A2.out.only (S := fun j => j = gn) hoY (fun e => by have : q = gn := e; have := LT.out; omega))
    have Z3 := Lib.hid (Z2.out.only (S := fun j => j = gn) hoY (fun e => by have : q + 1 = gn := e; have := LT.out; omega))
    have R3 := Lib.hid (R2.out.only hoY (by intro lp b off e e2; have : b = gn := e2; have := HBr.out lp b off e; have := LT.out; omega))
    have O3 := Lib.hid (show Only (fun j => j = gn ∨ j = gr ∨ j = gh) w Y3 from O2.out.trans (hoY.mono (fun j _ e => by have : j = gn := e; simp [this])))
    clear hY hoY
    clear xn
    have xn := C3.out.cn.at 0 rfl
    have xd := C3.out.cd.at 0 rfl
    have xh := C3.out.ch.at 0 rfl
    have wm : IntKind.i64.wrap ((i : Int) + 1 - 1) = (i : Int) := by rw [i64w (by omega)]; omega
    by_cases hd : (i : Int) = den
    · have d : ((i : Int) == den) = true := by simpa using hd
      have HD := Lib.hid hd
      clear hd
      go_wp2_with (with_reducible refine at_store _ _ _ rfl ?_)
      refine Lib.hid ?_
      refine store_all rfl _ _ _ rfl (q + 1) [.int .u32 0, .int .i64 10] rfl rfl _ _ Z3.out (by kernel_rfl) rfl (by simp [Value.oneCell']) ?_
      intro V hV hoV
      have CV := Lib.hid (C3.out.only (S := fun j => j = q + 1) hoV (fun j hj e => by have : j = q + 1 := e; have := LT.out; omega))
      have OV := Lib.hid (show Only (fun j => j = gn ∨ j = gr ∨ j = gh) w V from O3.out.far hoV (fun m hm e => by have := HQ.out; have : m = q + 1 := e; omega))
      have p0 := hV.at 0 rfl
      have p1 := hV.at 1 rfl
      clear hV hoV xn xd xh
      go_wp2_with fail
      refine bodyPost_ret (v := .agg #[.int .u32 0, .int .i64 10]) ?_ rfl ⟨rfl, CV.out.as (by rw [HD.out]) (HX.out.symm), OV.out⟩
      simp [results, Try.results22, go_sem, p0, p1]
    · have d : ((i : Int) == den) = false := by simpa using hd
      have HD := Lib.hid hd
      clear hd
      go_wp2_with (with_reducible refine at_store _ _ _ rfl ?_)
      refine Lib.hid ?_
      refine store_all rfl _ _ _ rfl (q + 1) [.int .u32 (0), .int .i64 0] rfl rfl _ _ Z3.out (by kernel_rfl) rfl (by simp [Value.oneCell']) ?_
      intro V hV hoV
      have CV := Lib.hid (C3.out.only (S := fun j => j = q + 1) hoV (fun j hj e => by have : j = q + 1 := e; have := LT.out; omega))
      have OV := Lib.hid (show Only (fun j => j = gn ∨ j = gr ∨ j = gh) w V from O3.out.far hoV (fun m hm e => by have := HQ.out; have : m = q + 1 := e; omega))
      have p0 := hV.at 0 rfl
      have p1 := hV.at 1 rfl
      clear hV hoV xn xd xh
      go_wp2_with fail
      refine bodyPost_ret (v := .agg #[.int .u32 (0), .int .i64 0]) ?_ rfl ⟨(by rw [HX.out]), CV.out.as (rfl) (HX.out.symm), OV.out⟩
      simp [results, Try.results22, go_sem, p0, p1]
set_option maxHeartbeats 4000000 in
theorem ask_odd (gn gr gw gf gh gv gt gd i len cap : Nat) (world F T held den : Int) (a : Option Addr) (l : List Int) (w : World) (hi : i < 200) (hi2 : i % 2 = 1) (hF : 0 ≤ F ∧ F < 4294967296) (hT : 0 ≤ T ∧ T < 4294967296)
    (hc : Chain gn gr gw gf gh gv gt gd) (c : Cap w gn gr gw gf gh gv gt gd i world F T held den (.slice a len cap)) (hr : Row .u32 w a len l) (hb : 0 < len → ∀ b off, a = some ⟨b, off, none⟩ → b < gf) :
    Calls Try.prog 22 (#[accV world true (onA T (i / 2)) 4 held] ++ capA gn gr gw gf gh gv gt gd) w fun e w' => e = .returned (if (i : Int) = den then .agg #[.int .u32 0, .int .i64 10] else .agg #[.int .u32 held, .int .i64 0]) ∧ Cap w' gn gr gw gf gh gv gt gd ((i : Int) + 1) world F T held den (.slice a len cap) ∧ Only (fun j => j = gn ∨ j = gr ∨ j = gh) w w' := by
  obtain ⟨q, hq⟩ : ∃ q, w.heap.size = q := ⟨_, rfl⟩
  have HQ := Lib.hid hq
  have C := Lib.hid c
  have HC := Lib.hid hc
  have HR := Lib.hid hr
  have HBr := Lib.hid hb
  have LT := Lib.hid (show gn < q ∧ gr < q ∧ gw < q ∧ gf < q ∧ gh < q ∧ gv < q ∧ gt < q ∧ gd < q ∧ gf < gn ∧ gf < gr ∧ gf < gh from by
    obtain ⟨h1, h2, h3, h4, h5, h6, h7⟩ := hc
    have := c.ch.lt
    omega)
  have tq : Int.tmod (i : Int) 2 = 1 := tmod_at i 2 1 hi2
  have dn := fun o o' => ((c.cn.alloc o).alloc o').at 0 rfl
  have dr := fun o o' => ((c.cr.alloc o).alloc o').at 0 rfl
  have dw := fun o o' => ((c.cw.alloc o).alloc o').at 0 rfl
  have df := fun o o' => ((c.cf.alloc o).alloc o').at 0 rfl
  have dt := fun o o' => ((c.ct.alloc o).alloc o').at 0 rfl
  have dh := fun o o' => ((c.ch.alloc o).alloc o').at 0 rfl
  have f0 := hF.1
  have f1 := hF.2
  have t0 := hT.1
  have t1 := hT.2
  clear c hc hr hb hF hT
  rw [show onA T (i / 2) = (T + 4 * ((i : Int) / 2)) % 4294967296 by unfold onA; omega]
  have ew : (world == world) = true := by simp
  have eh : (held == held) = true := by simp
  show Calls Try.prog _ #[accV world true ((T + 4 * ((i : Int) / 2)) % 4294967296) 4 held, .pointer (some ⟨gn, 0, none⟩), .pointer (some ⟨gr, 0, none⟩), .pointer (some ⟨gw, 0, none⟩), .pointer (some ⟨gf, 0, none⟩), .pointer (some ⟨gh, 0, none⟩), .pointer (some ⟨gv, 0, none⟩), .pointer (some ⟨gt, 0, none⟩), .pointer (some ⟨gd, 0, none⟩)] w _
  go_enter Try.func22, Try.ntmps22
  go_wp2_with (with_reducible refine at_store _ _ _ rfl ?_)
  refine Lib.hid ?_
  refine list_letter ?_
  intro X hX
  have BX := Lib.hid (show Below w.heap.size w X by rw [hX.out]; exact ((Below.refl _ _).alloc (Nat.le_refl _) _).alloc (by simp) _)
  have A0 := Lib.hid (show Blk X q 53 (accL world true ((T + 4 * ((i : Int) / 2)) % 4294967296) 4 held) by
    rw [hX.out, ← HQ.out]; exact (Blk.new w _ _).alloc _)
  have Z0 := Lib.hid (show Blk X (q + 1) 41 [.int .u32 0, .int .i64 0] by
    rw [hX.out]
    have e : ∀ Y : World, Y.heap.size = q + 1 → Blk (Y.alloc (.cells #[.int .u32 0, .int .i64 0] 41)) (q + 1) 41 [.int .u32 0, .int .i64 0] := fun Y h => by rw [← h]; exact Blk.new Y _ _
    exact e _ (by simp [HQ.out]))
  have C0 := Lib.hid (C.out.keep BX.out)
  have R0 := Lib.hid (HR.out.only (S := fun _ => False) (Only.of_below BX.out) (fun _ _ _ _ e => e))
  have O0 := Lib.hid (show Only (fun j => j = gn ∨ j = gr ∨ j = gh) w X from Only.of_below BX.out)
  clear hX dn dr dw df dt dh C HR BX hq
  refine store_one rfl _ _ _ rfl gr 0 (.bool true) rfl rfl _ _ C0.out.cr (by kernel_rfl) (by simp) (by simp [Value.oneCell']) rfl ?_
  intro Y1 hY hoY
  have C1 := Lib.hid (C0.out.setR HC.out hoY hY)
  have A1 := Lib.hid (A0.out.only (S := fun j => j = gr) hoY (fun e => by have : q = gr := e; have := LT.out; omega))
  have Z1 := Lib.hid (Z0.out.only (S := fun j => j = gr) hoY (fun e => by have : q + 1 = gr := e; have := LT.out; omega))
  have R1 := Lib.hid (R0.out.only hoY (by intro lp b off e e2; have : b = gr := e2; have := HBr.out lp b off e; have := LT.out; omega))
  have O1 := Lib.hid (show Only (fun j => j = gn ∨ j = gr ∨ j = gh) w Y1 from O0.out.trans (hoY.mono (fun j _ e => by have : j = gr := e; simp [this])))
  clear hY hoY
  have xn := C1.out.cn.at 0 rfl
  have wn : IntKind.i64.wrap ((i : Int) + 1) = (i : Int) + 1 := i64w (by omega)
  go_wp2_with (with_reducible refine at_store _ _ _ rfl ?_)
  refine Lib.hid ?_
  refine store_one rfl _ _ _ rfl gn 0 (.int .i64 ((i : Int) + 1)) rfl rfl _ _ C1.out.cn (by kernel_rfl) (by simp) (by simp [Value.oneCell']) rfl ?_
  intro Y2 hY hoY
  have C2 := Lib.hid (C1.out.setN HC.out hoY _ hY)
  have A2 := Lib.hid (A1.out.only (S := fun j => j = gn) hoY (fun e => by have : q = gn := e; have := LT.out; omega))
  have Z2 := Lib.hid (Z1.out.only (S := fun j => j = gn) hoY (fun e => by have : q + 1 = gn := e; have := LT.out; omega))
  have R2 := Lib.hid (R1.out.only hoY (by intro lp b off e e2; have : b = gn := e2; have := HBr.out lp b off e; have := LT.out; omega))
  have O2 := Lib.hid (show Only (fun j => j = gn ∨ j = gr ∨ j = gh) w Y2 from O1.out.trans (hoY.mono (fun j _ e => by have : j = gn := e; simp [this])))
  clear hY hoY
  clear xn
  have xn := C2.out.cn.at 0 rfl
  have xd := C2.out.cd.at 0 rfl
  have xh := C2.out.ch.at 0 rfl
  have wm : IntKind.i64.wrap ((i : Int) + 1 - 1) = (i : Int) := by rw [i64w (by omega)]; omega
  by_cases hd : (i : Int) = den
  · have d : ((i : Int) == den) = true := by simpa using hd
    have HD := Lib.hid hd
    clear hd
    go_wp2_with (with_reducible refine at_store _ _ _ rfl ?_)
    refine Lib.hid ?_
    refine store_all rfl _ _ _ rfl (q + 1) [.int .u32 0, .int .i64 10] rfl rfl _ _ Z2.out (by kernel_rfl) rfl (by simp [Value.oneCell']) ?_
    intro V hV hoV
    have CV := Lib.hid (C2.out.only (S := fun j => j = q + 1) hoV (fun j hj e => by have : j = q + 1 := e; have := LT.out; omega))
    have OV := Lib.hid (show Only (fun j => j = gn ∨ j = gr ∨ j = gh) w V from O2.out.far hoV (fun m hm e => by have := HQ.out; have : m = q + 1 := e; omega))
    have p0 := hV.at 0 rfl
    have p1 := hV.at 1 rfl
    clear hV hoV xn xd xh
    go_wp2_with fail
    refine bodyPost_ret (v := .agg #[.int .u32 0, .int .i64 10]) ?_ rfl ⟨rfl, CV.out.as (by rw [HD.out]) (rfl), OV.out⟩
    simp [results, Try.results22, go_sem, p0, p1]
  · have d : ((i : Int) == den) = false := by simpa using hd
    have HD := Lib.hid hd
    clear hd
    go_wp2_with (with_reducible refine at_store _ _ _ rfl ?_)
    refine Lib.hid ?_
    refine store_all rfl _ _ _ rfl (q + 1) [.int .u32 (held), .int .i64 0] rfl rfl _ _ Z2.out (by kernel_rfl) rfl (by simp [Value.oneCell']) ?_
    intro V hV hoV
    have CV := Lib.hid (C2.out.only (S := fun j => j = q + 1) hoV (fun j hj e => by have : j = q + 1 := e; have := LT.out; omega))
    have OV := Lib.hid (show Only (fun j => j = gn ∨ j = gr ∨ j = gh) w V from O2.out.far hoV (fun m hm e => by have := HQ.out; have : m = q + 1 := e; omega))
    have p0 := hV.at 0 rfl
    have p1 := hV.at 1 rfl
    clear hV hoV xn xd xh
    go_wp2_with fail
    refine bodyPost_ret (v := .agg #[.int .u32 (held), .int .i64 0]) ?_ rfl ⟨rfl, CV.out.as (rfl) (rfl), OV.out⟩
    simp [results, Try.results22, go_sem, p0, p1]
end Go.Proofs.Ythpkebcedaakhaa.Dma
