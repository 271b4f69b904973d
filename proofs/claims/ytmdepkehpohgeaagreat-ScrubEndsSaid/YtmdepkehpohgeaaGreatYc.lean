/- What must hold of a device, as a row of method values; whether a device is right, its window. -/
import Derived.Test.YtmdepkehpohgeaaGreatYb
namespace Go.Proofs.YtmdepkehpohgeaaGreat.Win
open Go.RowKit Go.Maps Fifo Orow
open Go.Proofs.YtmdepkehpohgeaaGreat.Reach (ret_bool bcell)
set_option linter.unusedVariables false

def szB (k S : Int) : Bool := isV k && decide (loV k ≤ S) && decide (S ≤ hiV k)
def whB (B S : Int) : Bool := decide (B % 4 = 0 ∧ S % 4 = 0)
def enB (B S : Int) : Bool := Reach.ofB B S
def owB (O : Int) : Bool := decide (-1 ≤ O ∧ O < 8)
theorem devV_parts (k B S O L : Int) (hB : 0 ≤ B) : devV k B S O L = (szB k S && whB B S && enB B S && owB O && owB L) := by
  unfold devV szB whB enB owB sizeB isV Reach.ofB loV hiV
  rw [Bool.eq_iff_iff]
  simp only [Bool.and_eq_true, decide_eq_true_eq]
  by_cases h1 : k = 1
  · subst h1
    simp
    omega
  · rw [if_neg h1, if_neg h1, if_neg h1]
    by_cases h2 : 2 ≤ k ∧ k ≤ 6
    · rw [if_pos h2]
      simp only [decide_eq_true_eq]
      omega
    · rw [if_neg h2]
      simp only [decide_eq_true_eq]
      omega

theorem sized_any (k B S O L : Int) (b : Bool) (w : World) (hk : -9223372036854775808 ≤ k) (hk' : k ≤ 9223372036854775807) (hb : szB k S = b) :
    Calls Tryz.prog 123 #[dv k B S O L] w fun e w' => e = .returned (.bool b) ∧ Below w.heap.size w w' := by
  subst hb
  exact sized_core k B S O L _ _ _ false w hk hk' rfl rfl rfl
theorem whole_any (k B S O L : Int) (b : Bool) (w : World) (hB : 0 ≤ B) (hb : whB B S = b) :
    Calls Tryz.prog 124 #[dv k B S O L] w fun e w' => e = .returned (.bool b) ∧ Below w.heap.size w w' := by
  have c4 : (Int.tmod B 4 == 0) = (B % 4 == 0) := by rw [Int.tmod_eq_emod_of_nonneg hB]
  by_cases h1 : B % 4 = 0
  · have e1 : (B % 4 == 0) = true := by simpa using h1
    have hb2 : b = decide (Int.tmod S 4 = 0) := by
      rw [← hb]; unfold whB; rw [decide_eq_decide]
      simp only [h1, true_and]
      rw [← Int.dvd_iff_tmod_eq_zero]
      omega
    subst hb2
    clear hb h1
    go_enter Tryz.func124, Tryz.ntmps124
    go_wp2_with fail
    go_ret
    exact ⟨by first | rfl | exact ret_bool (by rw [Bool.eq_iff_iff]; simp), (Below.refl _ _).alloc (Nat.le_refl _) _⟩
  · have e1 : (B % 4 == 0) = false := by simpa using h1
    have hb2 : b = false := by rw [← hb]; unfold whB; exact decide_eq_false (by omega)
    subst hb2
    clear hb h1
    go_enter Tryz.func124, Tryz.ntmps124
    go_wp2_with fail
    go_ret
    exact ⟨rfl, (Below.refl _ _).alloc (Nat.le_refl _) _⟩
theorem owned_any (k B S O L : Int) (b : Bool) (w : World) (hb : owB O = b) :
    Calls Tryz.prog 126 #[dv k B S O L] w fun e w' => e = .returned (.bool b) ∧ Below w.heap.size w w' := by
  by_cases h1 : -1 ≤ O
  · have e1 : decide (-1 ≤ O) = true := decide_eq_true h1
    have hb2 : b = decide (O < 8) := by rw [← hb]; unfold owB; rw [decide_eq_decide]; omega
    subst hb2
    clear hb
    go_enter Tryz.func126, Tryz.ntmps126
    go_wp2_with fail
    go_ret
    exact ⟨rfl, (Below.refl _ _).alloc (Nat.le_refl _) _⟩
  · have e1 : decide (-1 ≤ O) = false := decide_eq_false h1
    have hb2 : b = false := by rw [← hb]; unfold owB; exact decide_eq_false (by omega)
    subst hb2
    clear hb
    go_enter Tryz.func126, Tryz.ntmps126
    go_wp2_with fail
    go_ret
    exact ⟨rfl, (Below.refl _ _).alloc (Nat.le_refl _) _⟩
theorem lined_any (k B S O L : Int) (b : Bool) (w : World) (hb : owB L = b) :
    Calls Tryz.prog 127 #[dv k B S O L] w fun e w' => e = .returned (.bool b) ∧ Below w.heap.size w w' := by
  by_cases h1 : -1 ≤ L
  · have e1 : decide (-1 ≤ L) = true := decide_eq_true h1
    have hb2 : b = decide (L < 8) := by rw [← hb]; unfold owB; rw [decide_eq_decide]; omega
    subst hb2
    clear hb
    go_enter Tryz.func127, Tryz.ntmps127
    go_wp2_with fail
    go_ret
    exact ⟨rfl, (Below.refl _ _).alloc (Nat.le_refl _) _⟩
  · have e1 : decide (-1 ≤ L) = false := decide_eq_false h1
    have hb2 : b = false := by rw [← hb]; unfold owB; exact decide_eq_false (by omega)
    subst hb2
    clear hb
    go_enter Tryz.func127, Tryz.ntmps127
    go_wp2_with fail
    go_ret
    exact ⟨rfl, (Below.refl _ _).alloc (Nat.le_refl _) _⟩
theorem window_core (k B S O L x y : Int) (b : Bool) (w : World)
    (Of : ∀ w, Calls Tryz.prog 115 #[.int .u32 B, .int .i64 S] w fun e w' => e = .returned (.tuple #[.agg #[.int .u32 x, .int .u32 y], .bool b]) ∧ Below w.heap.size w w') :
    Calls Tryz.prog 95 #[dv k B S O L] w fun e w' => e = .returned (.tuple #[.agg #[.int .u32 x, .int .u32 y], .bool b]) ∧ Below w.heap.size w w' := by
  obtain ⟨e0, e1, e2, e3, e4⟩ := (atD_new w k B S O L 147).keep ((Below.refl _ _).alloc (Nat.le_refl _) (.cells #[.int .u32 0, .int .u32 0] 99))
  simp only [Nat.zero_add] at e1 e2
  go_enter Tryz.func95, Tryz.ntmps95
  go_wp2_with fail
  refine (Of _).mono ?_
  rintro e w1 ⟨rfl, hb⟩
  obtain ⟨hc, hf⟩ := bcell hb
  have h0 := hc (w.heap.size + 1) 0 (by simp)
  have h1 := hc (w.heap.size + 1) 1 (by simp)
  have f0 := hf (w.heap.size + 1) 0 (by simp)
  have f1 := hf (w.heap.size + 1) 1 (by simp)
  simp [go_sem] at h0 h1 f0 f1
  have hsz := hb.size
  have Hb := Lib.hid ((((Below.refl w.heap.size w).alloc (Nat.le_refl _) _).alloc (by simp) _).trans (hb.mono (by simp; omega)))
  have hlt : w.heap.size + 1 < w1.heap.size := by simp at hsz; omega
  clear hb hc hf hsz e0 e1 e2 e3 e4
  go_wp2_with fail
  refine bodyPost_ret (v := .tuple #[.agg #[.int .u32 x, .int .u32 y], .bool b]) ?_ rfl ⟨rfl, (Hb.out.setCell (by simp) _).setCell (by simp) _⟩
  simp [results, Tryz.results95, go_sem, h0, h1]
theorem window_any (k B S O L x y : Int) (b : Bool) (w : World) (hB : 0 ≤ B) (hB' : B < 4294967296) (hS : -9223372036854775808 ≤ S) (hS' : S ≤ 9223372036854775807) (hx : Reach.ofF B S = x) (hy : Reach.ofT B S = y) (hb : Reach.ofB B S = b) :
    Calls Tryz.prog 95 #[dv k B S O L] w fun e w' => e = .returned (.tuple #[.agg #[.int .u32 x, .int .u32 y], .bool b]) ∧ Below w.heap.size w w' := by
  subst hx; subst hy; subst hb
  exact window_core k B S O L _ _ _ w (fun w => Reach.Of_any B S w hB hB' hS hS')
theorem ends_core (k B S O L x y : Int) (b : Bool) (w : World)
    (W : ∀ w, Calls Tryz.prog 95 #[dv k B S O L] w fun e w' => e = .returned (.tuple #[.agg #[.int .u32 x, .int .u32 y], .bool b]) ∧ Below w.heap.size w w') :
    Calls Tryz.prog 125 #[dv k B S O L] w fun e w' => e = .returned (.bool b) ∧ Below w.heap.size w w' := by
  obtain ⟨e0, e1, e2, e3, e4⟩ := atD_new w k B S O L 147
  go_enter Tryz.func125, Tryz.ntmps125
  go_wp2_with fail
  refine (W _).mono ?_
  rintro e w1 ⟨rfl, hb⟩
  have Hb := Lib.hid (((Below.refl w.heap.size w).alloc (Nat.le_refl _) _).trans (hb.mono (by simp)))
  clear hb e0 e1 e2 e3 e4
  go_wp2_with fail
  go_ret
  exact ⟨rfl, Hb.out.alloc Hb.out.size _⟩
theorem ends_any (k B S O L : Int) (b : Bool) (w : World) (hB : 0 ≤ B) (hB' : B < 4294967296) (hS : -9223372036854775808 ≤ S) (hS' : S ≤ 9223372036854775807) (hb : enB B S = b) :
    Calls Tryz.prog 125 #[dv k B S O L] w fun e w' => e = .returned (.bool b) ∧ Below w.heap.size w w' :=
  ends_core k B S O L _ _ b w (fun w => window_any k B S O L _ _ b w hB hB' hS hS' rfl rfl hb)

/-- The row of what must hold. -/
structure Asks (w : World) (g : Nat) (v : Value) : Prop where
  c0 : w.cell? ⟨g, 0, none⟩ = some (.func (.func 123) #[v] #[])
  c1 : w.cell? ⟨g, 1, none⟩ = some (.func (.func 124) #[v] #[])
  c2 : w.cell? ⟨g, 2, none⟩ = some (.func (.func 125) #[v] #[])
  c3 : w.cell? ⟨g, 3, none⟩ = some (.func (.func 126) #[v] #[])
  c4 : w.cell? ⟨g, 4, none⟩ = some (.func (.func 127) #[v] #[])
theorem Asks.keep {w w' : World} {g : Nat} {v : Value} (h : Asks w g v) (hb : Below w.heap.size w w') : Asks w' g v := ⟨cell_keep hb h.c0, cell_keep hb h.c1, cell_keep hb h.c2, cell_keep hb h.c3, cell_keep hb h.c4⟩
theorem asks_new (w : World) (v : Value) (o : Obj) (g : Nat) (hg : w.heap.size + 1 = g) (W0 : World)
    (hW : W0 = (w.alloc o).alloc (.cells #[.func (.func 123) #[v] #[], .func (.func 124) #[v] #[], .func (.func 125) #[v] #[], .func (.func 126) #[v] #[], .func (.func 127) #[v] #[]] 24)) :
    Asks W0 g v ∧ Below w.heap.size w W0 := by
  subst hW
  have e : (w.alloc o).heap.size = g := by simpa using hg
  subst e
  exact ⟨⟨World.cell?_alloc_at _ _ _ 0 rfl, World.cell?_alloc_at _ _ _ 1 rfl, World.cell?_alloc_at _ _ _ 2 rfl, World.cell?_alloc_at _ _ _ 3 rfl, World.cell?_alloc_at _ _ _ 4 rfl⟩, ((Below.refl _ _).alloc (Nat.le_refl _) _).alloc (by simp) _⟩
theorem right_1 (k B S O L : Int) (w : World)
    (q0 : ∀ w, Calls Tryz.prog 123 #[dv k B S O L] w fun e w' => e = .returned (.bool false) ∧ Below w.heap.size w w') :
    Calls Tryz.prog 114 #[dv k B S O L] w fun e w' => e = .returned (.bool false) ∧ Below w.heap.size w w' := by
  have hmf : ∀ (fn : Fn) (first cap : Array Value) (w : World), (Instr.makeFunc fn first cap).run Tryz.prog w = .ok (.func fn first cap) w := fun _ _ _ _ => rfl
  go_enter Tryz.func114, Tryz.ntmps114
  go_wp2_with fail
  obtain ⟨v, hv⟩ : ∃ v, v = dv k B S O L := ⟨_, rfl⟩
  obtain ⟨W0, hW0⟩ : ∃ X : World, X = (w.alloc (.cells #[.int .i64 k, .int .u32 B, .int .i64 S, .int .i64 O, .int .i64 L] 147)).alloc (.cells #[.func (.func 123) #[v] #[], .func (.func 124) #[v] #[], .func (.func 125) #[v] #[], .func (.func 126) #[v] #[], .func (.func 127) #[v] #[]] 24) := ⟨_, rfl⟩
  have hA := asks_new w v _ _ rfl W0 hW0
  subst hv
  rw [← hW0]
  obtain ⟨g, hg⟩ : ∃ g, w.heap.size + 1 = g := ⟨_, rfl⟩
  rw [hg] at hA
  rw [hg]
  have HA := Lib.hid hA.1
  have HB := Lib.hid hA.2
  clear hA hg hW0
  refine wp_loop_rounds 6 ?_
  rw [rounds_succ]
  have d0 := HA.out.c0
  go_wp2_with fail
  refine (q0 _).mono ?_
  rintro e w1 ⟨rfl, hb⟩
  have HA1 := Lib.hid (HA.out.keep hb)
  have HB1 := Lib.hid (HB.out.trans (hb.mono HB.out.size))
  clear hb d0
  go_wp2_with fail
  go_ret
  exact ⟨rfl, HB1.out⟩
theorem right_2 (k B S O L : Int) (w : World)
    (q0 : ∀ w, Calls Tryz.prog 123 #[dv k B S O L] w fun e w' => e = .returned (.bool true) ∧ Below w.heap.size w w')
    (q1 : ∀ w, Calls Tryz.prog 124 #[dv k B S O L] w fun e w' => e = .returned (.bool false) ∧ Below w.heap.size w w') :
    Calls Tryz.prog 114 #[dv k B S O L] w fun e w' => e = .returned (.bool false) ∧ Below w.heap.size w w' := by
  have hmf : ∀ (fn : Fn) (first cap : Array Value) (w : World), (Instr.makeFunc fn first cap).run Tryz.prog w = .ok (.func fn first cap) w := fun _ _ _ _ => rfl
  go_enter Tryz.func114, Tryz.ntmps114
  go_wp2_with fail
  obtain ⟨v, hv⟩ : ∃ v, v = dv k B S O L := ⟨_, rfl⟩
  obtain ⟨W0, hW0⟩ : ∃ X : World, X = (w.alloc (.cells #[.int .i64 k, .int .u32 B, .int .i64 S, .int .i64 O, .int .i64 L] 147)).alloc (.cells #[.func (.func 123) #[v] #[], .func (.func 124) #[v] #[], .func (.func 125) #[v] #[], .func (.func 126) #[v] #[], .func (.func 127) #[v] #[]] 24) := ⟨_, rfl⟩
  have hA := asks_new w v _ _ rfl W0 hW0
  subst hv
  rw [← hW0]
  obtain ⟨g, hg⟩ : ∃ g, w.heap.size + 1 = g := ⟨_, rfl⟩
  rw [hg] at hA
  rw [hg]
  have HA := Lib.hid hA.1
  have HB := Lib.hid hA.2
  clear hA hg hW0
  refine wp_loop_rounds 6 ?_
  rw [rounds_succ]
  have d0 := HA.out.c0
  go_wp2_with fail
  refine (q0 _).mono ?_
  rintro e w1 ⟨rfl, hb⟩
  have HA1 := Lib.hid (HA.out.keep hb)
  have HB1 := Lib.hid (HB.out.trans (hb.mono HB.out.size))
  clear hb d0
  go_wp2_with fail
  rw [rounds_succ]
  have d1 := HA1.out.c1
  go_wp2_with fail
  refine (q1 _).mono ?_
  rintro e w2 ⟨rfl, hb⟩
  have HA2 := Lib.hid (HA1.out.keep hb)
  have HB2 := Lib.hid (HB1.out.trans (hb.mono HB1.out.size))
  clear hb d1
  go_wp2_with fail
  go_ret
  exact ⟨rfl, HB2.out⟩
theorem right_3 (k B S O L : Int) (w : World)
    (q0 : ∀ w, Calls Tryz.prog 123 #[dv k B S O L] w fun e w' => e = .returned (.bool true) ∧ Below w.heap.size w w')
    (q1 : ∀ w, Calls Tryz.prog 124 #[dv k B S O L] w fun e w' => e = .returned (.bool true) ∧ Below w.heap.size w w')
    (q2 : ∀ w, Calls Tryz.prog 125 #[dv k B S O L] w fun e w' => e = .returned (.bool false) ∧ Below w.heap.size w w') :
    Calls Tryz.prog 114 #[dv k B S O L] w fun e w' => e = .returned (.bool false) ∧ Below w.heap.size w w' := by
  have hmf : ∀ (fn : Fn) (first cap : Array Value) (w : World), (Instr.makeFunc fn first cap).run Tryz.prog w = .ok (.func fn first cap) w := fun _ _ _ _ => rfl
  go_enter Tryz.func114, Tryz.ntmps114
  go_wp2_with fail
  obtain ⟨v, hv⟩ : ∃ v, v = dv k B S O L := ⟨_, rfl⟩
  obtain ⟨W0, hW0⟩ : ∃ X : World, X = (w.alloc (.cells #[.int .i64 k, .int .u32 B, .int .i64 S, .int .i64 O, .int .i64 L] 147)).alloc (.cells #[.func (.func 123) #[v] #[], .func (.func 124) #[v] #[], .func (.func 125) #[v] #[], .func (.func 126) #[v] #[], .func (.func 127) #[v] #[]] 24) := ⟨_, rfl⟩
  have hA := asks_new w v _ _ rfl W0 hW0
  subst hv
  rw [← hW0]
  obtain ⟨g, hg⟩ : ∃ g, w.heap.size + 1 = g := ⟨_, rfl⟩
  rw [hg] at hA
  rw [hg]
  have HA := Lib.hid hA.1
  have HB := Lib.hid hA.2
  clear hA hg hW0
  refine wp_loop_rounds 6 ?_
  rw [rounds_succ]
  have d0 := HA.out.c0
  go_wp2_with fail
  refine (q0 _).mono ?_
  rintro e w1 ⟨rfl, hb⟩
  have HA1 := Lib.hid (HA.out.keep hb)
  have HB1 := Lib.hid (HB.out.trans (hb.mono HB.out.size))
  clear hb d0
  go_wp2_with fail
  rw [rounds_succ]
  have d1 := HA1.out.c1
  go_wp2_with fail
  refine (q1 _).mono ?_
  rintro e w2 ⟨rfl, hb⟩
  have HA2 := Lib.hid (HA1.out.keep hb)
  have HB2 := Lib.hid (HB1.out.trans (hb.mono HB1.out.size))
  clear hb d1
  go_wp2_with fail
  rw [rounds_succ]
  have d2 := HA2.out.c2
  go_wp2_with fail
  refine (q2 _).mono ?_
  rintro e w3 ⟨rfl, hb⟩
  have HA3 := Lib.hid (HA2.out.keep hb)
  have HB3 := Lib.hid (HB2.out.trans (hb.mono HB2.out.size))
  clear hb d2
  go_wp2_with fail
  go_ret
  exact ⟨rfl, HB3.out⟩
theorem right_4 (k B S O L : Int) (w : World)
    (q0 : ∀ w, Calls Tryz.prog 123 #[dv k B S O L] w fun e w' => e = .returned (.bool true) ∧ Below w.heap.size w w')
    (q1 : ∀ w, Calls Tryz.prog 124 #[dv k B S O L] w fun e w' => e = .returned (.bool true) ∧ Below w.heap.size w w')
    (q2 : ∀ w, Calls Tryz.prog 125 #[dv k B S O L] w fun e w' => e = .returned (.bool true) ∧ Below w.heap.size w w')
    (q3 : ∀ w, Calls Tryz.prog 126 #[dv k B S O L] w fun e w' => e = .returned (.bool false) ∧ Below w.heap.size w w') :
    Calls Tryz.prog 114 #[dv k B S O L] w fun e w' => e = .returned (.bool false) ∧ Below w.heap.size w w' := by
  have hmf : ∀ (fn : Fn) (first cap : Array Value) (w : World), (Instr.makeFunc fn first cap).run Tryz.prog w = .ok (.func fn first cap) w := fun _ _ _ _ => rfl
  go_enter Tryz.func114, Tryz.ntmps114
  go_wp2_with fail
  obtain ⟨v, hv⟩ : ∃ v, v = dv k B S O L := ⟨_, rfl⟩
  obtain ⟨W0, hW0⟩ : ∃ X : World, X = (w.alloc (.cells #[.int .i64 k, .int .u32 B, .int .i64 S, .int .i64 O, .int .i64 L] 147)).alloc (.cells #[.func (.func 123) #[v] #[], .func (.func 124) #[v] #[], .func (.func 125) #[v] #[], .func (.func 126) #[v] #[], .func (.func 127) #[v] #[]] 24) := ⟨_, rfl⟩
  have hA := asks_new w v _ _ rfl W0 hW0
  subst hv
  rw [← hW0]
  obtain ⟨g, hg⟩ : ∃ g, w.heap.size + 1 = g := ⟨_, rfl⟩
  rw [hg] at hA
  rw [hg]
  have HA := Lib.hid hA.1
  have HB := Lib.hid hA.2
  clear hA hg hW0
  refine wp_loop_rounds 6 ?_
  rw [rounds_succ]
  have d0 := HA.out.c0
  go_wp2_with fail
  refine (q0 _).mono ?_
  rintro e w1 ⟨rfl, hb⟩
  have HA1 := Lib.hid (HA.out.keep hb)
  have HB1 := Lib.hid (HB.out.trans (hb.mono HB.out.size))
  clear hb d0
  go_wp2_with fail
  rw [rounds_succ]
  have d1 := HA1.out.c1
  go_wp2_with fail
  refine (q1 _).mono ?_
  rintro e w2 ⟨rfl, hb⟩
  have HA2 := Lib.hid (HA1.out.keep hb)
  have HB2 := Lib.hid (HB1.out.trans (hb.mono HB1.out.size))
  clear hb d1
  go_wp2_with fail
  rw [rounds_succ]
  have d2 := HA2.out.c2
  go_wp2_with fail
  refine (q2 _).mono ?_
  rintro e w3 ⟨rfl, hb⟩
  have HA3 := Lib.hid (HA2.out.keep hb)
  have HB3 := Lib.hid (HB2.out.trans (hb.mono HB2.out.size))
  clear hb d2
  go_wp2_with fail
  rw [rounds_succ]
  have d3 := HA3.out.c3
  go_wp2_with fail
  refine (q3 _).mono ?_
  rintro e w4 ⟨rfl, hb⟩
  have HA4 := Lib.hid (HA3.out.keep hb)
  have HB4 := Lib.hid (HB3.out.trans (hb.mono HB3.out.size))
  clear hb d3
  go_wp2_with fail
  go_ret
  exact ⟨rfl, HB4.out⟩
theorem right_5 (k B S O L : Int) (w : World)
    (q0 : ∀ w, Calls Tryz.prog 123 #[dv k B S O L] w fun e w' => e = .returned (.bool true) ∧ Below w.heap.size w w')
    (q1 : ∀ w, Calls Tryz.prog 124 #[dv k B S O L] w fun e w' => e = .returned (.bool true) ∧ Below w.heap.size w w')
    (q2 : ∀ w, Calls Tryz.prog 125 #[dv k B S O L] w fun e w' => e = .returned (.bool true) ∧ Below w.heap.size w w')
    (q3 : ∀ w, Calls Tryz.prog 126 #[dv k B S O L] w fun e w' => e = .returned (.bool true) ∧ Below w.heap.size w w')
    (q4 : ∀ w, Calls Tryz.prog 127 #[dv k B S O L] w fun e w' => e = .returned (.bool false) ∧ Below w.heap.size w w') :
    Calls Tryz.prog 114 #[dv k B S O L] w fun e w' => e = .returned (.bool false) ∧ Below w.heap.size w w' := by
  have hmf : ∀ (fn : Fn) (first cap : Array Value) (w : World), (Instr.makeFunc fn first cap).run Tryz.prog w = .ok (.func fn first cap) w := fun _ _ _ _ => rfl
  go_enter Tryz.func114, Tryz.ntmps114
  go_wp2_with fail
  obtain ⟨v, hv⟩ : ∃ v, v = dv k B S O L := ⟨_, rfl⟩
  obtain ⟨W0, hW0⟩ : ∃ X : World, X = (w.alloc (.cells #[.int .i64 k, .int .u32 B, .int .i64 S, .int .i64 O, .int .i64 L] 147)).alloc (.cells #[.func (.func 123) #[v] #[], .func (.func 124) #[v] #[], .func (.func 125) #[v] #[], .func (.func 126) #[v] #[], .func (.func 127) #[v] #[]] 24) := ⟨_, rfl⟩
  have hA := asks_new w v _ _ rfl W0 hW0
  subst hv
  rw [← hW0]
  obtain ⟨g, hg⟩ : ∃ g, w.heap.size + 1 = g := ⟨_, rfl⟩
  rw [hg] at hA
  rw [hg]
  have HA := Lib.hid hA.1
  have HB := Lib.hid hA.2
  clear hA hg hW0
  refine wp_loop_rounds 6 ?_
  rw [rounds_succ]
  have d0 := HA.out.c0
  go_wp2_with fail
  refine (q0 _).mono ?_
  rintro e w1 ⟨rfl, hb⟩
  have HA1 := Lib.hid (HA.out.keep hb)
  have HB1 := Lib.hid (HB.out.trans (hb.mono HB.out.size))
  clear hb d0
  go_wp2_with fail
  rw [rounds_succ]
  have d1 := HA1.out.c1
  go_wp2_with fail
  refine (q1 _).mono ?_
  rintro e w2 ⟨rfl, hb⟩
  have HA2 := Lib.hid (HA1.out.keep hb)
  have HB2 := Lib.hid (HB1.out.trans (hb.mono HB1.out.size))
  clear hb d1
  go_wp2_with fail
  rw [rounds_succ]
  have d2 := HA2.out.c2
  go_wp2_with fail
  refine (q2 _).mono ?_
  rintro e w3 ⟨rfl, hb⟩
  have HA3 := Lib.hid (HA2.out.keep hb)
  have HB3 := Lib.hid (HB2.out.trans (hb.mono HB2.out.size))
  clear hb d2
  go_wp2_with fail
  rw [rounds_succ]
  have d3 := HA3.out.c3
  go_wp2_with fail
  refine (q3 _).mono ?_
  rintro e w4 ⟨rfl, hb⟩
  have HA4 := Lib.hid (HA3.out.keep hb)
  have HB4 := Lib.hid (HB3.out.trans (hb.mono HB3.out.size))
  clear hb d3
  go_wp2_with fail
  rw [rounds_succ]
  have d4 := HA4.out.c4
  go_wp2_with fail
  refine (q4 _).mono ?_
  rintro e w5 ⟨rfl, hb⟩
  have HA5 := Lib.hid (HA4.out.keep hb)
  have HB5 := Lib.hid (HB4.out.trans (hb.mono HB4.out.size))
  clear hb d4
  go_wp2_with fail
  go_ret
  exact ⟨rfl, HB5.out⟩
theorem right_6 (k B S O L : Int) (w : World)
    (q0 : ∀ w, Calls Tryz.prog 123 #[dv k B S O L] w fun e w' => e = .returned (.bool true) ∧ Below w.heap.size w w')
    (q1 : ∀ w, Calls Tryz.prog 124 #[dv k B S O L] w fun e w' => e = .returned (.bool true) ∧ Below w.heap.size w w')
    (q2 : ∀ w, Calls Tryz.prog 125 #[dv k B S O L] w fun e w' => e = .returned (.bool true) ∧ Below w.heap.size w w')
    (q3 : ∀ w, Calls Tryz.prog 126 #[dv k B S O L] w fun e w' => e = .returned (.bool true) ∧ Below w.heap.size w w')
    (q4 : ∀ w, Calls Tryz.prog 127 #[dv k B S O L] w fun e w' => e = .returned (.bool true) ∧ Below w.heap.size w w') :
    Calls Tryz.prog 114 #[dv k B S O L] w fun e w' => e = .returned (.bool true) ∧ Below w.heap.size w w' := by
  have hmf : ∀ (fn : Fn) (first cap : Array Value) (w : World), (Instr.makeFunc fn first cap).run Tryz.prog w = .ok (.func fn first cap) w := fun _ _ _ _ => rfl
  go_enter Tryz.func114, Tryz.ntmps114
  go_wp2_with fail
  obtain ⟨v, hv⟩ : ∃ v, v = dv k B S O L := ⟨_, rfl⟩
  obtain ⟨W0, hW0⟩ : ∃ X : World, X = (w.alloc (.cells #[.int .i64 k, .int .u32 B, .int .i64 S, .int .i64 O, .int .i64 L] 147)).alloc (.cells #[.func (.func 123) #[v] #[], .func (.func 124) #[v] #[], .func (.func 125) #[v] #[], .func (.func 126) #[v] #[], .func (.func 127) #[v] #[]] 24) := ⟨_, rfl⟩
  have hA := asks_new w v _ _ rfl W0 hW0
  subst hv
  rw [← hW0]
  obtain ⟨g, hg⟩ : ∃ g, w.heap.size + 1 = g := ⟨_, rfl⟩
  rw [hg] at hA
  rw [hg]
  have HA := Lib.hid hA.1
  have HB := Lib.hid hA.2
  clear hA hg hW0
  refine wp_loop_rounds 6 ?_
  rw [rounds_succ]
  have d0 := HA.out.c0
  go_wp2_with fail
  refine (q0 _).mono ?_
  rintro e w1 ⟨rfl, hb⟩
  have HA1 := Lib.hid (HA.out.keep hb)
  have HB1 := Lib.hid (HB.out.trans (hb.mono HB.out.size))
  clear hb d0
  go_wp2_with fail
  rw [rounds_succ]
  have d1 := HA1.out.c1
  go_wp2_with fail
  refine (q1 _).mono ?_
  rintro e w2 ⟨rfl, hb⟩
  have HA2 := Lib.hid (HA1.out.keep hb)
  have HB2 := Lib.hid (HB1.out.trans (hb.mono HB1.out.size))
  clear hb d1
  go_wp2_with fail
  rw [rounds_succ]
  have d2 := HA2.out.c2
  go_wp2_with fail
  refine (q2 _).mono ?_
  rintro e w3 ⟨rfl, hb⟩
  have HA3 := Lib.hid (HA2.out.keep hb)
  have HB3 := Lib.hid (HB2.out.trans (hb.mono HB2.out.size))
  clear hb d2
  go_wp2_with fail
  rw [rounds_succ]
  have d3 := HA3.out.c3
  go_wp2_with fail
  refine (q3 _).mono ?_
  rintro e w4 ⟨rfl, hb⟩
  have HA4 := Lib.hid (HA3.out.keep hb)
  have HB4 := Lib.hid (HB3.out.trans (hb.mono HB3.out.size))
  clear hb d3
  go_wp2_with fail
  rw [rounds_succ]
  have d4 := HA4.out.c4
  go_wp2_with fail
  refine (q4 _).mono ?_
  rintro e w5 ⟨rfl, hb⟩
  have HA5 := Lib.hid (HA4.out.keep hb)
  have HB5 := Lib.hid (HB4.out.trans (hb.mono HB4.out.size))
  clear hb d4
  go_wp2_with fail
  rw [rounds_succ]
  go_wp2_with fail
  go_ret
  exact ⟨rfl, HB5.out⟩
theorem right_any (k B S O L : Int) (b : Bool) (w : World) (hk : -9223372036854775808 ≤ k) (hk' : k ≤ 9223372036854775807) (hB : 0 ≤ B) (hB' : B < 4294967296) (hS : -9223372036854775808 ≤ S) (hS' : S ≤ 9223372036854775807) (hb : devV k B S O L = b) :
    Calls Tryz.prog 114 #[dv k B S O L] w fun e w' => e = .returned (.bool b) ∧ Below w.heap.size w w' := by
  rw [devV_parts k B S O L hB] at hb
  subst hb
  cases h0 : szB k S
  · exact right_1 k B S O L w (fun w => sized_any k B S O L _ w hk hk' h0)
  cases h1 : whB B S
  · exact right_2 k B S O L w (fun w => sized_any k B S O L _ w hk hk' h0) (fun w => whole_any k B S O L _ w hB h1)
  cases h2 : enB B S
  · exact right_3 k B S O L w (fun w => sized_any k B S O L _ w hk hk' h0) (fun w => whole_any k B S O L _ w hB h1) (fun w => ends_any k B S O L _ w hB hB' hS hS' h2)
  cases h3 : owB O
  · exact right_4 k B S O L w (fun w => sized_any k B S O L _ w hk hk' h0) (fun w => whole_any k B S O L _ w hB h1) (fun w => ends_any k B S O L _ w hB hB' hS hS' h2) (fun w => owned_any k B S O L _ w  h3)
  cases h4 : owB L
  · exact right_5 k B S O L w (fun w => sized_any k B S O L _ w hk hk' h0) (fun w => whole_any k B S O L _ w hB h1) (fun w => ends_any k B S O L _ w hB hB' hS hS' h2) (fun w => owned_any k B S O L _ w  h3) (fun w => lined_any k B S O L _ w  h4)
  · exact right_6 k B S O L w (fun w => sized_any k B S O L _ w hk hk' h0) (fun w => whole_any k B S O L _ w hB h1) (fun w => ends_any k B S O L _ w hB hB' hS hS' h2) (fun w => owned_any k B S O L _ w  h3) (fun w => lined_any k B S O L _ w  h4)
theorem Device_any (k B S O L : Int) (b : Bool) (w : World) (hk : -9223372036854775808 ≤ k) (hk' : k ≤ 9223372036854775807) (hB : 0 ≤ B) (hB' : B < 4294967296) (hS : -9223372036854775808 ≤ S) (hS' : S ≤ 9223372036854775807) (hb : devV k B S O L = b) :
    Calls Tryz.prog 94 #[dv k B S O L] w fun e w' => e = .returned (.bool b) ∧ Below w.heap.size w w' := by
  have C := fun w => right_any k B S O L b w hk hk' hB hB' hS hS' hb
  have HC := Lib.hid C
  clear C hb
  obtain ⟨e0, e1, e2, e3, e4⟩ := atD_new w k B S O L 45
  go_enter Tryz.func94, Tryz.ntmps94
  go_wp2_with fail
  refine (HC.out _).mono ?_
  rintro e w1 ⟨rfl, hb1⟩
  have ha := (Below.refl w.heap.size w).alloc (Nat.le_refl _) (.cells #[.int .i64 k, .int .u32 B, .int .i64 S, .int .i64 O, .int .i64 L] 45)
  have B1 := Lib.hid (ha.trans (hb1.mono ha.size))
  clear hb1 ha e0 e1 e2 e3 e4
  go_wp2_with fail
  go_ret
  exact ⟨rfl, B1.out⟩
theorem Reach_no (k B S O L : Int) (w : World)
    (R : ∀ w, Calls Tryz.prog 94 #[dv k B S O L] w fun e w' => e = .returned (.bool false) ∧ Below w.heap.size w w') :
    Calls Tryz.prog 70 #[dv k B S O L] w fun e w' => e = .returned (.tuple #[.agg #[.int .u32 0, .int .u32 0], .bool false]) ∧ Below w.heap.size w w' := by
  obtain ⟨e0, e1, e2, e3, e4⟩ := (atD_new w k B S O L 45).keep ((Below.refl _ _).alloc (Nat.le_refl _) (.cells #[.int .u32 0, .int .u32 0] 99))
  go_enter Tryz.func70, Tryz.ntmps70
  go_wp2_with fail
  refine (R _).mono ?_
  rintro e w1 ⟨rfl, hb⟩
  obtain ⟨hc, hf⟩ := bcell hb
  have Hb := Lib.hid ((((Below.refl w.heap.size w).alloc (Nat.le_refl _) _).alloc (by simp) _).trans (hb.mono (by simp; omega)))
  clear hb e0 e1 e2 e3 e4
  go_wp2_with fail
  refine bodyPost_ret (v := .tuple #[.agg #[.int .u32 0, .int .u32 0], .bool false]) ?_ rfl ⟨rfl, (Hb.out.setCell (by simp) _).setCell (by simp) _⟩
  have h0 := hc (w.heap.size + 1) 0 (by simp)
  have h1 := hc (w.heap.size + 1) 1 (by simp)
  simp [results, Tryz.results70, go_sem, h0, h1]
theorem Reach_yes (k B S O L x y : Int) (b : Bool) (w : World)
    (R : ∀ w, Calls Tryz.prog 94 #[dv k B S O L] w fun e w' => e = .returned (.bool true) ∧ Below w.heap.size w w')
    (W : ∀ w, Calls Tryz.prog 95 #[dv k B S O L] w fun e w' => e = .returned (.tuple #[.agg #[.int .u32 x, .int .u32 y], .bool b]) ∧ Below w.heap.size w w') :
    Calls Tryz.prog 70 #[dv k B S O L] w fun e w' => e = .returned (.tuple #[.agg #[.int .u32 x, .int .u32 y], .bool b]) ∧ Below w.heap.size w w' := by
  have HD := Lib.hid ((atD_new w k B S O L 45).keep ((Below.refl _ _).alloc (Nat.le_refl _) (.cells #[.int .u32 0, .int .u32 0] 99)))
  obtain ⟨e0, e1, e2, e3, e4⟩ := HD.out
  go_enter Tryz.func70, Tryz.ntmps70
  go_wp2_with fail
  refine (R _).mono ?_
  rintro e w1 ⟨rfl, hb⟩
  obtain ⟨hc, hf⟩ := bcell hb
  clear e0 e1 e2 e3 e4
  obtain ⟨k0, k1, k2, k3, k4⟩ := HD.out.keep hb
  have h0 := hc (w.heap.size + 1) 0 (by simp)
  have h1 := hc (w.heap.size + 1) 1 (by simp)
  have f0 := hf (w.heap.size + 1) 0 (by simp)
  have f1 := hf (w.heap.size + 1) 1 (by simp)
  simp [go_sem] at h0 h1 f0 f1
  have hsz := hb.size
  have Hb := Lib.hid ((((Below.refl w.heap.size w).alloc (Nat.le_refl _) _).alloc (by simp) _).trans (hb.mono (by simp; omega)))
  clear hb hc hf
  have hlt : w.heap.size + 1 < w1.heap.size := by simp at hsz; omega
  clear hsz
  go_wp2_with fail
  refine (W _).mono ?_
  rintro e w2 ⟨rfl, hb⟩
  obtain ⟨hc, hf⟩ := bcell hb
  have h0 := (hc (w.heap.size + 1) 0 hlt).trans h0
  have h1 := (hc (w.heap.size + 1) 1 hlt).trans h1
  have f0 := (hf (w.heap.size + 1) 0 hlt).trans f0
  have f1 := (hf (w.heap.size + 1) 1 hlt).trans f1
  have Hb2 := Lib.hid (Hb.out.trans (hb.mono Hb.out.size))
  clear hb hc hf k0 k1 k2 k3 k4
  go_wp2_with fail
  refine bodyPost_ret (v := .tuple #[.agg #[.int .u32 x, .int .u32 y], .bool b]) ?_ rfl ⟨rfl, (Hb2.out.setCell (by simp) _).setCell (by simp) _⟩
  simp [results, Tryz.results70, go_sem, h0, h1]
theorem Reach_any (k B S O L x y : Int) (b : Bool) (w : World) (hk : -9223372036854775808 ≤ k) (hk' : k ≤ 9223372036854775807) (hB : 0 ≤ B) (hB' : B < 4294967296) (hS : -9223372036854775808 ≤ S) (hS' : S ≤ 9223372036854775807) (hb : devV k B S O L = b) (hx : winF b B = x) (hy : winT b B S = y) :
    Calls Tryz.prog 70 #[dv k B S O L] w fun e w' => e = .returned (.tuple #[.agg #[.int .u32 x, .int .u32 y], .bool b]) ∧ Below w.heap.size w w' := by
  subst hx; subst hy
  cases b
  · exact Reach_no k B S O L w (fun w => Device_any k B S O L _ w hk hk' hB hB' hS hS' hb)
  · have hp := dev_parts hb
    have e : 1 ≤ S ∧ B + S ≤ 4294967296 := by omega
    exact Reach_yes k B S O L _ _ true w (fun w => Device_any k B S O L _ w hk hk' hB hB' hS hS' hb) (fun w => window_any k B S O L _ _ _ w hB hB' hS hS' (if_pos e) (if_pos e) (decide_eq_true e))
end Go.Proofs.YtmdepkehpohgeaaGreat.Win
