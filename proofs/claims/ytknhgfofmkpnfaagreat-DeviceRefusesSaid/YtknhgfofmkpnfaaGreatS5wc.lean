/- Package device: what its parts do. -/
import Derived.Test.YtknhgfofmkpnfaaGreatS5wb
namespace Go.Proofs.YtknhgfofmkpnfaaGreat.Devs
set_option linter.unusedSectionVars false
variable [Inhabited Lane.OTab]
open Go.RowKit Go.Maps Go.ChangeShapes Go.WideShapes Go.ChangeAt Fifo Orow Word
set_option linter.unusedVariables false

theorem register_no (off size : Int) (w : World) (h1 : I64 off) (h2 : I64 size) (h : regD off size < 0) :
    Calls Tryz.prog 123 #[.int .i64 off, .int .i64 size] w fun e w' => e = .returned (.tuple #[.int .i64 0, .bool false]) ∧ w = w' := by
  have hn := reg_no h
  clear h
  by_cases a1 : size = 4
  · have d1 : (size != 4) = false := by rw [a1]; rfl
    by_cases a2 : off < 0
    · have d2 : decide (off < 0) = true := decide_eq_true a2
      clear hn a1 a2
      go_enter Tryz.func123, Tryz.ntmps123
      go_wp2_with fail
      go_ret2
      exact ⟨rfl, rfl⟩
    · have d2 : decide (off < 0) = false := decide_eq_false a2
      by_cases a3 : 32 ≤ off
      · have d3 : decide (32 ≤ off) = true := decide_eq_true a3
        clear hn a1 a2 a3
        go_enter Tryz.func123, Tryz.ntmps123
        go_wp2_with fail
        go_ret2
        exact ⟨rfl, rfl⟩
      · have d3 : decide (32 ≤ off) = false := decide_eq_false a3
        have a4 : off % 4 ≠ 0 := fun e => hn ⟨a1, by omega, by omega, e⟩
        obtain ⟨n, rfl⟩ : ∃ n : Nat, off = n := ⟨off.toNat, by omega⟩
        have d4 : ((n : Int) % 4 != 0) = true := by simpa using a4
        clear hn a1 a2 a3 a4
        go_enter Tryz.func123, Tryz.ntmps123
        go_wp2_with fail
        go_ret2
        exact ⟨rfl, rfl⟩
  · have d1 : (size != 4) = true := by simpa using a1
    clear hn a1
    go_enter Tryz.func123, Tryz.ntmps123
    go_wp2_with fail
    go_ret2
    exact ⟨rfl, rfl⟩
theorem register_yes (off size : Int) (w : World) (h : ¬ regD off size < 0) :
    Calls Tryz.prog 123 #[.int .i64 off, .int .i64 size] w fun e w' => e = .returned (.tuple #[.int .i64 (regD off size), .bool true]) ∧ w = w' := by
  obtain ⟨⟨rfl, a2, a3, a4⟩, e⟩ := reg_yes h
  rw [e]
  clear e h
  obtain ⟨n, rfl⟩ : ∃ n : Nat, off = n := ⟨off.toNat, by omega⟩
  have d2 : decide ((n : Int) < 0) = false := decide_eq_false (by omega)
  have d3 : decide (32 ≤ (n : Int)) = false := decide_eq_false (by omega)
  have d4 : ((n : Int) % 4 != 0) = false := by simpa using a4
  have hq : wrap64 ((n : Int) / 4) = (n : Int) / 4 := by rw [IntWalk.wrap64_in _ (by omega)]
  clear a2 a3 a4
  go_enter Tryz.func123, Tryz.ntmps123
  go_wp2_with fail
  go_ret2
  refine ⟨?_, rfl⟩
  simp [hq]
set_option maxHeartbeats 1000000 in
theorem tim_read (m : Nat) (s : Timer.St) (Q : Nat → Prop) (off size : Int) (w : World) (h1 : I64 off) (h2 : I64 size) (h : ObjAt w m (.tim s) Q) :
    Calls Tryz.prog 121 #[.agg #[ptr m], .int .i64 off, .int .i64 size] w fun z w' => z = .returned (.tuple #[.int .u32 (readD (.tim s) off size).1, .bool (readD (.tim s) off size).2.1]) ∧ ObjLeft w w' m (readD (.tim s) off size).2.2 Q := by
  have H := Lib.hid h
  by_cases hr : regD off size < 0
  · have er : readD (.tim s) off size = (0, false, .tim s) := by show (if regD off size < 0 then _ else _) = _; rw [if_pos hr]
    rw [er]
    have RG := Lib.hid (fun w => register_no off size w h1 h2 hr)
    clear h hr er h1 h2
    go_enter Tryz.func121, Tryz.ntmps121
    go_wp2_with fail
    refine (RG.out _).mono ?_
    rintro z w1 ⟨rfl, rfl⟩
    go_wp2_with fail
    go_ret2
    exact ⟨rfl, H.out.still ((Below.refl _ _).alloc (Nat.le_refl _) _)⟩
  · have er : readD (.tim s) off size = ((regRead (.tim s) (regD off size)).1, true, (regRead (.tim s) (regD off size)).2) := by show (if regD off size < 0 then _ else _) = _; rw [if_neg hr]
    rw [er]
    have RG := Lib.hid (fun w => register_yes off size w hr)
    have hb := reg_b off size
    obtain ⟨r, er⟩ : ∃ r, regD off size = r := ⟨_, rfl⟩
    rw [er] at RG hb
    rw [er]
    have Hr := Lib.hid (show I64 r by unfold I64; omega)
    clear h hr er h1 h2 hb
    go_enter Tryz.func121, Tryz.ntmps121
    go_wp2_with fail
    refine (RG.out _).mono ?_
    rintro z w1 ⟨rfl, rfl⟩
    go_wp2_with fail
    refine (Timer.Read_any m s Q _ _ Hr.out (H.out.keep ((Below.refl _ _).alloc (Nat.le_refl _) _))).mono ?_
    rintro z w2 ⟨rfl, hb⟩
    have K := Lib.hid (show ObjLeft _ w2 m (regRead (.tim s) r).2 Q from (H.out.keep ((Below.refl _ _).alloc (Nat.le_refl _) _)).still hb)
    clear hb
    go_wp2_with fail
    go_ret2
    exact ⟨rfl, ObjLeft.behind ((Below.refl _ _).alloc (Nat.le_refl _) _) K.out⟩
set_option maxHeartbeats 1000000 in
theorem tim_write (m : Nat) (s : Timer.St) (Q : Nat → Prop) (off size v : Int) (w : World) (h1 : I64 off) (h2 : I64 size) (h3 : 0 ≤ v ∧ v < 4294967296) (h : ObjAt w m (.tim s) Q) :
    Calls Tryz.prog 122 #[.agg #[ptr m], .int .i64 off, .int .i64 size, .int .u32 v] w fun z w' => z = .returned (.bool (writeD (.tim s) off size v).1) ∧ ObjLeft w w' m (writeD (.tim s) off size v).2 Q := by
  have H := Lib.hid h
  by_cases hr : regD off size < 0
  · have er : writeD (.tim s) off size v = (false, .tim s) := by show (if regD off size < 0 then _ else _) = _; rw [if_pos hr]
    rw [er]
    have RG := Lib.hid (fun w => register_no off size w h1 h2 hr)
    clear h hr er h1 h2
    go_enter Tryz.func122, Tryz.ntmps122
    go_wp2_with fail
    refine (RG.out _).mono ?_
    rintro z w1 ⟨rfl, rfl⟩
    go_wp2_with fail
    go_ret
    exact ⟨rfl, H.out.still ((Below.refl _ _).alloc (Nat.le_refl _) _)⟩
  · have er : writeD (.tim s) off size v = (true, regWrite (.tim s) (regD off size) v) := by show (if regD off size < 0 then _ else _) = _; rw [if_neg hr]
    rw [er]
    have RG := Lib.hid (fun w => register_yes off size w hr)
    have hb := reg_b off size
    obtain ⟨r, er⟩ : ∃ r, regD off size = r := ⟨_, rfl⟩
    rw [er] at RG hb
    rw [er]
    have Hr := Lib.hid (show I64 r by unfold I64; omega)
    have Hv := Lib.hid h3
    clear h hr er h1 h2 h3 hb
    go_enter Tryz.func122, Tryz.ntmps122
    go_wp2_with fail
    refine (RG.out _).mono ?_
    rintro z w1 ⟨rfl, rfl⟩
    go_wp2_with fail
    refine (Timer.Write_any m s Q _ v _ Hr.out Hv.out (H.out.keep ((Below.refl _ _).alloc (Nat.le_refl _) _))).mono ?_
    rintro z w2 ⟨rfl, k⟩
    have K := Lib.hid (show ObjLeft _ w2 m (regWrite (.tim s) r v) Q from k)
    clear k
    go_wp2_with fail
    go_ret
    exact ⟨rfl, ObjLeft.behind ((Below.refl _ _).alloc (Nat.le_refl _) _) K.out⟩
set_option maxHeartbeats 1000000 in
theorem uar_read (m : Nat) (u : Uart.Un) (Q : Nat → Prop) (off size : Int) (w : World) (h1 : I64 off) (h2 : I64 size) (h : ObjAt w m (.uar u) Q) :
    Calls Tryz.prog 143 #[.agg #[ptr m], .int .i64 off, .int .i64 size] w fun z w' => z = .returned (.tuple #[.int .u32 (readD (.uar u) off size).1, .bool (readD (.uar u) off size).2.1]) ∧ ObjLeft w w' m (readD (.uar u) off size).2.2 Q := by
  have H := Lib.hid h
  by_cases hr : regD off size < 0
  · have er : readD (.uar u) off size = (0, false, .uar u) := by show (if regD off size < 0 then _ else _) = _; rw [if_pos hr]
    rw [er]
    have RG := Lib.hid (fun w => register_no off size w h1 h2 hr)
    clear h hr er h1 h2
    go_enter Tryz.func143, Tryz.ntmps143
    go_wp2_with fail
    refine (RG.out _).mono ?_
    rintro z w1 ⟨rfl, rfl⟩
    go_wp2_with fail
    go_ret2
    exact ⟨rfl, H.out.still ((Below.refl _ _).alloc (Nat.le_refl _) _)⟩
  · have er : readD (.uar u) off size = ((regRead (.uar u) (regD off size)).1, true, (regRead (.uar u) (regD off size)).2) := by show (if regD off size < 0 then _ else _) = _; rw [if_neg hr]
    rw [er]
    have RG := Lib.hid (fun w => register_yes off size w hr)
    have hb := reg_b off size
    obtain ⟨r, er⟩ : ∃ r, regD off size = r := ⟨_, rfl⟩
    rw [er] at RG hb
    rw [er]
    have Hr := Lib.hid (show I64 r by unfold I64; omega)
    clear h hr er h1 h2 hb
    go_enter Tryz.func143, Tryz.ntmps143
    go_wp2_with fail
    refine (RG.out _).mono ?_
    rintro z w1 ⟨rfl, rfl⟩
    go_wp2_with fail
    refine (Uart.Read_any m u Q _ _ Hr.out (H.out.keep ((Below.refl _ _).alloc (Nat.le_refl _) _))).mono ?_
    rintro z w2 ⟨rfl, k⟩
    have K := Lib.hid (show ObjLeft _ w2 m (regRead (.uar u) r).2 Q from k)
    clear k
    go_wp2_with fail
    go_ret2
    exact ⟨rfl, ObjLeft.behind ((Below.refl _ _).alloc (Nat.le_refl _) _) K.out⟩
set_option maxHeartbeats 1000000 in
theorem uar_write (m : Nat) (u : Uart.Un) (Q : Nat → Prop) (off size v : Int) (w : World) (h1 : I64 off) (h2 : I64 size) (h3 : 0 ≤ v ∧ v < 4294967296) (h : ObjAt w m (.uar u) Q) :
    Calls Tryz.prog 144 #[.agg #[ptr m], .int .i64 off, .int .i64 size, .int .u32 v] w fun z w' => z = .returned (.bool (writeD (.uar u) off size v).1) ∧ ObjLeft w w' m (writeD (.uar u) off size v).2 Q := by
  have H := Lib.hid h
  by_cases hr : regD off size < 0
  · have er : writeD (.uar u) off size v = (false, .uar u) := by show (if regD off size < 0 then _ else _) = _; rw [if_pos hr]
    rw [er]
    have RG := Lib.hid (fun w => register_no off size w h1 h2 hr)
    clear h hr er h1 h2
    go_enter Tryz.func144, Tryz.ntmps144
    go_wp2_with fail
    refine (RG.out _).mono ?_
    rintro z w1 ⟨rfl, rfl⟩
    go_wp2_with fail
    go_ret
    exact ⟨rfl, H.out.still ((Below.refl _ _).alloc (Nat.le_refl _) _)⟩
  · have er : writeD (.uar u) off size v = (true, regWrite (.uar u) (regD off size) v) := by show (if regD off size < 0 then _ else _) = _; rw [if_neg hr]
    rw [er]
    have RG := Lib.hid (fun w => register_yes off size w hr)
    have hb := reg_b off size
    obtain ⟨r, er⟩ : ∃ r, regD off size = r := ⟨_, rfl⟩
    rw [er] at RG hb
    rw [er]
    have Hr := Lib.hid (show I64 r by unfold I64; omega)
    have Hv := Lib.hid h3
    clear h hr er h1 h2 h3 hb
    go_enter Tryz.func144, Tryz.ntmps144
    go_wp2_with fail
    refine (RG.out _).mono ?_
    rintro z w1 ⟨rfl, rfl⟩
    go_wp2_with fail
    refine (Uart.Write_any m u Q _ v _ Hr.out Hv.out (H.out.keep ((Below.refl _ _).alloc (Nat.le_refl _) _))).mono ?_
    rintro z w2 ⟨rfl, k⟩
    have K := Lib.hid (show ObjLeft _ w2 m (regWrite (.uar u) r v) Q from k)
    clear k
    go_wp2_with fail
    go_ret
    exact ⟨rfl, ObjLeft.behind ((Below.refl _ _).alloc (Nat.le_refl _) _) K.out⟩
set_option maxHeartbeats 1000000 in
theorem box_read (m : Nat) (x : Mbox.Bx) (Q : Nat → Prop) (off size : Int) (w : World) (h1 : I64 off) (h2 : I64 size) (h : ObjAt w m (.box x) Q) :
    Calls Tryz.prog 226 #[.agg #[ptr m], .int .i64 off, .int .i64 size] w fun z w' => z = .returned (.tuple #[.int .u32 (readD (.box x) off size).1, .bool (readD (.box x) off size).2.1]) ∧ ObjLeft w w' m (readD (.box x) off size).2.2 Q := by
  have H := Lib.hid h
  by_cases hr : regD off size < 0
  · have er : readD (.box x) off size = (0, false, .box x) := by show (if regD off size < 0 then _ else _) = _; rw [if_pos hr]
    rw [er]
    have RG := Lib.hid (fun w => register_no off size w h1 h2 hr)
    clear h hr er h1 h2
    go_enter Tryz.func226, Tryz.ntmps226
    go_wp2_with fail
    refine (RG.out _).mono ?_
    rintro z w1 ⟨rfl, rfl⟩
    go_wp2_with fail
    go_ret2
    exact ⟨rfl, H.out.still ((Below.refl _ _).alloc (Nat.le_refl _) _)⟩
  · have er : readD (.box x) off size = ((regRead (.box x) (regD off size)).1, true, (regRead (.box x) (regD off size)).2) := by show (if regD off size < 0 then _ else _) = _; rw [if_neg hr]
    rw [er]
    have RG := Lib.hid (fun w => register_yes off size w hr)
    have hb := reg_b off size
    obtain ⟨r, er⟩ : ∃ r, regD off size = r := ⟨_, rfl⟩
    rw [er] at RG hb
    rw [er]
    have Hr := Lib.hid (show I64 r by unfold I64; omega)
    clear h hr er h1 h2 hb
    go_enter Tryz.func226, Tryz.ntmps226
    go_wp2_with fail
    refine (RG.out _).mono ?_
    rintro z w1 ⟨rfl, rfl⟩
    go_wp2_with fail
    refine (Mbox.Read_any m x Q _ _ Hr.out (H.out.keep ((Below.refl _ _).alloc (Nat.le_refl _) _))).mono ?_
    rintro z w2 ⟨rfl, k⟩
    have K := Lib.hid (show ObjLeft _ w2 m (regRead (.box x) r).2 Q from k)
    clear k
    go_wp2_with fail
    go_ret2
    exact ⟨rfl, ObjLeft.behind ((Below.refl _ _).alloc (Nat.le_refl _) _) K.out⟩
set_option maxHeartbeats 1000000 in
theorem box_write (m : Nat) (x : Mbox.Bx) (Q : Nat → Prop) (off size v : Int) (w : World) (h1 : I64 off) (h2 : I64 size) (h3 : 0 ≤ v ∧ v < 4294967296) (h : ObjAt w m (.box x) Q) :
    Calls Tryz.prog 227 #[.agg #[ptr m], .int .i64 off, .int .i64 size, .int .u32 v] w fun z w' => z = .returned (.bool (writeD (.box x) off size v).1) ∧ ObjLeft w w' m (writeD (.box x) off size v).2 Q := by
  have H := Lib.hid h
  by_cases hr : regD off size < 0
  · have er : writeD (.box x) off size v = (false, .box x) := by show (if regD off size < 0 then _ else _) = _; rw [if_pos hr]
    rw [er]
    have RG := Lib.hid (fun w => register_no off size w h1 h2 hr)
    clear h hr er h1 h2
    go_enter Tryz.func227, Tryz.ntmps227
    go_wp2_with fail
    refine (RG.out _).mono ?_
    rintro z w1 ⟨rfl, rfl⟩
    go_wp2_with fail
    go_ret
    exact ⟨rfl, H.out.still ((Below.refl _ _).alloc (Nat.le_refl _) _)⟩
  · have er : writeD (.box x) off size v = (true, regWrite (.box x) (regD off size) v) := by show (if regD off size < 0 then _ else _) = _; rw [if_neg hr]
    rw [er]
    have RG := Lib.hid (fun w => register_yes off size w hr)
    have hb := reg_b off size
    obtain ⟨r, er⟩ : ∃ r, regD off size = r := ⟨_, rfl⟩
    rw [er] at RG hb
    rw [er]
    have Hr := Lib.hid (show I64 r by unfold I64; omega)
    have Hv := Lib.hid h3
    clear h hr er h1 h2 h3 hb
    go_enter Tryz.func227, Tryz.ntmps227
    go_wp2_with fail
    refine (RG.out _).mono ?_
    rintro z w1 ⟨rfl, rfl⟩
    go_wp2_with fail
    refine (Mbox.Write_any m x Q _ v _ Hr.out Hv.out (H.out.keep ((Below.refl _ _).alloc (Nat.le_refl _) _))).mono ?_
    rintro z w2 ⟨rfl, k⟩
    have K := Lib.hid (show ObjLeft _ w2 m (regWrite (.box x) r v) Q from k)
    clear k
    go_wp2_with fail
    go_ret
    exact ⟨rfl, ObjLeft.behind ((Below.refl _ _).alloc (Nat.le_refl _) _) K.out⟩
set_option maxHeartbeats 1000000 in
theorem rot_read (m : Nat) (s : Rotor.RS) (Q : Nat → Prop) (off size : Int) (w : World) (h1 : I64 off) (h2 : I64 size) (h : ObjAt w m (.rot s) Q) :
    Calls Tryz.prog 261 #[.agg #[ptr m], .int .i64 off, .int .i64 size] w fun z w' => z = .returned (.tuple #[.int .u32 (readD (.rot s) off size).1, .bool (readD (.rot s) off size).2.1]) ∧ ObjLeft w w' m (readD (.rot s) off size).2.2 Q := by
  have H := Lib.hid h
  by_cases hr : regD off size < 0
  · have er : readD (.rot s) off size = (0, false, .rot s) := by show (if regD off size < 0 then _ else _) = _; rw [if_pos hr]
    rw [er]
    have RG := Lib.hid (fun w => register_no off size w h1 h2 hr)
    clear h hr er h1 h2
    go_enter Tryz.func261, Tryz.ntmps261
    go_wp2_with fail
    refine (RG.out _).mono ?_
    rintro z w1 ⟨rfl, rfl⟩
    go_wp2_with fail
    go_ret2
    exact ⟨rfl, H.out.still ((Below.refl _ _).alloc (Nat.le_refl _) _)⟩
  · have er : readD (.rot s) off size = ((regRead (.rot s) (regD off size)).1, true, (regRead (.rot s) (regD off size)).2) := by show (if regD off size < 0 then _ else _) = _; rw [if_neg hr]
    rw [er]
    have RG := Lib.hid (fun w => register_yes off size w hr)
    have hb := reg_b off size
    obtain ⟨r, er⟩ : ∃ r, regD off size = r := ⟨_, rfl⟩
    rw [er] at RG hb
    rw [er]
    have Hr := Lib.hid (show I64 r by unfold I64; omega)
    clear h hr er h1 h2 hb
    go_enter Tryz.func261, Tryz.ntmps261
    go_wp2_with fail
    refine (RG.out _).mono ?_
    rintro z w1 ⟨rfl, rfl⟩
    go_wp2_with fail
    refine (Rotor.Read_any m s Q _ _ Hr.out (H.out.keep ((Below.refl _ _).alloc (Nat.le_refl _) _))).mono ?_
    rintro z w2 ⟨rfl, hb⟩
    have K := Lib.hid (show ObjLeft _ w2 m (regRead (.rot s) r).2 Q from (H.out.keep ((Below.refl _ _).alloc (Nat.le_refl _) _)).still hb)
    clear hb
    go_wp2_with fail
    go_ret2
    exact ⟨rfl, ObjLeft.behind ((Below.refl _ _).alloc (Nat.le_refl _) _) K.out⟩
set_option maxHeartbeats 1000000 in
theorem rot_write (m : Nat) (s : Rotor.RS) (Q : Nat → Prop) (off size v : Int) (w : World) (h1 : I64 off) (h2 : I64 size) (h3 : 0 ≤ v ∧ v < 4294967296) (h : ObjAt w m (.rot s) Q) :
    Calls Tryz.prog 262 #[.agg #[ptr m], .int .i64 off, .int .i64 size, .int .u32 v] w fun z w' => z = .returned (.bool (writeD (.rot s) off size v).1) ∧ ObjLeft w w' m (writeD (.rot s) off size v).2 Q := by
  have H := Lib.hid h
  by_cases hr : regD off size < 0
  · have er : writeD (.rot s) off size v = (false, .rot s) := by show (if regD off size < 0 then _ else _) = _; rw [if_pos hr]
    rw [er]
    have RG := Lib.hid (fun w => register_no off size w h1 h2 hr)
    clear h hr er h1 h2
    go_enter Tryz.func262, Tryz.ntmps262
    go_wp2_with fail
    refine (RG.out _).mono ?_
    rintro z w1 ⟨rfl, rfl⟩
    go_wp2_with fail
    go_ret
    exact ⟨rfl, H.out.still ((Below.refl _ _).alloc (Nat.le_refl _) _)⟩
  · have er : writeD (.rot s) off size v = (true, regWrite (.rot s) (regD off size) v) := by show (if regD off size < 0 then _ else _) = _; rw [if_neg hr]
    rw [er]
    have RG := Lib.hid (fun w => register_yes off size w hr)
    have hb := reg_b off size
    obtain ⟨r, er⟩ : ∃ r, regD off size = r := ⟨_, rfl⟩
    rw [er] at RG hb
    rw [er]
    have Hr := Lib.hid (show I64 r by unfold I64; omega)
    have Hv := Lib.hid h3
    clear h hr er h1 h2 h3 hb
    go_enter Tryz.func262, Tryz.ntmps262
    go_wp2_with fail
    refine (RG.out _).mono ?_
    rintro z w1 ⟨rfl, rfl⟩
    go_wp2_with fail
    refine (Rotor.Write_any m s Q _ v _ Hr.out Hv.out (H.out.keep ((Below.refl _ _).alloc (Nat.le_refl _) _))).mono ?_
    rintro z w2 ⟨rfl, k⟩
    have K := Lib.hid (show ObjLeft _ w2 m (regWrite (.rot s) r v) Q from k)
    clear k
    go_wp2_with fail
    go_ret
    exact ⟨rfl, ObjLeft.behind ((Below.refl _ _).alloc (Nat.le_refl _) _) K.out⟩
set_option maxHeartbeats 1000000 in
theorem eng_read (m : Nat) (e : Dma.En) (Q : Nat → Prop) (off size : Int) (w : World) (h1 : I64 off) (h2 : I64 size) (h : ObjAt w m (.eng e) Q) :
    Calls Tryz.prog 283 #[.agg #[ptr m], .int .i64 off, .int .i64 size] w fun z w' => z = .returned (.tuple #[.int .u32 (readD (.eng e) off size).1, .bool (readD (.eng e) off size).2.1]) ∧ ObjLeft w w' m (readD (.eng e) off size).2.2 Q := by
  have H := Lib.hid h
  by_cases hr : regD off size < 0
  · have er : readD (.eng e) off size = (0, false, .eng e) := by show (if regD off size < 0 then _ else _) = _; rw [if_pos hr]
    rw [er]
    have RG := Lib.hid (fun w => register_no off size w h1 h2 hr)
    clear h hr er h1 h2
    go_enter Tryz.func283, Tryz.ntmps283
    go_wp2_with fail
    refine (RG.out _).mono ?_
    rintro z w1 ⟨rfl, rfl⟩
    go_wp2_with fail
    go_ret2
    exact ⟨rfl, H.out.still ((Below.refl _ _).alloc (Nat.le_refl _) _)⟩
  · have er : readD (.eng e) off size = ((regRead (.eng e) (regD off size)).1, true, (regRead (.eng e) (regD off size)).2) := by show (if regD off size < 0 then _ else _) = _; rw [if_neg hr]
    rw [er]
    have RG := Lib.hid (fun w => register_yes off size w hr)
    have hb := reg_b off size
    obtain ⟨r, er⟩ : ∃ r, regD off size = r := ⟨_, rfl⟩
    rw [er] at RG hb
    rw [er]
    have Hr := Lib.hid (show I64 r by unfold I64; omega)
    clear h hr er h1 h2 hb
    go_enter Tryz.func283, Tryz.ntmps283
    go_wp2_with fail
    refine (RG.out _).mono ?_
    rintro z w1 ⟨rfl, rfl⟩
    go_wp2_with fail
    refine (Dma.Read_any m e Q _ _ Hr.out (H.out.keep ((Below.refl _ _).alloc (Nat.le_refl _) _))).mono ?_
    rintro z w2 ⟨rfl, hb⟩
    have K := Lib.hid (show ObjLeft _ w2 m (regRead (.eng e) r).2 Q from (H.out.keep ((Below.refl _ _).alloc (Nat.le_refl _) _)).still hb)
    clear hb
    go_wp2_with fail
    go_ret2
    exact ⟨rfl, ObjLeft.behind ((Below.refl _ _).alloc (Nat.le_refl _) _) K.out⟩
set_option maxHeartbeats 1000000 in
theorem eng_write (m : Nat) (e : Dma.En) (Q : Nat → Prop) (off size v : Int) (w : World) (h1 : I64 off) (h2 : I64 size) (h3 : 0 ≤ v ∧ v < 4294967296) (h : ObjAt w m (.eng e) Q) :
    Calls Tryz.prog 284 #[.agg #[ptr m], .int .i64 off, .int .i64 size, .int .u32 v] w fun z w' => z = .returned (.bool (writeD (.eng e) off size v).1) ∧ ObjLeft w w' m (writeD (.eng e) off size v).2 Q := by
  have H := Lib.hid h
  by_cases hr : regD off size < 0
  · have er : writeD (.eng e) off size v = (false, .eng e) := by show (if regD off size < 0 then _ else _) = _; rw [if_pos hr]
    rw [er]
    have RG := Lib.hid (fun w => register_no off size w h1 h2 hr)
    clear h hr er h1 h2
    go_enter Tryz.func284, Tryz.ntmps284
    go_wp2_with fail
    refine (RG.out _).mono ?_
    rintro z w1 ⟨rfl, rfl⟩
    go_wp2_with fail
    go_ret
    exact ⟨rfl, H.out.still ((Below.refl _ _).alloc (Nat.le_refl _) _)⟩
  · have er : writeD (.eng e) off size v = (true, regWrite (.eng e) (regD off size) v) := by show (if regD off size < 0 then _ else _) = _; rw [if_neg hr]
    rw [er]
    have RG := Lib.hid (fun w => register_yes off size w hr)
    have hb := reg_b off size
    obtain ⟨r, er⟩ : ∃ r, regD off size = r := ⟨_, rfl⟩
    rw [er] at RG hb
    rw [er]
    have Hr := Lib.hid (show I64 r by unfold I64; omega)
    have Hv := Lib.hid h3
    clear h hr er h1 h2 h3 hb
    go_enter Tryz.func284, Tryz.ntmps284
    go_wp2_with fail
    refine (RG.out _).mono ?_
    rintro z w1 ⟨rfl, rfl⟩
    go_wp2_with fail
    refine (Dma.Write_any m e Q _ v _ Hr.out Hv.out (H.out.keep ((Below.refl _ _).alloc (Nat.le_refl _) _))).mono ?_
    rintro z w2 ⟨rfl, k⟩
    have K := Lib.hid (show ObjLeft _ w2 m (regWrite (.eng e) r v) Q from k)
    clear k
    go_wp2_with fail
    go_ret
    exact ⟨rfl, ObjLeft.behind ((Below.refl _ _).alloc (Nat.le_refl _) _) K.out⟩
theorem tim_line (m : Nat) (s : Timer.St) (Q : Nat → Prop) (w : World) (h : ObjAt w m (.tim s) Q) :
    Calls Tryz.prog 125 #[.agg #[ptr m]] w fun z w' => z = .returned (.bool (lineD (.tim s))) ∧ Below w.heap.size w w' := by
  have H := Lib.hid h
  clear h
  go_enter Tryz.func125, Tryz.ntmps125
  go_wp2_with fail
  refine (Timer.Line_any m s Q _ (H.out.keep ((Below.refl _ _).alloc (Nat.le_refl _) _))).mono ?_
  rintro z w2 ⟨rfl, hb⟩
  have K := Lib.hid (((Below.refl w.heap.size w).alloc (Nat.le_refl _) _).trans (hb.mono (by simp)))
  clear hb
  go_wp2_with fail
  go_ret
  exact ⟨rfl, K.out⟩
theorem uar_line (m : Nat) (u : Uart.Un) (Q : Nat → Prop) (w : World) (h : ObjAt w m (.uar u) Q) :
    Calls Tryz.prog 146 #[.agg #[ptr m]] w fun z w' => z = .returned (.bool (lineD (.uar u))) ∧ Below w.heap.size w w' := by
  have H := Lib.hid h
  clear h
  go_enter Tryz.func146, Tryz.ntmps146
  go_wp2_with fail
  refine (Uart.Line_any m u Q _ (H.out.keep ((Below.refl _ _).alloc (Nat.le_refl _) _))).mono ?_
  rintro z w2 ⟨rfl, hb⟩
  have K := Lib.hid (((Below.refl w.heap.size w).alloc (Nat.le_refl _) _).trans (hb.mono (by simp)))
  clear hb
  go_wp2_with fail
  go_ret
  exact ⟨rfl, K.out⟩
theorem box_line (m : Nat) (x : Mbox.Bx) (Q : Nat → Prop) (w : World) (h : ObjAt w m (.box x) Q) :
    Calls Tryz.prog 229 #[.agg #[ptr m]] w fun z w' => z = .returned (.bool (lineD (.box x))) ∧ Below w.heap.size w w' := by
  have H := Lib.hid h
  clear h
  go_enter Tryz.func229, Tryz.ntmps229
  go_wp2_with fail
  refine (Mbox.Line_any m x Q _ (H.out.keep ((Below.refl _ _).alloc (Nat.le_refl _) _))).mono ?_
  rintro z w2 ⟨rfl, hb⟩
  have K := Lib.hid (((Below.refl w.heap.size w).alloc (Nat.le_refl _) _).trans (hb.mono (by simp)))
  clear hb
  go_wp2_with fail
  go_ret
  exact ⟨rfl, K.out⟩
theorem rot_line (m : Nat) (w : World) :
    Calls Tryz.prog 264 #[.agg #[ptr m]] w fun z w' => z = .returned (.bool false) ∧ Below w.heap.size w w' := by
  go_enter Tryz.func264, Tryz.ntmps264
  go_wp2_with fail
  go_ret
  exact ⟨rfl, by go_grown⟩
theorem eng_line (m : Nat) (e : Dma.En) (Q : Nat → Prop) (w : World) (h : ObjAt w m (.eng e) Q) :
    Calls Tryz.prog 286 #[.agg #[ptr m]] w fun z w' => z = .returned (.bool (lineD (.eng e))) ∧ Below w.heap.size w w' := by
  have H := Lib.hid h
  clear h
  go_enter Tryz.func286, Tryz.ntmps286
  go_wp2_with fail
  refine (Dma.Line_any m e Q _ (H.out.keep ((Below.refl _ _).alloc (Nat.le_refl _) _))).mono ?_
  rintro z w2 ⟨rfl, hb⟩
  have K := Lib.hid (((Below.refl w.heap.size w).alloc (Nat.le_refl _) _).trans (hb.mono (by simp)))
  clear hb
  go_wp2_with fail
  go_ret
  exact ⟨rfl, K.out⟩
theorem ram_line (m : Nat) (w : World) :
    Calls Tryz.prog 186 #[.agg #[ptr m]] w fun z w' => z = .returned (.bool false) ∧ Below w.heap.size w w' := by
  go_enter Tryz.func186, Tryz.ntmps186
  go_wp2_with fail
  go_ret
  exact ⟨rfl, by go_grown⟩
theorem ram_read (m : Nat) (bs : List Int) (Q : Nat → Prop) (off size : Int) (w : World) (h1 : I64 off) (h2 : I64 size) (h : ObjAt w m (.ram bs) Q) :
    Calls Tryz.prog 188 #[.agg #[ptr m], .int .i64 off, .int .i64 size] w fun z w' => z = .returned (.tuple #[.int .u32 (readD (.ram bs) off size).1, .bool (readD (.ram bs) off size).2.1]) ∧ ObjLeft w w' m (readD (.ram bs) off size).2.2 Q := by
  have H := Lib.hid h
  have RD := Lib.hid (fun w h => Ram.Read_any m bs Q off size _ _ w h1 h2 h rfl rfl)
  simp only [readD]
  obtain ⟨v, hv⟩ : ∃ v, Ram.readV bs off size = v := ⟨_, rfl⟩
  obtain ⟨is, hi⟩ : ∃ v, Ram.placeB bs.length off size = v := ⟨_, rfl⟩
  rw [hv, hi] at RD
  rw [hv, hi]
  clear h hv hi h1 h2
  go_enter Tryz.func188, Tryz.ntmps188
  go_wp2_with fail
  refine (RD.out _ (H.out.keep ((Below.refl _ _).alloc (Nat.le_refl _) _))).mono ?_
  rintro z w2 ⟨rfl, hb⟩
  have K := Lib.hid (((Below.refl w.heap.size w).alloc (Nat.le_refl _) _).trans (hb.mono (by simp)))
  clear hb
  go_wp2_with fail
  go_ret2
  exact ⟨rfl, H.out.still K.out⟩
theorem ram_write (m : Nat) (bs : List Int) (Q : Nat → Prop) (off size v : Int) (w : World) (h1 : I64 off) (h2 : I64 size) (h3 : 0 ≤ v ∧ v < 4294967296) (h : ObjAt w m (.ram bs) Q) :
    Calls Tryz.prog 189 #[.agg #[ptr m], .int .i64 off, .int .i64 size, .int .u32 v] w fun z w' => z = .returned (.bool (writeD (.ram bs) off size v).1) ∧ ObjLeft w w' m (writeD (.ram bs) off size v).2 Q := by
  have H := Lib.hid h
  have RD := Lib.hid (fun w h => Ram.Write_any m bs Q off size v _ w h1 h2 h3.1 h3.2 h rfl)
  simp only [writeD]
  obtain ⟨is, hi⟩ : ∃ v, Ram.placeB bs.length off size = v := ⟨_, rfl⟩
  obtain ⟨bs', hbs⟩ : ∃ q, Ram.writeV bs off size v.toNat = q := ⟨_, rfl⟩
  rw [hbs, hi] at RD
  rw [hbs, hi]
  clear h hbs hi h1 h2 h3
  go_enter Tryz.func189, Tryz.ntmps189
  go_wp2_with fail
  refine (RD.out _ (H.out.keep ((Below.refl _ _).alloc (Nat.le_refl _) _))).mono ?_
  rintro z w2 ⟨rfl, k⟩
  have K := Lib.hid (show ObjLeft _ w2 m (.ram bs') Q from k)
  clear k
  go_wp2_with fail
  go_ret
  exact ⟨rfl, ObjLeft.behind ((Below.refl _ _).alloc (Nat.le_refl _) _) K.out⟩
end Go.Proofs.YtknhgfofmkpnfaaGreat.Devs
