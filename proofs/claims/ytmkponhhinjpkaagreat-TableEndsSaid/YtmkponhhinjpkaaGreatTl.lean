/- Package table's Among; a row of regions held against another one. -/
import Derived.Test.YtmkponhhinjpkaaGreatTc
namespace Go.Proofs.YtmkponhhinjpkaaGreat.Table
open Go.RowKit Go.Maps Go.ChangeShapes Go.WideShapes Go.ChangeAt Go.Proofs.YtmkponhhinjpkaaGreat.Access
open Go.Proofs.YtmkponhhinjpkaaGreat.Region (Eight eight_new)
set_option linter.unusedVariables false

theorem among_yes {d : List Rg} {ac : Ac} {k : Nat} (hk : k < d.length) (h : d[k]!.has ac = true) (hno : ∀ j, j < k → d[j]!.has ac = false) : among d ac = d[k]!.lets ac := by
  have : d.find? (·.has ac) = some d[k]! := by
    rw [List.find?_eq_some_iff_getElem]
    refine ⟨h, k, hk, (getElem!_pos d k hk).symm, fun j hj => ?_⟩
    have := hno j hj
    rw [getElem!_pos d j (by omega)] at this
    simp [this]
  rw [among_dec, this]
theorem among_no {d : List Rg} {ac : Ac} (hno : ∀ j, j < d.length → d[j]!.has ac = false) : among d ac = false := by
  have : d.find? (·.has ac) = none := by
    rw [List.find?_eq_none]
    intro g hg
    obtain ⟨j, hj, rfl⟩ := List.getElem_of_mem hg
    have := hno j hj
    rw [getElem!_pos d j hj] at this
    simp [this]
  rw [among_dec, this]

set_option maxRecDepth 100000 in
set_option maxHeartbeats 2000000 in
theorem Among_any (a : Option Addr) (n cap : Nat) (d : List Rg) (W2 : Int) (r2 : Bool) (A S D : Int) (mb : Bool) (w : World) (hn : n ≤ 1000000) (hA : 0 ≤ A) (hA' : A < 4294967296) (hD : 0 ≤ D) (hD' : D < 4294967296) (h : RowG w a n d) (hm : among d ⟨W2, r2, A, S, D⟩ = mb) :
    Calls Tryz.prog 29 #[.slice a n cap, acc W2 r2 A S D] w fun e w' => e = .returned (.bool mb) ∧ Below w.heap.size w w' := by
  have Hr := Lib.hid h
  have Hm := Lib.hid hm
  obtain ⟨c, hcz⟩ : ∃ c, w.heap.size = c := ⟨_, rfl⟩
  have h5 := five_new w W2 r2 A S D 25
  rw [hcz] at h5
  have H5 := Lib.hid h5
  have H0 := Lib.hid ((Below.refl w.heap.size w).alloc (Nat.le_refl _) (.cells #[.int .i64 W2, .bool r2, .int .u32 A, .int .i64 S, .int .u32 D] 25))
  clear h hm h5
  go_enter Tryz.func29, Tryz.ntmps29
  go_wp2_with fail
  go_loopw [9] (fun i wr => ∃ k : Nat, k ≤ n ∧ i = .int .i64 k ∧ Hid (∀ j, j < k → d[j]!.has ⟨W2, r2, A, S, D⟩ = false) ∧ Five wr c W2 r2 A S D ∧ Below w.heap.size w wr) (fun i _ => n - (intOf i).toNat)
  case atStart => exact ⟨0, Nat.zero_le _, rfl, Lib.hid (fun j hj => by omega), H5.out, H0.out⟩
  case round =>
    obtain ⟨k, hk, rfl, hno, hE, hb⟩ := hrel
    have Hb := Lib.hid hb
    have HE := Lib.hid hE
    have hsz := hb.size
    clear hb hE
    by_cases hlt : k < n
    · obtain ⟨b, off, rfl, ce⟩ := Hr.out.2 k hlt
      have ce := ce.keep Hb.out
      obtain ⟨x, hx⟩ : ∃ x, d[k]! = x := ⟨_, rfl⟩
      rw [hx] at ce
      have Hx := Lib.hid hx
      clear hx
      obtain ⟨p, V, G, U, re, we, L, ke⟩ := x
      obtain ⟨e0, e1, e2, e3, e4, e5, e6, e7⟩ := ce
      obtain ⟨q, hq⟩ : ∃ q, (Rg.mk p V G U re we L ke).has ⟨W2, r2, A, S, D⟩ = q := ⟨_, rfl⟩
      have Hq := Lib.hid (show Region.hasV p V G U L W2 r2 A S D = q from hq)
      clear hq
      have ha := (Below.refl wr.heap.size wr).alloc (Nat.le_refl _) (.cells #[.bool p, .int .i64 V, .int .u32 G, .int .u32 U, .bool re, .bool we, .int .i64 L, .bool ke] 37)
      have he := eight_new wr p V G U re we L ke 37
      obtain ⟨k0, k1, k2, k3, k4⟩ := HE.out.alloc (.cells #[.bool p, .int .i64 V, .int .u32 G, .int .u32 U, .bool re, .bool we, .int .i64 L, .bool ke] 37)
      have Ha := Lib.hid ha
      have He := Lib.hid he
      clear ha he
      go_wp2_with fail
      refine (Region.Has_any p V G U re we L ke W2 r2 A S D q _ hA hA' hD hD' Hq.out).mono ?_
      rintro e w1 ⟨rfl, hb1⟩
      have hb2 := Ha.out.trans (hb1.mono Ha.out.size)
      obtain ⟨m0, m1, m2, m3, m4⟩ := HE.out.keep hb2
      obtain ⟨f0, f1, f2, f3, f4, f5, f6, f7⟩ := He.out.keep hb1
      have Hb2 := Lib.hid hb2
      clear k0 k1 k2 k3 k4 e0 e1 e2 e3 e4 e5 e6 e7 Ha He hb1 hb2
      cases q
      · go_wp2_with fail
        refine ⟨⟨k + 1, by omega, by go_num, Lib.hid (fun j hj => ?_), HE.out.keep Hb2.out, Hb.out.trans (Hb2.out.mono hsz)⟩, by simp [intOf]; omega⟩
        by_cases e : j = k
        · subst e; rw [Hx.out]; exact Hq.out
        · exact hno.out j (by omega)
      · have HL := Lib.hid (show Region.letsV p V G U re we L W2 r2 A S D = mb by
          rw [← Hm.out, among_yes (k := k) (by rw [Hr.out.1]; exact hlt) (by rw [Hx.out]; exact Hq.out) hno.out, Hx.out]; rfl)
        go_wp2_with fail
        refine (Region.Lets_any p V G U re we L ke W2 r2 A S D mb _ hA hA' hD hD' HL.out).mono ?_
        rintro e w5 ⟨rfl, hb5⟩
        have Hb5 := Lib.hid (Hb.out.trans ((Hb2.out.trans (hb5.mono Hb2.out.size)).mono hsz))
        clear hb5
        go_wp2_with fail
        go_ret
        exact ⟨rfl, Hb5.out⟩
    · obtain rfl : k = n := by omega
      go_wp2_with fail
      go_ret
      exact ⟨ret_bool (by rw [← Hm.out]; exact (among_no fun j hj => hno.out j (by rw [Hr.out.1] at hj; exact hj)).symm), Hb.out⟩
end Go.Proofs.YtmkponhhinjpkaaGreat.Table
