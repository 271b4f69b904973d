/- Plain: how many words a device has. -/
import Derived.Test.YtknhgfofmkpnfaaGreatS5a
namespace Go.Proofs.YtknhgfofmkpnfaaGreat.Devs
set_option linter.unusedSectionVars false
variable [Inhabited Lane.OTab]
set_option linter.unusedVariables false

theorem look_len {d : Dv} (h : OkD d) : 1 ≤ (lookD d).length ∧ (lookD d).length ≤ 1024 := by
  cases d with
  | ram bs =>
    have h : Ram.OkM bs := h
    have := h.lo
    have := h.hi
    simp only [lookD, List.length_map, List.length_range]
    omega
  | tim s => simp [lookD]
  | uar u =>
    have h : Uart.OkU u := h
    have := h.came.2
    have := h.goes.2
    simp only [lookD, List.length_cons, List.length_append, List.length_nil]
    omega
  | box x =>
    have h : Mbox.OkX x := h
    have := h.w.2
    simp only [lookD, List.length_cons, List.length_append, List.length_nil]
    omega
  | rot s => simp [lookD]
  | eng e => simp [lookD]
end Go.Proofs.YtknhgfofmkpnfaaGreat.Devs
