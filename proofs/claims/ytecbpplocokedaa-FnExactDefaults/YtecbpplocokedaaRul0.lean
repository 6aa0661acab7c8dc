/- Rules, reckoned: what may be done with a thing, what it is changed to, new ones, and those that come in again. -/
import Derived.Test.YtecbpplocokedaaThg0
import Derived.Test.YtecbpplocokedaaShaQ
namespace Go.Proofs.Ytecbpplocokedaa
def mayB (x : Th) (d : Int) : Bool := if thOk x = true then (if d = 1 then !x.hid else if d = 2 then (!x.fix && decide (x.kind ≠ 2)) else if d = 3 then x.sgn else if d = 4 then x.wrp else decide (d = 5)) else false
def chgOk (x : Th) (h f : Bool) : Bool := decide (thOk x = true ∧ (x.hid = true → h = true) ∧ (x.fix = true → f = true))
def chgT (x : Th) (h f : Bool) : Th := if chgOk x h f = true then { x with hid := h, fix := f } else thZ
def rstT (x : Th) : Th := { x with sgn := false, nxt := 0, id := 0 }
def defOk (k : Int) (s : ByteArray) : Bool := decide (k = 1 ∨ k = 2 ∨ (k = 3 ∧ s.size ≤ 100))
def defT (k : Int) (s : ByteArray) : Th := if k = 1 then ⟨0, k, true, false, false, true, digB s, 0⟩ else if k = 2 then ⟨0, k, true, false, true, false, digB s, 0⟩ else if k = 3 ∧ s.size ≤ 100 then ⟨0, k, false, false, false, false, s, 0⟩ else thZ
end Go.Proofs.Ytecbpplocokedaa
