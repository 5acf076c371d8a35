/- The walk of l2Plain. No conditions. -/
import Derived.Test.YtgmohnbjfemebaaGreatDoorTo
namespace Go.Proofs.YtgmohnbjfemebaaGreatDoor
open Go.RowKit Go.PlainAid

/-- The parts that a kind has not are nothing. -/
def plainB (m : Int) (nm md : ByteArray) (p q r : Bool) : Bool := ((p || (m == 0)) && (q || (nm.toList == []))) && (r || (md.toList == []))
set_option maxHeartbeats 4000000 in
theorem l2Plain_any (k m : Int) (nm md : ByteArray) (a : Option Addr) (len cap : Nat) (p q r : Bool) (w : World) :
    Calls Tryz.prog 139 #[.agg #[.int .i64 k, .int .i64 m, .string nm, .string md, .slice a len cap], .bool p, .bool q, .bool r] w fun e w' => e = .returned (.bool (plainB m nm md p q r)) ∧ Below w.heap.size w w' := by
  unfold plainB
  cases z1 : (m == 0) <;> cases z2 : (nm.toList == []) <;> cases z3 : (md.toList == []) <;> cases p <;> cases q <;> cases r
  all_goals
    go_enter Tryz.func139, Tryz.ntmps139
    go_wp2
    go_ret
    exact ⟨rfl, (Below.refl _ _).alloc (Nat.le_refl _) _⟩
end Go.Proofs.YtgmohnbjfemebaaGreatDoor
