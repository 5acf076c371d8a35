/- The walk of the law on TreeSame, with nothing left open. Conditions: the modules can be read. -/
import Derived.Test.YtambkcchnmbaoaaRn
import Derived.Test.YtambkcchnmbaoaaRk
namespace Go.Proofs.Ytambkcchnmbaoaa
open Go.RowKit Go.PlainAid

theorem sameEx : SameEx := fun lo hi h lo' h' a a' cap cap' ks ks' w h1 h2 h3 h4 h5 => sameExprs_any lo hi h lo' h' a a' cap cap' ks ks' w h1 h2 h3 h4 h5
theorem fnExactTreeSame_full (h : Nat) (v : Value) (m : TM) (h' : Nat) (v' : Value) (m' : TM) (w : World) (hM : IsMod w 0 w.heap.size h v m) (hM' : IsMod w 0 w.heap.size h' v' m') :
    Calls Try.prog 7 #[v, v'] w fun e w' => e = .returned (.bool true) ∧ Below w.heap.size w w' := fnExactTreeSame_walk sameEx h h' v v' m m' w hM hM'
end Go.Proofs.Ytambkcchnmbaoaa
