/- Plain facts on names, used by the walks: which texts are names, which are the language's own words. No conditions. -/
import Derived.Test.YtffabnmgcicpiaaGreatRows
import Derived.WalkKit
import Derived.WalkSpells
import Derived.WalkLawsBesides
import Derived.PlainAid
namespace Go.Proofs.YtffabnmgcicpiaaGreat
open Go.RowKit Go.PlainAid

def kept : List (List UInt8) :=
  [[117, 115, 101], [102, 117, 110], [112, 117, 98], [109, 97, 105, 110], [105, 110, 116], [98, 111, 111, 108], [114, 111, 119], [105, 102], [108, 101, 116], [116, 114, 117, 101], [102, 97, 108, 115, 101], [97, 110, 100], [111, 114], [110, 111, 116], [97, 116], [108, 101, 110], [112, 117, 116], [106, 111, 105, 110], [112, 114, 105, 110, 116]]
def keptB (l : List UInt8) : Bool := kept.any (fun k => l == k)
def letter (c : UInt8) : Bool := decide (97 ≤ c.toNat) && decide (c.toNat ≤ 122)
def nameB (l : List UInt8) : Bool := decide (1 ≤ l.length) && decide (l.length ≤ 8) && !keptB l && l.all letter
theorem ret_bool {a b : Bool} (h : a = b) : Ending.returned (.bool a) = .returned (.bool b) := by rw [h]
theorem ret_int {k : IntKind} {a b : Int} (h : a = b) : Ending.returned (.int k a) = .returned (.int k b) := by rw [h]
theorem hide {p : Prop} (h : p) : Hid p := h
theorem unhide {p : Prop} (h : Hid p) : p := h.out
end Go.Proofs.YtffabnmgcicpiaaGreat
