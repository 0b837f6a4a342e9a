/- The walks of layer 4's two laws, as the statements ask for them: they return true, and what was in memory stays. Conditions: the arguments are such. -/
import Derived.Test.YtoegpieomnpifaaCurOpen
import Derived.Test.YtoegpieomnpifaaCurNobody
namespace Go.Proofs.Ytoegpieomnpifaa
open Go.RowKit CurSpec

theorem walk_CursorAsks (A : Option Addr) (n cp : Nat) (l : List Tk) (A2 : Option Addr) (m cp2 : Nat) (ks : List Ak) (w : World) (h : Toks w (.slice A n cp) l) (hl : ∀ t ∈ l, t.t.size ≤ 9223372036854775807) (hn63 : n ≤ 9223372036854775807) (hk : Rdk 4 w (.slice A2 m cp2) m (aksV ks)) (hm : m = ks.length) (hm63 : m ≤ 9223372036854775807) :
    Calls Try.prog 3 #[.slice A n cp, .slice A2 m cp2] w fun e w' => e = .returned (.bool true) ∧ Below w.heap.size w w' :=
  walk_CursorAsks' A n cp l A2 m cp2 ks w h hl hk hm hn63 hm63
theorem walk_CursorNobody (a : Ak) (w : World) :
    Calls Try.prog 4 #[.agg #[.int .i64 a.d, .int .i64 a.k, .string a.s, .int .i64 a.n]] w fun e w' => e = .returned (.bool true) ∧ Below w.heap.size w w' :=
  walk_CursorNobody' a.d a.k a.s a.n w
end Go.Proofs.Ytoegpieomnpifaa
