/- ExprEval, joined. -/
import Derived.Test.YtffdfajlfgeicaaDoorMExprParse
import Derived.Test.YtffdfajlfgeicaaDoorMExprText
namespace Go.Proofs.YtffdfajlfgeicaaDoor
open Go.RowKit CurSpec TermSpec ExprSpec NamesSpec ScanSpec

def exS1 : ByteArray := ⟨#[40, 40, 120, 41, 41, 32, 45, 32, 49, 32, 45, 32, 50]⟩
def exS2 : ByteArray := ⟨#[110, 111, 116, 32, 120, 32, 60, 32, 50, 32, 97, 110, 100, 32, 40, 97, 32, 111, 114, 32, 105, 110, 40, 98, 41, 41]⟩
def exS3 : ByteArray := ⟨#[49, 32, 60, 32, 50, 32, 60, 32, 51]⟩
def exE1 : Ex := .bin 5 (.bin 5 (.leaf ⟨2, 0, ⟨#[120]⟩⟩) (.leaf ⟨1, 1, ⟨#[]⟩⟩)) (.leaf ⟨1, 2, ⟨#[]⟩⟩)
def exE2 : Ex := .bin 19 (.un 12 (.bin 15 (.leaf ⟨2, 0, ⟨#[120]⟩⟩) (.leaf ⟨1, 2, ⟨#[]⟩⟩))) (.bin 20 (.leaf ⟨2, 0, ⟨#[97]⟩⟩) (.leaf ⟨11, 0, ⟨#[98]⟩⟩))
theorem ex_p1 : parseP exS1 = (flat exE1, 0) := by kernel_rfl
theorem ex_p2 : parseP exS2 = (flat exE2, 0) := by kernel_rfl
theorem ex_p3 : (parseP exS3).2 = 2 := by kernel_rfl
theorem ex_g1 : ExprSpec.Good exE1 := by unfold exE1; simp only [ExprSpec.Good]; decide
theorem ex_g2 : ExprSpec.Good exE2 := by unfold exE2; simp only [ExprSpec.Good]; decide
theorem text_1 : ValSpec.text 1 = [49] := by unfold ValSpec.text; rw [if_neg (by decide), ValSpec.digs_lt (by decide)]; rfl
theorem text_2 : ValSpec.text 2 = [50] := by unfold ValSpec.text; rw [if_neg (by decide), ValSpec.digs_lt (by decide)]; rfl
theorem ex_t1 : tx exE1 = ⟨#[120, 32, 45, 32, 49, 32, 45, 32, 50]⟩ := by
  have e : tx exE1 = (((((⟨#[120]⟩ ++ ⟨#[32]⟩) ++ ⟨#[45]⟩) ++ ⟨#[32]⟩) ++ bs (ValSpec.text 1) ++ ⟨#[32]⟩) ++ ⟨#[45]⟩) ++ ⟨#[32]⟩ ++ bs (ValSpec.text 2) := by rfl
  rw [e, text_1, text_2]
  rfl
theorem ex_t2 : tx exE2 = exS2 := by
  have e : tx exE2 = ((((⟨#[110, 111, 116, 32]⟩ ++ ((((⟨#[120]⟩ ++ ⟨#[32]⟩) ++ ⟨#[60]⟩) ++ ⟨#[32]⟩) ++ bs (ValSpec.text 2))) ++ ⟨#[32]⟩) ++ ⟨#[97, 110, 100]⟩) ++ ⟨#[32]⟩) ++ ⟨#[40, 97, 32, 111, 114, 32, 105, 110, 40, 98, 41, 41]⟩ := by rfl
  rw [e, text_2]
  rfl
theorem ex_c1 : chk (flat exE1) = 0 := by kernel_rfl
theorem ex_c2 : chk (flat exE2) = 0 := by kernel_rfl
end Go.Proofs.YtffdfajlfgeicaaDoor
