/- The document's Is: may a version be? -/
import Derived.Test.YthfcjlndaajkfaaGreatTEdIs1
import Derived.Test.YthfcjlndaajkfaaGreatG04
import Derived.Deep.CutBlock
import Derived.Deep.DeepCutAuto
import Derived.Test.YthfcjlndaajkfaaGreatTHeldS
namespace Go.Proofs.YthfcjlndaajkfaaGreat
open Go.RowKit
set_option linter.unusedVariables false
set_option linter.unusedSimpArgs false
def Ed.plT (M : List (Pk.Tb × List (Int × Int))) : List Int := (M.map fun x => Ed.fl x.2).flatten
def Ed.plK (L : List (Ed.Lg × List (Int × Int))) : List Int := (L.map fun x => Ed.fl x.2).flatten
end Go.Proofs.YthfcjlndaajkfaaGreat
