/- The document's log and table: where a file of a number stands. -/
import Derived.Test.YthfcjlndaajkfaaGreatTEdIs
namespace Go.Proofs.YthfcjlndaajkfaaGreat
open Go.RowKit
set_option linter.unusedVariables false
set_option linter.unusedSimpArgs false
namespace Ed
/-- Where a number stands; below 0: nowhere. -/
def at_ (ids : List Int) (x : Int) : Int := match find ids x with
  | some k => (k : Int)
  | none => -1
end Ed
end Go.Proofs.YthfcjlndaajkfaaGreat
