/-
  Plain helpers of this seat's proofs: the contract of the function that copies a Part. Conditions: none.
-/
import Derived.Test.YtchpjojndkkmeaaDoorSev
namespace Go.Proofs.YtchpjojndkkmeaaDoor.seven
open Go.ChangeShapes Go.WideShapes Go.ChangeAt Go.RowKit
open gen
end Go.Proofs.YtchpjojndkkmeaaDoor.seven
