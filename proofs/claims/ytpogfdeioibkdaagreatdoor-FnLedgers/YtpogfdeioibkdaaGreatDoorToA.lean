/-
  Plain helpers of this seat's proofs: contracts of the functions that copy accounts and posts. Conditions: none.
-/
import Derived.Test.YtpogfdeioibkdaaGreatDoorFive
namespace Go.Proofs.YtpogfdeioibkdaaGreatDoor.five
open Go.ChangeShapes Go.WideShapes Go.ChangeAt Go.RowKit
open led (F5 z5)
end Go.Proofs.YtpogfdeioibkdaaGreatDoor.five
