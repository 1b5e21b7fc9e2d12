/-
  The statement on Matrix: the row, and its card.
-/
import Derived.Test.YthhommjlomphdaaDoorRows
import Derived.Test.YthhommjlomphdaaDoorTie
import Derived.Test.YthhommjlomphdaaDoorCards
import Derived.Test.YthhommjlomphdaaDoorMatrices
import Derived.Test.YthhommjlomphdaaDoorLaid
import Derived.SevenTiedAt
namespace Go.Proofs.YthhommjlomphdaaDoor.matrices
open Go.ChangeShapes Go.WideShapes Go.RowKit Go.Joins

end Go.Proofs.YthhommjlomphdaaDoor.matrices
