/-
  The statement on Encodes: the row, and its card.
-/
import Derived.Test.YthhommjlomphdaaDoorRows
import Derived.Test.YthhommjlomphdaaDoorTie
import Derived.Test.YthhommjlomphdaaDoorCards
import Derived.Test.YthhommjlomphdaaDoorEncodes
import Derived.Test.YthhommjlomphdaaDoorArgRows
import Derived.Test.YthhommjlomphdaaDoorLaid
import Derived.SevenTiedAt
namespace Go.Proofs.YthhommjlomphdaaDoor.encodes
open Go.ChangeShapes Go.WideShapes Go.RowKit Go.Joins

end Go.Proofs.YthhommjlomphdaaDoor.encodes
