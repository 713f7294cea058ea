/- The inverse transform of the transform: the law's walk. -/
import Derived.Test.YtfgiiidfpbpniaaGreatDoorKB
import Derived.Test.YtfgiiidfpbpniaaGreatDoorHV
namespace Go.Proofs.YtfgiiidfpbpniaaGreatDoor
open Go.RowKit

end Go.Proofs.YtfgiiidfpbpniaaGreatDoor
