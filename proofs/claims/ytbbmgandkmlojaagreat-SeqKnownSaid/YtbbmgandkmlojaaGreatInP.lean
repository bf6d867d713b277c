/- What stage 11's texts take from stage 10's, where the seat holds the texts AlP2 and AlR2 whole.

The conditions: none. -/
import Derived.Test.YtbbmgandkmlojaaGreatAlP2
import Derived.Test.YtbbmgandkmlojaaGreatAlR2
import Derived.Test.YtbbmgandkmlojaaGreatAlPa
import Derived.Deep.CutRange
import Derived.Deep.Fields
import Derived.Deep.RegionLaw
import Derived.Deep.AppendLies
import Derived.Laws.OwnMore
import Derived.Laws.StructEq
