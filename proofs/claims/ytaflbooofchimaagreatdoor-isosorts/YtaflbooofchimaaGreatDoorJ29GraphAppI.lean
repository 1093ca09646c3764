/- Several texts as one: GraphAppI. -/
import Derived.Test.YtaflbooofchimaaGreatDoorJ14GraphCmSI
import Derived.Maps.AppendAt
import Derived.Deep.RegionLaw
import Derived.Laws.OwnMore
import Derived.BigRegion
import Derived.OpenShut
section
/- The laws of appends that the document's Canon wants. -/
namespace Go.Proofs.YtaflbooofchimaaGreatDoor.Grp
end Go.Proofs.YtaflbooofchimaaGreatDoor.Grp
end
