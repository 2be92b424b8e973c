/-
  All that the walks over a trio stand on.
-/
import Derived.Test.YtihnghnafpgdfacGreatDoorPk38
namespace Go.Proofs.YtihnghnafpgdfacGreatDoor
end Go.Proofs.YtihnghnafpgdfacGreatDoor
