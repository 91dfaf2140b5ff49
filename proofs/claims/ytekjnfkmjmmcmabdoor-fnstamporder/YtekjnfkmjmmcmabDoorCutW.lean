/- The cuts, imported. -/
import Derived.Test.YtekjnfkmjmmcmabDoorStB
import Derived.Deep.DeepCutAuto
import Derived.Deep.CutRange
