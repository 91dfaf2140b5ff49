/- The cuts, imported. -/
import Derived.Test.YteoabghchkpaoabDoorStB
import Derived.Deep.DeepCutAuto
import Derived.Deep.CutRange
