/- The cuts, imported. -/
import Derived.Test.YtkmomfnmmdlioabDoorStB
import Derived.Deep.DeepCutAuto
import Derived.Deep.CutRange
