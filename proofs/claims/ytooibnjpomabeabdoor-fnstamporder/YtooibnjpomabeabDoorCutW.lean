/- The cuts, imported. -/
import Derived.Test.YtooibnjpomabeabDoorStB
import Derived.Deep.DeepCutAuto
import Derived.Deep.CutRange
