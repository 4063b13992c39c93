/-
  GateOnce: what has come does not come again: true for every input; the inputs read as they did.
-/
import Derived.Test.YtanlbhkppagfdaaM1
import Derived.Test.YtanlbhkppagfdaaM2
import Derived.Test.YtanlbhkppagfdaaM3
import Derived.Test.YtanlbhkppagfdaaM4
import Derived.Test.YtanlbhkppagfdaaM5
import Derived.Test.YtanlbhkppagfdaaM6
import Derived.Test.YtanlbhkppagfdaaM7
import Derived.Test.YtanlbhkppagfdaaM8
import Derived.Test.YtanlbhkppagfdaaM9

namespace Go.Proofs.Ytanlbhkppagfdaa
open Go.ChangeShapes Go.WideShapes Go.ChangeAt Go.RowKit Go.Sx

end Go.Proofs.Ytanlbhkppagfdaa
