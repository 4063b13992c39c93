/-
  The laws of products: the numbers' side.
-/
import Derived.Test.YtdcnlghfgkkcoabP5
namespace Go.Proofs.Ytdcnlghfgkkcoab
open Go.Sx

end Go.Proofs.Ytdcnlghfgkkcoab
