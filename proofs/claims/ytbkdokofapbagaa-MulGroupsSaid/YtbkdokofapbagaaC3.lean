/-
  The cards that the laws of orders stand on.
-/
import Derived.Test.YtbkdokofapbagaaP8
import Derived.Test.YtbkdokofapbagaaC2
namespace Go.Proofs.Ytbkdokofapbagaa
open Go.Sx
theorem cxok_Order : CxOK Try.prog cxOrder := CxOK_cons card_number (CxOK_cons card_Sub (CxOK_cons card_Cmp (CxOK_cons card_tells CxOK_nil)))
end Go.Proofs.Ytbkdokofapbagaa
