/-
  The cards of products.
-/
import Derived.Test.YtbkdokofapbagaaP7
import Derived.Test.YtbkdokofapbagaaC1
namespace Go.Proofs.Ytbkdokofapbagaa
open Go.Sx

theorem card_Mul64 : FnOK Try.prog 46 (specWW mul64G) :=
  FnOK_WW CxOK_nil (iv := []) (N := 100) Try.func46 (by kernel_rfl) (by kernel_rfl) (fun a b => by unfold mul64G; exact bnd_two (bnd_I _ _) (bnd_I _ _)) ok_Mul64
theorem cxok_times : CxOK Try.prog cxTimes2 := CxOK_cons card_Mul64 (CxOK_cons card_Add64 CxOK_nil)
theorem card_times : FnOK Try.prog 51 (specUI timesG) :=
  FnOK_UI cxok_times (iv := []) (N := 100) Try.func51 (by kernel_rfl) (by kernel_rfl) (fun a n => by unfold timesG; exact bnd_two (bnd_U _) (bnd_I _ _)) ok_times
theorem cxok_Mul : CxOK Try.prog cxMul2 := CxOK_cons card_Mul64 (CxOK_cons card_Add64 CxOK_nil)
theorem card_Mul : FnOK Try.prog 25 (specUU mulG) :=
  FnOK_UU cxok_Mul (iv := []) (N := 100) Try.func25 (by kernel_rfl) (by kernel_rfl) (fun a b => by unfold mulG; exact bnd_two (bnd_U _) (bnd_U _)) ok_Mul
theorem cxok_Turns : CxOK Try.prog cxTurns := CxOK_cons card_number (CxOK_cons card_Mul (CxOK_cons card_Add (CxOK_cons card_tells CxOK_nil)))
end Go.Proofs.Ytbkdokofapbagaa
