/-
  The cards of package wide's functions, one upon another.
-/
import Derived.Test.YtbkdokofapbagaaP2
import Derived.Test.YtbkdokofapbagaaLift
namespace Go.Proofs.Ytbkdokofapbagaa
open Go.Sx

theorem CxOK_nil : CxOK Try.prog [] := fun _ h => by cases h
theorem CxOK_cons {f : Nat} {s : FSpec} {cx : Cx} (h : FnOK Try.prog f s) (hs : CxOK Try.prog cx) : CxOK Try.prog ((f, s) :: cx) := by
  intro p hp
  rcases List.mem_cons.1 hp with rfl | hp
  · exact h
  · exact hs p hp

theorem bnd_U (n : Nat) : SA.bnd none0 (sU n) := by
  intro k hk; simp only [List.mem_singleton] at hk; subst hk; trivial
theorem bnd_I (k : IntKind) (n : Int) : SA.bnd none0 (sI k n) := trivial
theorem bnd_B (b : Bool) : SA.bnd none0 (sB b) := trivial
theorem bnd_one {x : SA} (h : x.bnd none0) : SV.bnd none0 (.one x) := h
theorem bnd_two {x y : SA} (h : x.bnd none0) (h' : y.bnd none0) : SV.bnd none0 (.tup [x, y]) := by
  intro z hz
  simp only [List.mem_cons, List.not_mem_nil, or_false] at hz
  rcases hz with rfl | rfl
  · exact h
  · exact h'

theorem card_Add64 : FnOK Try.prog 47 specAdd64 := FnOK_add64 Try.func47 (by kernel_rfl) (by kernel_rfl) (by kernel_rfl) (by kernel_rfl)
theorem card_Sub64 : FnOK Try.prog 60 specSub64 := FnOK_sub64 Try.func60 (by kernel_rfl) (by kernel_rfl) (by kernel_rfl) (by kernel_rfl)
theorem cxok_plus : CxOK Try.prog cxPlus := CxOK_cons card_Add64 CxOK_nil
theorem card_plus : FnOK Try.prog 44 (specUU plusG) :=
  FnOK_UU cxok_plus (iv := []) (N := 100) Try.func44 (by kernel_rfl) (by kernel_rfl) (fun a b => by unfold plusG; exact bnd_two (bnd_U _) (bnd_I _ _)) ok_plus
theorem cxok_less : CxOK Try.prog cxLess := CxOK_cons card_Sub64 CxOK_nil
theorem card_less : FnOK Try.prog 45 (specUU lessG) :=
  FnOK_UU cxok_less (iv := []) (N := 100) Try.func45 (by kernel_rfl) (by kernel_rfl) (fun a b => by unfold lessG; exact bnd_two (bnd_U _) (bnd_I _ _)) ok_less
theorem cxok_Add : CxOK Try.prog cxAdd := CxOK_cons card_plus CxOK_nil
theorem card_Add : FnOK Try.prog 22 (specUU addG) :=
  FnOK_UU cxok_Add (iv := []) (N := 100) Try.func22 (by kernel_rfl) (by kernel_rfl) (fun a b => by unfold addG; exact bnd_two (bnd_U _) (bnd_B _)) ok_Add
theorem cxok_Sub : CxOK Try.prog cxSub := CxOK_cons card_less CxOK_nil
theorem card_Sub : FnOK Try.prog 23 (specUU subG) :=
  FnOK_UU cxok_Sub (iv := []) (N := 100) Try.func23 (by kernel_rfl) (by kernel_rfl) (fun a b => by unfold subG; exact bnd_two (bnd_U _) (bnd_B _)) ok_Sub
theorem card_Cmp : FnOK Try.prog 27 (specUU cmpG) :=
  FnOK_UU CxOK_nil (iv := []) (N := 100) Try.func27 (by kernel_rfl) (by kernel_rfl) (fun a b => by unfold cmpG; exact bnd_one (bnd_I _ _)) ok_Cmp
theorem card_picked : FnOK Try.prog 33 (specII (fun a b => [i64ok a, 0 < b ∧ b ≤ 1000000]) pickedG) :=
  FnOK_II CxOK_nil (iv := []) (N := 100) Try.func33 (by kernel_rfl) (by kernel_rfl) (fun _ _ => bnd_one (bnd_I _ _)) (fun a b h => ok_picked a b h.1 h.2.1)
theorem cxok_Raw : CxOK Try.prog cxRaw := CxOK_cons card_picked CxOK_nil
theorem card_number : FnOK Try.prog 21 (specRaw rawG) :=
  FnOK_Raw cxok_Raw (iv := []) (N := 100) Try.func21 (by kernel_rfl) (by kernel_rfl) (fun _ _ _ _ => bnd_one (bnd_U _)) ok_number
theorem cxok_Tells : CxOK Try.prog cxTells := CxOK_cons card_Add CxOK_nil
theorem card_tells : FnOK Try.prog 24 (spec0 yes) :=
  FnOK_0 cxok_Tells (iv := []) (N := 100) Try.func24 (by kernel_rfl) (by kernel_rfl) (bnd_one (bnd_B _)) ok_tells
theorem cxok_AddBack : CxOK Try.prog cxAddBack := CxOK_cons card_number (CxOK_cons card_Add (CxOK_cons card_Sub (CxOK_cons card_tells CxOK_nil)))
end Go.Proofs.Ytbkdokofapbagaa
