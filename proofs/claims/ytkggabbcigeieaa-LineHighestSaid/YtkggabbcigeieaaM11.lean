/-
  Texts: P330, V204, P324, V211, P331, V218, P338, V219.
-/
import Derived.Test.YtkggabbcigeieaaM1
import Derived.Test.YtkggabbcigeieaaM2
import Derived.Test.YtkggabbcigeieaaM3
import Derived.Test.YtkggabbcigeieaaM4
import Derived.Test.YtkggabbcigeieaaM5
import Derived.Test.YtkggabbcigeieaaM6
import Derived.Test.YtkggabbcigeieaaM7
import Derived.Test.YtkggabbcigeieaaM8
import Derived.Test.YtkggabbcigeieaaM9
import Derived.Test.YtkggabbcigeieaaM10
section
namespace Go.Proofs.Ytkggabbcigeieaa
open Go.Sx
set_option maxRecDepth 100000
theorem noCl_cl : clP noCl := clP_cl
theorem n0_blk {P H : Nat → Int} {A : Nat → Option Addr} {C : Nat → Nat} {a : Option Addr} {n : Nat} (hn : n ≤ 1000) (ha : a = none → n = 0) : n0P a n (blk0 P H A C) :=
  ⟨hn, ha, fun i c hc => by
    rcases c with _ | _ | _ | c
    · rfl
    · rfl
    · rfl
    · omega⟩
theorem n0P.two {a : Option Addr} {n : Nat} {f : Nat → Nat → SC} (p : n0P a n f) (i : Nat) : f i 2 = .xs (aAt (f i 2)) 0 (cAt (f i 2)) 109 noCl := p.tf i 2 (by omega)
theorem n0P.nz {a : Option Addr} {n : Nat} {f : Nat → Nat → SC} (p : n0P a n f) (i : Nat) : nAt (f i 2) = 0 := by rw [p.two i]; rfl
theorem n0P.xz {a : Option Addr} {n : Nat} {f : Nat → Nat → SC} (p : n0P a n f) (i : Nat) : xAt (f i 2) = noCl := by rw [p.two i]; rfl
theorem n0P.tfP {a : Option Addr} {n : Nat} {f : Nat → Nat → SC} (p : n0P a n f) : tfP a n f :=
  ⟨by have := p.tn; simp only [maxLen]; omega, p.ta, fun i c hc => by
    rw [p.tf i c hc]
    rcases c with _ | _ | _ | c
    · rfl
    · rfl
    · show _ = SC.xs _ (nAt (f i 2)) _ 109 (xAt (f i 2))
      rw [p.nz i, p.xz i]; rfl
    · omega, fun i _ => by rw [p.nz i]; exact Nat.zero_le _, fun i => by rw [p.xz i]; exact noCl_cl⟩
theorem blk0_sim {P H : Nat → Int} {A : Nat → Option Addr} {C : Nat → Nat} {a : Option Addr} {n cap : Nat} : simC (.xs a n cap 3 (blk0 P H A C)) (.xs a n cap 3 (blk0 P H A C)) := ⟨rfl, rfl, rfl, fun _ _ => ⟨rfl, rfl, noCl_cl.refl⟩⟩
theorem up_lt {T : Type} {k : Nat} {z : T} {f : Nat → T} {i : Nat} (h : i < k) : upI k z f i = f i := if_pos h
theorem up_ge {T : Type} {k : Nat} {z : T} {f : Nat → T} {i : Nat} (h : ¬ i < k) : upI k z f i = z := if_neg h
theorem ok_ro (a : Option Addr) (n cap : Nat) (P H : Nat → Int) (A : Nat → Option Addr) (C : Nat → Nat) (hn : n ≤ 1000) :
    OwesR Try.prog cxRo [] [(3, .inv (invRo a n cap P H A C))] 2 Try.f21 [xTr a n cap (blk0 P H A C)] true roR := by
  rw [vc_ro]
  intro x1
  have hx1 : x1 := rfl
  clear_value x1
  refine ⟨fun _ => rfl, 0, Nat.zero_le _, hx1, hx1, blk0_sim, rfl, rfl, fun y hy => ⟨fun hl => ?_, fun hl => ?_⟩⟩
  · have hl := of_decide_eq_true hl
    exact ⟨⟨by omega, hl⟩, y + 1, by omega, hx1, hx1, blk0_sim, rfl, by rw [IntKind.wrap_i64]; omega, by show (n - (y + 1)) + 1 ≤ n - y; omega⟩
  · exact ⟨⟨by decide, by decide, by decide, by decide⟩, ⟨by decide, by decide, by decide, by decide⟩, ⟨Nat.le_refl _, rfl, Nat.le_refl _, fun i hi => absurd hi (Nat.not_lt_zero i)⟩, Nat.le_refl _, rfl, Nat.le_refl _, fun i hi => absurd hi (Nat.not_lt_zero i)⟩
theorem okx_Ro : CxOK Try.prog cxRo := okx_mark okx_nil
theorem ro_cl : ∀ r ∈ roR, r.closed := fun r hr => by
  rcases List.mem_cons.1 hr with rfl | hr
  · exact fun i hi => absurd hi (Nat.not_lt_zero i)
  · rw [List.mem_singleton.1 hr]; exact trivial
theorem card_ro {gl : Globs} : FnOKs Try.prog gl 21 cRo := by
  refine FnOKs.up0 (FnOKs_R0 (cx := cxRo) okx_Ro (sl := []) oks_nil Try.func21 (by kernel_rfl) (by kernel_rfl) fun ls hc => ?_) gl
  unfold roC at hc
  split at hc
  · rename_i a n cap f
    obtain ⟨p, _⟩ := hc
    refine ⟨_, _, _, fun ρ => ?_, fun E hE x hx => ?_, ro_cl, ok_ro a n cap (fun i => iAt f i 0) (fun i => iAt f i 1) (fun i => aAt (f i 2)) (fun i => cAt (f i 2)) p.tn⟩
    · rfl
    · rw [List.mem_singleton.1 hx]
      exact x_told (fun i _ c hc => p.tf i c hc) (hE (xTr a n cap f) (List.mem_cons_self ..))
  · exact hc.1.elim
theorem ok_cc (a : Option Addr) (ca : Nat) (f : Nat → Nat → SC) (b : Option Addr) (cb : Nat) (g : Nat → Nat → SC) : OwesR Try.prog .none [] [] 2 Try.f22 [.sc (.xs a 0 ca 109 f), .sc (.xs b 0 cb 109 g)] true ccR := by
  rw [vc_cc]
  intro x1
  have hx1 : x1 := Int.le_refl _
  exact ⟨rfl, ⟨hx1, hx1, Int.natCast_nonneg _, hx1⟩, ⟨hx1, hx1, hx1⟩, ⟨rfl, fun i hi => absurd hi (Nat.not_lt_zero i)⟩, rfl, fun i hi => absurd hi (Nat.not_lt_zero i)⟩
theorem cc_cl : ∀ r ∈ ccR, r.closed := fun r hr => by
  rcases List.mem_cons.1 hr with rfl | hr
  · exact fun i hi => absurd hi (Nat.not_lt_zero i)
  · rw [List.mem_singleton.1 hr]; exact fun i hi => absurd hi (Nat.not_lt_zero i)
theorem card_cc {gl : Globs} : FnOKs Try.prog gl 22 cCc := by
  refine FnOKs.up0 (FnOKs_R0 (cx := .none) okx_nil (sl := []) oks_nil Try.func22 (by kernel_rfl) (by kernel_rfl) fun ls hc => ?_) gl
  unfold ccC at hc
  split at hc
  · rename_i a n ca f b m cb g
    obtain ⟨rfl, rfl, _⟩ := hc
    exact ⟨_, _, _, fun ρ => rfl, fun E hE => hE, cc_cl, ok_cc a ca f b cb g⟩
  · exact hc.1.elim
theorem ow_step {k : Nat} {P H : Nat → Int} {A : Nat → Option Addr} {C : Nat → Nat} {a9 : Option Addr} {c9 : Nat} (i : Nat) :
    allC 3 fun c => simC (setG (owW k P H A C) k 0 [.val (.int .i64 (P k)), .val (.int .i64 (H k)), .xs a9 0 c9 109 noCl] i c) (owW (k + 1) P H (fun i => if i = k then a9 else A i) (fun i => if i = k then c9 else C i) i c) := by
  have h0 : ∀ c, owW (k + 1) P H (fun i => if i = k then a9 else A i) (fun i => if i = k then c9 else C i) i c = blk0 (upI (k + 1) 0 P) (upI (k + 1) 0 H) (upI (k + 1) none (fun i => if i = k then a9 else A i)) (upI (k + 1) 0 (fun i => if i = k then c9 else C i)) i c := fun c => if_neg (by omega)
  have key : ∀ (f : Nat → Int), cond (decide (i = k)) (f k) (upI k 0 f i) = upI (k + 1) 0 f i := fun f => by
    by_cases h : i = k
    · subst h; rw [decide_eq_true rfl]; show f i = _; rw [up_lt (by omega)]
    · rw [decide_eq_false h]
      show upI k 0 f i = _
      by_cases h2 : i < k
      · rw [up_lt h2, up_lt (by omega)]
      · rw [up_ge h2, up_ge (by omega)]
  have ka : ∀ {T : Type} (z x : T) (f : Nat → T), upI (k + 1) z (fun i => if i = k then x else f i) i = cond (decide (i = k)) x (upI k z f i) := fun z x f => by
    by_cases h : i = k
    · subst h; rw [decide_eq_true rfl]; show _ = x; rw [up_lt (by omega), if_pos rfl]
    · rw [decide_eq_false h]
      show _ = upI k z f i
      by_cases h2 : i < k
      · rw [up_lt h2, up_lt (by omega), if_neg h]
      · rw [up_ge h2, up_ge (by omega)]
  refine ⟨?_, ?_, ?_⟩
  · show simC (selC (decide (i = k)) (.val (.int .i64 (P k))) (owW k P H A C i 0)) (owW (k + 1) P H _ _ i 0)
    rw [h0 0, show owW k P H A C i 0 = .val (.int .i64 (upI k 0 P i)) from if_neg (by omega)]
    show simC (.val (.int .i64 (cond (decide (i = k)) (P k) (upI k 0 P i)))) (.val (.int .i64 (upI (k + 1) 0 P i)))
    rw [key]; rfl
  · show simC (selC (decide (i = k)) (.val (.int .i64 (H k))) (owW k P H A C i 1)) (owW (k + 1) P H _ _ i 1)
    rw [h0 1, show owW k P H A C i 1 = .val (.int .i64 (upI k 0 H i)) from if_neg (by omega)]
    show simC (.val (.int .i64 (cond (decide (i = k)) (H k) (upI k 0 H i)))) (.val (.int .i64 (upI (k + 1) 0 H i)))
    rw [key]; rfl
  · show simC (selC (decide (i = k)) (.xs a9 0 c9 109 noCl) (owW k P H A C i 2)) (owW (k + 1) P H _ _ i 2)
    rw [h0 2]
    show simC _ (.xs (upI (k + 1) none (fun i => if i = k then a9 else A i) i) 0 (upI (k + 1) 0 (fun i => if i = k then c9 else C i) i) 109 noCl)
    rw [ka, ka]
    have hz : cond (decide (i = k)) 0 0 = 0 := by cases decide (i = k) <;> rfl
    by_cases hk : k = 0
    · rw [show owW k P H A C i 2 = .val (.slice none 0 0) from if_pos ⟨hk, rfl⟩]
      have e1 : upI k none A i = none := up_ge (by omega)
      have e2 : upI k 0 C i = 0 := up_ge (by omega)
      rw [e1, e2]
      exact ⟨rfl, hz, rfl, fun j hj => absurd (show j < 0 from by rw [← hz]; exact hj) (Nat.not_lt_zero j)⟩
    · rw [show owW k P H A C i 2 = .xs (upI k none A i) 0 (upI k 0 C i) 109 noCl from if_neg (by omega)]
      exact ⟨rfl, hz, rfl, fun j hj => absurd (show j < 0 from by rw [← hz]; exact hj) (Nat.not_lt_zero j)⟩
theorem ok_ow (a : Option Addr) (n cap : Nat) (P H : Nat → Int) (A : Nat → Option Addr) (C : Nat → Nat) (best fin : Int) (hn : n ≤ 1000) (ha : a = none → n = 0) :
    OwesR Try.prog cxRo slOw [(4, .inv (invOw a n cap P H A C best fin))] 2 Try.f19 [sTr a n cap (blk0 P H A C) best fin] true (owR P H n best fin) := by
  rw [vc_ow]
  intro x1 x2
  have hx1 : x1 := fun i hi => absurd hi (Nat.not_lt_zero i)
  have hx2 : x2 := fun i hi => absurd hi (Nat.not_lt_zero i)
  clear_value x1 x2
  refine ⟨n0_blk hn ha, fun a1 c1 _ _ a4 c4 _ _ => ⟨⟨by omega, by omega, by omega, by omega⟩, fun _ => rfl, ⟨0, fun _ => none, fun _ => 0, a1, c1, a4, c4⟩, Nat.zero_le _, ⟨rfl, rfl, rfl, hx1⟩, ⟨rfl, rfl, rfl, hx2⟩, ⟨rfl, rfl, rfl, Int.toNat_natCast n, Int.toNat_natCast n⟩, blk0_sim, rfl, rfl, blk0_sim, rfl, rfl, rfl, rfl, rfl, rfl, rfl, Int.toNat_natCast n, by rw [Nat.sub_self], fun i hi => ⟨rfl, rfl, rfl⟩, fun y hy => ⟨fun hl => ?_, fun hl => ?_⟩⟩⟩
  · have hl := of_decide_eq_true hl
    have hk : y.k < n := by omega
    have et : 0 + (y.k : Int).toNat = y.k := by rw [Int.toNat_natCast, Nat.zero_add]
    refine ⟨⟨by omega, hl⟩, rfl, rfl, fun a9 c9 _ _ a12 c12 _ _ => ⟨⟨by omega, hl⟩, by omega, ⟨y.k + 1, fun i => if i = y.k then a9 else y.A i, fun i => if i = y.k then c9 else y.C i, a12, c12, y.a4, y.c4⟩, hk, ⟨rfl, rfl, rfl, hx1⟩, ⟨rfl, rfl, rfl, hx2⟩, ⟨rfl, rfl, rfl, rfl, rfl⟩, blk0_sim, rfl, by show _ = ((y.k + 1 : Nat) : Int); rw [IntKind.wrap_i64]; omega, blk0_sim, rfl, rfl, rfl, rfl, rfl, rfl, rfl, rfl, rfl, fun i hi => ?_, by show (n - (y.k + 1)) + 1 ≤ n - y.k; omega⟩⟩
    rw [et]
    have := ow_step (k := y.k) (P := P) (H := H) (A := y.A) (C := y.C) (a9 := a9) (c9 := c9) i
    rw [show (y.k : Int).toNat = y.k from Int.toNat_natCast _]
    exact this
  · have hl := of_decide_eq_false hl
    have hy : y.k ≤ n := hy
    have hk : y.k = n := by omega
    refine ⟨fun p => (y.A (p.headD 0), y.C (p.headD 0)), trivial, ⟨by omega, rfl, Nat.le_refl _, fun i hi => ?_⟩, ⟨rfl, trivial⟩, ⟨rfl, trivial⟩, trivial⟩
    rw [Nat.zero_add, hk]
    have h0 : ∀ c, owW n P H y.A y.C i c = blk0 (upI n 0 P) (upI n 0 H) (upI n none y.A) (upI n 0 y.C) i c := fun c => if_neg (by omega)
    refine ⟨?_, ?_, ?_⟩
    · show simC (owW n P H y.A y.C i 0) (.val (.int .i64 (P i)))
      rw [h0]
      show simC (.val (.int .i64 (upI n 0 P i))) _
      rw [up_lt hi]; rfl
    · show simC (owW n P H y.A y.C i 1) (.val (.int .i64 (H i)))
      rw [h0]
      show simC (.val (.int .i64 (upI n 0 H i))) _
      rw [up_lt hi]; rfl
    · show simC (owW n P H y.A y.C i 2) (.xs (y.A i) 0 (y.C i) 109 noCl)
      rw [h0]
      show simC (.xs (upI n none y.A i) 0 (upI n 0 y.C i) 109 noCl) _
      rw [up_lt hi, up_lt hi]
      exact noCl_cl.refl
theorem ow_cl {P H : Nat → Int} {n : Nat} {best fin : Int} : ∀ r ∈ owR P H n best fin, r.closed := fun r hr => by
  rw [List.mem_singleton.1 hr]
  intro _ k hk
  rcases List.mem_cons.1 hk with rfl | hk
  · exact trivial
  · rcases List.mem_cons.1 hk with rfl | hk
    · exact trivial
    · rw [List.mem_singleton.1 hk]; exact trivial
theorem card_ow {gl : Globs} : FnOKs Try.prog gl 19 cOw := by
  refine FnOKs.up0 (FnOKs_R0 (cx := cxRo) okx_Ro (sl := slOw) (oks_cons card_ro (oks_cons card_cc oks_nil)) Try.func19 (by kernel_rfl) (by kernel_rfl) fun ls hc => ?_) gl
  unfold owC at hc
  split at hc
  · rename_i a n cap f best fin
    obtain ⟨p, _⟩ := hc
    refine ⟨_, _, _, fun ρ => ?_, fun E hE x hx => ?_, ow_cl, ok_ow a n cap (fun i => iAt f i 0) (fun i => iAt f i 1) (fun i => aAt (f i 2)) (fun i => cAt (f i 2)) best fin p.tn p.ta⟩
    · rfl
    · rw [List.mem_singleton.1 hx]
      exact tr_told (fun i _ c hc => p.tf i c hc) (hE (sTr a n cap f best fin) (List.mem_cons_self ..))
  · exact hc.1.elim
end Go.Proofs.Ytkggabbcigeieaa
end

section
namespace Go.Proofs.Ytkggabbcigeieaa
open Go.Sx
set_option maxRecDepth 100000
def putN {T : Type} (n : Nat) (g : Nat → T) (x : T) (i : Nat) : T := if i < n then g i else x
def gwE (P H : Nat → Int) (N : Nat → Nat) (n : Nat) (best fin p : Int) (m : Nat) : Int :=
  if trE P H N n best fin ≠ 0 then trE P H N n best fin else if p < 0 ∨ (n : Int) ≤ p then 5 else if stO P p fin = false then 15 else if 6 < m then 1 else if 40 ≤ n then 9 else 0
def gwP (P : Nat → Int) (n : Nat) (p : Int) : Nat → Int := putN n P p
def gwH (H : Nat → Int) (n : Nat) (p : Int) : Nat → Int := putN n H (IntKind.i64.wrap (H p.toNat + 1))
def gwB (P H : Nat → Int) (n : Nat) (fin p : Int) : Int := bsD (gwP P n p) (gwH H n p) fin (n + 1) (n + 1)
end Go.Proofs.Ytkggabbcigeieaa
end

section
namespace Go.Proofs.Ytkggabbcigeieaa
open Go.Sx
set_option maxRecDepth 100000
section
variable {P H : Nat → Int} {A : Nat → Option Addr} {N C : Nat → Nat} {X : Nat → Nat → Nat → SC} {a b : Option Addr} {n m cb : Nat} {p best fin : Int} {Y : Nat → Nat → SC}
theorem cond_put {T : Type} (g : Nat → T) (x : T) (i : Nat) : cond (decide (i < n)) (g i) x = putN n g x i := by
  unfold putN
  by_cases h : i < n
  · rw [if_pos h, decide_eq_true h]; rfl
  · rw [if_neg h, decide_eq_false h]; rfl
end
end Go.Proofs.Ytkggabbcigeieaa
end

section
namespace Go.Proofs.Ytkggabbcigeieaa
open Go.Sx
set_option maxRecDepth 100000
def gr0E (P H : Nat → Int) (n : Nat) (best fin p : Int) : Int := gwE P H (fun _ => 0) n best fin p 0
def gr0R (P H : Nat → Int) (n : Nat) (best fin p : Int) : List RS :=
  [.ex (fun _ => True) fun ac => .st [.s (if gr0E P H n best fin p = 0 then n + 1 else 0) 3 (owF (gwP P n p) (gwH H n p) ac), kI (if gr0E P H n best fin p = 0 then gwB P H n fin p else 0), kI (if gr0E P H n best fin p = 0 then fin else 0)], .v (sI .i64 (gr0E P H n best fin p))]
def gr0C : List (List FD) → List Prop
  | [[.x a n cap f, .i _, .i _], [.i _], [.x _ m _ _]] => [n0P a n f, m = 0, n ≤ cap]
  | _ => [False]
def gr0G : List (List FD) → List RS
  | [[.x _ n _ f, .i best, .i fin], [.i p], [.x _ _ _ _]] => gr0R (fun i => iAt f i 0) (fun i => iAt f i 1) n best fin p
  | _ => []
def cGr : SSpec := specQ0 true [pqTr, .one (.i .i64), .one (.x 109)] gr0C gr0G
def se0E (P H : Nat → Int) (n : Nat) (best fin h : Int) : Int := seE P H (fun _ => 0) n best fin h
def se0R (P H : Nat → Int) (n : Nat) (best fin h : Int) : List RS :=
  [.ex (fun _ => True) fun ac => .st [.s (if se0E P H n best fin h = 0 then n else 0) 3 (owF P H ac), kI (if se0E P H n best fin h = 0 then best else 0), kI (if se0E P H n best fin h = 0 then seF P best h else 0)], .v (sI .i64 (se0E P H n best fin h))]
def se0C : List (List FD) → List Prop
  | [[.x a n _ f, .i _, .i _], [.i _]] => [n0P a n f]
  | _ => [False]
def se0G : List (List FD) → List RS
  | [[.x _ n _ f, .i best, .i fin], [.i h]] => se0R (fun i => iAt f i 0) (fun i => iAt f i 1) n best fin h
  | _ => []
def cSt0 : SSpec := specQ0 true [pqTr, .one (.i .i64)] se0C se0G
def slGr : List (Nat × SSpec) := [(12, cCk), (16, cHs), (17, cSt), (18, cBe), (19, cOw)]
def slSt0 : List (Nat × SSpec) := [(12, cCk), (15, cLi), (19, cOw)]
def cxGr : Cx := ⟨[(1000000010, fun _ => none), (1000000012, fun _ => none), (1000000013, fun _ => none), (1000000014, fun _ => none), (1000000020, fun _ => none)], [], 0, []⟩
theorem vc_gr (a : Option Addr) (n cap : Nat) (P H : Nat → Int) (A : Nat → Option Addr) (C : Nat → Nat) (best fin p : Int) (b : Option Addr) (cb : Nat) :
    OwesR Try.prog cxGr slGr [] 2 Try.f9 [sTr a n cap (blk0 P H A C) best fin, sI .i64 p, .sc (.xs b 0 cb 109 noCl)] true (gr0R P H n best fin p) =
    (let x1 : Int := trE (fun (i : Nat) => iAt (blk0 P H A C) i 0) (fun (i : Nat) => iAt (blk0 P H A C) i 1) (fun (i : Nat) => nAt (blk0 P H A C i 2)) n best fin; let x2 : Prop := gr0E P H n best fin p = (0 : Int); let x3 : Nat := if x2 then n + 1 else 0; let x4 : Int := if x2 then gwB P H n fin p else (0 : Int); let x5 : Int := if x2 then fin else (0 : Int); let x6 : Prop := (↑n : Int) ≤ (↑n : Int); let x7 : Nat := (↑n : Int).toNat + 1; tfP a n (blk0 P H A C) ∧ ((x1 != (0 : Int)) = Bool.true → (∃ (_ : List Nat → Option Go.Addr × Nat), True ∧ x3 = 0 ∧ ((0 : Int) = x4 ∧ True) ∧ ((0 : Int) = x5 ∧ True) ∧ True) ∧ x1 = gr0E P H n best fin p) ∧ ((x1 != (0 : Int)) = Bool.false → n ≤ Go.maxLen ∧ ((!hsB n p) = Bool.true → (∃ (_ : List Nat → Option Go.Addr × Nat), True ∧ x3 = 0 ∧ ((0 : Int) = x4 ∧ True) ∧ ((0 : Int) = x5 ∧ True) ∧ True) ∧ (5 : Int) = gr0E P H n best fin p) ∧ ((!hsB n p) = Bool.false → trP a n (blk0 P H A C) ∧ (0 : Int) ≤ p ∧ p < (↑n : Int) ∧ (0 : Int) ≤ fin ∧ ((!stO (fun (i : Nat) => iAt (blk0 P H A C) i 0) p fin) = Bool.true → (∃ (_ : List Nat → Option Go.Addr × Nat), True ∧ x3 = 0 ∧ ((0 : Int) = x4 ∧ True) ∧ ((0 : Int) = x5 ∧ True) ∧ True) ∧ (15 : Int) = gr0E P H n best fin p) ∧ ((!stO (fun (i : Nat) => iAt (blk0 P H A C) i 0) p fin) = Bool.false → (Decidable.decide ((0 : Int) > (6 : Int)) = Bool.true → (∃ (_ : List Nat → Option Go.Addr × Nat), True ∧ x3 = 0 ∧ ((0 : Int) = x4 ∧ True) ∧ ((0 : Int) = x5 ∧ True) ∧ True) ∧ (1 : Int) = gr0E P H n best fin p) ∧ (Decidable.decide ((0 : Int) > (6 : Int)) = Bool.false → (((↑n : Int) == (40 : Int)) = Bool.true → (∃ (_ : List Nat → Option Go.Addr × Nat), True ∧ x3 = 0 ∧ ((0 : Int) = x4 ∧ True) ∧ ((0 : Int) = x5 ∧ True) ∧ True) ∧ (9 : Int) = gr0E P H n best fin p) ∧ (((↑n : Int) == (40 : Int)) = Bool.false → ((0 : Int) ≤ p ∧ p < (↑n : Int)) ∧ ((0 : Int) ≤ (↑n : Int) ∧ x6 ∧ (↑n : Int) ≤ (↑cap : Int) ∧ x6) ∧ (↑n : Int).toNat ≠ 0 ∧ (↑n : Int).toNat = (↑n : Int).toNat ∧ (x7 ≤ Go.maxLen ∧ x7 * 40 ≤ 140737488355328) ∧ ∀ (c : Nat), x7 + c ≤ Go.maxLen → 0 + x7 ≤ x7 ∧ x7 ≤ x7 + c ∧ ∀ (a : Go.Addr), (trP (Option.some a) x7 fun (i c : Nat) => selC (Decidable.decide (0 + i < (↑n : Int).toNat)) (blk0 P H A C (0 + i) c) (fixAt (flat [SK.c (SC.val (Go.Value.int Go.IntKind.i64 p)), SK.c (SC.val (Go.Value.int Go.IntKind.i64 (Go.IntKind.i64.wrap (H p.toNat + (1 : Int))))), SK.c (SC.xs b 0 cb 109 noCl)]) 3 1 0 (0 + i - (↑n : Int).toNat) c)) ∧ (0 : Int) ≤ fin ∧ fin < (↑x7 : Int) ∧ ∀ (ad : Nat → Go.Addr), 0 + x7 ≤ x7 ∧ x7 ≤ x7 + c ∧ (n0P (Option.some (ad 0)) x7 fun (i c : Nat) => selC (Decidable.decide (0 + i < (↑n : Int).toNat)) (blk0 P H A C (0 + i) c) (fixAt (flat [SK.c (SC.val (Go.Value.int Go.IntKind.i64 p)), SK.c (SC.val (Go.Value.int Go.IntKind.i64 (Go.IntKind.i64.wrap (H p.toNat + (1 : Int))))), SK.c (SC.xs b 0 cb 109 noCl)]) 3 1 0 (0 + i - (↑n : Int).toNat) c)) ∧ ∀ (ac : List Nat → Option Go.Addr × Nat), True → ∀ (a : Option Go.Addr) (cap : Nat), (a = Option.none → x7 = 0 ∧ cap = 0) → x7 ≤ cap → (∃ (ac_1 : List Nat → Option Go.Addr × Nat), True ∧ (x7 = x3 ∧ ∀ (i : Nat), i < x3 → allC 3 fun (c : Nat) => simC (owF (fun (i : Nat) => iAt (fun (i c : Nat) => selC (Decidable.decide (0 + i < (↑n : Int).toNat)) (blk0 P H A C (0 + i) c) (fixAt (flat [SK.c (SC.val (Go.Value.int Go.IntKind.i64 p)), SK.c (SC.val (Go.Value.int Go.IntKind.i64 (Go.IntKind.i64.wrap (H p.toNat + (1 : Int))))), SK.c (SC.xs b 0 cb 109 noCl)]) 3 1 0 (0 + i - (↑n : Int).toNat) c)) i 0) (fun (i : Nat) => iAt (fun (i c : Nat) => selC (Decidable.decide (0 + i < (↑n : Int).toNat)) (blk0 P H A C (0 + i) c) (fixAt (flat [SK.c (SC.val (Go.Value.int Go.IntKind.i64 p)), SK.c (SC.val (Go.Value.int Go.IntKind.i64 (Go.IntKind.i64.wrap (H p.toNat + (1 : Int))))), SK.c (SC.xs b 0 cb 109 noCl)]) 3 1 0 (0 + i - (↑n : Int).toNat) c)) i 1) ac i c) (owF (gwP P n p) (gwH H n p) ac_1 i c)) ∧ (beD (fun (i : Nat) => iAt (fun (i c : Nat) => selC (Decidable.decide (0 + i < (↑n : Int).toNat)) (blk0 P H A C (0 + i) c) (fixAt (flat [SK.c (SC.val (Go.Value.int Go.IntKind.i64 p)), SK.c (SC.val (Go.Value.int Go.IntKind.i64 (Go.IntKind.i64.wrap (H p.toNat + (1 : Int))))), SK.c (SC.xs b 0 cb 109 noCl)]) 3 1 0 (0 + i - (↑n : Int).toNat) c)) i 0) (fun (i : Nat) => iAt (fun (i c : Nat) => selC (Decidable.decide (0 + i < (↑n : Int).toNat)) (blk0 P H A C (0 + i) c) (fixAt (flat [SK.c (SC.val (Go.Value.int Go.IntKind.i64 p)), SK.c (SC.val (Go.Value.int Go.IntKind.i64 (Go.IntKind.i64.wrap (H p.toNat + (1 : Int))))), SK.c (SC.xs b 0 cb 109 noCl)]) 3 1 0 (0 + i - (↑n : Int).toNat) c)) i 1) fin x7 = x4 ∧ True) ∧ (fin = x5 ∧ True) ∧ True) ∧ (0 : Int) = gr0E P H n best fin p)))))) := by kernel_rfl
theorem vc_st0 (a : Option Addr) (n cap : Nat) (P H : Nat → Int) (A : Nat → Option Addr) (C : Nat → Nat) (best fin h : Int) :
    OwesR Try.prog cxGr slSt0 [] 2 Try.f11 [sTr a n cap (blk0 P H A C) best fin, sI .i64 h] true (se0R P H n best fin h) =
    (let x1 : Int := trE (fun (i : Nat) => iAt (blk0 P H A C) i 0) (fun (i : Nat) => iAt (blk0 P H A C) i 1) (fun (i : Nat) => nAt (blk0 P H A C i 2)) n best fin; let x2 : Prop := se0E P H n best fin h = (0 : Int); let x3 : Nat := if x2 then n else 0; let x4 : Int := if x2 then best else (0 : Int); let x5 : Int := if x2 then seF P best h else (0 : Int); let x6 : Bool := Decidable.decide (h < H fin.toNat); let x7 : Prop := (!x6) = Bool.true; let x8 : Nat := lnN (fun (i : Nat) => iAt (blk0 P H A C) i 0) best; tfP a n (blk0 P H A C) ∧ ((x1 != (0 : Int)) = Bool.true → (∃ (_ : List Nat → Option Go.Addr × Nat), True ∧ x3 = 0 ∧ ((0 : Int) = x4 ∧ True) ∧ ((0 : Int) = x5 ∧ True) ∧ True) ∧ x1 = se0E P H n best fin h) ∧ ((x1 != (0 : Int)) = Bool.false → ((0 : Int) ≤ fin ∧ fin < (↑n : Int)) ∧ (x7 → x7) ∧ (x7 → x7) ∧ (x7 → x7) ∧ (x7 → x7) ∧ (x7 → (0 : Int) ≤ best ∧ best < (↑n : Int)) ∧ (x7 → x7) ∧ (x7 → x7) ∧ (x7 → x7) ∧ (x7 → x7) ∧ (x6 = Bool.false → x7) ∧ ((x6 || Decidable.decide (h > H best.toNat)) = Bool.true → (∃ (_ : List Nat → Option Go.Addr × Nat), True ∧ x3 = 0 ∧ ((0 : Int) = x4 ∧ True) ∧ ((0 : Int) = x5 ∧ True) ∧ True) ∧ (6 : Int) = se0E P H n best fin h) ∧ ((x6 || Decidable.decide (h > H best.toNat)) = Bool.false → trP a n (blk0 P H A C) ∧ trR (fun (i : Nat) => iAt (blk0 P H A C) i 0) (fun (i : Nat) => iAt (blk0 P H A C) i 1) (fun (i : Nat) => nAt (blk0 P H A C i 2)) n = (0 : Int) ∧ (0 : Int) ≤ best ∧ best < (↑n : Int) ∧ ∀ (a_3 : Option Go.Addr) (cap : Nat), (a_3 = Option.none → x8 = 0 ∧ cap = 0) → x8 ≤ cap → ((0 : Int) ≤ h ∧ h < (↑x8 : Int)) ∧ n0P a n (blk0 P H A C) ∧ ∀ (ac : List Nat → Option Go.Addr × Nat), True → ∀ (a : Option Go.Addr) (cap : Nat), (a = Option.none → n = 0 ∧ cap = 0) → n ≤ cap → (∃ (ac_1 : List Nat → Option Go.Addr × Nat), True ∧ (n = x3 ∧ ∀ (i : Nat), i < x3 → allC 3 fun (c : Nat) => simC (owF (fun (i : Nat) => iAt (blk0 P H A C) i 0) (fun (i : Nat) => iAt (blk0 P H A C) i 1) ac i c) (owF P H ac_1 i c)) ∧ (best = x4 ∧ True) ∧ ((lineT (fun (i : Nat) => iAt (blk0 P H A C) i 0) best).getD h.toNat (0 : Int) = x5 ∧ True) ∧ True) ∧ (0 : Int) = se0E P H n best fin h))) := by kernel_rfl
end Go.Proofs.Ytkggabbcigeieaa
end

section
namespace Go.Proofs.Ytkggabbcigeieaa
open Go.Sx
set_option maxRecDepth 100000
theorem sel_no (b : Bool) (j c : Nat) : selC b (noCl j c) (noCl j c) = noCl j c := by
  unfold noCl
  rw [sel_cl]
  cases b <;> rfl
def grG (P H : Nat → Int) (A : Nat → Option Addr) (C : Nat → Nat) (n : Nat) (p : Int) (b : Option Addr) (cb : Nat) (i c : Nat) : SC :=
  selC (decide (0 + i < (n : Int).toNat)) (blk0 P H A C (0 + i) c) (fixAt (flat [SK.c (.val (.int .i64 p)), SK.c (.val (.int .i64 (IntKind.i64.wrap (H p.toNat + 1)))), SK.c (.xs b 0 cb 109 noCl)]) 3 1 0 (0 + i - (n : Int).toNat) c)
section
variable {P H : Nat → Int} {A : Nat → Option Addr} {C : Nat → Nat} {n cb : Nat} {p best fin : Int} {b : Option Addr}
theorem gr_g0 (i : Nat) : grG P H A C n p b cb i 0 = .val (.int .i64 (gwP P n p i)) := by
  unfold grG
  rw [Nat.zero_add, Int.toNat_natCast]
  show SC.val (.int .i64 (cond (decide (i < n)) (P i) p)) = _
  rw [cond_put]; rfl
theorem gr_g1 (i : Nat) : grG P H A C n p b cb i 1 = .val (.int .i64 (gwH H n p i)) := by
  unfold grG
  rw [Nat.zero_add, Int.toNat_natCast]
  show SC.val (.int .i64 (cond (decide (i < n)) (H i) (IntKind.i64.wrap (H p.toNat + 1)))) = _
  rw [cond_put]; rfl
theorem gr_g2 (i : Nat) : grG P H A C n p b cb i 2 = .xs (putN n A b i) 0 (putN n C cb i) 109 noCl := by
  unfold grG
  rw [Nat.zero_add, Int.toNat_natCast]
  show SC.xs (cond (decide (i < n)) (A i) b) (cond (decide (i < n)) 0 0) (cond (decide (i < n)) (C i) cb) 109 (fun j c => selC (decide (i < n)) (noCl j c) (noCl j c)) = _
  rw [cond_put, cond_put, show (fun j c => selC (decide (i < n)) (noCl j c) (noCl j c)) = noCl from funext fun j => funext fun c => sel_no _ j c]
  cases decide (i < n) <;> rfl
theorem gr_e0 : (fun i => iAt (grG P H A C n p b cb) i 0) = gwP P n p := funext fun i => by unfold iAt; rw [gr_g0]
theorem gr_e1 : (fun i => iAt (grG P H A C n p b cb) i 1) = gwH H n p := funext fun i => by unfold iAt; rw [gr_g1]
theorem gr_tf (i c : Nat) (hc : c < 3) : grG P H A C n p b cb i c = blk0 (fun i => iAt (grG P H A C n p b cb) i 0) (fun i => iAt (grG P H A C n p b cb) i 1) (fun i => aAt (grG P H A C n p b cb i 2)) (fun i => cAt (grG P H A C n p b cb i 2)) i c := by
  rcases c with _ | _ | _ | c
  · rw [gr_e0, gr_e1, gr_g0]; rfl
  · rw [gr_e0, gr_e1, gr_g1]; rfl
  · show _ = SC.xs (aAt (grG P H A C n p b cb i 2)) 0 (cAt (grG P H A C n p b cb i 2)) 109 noCl
    rw [gr_g2]; rfl
  · omega
theorem gr_par (hP : ∀ i, i < n → -1 ≤ P i ∧ P i < (i : Int)) (h0 : 0 ≤ p) (h1 : p < (n : Int)) : ∀ i, i < n + 1 → -1 ≤ gwP P n p i ∧ gwP P n p i < (i : Int) := fun i hi => by
  unfold gwP putN
  by_cases c : i < n
  · rw [if_pos c]; exact hP i c
  · rw [if_neg c]; omega
theorem gr_n0 (hn : n + 1 ≤ 1000) {a : Addr} : n0P (some a) (n + 1) (grG P H A C n p b cb) := ⟨hn, fun h => (by cases h), gr_tf⟩
theorem gr_tr (hk : OkT P H (fun _ => 0) n best fin) (h0 : 0 ≤ p) (h1 : p < (n : Int)) {a : Addr} : trP (some a) (n + 1) (grG P H A C n p b cb) := by
  have few := hk.few
  have p0 := (gr_n0 (P := P) (H := H) (A := A) (C := C) (p := p) (b := b) (cb := cb) (n := n) (a := a) (by omega)).tfP
  refine ⟨by omega, fun h => (by cases h), p0.tf, p0.tc, fun i hi => ?_⟩
  have := gr_par (tr_par hk.row) h0 h1 i hi
  rwa [← congrFun (gr_e0 (P := P) (H := H) (A := A) (C := C) (n := n) (p := p) (b := b) (cb := cb)) i] at this
end
theorem ok_gr (a : Option Addr) (n cap : Nat) (P H : Nat → Int) (A : Nat → Option Addr) (C : Nat → Nat) (best fin p : Int) (b : Option Addr) (cb : Nat) (hn : n ≤ 1000) (ha : a = none → n = 0) (hc : n ≤ cap) :
    OwesR Try.prog cxGr slGr [] 2 Try.f9 [sTr a n cap (blk0 P H A C) best fin, sI .i64 p, .sc (.xs b 0 cb 109 noCl)] true (gr0R P H n best fin p) := by
  rw [vc_gr]
  have hML : maxLen = 9223372036854775807 := rfl
  intro x1 x2 x3 x4 x5 x6 x7
  have e1 : x1 = trE P H (fun _ => 0) n best fin := rfl
  have ht : tfP a n (blk0 P H A C) := (n0_blk hn ha).tfP
  have eg : gr0E P H n best fin p = gwE P H (fun _ => 0) n best fin p 0 := rfl
  have bad : gr0E P H n best fin p ≠ 0 → (∃ _ac : List Nat → Option Go.Addr × Nat, True ∧ x3 = 0 ∧ ((0 : Int) = x4 ∧ True) ∧ ((0 : Int) = x5 ∧ True) ∧ True) := fun hc => ⟨fun _ => (none, 0), trivial, if_neg hc, ⟨(if_neg hc).symm, trivial⟩, ⟨(if_neg hc).symm, trivial⟩, trivial⟩
  refine ⟨ht, fun h1 => ?_, fun h1 => ?_⟩
  · have h1 : x1 ≠ 0 := by simpa using h1
    have es : gr0E P H n best fin p = x1 := if_pos (by rw [← e1]; exact h1)
    exact ⟨bad (by rw [es]; exact h1), es.symm⟩
  have h1 : x1 = 0 := by simpa using h1
  have h0 : trE P H (fun _ => 0) n best fin = 0 := by rw [← e1, h1]
  have hk := okT_of h0
  have few := hk.few
  have pos := hk.pos
  have es : gr0E P H n best fin p = if p < 0 ∨ (n : Int) ≤ p then 5 else if stO P p fin = false then 15 else if 6 < 0 then 1 else if 40 ≤ n then 9 else 0 := if_neg (fun c => c h0)
  refine ⟨by omega, fun hp => ?_, fun hp => ?_⟩
  · have hp : hsB n p = false := by have h := hp; rw [Bool.not_eq_true'] at h; exact h
    unfold hsB at hp
    simp only [Bool.and_eq_false_iff, decide_eq_false_iff_not] at hp
    have e : gr0E P H n best fin p = 5 := by rw [es, if_pos (by omega)]
    exact ⟨bad (by rw [e]; decide), e.symm⟩
  have hp : hsB n p = true := by have h := hp; rw [Bool.not_eq_false'] at h; exact h
  unfold hsB at hp
  simp only [Bool.and_eq_true, decide_eq_true_eq] at hp
  rw [if_neg (by omega)] at es
  refine ⟨OkT.tr (f := blk0 P H A C) hk ht, hp.1, hp.2, hk.fin0, fun hs => ?_, fun hs => ?_⟩
  · have hs : stO P p fin = false := by have h := hs; rw [Bool.not_eq_true'] at h; exact h
    have e : gr0E P H n best fin p = 15 := by rw [es, if_pos hs]
    exact ⟨bad (by rw [e]; decide), e.symm⟩
  have hs : stO P p fin = true := by have h := hs; rw [Bool.not_eq_false'] at h; exact h
  rw [if_neg (by rw [hs]; decide), if_neg (by omega)] at es
  refine ⟨fun h => absurd (of_decide_eq_true h) (by decide), fun _ => ⟨fun h9 => ?_, fun h9 => ?_⟩⟩
  · have h9 : (n : Int) = 40 := by simpa using h9
    have e : gr0E P H n best fin p = 9 := by rw [es, if_pos (by omega)]
    exact ⟨bad (by rw [e]; decide), e.symm⟩
  have h9 : (n : Int) ≠ 40 := by simpa using h9
  have e : gr0E P H n best fin p = 0 := by rw [es, if_neg (by omega)]
  have en : (n : Int).toNat = n := Int.toNat_natCast n
  have e7 : x7 = n + 1 := by show (n : Int).toNat + 1 = _; rw [en]
  have e3 : x3 = n + 1 := if_pos e
  have e4 : x4 = gwB P H n fin p := if_pos e
  have e5 : x5 = fin := if_pos e
  have h6 : x6 := Int.le_refl _
  clear_value x6 x7 x5 x4 x3
  subst e7 e3
  refine ⟨⟨by omega, by omega⟩, ⟨by omega, h6, by omega, h6⟩, by omega, rfl, ⟨by omega, by omega⟩, fun c hc => ⟨by omega, by omega, fun a1 => ⟨gr_tr (best := best) (fin := fin) hk hp.1 hp.2, hk.fin0, by have := hk.fin1; omega, fun ad => ⟨by omega, by omega, gr_n0 (by omega), fun ac _ a2 cap2 _ _ => ⟨⟨ac, trivial, ⟨rfl, fun i hi => ?_⟩, ⟨?_, trivial⟩, ⟨e5.symm, trivial⟩, trivial⟩, e.symm⟩⟩⟩⟩⟩
  · have q0 := congrFun (gr_e0 (P := P) (H := H) (A := A) (C := C) (n := n) (p := p) (b := b) (cb := cb)) i
    have q1 := congrFun (gr_e1 (P := P) (H := H) (A := A) (C := C) (n := n) (p := p) (b := b) (cb := cb)) i
    refine ⟨?_, ?_, noCl_cl.refl⟩
    · show simC (.val (.int .i64 (iAt (grG P H A C n p b cb) i 0))) (.val (.int .i64 (gwP P n p i)))
      rw [q0]; rfl
    · show simC (.val (.int .i64 (iAt (grG P H A C n p b cb) i 1))) (.val (.int .i64 (gwH H n p i)))
      rw [q1]; rfl
  · rw [e4]
    have hb := be_bs (P := fun i => iAt (grG P H A C n p b cb) i 0) (H := fun i => iAt (grG P H A C n p b cb) i 1) (n := n + 1) (fin := fin) (gr_tr (best := best) (fin := fin) (b := b) (cb := cb) (A := A) (C := C) (a := a1) hk hp.1 hp.2).tp hk.fin0 (by have := hk.fin1; omega)
    refine Eq.trans hb ?_
    rw [gr_e0, gr_e1]
    rfl
theorem okx_Gr : CxOK Try.prog cxGr := okx_mark (okx_mark (okx_mark (okx_mark (okx_mark okx_nil))))
theorem ex_cl {n : Nat} {f : (List Nat → Option Addr × Nat) → Nat → Nat → SC} {x y e : Int} : ∀ r ∈ ([.ex (fun _ => True) fun ac => .st [.s n 3 (f ac), kI x, kI y], .v (sI .i64 e)] : List RS), r.closed := fun r hr => by
  rcases List.mem_cons.1 hr with rfl | hr
  · intro _ k hk
    rcases List.mem_cons.1 hk with rfl | hk
    · exact trivial
    · rcases List.mem_cons.1 hk with rfl | hk
      · exact trivial
      · rw [List.mem_singleton.1 hk]; exact trivial
  · rw [List.mem_singleton.1 hr]; exact trivial
theorem card_gr {gl : Globs} : FnOKs Try.prog gl 9 cGr := by
  refine FnOKs.up0 (FnOKs_R0 (cx := cxGr) okx_Gr (sl := slGr) (oks_cons card_ck (oks_cons card_hs (oks_cons card_std (oks_cons card_be (oks_cons card_ow oks_nil))))) Try.func9 (by kernel_rfl) (by kernel_rfl) fun ls hc => ?_) gl
  unfold gr0C at hc
  split at hc
  · rename_i a n cap f best fin p b m cb g
    obtain ⟨q, rfl, hcap, _⟩ := hc
    refine ⟨_, _, _, fun ρ => ?_, fun E hE x hx => ?_, ex_cl, ok_gr a n cap (fun i => iAt f i 0) (fun i => iAt f i 1) (fun i => aAt (f i 2)) (fun i => cAt (f i 2)) best fin p b cb q.tn q.ta hcap⟩
    · rfl
    · rcases List.mem_cons.1 hx with rfl | hx
      · exact tr_told (fun i _ c hc => q.tf i c hc) (hE (sTr a n cap f best fin) (List.mem_cons_self ..))
      · rcases List.mem_cons.1 hx with rfl | hx
        · exact trivial
        · rw [List.mem_singleton.1 hx]
          exact xs_told (fun i hi => absurd hi (Nat.not_lt_zero i)) (hE (.sc (.xs b 0 cb 109 g)) (List.mem_cons_of_mem _ (List.mem_cons_of_mem _ (List.mem_cons_self ..))))
  · exact hc.1.elim
theorem ok_st0 (a : Option Addr) (n cap : Nat) (P H : Nat → Int) (A : Nat → Option Addr) (C : Nat → Nat) (best fin h : Int) (hn : n ≤ 1000) (ha : a = none → n = 0) :
    OwesR Try.prog cxGr slSt0 [] 2 Try.f11 [sTr a n cap (blk0 P H A C) best fin, sI .i64 h] true (se0R P H n best fin h) := by
  rw [vc_st0]
  have ht0 := n0_blk (P := P) (H := H) (A := A) (C := C) hn ha
  have ht : tfP a n (blk0 P H A C) := ht0.tfP
  intro x1 x2 x3 x4 x5 x6 x7 x8
  have e1 : x1 = trE P H (fun _ => 0) n best fin := rfl
  have e8 : x8 = lnN P best := rfl
  clear_value x1 x8
  have bad : se0E P H n best fin h ≠ 0 → (∃ _ac : List Nat → Option Go.Addr × Nat, True ∧ x3 = 0 ∧ ((0 : Int) = x4 ∧ True) ∧ ((0 : Int) = x5 ∧ True) ∧ True) := fun hc => ⟨fun _ => (none, 0), trivial, if_neg hc, ⟨(if_neg hc).symm, trivial⟩, ⟨(if_neg hc).symm, trivial⟩, trivial⟩
  refine ⟨ht, fun h1 => ?_, fun h1 => ?_⟩
  · have h1 : x1 ≠ 0 := by simpa using h1
    have es : se0E P H n best fin h = trE P H (fun _ => 0) n best fin := if_pos (by rw [← e1]; exact h1)
    exact ⟨bad (by rw [es, ← e1]; exact h1), by rw [es, e1]⟩
  have h1 : x1 = 0 := by simpa using h1
  have h0 : trE P H (fun _ => 0) n best fin = 0 := by rw [← e1, h1]
  have hk := okT_of h0
  have p := OkT.tr (f := blk0 P H A C) hk ht
  have b0 := hk.bst0
  have b1 := hk.bst1
  have f0 := hk.fin0
  have f1 := hk.fin1
  have few := hk.few
  have es : se0E P H n best fin h = if h < H fin.toNat ∨ H best.toNat < h then 6 else 0 := if_neg (fun c => c h0)
  have lf := tr_line (by omega) hk.row f0 f1
  have lb := tr_line (by omega) hk.row b0 b1
  have lf1 := ln_step (tr_par hk.row) f0 f1
  refine ⟨⟨f0, f1⟩, id, id, id, id, fun _ => ⟨b0, b1⟩, id, id, id, id, fun hc => by show (!x6) = true; rw [hc]; rfl, fun hc => ?_, fun hc => ?_⟩
  · have hc : (decide (h < H fin.toNat) || decide (h > H best.toNat)) = true := hc
    simp only [Bool.or_eq_true, decide_eq_true_eq] at hc
    have e6 : se0E P H n best fin h = 6 := by rw [es, if_pos (by omega)]
    exact ⟨bad (by rw [e6]; decide), e6.symm⟩
  · have hc : (decide (h < H fin.toNat) || decide (h > H best.toNat)) = false := hc
    simp only [Bool.or_eq_false_iff, decide_eq_false_iff_not] at hc
    have e0 : se0E P H n best fin h = 0 := by rw [es, if_neg (by omega)]
    refine ⟨p, hk.row, b0, b1, fun _ _ _ _ => ⟨⟨by omega, by omega⟩, ht0, fun ac _ _ _ _ _ => ⟨⟨ac, trivial, ⟨(if_pos e0).symm, fun i hi => ⟨rfl, rfl, noCl_cl.refl⟩⟩, ⟨(if_pos e0).symm, trivial⟩, ⟨(if_pos e0).symm, trivial⟩, trivial⟩, e0.symm⟩⟩⟩
theorem card_st0 {gl : Globs} : FnOKs Try.prog gl 11 cSt0 := by
  refine FnOKs.up0 (FnOKs_R0 (cx := cxGr) okx_Gr (sl := slSt0) (oks_cons card_ck (oks_cons card_li (oks_cons card_ow oks_nil))) Try.func11 (by kernel_rfl) (by kernel_rfl) fun ls hc => ?_) gl
  unfold se0C at hc
  split at hc
  · rename_i a n cap f best fin h
    obtain ⟨q, _⟩ := hc
    refine ⟨_, _, _, fun ρ => ?_, fun E hE x hx => ?_, ex_cl, ok_st0 a n cap (fun i => iAt f i 0) (fun i => iAt f i 1) (fun i => aAt (f i 2)) (fun i => cAt (f i 2)) best fin h q.tn q.ta⟩
    · rfl
    · rcases List.mem_cons.1 hx with rfl | hx
      · exact tr_told (fun i _ c hc => q.tf i c hc) (hE (sTr a n cap f best fin) (List.mem_cons_self ..))
      · exact hE x (List.mem_cons_of_mem _ hx)
  · exact hc.1.elim
end Go.Proofs.Ytkggabbcigeieaa
end

section
namespace Go.Proofs.Ytkggabbcigeieaa
open Go.Sx
set_option maxRecDepth 100000
def lookO : List (Nat × SO) → Nat → SO
  | [], _ => .dead
  | (k, v) :: r, t => match Nat.beq k t with
    | true => v
    | false => lookO r t
def obsAt (n : Nat) (l : List (Nat × SO)) : List SO := (List.range n).map (lookO l)
def rawF (K A B : Nat → Int) (s : Nat → ByteArray) (i c : Nat) : SC :=
  match c with
  | 0 => .val (.int .i64 (K i))
  | 1 => .val (.int .i64 (A i))
  | 2 => .val (.int .i64 (B i))
  | _ => .val (.string (s i))
def sAt (f : Nat → Nat → SC) (i : Nat) : ByteArray := match f i 3 with
  | .val (.string b) => b
  | _ => ByteArray.empty
structure rwP (n : Nat) (f : Nat → Nat → SC) : Prop where
  rn : n ≤ maxLen
  rf : ∀ i c, c < 4 → f i c = rawF (fun i => iAt f i 0) (fun i => iAt f i 1) (fun i => iAt f i 2) (sAt f) i c
  ri : ∀ i, i < n → i64ok (iAt f i 0) ∧ i64ok (iAt f i 1) ∧ i64ok (iAt f i 2)
structure Tr where
  n : Nat
  P : Nat → Int
  H : Nat → Int
  A : Nat → Option Addr
  C : Nat → Nat
  best : Int
  fin : Int
  a : Option Addr
  cap : Nat
def Tr.sc (t : Tr) : SC := .xs t.a t.n t.cap 3 (blk0 t.P t.H t.A t.C)
def Tr.o (t : Tr) : SO := .cells 25 [.c t.sc, .c (.val (.int .i64 t.best)), .c (.val (.int .i64 t.fin))] 0
structure Tr.ok (t : Tr) : Prop where
  tk : OkT t.P t.H (fun _ => 0) t.n t.best t.fin
  ta : t.a = none → t.n = 0
  tc : t.n ≤ t.cap
def zTr : SO := .cells 25 [.c (.val (.slice none 0 0)), .c (.val (.int .i64 0)), .c (.val (.int .i64 0))] 0
def acI (p : Option Addr × Nat) : Int := match p.1 with
  | none => -(p.2 : Int)
  | some _ => (p.2 : Int)
def acN (ac : List Nat → Option Addr × Nat) : Nat := (ac [0]).2
def acB (ac : List Nat → Option Addr × Nat) : Int := acI (ac [1])
def acE (ac : List Nat → Option Addr × Nat) : Int := acI (ac [2])
def acP (ac : List Nat → Option Addr × Nat) (i : Nat) : Int := acI (ac [3, i])
def acH (ac : List Nat → Option Addr × Nat) (i : Nat) : Int := acI (ac [4, i])
def acA (ac : List Nat → Option Addr × Nat) (i : Nat) : Option Addr := (ac [5, i]).1
def acC (ac : List Nat → Option Addr × Nat) (i : Nat) : Nat := (ac [5, i]).2
def gnP (m : Int) (ac : List Nat → Option Addr × Nat) : Prop := OkT (acP ac) (acH ac) (fun _ => 0) (acN ac) (acB ac) (acE ac) ∧ (acN ac : Int) ≤ m + 1
def gnR (m : Int) : List RS := [.ex (gnP m) fun ac => .st [.s (acN ac) 3 (blk0 (acP ac) (acH ac) (acA ac) (acC ac)), kI (acB ac), kI (acE ac)]]
def gnC : List (List FD) → List Prop
  | [[.x _ n _ f], [.i m]] => [rwP n f, 0 ≤ m ∧ m ≤ 30]
  | _ => [False]
def gnG : List (List FD) → List RS
  | [[.x _ _ _ _], [.i m]] => gnR m
  | _ => []
def cGn : SSpec := specQ0 true [.one (.x 4), .one (.i .i64)] gnC gnG
def bgT : Nat → Nat → SC := blk0 (fun _ => -1) (fun _ => 0) (fun _ => none) (fun _ => 0)
def bgR : List RS := [.st [.s 1 3 bgT, kI 0, kI 0]]
def cBg : SSpec := specQ0 true [] (fun _ => []) (fun _ => bgR)
def cPk4 : FSpec := specII (fun a b => [i64ok a, 0 < b ∧ b ≤ 1099511627776]) pickedG
def gnL (n : Nat) (m : Int) : Nat := Nat.min n m.toNat
def rawS (K A B : Nat → Int) (s : Nat → ByteArray) (i c : Nat) : SC := ([.val (.int .i64 (K i)), .val (.int .i64 (A i)), .val (.int .i64 (B i)), .val (.string (s i))] : List SC).getD c (.bit false)
def gnT (a : Option Addr) (n cap : Nat) (K A B : Nat → Int) (s : Nat → ByteArray) (m : Int) (i : Nat) : List (Nat × SV) := [(4, .one (.sc (.ptr 0 0))), (5, .one (.sc (.ptr 1 0))), (13, .one (.sc (.xs a (gnL n m) cap 4 (rawF K A B s)))), (14, .one (sI .i64 (gnL n m : Int))), (15, .one (sI .i64 (i : Int)))]
def invGn (a : Option Addr) (n cap : Nat) (K A B : Nat → Int) (s : Nat → ByteArray) (m : Int) : Inv where
  X := Nat × Tr
  tm y := slotsAt 48 (gnT a n cap K A B s m y.1)
  ob y := [zTr, y.2.o]
  holds y := y.1 ≤ gnL n m ∧ y.2.ok ∧ y.2.n ≤ y.1 + 1
  less y := gnL n m - y.1
structure GnX where
  i : Nat
  t : Tr
  u : Tr
  e : Int
  r : Addr
def cutGn (a : Option Addr) (n cap : Nat) (K A B : Nat → Int) (s : Nat → ByteArray) (m : Int) : Inv where
  X := GnX
  tm y := slotsAt 48 ((7, .one (.sc (.px y.r 4 (rawS K A B s y.i)))) :: (8, .one (.sc (.ptr 15 0))) :: (9, .one (sI .i64 y.e)) :: gnT a n cap K A B s m y.i)
  ob y := obsAt 18 [(0, zTr), (1, y.t.o), (15, y.u.o)]
  holds y := y.i < gnL n m ∧ y.t.ok ∧ y.t.n ≤ y.i + 1 ∧ (y.e = 0 → y.u.ok ∧ y.u.n ≤ y.i + 2)
  less _ := 0
def cxGn : Cx := ⟨[(10, cPk4), (1000000010, fun _ => none), (1000000012, fun _ => none), (1000000013, fun _ => none), (1000000014, fun _ => none), (1000000018, fun _ => none), (1000000019, fun _ => none)], [], 0, []⟩
def slGn : List (Nat × SSpec) := [(14, cBg), (9, cGr), (11, cSt0)]
theorem vc_pk4 (n m : Int) :
    Owes Try.prog Cx.none [] 100 Try.f10 [sI .i64 n, sI .i64 m] (pickedG n m) =
    (let x1 : Int := n % m; m ≠ (0 : Int) ∧ (Decidable.decide (n.tmod m < (0 : Int)) = Bool.true → Go.IntKind.i64.wrap (n.tmod m + m) = x1) ∧ (Decidable.decide (n.tmod m < (0 : Int)) = Bool.false → n.tmod m = x1)) := by kernel_rfl
theorem vc_bg  :
    OwesR Try.prog .none [] [] 2 Try.f14 [] true bgR =
    ((1 = 1 ∧ 1 ≤ 1 ∧ ∀ (i : Nat), i < 1 → allC 3 fun (c : Nat) => simC (fixAt (flat [SK.c (SC.num Go.IntKind.i64 (-1 : Int)), SK.c (SC.num Go.IntKind.i64 (0 : Int)), SK.c (SC.val (Go.Value.slice Option.none 0 0))]) 3 1 0 i c) (bgT i c)) ∧ ((0 : Int) = (0 : Int) ∧ True) ∧ ((0 : Int) = (0 : Int) ∧ True) ∧ True) := by kernel_rfl
end Go.Proofs.Ytkggabbcigeieaa
end

section
namespace Go.Proofs.Ytkggabbcigeieaa
open Go.Sx
set_option maxRecDepth 100000
theorem ok_pk4 (n m : Int) (hn : i64ok n) (hm : 0 < m ∧ m ≤ 1099511627776) : Owes Try.prog Cx.none [] 100 Try.f10 [sI .i64 n, sI .i64 m] (pickedG n m) := by
  rw [vc_pk4]
  obtain ⟨a1, a2⟩ := hn
  intro x1
  have e1 : x1 = n % m := rfl
  have p0 := Int.emod_nonneg n (by omega : m ≠ 0)
  have p1 := Int.emod_lt_of_pos n hm.1
  have q := Int.tmod_eq_emod (a := n) (b := m)
  have e2 : (m.natAbs : Int) = m := by omega
  refine ⟨by omega, fun h => ?_, fun h => ?_⟩
  · have h' : n.tmod m < 0 := of_decide_eq_true h
    by_cases c : 0 ≤ n ∨ m ∣ n
    · rw [if_pos c] at q; omega
    · rw [if_neg c, e2] at q
      have w : IntKind.wrap .i64 (n.tmod m + m) = n.tmod m + m := by rw [IntKind.wrap_i64]; omega
      rw [w]; omega
  · have h' : ¬ n.tmod m < 0 := of_decide_eq_false h
    by_cases c : 0 ≤ n ∨ m ∣ n
    · rw [if_pos c] at q; omega
    · rw [if_neg c, e2] at q; omega
theorem card_pk4 {gl : Globs} : FnOKg Try.prog gl 10 cPk4 :=
  (FnOK_II (cx := Cx.none) ⟨fun _ h => (by cases h), fun _ h => (by cases h)⟩ (iv := []) (N := 100) Try.func10 (by kernel_rfl) (by kernel_rfl) (fun _ _ => trivial) (fun a b h => ok_pk4 a b h.1 h.2.1) : FnOK Try.prog 10 cPk4).up gl
theorem ok_bg : OwesR Try.prog .none [] [] 2 Try.f14 [] true bgR := by
  rw [vc_bg]
  refine ⟨⟨rfl, Nat.le_refl _, fun i hi => ?_⟩, ⟨rfl, trivial⟩, ⟨rfl, trivial⟩, trivial⟩
  have : i = 0 := by omega
  subst this
  exact ⟨rfl, rfl, rfl, rfl, rfl⟩
theorem card_bg {gl : Globs} : FnOKs Try.prog gl 14 cBg := by
  refine FnOKs.up0 (FnOKs_R0 (cx := .none) okx_nil (sl := []) oks_nil Try.func14 (by kernel_rfl) (by kernel_rfl) fun ls hc => ?_) gl
  refine ⟨_, _, [], fun ρ => ?_, fun E hE x hx => (by cases hx), fun r hr => ?_, ok_bg⟩
  · cases ls <;> rfl
  · rw [List.mem_singleton.1 hr]
    intro k hk
    rcases List.mem_cons.1 hk with rfl | hk
    · intro i hi c hc
      have : i = 0 := by omega
      subst this
      rcases c with _ | _ | _ | c
      · exact ⟨trivial, rfl⟩
      · exact ⟨trivial, rfl⟩
      · exact ⟨⟨fun _ => ⟨rfl, rfl⟩, Nat.le_refl _, fun b hb => by cases hb⟩, rfl⟩
      · omega
    · rcases List.mem_cons.1 hk with rfl | hk
      · exact trivial
      · rw [List.mem_singleton.1 hk]; exact trivial
end Go.Proofs.Ytkggabbcigeieaa
end

section
namespace Go.Proofs.Ytkggabbcigeieaa
open Go.Sx
set_option maxRecDepth 100000
structure bnP (n : Nat) (f : Nat → Nat → SC) (m : Nat) (g : Nat → Nat → SC) : Prop where
  bf : ∀ i, f i 0 = .val (.int .i64 (iAt f i 0))
  bg : ∀ i, g i 0 = .val (.int .i64 (iAt g i 0))
  bn : n ≤ m
  bm : m ≤ 1000
  be : ∀ i, i < n → iAt f i 0 = iAt g i 0
def bnC : List (List FD) → List Prop
  | [[.x _ n _ f], [.x _ m _ g]] => [bnP n f m g]
  | _ => [False]
def cBn : SSpec := specQ0 false [.one (.x 1), .one (.x 1)] bnC (fun _ => [.v (sB true)])
def bnI (a : Option Addr) (n cap : Nat) (b : Option Addr) (m cb : Nat) (f g : Nat → Int) : Inv where
  X := Nat
  tm i := slotsAt 26 [(0, .one (xsI a n cap .i64 f)), (1, .one (xsI b m cb .i64 g)), (12, .one (sI .i64 (n : Int))), (13, .one (sI .i64 (i : Int)))]
  ob _ := []
  holds i := i ≤ n
  less i := n - i
structure LhX where
  t : Tr
  la : Option Addr
  lc : Nat
  i : Nat
  k : Int
  on : Int
def lnV (t : Tr) (b : Int) (la : Option Addr) (lc : Nat) : SV := .one (xsI la (lnN t.P b) lc .i64 (fun i => (lineT t.P b).getD i 0))
def invL1 (z : Int) : Inv where
  X := LhX
  tm y := slotsAt 134 [(1, .one (sI .i64 z)), (5, .one (.sc (.ptr 0 0))), (6, lnV y.t y.t.best y.la y.lc), (10, .one (sI .i64 (y.i : Int)))]
  ob y := [y.t.o]
  holds y := y.t.ok ∧ 1 ≤ y.i ∧ y.i ≤ lnN y.t.P y.t.best
  less y := lnN y.t.P y.t.best - y.i
def invL2 : Inv where
  X := LhX
  tm y := slotsAt 134 [(5, .one (.sc (.ptr 0 0))), (6, lnV y.t y.t.best y.la y.lc), (11, .one (sI .i64 y.k)), (12, .one (sI .i64 y.on))]
  ob y := [y.t.o]
  holds y := y.t.ok ∧ 0 ≤ y.k ∧ y.k < (y.t.n : Int) ∧ -1 ≤ y.on ∧ y.on < (y.t.n : Int) ∧ stO y.t.P y.on y.t.fin = stO y.t.P y.k y.t.fin
  less y := (y.on + 1).toNat
def invG1 : Inv where
  X := LhX
  tm y := slotsAt 112 [(5, .one (.sc (.ptr 0 0))), (6, .one (sI .i64 y.k)), (7, .one (sI .i64 y.on))]
  ob y := [y.t.o]
  holds y := y.t.ok ∧ y.t.n ≤ 30 ∧ 0 ≤ y.k ∧ y.k < (y.t.n : Int) ∧ -1 ≤ y.on ∧ y.on < (y.t.n : Int) ∧ stO y.t.P y.on y.t.fin = stO y.t.P y.k y.t.fin
  less y := (y.on + 1).toNat
structure FsX where
  i : Nat
  t : Tr
  u : Tr
  e : Int
  r : Addr
  W : Nat
  G : Nat → Int
  wa : Option Addr
  wc : Nat
def fsP (t : Tr) (W : Nat) (G : Nat → Int) : Prop := t.ok ∧ 0 < W ∧ W ≤ lnN t.P t.fin ∧ ∀ k, k < W → G k = (lineT t.P t.fin).getD k 0
def fsT (a : Option Addr) (n cap : Nat) (K A B : Nat → Int) (s : Nat → ByteArray) (y : FsX) : List (Nat × SV) := [(5, .one (.sc (.ptr 0 0))), (6, .one (xsI y.wa y.W y.wc .i64 y.G)), (7, .one (sI .i64 0)), (24, .one (.sc (.xs a (gnL n 12) cap 4 (rawF K A B s)))), (25, .one (sI .i64 (gnL n 12 : Int))), (26, .one (sI .i64 (y.i : Int)))]
def invFs (a : Option Addr) (n cap : Nat) (K A B : Nat → Int) (s : Nat → ByteArray) : Inv where
  X := FsX
  tm y := slotsAt 98 (fsT a n cap K A B s y)
  ob y := [y.t.o]
  holds y := y.i ≤ gnL n 12 ∧ fsP y.t y.W y.G
  less y := gnL n 12 - y.i
def cutFs (a : Option Addr) (n cap : Nat) (K A B : Nat → Int) (s : Nat → ByteArray) : Inv where
  X := FsX
  tm y := slotsAt 98 ((9, .one (.sc (.px y.r 4 (rawS K A B s y.i)))) :: (10, .one (.sc (.ptr 14 0))) :: (11, .one (sI .i64 y.e)) :: fsT a n cap K A B s y)
  ob y := obsAt 17 [(0, y.t.o), (14, y.u.o)]
  holds y := y.i < gnL n 12 ∧ fsP y.t y.W y.G ∧ (y.e = 0 → fsP y.u y.W y.G)
  less _ := 0
def slLw : List (Nat × SSpec) := [(6, cGn), (9, cGr), (11, cSt0), (7, cLn), (12, cCk), (13, cBn)]
theorem vc_bn (a : Option Addr) (n cap : Nat) (b : Option Addr) (m cb : Nat) (f g : Nat → Int) :
    OwesR Try.prog cxBo [] [(4, .inv (bnI a n cap b m cb f g))] 2 Try.f13 [xsI a n cap .i64 f, xsI b m cb .i64 g] false [.v (sB true)] =
    ((Decidable.decide ((↑n : Int) > (↑m : Int)) = Bool.true → Bool.false = Bool.true) ∧ (Decidable.decide ((↑n : Int) > (↑m : Int)) = Bool.false → (∀ (y : Nat), closedB (slotsAt 26 [(0, SV.one (xsI a n cap Go.IntKind.i64 f)), (1, SV.one (xsI b m cb Go.IntKind.i64 g)), (12, SV.one (sI Go.IntKind.i64 (↑n : Int))), (13, SV.one (sI Go.IntKind.i64 (↑y : Int)))]) [] = Bool.true) ∧ ∃ (y : Nat), y ≤ n ∧ simC (SC.xs a n cap 1 fun (i _ : Nat) => SC.val (Go.Value.int Go.IntKind.i64 (f i))) (SC.xs a n cap 1 fun (i _ : Nat) => SC.val (Go.Value.int Go.IntKind.i64 (f i))) ∧ simC (SC.xs b m cb 1 fun (i _ : Nat) => SC.val (Go.Value.int Go.IntKind.i64 (g i))) (SC.xs b m cb 1 fun (i _ : Nat) => SC.val (Go.Value.int Go.IntKind.i64 (g i))) ∧ (↑n : Int) = (↑n : Int) ∧ (0 : Int) = (↑y : Int) ∧ ∀ (y : Nat), y ≤ n → (Decidable.decide ((↑y : Int) < (↑n : Int)) = Bool.true → ((0 : Int) ≤ (↑y : Int) ∧ (↑y : Int) < (↑n : Int)) ∧ ((0 : Int) ≤ (↑y : Int) ∧ (↑y : Int) < (↑m : Int)) ∧ ((f (↑y : Int).toNat != g (↑y : Int).toNat) = Bool.true → Bool.false = Bool.true) ∧ ((f (↑y : Int).toNat != g (↑y : Int).toNat) = Bool.false → ∃ (y' : Nat), y' ≤ n ∧ simC (SC.xs a n cap 1 fun (i _ : Nat) => SC.val (Go.Value.int Go.IntKind.i64 (f i))) (SC.xs a n cap 1 fun (i _ : Nat) => SC.val (Go.Value.int Go.IntKind.i64 (f i))) ∧ simC (SC.xs b m cb 1 fun (i _ : Nat) => SC.val (Go.Value.int Go.IntKind.i64 (g i))) (SC.xs b m cb 1 fun (i _ : Nat) => SC.val (Go.Value.int Go.IntKind.i64 (g i))) ∧ (↑n : Int) = (↑n : Int) ∧ Go.IntKind.i64.wrap ((↑y : Int) + (1 : Int)) = (↑y' : Int) ∧ (n - y').succ.le (n - y))) ∧ (Decidable.decide ((↑y : Int) < (↑n : Int)) = Bool.false → Bool.true = Bool.true))) := by kernel_rfl
set_option maxHeartbeats 4000000 in
theorem vc_LineHighest (a : Option Addr) (n cap : Nat) (K A B : Nat → Int) (s : Nat → ByteArray) (z : Int) :
    OwesV Try.prog cxGn slLw [(7, .inv (invL1 z)), (13, .inv invL2)] 2 Try.f4 [.sc (.xs a n cap 4 (rawF K A B s)), sI .i64 z] yes =
    (rwP n (rawF K A B s) ∧ ((0 : Int) ≤ (25 : Int) ∧ (25 : Int) ≤ (30 : Int)) ∧ ∀ (ac : List Nat → Option Go.Addr × Nat), let x101 : Prop := (!trE (fun (i : Nat) => iAt (blk0 (acP ac) (acH ac) (acA ac) (acC ac)) i 0) (fun (i : Nat) => iAt (blk0 (acP ac) (acH ac) (acA ac) (acC ac)) i 1) (fun (i : Nat) => nAt (blk0 (acP ac) (acH ac) (acA ac) (acC ac) i 2)) (acN ac) (acB ac) (acE ac) != (0 : Int)) = Bool.true; let x102 : Prop := (!(trE (fun (i : Nat) => iAt (blk0 (acP ac) (acH ac) (acA ac) (acC ac)) i 0) (fun (i : Nat) => iAt (blk0 (acP ac) (acH ac) (acA ac) (acC ac)) i 1) (fun (i : Nat) => nAt (blk0 (acP ac) (acH ac) (acA ac) (acC ac) i 2)) (acN ac) (acB ac) (acE ac) != (0 : Int) || trE (fun (i : Nat) => iAt (blk0 (acP ac) (acH ac) (acA ac) (acC ac)) i 0) (fun (i : Nat) => iAt (blk0 (acP ac) (acH ac) (acA ac) (acC ac)) i 1) (fun (i : Nat) => nAt (blk0 (acP ac) (acH ac) (acA ac) (acC ac) i 2)) (acN ac) (acB ac) (acE ac) != (0 : Int))) = Bool.true; let x103 : Prop := (!(trE (fun (i : Nat) => iAt (blk0 (acP ac) (acH ac) (acA ac) (acC ac)) i 0) (fun (i : Nat) => iAt (blk0 (acP ac) (acH ac) (acA ac) (acC ac)) i 1) (fun (i : Nat) => nAt (blk0 (acP ac) (acH ac) (acA ac) (acC ac) i 2)) (acN ac) (acB ac) (acE ac) != (0 : Int) || trE (fun (i : Nat) => iAt (blk0 (acP ac) (acH ac) (acA ac) (acC ac)) i 0) (fun (i : Nat) => iAt (blk0 (acP ac) (acH ac) (acA ac) (acC ac)) i 1) (fun (i : Nat) => nAt (blk0 (acP ac) (acH ac) (acA ac) (acC ac) i 2)) (acN ac) (acB ac) (acE ac) != (0 : Int) || (↑(loN (fun (i : Nat) => iAt (blk0 (acP ac) (acH ac) (acA ac) (acC ac)) i 0) (fun (i : Nat) => iAt (blk0 (acP ac) (acH ac) (acA ac) (acC ac)) i 1) (fun (i : Nat) => nAt (blk0 (acP ac) (acH ac) (acA ac) (acC ac) i 2)) (acN ac) (acB ac) (acE ac) Bool.false) : Int) == (0 : Int))) = Bool.true; let x104 : Prop := (!(trE (fun (i : Nat) => iAt (blk0 (acP ac) (acH ac) (acA ac) (acC ac)) i 0) (fun (i : Nat) => iAt (blk0 (acP ac) (acH ac) (acA ac) (acC ac)) i 1) (fun (i : Nat) => nAt (blk0 (acP ac) (acH ac) (acA ac) (acC ac) i 2)) (acN ac) (acB ac) (acE ac) != (0 : Int) || trE (fun (i : Nat) => iAt (blk0 (acP ac) (acH ac) (acA ac) (acC ac)) i 0) (fun (i : Nat) => iAt (blk0 (acP ac) (acH ac) (acA ac) (acC ac)) i 1) (fun (i : Nat) => nAt (blk0 (acP ac) (acH ac) (acA ac) (acC ac) i 2)) (acN ac) (acB ac) (acE ac) != (0 : Int) || (↑(loN (fun (i : Nat) => iAt (blk0 (acP ac) (acH ac) (acA ac) (acC ac)) i 0) (fun (i : Nat) => iAt (blk0 (acP ac) (acH ac) (acA ac) (acC ac)) i 1) (fun (i : Nat) => nAt (blk0 (acP ac) (acH ac) (acA ac) (acC ac) i 2)) (acN ac) (acB ac) (acE ac) Bool.false) : Int) == (0 : Int) || loG (fun (i : Nat) => iAt (blk0 (acP ac) (acH ac) (acA ac) (acC ac)) i 0) (acB ac) (acE ac) Bool.false 0 != (0 : Int))) = Bool.true; let x105 : Prop := (!(trE (fun (i : Nat) => iAt (blk0 (acP ac) (acH ac) (acA ac) (acC ac)) i 0) (fun (i : Nat) => iAt (blk0 (acP ac) (acH ac) (acA ac) (acC ac)) i 1) (fun (i : Nat) => nAt (blk0 (acP ac) (acH ac) (acA ac) (acC ac) i 2)) (acN ac) (acB ac) (acE ac) != (0 : Int) || trE (fun (i : Nat) => iAt (blk0 (acP ac) (acH ac) (acA ac) (acC ac)) i 0) (fun (i : Nat) => iAt (blk0 (acP ac) (acH ac) (acA ac) (acC ac)) i 1) (fun (i : Nat) => nAt (blk0 (acP ac) (acH ac) (acA ac) (acC ac) i 2)) (acN ac) (acB ac) (acE ac) != (0 : Int) || (↑(loN (fun (i : Nat) => iAt (blk0 (acP ac) (acH ac) (acA ac) (acC ac)) i 0) (fun (i : Nat) => iAt (blk0 (acP ac) (acH ac) (acA ac) (acC ac)) i 1) (fun (i : Nat) => nAt (blk0 (acP ac) (acH ac) (acA ac) (acC ac) i 2)) (acN ac) (acB ac) (acE ac) Bool.false) : Int) == (0 : Int) || loG (fun (i : Nat) => iAt (blk0 (acP ac) (acH ac) (acA ac) (acC ac)) i 0) (acB ac) (acE ac) Bool.false 0 != (0 : Int) || loG (fun (i : Nat) => iAt (blk0 (acP ac) (acH ac) (acA ac) (acC ac)) i 0) (acB ac) (acE ac) Bool.false (Go.IntKind.i64.wrap ((↑(loN (fun (i : Nat) => iAt (blk0 (acP ac) (acH ac) (acA ac) (acC ac)) i 0) (fun (i : Nat) => iAt (blk0 (acP ac) (acH ac) (acA ac) (acC ac)) i 1) (fun (i : Nat) => nAt (blk0 (acP ac) (acH ac) (acA ac) (acC ac) i 2)) (acN ac) (acB ac) (acE ac) Bool.false) : Int) - (1 : Int))).toNat != acB ac)) = Bool.true; let x106 : Prop := (!(trE (fun (i : Nat) => iAt (blk0 (acP ac) (acH ac) (acA ac) (acC ac)) i 0) (fun (i : Nat) => iAt (blk0 (acP ac) (acH ac) (acA ac) (acC ac)) i 1) (fun (i : Nat) => nAt (blk0 (acP ac) (acH ac) (acA ac) (acC ac) i 2)) (acN ac) (acB ac) (acE ac) != (0 : Int) || trE (fun (i : Nat) => iAt (blk0 (acP ac) (acH ac) (acA ac) (acC ac)) i 0) (fun (i : Nat) => iAt (blk0 (acP ac) (acH ac) (acA ac) (acC ac)) i 1) (fun (i : Nat) => nAt (blk0 (acP ac) (acH ac) (acA ac) (acC ac) i 2)) (acN ac) (acB ac) (acE ac) != (0 : Int) || (↑(loN (fun (i : Nat) => iAt (blk0 (acP ac) (acH ac) (acA ac) (acC ac)) i 0) (fun (i : Nat) => iAt (blk0 (acP ac) (acH ac) (acA ac) (acC ac)) i 1) (fun (i : Nat) => nAt (blk0 (acP ac) (acH ac) (acA ac) (acC ac) i 2)) (acN ac) (acB ac) (acE ac) Bool.false) : Int) == (0 : Int) || loG (fun (i : Nat) => iAt (blk0 (acP ac) (acH ac) (acA ac) (acC ac)) i 0) (acB ac) (acE ac) Bool.false 0 != (0 : Int) || loG (fun (i : Nat) => iAt (blk0 (acP ac) (acH ac) (acA ac) (acC ac)) i 0) (acB ac) (acE ac) Bool.false (Go.IntKind.i64.wrap ((↑(loN (fun (i : Nat) => iAt (blk0 (acP ac) (acH ac) (acA ac) (acC ac)) i 0) (fun (i : Nat) => iAt (blk0 (acP ac) (acH ac) (acA ac) (acC ac)) i 1) (fun (i : Nat) => nAt (blk0 (acP ac) (acH ac) (acA ac) (acC ac) i 2)) (acN ac) (acB ac) (acE ac) Bool.false) : Int) - (1 : Int))).toNat != acB ac || (↑(loN (fun (i : Nat) => iAt (blk0 (acP ac) (acH ac) (acA ac) (acC ac)) i 0) (fun (i : Nat) => iAt (blk0 (acP ac) (acH ac) (acA ac) (acC ac)) i 1) (fun (i : Nat) => nAt (blk0 (acP ac) (acH ac) (acA ac) (acC ac) i 2)) (acN ac) (acB ac) (acE ac) Bool.true) : Int) == (0 : Int))) = Bool.true; OkT (acP ac) (acH ac) (fun (_ : Nat) => 0) (acN ac) (acB ac) (acE ac) ∧ (↑(acN ac) : Int) ≤ (26 : Int) → ∀ (a : Option Go.Addr) (cap : Nat), (a = Option.none → acN ac = 0 ∧ cap = 0) → acN ac ≤ cap → tfP a (acN ac) (blk0 (acP ac) (acH ac) (acA ac) (acC ac)) ∧ ∀ (a_3 : Option Go.Addr) (cap_1 : Nat), (a_3 = Option.none → loN (fun (i : Nat) => iAt (blk0 (acP ac) (acH ac) (acA ac) (acC ac)) i 0) (fun (i : Nat) => iAt (blk0 (acP ac) (acH ac) (acA ac) (acC ac)) i 1) (fun (i : Nat) => nAt (blk0 (acP ac) (acH ac) (acA ac) (acC ac) i 2)) (acN ac) (acB ac) (acE ac) Bool.false = 0 ∧ cap_1 = 0) → loN (fun (i : Nat) => iAt (blk0 (acP ac) (acH ac) (acA ac) (acC ac)) i 0) (fun (i : Nat) => iAt (blk0 (acP ac) (acH ac) (acA ac) (acC ac)) i 1) (fun (i : Nat) => nAt (blk0 (acP ac) (acH ac) (acA ac) (acC ac) i 2)) (acN ac) (acB ac) (acE ac) Bool.false ≤ cap_1 → tfP a (acN ac) (blk0 (acP ac) (acH ac) (acA ac) (acC ac)) ∧ ∀ (a_6 : Option Go.Addr) (cap_2 : Nat), (a_6 = Option.none → loN (fun (i : Nat) => iAt (blk0 (acP ac) (acH ac) (acA ac) (acC ac)) i 0) (fun (i : Nat) => iAt (blk0 (acP ac) (acH ac) (acA ac) (acC ac)) i 1) (fun (i : Nat) => nAt (blk0 (acP ac) (acH ac) (acA ac) (acC ac) i 2)) (acN ac) (acB ac) (acE ac) Bool.true = 0 ∧ cap_2 = 0) → loN (fun (i : Nat) => iAt (blk0 (acP ac) (acH ac) (acA ac) (acC ac)) i 0) (fun (i : Nat) => iAt (blk0 (acP ac) (acH ac) (acA ac) (acC ac)) i 1) (fun (i : Nat) => nAt (blk0 (acP ac) (acH ac) (acA ac) (acC ac) i 2)) (acN ac) (acB ac) (acE ac) Bool.true ≤ cap_2 → (x101 → x101) ∧ ((trE (fun (i : Nat) => iAt (blk0 (acP ac) (acH ac) (acA ac) (acC ac)) i 0) (fun (i : Nat) => iAt (blk0 (acP ac) (acH ac) (acA ac) (acC ac)) i 1) (fun (i : Nat) => nAt (blk0 (acP ac) (acH ac) (acA ac) (acC ac) i 2)) (acN ac) (acB ac) (acE ac) != (0 : Int)) = Bool.false → x101) ∧ (x102 → x102) ∧ (x102 → x102) ∧ ((trE (fun (i : Nat) => iAt (blk0 (acP ac) (acH ac) (acA ac) (acC ac)) i 0) (fun (i : Nat) => iAt (blk0 (acP ac) (acH ac) (acA ac) (acC ac)) i 1) (fun (i : Nat) => nAt (blk0 (acP ac) (acH ac) (acA ac) (acC ac) i 2)) (acN ac) (acB ac) (acE ac) != (0 : Int) || trE (fun (i : Nat) => iAt (blk0 (acP ac) (acH ac) (acA ac) (acC ac)) i 0) (fun (i : Nat) => iAt (blk0 (acP ac) (acH ac) (acA ac) (acC ac)) i 1) (fun (i : Nat) => nAt (blk0 (acP ac) (acH ac) (acA ac) (acC ac) i 2)) (acN ac) (acB ac) (acE ac) != (0 : Int)) = Bool.false → x102) ∧ (x103 → x103) ∧ (x103 → (0 : Int) ≤ (0 : Int) ∧ (0 : Int) < (↑(loN (fun (i : Nat) => iAt (blk0 (acP ac) (acH ac) (acA ac) (acC ac)) i 0) (fun (i : Nat) => iAt (blk0 (acP ac) (acH ac) (acA ac) (acC ac)) i 1) (fun (i : Nat) => nAt (blk0 (acP ac) (acH ac) (acA ac) (acC ac) i 2)) (acN ac) (acB ac) (acE ac) Bool.false) : Int)) ∧ (x103 → x103) ∧ (x103 → x103) ∧ ((trE (fun (i : Nat) => iAt (blk0 (acP ac) (acH ac) (acA ac) (acC ac)) i 0) (fun (i : Nat) => iAt (blk0 (acP ac) (acH ac) (acA ac) (acC ac)) i 1) (fun (i : Nat) => nAt (blk0 (acP ac) (acH ac) (acA ac) (acC ac) i 2)) (acN ac) (acB ac) (acE ac) != (0 : Int) || trE (fun (i : Nat) => iAt (blk0 (acP ac) (acH ac) (acA ac) (acC ac)) i 0) (fun (i : Nat) => iAt (blk0 (acP ac) (acH ac) (acA ac) (acC ac)) i 1) (fun (i : Nat) => nAt (blk0 (acP ac) (acH ac) (acA ac) (acC ac) i 2)) (acN ac) (acB ac) (acE ac) != (0 : Int) || (↑(loN (fun (i : Nat) => iAt (blk0 (acP ac) (acH ac) (acA ac) (acC ac)) i 0) (fun (i : Nat) => iAt (blk0 (acP ac) (acH ac) (acA ac) (acC ac)) i 1) (fun (i : Nat) => nAt (blk0 (acP ac) (acH ac) (acA ac) (acC ac) i 2)) (acN ac) (acB ac) (acE ac) Bool.false) : Int) == (0 : Int)) = Bool.false → x103) ∧ (x104 → x104) ∧ (x104 → x104) ∧ (x104 → x104) ∧ (x104 → x104) ∧ (x104 → (0 : Int) ≤ Go.IntKind.i64.wrap ((↑(loN (fun (i : Nat) => iAt (blk0 (acP ac) (acH ac) (acA ac) (acC ac)) i 0) (fun (i : Nat) => iAt (blk0 (acP ac) (acH ac) (acA ac) (acC ac)) i 1) (fun (i : Nat) => nAt (blk0 (acP ac) (acH ac) (acA ac) (acC ac) i 2)) (acN ac) (acB ac) (acE ac) Bool.false) : Int) - (1 : Int)) ∧ Go.IntKind.i64.wrap ((↑(loN (fun (i : Nat) => iAt (blk0 (acP ac) (acH ac) (acA ac) (acC ac)) i 0) (fun (i : Nat) => iAt (blk0 (acP ac) (acH ac) (acA ac) (acC ac)) i 1) (fun (i : Nat) => nAt (blk0 (acP ac) (acH ac) (acA ac) (acC ac) i 2)) (acN ac) (acB ac) (acE ac) Bool.false) : Int) - (1 : Int)) < (↑(loN (fun (i : Nat) => iAt (blk0 (acP ac) (acH ac) (acA ac) (acC ac)) i 0) (fun (i : Nat) => iAt (blk0 (acP ac) (acH ac) (acA ac) (acC ac)) i 1) (fun (i : Nat) => nAt (blk0 (acP ac) (acH ac) (acA ac) (acC ac) i 2)) (acN ac) (acB ac) (acE ac) Bool.false) : Int)) ∧ (x104 → x104) ∧ (x104 → x104) ∧ (x104 → x104) ∧ (x104 → x104) ∧ ((trE (fun (i : Nat) => iAt (blk0 (acP ac) (acH ac) (acA ac) (acC ac)) i 0) (fun (i : Nat) => iAt (blk0 (acP ac) (acH ac) (acA ac) (acC ac)) i 1) (fun (i : Nat) => nAt (blk0 (acP ac) (acH ac) (acA ac) (acC ac) i 2)) (acN ac) (acB ac) (acE ac) != (0 : Int) || trE (fun (i : Nat) => iAt (blk0 (acP ac) (acH ac) (acA ac) (acC ac)) i 0) (fun (i : Nat) => iAt (blk0 (acP ac) (acH ac) (acA ac) (acC ac)) i 1) (fun (i : Nat) => nAt (blk0 (acP ac) (acH ac) (acA ac) (acC ac) i 2)) (acN ac) (acB ac) (acE ac) != (0 : Int) || (↑(loN (fun (i : Nat) => iAt (blk0 (acP ac) (acH ac) (acA ac) (acC ac)) i 0) (fun (i : Nat) => iAt (blk0 (acP ac) (acH ac) (acA ac) (acC ac)) i 1) (fun (i : Nat) => nAt (blk0 (acP ac) (acH ac) (acA ac) (acC ac) i 2)) (acN ac) (acB ac) (acE ac) Bool.false) : Int) == (0 : Int) || loG (fun (i : Nat) => iAt (blk0 (acP ac) (acH ac) (acA ac) (acC ac)) i 0) (acB ac) (acE ac) Bool.false 0 != (0 : Int)) = Bool.false → x104) ∧ (x105 → x105) ∧ (x105 → x105) ∧ ((trE (fun (i : Nat) => iAt (blk0 (acP ac) (acH ac) (acA ac) (acC ac)) i 0) (fun (i : Nat) => iAt (blk0 (acP ac) (acH ac) (acA ac) (acC ac)) i 1) (fun (i : Nat) => nAt (blk0 (acP ac) (acH ac) (acA ac) (acC ac) i 2)) (acN ac) (acB ac) (acE ac) != (0 : Int) || trE (fun (i : Nat) => iAt (blk0 (acP ac) (acH ac) (acA ac) (acC ac)) i 0) (fun (i : Nat) => iAt (blk0 (acP ac) (acH ac) (acA ac) (acC ac)) i 1) (fun (i : Nat) => nAt (blk0 (acP ac) (acH ac) (acA ac) (acC ac) i 2)) (acN ac) (acB ac) (acE ac) != (0 : Int) || (↑(loN (fun (i : Nat) => iAt (blk0 (acP ac) (acH ac) (acA ac) (acC ac)) i 0) (fun (i : Nat) => iAt (blk0 (acP ac) (acH ac) (acA ac) (acC ac)) i 1) (fun (i : Nat) => nAt (blk0 (acP ac) (acH ac) (acA ac) (acC ac) i 2)) (acN ac) (acB ac) (acE ac) Bool.false) : Int) == (0 : Int) || loG (fun (i : Nat) => iAt (blk0 (acP ac) (acH ac) (acA ac) (acC ac)) i 0) (acB ac) (acE ac) Bool.false 0 != (0 : Int) || loG (fun (i : Nat) => iAt (blk0 (acP ac) (acH ac) (acA ac) (acC ac)) i 0) (acB ac) (acE ac) Bool.false (Go.IntKind.i64.wrap ((↑(loN (fun (i : Nat) => iAt (blk0 (acP ac) (acH ac) (acA ac) (acC ac)) i 0) (fun (i : Nat) => iAt (blk0 (acP ac) (acH ac) (acA ac) (acC ac)) i 1) (fun (i : Nat) => nAt (blk0 (acP ac) (acH ac) (acA ac) (acC ac) i 2)) (acN ac) (acB ac) (acE ac) Bool.false) : Int) - (1 : Int))).toNat != acB ac) = Bool.false → x105) ∧ (x106 → x106) ∧ (x106 → x106) ∧ (x106 → x106) ∧ (x106 → x106) ∧ (x106 → (0 : Int) ≤ Go.IntKind.i64.wrap ((↑(loN (fun (i : Nat) => iAt (blk0 (acP ac) (acH ac) (acA ac) (acC ac)) i 0) (fun (i : Nat) => iAt (blk0 (acP ac) (acH ac) (acA ac) (acC ac)) i 1) (fun (i : Nat) => nAt (blk0 (acP ac) (acH ac) (acA ac) (acC ac) i 2)) (acN ac) (acB ac) (acE ac) Bool.true) : Int) - (1 : Int)) ∧ Go.IntKind.i64.wrap ((↑(loN (fun (i : Nat) => iAt (blk0 (acP ac) (acH ac) (acA ac) (acC ac)) i 0) (fun (i : Nat) => iAt (blk0 (acP ac) (acH ac) (acA ac) (acC ac)) i 1) (fun (i : Nat) => nAt (blk0 (acP ac) (acH ac) (acA ac) (acC ac) i 2)) (acN ac) (acB ac) (acE ac) Bool.true) : Int) - (1 : Int)) < (↑(loN (fun (i : Nat) => iAt (blk0 (acP ac) (acH ac) (acA ac) (acC ac)) i 0) (fun (i : Nat) => iAt (blk0 (acP ac) (acH ac) (acA ac) (acC ac)) i 1) (fun (i : Nat) => nAt (blk0 (acP ac) (acH ac) (acA ac) (acC ac) i 2)) (acN ac) (acB ac) (acE ac) Bool.true) : Int)) ∧ (x106 → x106) ∧ (x106 → x106) ∧ (x106 → x106) ∧ (x106 → x106) ∧ ((trE (fun (i : Nat) => iAt (blk0 (acP ac) (acH ac) (acA ac) (acC ac)) i 0) (fun (i : Nat) => iAt (blk0 (acP ac) (acH ac) (acA ac) (acC ac)) i 1) (fun (i : Nat) => nAt (blk0 (acP ac) (acH ac) (acA ac) (acC ac) i 2)) (acN ac) (acB ac) (acE ac) != (0 : Int) || trE (fun (i : Nat) => iAt (blk0 (acP ac) (acH ac) (acA ac) (acC ac)) i 0) (fun (i : Nat) => iAt (blk0 (acP ac) (acH ac) (acA ac) (acC ac)) i 1) (fun (i : Nat) => nAt (blk0 (acP ac) (acH ac) (acA ac) (acC ac) i 2)) (acN ac) (acB ac) (acE ac) != (0 : Int) || (↑(loN (fun (i : Nat) => iAt (blk0 (acP ac) (acH ac) (acA ac) (acC ac)) i 0) (fun (i : Nat) => iAt (blk0 (acP ac) (acH ac) (acA ac) (acC ac)) i 1) (fun (i : Nat) => nAt (blk0 (acP ac) (acH ac) (acA ac) (acC ac) i 2)) (acN ac) (acB ac) (acE ac) Bool.false) : Int) == (0 : Int) || loG (fun (i : Nat) => iAt (blk0 (acP ac) (acH ac) (acA ac) (acC ac)) i 0) (acB ac) (acE ac) Bool.false 0 != (0 : Int) || loG (fun (i : Nat) => iAt (blk0 (acP ac) (acH ac) (acA ac) (acC ac)) i 0) (acB ac) (acE ac) Bool.false (Go.IntKind.i64.wrap ((↑(loN (fun (i : Nat) => iAt (blk0 (acP ac) (acH ac) (acA ac) (acC ac)) i 0) (fun (i : Nat) => iAt (blk0 (acP ac) (acH ac) (acA ac) (acC ac)) i 1) (fun (i : Nat) => nAt (blk0 (acP ac) (acH ac) (acA ac) (acC ac) i 2)) (acN ac) (acB ac) (acE ac) Bool.false) : Int) - (1 : Int))).toNat != acB ac || (↑(loN (fun (i : Nat) => iAt (blk0 (acP ac) (acH ac) (acA ac) (acC ac)) i 0) (fun (i : Nat) => iAt (blk0 (acP ac) (acH ac) (acA ac) (acC ac)) i 1) (fun (i : Nat) => nAt (blk0 (acP ac) (acH ac) (acA ac) (acC ac) i 2)) (acN ac) (acB ac) (acE ac) Bool.true) : Int) == (0 : Int)) = Bool.false → x106) ∧ ((trE (fun (i : Nat) => iAt (blk0 (acP ac) (acH ac) (acA ac) (acC ac)) i 0) (fun (i : Nat) => iAt (blk0 (acP ac) (acH ac) (acA ac) (acC ac)) i 1) (fun (i : Nat) => nAt (blk0 (acP ac) (acH ac) (acA ac) (acC ac) i 2)) (acN ac) (acB ac) (acE ac) != (0 : Int) || trE (fun (i : Nat) => iAt (blk0 (acP ac) (acH ac) (acA ac) (acC ac)) i 0) (fun (i : Nat) => iAt (blk0 (acP ac) (acH ac) (acA ac) (acC ac)) i 1) (fun (i : Nat) => nAt (blk0 (acP ac) (acH ac) (acA ac) (acC ac) i 2)) (acN ac) (acB ac) (acE ac) != (0 : Int) || (↑(loN (fun (i : Nat) => iAt (blk0 (acP ac) (acH ac) (acA ac) (acC ac)) i 0) (fun (i : Nat) => iAt (blk0 (acP ac) (acH ac) (acA ac) (acC ac)) i 1) (fun (i : Nat) => nAt (blk0 (acP ac) (acH ac) (acA ac) (acC ac) i 2)) (acN ac) (acB ac) (acE ac) Bool.false) : Int) == (0 : Int) || loG (fun (i : Nat) => iAt (blk0 (acP ac) (acH ac) (acA ac) (acC ac)) i 0) (acB ac) (acE ac) Bool.false 0 != (0 : Int) || loG (fun (i : Nat) => iAt (blk0 (acP ac) (acH ac) (acA ac) (acC ac)) i 0) (acB ac) (acE ac) Bool.false (Go.IntKind.i64.wrap ((↑(loN (fun (i : Nat) => iAt (blk0 (acP ac) (acH ac) (acA ac) (acC ac)) i 0) (fun (i : Nat) => iAt (blk0 (acP ac) (acH ac) (acA ac) (acC ac)) i 1) (fun (i : Nat) => nAt (blk0 (acP ac) (acH ac) (acA ac) (acC ac) i 2)) (acN ac) (acB ac) (acE ac) Bool.false) : Int) - (1 : Int))).toNat != acB ac || (↑(loN (fun (i : Nat) => iAt (blk0 (acP ac) (acH ac) (acA ac) (acC ac)) i 0) (fun (i : Nat) => iAt (blk0 (acP ac) (acH ac) (acA ac) (acC ac)) i 1) (fun (i : Nat) => nAt (blk0 (acP ac) (acH ac) (acA ac) (acC ac) i 2)) (acN ac) (acB ac) (acE ac) Bool.true) : Int) == (0 : Int) || loG (fun (i : Nat) => iAt (blk0 (acP ac) (acH ac) (acA ac) (acC ac)) i 0) (acB ac) (acE ac) Bool.true (Go.IntKind.i64.wrap ((↑(loN (fun (i : Nat) => iAt (blk0 (acP ac) (acH ac) (acA ac) (acC ac)) i 0) (fun (i : Nat) => iAt (blk0 (acP ac) (acH ac) (acA ac) (acC ac)) i 1) (fun (i : Nat) => nAt (blk0 (acP ac) (acH ac) (acA ac) (acC ac) i 2)) (acN ac) (acB ac) (acE ac) Bool.true) : Int) - (1 : Int))).toNat != acE ac) = Bool.true → Bool.false = Bool.true) ∧ ((trE (fun (i : Nat) => iAt (blk0 (acP ac) (acH ac) (acA ac) (acC ac)) i 0) (fun (i : Nat) => iAt (blk0 (acP ac) (acH ac) (acA ac) (acC ac)) i 1) (fun (i : Nat) => nAt (blk0 (acP ac) (acH ac) (acA ac) (acC ac) i 2)) (acN ac) (acB ac) (acE ac) != (0 : Int) || trE (fun (i : Nat) => iAt (blk0 (acP ac) (acH ac) (acA ac) (acC ac)) i 0) (fun (i : Nat) => iAt (blk0 (acP ac) (acH ac) (acA ac) (acC ac)) i 1) (fun (i : Nat) => nAt (blk0 (acP ac) (acH ac) (acA ac) (acC ac) i 2)) (acN ac) (acB ac) (acE ac) != (0 : Int) || (↑(loN (fun (i : Nat) => iAt (blk0 (acP ac) (acH ac) (acA ac) (acC ac)) i 0) (fun (i : Nat) => iAt (blk0 (acP ac) (acH ac) (acA ac) (acC ac)) i 1) (fun (i : Nat) => nAt (blk0 (acP ac) (acH ac) (acA ac) (acC ac) i 2)) (acN ac) (acB ac) (acE ac) Bool.false) : Int) == (0 : Int) || loG (fun (i : Nat) => iAt (blk0 (acP ac) (acH ac) (acA ac) (acC ac)) i 0) (acB ac) (acE ac) Bool.false 0 != (0 : Int) || loG (fun (i : Nat) => iAt (blk0 (acP ac) (acH ac) (acA ac) (acC ac)) i 0) (acB ac) (acE ac) Bool.false (Go.IntKind.i64.wrap ((↑(loN (fun (i : Nat) => iAt (blk0 (acP ac) (acH ac) (acA ac) (acC ac)) i 0) (fun (i : Nat) => iAt (blk0 (acP ac) (acH ac) (acA ac) (acC ac)) i 1) (fun (i : Nat) => nAt (blk0 (acP ac) (acH ac) (acA ac) (acC ac) i 2)) (acN ac) (acB ac) (acE ac) Bool.false) : Int) - (1 : Int))).toNat != acB ac || (↑(loN (fun (i : Nat) => iAt (blk0 (acP ac) (acH ac) (acA ac) (acC ac)) i 0) (fun (i : Nat) => iAt (blk0 (acP ac) (acH ac) (acA ac) (acC ac)) i 1) (fun (i : Nat) => nAt (blk0 (acP ac) (acH ac) (acA ac) (acC ac) i 2)) (acN ac) (acB ac) (acE ac) Bool.true) : Int) == (0 : Int) || loG (fun (i : Nat) => iAt (blk0 (acP ac) (acH ac) (acA ac) (acC ac)) i 0) (acB ac) (acE ac) Bool.true (Go.IntKind.i64.wrap ((↑(loN (fun (i : Nat) => iAt (blk0 (acP ac) (acH ac) (acA ac) (acC ac)) i 0) (fun (i : Nat) => iAt (blk0 (acP ac) (acH ac) (acA ac) (acC ac)) i 1) (fun (i : Nat) => nAt (blk0 (acP ac) (acH ac) (acA ac) (acC ac) i 2)) (acN ac) (acB ac) (acE ac) Bool.true) : Int) - (1 : Int))).toNat != acE ac) = Bool.false → (∀ (y : LhX), closedB (slotsAt 134 [(1, SV.one (sI Go.IntKind.i64 z)), (5, SV.one (SA.sc (SC.ptr 0 0))), (6, lnV y.t y.t.best y.la y.lc), (10, SV.one (sI Go.IntKind.i64 (↑y.i : Int)))]) [y.t.o] = Bool.true) ∧ ∃ (y : LhX), (y.t.ok ∧ 1 ≤ y.i ∧ y.i ≤ lnN y.t.P y.t.best) ∧ z = z ∧ (a_3 = y.la ∧ loN (fun (i : Nat) => iAt (blk0 (acP ac) (acH ac) (acA ac) (acC ac)) i 0) (fun (i : Nat) => iAt (blk0 (acP ac) (acH ac) (acA ac) (acC ac)) i 1) (fun (i : Nat) => nAt (blk0 (acP ac) (acH ac) (acA ac) (acC ac) i 2)) (acN ac) (acB ac) (acE ac) Bool.false = lnN y.t.P y.t.best ∧ cap_1 = y.lc ∧ ∀ (i : Nat), i < loN (fun (i : Nat) => iAt (blk0 (acP ac) (acH ac) (acA ac) (acC ac)) i 0) (fun (i : Nat) => iAt (blk0 (acP ac) (acH ac) (acA ac) (acC ac)) i 1) (fun (i : Nat) => nAt (blk0 (acP ac) (acH ac) (acA ac) (acC ac) i 2)) (acN ac) (acB ac) (acE ac) Bool.false → allC 1 fun (_ : Nat) => simC (SC.val (Go.Value.int Go.IntKind.i64 (loG (fun (i : Nat) => iAt (blk0 (acP ac) (acH ac) (acA ac) (acC ac)) i 0) (acB ac) (acE ac) Bool.false i))) (SC.val (Go.Value.int Go.IntKind.i64 ((lineT y.t.P y.t.best).getD i (0 : Int))))) ∧ (1 : Int) = (↑y.i : Int) ∧ (a = y.t.a ∧ acN ac = y.t.n ∧ cap = y.t.cap ∧ ∀ (i : Nat), i < acN ac → allC 3 fun (c : Nat) => simC (blk0 (acP ac) (acH ac) (acA ac) (acC ac) i c) (blk0 y.t.P y.t.H y.t.A y.t.C i c)) ∧ acB ac = y.t.best ∧ acE ac = y.t.fin ∧ 0 = 0 ∧ ∀ (y : LhX), let x107 : Prop := (0 : Int) ≤ (↑y.i : Int) ∧ (↑y.i : Int) < (↑(lnN y.t.P y.t.best) : Int); let x108 : Prop := (0 : Int) ≤ (lineT y.t.P y.t.best).getD (↑y.i : Int).toNat (0 : Int) ∧ (lineT y.t.P y.t.best).getD (↑y.i : Int).toNat (0 : Int) < (↑y.t.n : Int); let x109 : Prop := (!y.t.P ((lineT y.t.P y.t.best).getD (↑y.i : Int).toNat (0 : Int)).toNat != (lineT y.t.P y.t.best).getD (Go.IntKind.i64.wrap ((↑y.i : Int) - (1 : Int))).toNat (0 : Int)) = Bool.true; y.t.ok ∧ 1 ≤ y.i ∧ y.i ≤ lnN y.t.P y.t.best → (Decidable.decide ((↑y.i : Int) < (↑(lnN y.t.P y.t.best) : Int)) = Bool.true → x107 ∧ x108 ∧ ((0 : Int) ≤ Go.IntKind.i64.wrap ((↑y.i : Int) - (1 : Int)) ∧ Go.IntKind.i64.wrap ((↑y.i : Int) - (1 : Int)) < (↑(lnN y.t.P y.t.best) : Int)) ∧ (x109 → x109) ∧ (x109 → x109) ∧ (x109 → x109) ∧ (x109 → x107) ∧ (x109 → x109) ∧ (x109 → x109) ∧ (x109 → x109) ∧ (x109 → x108) ∧ (x109 → x109) ∧ (x109 → x109) ∧ (x109 → x109) ∧ (x109 → x109) ∧ ((y.t.P ((lineT y.t.P y.t.best).getD (↑y.i : Int).toNat (0 : Int)).toNat != (lineT y.t.P y.t.best).getD (Go.IntKind.i64.wrap ((↑y.i : Int) - (1 : Int))).toNat (0 : Int)) = Bool.false → x109) ∧ ((y.t.P ((lineT y.t.P y.t.best).getD (↑y.i : Int).toNat (0 : Int)).toNat != (lineT y.t.P y.t.best).getD (Go.IntKind.i64.wrap ((↑y.i : Int) - (1 : Int))).toNat (0 : Int) || y.t.H ((lineT y.t.P y.t.best).getD (↑y.i : Int).toNat (0 : Int)).toNat != (↑y.i : Int)) = Bool.true → Bool.false = Bool.true) ∧ ((y.t.P ((lineT y.t.P y.t.best).getD (↑y.i : Int).toNat (0 : Int)).toNat != (lineT y.t.P y.t.best).getD (Go.IntKind.i64.wrap ((↑y.i : Int) - (1 : Int))).toNat (0 : Int) || y.t.H ((lineT y.t.P y.t.best).getD (↑y.i : Int).toNat (0 : Int)).toNat != (↑y.i : Int)) = Bool.false → ∃ (y' : LhX), (y'.t.ok ∧ 1 ≤ y'.i ∧ y'.i ≤ lnN y'.t.P y'.t.best) ∧ z = z ∧ (y.la = y'.la ∧ lnN y.t.P y.t.best = lnN y'.t.P y'.t.best ∧ y.lc = y'.lc ∧ ∀ (i : Nat), i < lnN y.t.P y.t.best → allC 1 fun (_ : Nat) => simC (SC.val (Go.Value.int Go.IntKind.i64 ((lineT y.t.P y.t.best).getD i (0 : Int)))) (SC.val (Go.Value.int Go.IntKind.i64 ((lineT y'.t.P y'.t.best).getD i (0 : Int))))) ∧ Go.IntKind.i64.wrap ((↑y.i : Int) + (1 : Int)) = (↑y'.i : Int) ∧ (y.t.a = y'.t.a ∧ y.t.n = y'.t.n ∧ y.t.cap = y'.t.cap ∧ ∀ (i : Nat), i < y.t.n → allC 3 fun (c : Nat) => simC (blk0 y.t.P y.t.H y.t.A y.t.C i c) (blk0 y'.t.P y'.t.H y'.t.A y'.t.C i c)) ∧ y.t.best = y'.t.best ∧ y.t.fin = y'.t.fin ∧ 0 = 0 ∧ (lnN y'.t.P y'.t.best - y'.i).succ.le (lnN y.t.P y.t.best - y.i))) ∧ (Decidable.decide ((↑y.i : Int) < (↑(lnN y.t.P y.t.best) : Int)) = Bool.false → ((-9223372036854775808 : Int) ≤ z ∧ z ≤ (9223372036854775807 : Int)) ∧ ((0 : Int) < (↑y.t.n : Int) ∧ (↑y.t.n : Int) ≤ (1099511627776 : Int)) ∧ (∀ (y : LhX), closedB (slotsAt 134 [(5, SV.one (SA.sc (SC.ptr 0 0))), (6, lnV y.t y.t.best y.la y.lc), (11, SV.one (sI Go.IntKind.i64 y.k)), (12, SV.one (sI Go.IntKind.i64 y.on))]) [y.t.o] = Bool.true) ∧ ∃ (y_1 : LhX), (y_1.t.ok ∧ (0 : Int) ≤ y_1.k ∧ y_1.k < (↑y_1.t.n : Int) ∧ (-1 : Int) ≤ y_1.on ∧ y_1.on < (↑y_1.t.n : Int) ∧ stO y_1.t.P y_1.on y_1.t.fin = stO y_1.t.P y_1.k y_1.t.fin) ∧ (y.la = y_1.la ∧ lnN y.t.P y.t.best = lnN y_1.t.P y_1.t.best ∧ y.lc = y_1.lc ∧ ∀ (i : Nat), i < lnN y.t.P y.t.best → allC 1 fun (_ : Nat) => simC (SC.val (Go.Value.int Go.IntKind.i64 ((lineT y.t.P y.t.best).getD i (0 : Int)))) (SC.val (Go.Value.int Go.IntKind.i64 ((lineT y_1.t.P y_1.t.best).getD i (0 : Int))))) ∧ z % (↑y.t.n : Int) = y_1.k ∧ z % (↑y.t.n : Int) = y_1.on ∧ (y.t.a = y_1.t.a ∧ y.t.n = y_1.t.n ∧ y.t.cap = y_1.t.cap ∧ ∀ (i : Nat), i < y.t.n → allC 3 fun (c : Nat) => simC (blk0 y.t.P y.t.H y.t.A y.t.C i c) (blk0 y_1.t.P y_1.t.H y_1.t.A y_1.t.C i c)) ∧ y.t.best = y_1.t.best ∧ y.t.fin = y_1.t.fin ∧ 0 = 0 ∧ ∀ (y : LhX), y.t.ok ∧ (0 : Int) ≤ y.k ∧ y.k < (↑y.t.n : Int) ∧ (-1 : Int) ≤ y.on ∧ y.on < (↑y.t.n : Int) ∧ stO y.t.P y.on y.t.fin = stO y.t.P y.k y.t.fin → (Decidable.decide (y.on > y.t.fin) = Bool.true → ((0 : Int) ≤ y.on ∧ y.on < (↑y.t.n : Int)) ∧ ∃ (y' : LhX), (y'.t.ok ∧ (0 : Int) ≤ y'.k ∧ y'.k < (↑y'.t.n : Int) ∧ (-1 : Int) ≤ y'.on ∧ y'.on < (↑y'.t.n : Int) ∧ stO y'.t.P y'.on y'.t.fin = stO y'.t.P y'.k y'.t.fin) ∧ (y.la = y'.la ∧ lnN y.t.P y.t.best = lnN y'.t.P y'.t.best ∧ y.lc = y'.lc ∧ ∀ (i : Nat), i < lnN y.t.P y.t.best → allC 1 fun (_ : Nat) => simC (SC.val (Go.Value.int Go.IntKind.i64 ((lineT y.t.P y.t.best).getD i (0 : Int)))) (SC.val (Go.Value.int Go.IntKind.i64 ((lineT y'.t.P y'.t.best).getD i (0 : Int))))) ∧ y.k = y'.k ∧ y.t.P y.on.toNat = y'.on ∧ (y.t.a = y'.t.a ∧ y.t.n = y'.t.n ∧ y.t.cap = y'.t.cap ∧ ∀ (i : Nat), i < y.t.n → allC 3 fun (c : Nat) => simC (blk0 y.t.P y.t.H y.t.A y.t.C i c) (blk0 y'.t.P y'.t.H y'.t.A y'.t.C i c)) ∧ y.t.best = y'.t.best ∧ y.t.fin = y'.t.fin ∧ 0 = 0 ∧ (y'.on + (1 : Int)).toNat.succ.le (y.on + (1 : Int)).toNat) ∧ (Decidable.decide (y.on > y.t.fin) = Bool.false → ((!y.on != y.t.fin) = Bool.true → (!y.on != y.t.fin) = Bool.true) ∧ ((!y.on != y.t.fin) = Bool.true → (!y.on != y.t.fin) = Bool.true) ∧ ((!y.on != y.t.fin) = Bool.true → (!y.on != y.t.fin) = Bool.true) ∧ ((!y.on != y.t.fin) = Bool.true → (0 : Int) ≤ y.k ∧ y.k < (↑y.t.n : Int)) ∧ ((!y.on != y.t.fin) = Bool.true → (!y.on != y.t.fin) = Bool.true) ∧ ((!y.on != y.t.fin) = Bool.true → (!y.on != y.t.fin) = Bool.true) ∧ ((!y.on != y.t.fin) = Bool.true → (!y.on != y.t.fin) = Bool.true) ∧ ((!y.on != y.t.fin) = Bool.true → (!y.on != y.t.fin) = Bool.true) ∧ ((!y.on != y.t.fin) = Bool.true → (!y.on != y.t.fin) = Bool.true) ∧ ((y.on != y.t.fin) = Bool.false → (!y.on != y.t.fin) = Bool.true) ∧ (y.on != y.t.fin || Decidable.decide (y.t.H y.k.toNat < (↑(lnN y.t.P y.t.best) : Int))) = Bool.true)))) := by kernel_rfl
theorem vc_GrowLate (a : Option Addr) (n cap : Nat) (K A B : Nat → Int) (s : Nat → ByteArray) (z : Int) :
    OwesV Try.prog cxGn slLw [(6, .inv invG1)] 2 Try.f5 [.sc (.xs a n cap 4 (rawF K A B s)), sI .i64 z] yes =
    (rwP n (rawF K A B s) ∧ ((0 : Int) ≤ (25 : Int) ∧ (25 : Int) ≤ (30 : Int)) ∧ ∀ (ac : List Nat → Option Go.Addr × Nat), OkT (acP ac) (acH ac) (fun (_ : Nat) => 0) (acN ac) (acB ac) (acE ac) ∧ (↑(acN ac) : Int) ≤ (26 : Int) → ∀ (a : Option Go.Addr) (cap : Nat), (a = Option.none → acN ac = 0 ∧ cap = 0) → acN ac ≤ cap → (((↑(acN ac) : Int) == (0 : Int)) = Bool.true → Bool.false = Bool.true) ∧ (((↑(acN ac) : Int) == (0 : Int)) = Bool.false → ((-9223372036854775808 : Int) ≤ z ∧ z ≤ (9223372036854775807 : Int)) ∧ ((0 : Int) < (↑(acN ac) : Int) ∧ (↑(acN ac) : Int) ≤ (1099511627776 : Int)) ∧ (∀ (y : LhX), closedB (slotsAt 112 [(5, SV.one (SA.sc (SC.ptr 0 0))), (6, SV.one (sI Go.IntKind.i64 y.k)), (7, SV.one (sI Go.IntKind.i64 y.on))]) [y.t.o] = Bool.true) ∧ ∃ (y : LhX), (y.t.ok ∧ y.t.n ≤ 30 ∧ (0 : Int) ≤ y.k ∧ y.k < (↑y.t.n : Int) ∧ (-1 : Int) ≤ y.on ∧ y.on < (↑y.t.n : Int) ∧ stO y.t.P y.on y.t.fin = stO y.t.P y.k y.t.fin) ∧ z % (↑(acN ac) : Int) = y.k ∧ z % (↑(acN ac) : Int) = y.on ∧ (a = y.t.a ∧ acN ac = y.t.n ∧ cap = y.t.cap ∧ ∀ (i : Nat), i < acN ac → allC 3 fun (c : Nat) => simC (blk0 (acP ac) (acH ac) (acA ac) (acC ac) i c) (blk0 y.t.P y.t.H y.t.A y.t.C i c)) ∧ acB ac = y.t.best ∧ acE ac = y.t.fin ∧ 0 = 0 ∧ ∀ (y : LhX), let x101 : Prop := gr0E (fun (i : Nat) => iAt (blk0 y.t.P y.t.H y.t.A y.t.C) i 0) (fun (i : Nat) => iAt (blk0 y.t.P y.t.H y.t.A y.t.C) i 1) y.t.n y.t.best y.t.fin y.k = (0 : Int); let x102 : Prop := (gr0E (fun (i : Nat) => iAt (blk0 y.t.P y.t.H y.t.A y.t.C) i 0) (fun (i : Nat) => iAt (blk0 y.t.P y.t.H y.t.A y.t.C) i 1) y.t.n y.t.best y.t.fin y.k == (15 : Int)) = Bool.true; let x103 : Prop := (gr0E (fun (i : Nat) => iAt (blk0 y.t.P y.t.H y.t.A y.t.C) i 0) (fun (i : Nat) => iAt (blk0 y.t.P y.t.H y.t.A y.t.C) i 1) y.t.n y.t.best y.t.fin y.k == (0 : Int)) = Bool.true; let x104 : Prop := (gr0E (fun (i : Nat) => iAt (blk0 y.t.P y.t.H y.t.A y.t.C) i 0) (fun (i : Nat) => iAt (blk0 y.t.P y.t.H y.t.A y.t.C) i 1) y.t.n y.t.best y.t.fin y.k == (0 : Int) && gr0E (fun (i : Nat) => iAt (blk0 y.t.P y.t.H y.t.A y.t.C) i 0) (fun (i : Nat) => iAt (blk0 y.t.P y.t.H y.t.A y.t.C) i 1) y.t.n y.t.best y.t.fin (↑y.t.n : Int) == (5 : Int)) = Bool.true; let x105 : Prop := (gr0E (fun (i : Nat) => iAt (blk0 y.t.P y.t.H y.t.A y.t.C) i 0) (fun (i : Nat) => iAt (blk0 y.t.P y.t.H y.t.A y.t.C) i 1) y.t.n y.t.best y.t.fin y.k == (0 : Int) && gr0E (fun (i : Nat) => iAt (blk0 y.t.P y.t.H y.t.A y.t.C) i 0) (fun (i : Nat) => iAt (blk0 y.t.P y.t.H y.t.A y.t.C) i 1) y.t.n y.t.best y.t.fin (↑y.t.n : Int) == (5 : Int) && (↑(if x101 then y.t.n + 1 else 0) : Int) == Go.IntKind.i64.wrap ((↑y.t.n : Int) + (1 : Int))) = Bool.true; let x106 : Prop := (gr0E (fun (i : Nat) => iAt (blk0 y.t.P y.t.H y.t.A y.t.C) i 0) (fun (i : Nat) => iAt (blk0 y.t.P y.t.H y.t.A y.t.C) i 1) y.t.n y.t.best y.t.fin y.k == (0 : Int) && gr0E (fun (i : Nat) => iAt (blk0 y.t.P y.t.H y.t.A y.t.C) i 0) (fun (i : Nat) => iAt (blk0 y.t.P y.t.H y.t.A y.t.C) i 1) y.t.n y.t.best y.t.fin (↑y.t.n : Int) == (5 : Int) && (↑(if x101 then y.t.n + 1 else 0) : Int) == Go.IntKind.i64.wrap ((↑y.t.n : Int) + (1 : Int)) && Decidable.decide (Go.IntKind.i64.wrap (y.t.H y.k.toNat + (1 : Int)) > y.t.H y.t.best.toNat)) = Bool.true; let x107 : Prop := (gr0E (fun (i : Nat) => iAt (blk0 y.t.P y.t.H y.t.A y.t.C) i 0) (fun (i : Nat) => iAt (blk0 y.t.P y.t.H y.t.A y.t.C) i 1) y.t.n y.t.best y.t.fin y.k == (0 : Int) && gr0E (fun (i : Nat) => iAt (blk0 y.t.P y.t.H y.t.A y.t.C) i 0) (fun (i : Nat) => iAt (blk0 y.t.P y.t.H y.t.A y.t.C) i 1) y.t.n y.t.best y.t.fin (↑y.t.n : Int) == (5 : Int) && (↑(if x101 then y.t.n + 1 else 0) : Int) == Go.IntKind.i64.wrap ((↑y.t.n : Int) + (1 : Int)) && !(Decidable.decide (Go.IntKind.i64.wrap (y.t.H y.k.toNat + (1 : Int)) > y.t.H y.t.best.toNat) && (if x101 then gwB (fun (i : Nat) => iAt (blk0 y.t.P y.t.H y.t.A y.t.C) i 0) (fun (i : Nat) => iAt (blk0 y.t.P y.t.H y.t.A y.t.C) i 1) y.t.n y.t.fin y.k else (0 : Int)) == (↑y.t.n : Int))) = Bool.true; let x108 : Prop := (gr0E (fun (i : Nat) => iAt (blk0 y.t.P y.t.H y.t.A y.t.C) i 0) (fun (i : Nat) => iAt (blk0 y.t.P y.t.H y.t.A y.t.C) i 1) y.t.n y.t.best y.t.fin y.k == (0 : Int) && gr0E (fun (i : Nat) => iAt (blk0 y.t.P y.t.H y.t.A y.t.C) i 0) (fun (i : Nat) => iAt (blk0 y.t.P y.t.H y.t.A y.t.C) i 1) y.t.n y.t.best y.t.fin (↑y.t.n : Int) == (5 : Int) && (↑(if x101 then y.t.n + 1 else 0) : Int) == Go.IntKind.i64.wrap ((↑y.t.n : Int) + (1 : Int)) && !(Decidable.decide (Go.IntKind.i64.wrap (y.t.H y.k.toNat + (1 : Int)) > y.t.H y.t.best.toNat) && (if x101 then gwB (fun (i : Nat) => iAt (blk0 y.t.P y.t.H y.t.A y.t.C) i 0) (fun (i : Nat) => iAt (blk0 y.t.P y.t.H y.t.A y.t.C) i 1) y.t.n y.t.fin y.k else (0 : Int)) == (↑y.t.n : Int)) && !Decidable.decide (Go.IntKind.i64.wrap (y.t.H y.k.toNat + (1 : Int)) > y.t.H y.t.best.toNat)) = Bool.true; y.t.ok ∧ y.t.n ≤ 30 ∧ (0 : Int) ≤ y.k ∧ y.k < (↑y.t.n : Int) ∧ (-1 : Int) ≤ y.on ∧ y.on < (↑y.t.n : Int) ∧ stO y.t.P y.on y.t.fin = stO y.t.P y.k y.t.fin → (Decidable.decide (y.on > y.t.fin) = Bool.true → ((0 : Int) ≤ y.on ∧ y.on < (↑y.t.n : Int)) ∧ ∃ (y' : LhX), (y'.t.ok ∧ y'.t.n ≤ 30 ∧ (0 : Int) ≤ y'.k ∧ y'.k < (↑y'.t.n : Int) ∧ (-1 : Int) ≤ y'.on ∧ y'.on < (↑y'.t.n : Int) ∧ stO y'.t.P y'.on y'.t.fin = stO y'.t.P y'.k y'.t.fin) ∧ y.k = y'.k ∧ y.t.P y.on.toNat = y'.on ∧ (y.t.a = y'.t.a ∧ y.t.n = y'.t.n ∧ y.t.cap = y'.t.cap ∧ ∀ (i : Nat), i < y.t.n → allC 3 fun (c : Nat) => simC (blk0 y.t.P y.t.H y.t.A y.t.C i c) (blk0 y'.t.P y'.t.H y'.t.A y'.t.C i c)) ∧ y.t.best = y'.t.best ∧ y.t.fin = y'.t.fin ∧ 0 = 0 ∧ (y'.on + (1 : Int)).toNat.succ.le (y.on + (1 : Int)).toNat) ∧ (Decidable.decide (y.on > y.t.fin) = Bool.false → n0P y.t.a y.t.n (blk0 y.t.P y.t.H y.t.A y.t.C) ∧ 0 = 0 ∧ y.t.n ≤ y.t.cap ∧ ∀ (_ : List Nat → Option Go.Addr × Nat), True → ∀ (a : Option Go.Addr) (cap : Nat), (a = Option.none → (if x101 then y.t.n + 1 else 0) = 0 ∧ cap = 0) → (if x101 then y.t.n + 1 else 0) ≤ cap → n0P y.t.a y.t.n (blk0 y.t.P y.t.H y.t.A y.t.C) ∧ 0 = 0 ∧ y.t.n ≤ y.t.cap ∧ ∀ (_ : List Nat → Option Go.Addr × Nat), True → ∀ (a : Option Go.Addr) (cap : Nat), (a = Option.none → (if gr0E (fun (i : Nat) => iAt (blk0 y.t.P y.t.H y.t.A y.t.C) i 0) (fun (i : Nat) => iAt (blk0 y.t.P y.t.H y.t.A y.t.C) i 1) y.t.n y.t.best y.t.fin (↑y.t.n : Int) = (0 : Int) then y.t.n + 1 else 0) = 0 ∧ cap = 0) → (if gr0E (fun (i : Nat) => iAt (blk0 y.t.P y.t.H y.t.A y.t.C) i 0) (fun (i : Nat) => iAt (blk0 y.t.P y.t.H y.t.A y.t.C) i 1) y.t.n y.t.best y.t.fin (↑y.t.n : Int) = (0 : Int) then y.t.n + 1 else 0) ≤ cap → ((y.on != y.t.fin) = Bool.true → (x102 → x102) ∧ (x102 → x102) ∧ (gr0E (fun (i : Nat) => iAt (blk0 y.t.P y.t.H y.t.A y.t.C) i 0) (fun (i : Nat) => iAt (blk0 y.t.P y.t.H y.t.A y.t.C) i 1) y.t.n y.t.best y.t.fin y.k == (15 : Int) && gr0E (fun (i : Nat) => iAt (blk0 y.t.P y.t.H y.t.A y.t.C) i 0) (fun (i : Nat) => iAt (blk0 y.t.P y.t.H y.t.A y.t.C) i 1) y.t.n y.t.best y.t.fin (↑y.t.n : Int) == (5 : Int)) = Bool.true) ∧ ((y.on != y.t.fin) = Bool.false → ((0 : Int) ≤ y.k ∧ y.k < (↑y.t.n : Int)) ∧ ((0 : Int) ≤ y.t.best ∧ y.t.best < (↑y.t.n : Int)) ∧ (x103 → x103) ∧ (x103 → x103) ∧ (x104 → x104) ∧ (x104 → x104) ∧ (x104 → x104) ∧ (x104 → x104) ∧ (x104 → x104) ∧ (x104 → x104) ∧ (x104 → x104) ∧ (x104 → x104) ∧ (x105 → x105) ∧ (x106 → x106) ∧ (x106 → x106) ∧ (x106 → x106) ∧ (x106 → x106) ∧ (x106 → x106) ∧ (x105 → x105) ∧ (x105 → Decidable.decide (Go.IntKind.i64.wrap (y.t.H y.k.toNat + (1 : Int)) > y.t.H y.t.best.toNat) = Bool.true → x106) ∧ (x105 → x105) ∧ (x107 → x107) ∧ (x107 → x107) ∧ (x108 → x108) ∧ (x108 → x108) ∧ (x108 → x108) ∧ (x108 → x108) ∧ (x107 → x107) ∧ (x107 → (!Decidable.decide (Go.IntKind.i64.wrap (y.t.H y.k.toNat + (1 : Int)) > y.t.H y.t.best.toNat)) = Bool.true → x108) ∧ (x105 → x105) ∧ (x105 → (Decidable.decide (Go.IntKind.i64.wrap (y.t.H y.k.toNat + (1 : Int)) > y.t.H y.t.best.toNat) && (if x101 then gwB (fun (i : Nat) => iAt (blk0 y.t.P y.t.H y.t.A y.t.C) i 0) (fun (i : Nat) => iAt (blk0 y.t.P y.t.H y.t.A y.t.C) i 1) y.t.n y.t.fin y.k else (0 : Int)) == (↑y.t.n : Int)) = Bool.false → x107) ∧ (x105 → x105) ∧ (gr0E (fun (i : Nat) => iAt (blk0 y.t.P y.t.H y.t.A y.t.C) i 0) (fun (i : Nat) => iAt (blk0 y.t.P y.t.H y.t.A y.t.C) i 1) y.t.n y.t.best y.t.fin y.k == (0 : Int) && gr0E (fun (i : Nat) => iAt (blk0 y.t.P y.t.H y.t.A y.t.C) i 0) (fun (i : Nat) => iAt (blk0 y.t.P y.t.H y.t.A y.t.C) i 1) y.t.n y.t.best y.t.fin (↑y.t.n : Int) == (5 : Int) && (↑(if x101 then y.t.n + 1 else 0) : Int) == Go.IntKind.i64.wrap ((↑y.t.n : Int) + (1 : Int)) && (Decidable.decide (Go.IntKind.i64.wrap (y.t.H y.k.toNat + (1 : Int)) > y.t.H y.t.best.toNat) && (if x101 then gwB (fun (i : Nat) => iAt (blk0 y.t.P y.t.H y.t.A y.t.C) i 0) (fun (i : Nat) => iAt (blk0 y.t.P y.t.H y.t.A y.t.C) i 1) y.t.n y.t.fin y.k else (0 : Int)) == (↑y.t.n : Int) || !Decidable.decide (Go.IntKind.i64.wrap (y.t.H y.k.toNat + (1 : Int)) > y.t.H y.t.best.toNat) && (if x101 then gwB (fun (i : Nat) => iAt (blk0 y.t.P y.t.H y.t.A y.t.C) i 0) (fun (i : Nat) => iAt (blk0 y.t.P y.t.H y.t.A y.t.C) i 1) y.t.n y.t.fin y.k else (0 : Int)) == y.t.best)) = Bool.true)))) := by kernel_rfl
theorem vc_FinalStays (a : Option Addr) (n cap : Nat) (K A B : Nat → Int) (s : Nat → ByteArray) (a2 : Option Addr) (n2 cap2 : Nat) (K2 A2 B2 : Nat → Int) (s2 : Nat → ByteArray) :
    OwesV Try.prog cxGn slLw [(4, .inv (invFs a2 n2 cap2 K2 A2 B2 s2)), (5, .split 9 0), (6, .cut (cutFs a2 n2 cap2 K2 A2 B2 s2) (fun y0 y => y.i = y0.i))] 2 Try.f3 [.sc (.xs a n cap 4 (rawF K A B s)), .sc (.xs a2 n2 cap2 4 (rawF K2 A2 B2 s2))] yes =
    (let x1 : Int := if (12 : Int) < (↑n2 : Int) then (12 : Int) else (↑n2 : Int); let x2 : Nat := x1.toNat; let x3 : Int := (↑(gnL n2 (12 : Int)) : Int); let x4 : Bool := (0 : Int) == (0 : Int); let x5 : Prop := x4 = Bool.true; rwP n (rawF K A B s) ∧ ((0 : Int) ≤ (20 : Int) ∧ (20 : Int) ≤ (30 : Int)) ∧ ∀ (ac : List Nat → Option Go.Addr × Nat), OkT (acP ac) (acH ac) (fun (_ : Nat) => 0) (acN ac) (acB ac) (acE ac) ∧ (↑(acN ac) : Int) ≤ (21 : Int) → ∀ (a : Option Go.Addr) (cap : Nat), (a = Option.none → acN ac = 0 ∧ cap = 0) → acN ac ≤ cap → tfP a (acN ac) (blk0 (acP ac) (acH ac) (acA ac) (acC ac)) ∧ ∀ (a_3 : Option Go.Addr) (cap_1 : Nat), (a_3 = Option.none → loN (fun (i : Nat) => iAt (blk0 (acP ac) (acH ac) (acA ac) (acC ac)) i 0) (fun (i : Nat) => iAt (blk0 (acP ac) (acH ac) (acA ac) (acC ac)) i 1) (fun (i : Nat) => nAt (blk0 (acP ac) (acH ac) (acA ac) (acC ac) i 2)) (acN ac) (acB ac) (acE ac) Bool.true = 0 ∧ cap_1 = 0) → loN (fun (i : Nat) => iAt (blk0 (acP ac) (acH ac) (acA ac) (acC ac)) i 0) (fun (i : Nat) => iAt (blk0 (acP ac) (acH ac) (acA ac) (acC ac)) i 1) (fun (i : Nat) => nAt (blk0 (acP ac) (acH ac) (acA ac) (acC ac) i 2)) (acN ac) (acB ac) (acE ac) Bool.true ≤ cap_1 → ((0 : Int) ≤ x1 ∧ x1 ≤ (↑n2 : Int)) ∧ (∀ (y : FsX), closedB (slotsAt 98 (fsT a2 n2 cap2 K2 A2 B2 s2 y)) [y.t.o] = Bool.true) ∧ ∃ (y : FsX), (y.i ≤ gnL n2 (12 : Int) ∧ y.t.ok ∧ 0 < y.W ∧ y.W ≤ lnN y.t.P y.t.fin ∧ ∀ (k : Nat), k < y.W → y.G k = (lineT y.t.P y.t.fin).getD k (0 : Int)) ∧ (a_3 = y.wa ∧ loN (fun (i : Nat) => iAt (blk0 (acP ac) (acH ac) (acA ac) (acC ac)) i 0) (fun (i : Nat) => iAt (blk0 (acP ac) (acH ac) (acA ac) (acC ac)) i 1) (fun (i : Nat) => nAt (blk0 (acP ac) (acH ac) (acA ac) (acC ac) i 2)) (acN ac) (acB ac) (acE ac) Bool.true = y.W ∧ cap_1 = y.wc ∧ ∀ (i : Nat), i < loN (fun (i : Nat) => iAt (blk0 (acP ac) (acH ac) (acA ac) (acC ac)) i 0) (fun (i : Nat) => iAt (blk0 (acP ac) (acH ac) (acA ac) (acC ac)) i 1) (fun (i : Nat) => nAt (blk0 (acP ac) (acH ac) (acA ac) (acC ac) i 2)) (acN ac) (acB ac) (acE ac) Bool.true → allC 1 fun (_ : Nat) => simC (SC.val (Go.Value.int Go.IntKind.i64 (loG (fun (i : Nat) => iAt (blk0 (acP ac) (acH ac) (acA ac) (acC ac)) i 0) (acB ac) (acE ac) Bool.true i))) (SC.val (Go.Value.int Go.IntKind.i64 (y.G i)))) ∧ trE (fun (i : Nat) => iAt (blk0 (acP ac) (acH ac) (acA ac) (acC ac)) i 0) (fun (i : Nat) => iAt (blk0 (acP ac) (acH ac) (acA ac) (acC ac)) i 1) (fun (i : Nat) => nAt (blk0 (acP ac) (acH ac) (acA ac) (acC ac) i 2)) (acN ac) (acB ac) (acE ac) = (0 : Int) ∧ (a2 = a2 ∧ x2 = gnL n2 (12 : Int) ∧ cap2 = cap2 ∧ ∀ (i : Nat), i < x2 → allC 4 fun (c : Nat) => simC (rawF K2 A2 B2 s2 i c) (rawF K2 A2 B2 s2 i c)) ∧ (↑x2 : Int) = x3 ∧ (0 : Int) = (↑y.i : Int) ∧ (a = y.t.a ∧ acN ac = y.t.n ∧ cap = y.t.cap ∧ ∀ (i : Nat), i < acN ac → allC 3 fun (c : Nat) => simC (blk0 (acP ac) (acH ac) (acA ac) (acC ac) i c) (blk0 y.t.P y.t.H y.t.A y.t.C i c)) ∧ acB ac = y.t.best ∧ acE ac = y.t.fin ∧ 0 = 0 ∧ ∀ (y : FsX), let x101 : Prop := gr0E (fun (i : Nat) => iAt (blk0 y.t.P y.t.H y.t.A y.t.C) i 0) (fun (i : Nat) => iAt (blk0 y.t.P y.t.H y.t.A y.t.C) i 1) y.t.n y.t.best y.t.fin (A2 (↑y.i : Int).toNat % if (1 : Int) > (↑y.t.n : Int) then (1 : Int) else (↑y.t.n : Int)) = (0 : Int); let x102 : Prop := (x4 && trE (fun (i : Nat) => iAt (blk0 y.t.P y.t.H y.t.A y.t.C) i 0) (fun (i : Nat) => iAt (blk0 y.t.P y.t.H y.t.A y.t.C) i 1) (fun (i : Nat) => nAt (blk0 y.t.P y.t.H y.t.A y.t.C i 2)) y.t.n y.t.best y.t.fin == (0 : Int)) = Bool.true; let x103 : Prop := (x4 && trE (fun (i : Nat) => iAt (blk0 y.t.P y.t.H y.t.A y.t.C) i 0) (fun (i : Nat) => iAt (blk0 y.t.P y.t.H y.t.A y.t.C) i 1) (fun (i : Nat) => nAt (blk0 y.t.P y.t.H y.t.A y.t.C i 2)) y.t.n y.t.best y.t.fin == (0 : Int) && trE (fun (i : Nat) => iAt (blk0 y.t.P y.t.H y.t.A y.t.C) i 0) (fun (i : Nat) => iAt (blk0 y.t.P y.t.H y.t.A y.t.C) i 1) (fun (i : Nat) => nAt (blk0 y.t.P y.t.H y.t.A y.t.C i 2)) y.t.n y.t.best y.t.fin == (0 : Int)) = Bool.true; let x104 : Prop := (x4 && trE (fun (i : Nat) => iAt (blk0 y.t.P y.t.H y.t.A y.t.C) i 0) (fun (i : Nat) => iAt (blk0 y.t.P y.t.H y.t.A y.t.C) i 1) (fun (i : Nat) => nAt (blk0 y.t.P y.t.H y.t.A y.t.C i 2)) y.t.n y.t.best y.t.fin == (0 : Int) && trE (fun (i : Nat) => iAt (blk0 y.t.P y.t.H y.t.A y.t.C) i 0) (fun (i : Nat) => iAt (blk0 y.t.P y.t.H y.t.A y.t.C) i 1) (fun (i : Nat) => nAt (blk0 y.t.P y.t.H y.t.A y.t.C i 2)) y.t.n y.t.best y.t.fin == (0 : Int) && Decidable.decide ((↑y.W : Int) > (0 : Int))) = Bool.true; let x105 : Prop := (trE (fun (i : Nat) => iAt (blk0 y.t.P y.t.H y.t.A y.t.C) i 0) (fun (i : Nat) => iAt (blk0 y.t.P y.t.H y.t.A y.t.C) i 1) (fun (i : Nat) => nAt (blk0 y.t.P y.t.H y.t.A y.t.C i 2)) y.t.n y.t.best y.t.fin == (0 : Int)) = Bool.true; (y.i ≤ gnL n2 (12 : Int) ∧ y.t.ok ∧ 0 < y.W ∧ y.W ≤ lnN y.t.P y.t.fin ∧ ∀ (k : Nat), k < y.W → y.G k = (lineT y.t.P y.t.fin).getD k (0 : Int)) → (Decidable.decide ((↑y.i : Int) < x3) = Bool.true → ((0 : Int) ≤ (↑y.i : Int) ∧ (↑y.i : Int) < x3) ∧ ∀ (a : Go.Addr), (∀ (y : FsX), closedB (slotsAt 98 ((9, SV.one (SA.sc (SC.px y.r 4 (rawS K2 A2 B2 s2 y.i)))) :: (10, SV.one (SA.sc (SC.ptr 14 0))) :: (11, SV.one (sI Go.IntKind.i64 y.e)) :: fsT a2 n2 cap2 K2 A2 B2 s2 y)) (obsAt 17 [(0, y.t.o), (14, y.u.o)]) = Bool.true) ∧ ∃ (y0 : FsX), let x106 : Prop := n0P y.t.a y.t.n (blk0 y.t.P y.t.H y.t.A y.t.C) ∧ 0 = 0 ∧ y.t.n ≤ y.t.cap ∧ ∀ (ac : List Nat → Option Go.Addr × Nat), True → ∀ (a_7 : Option Go.Addr) (cap : Nat), (a_7 = Option.none → (if x101 then y.t.n + 1 else 0) = 0 ∧ cap = 0) → (if x101 then y.t.n + 1 else 0) ≤ cap → ∃ (y_1 : FsX), ((y_1.i < gnL n2 (12 : Int) ∧ (y_1.t.ok ∧ 0 < y_1.W ∧ y_1.W ≤ lnN y_1.t.P y_1.t.fin ∧ ∀ (k : Nat), k < y_1.W → y_1.G k = (lineT y_1.t.P y_1.t.fin).getD k (0 : Int)) ∧ (y_1.e = (0 : Int) → y_1.u.ok ∧ 0 < y_1.W ∧ y_1.W ≤ lnN y_1.u.P y_1.u.fin ∧ ∀ (k : Nat), k < y_1.W → y_1.G k = (lineT y_1.u.P y_1.u.fin).getD k (0 : Int))) ∧ y_1.i = y0.i) ∧ (y.wa = y_1.wa ∧ y.W = y_1.W ∧ y.wc = y_1.wc ∧ ∀ (i : Nat), i < y.W → allC 1 fun (_ : Nat) => simC (SC.val (Go.Value.int Go.IntKind.i64 (y.G i))) (SC.val (Go.Value.int Go.IntKind.i64 (y_1.G i)))) ∧ (0 : Int) = (0 : Int) ∧ (a = y_1.r ∧ simC ((flat ([] ++ toKs (SA.agg (grpK (rawF K2 A2 B2 s2 (↑y.i : Int).toNat) 0 (segT Try.prog 8 33))) ++ [])).getD 0 (SC.bit Bool.false)) (rawS K2 A2 B2 s2 y_1.i 0) ∧ simC ((flat ([] ++ toKs (SA.agg (grpK (rawF K2 A2 B2 s2 (↑y.i : Int).toNat) 0 (segT Try.prog 8 33))) ++ [])).getD 1 (SC.bit Bool.false)) (rawS K2 A2 B2 s2 y_1.i 1) ∧ simC ((flat ([] ++ toKs (SA.agg (grpK (rawF K2 A2 B2 s2 (↑y.i : Int).toNat) 0 (segT Try.prog 8 33))) ++ [])).getD 2 (SC.bit Bool.false)) (rawS K2 A2 B2 s2 y_1.i 2) ∧ s2 (↑y.i : Int).toNat = s2 y_1.i) ∧ gr0E (fun (i : Nat) => iAt (blk0 y.t.P y.t.H y.t.A y.t.C) i 0) (fun (i : Nat) => iAt (blk0 y.t.P y.t.H y.t.A y.t.C) i 1) y.t.n y.t.best y.t.fin (A2 (↑y.i : Int).toNat % if (1 : Int) > (↑y.t.n : Int) then (1 : Int) else (↑y.t.n : Int)) = y_1.e ∧ simC (SC.xs a2 (gnL n2 (12 : Int)) cap2 4 (rawF K2 A2 B2 s2)) (SC.xs a2 (gnL n2 (12 : Int)) cap2 4 (rawF K2 A2 B2 s2)) ∧ x3 = x3 ∧ (↑y.i : Int) = (↑y_1.i : Int) ∧ (y.t.a = y_1.t.a ∧ y.t.n = y_1.t.n ∧ y.t.cap = y_1.t.cap ∧ ∀ (i : Nat), i < y.t.n → allC 3 fun (c : Nat) => simC (blk0 y.t.P y.t.H y.t.A y.t.C i c) (blk0 y_1.t.P y_1.t.H y_1.t.A y_1.t.C i c)) ∧ y.t.best = y_1.t.best ∧ y.t.fin = y_1.t.fin ∧ 0 = 0 ∧ (a_7 = y_1.u.a ∧ (if x101 then y.t.n + 1 else 0) = y_1.u.n ∧ cap = y_1.u.cap ∧ ∀ (i : Nat), (i < if x101 then y.t.n + 1 else 0) → allC 3 fun (c : Nat) => simC (owF (gwP (fun (i : Nat) => iAt (blk0 y.t.P y.t.H y.t.A y.t.C) i 0) y.t.n (A2 (↑y.i : Int).toNat % if (1 : Int) > (↑y.t.n : Int) then (1 : Int) else (↑y.t.n : Int))) (gwH (fun (i : Nat) => iAt (blk0 y.t.P y.t.H y.t.A y.t.C) i 1) y.t.n (A2 (↑y.i : Int).toNat % if (1 : Int) > (↑y.t.n : Int) then (1 : Int) else (↑y.t.n : Int))) ac i c) (blk0 y_1.u.P y_1.u.H y_1.u.A y_1.u.C i c)) ∧ (if x101 then gwB (fun (i : Nat) => iAt (blk0 y.t.P y.t.H y.t.A y.t.C) i 0) (fun (i : Nat) => iAt (blk0 y.t.P y.t.H y.t.A y.t.C) i 1) y.t.n y.t.fin (A2 (↑y.i : Int).toNat % if (1 : Int) > (↑y.t.n : Int) then (1 : Int) else (↑y.t.n : Int)) else (0 : Int)) = y_1.u.best ∧ (if x101 then y.t.fin else (0 : Int)) = y_1.u.fin ∧ 0 = 0 ∧ True; let x107 : Prop := x106 ∧ x106; let x108 : Prop := ((-9223372036854775808 : Int) ≤ A2 (↑y.i : Int).toNat ∧ A2 (↑y.i : Int).toNat ≤ (9223372036854775807 : Int)) ∧ (((0 : Int) < if (1 : Int) > (↑y.t.n : Int) then (1 : Int) else (↑y.t.n : Int)) ∧ (if (1 : Int) > (↑y.t.n : Int) then (1 : Int) else (↑y.t.n : Int)) ≤ (1099511627776 : Int)) ∧ x106; let x109 : Prop := x108 ∧ x108; let x110 : Prop := x108 ∧ x109; let x111 : Prop := x108 ∧ x110; (∀ (y_1 : FsX), let x112 : Prop := se0E (fun (i : Nat) => iAt (blk0 y_1.t.P y_1.t.H y_1.t.A y_1.t.C) i 0) (fun (i : Nat) => iAt (blk0 y_1.t.P y_1.t.H y_1.t.A y_1.t.C) i 1) y_1.t.n y_1.t.best y_1.t.fin (B2 y_1.i % (9 : Int)) = (0 : Int); let x113 : Prop := ∃ (y' : FsX), (y'.i ≤ gnL n2 (12 : Int) ∧ y'.t.ok ∧ 0 < y'.W ∧ y'.W ≤ lnN y'.t.P y'.t.fin ∧ ∀ (k : Nat), k < y'.W → y'.G k = (lineT y'.t.P y'.t.fin).getD k (0 : Int)) ∧ (y_1.wa = y'.wa ∧ y_1.W = y'.W ∧ y_1.wc = y'.wc ∧ ∀ (i : Nat), i < y_1.W → allC 1 fun (_ : Nat) => simC (SC.val (Go.Value.int Go.IntKind.i64 (y_1.G i))) (SC.val (Go.Value.int Go.IntKind.i64 (y'.G i)))) ∧ (0 : Int) = (0 : Int) ∧ simC (SC.xs a2 (gnL n2 (12 : Int)) cap2 4 (rawF K2 A2 B2 s2)) (SC.xs a2 (gnL n2 (12 : Int)) cap2 4 (rawF K2 A2 B2 s2)) ∧ x3 = x3 ∧ Go.IntKind.i64.wrap ((↑y_1.i : Int) + (1 : Int)) = (↑y'.i : Int) ∧ (y_1.t.a = y'.t.a ∧ y_1.t.n = y'.t.n ∧ y_1.t.cap = y'.t.cap ∧ ∀ (i : Nat), i < y_1.t.n → allC 3 fun (c : Nat) => simC (blk0 y_1.t.P y_1.t.H y_1.t.A y_1.t.C i c) (blk0 y'.t.P y'.t.H y'.t.A y'.t.C i c)) ∧ y_1.t.best = y'.t.best ∧ y_1.t.fin = y'.t.fin ∧ 0 = 0 ∧ (gnL n2 (12 : Int) - y'.i).succ.le (gnL n2 (12 : Int) - y.i); y_1.i < gnL n2 (12 : Int) ∧ (y_1.t.ok ∧ 0 < y_1.W ∧ y_1.W ≤ lnN y_1.t.P y_1.t.fin ∧ ∀ (k : Nat), k < y_1.W → y_1.G k = (lineT y_1.t.P y_1.t.fin).getD k (0 : Int)) ∧ (y_1.e = (0 : Int) → y_1.u.ok ∧ 0 < y_1.W ∧ y_1.W ≤ lnN y_1.u.P y_1.u.fin ∧ ∀ (k : Nat), k < y_1.W → y_1.G k = (lineT y_1.u.P y_1.u.fin).getD k (0 : Int)) → y_1.i = y0.i → ((-9223372036854775808 : Int) ≤ K2 y_1.i ∧ K2 y_1.i ≤ (9223372036854775807 : Int)) ∧ ((0 : Int) < (3 : Int) ∧ (3 : Int) ≤ (1099511627776 : Int)) ∧ ((K2 y_1.i % (3 : Int) == (0 : Int)) = Bool.true → ((-9223372036854775808 : Int) ≤ B2 y_1.i ∧ B2 y_1.i ≤ (9223372036854775807 : Int)) ∧ ((0 : Int) < (9 : Int) ∧ (9 : Int) ≤ (1099511627776 : Int)) ∧ n0P y_1.t.a y_1.t.n (blk0 y_1.t.P y_1.t.H y_1.t.A y_1.t.C) ∧ ∀ (ac : List Nat → Option Go.Addr × Nat), True → ∀ (a : Option Go.Addr) (cap : Nat), (a = Option.none → (if x112 then y_1.t.n else 0) = 0 ∧ cap = 0) → (if x112 then y_1.t.n else 0) ≤ cap → ((se0E (fun (i : Nat) => iAt (blk0 y_1.t.P y_1.t.H y_1.t.A y_1.t.C) i 0) (fun (i : Nat) => iAt (blk0 y_1.t.P y_1.t.H y_1.t.A y_1.t.C) i 1) y_1.t.n y_1.t.best y_1.t.fin (B2 y_1.i % (9 : Int)) == (0 : Int)) = Bool.true → ∃ (y' : FsX), (y'.i ≤ gnL n2 (12 : Int) ∧ y'.t.ok ∧ 0 < y'.W ∧ y'.W ≤ lnN y'.t.P y'.t.fin ∧ ∀ (k : Nat), k < y'.W → y'.G k = (lineT y'.t.P y'.t.fin).getD k (0 : Int)) ∧ (y_1.wa = y'.wa ∧ y_1.W = y'.W ∧ y_1.wc = y'.wc ∧ ∀ (i : Nat), i < y_1.W → allC 1 fun (_ : Nat) => simC (SC.val (Go.Value.int Go.IntKind.i64 (y_1.G i))) (SC.val (Go.Value.int Go.IntKind.i64 (y'.G i)))) ∧ (0 : Int) = (0 : Int) ∧ simC (SC.xs a2 (gnL n2 (12 : Int)) cap2 4 (rawF K2 A2 B2 s2)) (SC.xs a2 (gnL n2 (12 : Int)) cap2 4 (rawF K2 A2 B2 s2)) ∧ x3 = x3 ∧ Go.IntKind.i64.wrap ((↑y_1.i : Int) + (1 : Int)) = (↑y'.i : Int) ∧ (a = y'.t.a ∧ (if x112 then y_1.t.n else 0) = y'.t.n ∧ cap = y'.t.cap ∧ ∀ (i : Nat), (i < if x112 then y_1.t.n else 0) → allC 3 fun (c : Nat) => simC (owF (fun (i : Nat) => iAt (blk0 y_1.t.P y_1.t.H y_1.t.A y_1.t.C) i 0) (fun (i : Nat) => iAt (blk0 y_1.t.P y_1.t.H y_1.t.A y_1.t.C) i 1) ac i c) (blk0 y'.t.P y'.t.H y'.t.A y'.t.C i c)) ∧ (if x112 then y_1.t.best else (0 : Int)) = y'.t.best ∧ (if x112 then seF (fun (i : Nat) => iAt (blk0 y_1.t.P y_1.t.H y_1.t.A y_1.t.C) i 0) y_1.t.best (B2 y_1.i % (9 : Int)) else (0 : Int)) = y'.t.fin ∧ 0 = 0 ∧ (gnL n2 (12 : Int) - y'.i).succ.le (gnL n2 (12 : Int) - y.i)) ∧ ((se0E (fun (i : Nat) => iAt (blk0 y_1.t.P y_1.t.H y_1.t.A y_1.t.C) i 0) (fun (i : Nat) => iAt (blk0 y_1.t.P y_1.t.H y_1.t.A y_1.t.C) i 1) y_1.t.n y_1.t.best y_1.t.fin (B2 y_1.i % (9 : Int)) == (0 : Int)) = Bool.false → x113)) ∧ ((K2 y_1.i % (3 : Int) == (0 : Int)) = Bool.false → ((y_1.e == (0 : Int)) = Bool.true → ∃ (y' : FsX), (y'.i ≤ gnL n2 (12 : Int) ∧ y'.t.ok ∧ 0 < y'.W ∧ y'.W ≤ lnN y'.t.P y'.t.fin ∧ ∀ (k : Nat), k < y'.W → y'.G k = (lineT y'.t.P y'.t.fin).getD k (0 : Int)) ∧ (y_1.wa = y'.wa ∧ y_1.W = y'.W ∧ y_1.wc = y'.wc ∧ ∀ (i : Nat), i < y_1.W → allC 1 fun (_ : Nat) => simC (SC.val (Go.Value.int Go.IntKind.i64 (y_1.G i))) (SC.val (Go.Value.int Go.IntKind.i64 (y'.G i)))) ∧ (0 : Int) = (0 : Int) ∧ simC (SC.xs a2 (gnL n2 (12 : Int)) cap2 4 (rawF K2 A2 B2 s2)) (SC.xs a2 (gnL n2 (12 : Int)) cap2 4 (rawF K2 A2 B2 s2)) ∧ x3 = x3 ∧ Go.IntKind.i64.wrap ((↑y_1.i : Int) + (1 : Int)) = (↑y'.i : Int) ∧ (y_1.u.a = y'.t.a ∧ y_1.u.n = y'.t.n ∧ y_1.u.cap = y'.t.cap ∧ ∀ (i : Nat), i < y_1.u.n → allC 3 fun (c : Nat) => simC (blk0 y_1.u.P y_1.u.H y_1.u.A y_1.u.C i c) (blk0 y'.t.P y'.t.H y'.t.A y'.t.C i c)) ∧ y_1.u.best = y'.t.best ∧ y_1.u.fin = y'.t.fin ∧ 0 = 0 ∧ (gnL n2 (12 : Int) - y'.i).succ.le (gnL n2 (12 : Int) - y.i)) ∧ ((y_1.e == (0 : Int)) = Bool.false → x113))) ∧ (((((((-9223372036854775808 : Int) ≤ A2 (↑y.i : Int).toNat ∧ A2 (↑y.i : Int).toNat ≤ (9223372036854775807 : Int)) ∧ (((0 : Int) < if (1 : Int) > (↑y.t.n : Int) then (1 : Int) else (↑y.t.n : Int)) ∧ (if (1 : Int) > (↑y.t.n : Int) then (1 : Int) else (↑y.t.n : Int)) ≤ (1099511627776 : Int)) ∧ x107) ∧ x108) ∧ x108) ∧ x108) ∧ x108) ∧ (((((((-9223372036854775808 : Int) ≤ A2 (↑y.i : Int).toNat ∧ A2 (↑y.i : Int).toNat ≤ (9223372036854775807 : Int)) ∧ (((0 : Int) < if (1 : Int) > (↑y.t.n : Int) then (1 : Int) else (↑y.t.n : Int)) ∧ (if (1 : Int) > (↑y.t.n : Int) then (1 : Int) else (↑y.t.n : Int)) ≤ (1099511627776 : Int)) ∧ x107) ∧ x108) ∧ x108) ∧ x108) ∧ ((((((-9223372036854775808 : Int) ≤ A2 (↑y.i : Int).toNat ∧ A2 (↑y.i : Int).toNat ≤ (9223372036854775807 : Int)) ∧ (((0 : Int) < if (1 : Int) > (↑y.t.n : Int) then (1 : Int) else (↑y.t.n : Int)) ∧ (if (1 : Int) > (↑y.t.n : Int) then (1 : Int) else (↑y.t.n : Int)) ≤ (1099511627776 : Int)) ∧ x107) ∧ x108) ∧ x108) ∧ (((((-9223372036854775808 : Int) ≤ A2 (↑y.i : Int).toNat ∧ A2 (↑y.i : Int).toNat ≤ (9223372036854775807 : Int)) ∧ (((0 : Int) < if (1 : Int) > (↑y.t.n : Int) then (1 : Int) else (↑y.t.n : Int)) ∧ (if (1 : Int) > (↑y.t.n : Int) then (1 : Int) else (↑y.t.n : Int)) ≤ (1099511627776 : Int)) ∧ x107) ∧ x108) ∧ (((-9223372036854775808 : Int) ≤ A2 (↑y.i : Int).toNat ∧ A2 (↑y.i : Int).toNat ≤ (9223372036854775807 : Int)) ∧ (((0 : Int) < if (1 : Int) > (↑y.t.n : Int) then (1 : Int) else (↑y.t.n : Int)) ∧ (if (1 : Int) > (↑y.t.n : Int) then (1 : Int) else (↑y.t.n : Int)) ≤ (1099511627776 : Int)) ∧ x107 ∧ x106) ∧ x109) ∧ x110) ∧ x111) ∧ x108 ∧ x111) ∧ (Decidable.decide ((↑y.i : Int) < x3) = Bool.false → tfP y.t.a y.t.n (blk0 y.t.P y.t.H y.t.A y.t.C) ∧ ∀ (a : Option Go.Addr) (cap : Nat), (a = Option.none → loN (fun (i : Nat) => iAt (blk0 y.t.P y.t.H y.t.A y.t.C) i 0) (fun (i : Nat) => iAt (blk0 y.t.P y.t.H y.t.A y.t.C) i 1) (fun (i : Nat) => nAt (blk0 y.t.P y.t.H y.t.A y.t.C i 2)) y.t.n y.t.best y.t.fin Bool.true = 0 ∧ cap = 0) → loN (fun (i : Nat) => iAt (blk0 y.t.P y.t.H y.t.A y.t.C) i 0) (fun (i : Nat) => iAt (blk0 y.t.P y.t.H y.t.A y.t.C) i 1) (fun (i : Nat) => nAt (blk0 y.t.P y.t.H y.t.A y.t.C i 2)) y.t.n y.t.best y.t.fin Bool.true ≤ cap → tfP y.t.a y.t.n (blk0 y.t.P y.t.H y.t.A y.t.C) ∧ ∀ (a : Option Go.Addr) (cap : Nat), (a = Option.none → loN (fun (i : Nat) => iAt (blk0 y.t.P y.t.H y.t.A y.t.C) i 0) (fun (i : Nat) => iAt (blk0 y.t.P y.t.H y.t.A y.t.C) i 1) (fun (i : Nat) => nAt (blk0 y.t.P y.t.H y.t.A y.t.C i 2)) y.t.n y.t.best y.t.fin Bool.false = 0 ∧ cap = 0) → loN (fun (i : Nat) => iAt (blk0 y.t.P y.t.H y.t.A y.t.C) i 0) (fun (i : Nat) => iAt (blk0 y.t.P y.t.H y.t.A y.t.C) i 1) (fun (i : Nat) => nAt (blk0 y.t.P y.t.H y.t.A y.t.C i 2)) y.t.n y.t.best y.t.fin Bool.false ≤ cap → (x5 → x5) ∧ (x5 → x5) ∧ (x102 → x102) ∧ (x102 → x102) ∧ (x103 → x103) ∧ (x103 → x103) ∧ (x103 → x103) ∧ (x104 → x104 ∧ tfP y.t.a y.t.n (blk0 y.t.P y.t.H y.t.A y.t.C) ∧ (x105 → x105 ∧ x105 ∧ (bnP y.W (fun (i _ : Nat) => SC.val (Go.Value.int Go.IntKind.i64 (y.G i))) (loN (fun (i : Nat) => iAt (blk0 y.t.P y.t.H y.t.A y.t.C) i 0) (fun (i : Nat) => iAt (blk0 y.t.P y.t.H y.t.A y.t.C) i 1) (fun (i : Nat) => nAt (blk0 y.t.P y.t.H y.t.A y.t.C i 2)) y.t.n y.t.best y.t.fin Bool.true) fun (i _ : Nat) => SC.val (Go.Value.int Go.IntKind.i64 (loG (fun (i : Nat) => iAt (blk0 y.t.P y.t.H y.t.A y.t.C) i 0) y.t.best y.t.fin Bool.true i))) ∧ (Bool.true = Bool.true → Bool.true = Bool.true ∧ Bool.true = Bool.true ∧ (bnP (loN (fun (i : Nat) => iAt (blk0 y.t.P y.t.H y.t.A y.t.C) i 0) (fun (i : Nat) => iAt (blk0 y.t.P y.t.H y.t.A y.t.C) i 1) (fun (i : Nat) => nAt (blk0 y.t.P y.t.H y.t.A y.t.C i 2)) y.t.n y.t.best y.t.fin Bool.true) (fun (i _ : Nat) => SC.val (Go.Value.int Go.IntKind.i64 (loG (fun (i : Nat) => iAt (blk0 y.t.P y.t.H y.t.A y.t.C) i 0) y.t.best y.t.fin Bool.true i))) (loN (fun (i : Nat) => iAt (blk0 y.t.P y.t.H y.t.A y.t.C) i 0) (fun (i : Nat) => iAt (blk0 y.t.P y.t.H y.t.A y.t.C) i 1) (fun (i : Nat) => nAt (blk0 y.t.P y.t.H y.t.A y.t.C i 2)) y.t.n y.t.best y.t.fin Bool.false) fun (i _ : Nat) => SC.val (Go.Value.int Go.IntKind.i64 (loG (fun (i : Nat) => iAt (blk0 y.t.P y.t.H y.t.A y.t.C) i 0) y.t.best y.t.fin Bool.false i))) ∧ Bool.true = Bool.true) ∧ (Bool.true = Bool.false → Bool.false = Bool.true)) ∧ ((trE (fun (i : Nat) => iAt (blk0 y.t.P y.t.H y.t.A y.t.C) i 0) (fun (i : Nat) => iAt (blk0 y.t.P y.t.H y.t.A y.t.C) i 1) (fun (i : Nat) => nAt (blk0 y.t.P y.t.H y.t.A y.t.C i 2)) y.t.n y.t.best y.t.fin == (0 : Int)) = Bool.false → Bool.false = Bool.true)) ∧ ((x4 && trE (fun (i : Nat) => iAt (blk0 y.t.P y.t.H y.t.A y.t.C) i 0) (fun (i : Nat) => iAt (blk0 y.t.P y.t.H y.t.A y.t.C) i 1) (fun (i : Nat) => nAt (blk0 y.t.P y.t.H y.t.A y.t.C i 2)) y.t.n y.t.best y.t.fin == (0 : Int) && trE (fun (i : Nat) => iAt (blk0 y.t.P y.t.H y.t.A y.t.C) i 0) (fun (i : Nat) => iAt (blk0 y.t.P y.t.H y.t.A y.t.C) i 1) (fun (i : Nat) => nAt (blk0 y.t.P y.t.H y.t.A y.t.C i 2)) y.t.n y.t.best y.t.fin == (0 : Int) && Decidable.decide ((↑y.W : Int) > (0 : Int))) = Bool.false → Bool.false = Bool.true))) := by kernel_rfl
end Go.Proofs.Ytkggabbcigeieaa
end
