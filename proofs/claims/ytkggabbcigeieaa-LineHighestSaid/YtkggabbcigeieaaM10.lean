/-
  Texts: Sx17, TexN, Okx, V200, P320, V201, P321, V202, P322, V203, P323, V208, P328, V210.
-/
import Derived.Test.YtkggabbcigeieaaM1
import Derived.Test.YtkggabbcigeieaaM2
import Derived.Test.YtkggabbcigeieaaM3
import Derived.Test.YtkggabbcigeieaaM4
import Derived.Test.YtkggabbcigeieaaM5
import Derived.Test.YtkggabbcigeieaaM6
import Derived.Test.YtkggabbcigeieaaM7
import Derived.Test.YtkggabbcigeieaaM8
import Derived.Test.YtkggabbcigeieaaM9
import Derived.Test.YtkggabbcigeieaaChecked
section
namespace Go.Sx
open Go.RowKit
structure NSpec where
  e : TypeId
  wd : Nat
  of : List SA → Option (List Prop × Nat × (Nat → Nat → SC) × List SA)
inductive NewN (e : TypeId) (wd n : Nat) (g : Nat → Nat → SC) : SC → List SO → Prop
  | none (h : n = 0) : NewN e wd n g (.val (.slice none 0 0)) []
  | own (cap sp : Nat) (h : 0 < n) (hc : capOK wd n cap sp) : NewN e wd n g (.slw 0 wd 0 n cap) [.row e wd n g sp]
def FnOKn (P : Program) (gl : Globs) (f : Nat) (s : NSpec) : Prop :=
  ∀ args ps n' g' vs, s.of args = some (ps, n', g', vs) → Ok ps → (∀ v ∈ vs, v.bnd none0) ∧ closedG n' s.wd g' ∧ ∀ (Z : World) (ρ : Rho) (w : World), Below Z.heap.size Z w → Mem Z.heap.size ρ [] w → GlobsOK gl ρ.fz →
    (∀ x ∈ args, x.bnd ⟨fun _ => False, ρ.fz⟩) → ∀ keep : Nat → Obj → Prop, Keeps keep ρ [] w →
    (callFunc f (args.map (SA.conc ρ)).toArray).run P w = .ok (.enter f (args.map (SA.conc ρ)).toArray) w ∧
      Calls P f (args.map (SA.conc ρ)).toArray w fun r w' => ∃ (ρ' : Rho) (x : SC) (obn : List SO), NewN s.e s.wd n' g' x obn ∧ r = .returned (valL (x.conc ρ' :: vs.map (SA.conc Rho.nil))) ∧ Below Z.heap.size Z w' ∧
        Mem Z.heap.size ρ' obn w' ∧ (∀ b o u, ρ.fz b o u → ρ'.fz b o u) ∧ Keeps keep ρ' obn w'
def getN : List (Nat × NSpec) → Nat → Option NSpec
  | [], _ => none
  | (g, s) :: r, f => match Nat.beq g f with
    | true => some s
    | false => getN r f
theorem getN_ok {P : Program} {gl : Globs} : ∀ {l : List (Nat × NSpec)} {f : Nat} {s : NSpec}, (∀ p ∈ l, FnOKn P gl p.1 p.2) → getN l f = some s → FnOKn P gl f s
  | [], _, _, _, h => by simp [getN] at h
  | (g, s') :: r, f, s, hc, h => by
    simp only [getN] at h
    split at h
    · rename_i e
      have e := Nat.eq_of_beq_eq_true e
      simp only [Option.some.injEq] at h
      subst h
      subst e
      exact hc (g, s') (by simp)
    · exact getN_ok (fun p hp => hc p (by simp [hp])) h
def inlN (nl : List (Nat × NSpec)) (inner : Inl) : Inl := fun f args ob k =>
  match getN nl f with
  | none => inner f args ob k
  | some s => match args.all (SA.bndB fun _ => false) with
    | true => match s.of args with
      | some (ps, n, g, vs) => ands ps ((n = 0 → k (resV (.sc (.val (.slice none 0 0)) :: vs)) ob) ∧ (0 < n → ∀ c : Nat, n + c ≤ maxLen → k (resV (.sc (.slw ob.length s.wd 0 n (n + c)) :: vs)) (ob ++ [.row s.e s.wd n g (c * s.wd)])))
      | none => StuckAt "card"
    | false => StuckAt "taken"
theorem inlN_ok {P : Program} {gl : Globs} {nl : List (Nat × NSpec)} (hnl : ∀ p ∈ nl, FnOKn P gl p.1 p.2) {inner : Inl} (hin : InlOK P gl inner) : InlOK P gl (inlN nl inner) := by
  intro f args ob k h Z ρ tm a w hz H hargs
  unfold inlN at h
  split at h
  · exact hin f args ob k h hz H hargs
  rename_i s hs
  have hfn := getN_ok hnl hs
  split at h
  case h_2 => exact h.no
  rename_i hall1
  split at h
  case h_2 => exact h.no
  rename_i ps n' g' vs hof
  obtain ⟨hp, h⟩ := ands_iff.1 h
  obtain ⟨hvs, hcl, hfn⟩ := hfn _ _ _ _ _ hof hp
  have hr : ∀ y ∈ args, y.bnd ⟨fun _ => False, ρ.fz⟩ := fun y hy => SA.bndB_none (List.all_eq_true.1 hall1 y hy) (n := lv ρ ob) (hargs y hy)
  have hm1 : Mem Z.w.heap.size ⟨ρ.pos, ρ.fz⟩ [] w := ⟨fun i y hi => by simp at hi, fun i j hi => by obtain ⟨z, hz, _⟩ := hi; simp at hz, fun b o v hv => ⟨(H.mem.frz b o v hv).1, fun i hi => by obtain ⟨z, hz, _⟩ := hi; simp at hz⟩⟩
  have hkeep : Keeps (fun b y => Z.keep b y ∨ ∃ i, live ob i ∧ ρ i = b ∧ w.heap[b]? = some y) ⟨ρ.pos, ρ.fz⟩ [] w := fun b y hy => by
    have hno : ∀ j, live [] j → (⟨ρ.pos, ρ.fz⟩ : Rho) j ≠ b := fun j hj => by obtain ⟨z, hz, _⟩ := hj; simp at hz
    rcases hy with hy | ⟨i, hi, rfl, hy⟩
    · exact ⟨(H.keeps b y hy).1, hno⟩
    · exact ⟨hy, hno⟩
  obtain ⟨q, hc⟩ := hfn Z.w ⟨ρ.pos, ρ.fz⟩ w H.below hm1 (by rw [← hz]; exact H.gl) hr _ hkeep
  refine ⟨q, hc.mono ?_⟩
  rintro e w' ⟨ρ', x, obn, hnew, rfl, hbl, hm', hf', hkk⟩
  refine ⟨_, rfl, ?_⟩
  cases hnew with
  | none hn =>
    have hk := h.1 hn
    have hm2 : Mem Z.w.heap.size ρ ob w' := by
      refine ⟨fun i y hi hy => ?_, H.mem.injs, fun b c u hu => ⟨(hm'.frz b c u (hf' b c u hu)).1, (H.mem.frz b c u hu).2⟩⟩
      obtain ⟨a1, ⟨rs, hrs, a2⟩, a3⟩ := H.mem.objs i y hi hy
      exact ⟨a1, ⟨rs, hrs, (hkk (ρ i) _ (.inr ⟨i, ⟨y, hi, hy⟩, rfl, a2⟩)).1⟩, a3⟩
    have H2 : Holds Z ρ (scrub ob tm) ob a w' := H.onto (fun _ _ _ => rfl) (fun _ _ _ h => h) (fun b o v hv => .inl ⟨o, v, hv⟩) hbl hm2 H.kept fun b y hy => ⟨(hkk b y (.inl hy)).1, (H.keeps b y hy).2⟩
    refine ⟨ρ, _, _, hk, ?_, ?_, H2⟩
    · have hv : (SA.sc (.val (.slice none 0 0)) :: vs).map (SA.conc ρ) = (SC.val (.slice none 0 0)).conc ρ' :: vs.map (SA.conc Rho.nil) := by
        rw [List.map_cons]
        congr 1
        exact List.map_congr_left fun y hy => Agree.sa (n := none0) (ρ := Rho.nil) (ρ' := ρ) (fun _ q => q.elim) (hvs y hy)
      rw [← hv]
      exact valL_conc ρ _
    · refine resV_bnd fun y hy => ?_
      rcases List.mem_cons.1 hy with rfl | hy
      · trivial
      · exact SA.bnd_mono none0_le (hvs y hy)
  | own cap' sp' hn hcap =>
    obtain ⟨cp, rfl⟩ : ∃ c, cap' = n' + c := ⟨cap' - n', by have := hcap.le; omega⟩
    have hsp : sp' = cp * s.wd := by
      have := hcap.room
      rw [Nat.add_mul] at this
      omega
    subst hsp
    have hk := h.2 hn cp hcap.most
    have hlast : (ob ++ [SO.row s.e s.wd n' g' (cp * s.wd)])[ob.length]? = some (.row s.e s.wd n' g' (cp * s.wd)) := by simp
    have hback : ∀ i, i ≠ ob.length → (ob ++ [SO.row s.e s.wd n' g' (cp * s.wd)])[i]? = ob[i]? := fun i hi => by
      rcases Nat.lt_or_ge i ob.length with hl | hl
      · rw [List.getElem?_append_left hl]
      · rw [List.getElem?_eq_none (by simp; omega), List.getElem?_eq_none hl]
    let ρ2 : Rho := ⟨fun i => if i = ob.length then ρ' 0 else ρ i, ρ.fz⟩
    have r0 : ρ2 ob.length = ρ' 0 := if_pos rfl
    have r1 : ∀ i, i ≠ ob.length → ρ2 i = ρ i := fun i hi => if_neg hi
    have alive : ∀ i, i ≠ ob.length → live (ob ++ [SO.row s.e s.wd n' g' (cp * s.wd)]) i → live ob i := fun i hi hl => by
      obtain ⟨y, hy, hh⟩ := hl
      rw [hback i hi] at hy
      exact ⟨y, hy, hh⟩
    have hfar : ∀ i, live ob i → ρ' 0 ≠ ρ i := fun i hi => by
      obtain ⟨y, hy, hh⟩ := id hi
      obtain ⟨_, ⟨rs, _, a2⟩, _⟩ := H.mem.objs i y hy hh
      exact (hkk (ρ i) _ (.inr ⟨i, hi, rfl, a2⟩)).2 0 ⟨_, rfl, rfl⟩
    obtain ⟨b1, ⟨rest, b2, b3⟩, _⟩ := hm'.objs 0 _ rfl rfl
    have hrc : ∀ {E : Env}, rowOK E s.wd n' g' := fun i hi c hc => ⟨SC.bnd_mono none0_le (hcl i hi c hc).1, (hcl i hi c hc).2⟩
    have hm2 : Mem Z.w.heap.size ρ2 (ob ++ [SO.row s.e s.wd n' g' (cp * s.wd)]) w' := by
      refine ⟨fun i y hi hy => ?_, fun i j hi hj hij => ?_, fun b c u hu => ?_⟩
      · by_cases e : i = ob.length
        · subst e
          rw [hlast] at hi
          simp only [Option.some.injEq] at hi
          subst hi
          rw [r0]
          exact ⟨b1, ⟨rest, b2, b3⟩, hrc⟩
        · rw [hback i e] at hi
          have hl0 : live ob i := ⟨y, hi, hy⟩
          have hi2 : ob[i]? = some y := hi
          obtain ⟨a1, ⟨rs, hrs, a2⟩, a3⟩ := H.mem.objs i y hi2 hy
          rw [r1 i e]
          refine ⟨a1, ⟨rs, hrs, ?_⟩, ?_⟩
          · rw [(hkk (ρ i) _ (.inr ⟨i, hl0, rfl, a2⟩)).1]
            have : y.vals ρ2 = y.vals ρ := by
              cases y with
              | cells e ks sp =>
                exact Agree.sks (n := lv ρ ob) (ρ := ρ) (ρ' := ρ2) (fun i hi => r1 i (by obtain ⟨z, hz, _⟩ := hi; have := ob_lt hz; omega)) (fun kk hkk => a3.1 kk hkk)
              | row e w n g sp => rfl
              | gone => rfl
              | dead => rfl
            rw [this]
          · cases y with
            | cells e ks sp =>
              refine ⟨fun kk hkk => ?_, a3.2⟩
              exact SK.bnd_mono (n := lv ρ ob) (m := lv ρ2 (ob ++ [SO.row s.e s.wd n' g' (cp * s.wd)])) ⟨fun i hi => by
                obtain ⟨z, hz, hh⟩ := hi
                exact ⟨z, by rw [hback i (by have := ob_lt hz; omega)]; exact hz, hh⟩, fun _ _ _ h => h⟩ (a3.1 kk hkk)
            | row e w n g sp => exact a3
            | gone => cases hy
            | dead => cases hy
      · by_cases e1 : i = ob.length
        · by_cases e2 : j = ob.length
          · rw [e1, e2]
          · subst e1
            rw [r0, r1 j e2] at hij
            exact absurd hij (hfar j (alive j e2 hj))
        · by_cases e2 : j = ob.length
          · subst e2
            rw [r0, r1 i e1] at hij
            exact absurd hij.symm (hfar i (alive i e1 hi))
          · rw [r1 i e1, r1 j e2] at hij
            exact H.mem.injs i j (alive i e1 hi) (alive j e2 hj) hij
      · obtain ⟨k1, k2⟩ := hm'.frz b c u (hf' b c u hu)
        refine ⟨k1, fun i hi => ?_⟩
        by_cases e : i = ob.length
        · subst e; rw [r0]; exact k2 0 ⟨_, rfl, rfl⟩
        · rw [r1 i e]; exact (H.mem.frz b c u hu).2 i (alive i e hi)
    have hkept : Kept Z ρ2 (ob ++ [SO.row s.e s.wd n' g' (cp * s.wd)]) := by
      have hlow : ∀ {i : Nat}, i < Z.ob.length → i < ob.length := fun h => by have := H.kept.2.2; omega
      refine ⟨fun i hi => ?_, fun i hi => ?_, by have := H.kept.2.2; simp; omega⟩
      · have hil : i < ob.length := hlow (by obtain ⟨z, hz, _⟩ := hi; exact ob_lt hz)
        rcases H.kept.1 i hi with ⟨⟨z, hz, hh⟩, k2⟩ | k1
        · exact .inl ⟨⟨z, by rw [hback i (by omega)]; exact hz, hh⟩, by rw [r1 i (by omega)]; exact k2⟩
        · exact .inr (by rw [hback i (by omega)]; exact k1)
      · have hil : i < ob.length := hlow (ob_lt hi)
        rw [hback i (by omega)]
        exact H.kept.2.1 i hi
    have hkk2 : Keeps Z.keep ρ2 (ob ++ [SO.row s.e s.wd n' g' (cp * s.wd)]) w' := fun b y hy => by
      refine ⟨(hkk b y (.inl hy)).1, fun i hi => ?_⟩
      by_cases e : i = ob.length
      · subst e; rw [r0]; exact (hkk b y (.inl hy)).2 0 ⟨_, rfl, rfl⟩
      · rw [r1 i e]; exact (H.keeps b y hy).2 i (alive i e hi)
    have H2 : Holds Z ρ2 (scrub (ob ++ [SO.row s.e s.wd n' g' (cp * s.wd)]) tm) (ob ++ [SO.row s.e s.wd n' g' (cp * s.wd)]) a w' := by
      refine H.onto (fun i hi _ => r1 i ?_) (fun _ _ _ h => h) (fun b o v hv => .inl ⟨o, v, hv⟩) hbl hm2 hkept hkk2
      obtain ⟨z, hz, _⟩ := hi
      have := ob_lt hz
      omega
    refine ⟨ρ2, _, _, hk, ?_, ?_, H2⟩
    · have hv : (SA.sc (.slw ob.length s.wd 0 n' (n' + cp)) :: vs).map (SA.conc ρ2) = (SC.slw 0 s.wd 0 n' (n' + cp)).conc ρ' :: vs.map (SA.conc Rho.nil) := by
        rw [List.map_cons]
        congr 1
        · simp only [SA.conc, SC.conc, r0]
        · exact List.map_congr_left fun y hy => Agree.sa (n := none0) (ρ := Rho.nil) (ρ' := ρ2) (fun _ q => q.elim) (hvs y hy)
      rw [← hv]
      exact valL_conc ρ2 _
    · refine resV_bnd fun y hy => ?_
      rcases List.mem_cons.1 hy with rfl | hy
      · exact ⟨_, hlast, rfl⟩
      · exact SA.bnd_mono none0_le (hvs y hy)
section
variable {P : Program}
def inlNw (P : Program) (cx : Cx) (sl : List (Nat × SSpec)) (tl : List (Nat × TSpec)) (nl : List (Nat × NSpec)) (dr : Drawn) (iv : List (Nat × Hint)) (N : Nat) : Nat → Inl
  | 0 => inlN nl (inlT tl (inlW cx.wf (inlS sl noInl)))
  | d + 1 => inlN nl (inlT tl (inlW cx.wf (inlS sl fun f args ob k =>
    match P.funcs[f]? with
    | some fn =>
      match fn.body, fn.name == "runtime.NumGoroutine" with
      | some c, false => sx P { cx with kn := ob.length } (inlNw P cx sl tl nl dr iv N d) dr iv N ((f + 1) * 100000) ob.length c (slots0 args fn.ntmps) ob (ret P fn.results.toList k)
      | _, _ => StuckAt "no text"
    | none => StuckAt "no function")))
theorem inlNw_ok {cx : Cx} (hcx : CxOK P cx) {sl : List (Nat × SSpec)} (hsl : ∀ p ∈ sl, FnOKs P cx.gl p.1 p.2) {tl : List (Nat × TSpec)} (htl : ∀ p ∈ tl, FnOKt P cx.gl p.1 p.2) {nl : List (Nat × NSpec)} (hnl : ∀ p ∈ nl, FnOKn P cx.gl p.1 p.2) {dr : Drawn} (hdr : DrawnOK P cx dr) (iv : List (Nat × Hint)) (N : Nat) : ∀ d, InlOK P cx.gl (inlNw P cx sl tl nl dr iv N d)
  | 0 => inlN_ok hnl (inlT_ok htl (inlW_ok hcx.2 (inlS_ok hsl (noInl_ok P cx.gl))))
  | d + 1 => by
    refine inlN_ok hnl (inlT_ok htl (inlW_ok hcx.2 (inlS_ok hsl ?_)))
    intro f args ob k h Z ρ tm a w hz H hargs
    split at h
    case h_2 => exact h.no
    rename_i fn hf
    split at h
    case h_2 => exact h.no
    rename_i c hb hn
    refine ⟨run_callFunc_enter hf (by rw [hb]; rfl) hn _ w, ?_⟩
    refine calls_of_sx (cx := { cx with kn := ob.length }) hcx (inlNw_ok hcx hsl htl hnl hdr iv N d) hdr iv N _ hf hb args ρ hargs w H.below H.mem (by rw [← hz]; exact H.gl) (Nat.le_refl _) H.keeps k (fun sv ob' ρ' v w' hk hr hbd hB hm hkp hfz hkk => ?_) h
    refine ⟨v, rfl, ρ', sv, ob', hk, hr, hbd, H.onto (fun i hi hi' => ?_) hfz.le hfz.own hB hm ⟨fun i hi => ?_, fun i hi => hkp.2.1 i (H.kept.2.1 i hi), Nat.le_trans H.kept.2.2 hkp.2.2⟩ hkk⟩
    · rcases hkp.1 i hi with ⟨_, e⟩ | e
      · exact e
      · obtain ⟨_, h', hh⟩ := hi'; rw [e] at h'; cases h'; cases hh
    · rcases H.kept.1 i hi with ⟨k1, k2⟩ | k1
      · rcases hkp.1 i k1 with ⟨q1, q2⟩ | q
        · exact .inl ⟨q1, Eq.trans q2 k2⟩
        · exact .inr q
      · exact .inr (hkp.2.1 i k1)
def isOwn : Option Nat → Nat → Prop
  | none, _ => True
  | some _, n => 0 < n
def okNs (s : NSpec) (n : Nat) (g : Nat → Nat → SC) (vs : List SA) (ob : List SO) : List SA → Prop
  | x :: r => match headT ob s.wd s.e x with
    | some (qs, m, h, _, old) => ands qs (ands [m = n, isOwn old n] (ands [∀ i, i < n → allC s.wd fun c => simC (h i c) (g i c)] (okV r vs)))
    | none => StuckAt "head"
  | _ => StuckAt "result"
def okN (s : NSpec) (n : Nat) (g : Nat → Nat → SC) (vs : List SA) (sv : SV) (ob : List SO) : Prop :=
  match sv with
  | .one x => okNs s n g vs ob [x]
  | .tup [_] => False
  | .tup xs => okNs s n g vs ob xs
  | _ => False
def OwesNP (P : Program) (cx : Cx) (sl : List (Nat × SSpec)) (tl : List (Nat × TSpec)) (nl : List (Nat × NSpec)) (iv : List (Nat × Hint)) (N : Nat) (fn : Func) (args : List SA) (post : SV → List SO → Prop) : Prop :=
  sx P { cx with kn := 0 } (inlNw P cx sl tl nl drawOK iv N 8) drawOK iv N 0 0 (fn.body.getD .skip) (slots0 args fn.ntmps) [] (ret P fn.results.toList post)
def OwesNw (P : Program) (cx : Cx) (sl : List (Nat × SSpec)) (tl : List (Nat × TSpec)) (nl : List (Nat × NSpec)) (iv : List (Nat × Hint)) (N : Nat) (fn : Func) (args : List SA) (s : NSpec) (n : Nat) (g : Nat → Nat → SC) (vs : List SA) : Prop :=
  OwesNP P cx sl tl nl iv N fn args (okN s n g vs)
def OwesNr (P : Program) (cx : Cx) (sl : List (Nat × SSpec)) (tl : List (Nat × TSpec)) (nl : List (Nat × NSpec)) (iv : List (Nat × Hint)) (N : Nat) (fn : Func) (args : List SA) (sh : Bool) (rs : List RS) : Prop :=
  OwesNP P cx sl tl nl iv N fn args (okRS sh rs)
theorem FnOKn_owes {cx : Cx} (hcx : CxOK P cx) {sl : List (Nat × SSpec)} (hsl : ∀ p ∈ sl, FnOKs P cx.gl p.1 p.2) {tl : List (Nat × TSpec)} (htl : ∀ p ∈ tl, FnOKt P cx.gl p.1 p.2) {nl : List (Nat × NSpec)} (hnl : ∀ p ∈ nl, FnOKn P cx.gl p.1 p.2) {f : Nat} {fn : Func} (hf : P.funcs[f]? = some fn) (hb : fn.body.isSome = true) (hn : (fn.name == "runtime.NumGoroutine") = false) {s : NSpec}
    (h : ∀ args ps n g vs, s.of args = some (ps, n, g, vs) → Ok ps → ∃ args', (∀ ρ, args.map (SA.conc ρ) = args'.map (SA.conc ρ)) ∧ (∀ E : Env, (∀ x ∈ args, x.bnd E) → ∀ x ∈ args', x.bnd E) ∧ (∀ v ∈ vs, v.bnd none0) ∧ closedG n s.wd g ∧
      ∃ iv N, OwesNw P cx sl tl nl iv N fn args' s n g vs) : FnOKn P cx.gl f s := by
  intro args ps n g vs hs hp
  obtain ⟨args', h1, h2, hvs, hcl, iv, N, h4⟩ := h args ps n g vs hs hp
  refine ⟨hvs, hcl, fun Z ρ w hB hm hg ha keep hkeep => ⟨run_callFunc_enter hf hb hn _ w, ?_⟩⟩
  obtain ⟨c, hc⟩ := Option.isSome_iff_exists.1 hb
  rw [h1]
  unfold OwesNw OwesNP at h4
  rw [hc] at h4
  refine calls_of_sx (cx := { cx with kn := 0 }) hcx (inlNw_ok hcx hsl htl hnl (drawOK_ok hcx) iv N 8) (drawOK_ok hcx) iv N 0 hf hc (Z := Z) (ob := []) args' ρ (fun x hx => SA.bnd_mono (n := ⟨fun _ => False, ρ.fz⟩) (m := lv ρ []) ⟨fun _ k => k.elim, fun _ _ _ k => k⟩ (h2 _ ha x hx)) w hB hm hg (Nat.le_refl _) hkeep _ (fun sv ob' ρ' v w' hq hr hbd hB' hm' hkp hfz hkk => ?_) h4
  have H : Holds ⟨Z, [], ρ, cx.gl, keep⟩ ρ' [] ob' { tmps := #[], defers := [] } w' := by
    refine ⟨rfl, fun t => ?_, fun t => ?_, rfl, hB', hm', hkp, fun p hp => ?_, hfz, hkk⟩
    · rw [show ([] : List SV).getD t .any = .any by simp]; trivial
    · rw [show ([] : List SV).getD t .any = .any by simp]; trivial
    · obtain ⟨g1, g2⟩ := hg p hp
      exact ⟨fun k hk => SK.bnd_mono (n := ⟨fun _ => False, ρ.fz⟩) (m := ⟨fun _ => False, ρ'.fz⟩) ⟨fun _ x => x, fun b o v h => hfz.le b o v h⟩ (g1 k hk), fun o v h => hfz.le _ _ _ (g2 o v h)⟩
  have key : ∀ xs : List SA, okNs s n g vs ob' xs → v = valL (xs.map (SA.conc ρ')) → ∃ (ρ' : Rho) (x : SC) (obn : List SO), NewN s.e s.wd n g x obn ∧ Ending.returned v = .returned (valL (x.conc ρ' :: vs.map (SA.conc Rho.nil))) ∧ Below Z.heap.size Z w' ∧
        Mem Z.heap.size ρ' obn w' ∧ (∀ b o u, ρ.fz b o u → ρ'.fz b o u) ∧ Keeps keep ρ' obn w' := by
    intro xs hxs hv
    unfold okNs at hxs
    split at hxs
    case h_2 => exact hxs.no
    rename_i x r
    split at hxs
    case h_2 => exact hxs.no
    rename_i qs m h' ob0 old hh
    obtain ⟨hqs, hxs⟩ := ands_iff.1 hxs
    obtain ⟨⟨hmn, hio, _⟩, hxs2⟩ := ands_iff.1 hxs
    obtain ⟨⟨hrows, _⟩, hxs3⟩ := ands_iff.1 hxs2
    subst hmn
    obtain ⟨hown, hkl, hrow, hold⟩ := headT_sound H hh hqs
    have hval : ∀ y : Value, x.conc ρ' = y → v = valL (y :: vs.map (SA.conc Rho.nil)) := fun y hy => by
      rw [hv, List.map_cons, okV_sound (ρ := ρ') hxs3, hy]
      congr 2
      exact List.map_congr_left fun y hy => Agree.sa (n := none0) (ρ := Rho.nil) (ρ' := ρ') (fun _ q => q.elim) (hvs y hy)
    rcases hown.2 with ⟨hx, hn0⟩ | ⟨b, cap, cur, hx, hB0, hcur, hnc, hcm, hsz, htk⟩
    · refine ⟨⟨ρ'.pos, ρ'.fz⟩, _, [], .none hn0, by rw [hval _ hx]; rfl, hB', ⟨fun i y hi => by simp at hi, fun i j hi => by obtain ⟨z, hz, _⟩ := hi; simp at hz, fun b o v hv => ⟨(hm'.frz b o v hv).1, fun i hi => by obtain ⟨z, hz, _⟩ := hi; simp at hz⟩⟩, hfz.le, fun b y hy => ⟨(hkk b y hy).1, fun i hi => by obtain ⟨z, hz, _⟩ := hi; simp at hz⟩⟩
    · have hlive : ∃ o, live ob' o ∧ b = ρ' o := by
        rcases hkl with ⟨e2, _⟩ | ⟨o2, y, ho, hy, _, e2⟩
        · rw [hx] at e2; cases e2
        · rw [hx] at e2
          exact ⟨o2, ⟨y, ho, hy⟩, by simpa [Value.ownBlock] using e2⟩
      have hpos : 0 < m := by
        rcases hold with ⟨_, _, e, _⟩ | ⟨o, rfl, _⟩
        · rw [hx] at e; cases e
        · exact hio
      obtain ⟨o2, hl2, rfl⟩ := hlive
      have hcurl : cur.toList = rowc s.wd m h' ++ cur.toList.drop (m * s.wd) := by rw [← htk]; exact (List.take_append_drop _ _).symm
      refine ⟨⟨fun _ => ρ' o2, ρ'.fz⟩, _, _, .own cap (cap * s.wd - m * s.wd) hpos ⟨hnc, hcm, ?_⟩, by rw [hval _ hx]; simp [SC.conc], hB', ⟨fun i y hi hy => ?_, fun i j hi hj _ => ?_, fun b c u hu => ⟨(hm'.frz b c u hu).1, fun i _ => (hm'.frz b c u hu).2 o2 hl2⟩⟩, hfz.le, fun b y hy => ⟨(hkk b y hy).1, fun i _ => (hkk b y hy).2 o2 hl2⟩⟩
      · have := Nat.mul_le_mul_right s.wd hnc; omega
      · cases i with
        | succ i => simp at hi
        | zero =>
          simp only [List.getElem?_cons_zero, Option.some.injEq] at hi
          subst hi
          refine ⟨hB0, ⟨cur.toList.drop (m * s.wd), ?_, ?_⟩, fun i hi c hc => ⟨SC.bnd_mono none0_le (hcl i hi c hc).1, (hcl i hi c hc).2⟩⟩
          · rw [List.length_drop, Array.length_toList, hsz]; rfl
          · show w'.heap[ρ' o2]? = some (.cells (rowc s.wd m g ++ cur.toList.drop (m * s.wd)).toArray s.e (0, 0))
            rw [← rowc_congr hrows, ← hcurl, hcur]
      · obtain ⟨y, hy, _⟩ := hi
        obtain ⟨z, hz', _⟩ := hj
        cases i with
        | succ i => simp at hy
        | zero => cases j with
          | succ j => simp at hz'
          | zero => rfl
  unfold okN at hq
  split at hq
  · exact key _ hq (by rw [hr]; rfl)
  · exact hq.elim
  · rename_i xs hne
    refine key _ hq ?_
    rw [hr]
    match xs, hne with
    | [], _ => rfl
    | [x], hne => exact absurd rfl (hne x)
    | x :: y :: r, _ => rfl
  · exact hq.elim
end
attribute [irreducible] OwesNw OwesNr
end Go.Sx
end

section
namespace Go.Sx
end Go.Sx
end

section
namespace Go.Sx
open Go.RowKit
theorem okx_nil {P : Program} {gl : Globs} : CxOK P ⟨[], gl, 0, []⟩ := ⟨fun _ h => (by cases h), fun _ h => (by cases h)⟩
theorem okx_cons {P : Program} {gl : Globs} {f : Nat} {s : FSpec} {l : List (Nat × FSpec)} {wf : List (Nat × WSpec)} (h : FnOKg P gl f s) (hs : CxOK P ⟨l, gl, 0, wf⟩) : CxOK P ⟨(f, s) :: l, gl, 0, wf⟩ :=
  ⟨fun p hp => by
    rcases List.mem_cons.1 hp with rfl | hp
    · exact h
    · exact hs.1 p hp, hs.2⟩
theorem okx_mark {P : Program} {gl : Globs} {f : Nat} {l : List (Nat × FSpec)} {wf : List (Nat × WSpec)} (hs : CxOK P ⟨l, gl, 0, wf⟩) : CxOK P ⟨(f, fun _ => none) :: l, gl, 0, wf⟩ :=
  okx_cons (fun _ _ _ h => (by cases h)) hs
theorem oks_nil {P : Program} {gl : Globs} : ∀ p ∈ ([] : List (Nat × SSpec)), FnOKs P gl p.1 p.2 := fun _ h => (by cases h)
theorem oks_cons {P : Program} {gl : Globs} {f : Nat} {s : SSpec} {l : List (Nat × SSpec)} (h : FnOKs P gl f s) (hl : ∀ p ∈ l, FnOKs P gl p.1 p.2) : ∀ p ∈ (f, s) :: l, FnOKs P gl p.1 p.2 := fun p hp => by
  rcases List.mem_cons.1 hp with rfl | hp
  · exact h
  · exact hl p hp
end Go.Sx
end

section
namespace Go.Proofs.Ytkggabbcigeieaa
open Go.Sx
set_option maxRecDepth 100000
def blkF (P H : Nat → Int) (A : Nat → Option Addr) (N C : Nat → Nat) (X : Nat → Nat → Nat → SC) (i c : Nat) : SC :=
  match c with
  | 0 => .val (.int .i64 (P i))
  | 1 => .val (.int .i64 (H i))
  | _ => .xs (A i) (N i) (C i) 109 (X i)
def sTr (a : Option Addr) (n cap : Nat) (f : Nat → Nat → SC) (best fin : Int) : SA := .agg [.c (.xs a n cap 3 f), .c (.val (.int .i64 best)), .c (.val (.int .i64 fin))]
def pqTr : AQ := .st [.x 3, .i .i64, .i .i64]
def iAt (f : Nat → Nat → SC) (i c : Nat) : Int := match f i c with
  | .val (.int _ n) => n
  | _ => 0
def aAt : SC → Option Addr
  | .xs a _ _ _ _ => a
  | _ => none
def nAt : SC → Nat
  | .xs _ n _ _ _ => n
  | _ => 0
def cAt : SC → Nat
  | .xs _ _ c _ _ => c
  | _ => 0
def xAt : SC → Nat → Nat → SC
  | .xs _ _ _ _ g => g
  | _ => fun _ _ => .bit false
def clK (c : Nat) : IntKind := if c = 0 ∨ c = 65 ∨ c = 106 ∨ c = 107 then .i64 else if 66 ≤ c ∧ c < 74 then .u64 else .u8
def clF (V : Nat → Nat → Int) (A : Nat → Option Addr) (N C : Nat → Nat) (B : Nat → Nat → Int) (j c : Nat) : SC :=
  match Nat.blt c 108 with
  | true => .val (.int (clK c) (V j c))
  | false => .xs (A j) (N j) (C j) 1 fun i _ => .val (.int .u8 (B j i))
abbrev fCl (g : Nat → Nat → SC) : Nat → Nat → SC := clF (iAt g) (fun j => aAt (g j 108)) (fun j => nAt (g j 108)) (fun j => cAt (g j 108)) (fun j i => iAt (xAt (g j 108)) i 0)
structure clP (g : Nat → Nat → SC) : Prop where
  gf : ∀ j c, c < 109 → g j c = fCl g j c
def liT (P : Nat → Int) : Nat → Int → List Int
  | 0, _ => []
  | k + 1, b => if b < 0 then [] else liT P k (P b.toNat) ++ [b]
def lineT (P : Nat → Int) (b : Int) : List Int := liT P (b.toNat + 1) b
def lnN (P : Nat → Int) (b : Int) : Nat := (lineT P b).length
structure trP (a : Option Addr) (n : Nat) (f : Nat → Nat → SC) : Prop where
  tn : n ≤ 1000
  ta : a = none → n = 0
  tf : ∀ i c, c < 3 → f i c = blkF (fun i => iAt f i 0) (fun i => iAt f i 1) (fun i => aAt (f i 2)) (fun i => nAt (f i 2)) (fun i => cAt (f i 2)) (fun i => xAt (f i 2)) i c
  tc : ∀ i, clP (xAt (f i 2))
  tp : ∀ i, i < n → -1 ≤ iAt f i 0 ∧ iAt f i 0 < (i : Int)
end Go.Proofs.Ytkggabbcigeieaa
end

section
namespace Go.Proofs.Ytkggabbcigeieaa
open Go.Sx
set_option maxRecDepth 100000
section
variable {P : Nat → Int}
theorem li_neg {b : Int} (h : b < 0) : ∀ k, liT P k b = []
  | 0 => rfl
  | _ + 1 => if_pos h
theorem li_pos {b : Int} (h : 0 ≤ b) (k : Nat) : liT P (k + 1) b = liT P k (P b.toNat) ++ [b] := if_neg (by omega)
theorem li_fuel {n : Nat} (hP : ∀ i, i < n → -1 ≤ P i ∧ P i < (i : Int)) : ∀ (k1 k2 : Nat) (b : Int), b < (n : Int) → (b < 0 ∨ (b.toNat < k1 ∧ b.toNat < k2)) → liT P k1 b = liT P k2 b
  | 0, k2, b, _, h => by
    have : b < 0 := by omega
    rw [li_neg this, li_neg this]
  | k1 + 1, 0, b, _, h => by
    have : b < 0 := by omega
    rw [li_neg this, li_neg this]
  | k1 + 1, k2 + 1, b, hb, h => by
    by_cases c : b < 0
    · rw [li_neg c, li_neg c]
    · have q := hP b.toNat (by omega)
      rw [li_pos (by omega), li_pos (by omega), li_fuel hP k1 k2 (P b.toNat) (by omega) (by omega)]
theorem line_neg {b : Int} (h : b < 0) : lineT P b = [] := li_neg h _
theorem line_step {n : Nat} (hP : ∀ i, i < n → -1 ≤ P i ∧ P i < (i : Int)) {b : Int} (h0 : 0 ≤ b) (hb : b < (n : Int)) : lineT P b = lineT P (P b.toNat) ++ [b] := by
  have q := hP b.toNat (by omega)
  unfold lineT
  rw [li_pos h0, li_fuel hP b.toNat ((P b.toNat).toNat + 1) (P b.toNat) (by omega) (by omega)]
theorem ln_neg {b : Int} (h : b < 0) : lnN P b = 0 := by unfold lnN; rw [line_neg h]; rfl
theorem ln_step {n : Nat} (hP : ∀ i, i < n → -1 ≤ P i ∧ P i < (i : Int)) {b : Int} (h0 : 0 ≤ b) (hb : b < (n : Int)) : lnN P b = lnN P (P b.toNat) + 1 := by
  unfold lnN; rw [line_step hP h0 hb, List.length_append]; rfl
theorem ln_le {n : Nat} (hP : ∀ i, i < n → -1 ≤ P i ∧ P i < (i : Int)) : ∀ (k : Nat) (b : Int), b < (n : Int) → b + 1 < (k : Int) → (lnN P b : Int) ≤ b + 1 ∨ b < 0
  | 0, b, _, h => .inr (by omega)
  | k + 1, b, hb, h => by
    by_cases c : b < 0
    · exact .inr c
    · have q := hP b.toNat (by omega)
      have e := ln_step hP (by omega) hb
      rcases ln_le hP k (P b.toNat) (by omega) (by omega) with r | r
      · left; omega
      · have := ln_neg (P := P) r
        left; omega
theorem ln_small {n : Nat} (hn : n ≤ 1000) (hP : ∀ i, i < n → -1 ≤ P i ∧ P i < (i : Int)) {b : Int} (hb : b < (n : Int)) : lnN P b ≤ 1000 := by
  rcases ln_le hP (b + 2).toNat b hb (by omega) with r | r
  · omega
  · rw [ln_neg r]; omega
end
theorem cl_refl {V : Nat → Nat → Int} {A : Nat → Option Addr} {N C : Nat → Nat} {B : Nat → Nat → Int} {j c : Nat} : simC (clF V A N C B j c) (clF V A N C B j c) := by
  unfold clF
  split
  · unfold simC; simp only [noX]
    unfold sameC asV
    cases h : clK c <;> rfl
  · exact ⟨rfl, rfl, rfl, fun _ _ => rfl⟩
theorem allC_of : ∀ {n : Nat} {f : Nat → Prop}, (∀ c, c < n → f c) → allC n f
  | 0, _, _ => trivial
  | 1, _, h => h 0 (by omega)
  | n + 2, f, h => ⟨h 0 (by omega), allC_of (n := n + 1) (f := fun c => f (c + 1)) fun c hc => h (c + 1) (by omega)⟩
theorem clP.refl {g : Nat → Nat → SC} (p : clP g) {a : Option Addr} {n cap : Nat} : simC (.xs a n cap 109 g) (.xs a n cap 109 g) :=
  ⟨rfl, rfl, rfl, fun i _ => allC_of fun c hc => by show simC (g i c) (g i c); rw [p.gf i c hc]; exact cl_refl⟩
theorem clP_of {g : Nat → Nat → SC} {V : Nat → Nat → Int} {A : Nat → Option Addr} {N C : Nat → Nat} {B : Nat → Nat → Int} (h : ∀ j c, c < 109 → g j c = clF V A N C B j c) : clP g := ⟨fun j c hc => by
  have h8 := h j 108 (by omega)
  have e8 : g j 108 = .xs (A j) (N j) (C j) 1 fun i _ => .val (.int .u8 (B j i)) := h8
  by_cases k : c < 108
  · have hb : Nat.blt c 108 = true := by simpa [Nat.blt_eq] using k
    have e : g j c = .val (.int (clK c) (V j c)) := by rw [h j c hc]; unfold clF; rw [hb]
    rw [e]
    unfold fCl clF iAt
    rw [hb, e]
  · have : c = 108 := by omega
    subst this
    rw [e8]
    show _ = SC.xs (aAt (g j 108)) (nAt (g j 108)) (cAt (g j 108)) 1 fun i _ => .val (.int .u8 (iAt (xAt (g j 108)) i 0))
    rw [e8]; rfl⟩
theorem clP_cl {V : Nat → Nat → Int} {A : Nat → Option Addr} {N C : Nat → Nat} {B : Nat → Nat → Int} : clP (clF V A N C B) := clP_of fun _ _ _ => rfl
theorem sel_cl (b : Bool) {V V' : Nat → Nat → Int} {A A' : Nat → Option Addr} {N C N' C' : Nat → Nat} {B B' : Nat → Nat → Int} {j c : Nat} :
    selC b (clF V A N C B j c) (clF V' A' N' C' B' j c) = clF (fun j c => cond b (V j c) (V' j c)) (fun j => cond b (A j) (A' j)) (fun j => cond b (N j) (N' j)) (fun j => cond b (C j) (C' j)) (fun j i => cond b (B j i) (B' j i)) j c := by
  unfold clF
  split
  · show selO b _ _ = _
    unfold selO selI
    simp only [asI, if_pos]
  · rfl
theorem trP.ts {a : Option Addr} {n : Nat} {f : Nat → Nat → SC} (p : trP a n f) : ∀ i, i < n → simC (f i 2) (f i 2) := fun i _ => by
  rw [p.tf i 2 (by omega)]; exact (p.tc i).refl
theorem xs_told {a : Option Addr} {n cap w : Nat} {f g : Nat → Nat → SC} (h : ∀ i, i < n → ∀ c, c < w → f i c = g i c) {E : Env} (hb : (SC.xs a n cap w f).bnd E) : (SC.xs a n cap w g).bnd E := by
  obtain ⟨b1, b2, b3⟩ := hb
  exact ⟨b1, b2, fun b hb => ⟨(b3 b hb).1, fun i hi c hc => by rw [← h i hi c hc]; exact (b3 b hb).2 i hi c hc⟩⟩
theorem trP.told {a : Option Addr} {n : Nat} {f : Nat → Nat → SC} (p : trP a n f) : trP a n (blkF (fun i => iAt f i 0) (fun i => iAt f i 1) (fun i => aAt (f i 2)) (fun i => nAt (f i 2)) (fun i => cAt (f i 2)) (fun i => xAt (f i 2))) :=
  ⟨p.tn, p.ta, fun i c hc => by
    rcases c with _ | _ | _ | c
    · rfl
    · rfl
    · rfl
    · omega, fun i => p.tc i, p.tp⟩
abbrev fTr (f : Nat → Nat → SC) : Nat → Nat → SC := blkF (fun i => iAt f i 0) (fun i => iAt f i 1) (fun i => aAt (f i 2)) (fun i => nAt (f i 2)) (fun i => cAt (f i 2)) (fun i => xAt (f i 2))
theorem tr_told {a : Option Addr} {n cap : Nat} {f g : Nat → Nat → SC} {best fin : Int} (h : ∀ i, i < n → ∀ c, c < 3 → f i c = g i c) {E : Env} (hb : (sTr a n cap f best fin).bnd E) : (sTr a n cap g best fin).bnd E := fun k hk => by
  rcases List.mem_cons.1 hk with rfl | hk
  · exact xs_told h (hb _ (List.mem_cons_self ..))
  · exact hb k (List.mem_cons_of_mem _ hk)
end Go.Proofs.Ytkggabbcigeieaa
end

section
namespace Go.Proofs.Ytkggabbcigeieaa
open Go.Sx
set_option maxRecDepth 100000
def stO (P : Nat → Int) (b r : Int) : Bool := (lineT P b).any fun x => x == r
def bsD (P H : Nat → Int) (fin : Int) (n : Nat) : Nat → Int
  | 0 => -1
  | d + 1 => if stO P ((n : Int) - 1 - (d : Int)) fin && (decide (bsD P H fin n d < 0) || decide (H (bsD P H fin n d).toNat ≤ H (n - 1 - d))) then (n : Int) - 1 - (d : Int) else bsD P H fin n d
def cxBo : Cx := ⟨[(1000000008, fun _ => none), (1000000010, fun _ => none), (1000000012, fun _ => none), (1000000013, fun _ => none), (1000000014, fun _ => none)], [], 0, []⟩
end Go.Proofs.Ytkggabbcigeieaa
end

section
namespace Go.Proofs.Ytkggabbcigeieaa
open Go.Sx
set_option maxRecDepth 100000
theorem stO_t {P : Nat → Int} {b r : Int} {j : Nat} (hj : j < lnN P b) (h : (lineT P b).getD j 0 = r) : stO P b r = true := by
  unfold stO
  unfold lnN at hj
  refine List.any_eq_true.2 ⟨r, ?_, beq_self_eq_true r⟩
  rw [← h, List.getD_eq_getElem?_getD, List.getElem?_eq_getElem hj]
  exact List.getElem_mem hj
theorem bs_in {P H : Nat → Int} {fin : Int} {n : Nat} : ∀ {d : Nat}, d ≤ n → -1 ≤ bsD P H fin n d ∧ (bsD P H fin n d < (n : Int) ∨ bsD P H fin n d = -1)
  | 0, _ => ⟨Int.le_refl _, .inr rfl⟩
  | d + 1, h => by
    have ih := bs_in (P := P) (H := H) (fin := fin) (n := n) (d := d) (by omega)
    unfold bsD
    split
    · exact ⟨by omega, .inl (by omega)⟩
    · exact ih
theorem okx_Bo : CxOK Try.prog cxBo := okx_mark (okx_mark (okx_mark (okx_mark (okx_mark okx_nil))))
end Go.Proofs.Ytkggabbcigeieaa
end

section
namespace Go.Proofs.Ytkggabbcigeieaa
open Go.Sx
set_option maxRecDepth 100000
def blO (P H : Nat → Int) (N : Nat → Nat) (i : Nat) : Bool :=
  if i = 0 then P 0 == -1 && H 0 == 0 && N 0 == 0 else decide (0 ≤ P i) && decide (P i < (i : Int)) && H i == IntKind.i64.wrap (H (P i).toNat + 1)
def trR (P H : Nat → Int) (N : Nat → Nat) : Nat → Int
  | 0 => 0
  | i + 1 => if trR P H N i ≠ 0 then trR P H N i else if 6 < N i then 1 else if blO P H N i then 0 else 12
def trE (P H : Nat → Int) (N : Nat → Nat) (n : Nat) (best fin : Int) : Int :=
  if n = 0 ∨ 40 < n then 1 else if trR P H N n ≠ 0 then trR P H N n else if fin < 0 ∨ (n : Int) ≤ fin ∨ best ≠ bsD P H fin n n then 12 else 0
structure tfP (a : Option Addr) (n : Nat) (f : Nat → Nat → SC) : Prop where
  tn : n ≤ maxLen
  ta : a = none → n = 0
  tf : ∀ i c, c < 3 → f i c = fTr f i c
  tm : ∀ i, i < n → nAt (f i 2) ≤ maxLen
  tc : ∀ i, clP (xAt (f i 2))
def tfC : List (List FD) → List Prop
  | [[.x a n _ f, .i _, .i _]] => [tfP a n f]
  | _ => [False]
def tfG : List (List FD) → List RS
  | [[.x _ n _ f, .i b, .i fin]] => [.v (sI .i64 (trE (fun i => iAt f i 0) (fun i => iAt f i 1) (fun i => nAt (f i 2)) n b fin))]
  | _ => []
end Go.Proofs.Ytkggabbcigeieaa
end

section
namespace Go.Proofs.Ytkggabbcigeieaa
open Go.Sx
set_option maxRecDepth 100000
section
variable {P H : Nat → Int} {N : Nat → Nat}
theorem tr_stay {m : Nat} (h : trR P H N m ≠ 0) : ∀ d, trR P H N (m + d) = trR P H N m
  | 0 => rfl
  | d + 1 => by
    have ih := tr_stay h d
    exact (if_pos (by rw [ih]; exact h) : trR P H N (m + d + 1) = trR P H N (m + d)).trans ih
theorem tr_end {n m : Nat} (hm : m < n) {r : Int} (hr : r ≠ 0) (h : trR P H N (m + 1) = r) : trR P H N n = r := by
  have := tr_stay (m := m + 1) (by rw [h]; exact hr) (n - (m + 1))
  rw [show m + 1 + (n - (m + 1)) = n by omega] at this
  rw [this, h]
theorem tr_step {m : Nat} (h : trR P H N m = 0) : trR P H N (m + 1) = if 6 < N m then 1 else if blO P H N m then 0 else 12 := if_neg (fun c => c h)
theorem tr_pre {m : Nat} (h : trR P H N (m + 1) = 0) : trR P H N m = 0 ∧ blO P H N m = true := by
  by_cases c : trR P H N m = 0
  · rw [tr_step c] at h
    by_cases d : 6 < N m
    · rw [if_pos d] at h; cases h
    · rw [if_neg d] at h
      refine ⟨c, ?_⟩
      cases e : blO P H N m
      · rw [e] at h; cases h
      · rfl
  · exact absurd ((tr_stay c 1).symm.trans h) c
theorem tr_all : ∀ {m : Nat}, trR P H N m = 0 → ∀ j, j < m → blO P H N j = true
  | 0, _, j, hj => absurd hj (Nat.not_lt_zero _)
  | m + 1, h, j, hj => by
    obtain ⟨h1, h2⟩ := tr_pre h
    by_cases e : j = m
    · rw [e]; exact h2
    · exact tr_all h1 j (by omega)
theorem bl_zero : blO P H N 0 = (P 0 == -1 && H 0 == 0 && N 0 == 0) := rfl
theorem bl_pos {i : Nat} (h : 0 < i) : blO P H N i = (decide (0 ≤ P i) && decide (P i < (i : Int)) && H i == IntKind.i64.wrap (H (P i).toNat + 1)) := if_neg (by omega)
theorem bl_par {i : Nat} (h : blO P H N i = true) : -1 ≤ P i ∧ P i < (i : Int) := by
  by_cases c : i = 0
  · subst c
    rw [bl_zero] at h
    simp only [Bool.and_eq_true, beq_iff_eq] at h
    omega
  · rw [bl_pos (by omega)] at h
    simp only [Bool.and_eq_true, decide_eq_true_eq] at h
    omega
end
theorem tfP.ts {a : Option Addr} {n : Nat} {f : Nat → Nat → SC} (p : tfP a n f) : ∀ i, i < n → simC (f i 2) (f i 2) := fun i _ => by
  rw [p.tf i 2 (by omega)]; exact (p.tc i).refl
theorem tf_tr {a : Option Addr} {n : Nat} {f : Nat → Nat → SC} (p : tfP a n f) (hn : n ≤ 40) (h : trR (fun i => iAt f i 0) (fun i => iAt f i 1) (fun i => nAt (f i 2)) n = 0) : trP a n f :=
  ⟨by omega, p.ta, p.tf, p.tc, fun i hi => bl_par (tr_all h i hi)⟩
end Go.Proofs.Ytkggabbcigeieaa
end

section
namespace Go.Proofs.Ytkggabbcigeieaa
open Go.Sx
set_option maxRecDepth 100000
def loB (best fin : Int) (f : Bool) : Int := if f = true then fin else best
def loN (P H : Nat → Int) (N : Nat → Nat) (n : Nat) (best fin : Int) (f : Bool) : Nat := if trE P H N n best fin = 0 then lnN P (loB best fin f) else 0
def loG (P : Nat → Int) (best fin : Int) (f : Bool) (i : Nat) : Int := (lineT P (loB best fin f)).getD i 0
def loC : List (List FD) → List Prop
  | [[.x a n _ f, .i _, .i _], [.b _]] => [tfP a n f]
  | _ => [False]
def loR : List (List FD) → List RS
  | [[.x _ n _ f, .i b, .i fin], [.b x]] => [.s (loN (fun i => iAt f i 0) (fun i => iAt f i 1) (fun i => nAt (f i 2)) n b fin x) .i64 (loG (fun i => iAt f i 0) b fin x), .v (sI .i64 (trE (fun i => iAt f i 0) (fun i => iAt f i 1) (fun i => nAt (f i 2)) n b fin))]
  | _ => []
def seE (P H : Nat → Int) (N : Nat → Nat) (n : Nat) (best fin h : Int) : Int := if trE P H N n best fin ≠ 0 then trE P H N n best fin else if h < H fin.toNat ∨ H best.toNat < h then 6 else 0
def seF (P : Nat → Int) (best h : Int) : Int := (lineT P best).getD h.toNat 0
def kI (n : Int) : RK := .k (.c (.val (.int .i64 n)))
end Go.Proofs.Ytkggabbcigeieaa
end

section
namespace Go.Proofs.Ytkggabbcigeieaa
open Go.Sx
set_option maxRecDepth 100000
section
variable {P H : Nat → Int} {N : Nat → Nat} {n : Nat} {best fin : Int}
theorem tr_par (h : trR P H N n = 0) : ∀ i, i < n → -1 ≤ P i ∧ P i < (i : Int) := fun i hi => bl_par (tr_all h i hi)
theorem tr_high (hn : n ≤ 1000) (h : trR P H N n = 0) : ∀ k i, i < n → i < k → H i + 1 = (lnN P (i : Int) : Int)
  | 0, i, _, hk => absurd hk (Nat.not_lt_zero _)
  | k + 1, i, hi, hk => by
    have hP := tr_par h
    have es := ln_step hP (b := (i : Int)) (by omega) (by omega)
    rw [Int.toNat_natCast] at es
    have ho := tr_all h i hi
    by_cases c : i = 0
    · subst c
      rw [bl_zero] at ho
      simp only [Bool.and_eq_true, beq_iff_eq] at ho
      rw [es, ho.1.1, ln_neg (by omega), ho.1.2]; rfl
    · rw [bl_pos (by omega)] at ho
      simp only [Bool.and_eq_true, decide_eq_true_eq, beq_iff_eq] at ho
      obtain ⟨⟨h1, h2⟩, h3⟩ := ho
      have ih := tr_high hn h k (P i).toNat (by omega) (by omega)
      rw [Int.toNat_of_nonneg h1] at ih
      have hs := ln_small hn hP (b := P i) (by omega)
      rw [IntKind.wrap_i64] at h3
      omega
theorem tr_line (hn : n ≤ 1000) (h : trR P H N n = 0) {b : Int} (h0 : 0 ≤ b) (hb : b < (n : Int)) : H b.toNat + 1 = (lnN P b : Int) := by
  have := tr_high hn h (b.toNat + 1) b.toNat (by omega) (by omega)
  rwa [Int.toNat_of_nonneg h0] at this
theorem stO_self (hP : ∀ i, i < n → -1 ≤ P i ∧ P i < (i : Int)) {b : Int} (h0 : 0 ≤ b) (hb : b < (n : Int)) : stO P b b = true := by
  unfold stO
  rw [line_step hP h0 hb, List.any_append]
  simp
theorem bs_pos : ∀ {d : Nat} (e : Nat), d + e ≤ n → 0 ≤ bsD P H fin n d → 0 ≤ bsD P H fin n (d + e)
  | d, 0, _, h => h
  | d, e + 1, he, h => by
    have ih := bs_pos (d := d) e (by omega) h
    show 0 ≤ bsD P H fin n (d + e + 1)
    unfold bsD
    split
    · omega
    · exact ih
theorem bs_fin (hP : ∀ i, i < n → -1 ≤ P i ∧ P i < (i : Int)) (h0 : 0 ≤ fin) (hb : fin < (n : Int)) : 0 ≤ bsD P H fin n n := by
  have hd : 0 ≤ bsD P H fin n (n - 1 - fin.toNat + 1) := by
    unfold bsD
    rw [show (n : Int) - 1 - ((n - 1 - fin.toNat : Nat) : Int) = fin by omega, stO_self hP h0 hb, Bool.true_and]
    split
    · exact h0
    · rename_i c
      simp only [Bool.or_eq_true, decide_eq_true_eq] at c
      omega
  have := bs_pos (d := n - 1 - fin.toNat + 1) fin.toNat (by omega) hd
  rwa [show n - 1 - fin.toNat + 1 + fin.toNat = n by omega] at this
structure OkT (P H : Nat → Int) (N : Nat → Nat) (n : Nat) (best fin : Int) : Prop where
  pos : 0 < n
  few : n ≤ 40
  row : trR P H N n = 0
  fin0 : 0 ≤ fin
  fin1 : fin < (n : Int)
  bst : best = bsD P H fin n n
theorem okT_of (h : trE P H N n best fin = 0) : OkT P H N n best fin := by
  unfold trE at h
  split at h
  · cases h
  rename_i h1
  split at h
  · rename_i c; exact absurd h c
  rename_i h2
  split at h
  · cases h
  rename_i h3
  have h2 : trR P H N n = 0 := Classical.not_not.1 h2
  refine ⟨by omega, by omega, h2, by omega, by omega, Classical.byContradiction fun c => h3 (.inr (.inr c))⟩
theorem OkT.bst0 (h : OkT P H N n best fin) : 0 ≤ best := by rw [h.bst]; exact bs_fin (tr_par h.row) h.fin0 h.fin1
theorem OkT.bst1 (h : OkT P H N n best fin) : best < (n : Int) := by
  have := bs_in (P := P) (H := H) (fin := fin) (n := n) (d := n) (Nat.le_refl _)
  have := h.bst0
  have := h.bst
  omega
end
theorem OkT.tr {a : Option Addr} {n : Nat} {f : Nat → Nat → SC} {best fin : Int} (h : OkT (fun i => iAt f i 0) (fun i => iAt f i 1) (fun i => nAt (f i 2)) n best fin) (p : tfP a n f) : trP a n f := tf_tr p h.few h.row
theorem tfP.told {a : Option Addr} {n : Nat} {f : Nat → Nat → SC} (p : tfP a n f) : tfP a n (fTr f) :=
  ⟨p.tn, p.ta, fun i c hc => by
    rcases c with _ | _ | _ | c
    · rfl
    · rfl
    · rfl
    · omega, fun i hi => p.tm i hi, fun i => p.tc i⟩
end Go.Proofs.Ytkggabbcigeieaa
end

section
namespace Go.Proofs.Ytkggabbcigeieaa
open Go.Sx
set_option maxRecDepth 100000
abbrev xTr (a : Option Addr) (n cap : Nat) (f : Nat → Nat → SC) : SA := .sc (.xs a n cap 3 f)
def hsC : List (List FD) → List Prop
  | [[.x _ n _ _, .i _, .i _], [.i _]] => [n ≤ maxLen]
  | _ => [False]
def hsB (n : Nat) (p : Int) : Bool := decide (0 ≤ p) && decide (p < (n : Int))
def hsG : List (List FD) → List RS
  | [[.x _ n _ _, .i _, .i _], [.i p]] => [.v (sB (hsB n p))]
  | _ => []
def cHs : SSpec := specQ0 false [pqTr, .one (.i .i64)] hsC hsG
def fiC : List (List FD) → List Prop
  | [[.x a n _ f], [.i b]] => [tfP a n f, 0 ≤ b, b < (n : Int)]
  | _ => [False]
def fiG : List (List FD) → List RS
  | [[.x _ _ _ f], [.i b]] => [.v (sB (blO (fun i => iAt f i 0) (fun i => iAt f i 1) (fun i => nAt (f i 2)) b.toNat))]
  | _ => []
def cFi : SSpec := specQ0 false [.one (.x 3), .one (.i .i64)] fiC fiG
def stC : List (List FD) → List Prop
  | [[.x a n _ f], [.i b], [.i r]] => [trP a n f, 0 ≤ b, b < (n : Int), 0 ≤ r]
  | _ => [False]
def stG : List (List FD) → List RS
  | [[.x _ _ _ f], [.i b], [.i r]] => [.v (sB (stO (fun i => iAt f i 0) b r))]
  | _ => []
def cSt : SSpec := specQ0 false [.one (.x 3), .one (.i .i64), .one (.i .i64)] stC stG
def invSt (a : Option Addr) (n cap : Nat) (P H : Nat → Int) (A : Nat → Option Addr) (N C : Nat → Nat) (X : Nat → Nat → Nat → SC) (b r : Int) : Inv where
  X := Int
  tm y := slotsAt 18 [(0, .one (xTr a n cap (blkF P H A N C X))), (1, .one (sI .i64 y)), (2, .one (sI .i64 r))]
  ob _ := []
  holds y := -1 ≤ y ∧ y < (n : Int) ∧ stO P y r = stO P b r
  less y := (y + 1).toNat
def beD (P H : Nat → Int) (fin : Int) : Nat → Int
  | 0 => fin
  | d + 1 => if decide (H (beD P H fin d).toNat < H d) && stO P (d : Int) fin then (d : Int) else beD P H fin d
def beC : List (List FD) → List Prop
  | [[.x a n _ f, .i _, .i fin]] => [trP a n f, 0 ≤ fin, fin < (n : Int)]
  | _ => [False]
def beG : List (List FD) → List RS
  | [[.x _ n _ f, .i _, .i fin]] => [.v (sI .i64 (beD (fun i => iAt f i 0) (fun i => iAt f i 1) fin n))]
  | _ => []
def cBe : SSpec := specQ0 false [pqTr] beC beG
def pxT (a : Option Addr) (n cap : Nat) (f : Nat → Nat → SC) (best fin : Int) (p : Addr) : SV := .one (.sc (.px p 3 (fun c => ([.xs a n cap 3 f, .val (.int .i64 best), .val (.int .i64 fin)] : List SC).getD c (.bit false))))
def invBe (a : Option Addr) (n cap : Nat) (P H : Nat → Int) (A : Nat → Option Addr) (N C : Nat → Nat) (X : Nat → Nat → Nat → SC) (best fin : Int) : Inv where
  X := Nat × Addr
  tm d := slotsAt 36 [(1, pxT a n cap (blkF P H A N C X) best fin d.2), (3, .one (sI .i64 (beD P H fin d.1))), (9, .one (xTr a n cap (blkF P H A N C X))), (10, .one (sI .i64 (n : Int))), (11, .one (sI .i64 (d.1 : Int)))]
  ob _ := []
  holds d := d.1 ≤ n
  less d := n - d.1
def slBe : List (Nat × SSpec) := [(17, cSt)]
def cCk : SSpec := specQ0 false [pqTr] tfC tfG
def invCk (a : Option Addr) (n cap : Nat) (P H : Nat → Int) (A : Nat → Option Addr) (N C : Nat → Nat) (X : Nat → Nat → Nat → SC) (best fin : Int) : Inv where
  X := Nat × Addr
  tm d := slotsAt 45 [(1, pxT a n cap (blkF P H A N C X) best fin d.2), (16, .one (xTr a n cap (blkF P H A N C X))), (17, .one (sI .i64 (n : Int))), (18, .one (sI .i64 (d.1 : Int)))]
  ob _ := []
  holds d := d.1 ≤ n ∧ trR P H N d.1 = 0
  less d := n - d.1
def slCk : List (Nat × SSpec) := [(20, cFi), (16, cHs), (18, cBe)]
def liC : List (List FD) → List Prop
  | [[.x a n _ f], [.i b]] => [trP a n f, trR (fun i => iAt f i 0) (fun i => iAt f i 1) (fun i => nAt (f i 2)) n = 0, 0 ≤ b, b < (n : Int)]
  | _ => [False]
def liR (P : Nat → Int) (b : Int) : List RS := [.s (lnN P b) .i64 (fun i => (lineT P b).getD i 0)]
def liG : List (List FD) → List RS
  | [[.x _ _ _ f], [.i b]] => liR (fun i => iAt f i 0) b
  | _ => []
def cLi : SSpec := specQ0 false [.one (.x 3), .one (.i .i64)] liC liG
def liW (P : Nat → Int) (b y : Int) (i _ : Nat) : SC := .val (.int .i64 (if i < lnN P y then 0 else (lineT P b).getD i 0))
def invLi (a : Option Addr) (n cap : Nat) (P H : Nat → Int) (A : Nat → Option Addr) (N C : Nat → Nat) (X : Nat → Nat → Nat → SC) (b : Int) : Inv where
  X := Int
  tm y := slotsAt 31 [(0, .one (xTr a n cap (blkF P H A N C X))), (5, .one (.sc (.slw 0 1 0 (lnN P b) (lnN P b)))), (6, .one (sI .i64 y))]
  ob y := [.row 3 1 (lnN P b) (liW P b y) 0]
  holds y := -1 ≤ y ∧ y < (n : Int) ∧ lnN P y ≤ lnN P b ∧ lineT P y = (lineT P b).take (lnN P y)
  less y := (y + 1).toNat
def slLn : List (Nat × SSpec) := [(12, cCk), (15, cLi)]
def cLn : SSpec := specQ0 true [pqTr, .one .b] loC loR
theorem vc_hs (a : Option Addr) (n cap : Nat) (f : Nat → Nat → SC) (best fin p : Int) :
    OwesR Try.prog cxBo [] [] 4 Try.f16 [sTr a n cap f best fin, sI .i64 p] false [.v (sB (hsB n p))] =
    (let x1 : Bool := Decidable.decide (p ≥ (0 : Int)); let x2 : Prop := x1 = Bool.true; ∀ (_ : Go.Addr), (x2 → x2) ∧ (x2 → x2) ∧ (x2 → x2) ∧ (x2 → x2) ∧ (x2 → x2) ∧ (x1 && Decidable.decide (p < (↑n : Int))) = hsB n p) := by kernel_rfl
theorem vc_fi (a : Option Addr) (n cap : Nat) (P H : Nat → Int) (A : Nat → Option Addr) (N C : Nat → Nat) (X : Nat → Nat → Nat → SC) (b : Int) :
    OwesR Try.prog cxBo [] [] 4 Try.f20 [xTr a n cap (blkF P H A N C X), sI .i64 b] false [.v (sB (blO P H N b.toNat))] =
    (let x1 : Bool := P b.toNat == (-1 : Int); let x2 : Prop := x1 = Bool.true; let x3 : Bool := x1 && H b.toNat == (0 : Int); let x4 : Prop := x3 = Bool.true; let x5 : Bool := Decidable.decide (P b.toNat ≥ (0 : Int)); let x6 : Prop := x5 = Bool.true; let x7 : Bool := x5 && Decidable.decide (P b.toNat < b); let x8 : Prop := x7 = Bool.true; ((0 : Int) ≤ b ∧ b < (↑n : Int)) ∧ ((b == (0 : Int)) = Bool.true → (x2 → x2) ∧ (x2 → x2) ∧ (x2 → x2) ∧ (x4 → x4) ∧ (x4 → x4) ∧ (x4 → x4) ∧ (x4 → x4) ∧ (x3 && (↑(N b.toNat) : Int) == (0 : Int)) = blO P H N b.toNat) ∧ ((b == (0 : Int)) = Bool.false → (x6 → x6) ∧ (x6 → x6) ∧ (x6 → x6) ∧ (x6 → x6) ∧ (x8 → x8) ∧ (x8 → x8) ∧ (x8 → x8) ∧ (x8 → x8) ∧ (x8 → (0 : Int) ≤ P b.toNat ∧ P b.toNat < (↑n : Int)) ∧ (x8 → x8) ∧ (x8 → x8) ∧ (x8 → x8) ∧ (x8 → x8) ∧ (x8 → x8) ∧ (x8 → x8) ∧ (x7 && H b.toNat == Go.IntKind.i64.wrap (H (P b.toNat).toNat + (1 : Int))) = blO P H N b.toNat)) := by kernel_rfl
theorem vc_st (a : Option Addr) (n cap : Nat) (P H : Nat → Int) (A : Nat → Option Addr) (N C : Nat → Nat) (X : Nat → Nat → Nat → SC) (b r : Int) :
    OwesR Try.prog .none [] [(1, .inv (invSt a n cap P H A N C X b r))] 4 Try.f17 [xTr a n cap (blkF P H A N C X), sI .i64 b, sI .i64 r] false [.v (sB (stO P b r))] =
    ((∀ (y : Int), closedB (slotsAt 18 [(0, SV.one (xTr a n cap (blkF P H A N C X))), (1, SV.one (sI Go.IntKind.i64 y)), (2, SV.one (sI Go.IntKind.i64 r))]) [] = Bool.true) ∧ ∃ (y : Int), ((-1 : Int) ≤ y ∧ y < (↑n : Int) ∧ stO P y r = stO P b r) ∧ simC (SC.xs a n cap 3 (blkF P H A N C X)) (SC.xs a n cap 3 (blkF P H A N C X)) ∧ b = y ∧ r = r ∧ ∀ (y : Int), (-1 : Int) ≤ y ∧ y < (↑n : Int) ∧ stO P y r = stO P b r → (Decidable.decide (y > r) = Bool.true → ((0 : Int) ≤ y ∧ y < (↑n : Int)) ∧ ∃ (y' : Int), ((-1 : Int) ≤ y' ∧ y' < (↑n : Int) ∧ stO P y' r = stO P b r) ∧ simC (SC.xs a n cap 3 (blkF P H A N C X)) (SC.xs a n cap 3 (blkF P H A N C X)) ∧ P y.toNat = y' ∧ r = r ∧ (y' + (1 : Int)).toNat.succ.le (y + (1 : Int)).toNat) ∧ (Decidable.decide (y > r) = Bool.false → (y == r) = stO P b r)) := by kernel_rfl
theorem vc_be (a : Option Addr) (n cap : Nat) (P H : Nat → Int) (A : Nat → Option Addr) (N C : Nat → Nat) (X : Nat → Nat → Nat → SC) (best fin : Int) :
    OwesR Try.prog cxBo slBe [(3, .inv (invBe a n cap P H A N C X best fin))] 4 Try.f18 [sTr a n cap (blkF P H A N C X) best fin] false [.v (sI .i64 (beD P H fin n))] =
    (let x1 : Prop := simC ([SC.xs a n cap 3 (blkF P H A N C X), SC.val (Go.Value.int Go.IntKind.i64 best), SC.val (Go.Value.int Go.IntKind.i64 fin)].getD 0 (SC.bit Bool.false)) ([SC.xs a n cap 3 (blkF P H A N C X), SC.val (Go.Value.int Go.IntKind.i64 best), SC.val (Go.Value.int Go.IntKind.i64 fin)].getD 0 (SC.bit Bool.false)) ∧ simC ([SC.xs a n cap 3 (blkF P H A N C X), SC.val (Go.Value.int Go.IntKind.i64 best), SC.val (Go.Value.int Go.IntKind.i64 fin)].getD 1 (SC.bit Bool.false)) ([SC.xs a n cap 3 (blkF P H A N C X), SC.val (Go.Value.int Go.IntKind.i64 best), SC.val (Go.Value.int Go.IntKind.i64 fin)].getD 1 (SC.bit Bool.false)) ∧ fin = fin; ∀ (a_1 : Go.Addr), (∀ (y : Nat × Go.Addr), closedB (slotsAt 36 [(1, pxT a n cap (blkF P H A N C X) best fin y.snd), (3, SV.one (sI Go.IntKind.i64 (beD P H fin y.fst))), (9, SV.one (xTr a n cap (blkF P H A N C X))), (10, SV.one (sI Go.IntKind.i64 (↑n : Int))), (11, SV.one (sI Go.IntKind.i64 (↑y.fst : Int)))]) [] = Bool.true) ∧ ∃ (y : Nat × Go.Addr), y.fst ≤ n ∧ (a_1 = y.snd ∧ simC ((flat (toKs (sTr a n cap (blkF P H A N C X) best fin))).getD 0 (SC.bit Bool.false)) ([SC.xs a n cap 3 (blkF P H A N C X), SC.val (Go.Value.int Go.IntKind.i64 best), SC.val (Go.Value.int Go.IntKind.i64 fin)].getD 0 (SC.bit Bool.false)) ∧ simC ((flat (toKs (sTr a n cap (blkF P H A N C X) best fin))).getD 1 (SC.bit Bool.false)) ([SC.xs a n cap 3 (blkF P H A N C X), SC.val (Go.Value.int Go.IntKind.i64 best), SC.val (Go.Value.int Go.IntKind.i64 fin)].getD 1 (SC.bit Bool.false)) ∧ fin = fin) ∧ fin = beD P H fin y.fst ∧ simC (SC.xs a n cap 3 (blkF P H A N C X)) (SC.xs a n cap 3 (blkF P H A N C X)) ∧ (↑n : Int) = (↑n : Int) ∧ (0 : Int) = (↑y.fst : Int) ∧ ∀ (y : Nat × Go.Addr), let x101 : Prop := Decidable.decide (H (↑y.fst : Int).toNat > H (beD P H fin y.fst).toNat) = Bool.true; let x102 : Prop := ∃ (y' : Nat × Go.Addr), y'.fst ≤ n ∧ (y.snd = y'.snd ∧ x1) ∧ beD P H fin y.fst = beD P H fin y'.fst ∧ simC (SC.xs a n cap 3 (blkF P H A N C X)) (SC.xs a n cap 3 (blkF P H A N C X)) ∧ (↑n : Int) = (↑n : Int) ∧ Go.IntKind.i64.wrap ((↑y.fst : Int) + (1 : Int)) = (↑y'.fst : Int) ∧ (n - y'.fst).succ.le (n - y.fst); y.fst ≤ n → (Decidable.decide ((↑y.fst : Int) < (↑n : Int)) = Bool.true → ((0 : Int) ≤ (↑y.fst : Int) ∧ (↑y.fst : Int) < (↑n : Int)) ∧ ((0 : Int) ≤ beD P H fin y.fst ∧ beD P H fin y.fst < (↑n : Int)) ∧ (x101 → x101) ∧ (x101 → x101) ∧ (x101 → x101 ∧ x101 ∧ x101 ∧ trP a n (blkF P H A N C X) ∧ (0 : Int) ≤ (↑y.fst : Int) ∧ (↑y.fst : Int) < (↑n : Int) ∧ (0 : Int) ≤ fin ∧ (stO (fun (i : Nat) => iAt (blkF P H A N C X) i 0) (↑y.fst : Int) fin = Bool.true → ∃ (y' : Nat × Go.Addr), y'.fst ≤ n ∧ (y.snd = y'.snd ∧ x1) ∧ (↑y.fst : Int) = beD P H fin y'.fst ∧ simC (SC.xs a n cap 3 (blkF P H A N C X)) (SC.xs a n cap 3 (blkF P H A N C X)) ∧ (↑n : Int) = (↑n : Int) ∧ Go.IntKind.i64.wrap ((↑y.fst : Int) + (1 : Int)) = (↑y'.fst : Int) ∧ (n - y'.fst).succ.le (n - y.fst)) ∧ (stO (fun (i : Nat) => iAt (blkF P H A N C X) i 0) (↑y.fst : Int) fin = Bool.false → x102)) ∧ (Decidable.decide (H (↑y.fst : Int).toNat > H (beD P H fin y.fst).toNat) = Bool.false → x102)) ∧ (Decidable.decide ((↑y.fst : Int) < (↑n : Int)) = Bool.false → beD P H fin y.fst = beD P H fin n)) := by kernel_rfl
theorem vc_ck (a : Option Addr) (n cap : Nat) (P H : Nat → Int) (A : Nat → Option Addr) (N C : Nat → Nat) (X : Nat → Nat → Nat → SC) (best fin r : Int) :
    OwesR Try.prog cxBo slCk [(4, .inv (invCk a n cap P H A N C X best fin))] 4 Try.f12 [sTr a n cap (blkF P H A N C X) best fin] false [.v (sI .i64 r)] =
    (let x1 : Bool := Decidable.decide ((↑n : Int) < (1 : Int)); let x2 : Prop := (!x1) = Bool.true; let x3 : Prop := ((!!hsB n fin) = Bool.true → (!!hsB n fin) = Bool.true ∧ trP a n (blkF P H A N C X) ∧ (0 : Int) ≤ fin ∧ fin < (↑n : Int) ∧ (!!hsB n fin) = Bool.true ∧ ((best != beD (fun (i : Nat) => iAt (blkF P H A N C X) i 0) (fun (i : Nat) => iAt (blkF P H A N C X) i 1) fin n) = Bool.true → (12 : Int) = r) ∧ ((best != beD (fun (i : Nat) => iAt (blkF P H A N C X) i 0) (fun (i : Nat) => iAt (blkF P H A N C X) i 1) fin n) = Bool.false → (0 : Int) = r)) ∧ ((!!hsB n fin) = Bool.false → (12 : Int) = r); ∀ (a_1 : Go.Addr), (x2 → x2) ∧ (x2 → x2) ∧ (x2 → x2) ∧ (x1 = Bool.false → x2) ∧ ((x1 || Decidable.decide ((↑n : Int) > (40 : Int))) = Bool.true → (1 : Int) = r) ∧ ((x1 || Decidable.decide ((↑n : Int) > (40 : Int))) = Bool.false → (∀ (y : Nat × Go.Addr), closedB (slotsAt 45 [(1, pxT a n cap (blkF P H A N C X) best fin y.snd), (16, SV.one (xTr a n cap (blkF P H A N C X))), (17, SV.one (sI Go.IntKind.i64 (↑n : Int))), (18, SV.one (sI Go.IntKind.i64 (↑y.fst : Int)))]) [] = Bool.true) ∧ ∃ (y : Nat × Go.Addr), (y.fst ≤ n ∧ trR P H N y.fst = (0 : Int)) ∧ (a_1 = y.snd ∧ simC ((flat (toKs (sTr a n cap (blkF P H A N C X) best fin))).getD 0 (SC.bit Bool.false)) ([SC.xs a n cap 3 (blkF P H A N C X), SC.val (Go.Value.int Go.IntKind.i64 best), SC.val (Go.Value.int Go.IntKind.i64 fin)].getD 0 (SC.bit Bool.false)) ∧ simC ((flat (toKs (sTr a n cap (blkF P H A N C X) best fin))).getD 1 (SC.bit Bool.false)) ([SC.xs a n cap 3 (blkF P H A N C X), SC.val (Go.Value.int Go.IntKind.i64 best), SC.val (Go.Value.int Go.IntKind.i64 fin)].getD 1 (SC.bit Bool.false)) ∧ fin = fin) ∧ simC (SC.xs a n cap 3 (blkF P H A N C X)) (SC.xs a n cap 3 (blkF P H A N C X)) ∧ (↑n : Int) = (↑n : Int) ∧ (0 : Int) = (↑y.fst : Int) ∧ ∀ (y : Nat × Go.Addr), y.fst ≤ n ∧ trR P H N y.fst = (0 : Int) → (Decidable.decide ((↑y.fst : Int) < (↑n : Int)) = Bool.true → ((0 : Int) ≤ (↑y.fst : Int) ∧ (↑y.fst : Int) < (↑n : Int)) ∧ (Decidable.decide ((↑(N (↑y.fst : Int).toNat) : Int) > (6 : Int)) = Bool.true → (1 : Int) = r) ∧ (Decidable.decide ((↑(N (↑y.fst : Int).toNat) : Int) > (6 : Int)) = Bool.false → tfP a n (blkF P H A N C X) ∧ (0 : Int) ≤ (↑y.fst : Int) ∧ (↑y.fst : Int) < (↑n : Int) ∧ ((!blO (fun (i : Nat) => iAt (blkF P H A N C X) i 0) (fun (i : Nat) => iAt (blkF P H A N C X) i 1) (fun (i : Nat) => nAt (blkF P H A N C X i 2)) (↑y.fst : Int).toNat) = Bool.true → (12 : Int) = r) ∧ ((!blO (fun (i : Nat) => iAt (blkF P H A N C X) i 0) (fun (i : Nat) => iAt (blkF P H A N C X) i 1) (fun (i : Nat) => nAt (blkF P H A N C X i 2)) (↑y.fst : Int).toNat) = Bool.false → ∃ (y' : Nat × Go.Addr), (y'.fst ≤ n ∧ trR P H N y'.fst = (0 : Int)) ∧ (y.snd = y'.snd ∧ simC ([SC.xs a n cap 3 (blkF P H A N C X), SC.val (Go.Value.int Go.IntKind.i64 best), SC.val (Go.Value.int Go.IntKind.i64 fin)].getD 0 (SC.bit Bool.false)) ([SC.xs a n cap 3 (blkF P H A N C X), SC.val (Go.Value.int Go.IntKind.i64 best), SC.val (Go.Value.int Go.IntKind.i64 fin)].getD 0 (SC.bit Bool.false)) ∧ simC ([SC.xs a n cap 3 (blkF P H A N C X), SC.val (Go.Value.int Go.IntKind.i64 best), SC.val (Go.Value.int Go.IntKind.i64 fin)].getD 1 (SC.bit Bool.false)) ([SC.xs a n cap 3 (blkF P H A N C X), SC.val (Go.Value.int Go.IntKind.i64 best), SC.val (Go.Value.int Go.IntKind.i64 fin)].getD 1 (SC.bit Bool.false)) ∧ fin = fin) ∧ simC (SC.xs a n cap 3 (blkF P H A N C X)) (SC.xs a n cap 3 (blkF P H A N C X)) ∧ (↑n : Int) = (↑n : Int) ∧ Go.IntKind.i64.wrap ((↑y.fst : Int) + (1 : Int)) = (↑y'.fst : Int) ∧ (n - y'.fst).succ.le (n - y.fst)))) ∧ (Decidable.decide ((↑y.fst : Int) < (↑n : Int)) = Bool.false → n ≤ Go.maxLen ∧ (((!!hsB n fin) = Bool.true → (!!hsB n fin) = Bool.true) ∧ x3) ∧ x3))) := by kernel_rfl
theorem vc_li (a : Option Addr) (n cap : Nat) (P H : Nat → Int) (A : Nat → Option Addr) (N C : Nat → Nat) (X : Nat → Nat → Nat → SC) (b : Int) :
    OwesR Try.prog .none [] [(3, .inv (invLi a n cap P H A N C X b))] 4 Try.f15 [xTr a n cap (blkF P H A N C X), sI .i64 b] false (liR P b) =
    (let x1 : Int := Go.IntKind.i64.wrap (H b.toNat + (1 : Int)); let x2 : Nat := x1.toNat; let x3 : Prop := x2 = lnN P b; ((0 : Int) ≤ b ∧ b < (↑n : Int)) ∧ ((0 : Int) ≤ x1 ∧ x1 ≤ x1 ∧ (8 : Int) * x1 ≤ (281474976710656 : Int) ∧ x1 ≤ (9223372036854775807 : Int)) ∧ (∀ (y : Int), closedB (slotsAt 31 [(0, SV.one (xTr a n cap (blkF P H A N C X))), (5, SV.one (SA.sc (SC.slw 0 1 0 (lnN P b) (lnN P b)))), (6, SV.one (sI Go.IntKind.i64 y))]) [SO.row (3 : Go.TypeId) 1 (lnN P b) (liW P b y) 0] = Bool.true) ∧ ∃ (y : Int), ((-1 : Int) ≤ y ∧ y < (↑n : Int) ∧ lnN P y ≤ lnN P b ∧ lineT P y = List.take (lnN P y) (lineT P b)) ∧ simC (SC.xs a n cap 3 (blkF P H A N C X)) (SC.xs a n cap 3 (blkF P H A N C X)) ∧ (0 = 0 ∧ 1 = 1 ∧ 0 = 0 ∧ x3 ∧ x3) ∧ b = y ∧ x3 ∧ (x2 - x2) * 1 = 0 ∧ (∀ (i : Nat), i < x2 → allC 1 fun (c : Nat) => simC ((flat (List.map litC (Go.Value.int Go.IntKind.i64 (0 : Int)).cells.toList)).getD c (SC.bit Bool.false)) (liW P b y i c)) ∧ ∀ (y : Int), (-1 : Int) ≤ y ∧ y < (↑n : Int) ∧ lnN P y ≤ lnN P b ∧ lineT P y = List.take (lnN P y) (lineT P b) → (Decidable.decide (y ≥ (0 : Int)) = Bool.true → ((0 : Int) ≤ y ∧ y < (↑n : Int)) ∧ ((0 : Int) ≤ H y.toNat ∧ H y.toNat < (↑(lnN P b) : Int)) ∧ 0 + (H y.toNat).toNat < lnN P b ∧ ((0 : Int) ≤ y ∧ y < (↑n : Int)) ∧ ∃ (y' : Int), ((-1 : Int) ≤ y' ∧ y' < (↑n : Int) ∧ lnN P y' ≤ lnN P b ∧ lineT P y' = List.take (lnN P y') (lineT P b)) ∧ simC (SC.xs a n cap 3 (blkF P H A N C X)) (SC.xs a n cap 3 (blkF P H A N C X)) ∧ (0 = 0 ∧ 1 = 1 ∧ 0 = 0 ∧ lnN P b = lnN P b ∧ lnN P b = lnN P b) ∧ P y.toNat = y' ∧ lnN P b = lnN P b ∧ 0 = 0 ∧ (∀ (i : Nat), i < lnN P b → allC 1 fun (c : Nat) => simC (setG (liW P b y) (0 + (H y.toNat).toNat) 0 (flat (toKs (sI Go.IntKind.i64 y))) i c) (liW P b y' i c)) ∧ (y' + (1 : Int)).toNat.succ.le (y + (1 : Int)).toNat) ∧ (Decidable.decide (y ≥ (0 : Int)) = Bool.false → 0 + lnN P b ≤ lnN P b ∧ lnN P b = lnN P b ∧ lnN P b ≤ lnN P b ∧ ∀ (i : Nat), i < lnN P b → (if 0 + i < lnN P y then (0 : Int) else (lineT P b).getD (0 + i) (0 : Int)) = (lineT P b).getD i (0 : Int))) := by kernel_rfl
theorem vc_ln (a : Option Addr) (n cap : Nat) (P H : Nat → Int) (A : Nat → Option Addr) (N C : Nat → Nat) (X : Nat → Nat → Nat → SC) (best fin : Int) (x : Bool) :
    OwesR Try.prog cxBo slLn [] 4 Try.f7 [sTr a n cap (blkF P H A N C X) best fin, sB x] true [.s (loN P H N n best fin x) .i64 (loG P best fin x), .v (sI .i64 (trE P H N n best fin))] =
    (let x1 : Int := trE (fun (i : Nat) => iAt (blkF P H A N C X) i 0) (fun (i : Nat) => iAt (blkF P H A N C X) i 1) (fun (i : Nat) => nAt (blkF P H A N C X i 2)) n best fin; let x2 : Nat := lnN (fun (i : Nat) => iAt (blkF P H A N C X) i 0) fin; let x3 : Prop := (0 : Int) = trE P H N n best fin; let x4 : Nat := lnN (fun (i : Nat) => iAt (blkF P H A N C X) i 0) best; ∀ (_ : Go.Addr), tfP a n (blkF P H A N C X) ∧ ((x1 != (0 : Int)) = Bool.true → loN P H N n best fin x = 0 ∧ x1 = trE P H N n best fin) ∧ ((x1 != (0 : Int)) = Bool.false → (x = Bool.true → trP a n (blkF P H A N C X) ∧ trR (fun (i : Nat) => iAt (blkF P H A N C X) i 0) (fun (i : Nat) => iAt (blkF P H A N C X) i 1) (fun (i : Nat) => nAt (blkF P H A N C X i 2)) n = (0 : Int) ∧ (0 : Int) ≤ fin ∧ fin < (↑n : Int) ∧ ∀ (a : Option Go.Addr) (cap : Nat), (a = Option.none → x2 = 0 ∧ cap = 0) → x2 ≤ cap → (x2 = loN P H N n best fin x ∧ ∀ (i : Nat), i < loN P H N n best fin x → (lineT (fun (i : Nat) => iAt (blkF P H A N C X) i 0) fin).getD i (0 : Int) = loG P best fin x i) ∧ x3) ∧ (x = Bool.false → trP a n (blkF P H A N C X) ∧ trR (fun (i : Nat) => iAt (blkF P H A N C X) i 0) (fun (i : Nat) => iAt (blkF P H A N C X) i 1) (fun (i : Nat) => nAt (blkF P H A N C X i 2)) n = (0 : Int) ∧ (0 : Int) ≤ best ∧ best < (↑n : Int) ∧ ∀ (a : Option Go.Addr) (cap : Nat), (a = Option.none → x4 = 0 ∧ cap = 0) → x4 ≤ cap → (x4 = loN P H N n best fin x ∧ ∀ (i : Nat), i < loN P H N n best fin x → (lineT (fun (i : Nat) => iAt (blkF P H A N C X) i 0) best).getD i (0 : Int) = loG P best fin x i) ∧ x3))) := by kernel_rfl
end Go.Proofs.Ytkggabbcigeieaa
end

section
namespace Go.Proofs.Ytkggabbcigeieaa
open Go.Sx
set_option maxRecDepth 100000
section
variable {P H : Nat → Int} {n : Nat}
theorem stO_step (hP : ∀ i, i < n → -1 ≤ P i ∧ P i < (i : Int)) {b r : Int} (h0 : 0 ≤ b) (hb : b < (n : Int)) : stO P b r = (stO P (P b.toNat) r || b == r) := by
  unfold stO
  rw [line_step hP h0 hb, List.any_append]
  simp
theorem stO_neg {b r : Int} (h : b < 0) : stO P b r = false := by unfold stO; rw [line_neg h]; rfl
theorem stO_low (hP : ∀ i, i < n → -1 ≤ P i ∧ P i < (i : Int)) {r : Int} : ∀ (k : Nat) (b : Int), b < (n : Int) → b < (k : Int) → b < r → stO P b r = false
  | 0, b, _, h, _ => stO_neg (by omega)
  | k + 1, b, hb, h, hr => by
    by_cases c : b < 0
    · exact stO_neg c
    · have q := hP b.toNat (by omega)
      rw [stO_step hP (by omega) hb, stO_low hP k (P b.toNat) (by omega) (by omega) (by omega), Bool.false_or]
      exact beq_eq_false_iff_ne.2 (by omega)
theorem stO_lt (hP : ∀ i, i < n → -1 ≤ P i ∧ P i < (i : Int)) {b r : Int} (hb : b < (n : Int)) (h : b < r) : stO P b r = false := stO_low hP (b + 1).toNat b hb (by omega) h
theorem stO_le (hP : ∀ i, i < n → -1 ≤ P i ∧ P i < (i : Int)) {b r : Int} (hr : 0 ≤ r) (hb : b < (n : Int)) (h : b ≤ r) : stO P b r = (b == r) := by
  by_cases c : b < 0
  · rw [stO_neg c]; exact (beq_eq_false_iff_ne.2 (by omega)).symm
  · have q := hP b.toNat (by omega)
    rw [stO_step hP (by omega) hb, stO_lt hP (by omega) (by omega), Bool.false_or]
structure Top (P H : Nat → Int) (fin : Int) (n lo hi : Nat) (r : Int) : Prop where
  t0 : 0 ≤ r
  t1 : r < (n : Int)
  on : stO P r fin = true
  most : ∀ j : Nat, lo ≤ j → j < hi → stO P (j : Int) fin = true → H j ≤ H r.toNat ∧ ((j : Int) < r → H j < H r.toNat)
theorem be_top (hP : ∀ i, i < n → -1 ≤ P i ∧ P i < (i : Int)) {fin : Int} (h0 : 0 ≤ fin) (hb : fin < (n : Int)) : ∀ d : Nat, d ≤ n → Top P H fin n 0 d (beD P H fin d) ∧ (beD P H fin d = fin ∨ beD P H fin d < (d : Int))
  | 0, _ => ⟨⟨h0, hb, stO_self hP h0 hb, fun j _ hj => absurd hj (Nat.not_lt_zero j)⟩, .inl rfl⟩
  | d + 1, hd => by
    obtain ⟨ih, ihf⟩ := be_top hP h0 hb d (by omega)
    by_cases c : (decide (H (beD P H fin d).toNat < H d) && stO P (d : Int) fin) = true
    · have e : beD P H fin (d + 1) = (d : Int) := if_pos c
      simp only [Bool.and_eq_true, decide_eq_true_eq] at c
      rw [e]
      refine ⟨⟨by omega, by omega, c.2, fun j _ hj hs => ?_⟩, .inr (by omega)⟩
      rw [Int.toNat_natCast]
      by_cases k : j = d
      · subst k; exact ⟨Int.le_refl _, fun h => by omega⟩
      · have := (ih.most j (Nat.zero_le _) (by omega) hs).1
        exact ⟨by omega, fun _ => by omega⟩
    · have e : beD P H fin (d + 1) = beD P H fin d := if_neg c
      rw [e]
      refine ⟨⟨ih.t0, ih.t1, ih.on, fun j hj0 hj hs => ?_⟩, ihf.imp id fun h => by omega⟩
      by_cases k : j = d
      · subst k
        rw [hs, Bool.and_true, decide_eq_true_eq] at c
        refine ⟨by omega, fun h => ?_⟩
        rcases ihf with f | f
        · rw [f] at h
          rw [stO_lt hP (by omega) h] at hs
          cases hs
        · omega
      · exact ih.most j hj0 (by omega) hs
theorem bs_top (hP : ∀ i, i < n → -1 ≤ P i ∧ P i < (i : Int)) {fin : Int} : ∀ d : Nat, d ≤ n → (bsD P H fin n d = -1 ∧ ∀ j : Nat, n - d ≤ j → j < n → stO P (j : Int) fin = false) ∨ Top P H fin n (n - d) n (bsD P H fin n d)
  | 0, _ => .inl ⟨rfl, fun j h1 h2 => by omega⟩
  | d + 1, hd => by
    have ih := bs_top hP (fin := fin) d (by omega)
    have ei : (n : Int) - 1 - (d : Int) = ((n - 1 - d : Nat) : Int) := by omega
    by_cases c : (stO P ((n : Int) - 1 - (d : Int)) fin && (decide (bsD P H fin n d < 0) || decide (H (bsD P H fin n d).toNat ≤ H (n - 1 - d)))) = true
    · have e : bsD P H fin n (d + 1) = (n : Int) - 1 - (d : Int) := if_pos c
      simp only [Bool.and_eq_true, Bool.or_eq_true, decide_eq_true_eq] at c
      right
      rw [e]
      refine ⟨by omega, by omega, c.1, fun j h1 h2 hs => ?_⟩
      rw [ei, Int.toNat_natCast]
      by_cases k : j = n - 1 - d
      · subst k; exact ⟨Int.le_refl _, fun h => by omega⟩
      · rcases ih with ⟨_, i2⟩ | ih
        · rw [i2 j (by omega) h2] at hs; cases hs
        · have := (ih.most j (by omega) h2 hs).1
          have := ih.t0
          exact ⟨by omega, fun h => by omega⟩
    · have e : bsD P H fin n (d + 1) = bsD P H fin n d := if_neg c
      rw [e]
      rcases ih with ⟨i1, i2⟩ | ih
      · left
        refine ⟨i1, fun j h1 h2 => ?_⟩
        by_cases k : j = n - 1 - d
        · subst k
          rw [i1] at c
          rw [← ei]
          cases hs : stO P ((n : Int) - 1 - (d : Int)) fin
          · rfl
          · rw [hs] at c; simp at c
        · exact i2 j (by omega) h2
      · right
        refine ⟨ih.t0, ih.t1, ih.on, fun j h1 h2 hs => ?_⟩
        by_cases k : j = n - 1 - d
        · subst k
          rw [← ei] at hs
          rw [hs, Bool.true_and, Bool.or_eq_true, decide_eq_true_eq, decide_eq_true_eq] at c
          exact ⟨by omega, fun _ => by omega⟩
        · exact ih.most j (by omega) h2 hs
theorem top_one {fin r r' : Int} (h : Top P H fin n 0 n r) (h' : Top P H fin n 0 n r') : r = r' := by
  have a0 := h.t0
  have a1 := h.t1
  have b0 := h'.t0
  have b1 := h'.t1
  have ea : ((r.toNat : Nat) : Int) = r := by omega
  have eb : ((r'.toNat : Nat) : Int) = r' := by omega
  have p := h.most r'.toNat (Nat.zero_le _) (by omega) (by rw [eb]; exact h'.on)
  have q := h'.most r.toNat (Nat.zero_le _) (by omega) (by rw [ea]; exact h.on)
  rw [eb] at p
  rw [ea] at q
  rcases Int.lt_trichotomy r r' with k | k | k
  · have := q.2 k; have := p.1; omega
  · exact k
  · have := p.2 k; have := q.1; omega
theorem bs_top0 (hP : ∀ i, i < n → -1 ≤ P i ∧ P i < (i : Int)) {fin : Int} (h0 : 0 ≤ fin) (hb : fin < (n : Int)) : Top P H fin n 0 n (bsD P H fin n n) := by
  rcases bs_top (H := H) hP (fin := fin) n (Nat.le_refl _) with ⟨_, i2⟩ | h
  · have := i2 fin.toNat (by omega) (by omega)
    rw [show ((fin.toNat : Nat) : Int) = fin by omega, stO_self hP h0 hb] at this
    cases this
  · rwa [Nat.sub_self] at h
theorem be_bs (hP : ∀ i, i < n → -1 ≤ P i ∧ P i < (i : Int)) {fin : Int} (h0 : 0 ≤ fin) (hb : fin < (n : Int)) : beD P H fin n = bsD P H fin n n :=
  top_one (be_top hP h0 hb n (Nat.le_refl _)).1 (bs_top0 hP h0 hb)
end
theorem x_told {a : Option Addr} {n cap : Nat} {f g : Nat → Nat → SC} (h : ∀ i, i < n → ∀ c, c < 3 → f i c = g i c) {E : Env} (hb : (xTr a n cap f).bnd E) : (xTr a n cap g).bnd E := xs_told h hb
theorem trP.sim {a : Option Addr} {n : Nat} {P H : Nat → Int} {A : Nat → Option Addr} {N C : Nat → Nat} {X : Nat → Nat → Nat → SC} (ht : trP a n (blkF P H A N C X)) {cap : Nat} : simC (.xs a n cap 3 (blkF P H A N C X)) (.xs a n cap 3 (blkF P H A N C X)) := ⟨rfl, rfl, rfl, fun i hi => ⟨rfl, rfl, ht.ts i hi⟩⟩
theorem blk_tf {f : Nat → Nat → SC} {n : Nat} (h : ∀ i c, c < 3 → f i c = fTr f i c) : ∀ i, i < n → ∀ c, c < 3 → f i c = fTr f i c := fun i _ c hc => h i c hc
theorem ok_hs (a : Option Addr) (n cap : Nat) (f : Nat → Nat → SC) (best fin p : Int) : OwesR Try.prog cxBo [] [] 4 Try.f16 [sTr a n cap f best fin, sI .i64 p] false [.v (sB (hsB n p))] := by
  rw [vc_hs]
  exact fun _ => ⟨id, id, id, id, id, rfl⟩
theorem card_hs {gl : Globs} : FnOKs Try.prog gl 16 cHs := by
  refine FnOKs.up0 (FnOKs_R0 (cx := cxBo) okx_Bo (sl := []) oks_nil Try.func16 (by kernel_rfl) (by kernel_rfl) fun ls hc => ?_) gl
  unfold hsC at hc
  split at hc
  · rename_i a n cap f best fin p
    exact ⟨_, _, _, fun ρ => rfl, fun E hE => hE, fun r hr => by rw [List.mem_singleton.1 hr]; exact trivial, ok_hs a n cap f best fin p⟩
  · exact hc.1.elim
theorem ok_fi (a : Option Addr) (n cap : Nat) (P H : Nat → Int) (A : Nat → Option Addr) (N C : Nat → Nat) (X : Nat → Nat → Nat → SC) (b : Int) (h0 : 0 ≤ b) (hb : b < (n : Int)) :
    OwesR Try.prog cxBo [] [] 4 Try.f20 [xTr a n cap (blkF P H A N C X), sI .i64 b] false [.v (sB (blO P H N b.toNat))] := by
  rw [vc_fi]
  intro x1 x2 x3 x4 x5 x6 x7 x8
  refine ⟨⟨h0, hb⟩, fun h => ?_, fun h => ?_⟩
  · refine ⟨id, id, id, id, id, id, id, ?_⟩
    have e : b.toNat = 0 := by have := eq_of_beq h; omega
    have e0 : ((N b.toNat : Int) == 0) = (N b.toNat == 0) := by rw [Bool.eq_iff_iff, beq_iff_eq, beq_iff_eq]; omega
    show (_ && (N b.toNat : Int) == 0) = _
    rw [e0]
    show ((P b.toNat == (-1 : Int) && H b.toNat == (0 : Int)) && N b.toNat == 0) = _
    rw [e]; rfl
  · have hne : b ≠ 0 := ne_of_beq_false h
    have hin : x8 → (0 : Int) ≤ P b.toNat ∧ P b.toNat < (n : Int) := fun h => by
      have h : (decide (P b.toNat ≥ 0) && decide (P b.toNat < b)) = true := h
      simp only [Bool.and_eq_true, decide_eq_true_eq] at h
      omega
    refine ⟨id, id, id, id, id, id, id, id, hin, id, id, id, id, id, id, ?_⟩
    rw [bl_pos (by omega), show ((b.toNat : Nat) : Int) = b by omega]
theorem card_fi {gl : Globs} : FnOKs Try.prog gl 20 cFi := by
  refine FnOKs.up0 (FnOKs_R0 (cx := cxBo) okx_Bo (sl := []) oks_nil Try.func20 (by kernel_rfl) (by kernel_rfl) fun ls hc => ?_) gl
  unfold fiC at hc
  split at hc
  · rename_i a n cap f b
    obtain ⟨p, h0, hb, _⟩ := hc
    refine ⟨_, _, _, fun ρ => ?_, fun E hE x hx => ?_, fun r hr => ?_, ok_fi a n cap (fun i => iAt f i 0) (fun i => iAt f i 1) (fun i => aAt (f i 2)) (fun i => nAt (f i 2)) (fun i => cAt (f i 2)) (fun i => xAt (f i 2)) b h0 hb⟩
    · rfl
    · rcases List.mem_cons.1 hx with rfl | hx
      · exact x_told (blk_tf p.tf) (hE (xTr a n cap f) (List.mem_cons_self ..))
      · exact hE x (List.mem_cons_of_mem _ hx)
    · rw [List.mem_singleton.1 hr]; exact trivial
  · exact hc.1.elim
theorem ok_st (a : Option Addr) (n cap : Nat) (P H : Nat → Int) (A : Nat → Option Addr) (N C : Nat → Nat) (X : Nat → Nat → Nat → SC) (b r : Int) (ht : trP a n (blkF P H A N C X)) (h0 : 0 ≤ b) (hb : b < (n : Int)) (hr : 0 ≤ r) :
    OwesR Try.prog .none [] [(1, .inv (invSt a n cap P H A N C X b r))] 4 Try.f17 [xTr a n cap (blkF P H A N C X), sI .i64 b, sI .i64 r] false [.v (sB (stO P b r))] := by
  rw [vc_st]
  have hP : ∀ i, i < n → -1 ≤ P i ∧ P i < (i : Int) := ht.tp
  have hxs := trP.sim ht (cap := cap)
  refine ⟨fun _ => rfl, b, ⟨by omega, hb, rfl⟩, hxs, rfl, rfl, fun y hy => ⟨fun h => ?_, fun h => ?_⟩⟩
  · have h := of_decide_eq_true h
    have q := hP y.toNat (by omega)
    refine ⟨⟨by omega, hy.2.1⟩, P y.toNat, ⟨q.1, by omega, ?_⟩, hxs, rfl, rfl, by show (P y.toNat + 1).toNat + 1 ≤ (y + 1).toNat; omega⟩
    rw [← hy.2.2, stO_step hP (b := y) (by omega) hy.2.1, beq_eq_false_iff_ne.2 (by omega), Bool.or_false]
  · have h := of_decide_eq_false h
    rw [← hy.2.2, stO_le hP hr hy.2.1 (by omega)]
theorem card_std {gl : Globs} : FnOKs Try.prog gl 17 cSt := by
  refine FnOKs.up0 (FnOKs_R0 (cx := .none) okx_nil (sl := []) oks_nil Try.func17 (by kernel_rfl) (by kernel_rfl) fun ls hc => ?_) gl
  unfold stC at hc
  split at hc
  · rename_i a n cap f b r
    obtain ⟨p, h0, hb, hr, _⟩ := hc
    refine ⟨_, _, _, fun ρ => ?_, fun E hE x hx => ?_, fun r hr => ?_, ok_st a n cap (fun i => iAt f i 0) (fun i => iAt f i 1) (fun i => aAt (f i 2)) (fun i => nAt (f i 2)) (fun i => cAt (f i 2)) (fun i => xAt (f i 2)) b r p.told h0 hb hr⟩
    · rfl
    · rcases List.mem_cons.1 hx with rfl | hx
      · exact x_told (blk_tf p.tf) (hE (xTr a n cap f) (List.mem_cons_self ..))
      · exact hE x (List.mem_cons_of_mem _ hx)
    · rw [List.mem_singleton.1 hr]; exact trivial
  · exact hc.1.elim
theorem ok_be (a : Option Addr) (n cap : Nat) (P H : Nat → Int) (A : Nat → Option Addr) (N C : Nat → Nat) (X : Nat → Nat → Nat → SC) (best fin : Int) (ht : trP a n (blkF P H A N C X)) (h0 : 0 ≤ fin) (hb : fin < (n : Int)) :
    OwesR Try.prog cxBo slBe [(3, .inv (invBe a n cap P H A N C X best fin))] 4 Try.f18 [sTr a n cap (blkF P H A N C X) best fin] false [.v (sI .i64 (beD P H fin n))] := by
  rw [vc_be]
  have hP : ∀ i, i < n → -1 ≤ P i ∧ P i < (i : Int) := ht.tp
  have hn := ht.tn
  have hxs := trP.sim ht (cap := cap)
  intro x1 a1
  have hx1 : x1 := ⟨hxs, rfl, rfl⟩
  clear_value x1
  refine ⟨fun _ => rfl, (0, a1), Nat.zero_le _, ⟨rfl, hxs, rfl, rfl⟩, rfl, hxs, rfl, rfl, fun y => ?_⟩
  intro x101 x102 hy
  refine ⟨fun hl => ?_, fun hl => ?_⟩
  · have hl : y.1 < n := by have := of_decide_eq_true hl; omega
    have et : (y.1 : Int).toNat = y.1 := Int.toNat_natCast _
    have ew : IntKind.i64.wrap ((y.1 : Int) + 1) = ((y.1 + 1 : Nat) : Int) := by rw [IntKind.wrap_i64]; omega
    have el : (n - (y.1 + 1)).succ.le (n - y.1) := by show (n - (y.1 + 1)) + 1 ≤ _; omega
    obtain ⟨tp, _⟩ := be_top (H := H) hP h0 hb y.1 (by omega)
    have t0 := tp.t0
    have t1 := tp.t1
    have no : (decide (H (beD P H fin y.1).toNat < H y.1) && stO P (y.1 : Int) fin) = false → x102 := fun h => ⟨(y.1 + 1, y.2), hl, ⟨rfl, hx1⟩, (if_neg (by rw [h]; exact Bool.noConfusion) : beD P H fin (y.1 + 1) = beD P H fin y.1).symm, hxs, rfl, ew, el⟩
    refine ⟨⟨by omega, by omega⟩, ⟨t0, t1⟩, id, id, fun h => ⟨h, h, h, ht, by omega, by omega, h0, fun hs => ?_, fun hs => no ?_⟩, fun h => no ?_⟩
    · refine ⟨(y.1 + 1, y.2), hl, ⟨rfl, hx1⟩, (if_pos ?_ : beD P H fin (y.1 + 1) = (y.1 : Int)).symm, hxs, rfl, ew, el⟩
      have h := of_decide_eq_true h
      rw [et] at h
      rw [show stO P (y.1 : Int) fin = true from hs, Bool.and_true]
      exact decide_eq_true h
    · rw [show stO P (y.1 : Int) fin = false from hs, Bool.and_false]
    · have h := of_decide_eq_false h
      rw [et] at h
      rw [decide_eq_false (by omega), Bool.false_and]
  · have hl := of_decide_eq_false hl
    have hy : y.1 ≤ n := hy
    rw [show y.1 = n by omega]
theorem card_be {gl : Globs} : FnOKs Try.prog gl 18 cBe := by
  refine FnOKs.up0 (FnOKs_R0 (cx := cxBo) okx_Bo (sl := slBe) (oks_cons card_std oks_nil) Try.func18 (by kernel_rfl) (by kernel_rfl) fun ls hc => ?_) gl
  unfold beC at hc
  split at hc
  · rename_i a n cap f best fin
    obtain ⟨p, h0, hb, _⟩ := hc
    refine ⟨_, _, _, fun ρ => ?_, fun E hE x hx => ?_, fun r hr => ?_, ok_be a n cap (fun i => iAt f i 0) (fun i => iAt f i 1) (fun i => aAt (f i 2)) (fun i => nAt (f i 2)) (fun i => cAt (f i 2)) (fun i => xAt (f i 2)) best fin p.told h0 hb⟩
    · rfl
    · rcases List.mem_cons.1 hx with rfl | hx
      · exact tr_told (blk_tf p.tf) (hE (sTr a n cap f best fin) (List.mem_cons_self ..))
      · exact hE x (List.mem_cons_of_mem _ hx)
    · rw [List.mem_singleton.1 hr]; exact trivial
  · exact hc.1.elim
theorem ok_ck (a : Option Addr) (n cap : Nat) (P H : Nat → Int) (A : Nat → Option Addr) (N C : Nat → Nat) (X : Nat → Nat → Nat → SC) (best fin : Int) (ht : tfP a n (blkF P H A N C X)) :
    OwesR Try.prog cxBo slCk [(4, .inv (invCk a n cap P H A N C X best fin))] 4 Try.f12 [sTr a n cap (blkF P H A N C X) best fin] false [.v (sI .i64 (trE P H N n best fin))] := by
  rw [vc_ck]
  have hn := ht.tn
  have hML : maxLen = 9223372036854775807 := rfl
  have hxs : simC (.xs a n cap 3 (blkF P H A N C X)) (.xs a n cap 3 (blkF P H A N C X)) := ⟨rfl, rfl, rfl, fun i hi => ⟨rfl, rfl, ht.ts i hi⟩⟩
  intro x1 x2 x3 a1
  have q1 : x1 = true ↔ n = 0 := by show decide ((n : Int) < 1) = true ↔ _; rw [decide_eq_true_eq]; omega
  refine ⟨id, id, id, fun h => by show (!x1) = true; rw [h]; rfl, fun h => ?_, fun h => ?_⟩
  · simp only [Bool.or_eq_true, decide_eq_true_eq, q1] at h
    unfold trE
    rw [if_pos (by omega)]
  simp only [Bool.or_eq_false_iff, decide_eq_false_iff_not] at h
  have h40 : n ≤ 40 := by omega
  have h1 : n ≠ 0 := fun c => by rw [q1.2 c] at h; exact Bool.noConfusion h.1
  have ee : trE P H N n best fin = if trR P H N n ≠ 0 then trR P H N n else if fin < 0 ∨ (n : Int) ≤ fin ∨ best ≠ bsD P H fin n n then 12 else 0 := if_neg (by omega)
  refine ⟨fun _ => rfl, (0, a1), ⟨Nat.zero_le _, rfl⟩, ⟨rfl, hxs, rfl, rfl⟩, hxs, rfl, rfl, fun y hy => ?_⟩
  obtain ⟨hy1, hy2⟩ := hy
  refine ⟨fun hl => ?_, fun hl => ?_⟩
  · have hl : y.1 < n := by have := of_decide_eq_true hl; omega
    have et : (y.1 : Int).toNat = y.1 := Int.toNat_natCast _
    refine ⟨⟨by omega, by omega⟩, fun h6 => ?_, fun h6 => ⟨ht, by omega, by omega, fun ho => ?_, fun ho => ?_⟩⟩
    · have h6 := of_decide_eq_true h6
      rw [et] at h6
      have := tr_end (n := n) hl (r := 1) (by decide) (by rw [tr_step hy2, if_pos (by omega)])
      rw [ee, this, if_pos (by decide)]
    · have h6 := of_decide_eq_false h6
      rw [et] at h6 ho
      have ho : blO P H N y.1 = false := by have h := ho; rw [Bool.not_eq_true'] at h; exact h
      have := tr_end (n := n) hl (r := 12) (by decide) (by rw [tr_step hy2, if_neg (by omega), ho]; rfl)
      rw [ee, this, if_pos (by decide)]
    · have h6 := of_decide_eq_false h6
      rw [et] at h6 ho
      have ho : blO P H N y.1 = true := by have h := ho; rw [Bool.not_eq_false'] at h; exact h
      exact ⟨(y.1 + 1, y.2), ⟨hl, by show trR P H N (y.1 + 1) = 0; rw [tr_step hy2, if_neg (by omega), if_pos ho]⟩, ⟨rfl, hxs, rfl, rfl⟩, hxs, rfl, by show _ = ((y.1 + 1 : Nat) : Int); rw [IntKind.wrap_i64]; omega, by show (n - (y.1 + 1)) + 1 ≤ _; omega⟩
  · have hl := of_decide_eq_false hl
    have en : y.1 = n := by omega
    rw [en] at hy2
    have e2 : trE P H N n best fin = if fin < 0 ∨ (n : Int) ≤ fin ∨ best ≠ bsD P H fin n n then 12 else 0 := by rw [ee, if_neg (fun c => c hy2)]
    have hx3 : x3 := by
      refine ⟨fun h5 => ?_, fun h5 => ?_⟩
      · have h6 : hsB n fin = true := by rwa [Bool.not_not] at h5
        unfold hsB at h6
        simp only [Bool.and_eq_true, decide_eq_true_eq] at h6
        have p := tf_tr (f := blkF P H A N C X) ht h40 hy2
        have eb := be_bs (P := P) (H := H) p.tp h6.1 h6.2
        refine ⟨h5, p, h6.1, h6.2, h5, fun hb => ?_, fun hb => ?_⟩
        · have hb : best ≠ beD P H fin n := by have h : (best != beD P H fin n) = true := hb; simpa using h
          rw [eb] at hb
          rw [e2, if_pos (.inr (.inr hb))]
        · have hb : best = beD P H fin n := by have h : (best != beD P H fin n) = false := hb; simpa using h
          rw [eb] at hb
          rw [e2, if_neg (by omega)]
      · have h6 : hsB n fin = false := by rwa [Bool.not_not] at h5
        unfold hsB at h6
        simp only [Bool.and_eq_false_iff, decide_eq_false_iff_not] at h6
        rw [e2, if_pos (by omega)]
    exact ⟨hn, ⟨id, hx3⟩, hx3⟩
theorem card_ck {gl : Globs} : FnOKs Try.prog gl 12 cCk := by
  refine FnOKs.up0 (FnOKs_R0 (cx := cxBo) okx_Bo (sl := slCk) (oks_cons card_fi (oks_cons card_hs (oks_cons card_be oks_nil))) Try.func12 (by kernel_rfl) (by kernel_rfl) fun ls hc => ?_) gl
  unfold tfC at hc
  split at hc
  · rename_i a n cap f best fin
    obtain ⟨p, _⟩ := hc
    refine ⟨_, _, _, fun ρ => ?_, fun E hE x hx => ?_, fun r hr => ?_, ok_ck a n cap (fun i => iAt f i 0) (fun i => iAt f i 1) (fun i => aAt (f i 2)) (fun i => nAt (f i 2)) (fun i => cAt (f i 2)) (fun i => xAt (f i 2)) best fin p.told⟩
    · rfl
    · rcases List.mem_cons.1 hx with rfl | hx
      · exact tr_told (blk_tf p.tf) (hE (sTr a n cap f best fin) (List.mem_cons_self ..))
      · exact hE x (List.mem_cons_of_mem _ hx)
    · rw [List.mem_singleton.1 hr]; exact trivial
  · exact hc.1.elim
theorem ok_li (a : Option Addr) (n cap : Nat) (P H : Nat → Int) (A : Nat → Option Addr) (N C : Nat → Nat) (X : Nat → Nat → Nat → SC) (b : Int) (ht : trP a n (blkF P H A N C X)) (hr : trR P H N n = 0) (h0 : 0 ≤ b) (hb : b < (n : Int)) :
    OwesR Try.prog .none [] [(3, .inv (invLi a n cap P H A N C X b))] 4 Try.f15 [xTr a n cap (blkF P H A N C X), sI .i64 b] false (liR P b) := by
  rw [vc_li]
  have hP : ∀ i, i < n → -1 ≤ P i ∧ P i < (i : Int) := ht.tp
  have hn := ht.tn
  have hxs := trP.sim ht (cap := cap)
  have hl := tr_line hn hr h0 hb
  have hs := ln_small hn hP hb
  have hML : maxLen = 9223372036854775807 := rfl
  intro x1 x2 x3
  have e1 : x1 = (lnN P b : Int) := by show IntKind.i64.wrap (H b.toNat + 1) = _; rw [IntKind.wrap_i64]; omega
  have e2 : x2 = lnN P b := by show x1.toNat = _; rw [e1]; exact Int.toNat_natCast _
  have hx3 : x3 := e2
  clear_value x3
  clear_value x2
  clear_value x1
  refine ⟨⟨h0, hb⟩, ⟨by omega, by omega, by omega, by omega⟩, fun _ => rfl, b, ⟨by omega, hb, Nat.le_refl _, (List.take_length).symm⟩, hxs, ⟨rfl, rfl, rfl, hx3, hx3⟩, rfl, hx3, by rw [Nat.sub_self], fun i hi => ?_, fun y hy => ?_⟩
  · show simC _ (.val (.int .i64 (if i < lnN P b then 0 else _)))
    rw [if_pos (by omega)]; rfl
  obtain ⟨y1, y2, y3, y4⟩ := hy
  refine ⟨fun hy => ?_, fun hy => ?_⟩
  · have hy := of_decide_eq_true hy
    have q := hP y.toNat (by omega)
    have ey := tr_line hn hr hy y2
    have es := ln_step hP hy y2
    have el := line_step hP hy y2
    have ek : (H y.toNat).toNat = lnN P (P y.toNat) := by omega
    have hln : (lineT P (P y.toNat)).length = lnN P (P y.toNat) := rfl
    refine ⟨⟨hy, y2⟩, ⟨by omega, by omega⟩, by omega, ⟨hy, y2⟩, P y.toNat, ⟨q.1, by omega, by omega, ?_⟩, hxs, ⟨rfl, rfl, rfl, rfl, rfl⟩, rfl, rfl, rfl, fun i hi => ?_, by show (P y.toNat + 1).toNat + 1 ≤ (y + 1).toNat; omega⟩
    · have : (lineT P y).take (lnN P (P y.toNat)) = lineT P (P y.toNat) := by rw [el, ← hln, List.take_append_of_le_length (Nat.le_refl _)]; exact List.take_length
      rw [← this, y4, List.take_take, Nat.min_eq_left (by omega)]
    · rw [Nat.zero_add, ek]
      show simC (selC (decide (i = lnN P (P y.toNat))) (.val (.int .i64 y)) (.val (.int .i64 (if i < lnN P y then 0 else (lineT P b).getD i 0)))) (.val (.int .i64 (if i < lnN P (P y.toNat) then 0 else (lineT P b).getD i 0)))
      have hv : (if i < lnN P (P y.toNat) then (0 : Int) else (lineT P b).getD i 0) = cond (decide (i = lnN P (P y.toNat))) y (if i < lnN P y then 0 else (lineT P b).getD i 0) := by
        by_cases c : i = lnN P (P y.toNat)
        · rw [decide_eq_true c, if_neg (by omega)]
          show _ = y
          have h1 : (lineT P y)[i]? = some y := by rw [el, List.getElem?_append_right (by omega), hln, c, Nat.sub_self]; rfl
          rw [y4, List.getElem?_take, if_pos (by omega)] at h1
          rw [List.getD_eq_getElem?_getD, h1]; rfl
        · rw [decide_eq_false c]
          show _ = if i < lnN P y then (0 : Int) else _
          by_cases k : i < lnN P (P y.toNat)
          · rw [if_pos k, if_pos (by omega)]
          · rw [if_neg k, if_neg (by omega)]
      rw [hv]
      rfl
  · have hy := of_decide_eq_false hy
    refine ⟨by omega, rfl, Nat.le_refl _, fun i hi => ?_⟩
    rw [ln_neg (by omega), if_neg (by omega), Nat.zero_add]
theorem card_li {gl : Globs} : FnOKs Try.prog gl 15 cLi := by
  refine FnOKs.up0 (FnOKs_R0 (cx := .none) okx_nil (sl := []) oks_nil Try.func15 (by kernel_rfl) (by kernel_rfl) fun ls hc => ?_) gl
  unfold liC at hc
  split at hc
  · rename_i a n cap f b
    obtain ⟨p, hr, h0, hb, _⟩ := hc
    refine ⟨_, _, _, fun ρ => ?_, fun E hE x hx => ?_, fun r hr => ?_, ok_li a n cap (fun i => iAt f i 0) (fun i => iAt f i 1) (fun i => aAt (f i 2)) (fun i => nAt (f i 2)) (fun i => cAt (f i 2)) (fun i => xAt (f i 2)) b p.told hr h0 hb⟩
    · rfl
    · rcases List.mem_cons.1 hx with rfl | hx
      · exact x_told (blk_tf p.tf) (hE (xTr a n cap f) (List.mem_cons_self ..))
      · exact hE x (List.mem_cons_of_mem _ hx)
    · rw [List.mem_singleton.1 hr]; exact trivial
  · exact hc.1.elim
theorem ok_ln (a : Option Addr) (n cap : Nat) (P H : Nat → Int) (A : Nat → Option Addr) (N C : Nat → Nat) (X : Nat → Nat → Nat → SC) (best fin : Int) (x : Bool) (ht : tfP a n (blkF P H A N C X)) :
    OwesR Try.prog cxBo slLn [] 4 Try.f7 [sTr a n cap (blkF P H A N C X) best fin, sB x] true [.s (loN P H N n best fin x) .i64 (loG P best fin x), .v (sI .i64 (trE P H N n best fin))] := by
  rw [vc_ln]
  intro x1 x2 x3 x4 _
  have e1 : x1 = trE P H N n best fin := rfl
  have e2 : x2 = lnN P fin := rfl
  have e4 : x4 = lnN P best := rfl
  clear_value x1 x2 x4
  refine ⟨ht, fun h => ?_, fun h => ?_⟩
  · have h : x1 ≠ 0 := by simpa using h
    exact ⟨if_neg (by rw [← e1]; exact h), e1⟩
  · have h : x1 = 0 := by simpa using h
    have h0 : trE P H N n best fin = 0 := by rw [← e1, h]
    have hk := okT_of h0
    have hN : loN P H N n best fin x = lnN P (loB best fin x) := if_pos h0
    have hx3 : x3 := h0.symm
    have p := OkT.tr (f := blkF P H A N C X) hk ht
    refine ⟨fun hx => ?_, fun hx => ?_⟩
    · have hb : loB best fin x = fin := if_pos hx
      rw [hb] at hN
      refine ⟨p, hk.row, hk.fin0, hk.fin1, fun _ _ _ _ => ⟨⟨by rw [hN, e2], fun i hi => ?_⟩, hx3⟩⟩
      unfold loG; rw [hb]; rfl
    · have hb : loB best fin x = best := if_neg (by rw [hx]; decide)
      rw [hb] at hN
      refine ⟨p, hk.row, hk.bst0, hk.bst1, fun _ _ _ _ => ⟨⟨by rw [hN, e4], fun i hi => ?_⟩, hx3⟩⟩
      unfold loG; rw [hb]; rfl
theorem card_ln {gl : Globs} : FnOKs Try.prog gl 7 cLn := by
  refine FnOKs.up0 (FnOKs_R0 (cx := cxBo) okx_Bo (sl := slLn) (oks_cons card_ck (oks_cons card_li oks_nil)) Try.func7 (by kernel_rfl) (by kernel_rfl) fun ls hc => ?_) gl
  unfold loC at hc
  split at hc
  · rename_i a n cap f best fin x
    obtain ⟨p, _⟩ := hc
    refine ⟨_, _, _, fun ρ => ?_, fun E hE y hy => ?_, fun r hr => ?_, ok_ln a n cap (fun i => iAt f i 0) (fun i => iAt f i 1) (fun i => aAt (f i 2)) (fun i => nAt (f i 2)) (fun i => cAt (f i 2)) (fun i => xAt (f i 2)) best fin x p.told⟩
    · rfl
    · rcases List.mem_cons.1 hy with rfl | hy
      · exact tr_told (blk_tf p.tf) (hE (sTr a n cap f best fin) (List.mem_cons_self ..))
      · exact hE y (List.mem_cons_of_mem _ hy)
    · rcases List.mem_cons.1 hr with rfl | hr
      · exact trivial
      · rw [List.mem_singleton.1 hr]; exact trivial
  · exact hc.1.elim
end Go.Proofs.Ytkggabbcigeieaa
end

section
namespace Go.Proofs.Ytkggabbcigeieaa
open Go.Sx
set_option maxRecDepth 100000
def noCl : Nat → Nat → SC := clF (fun _ _ => 0) (fun _ => none) (fun _ => 0) (fun _ => 0) (fun _ _ => 0)
abbrev blk0 (P H : Nat → Int) (A : Nat → Option Addr) (C : Nat → Nat) : Nat → Nat → SC := blkF P H A (fun _ => 0) C (fun _ => noCl)
structure n0P (a : Option Addr) (n : Nat) (f : Nat → Nat → SC) : Prop where
  tn : n ≤ 1000
  ta : a = none → n = 0
  tf : ∀ i c, c < 3 → f i c = blk0 (fun i => iAt f i 0) (fun i => iAt f i 1) (fun i => aAt (f i 2)) (fun i => cAt (f i 2)) i c
def roC : List (List FD) → List Prop
  | [[.x a n _ f]] => [n0P a n f]
  | _ => [False]
def roR : List RS := [.rows 0 109 noCl, .s 0 .u8 (fun _ => 0)]
def cRo : SSpec := specQ0 true [.one (.x 3)] roC (fun _ => roR)
def invRo (a : Option Addr) (n cap : Nat) (P H : Nat → Int) (A : Nat → Option Addr) (C : Nat → Nat) : Inv where
  X := Nat
  tm y := slotsAt 39 [(4, .one (sI .i64 0)), (5, .one (sI .i64 0)), (10, .one (xTr a n cap (blk0 P H A C))), (11, .one (sI .i64 (n : Int))), (12, .one (sI .i64 (y : Int)))]
  ob _ := []
  holds y := y ≤ n
  less y := n - y
def cxRo : Cx := ⟨[(1300000000 + 41, fun _ => none)], [], 0, []⟩
def ccC : List (List FD) → List Prop
  | [[.x _ n _ _], [.x _ m _ _]] => [n = 0, m = 0]
  | _ => [False]
def ccR : List RS := [.rows 0 109 noCl, .rows 0 109 noCl]
def cCc : SSpec := specQ0 true [.one (.x 109), .one (.x 109)] ccC (fun _ => ccR)
def owC : List (List FD) → List Prop
  | [[.x a n _ f, .i _, .i _]] => [n0P a n f]
  | _ => [False]
def owF (P H : Nat → Int) (ac : List Nat → Option Addr × Nat) : Nat → Nat → SC := blk0 P H (fun i => (ac [i]).1) (fun i => (ac [i]).2)
def owR (P H : Nat → Int) (n : Nat) (best fin : Int) : List RS := [.ex (fun _ => True) fun ac => .st [.s n 3 (owF P H ac), kI best, kI fin]]
def owG : List (List FD) → List RS
  | [[.x _ n _ f, .i best, .i fin]] => owR (fun i => iAt f i 0) (fun i => iAt f i 1) n best fin
  | _ => []
def cOw : SSpec := specQ0 true [pqTr] owC owG
def upI {T : Type} (k : Nat) (z : T) (f : Nat → T) (i : Nat) : T := if i < k then f i else z
def owW (k : Nat) (P H : Nat → Int) (A : Nat → Option Addr) (C : Nat → Nat) (i c : Nat) : SC := if k = 0 ∧ c = 2 then .val (.slice none 0 0) else blk0 (upI k 0 P) (upI k 0 H) (upI k none A) (upI k 0 C) i c
structure OwX where
  k : Nat
  A : Nat → Option Addr
  C : Nat → Nat
  a3 : Option Addr
  c3 : Nat
  a4 : Option Addr
  c4 : Nat
def invOw (a : Option Addr) (n cap : Nat) (P H : Nat → Int) (A : Nat → Option Addr) (C : Nat → Nat) (best fin : Int) : Inv where
  X := OwX
  tm y := slotsAt 67 [(1, .one (.sc (.ptr 0 0))), (2, .one (.sc (.ptr 1 0))), (3, .one (.sc (.xs y.a3 0 y.c3 109 noCl))), (4, .one (xsI y.a4 0 y.c4 .u8 (fun _ => 0))), (5, .one (.sc (.slw 2 3 0 n n))), (21, .one (xTr a n cap (blk0 P H A C))), (22, .one (sI .i64 (n : Int))), (23, .one (sI .i64 (y.k : Int)))]
  ob y := [.cells 25 [.c (.xs a n cap 3 (blk0 P H A C)), .c (.val (.int .i64 best)), .c (.val (.int .i64 fin))] 0, .cells 25 [.c (.val (.slice none 0 0)), .c (.val (.int .i64 0)), .c (.val (.int .i64 0))] 0, .row 43 3 n (owW y.k P H y.A y.C) 0]
  holds y := y.k ≤ n
  less y := n - y.k
def slOw : List (Nat × SSpec) := [(21, cRo), (22, cCc)]
theorem vc_ro (a : Option Addr) (n cap : Nat) (P H : Nat → Int) (A : Nat → Option Addr) (C : Nat → Nat) :
    OwesR Try.prog cxRo [] [(3, .inv (invRo a n cap P H A C))] 2 Try.f21 [xTr a n cap (blk0 P H A C)] true roR =
    (let x1 : Prop := (0 : Int) = (0 : Int); (∀ (y : Nat), closedB (slotsAt 39 [(4, SV.one (sI Go.IntKind.i64 (0 : Int))), (5, SV.one (sI Go.IntKind.i64 (0 : Int))), (10, SV.one (xTr a n cap (blk0 P H A C))), (11, SV.one (sI Go.IntKind.i64 (↑n : Int))), (12, SV.one (sI Go.IntKind.i64 (↑y : Int)))]) [] = Bool.true) ∧ ∃ (y : Nat), y ≤ n ∧ x1 ∧ x1 ∧ simC (SC.xs a n cap 3 (blk0 P H A C)) (SC.xs a n cap 3 (blk0 P H A C)) ∧ (↑n : Int) = (↑n : Int) ∧ (0 : Int) = (↑y : Int) ∧ ∀ (y : Nat), y ≤ n → (Decidable.decide ((↑y : Int) < (↑n : Int)) = Bool.true → ((0 : Int) ≤ (↑y : Int) ∧ (↑y : Int) < (↑n : Int)) ∧ ∃ (y' : Nat), y' ≤ n ∧ x1 ∧ x1 ∧ simC (SC.xs a n cap 3 (blk0 P H A C)) (SC.xs a n cap 3 (blk0 P H A C)) ∧ (↑n : Int) = (↑n : Int) ∧ Go.IntKind.i64.wrap ((↑y : Int) + (1 : Int)) = (↑y' : Int) ∧ (n - y').succ.le (n - y)) ∧ (Decidable.decide ((↑y : Int) < (↑n : Int)) = Bool.false → ((0 : Int) ≤ (0 : Int) ∧ (0 : Int) ≤ (0 : Int) ∧ (0 : Int) ≤ (281474976710656 : Int) ∧ (0 : Int) ≤ (9223372036854775807 : Int)) ∧ ((0 : Int) ≤ (0 : Int) ∧ (0 : Int) ≤ (0 : Int) ∧ (0 : Int) ≤ (281474976710656 : Int) ∧ (0 : Int) ≤ (9223372036854775807 : Int)) ∧ (0 ≤ 0 ∧ 0 = 0 ∧ 0 ≤ 0 ∧ ∀ (i : Nat), i < 0 → allC 109 fun (c : Nat) => simC ((flat (List.map litC (Go.Value.agg ([Go.Value.int Go.IntKind.i64 (0 : Int), Go.Value.int Go.IntKind.u8 (0 : Int), Go.Value.int Go.IntKind.u8 (0 : Int), Go.Value.int Go.IntKind.u8 (0 : Int), Go.Value.int Go.IntKind.u8 (0 : Int), Go.Value.int Go.IntKind.u8 (0 : Int), Go.Value.int Go.IntKind.u8 (0 : Int), Go.Value.int Go.IntKind.u8 (0 : Int), Go.Value.int Go.IntKind.u8 (0 : Int), Go.Value.int Go.IntKind.u8 (0 : Int), Go.Value.int Go.IntKind.u8 (0 : Int), Go.Value.int Go.IntKind.u8 (0 : Int), Go.Value.int Go.IntKind.u8 (0 : Int), Go.Value.int Go.IntKind.u8 (0 : Int), Go.Value.int Go.IntKind.u8 (0 : Int), Go.Value.int Go.IntKind.u8 (0 : Int), Go.Value.int Go.IntKind.u8 (0 : Int), Go.Value.int Go.IntKind.u8 (0 : Int), Go.Value.int Go.IntKind.u8 (0 : Int), Go.Value.int Go.IntKind.u8 (0 : Int), Go.Value.int Go.IntKind.u8 (0 : Int), Go.Value.int Go.IntKind.u8 (0 : Int), Go.Value.int Go.IntKind.u8 (0 : Int), Go.Value.int Go.IntKind.u8 (0 : Int), Go.Value.int Go.IntKind.u8 (0 : Int), Go.Value.int Go.IntKind.u8 (0 : Int), Go.Value.int Go.IntKind.u8 (0 : Int), Go.Value.int Go.IntKind.u8 (0 : Int), Go.Value.int Go.IntKind.u8 (0 : Int), Go.Value.int Go.IntKind.u8 (0 : Int), Go.Value.int Go.IntKind.u8 (0 : Int), Go.Value.int Go.IntKind.u8 (0 : Int), Go.Value.int Go.IntKind.u8 (0 : Int), Go.Value.int Go.IntKind.u8 (0 : Int), Go.Value.int Go.IntKind.u8 (0 : Int), Go.Value.int Go.IntKind.u8 (0 : Int), Go.Value.int Go.IntKind.u8 (0 : Int), Go.Value.int Go.IntKind.u8 (0 : Int), Go.Value.int Go.IntKind.u8 (0 : Int), Go.Value.int Go.IntKind.u8 (0 : Int), Go.Value.int Go.IntKind.u8 (0 : Int), Go.Value.int Go.IntKind.u8 (0 : Int), Go.Value.int Go.IntKind.u8 (0 : Int), Go.Value.int Go.IntKind.u8 (0 : Int), Go.Value.int Go.IntKind.u8 (0 : Int), Go.Value.int Go.IntKind.u8 (0 : Int), Go.Value.int Go.IntKind.u8 (0 : Int), Go.Value.int Go.IntKind.u8 (0 : Int), Go.Value.int Go.IntKind.u8 (0 : Int), Go.Value.int Go.IntKind.u8 (0 : Int), Go.Value.int Go.IntKind.u8 (0 : Int), Go.Value.int Go.IntKind.u8 (0 : Int), Go.Value.int Go.IntKind.u8 (0 : Int), Go.Value.int Go.IntKind.u8 (0 : Int)].append [Go.Value.int Go.IntKind.u8 (0 : Int), Go.Value.int Go.IntKind.u8 (0 : Int), Go.Value.int Go.IntKind.u8 (0 : Int), Go.Value.int Go.IntKind.u8 (0 : Int), Go.Value.int Go.IntKind.u8 (0 : Int), Go.Value.int Go.IntKind.u8 (0 : Int), Go.Value.int Go.IntKind.u8 (0 : Int), Go.Value.int Go.IntKind.u8 (0 : Int), Go.Value.int Go.IntKind.u8 (0 : Int), Go.Value.int Go.IntKind.u8 (0 : Int), Go.Value.int Go.IntKind.u8 (0 : Int), Go.Value.int Go.IntKind.i64 (0 : Int), Go.Value.int Go.IntKind.u64 (0 : Int), Go.Value.int Go.IntKind.u64 (0 : Int), Go.Value.int Go.IntKind.u64 (0 : Int), Go.Value.int Go.IntKind.u64 (0 : Int), Go.Value.int Go.IntKind.u64 (0 : Int), Go.Value.int Go.IntKind.u64 (0 : Int), Go.Value.int Go.IntKind.u64 (0 : Int), Go.Value.int Go.IntKind.u64 (0 : Int), Go.Value.int Go.IntKind.u8 (0 : Int), Go.Value.int Go.IntKind.u8 (0 : Int), Go.Value.int Go.IntKind.u8 (0 : Int), Go.Value.int Go.IntKind.u8 (0 : Int), Go.Value.int Go.IntKind.u8 (0 : Int), Go.Value.int Go.IntKind.u8 (0 : Int), Go.Value.int Go.IntKind.u8 (0 : Int), Go.Value.int Go.IntKind.u8 (0 : Int), Go.Value.int Go.IntKind.u8 (0 : Int), Go.Value.int Go.IntKind.u8 (0 : Int), Go.Value.int Go.IntKind.u8 (0 : Int), Go.Value.int Go.IntKind.u8 (0 : Int), Go.Value.int Go.IntKind.u8 (0 : Int), Go.Value.int Go.IntKind.u8 (0 : Int), Go.Value.int Go.IntKind.u8 (0 : Int), Go.Value.int Go.IntKind.u8 (0 : Int), Go.Value.int Go.IntKind.u8 (0 : Int), Go.Value.int Go.IntKind.u8 (0 : Int), Go.Value.int Go.IntKind.u8 (0 : Int), Go.Value.int Go.IntKind.u8 (0 : Int), Go.Value.int Go.IntKind.u8 (0 : Int), Go.Value.int Go.IntKind.u8 (0 : Int), Go.Value.int Go.IntKind.u8 (0 : Int), Go.Value.int Go.IntKind.u8 (0 : Int), Go.Value.int Go.IntKind.u8 (0 : Int), Go.Value.int Go.IntKind.u8 (0 : Int), Go.Value.int Go.IntKind.u8 (0 : Int), Go.Value.int Go.IntKind.u8 (0 : Int), Go.Value.int Go.IntKind.u8 (0 : Int), Go.Value.int Go.IntKind.u8 (0 : Int), Go.Value.int Go.IntKind.u8 (0 : Int), Go.Value.int Go.IntKind.u8 (0 : Int), Go.Value.int Go.IntKind.i64 (0 : Int), Go.Value.int Go.IntKind.i64 (0 : Int), Go.Value.slice Option.none 0 0]).toArray).cells.toList)).getD c (SC.bit Bool.false)) (noCl i c)) ∧ 0 ≤ 0 ∧ 0 = 0 ∧ 0 ≤ 0 ∧ ∀ (i : Nat), i < 0 → x1)) := by kernel_rfl
theorem vc_cc (a : Option Addr) (ca : Nat) (f : Nat → Nat → SC) (b : Option Addr) (cb : Nat) (g : Nat → Nat → SC) :
    OwesR Try.prog .none [] [] 2 Try.f22 [.sc (.xs a 0 ca 109 f), .sc (.xs b 0 cb 109 g)] true ccR =
    (let x1 : Prop := (0 : Int) ≤ (0 : Int); 0 = 0 ∧ (x1 ∧ x1 ∧ (0 : Int) ≤ (↑ca : Int) ∧ x1) ∧ (x1 ∧ x1 ∧ x1) ∧ (0 = 0 ∧ ∀ (i : Nat), i < 0 → allC 109 fun (c : Nat) => simC (f i c) (noCl i c)) ∧ 0 = 0 ∧ ∀ (i : Nat), i < 0 → allC 109 fun (c : Nat) => simC (f (0 + i) c) (noCl i c)) := by kernel_rfl
theorem vc_ow (a : Option Addr) (n cap : Nat) (P H : Nat → Int) (A : Nat → Option Addr) (C : Nat → Nat) (best fin : Int) :
    OwesR Try.prog cxRo slOw [(4, .inv (invOw a n cap P H A C best fin))] 2 Try.f19 [sTr a n cap (blk0 P H A C) best fin] true (owR P H n best fin) =
    (let x1 : Prop := ∀ (i : Nat), i < 0 → allC 109 fun (c : Nat) => simC (noCl i c) (noCl i c); let x2 : Prop := ∀ (i : Nat), i < 0 → allC 1 fun (_ : Nat) => simC (SC.val (Go.Value.int Go.IntKind.u8 (0 : Int))) (SC.val (Go.Value.int Go.IntKind.u8 (0 : Int))); n0P a n (blk0 P H A C) ∧ ∀ (a_1 : Option Go.Addr) (cap_1 : Nat), (a_1 = Option.none → 0 = 0 ∧ cap_1 = 0) → 0 ≤ cap_1 → ∀ (a_4 : Option Go.Addr) (cap_2 : Nat), (a_4 = Option.none → 0 = 0 ∧ cap_2 = 0) → 0 ≤ cap_2 → ((0 : Int) ≤ (↑n : Int) ∧ (↑n : Int) ≤ (↑n : Int) ∧ (40 : Int) * (↑n : Int) ≤ (281474976710656 : Int) ∧ (↑n : Int) ≤ (9223372036854775807 : Int)) ∧ (∀ (y : OwX), closedB (slotsAt 67 [(1, SV.one (SA.sc (SC.ptr 0 0))), (2, SV.one (SA.sc (SC.ptr 1 0))), (3, SV.one (SA.sc (SC.xs y.a3 0 y.c3 109 noCl))), (4, SV.one (xsI y.a4 0 y.c4 Go.IntKind.u8 fun (_ : Nat) => (0 : Int))), (5, SV.one (SA.sc (SC.slw 2 3 0 n n))), (21, SV.one (xTr a n cap (blk0 P H A C))), (22, SV.one (sI Go.IntKind.i64 (↑n : Int))), (23, SV.one (sI Go.IntKind.i64 (↑y.k : Int)))]) [SO.cells (25 : Go.TypeId) [SK.c (SC.xs a n cap 3 (blk0 P H A C)), SK.c (SC.val (Go.Value.int Go.IntKind.i64 best)), SK.c (SC.val (Go.Value.int Go.IntKind.i64 fin))] 0, SO.cells (25 : Go.TypeId) [SK.c (SC.val (Go.Value.slice Option.none 0 0)), SK.c (SC.val (Go.Value.int Go.IntKind.i64 (0 : Int))), SK.c (SC.val (Go.Value.int Go.IntKind.i64 (0 : Int)))] 0, SO.row (43 : Go.TypeId) 3 n (owW y.k P H y.A y.C) 0] = Bool.true) ∧ ∃ (y : OwX), y.k ≤ n ∧ (a_1 = y.a3 ∧ 0 = 0 ∧ cap_1 = y.c3 ∧ x1) ∧ (a_4 = y.a4 ∧ 0 = 0 ∧ cap_2 = y.c4 ∧ x2) ∧ (2 = 2 ∧ 3 = 3 ∧ 0 = 0 ∧ (↑n : Int).toNat = n ∧ (↑n : Int).toNat = n) ∧ simC (SC.xs a n cap 3 (blk0 P H A C)) (SC.xs a n cap 3 (blk0 P H A C)) ∧ (↑n : Int) = (↑n : Int) ∧ (0 : Int) = (↑y.k : Int) ∧ simC (SC.xs a n cap 3 (blk0 P H A C)) (SC.xs a n cap 3 (blk0 P H A C)) ∧ best = best ∧ fin = fin ∧ 0 = 0 ∧ Go.Value.slice Option.none 0 0 = Go.Value.slice Option.none 0 0 ∧ (0 : Int) = (0 : Int) ∧ (0 : Int) = (0 : Int) ∧ 0 = 0 ∧ (↑n : Int).toNat = n ∧ ((↑n : Int).toNat - (↑n : Int).toNat) * 3 = 0 ∧ (∀ (i : Nat), i < (↑n : Int).toNat → allC 3 fun (c : Nat) => simC ((flat (List.map litC (Go.Value.agg #[Go.Value.int Go.IntKind.i64 (0 : Int), Go.Value.int Go.IntKind.i64 (0 : Int), Go.Value.slice Option.none 0 0]).cells.toList)).getD c (SC.bit Bool.false)) (owW y.k P H y.A y.C i c)) ∧ ∀ (y : OwX), y.k ≤ n → (Decidable.decide ((↑y.k : Int) < (↑n : Int)) = Bool.true → ((0 : Int) ≤ (↑y.k : Int) ∧ (↑y.k : Int) < (↑n : Int)) ∧ 0 = 0 ∧ 0 = 0 ∧ ∀ (a_9 : Option Go.Addr) (cap_3 : Nat), (a_9 = Option.none → 0 = 0 ∧ cap_3 = 0) → 0 ≤ cap_3 → ∀ (a_12 : Option Go.Addr) (cap_4 : Nat), (a_12 = Option.none → 0 = 0 ∧ cap_4 = 0) → 0 ≤ cap_4 → ((0 : Int) ≤ (↑y.k : Int) ∧ (↑y.k : Int) < (↑n : Int)) ∧ 0 + (↑y.k : Int).toNat < n ∧ ∃ (y' : OwX), y'.k ≤ n ∧ (a_12 = y'.a3 ∧ 0 = 0 ∧ cap_4 = y'.c3 ∧ x1) ∧ (y.a4 = y'.a4 ∧ 0 = 0 ∧ y.c4 = y'.c4 ∧ x2) ∧ (2 = 2 ∧ 3 = 3 ∧ 0 = 0 ∧ n = n ∧ n = n) ∧ simC (SC.xs a n cap 3 (blk0 P H A C)) (SC.xs a n cap 3 (blk0 P H A C)) ∧ (↑n : Int) = (↑n : Int) ∧ Go.IntKind.i64.wrap ((↑y.k : Int) + (1 : Int)) = (↑y'.k : Int) ∧ simC (SC.xs a n cap 3 (blk0 P H A C)) (SC.xs a n cap 3 (blk0 P H A C)) ∧ best = best ∧ fin = fin ∧ 0 = 0 ∧ Go.Value.slice Option.none 0 0 = Go.Value.slice Option.none 0 0 ∧ (0 : Int) = (0 : Int) ∧ (0 : Int) = (0 : Int) ∧ 0 = 0 ∧ n = n ∧ 0 = 0 ∧ (∀ (i : Nat), i < n → allC 3 fun (c : Nat) => simC (setG (owW y.k P H y.A y.C) (0 + (↑y.k : Int).toNat) 0 (flat (toKs (SA.agg [SK.c (blk0 P H A C (↑y.k : Int).toNat 0), SK.c (blk0 P H A C (↑y.k : Int).toNat 1), SK.c (SC.xs a_9 0 cap_3 109 noCl)]))) i c) (owW y'.k P H y'.A y'.C i c)) ∧ (n - y'.k).succ.le (n - y.k)) ∧ (Decidable.decide ((↑y.k : Int) < (↑n : Int)) = Bool.false → ∃ (ac : List Nat → Option Go.Addr × Nat), True ∧ (0 + n ≤ n ∧ n = n ∧ n ≤ n ∧ ∀ (i : Nat), i < n → allC 3 fun (c : Nat) => simC (owW y.k P H y.A y.C (0 + i) c) (owF P H ac i c)) ∧ (best = best ∧ True) ∧ (fin = fin ∧ True) ∧ True)) := by kernel_rfl
end Go.Proofs.Ytkggabbcigeieaa
end
