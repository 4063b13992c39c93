/-
  Texts: Sx17, TexN, Okx, V200, P320, V201, P321, V202, P322, V203, P323.
-/
import Derived.Test.YtnomjdechekapaaM1
import Derived.Test.YtnomjdechekapaaM2
import Derived.Test.YtnomjdechekapaaM3
import Derived.Test.YtnomjdechekapaaM4
import Derived.Test.YtnomjdechekapaaM5
import Derived.Test.YtnomjdechekapaaM6
import Derived.Test.YtnomjdechekapaaM7
import Derived.Test.YtnomjdechekapaaM8
import Derived.Test.YtnomjdechekapaaM9
import Derived.Test.YtnomjdechekapaaChecked
section
namespace Go.Sx
open Go.RowKit
structure NSpec where
  e : TypeId
  wd : Nat
  of : List SA → Option (List Prop × Nat × (Nat → Nat → SC) × List SA)
inductive NewN (e : TypeId) (wd n : Nat) (g : Nat → Nat → SC) : SC → List SO → Prop
  | none (h : n = 0) : NewN e wd n g (.val (.slice none 0 0)) []
  | own (cap sp : Nat) (h : 0 < n) (hc : capOK wd n cap sp) : NewN e wd n g (.slw 0 wd 0 n cap) [.row e wd n g sp]
def FnOKn (P : Program) (gl : Globs) (f : Nat) (s : NSpec) : Prop :=
  ∀ args ps n' g' vs, s.of args = some (ps, n', g', vs) → Ok ps → (∀ v ∈ vs, v.bnd none0) ∧ closedG n' s.wd g' ∧ ∀ (Z : World) (ρ : Rho) (w : World), Below Z.heap.size Z w → Mem Z.heap.size ρ [] w → GlobsOK gl ρ.fz →
    (∀ x ∈ args, x.bnd ⟨fun _ => False, ρ.fz⟩) → ∀ keep : Nat → Obj → Prop, Keeps keep ρ [] w →
    (callFunc f (args.map (SA.conc ρ)).toArray).run P w = .ok (.enter f (args.map (SA.conc ρ)).toArray) w ∧
      Calls P f (args.map (SA.conc ρ)).toArray w fun r w' => ∃ (ρ' : Rho) (x : SC) (obn : List SO), NewN s.e s.wd n' g' x obn ∧ r = .returned (valL (x.conc ρ' :: vs.map (SA.conc Rho.nil))) ∧ Below Z.heap.size Z w' ∧
        Mem Z.heap.size ρ' obn w' ∧ (∀ b o u, ρ.fz b o u → ρ'.fz b o u) ∧ Keeps keep ρ' obn w'
def getN : List (Nat × NSpec) → Nat → Option NSpec
  | [], _ => none
  | (g, s) :: r, f => match Nat.beq g f with
    | true => some s
    | false => getN r f
theorem getN_ok {P : Program} {gl : Globs} : ∀ {l : List (Nat × NSpec)} {f : Nat} {s : NSpec}, (∀ p ∈ l, FnOKn P gl p.1 p.2) → getN l f = some s → FnOKn P gl f s
  | [], _, _, _, h => by simp [getN] at h
  | (g, s') :: r, f, s, hc, h => by
    simp only [getN] at h
    split at h
    · rename_i e
      have e := Nat.eq_of_beq_eq_true e
      simp only [Option.some.injEq] at h
      subst h
      subst e
      exact hc (g, s') (by simp)
    · exact getN_ok (fun p hp => hc p (by simp [hp])) h
def inlN (nl : List (Nat × NSpec)) (inner : Inl) : Inl := fun f args ob k =>
  match getN nl f with
  | none => inner f args ob k
  | some s => match args.all (SA.bndB fun _ => false) with
    | true => match s.of args with
      | some (ps, n, g, vs) => ands ps ((n = 0 → k (resV (.sc (.val (.slice none 0 0)) :: vs)) ob) ∧ (0 < n → ∀ c : Nat, n + c ≤ maxLen → k (resV (.sc (.slw ob.length s.wd 0 n (n + c)) :: vs)) (ob ++ [.row s.e s.wd n g (c * s.wd)])))
      | none => StuckAt "card"
    | false => StuckAt "taken"
theorem inlN_ok {P : Program} {gl : Globs} {nl : List (Nat × NSpec)} (hnl : ∀ p ∈ nl, FnOKn P gl p.1 p.2) {inner : Inl} (hin : InlOK P gl inner) : InlOK P gl (inlN nl inner) := by
  intro f args ob k h Z ρ tm a w hz H hargs
  unfold inlN at h
  split at h
  · exact hin f args ob k h hz H hargs
  rename_i s hs
  have hfn := getN_ok hnl hs
  split at h
  case h_2 => exact h.no
  rename_i hall1
  split at h
  case h_2 => exact h.no
  rename_i ps n' g' vs hof
  obtain ⟨hp, h⟩ := ands_iff.1 h
  obtain ⟨hvs, hcl, hfn⟩ := hfn _ _ _ _ _ hof hp
  have hr : ∀ y ∈ args, y.bnd ⟨fun _ => False, ρ.fz⟩ := fun y hy => SA.bndB_none (List.all_eq_true.1 hall1 y hy) (n := lv ρ ob) (hargs y hy)
  have hm1 : Mem Z.w.heap.size ⟨ρ.pos, ρ.fz⟩ [] w := ⟨fun i y hi => by simp at hi, fun i j hi => by obtain ⟨z, hz, _⟩ := hi; simp at hz, fun b o v hv => ⟨(H.mem.frz b o v hv).1, fun i hi => by obtain ⟨z, hz, _⟩ := hi; simp at hz⟩⟩
  have hkeep : Keeps (fun b y => Z.keep b y ∨ ∃ i, live ob i ∧ ρ i = b ∧ w.heap[b]? = some y) ⟨ρ.pos, ρ.fz⟩ [] w := fun b y hy => by
    have hno : ∀ j, live [] j → (⟨ρ.pos, ρ.fz⟩ : Rho) j ≠ b := fun j hj => by obtain ⟨z, hz, _⟩ := hj; simp at hz
    rcases hy with hy | ⟨i, hi, rfl, hy⟩
    · exact ⟨(H.keeps b y hy).1, hno⟩
    · exact ⟨hy, hno⟩
  obtain ⟨q, hc⟩ := hfn Z.w ⟨ρ.pos, ρ.fz⟩ w H.below hm1 (by rw [← hz]; exact H.gl) hr _ hkeep
  refine ⟨q, hc.mono ?_⟩
  rintro e w' ⟨ρ', x, obn, hnew, rfl, hbl, hm', hf', hkk⟩
  refine ⟨_, rfl, ?_⟩
  cases hnew with
  | none hn =>
    have hk := h.1 hn
    have hm2 : Mem Z.w.heap.size ρ ob w' := by
      refine ⟨fun i y hi hy => ?_, H.mem.injs, fun b c u hu => ⟨(hm'.frz b c u (hf' b c u hu)).1, (H.mem.frz b c u hu).2⟩⟩
      obtain ⟨a1, ⟨rs, hrs, a2⟩, a3⟩ := H.mem.objs i y hi hy
      exact ⟨a1, ⟨rs, hrs, (hkk (ρ i) _ (.inr ⟨i, ⟨y, hi, hy⟩, rfl, a2⟩)).1⟩, a3⟩
    have H2 : Holds Z ρ (scrub ob tm) ob a w' := H.onto (fun _ _ _ => rfl) (fun _ _ _ h => h) (fun b o v hv => .inl ⟨o, v, hv⟩) hbl hm2 H.kept fun b y hy => ⟨(hkk b y (.inl hy)).1, (H.keeps b y hy).2⟩
    refine ⟨ρ, _, _, hk, ?_, ?_, H2⟩
    · have hv : (SA.sc (.val (.slice none 0 0)) :: vs).map (SA.conc ρ) = (SC.val (.slice none 0 0)).conc ρ' :: vs.map (SA.conc Rho.nil) := by
        rw [List.map_cons]
        congr 1
        exact List.map_congr_left fun y hy => Agree.sa (n := none0) (ρ := Rho.nil) (ρ' := ρ) (fun _ q => q.elim) (hvs y hy)
      rw [← hv]
      exact valL_conc ρ _
    · refine resV_bnd fun y hy => ?_
      rcases List.mem_cons.1 hy with rfl | hy
      · trivial
      · exact SA.bnd_mono none0_le (hvs y hy)
  | own cap' sp' hn hcap =>
    obtain ⟨cp, rfl⟩ : ∃ c, cap' = n' + c := ⟨cap' - n', by have := hcap.le; omega⟩
    have hsp : sp' = cp * s.wd := by
      have := hcap.room
      rw [Nat.add_mul] at this
      omega
    subst hsp
    have hk := h.2 hn cp hcap.most
    have hlast : (ob ++ [SO.row s.e s.wd n' g' (cp * s.wd)])[ob.length]? = some (.row s.e s.wd n' g' (cp * s.wd)) := by simp
    have hback : ∀ i, i ≠ ob.length → (ob ++ [SO.row s.e s.wd n' g' (cp * s.wd)])[i]? = ob[i]? := fun i hi => by
      rcases Nat.lt_or_ge i ob.length with hl | hl
      · rw [List.getElem?_append_left hl]
      · rw [List.getElem?_eq_none (by simp; omega), List.getElem?_eq_none hl]
    let ρ2 : Rho := ⟨fun i => if i = ob.length then ρ' 0 else ρ i, ρ.fz⟩
    have r0 : ρ2 ob.length = ρ' 0 := if_pos rfl
    have r1 : ∀ i, i ≠ ob.length → ρ2 i = ρ i := fun i hi => if_neg hi
    have alive : ∀ i, i ≠ ob.length → live (ob ++ [SO.row s.e s.wd n' g' (cp * s.wd)]) i → live ob i := fun i hi hl => by
      obtain ⟨y, hy, hh⟩ := hl
      rw [hback i hi] at hy
      exact ⟨y, hy, hh⟩
    have hfar : ∀ i, live ob i → ρ' 0 ≠ ρ i := fun i hi => by
      obtain ⟨y, hy, hh⟩ := id hi
      obtain ⟨_, ⟨rs, _, a2⟩, _⟩ := H.mem.objs i y hy hh
      exact (hkk (ρ i) _ (.inr ⟨i, hi, rfl, a2⟩)).2 0 ⟨_, rfl, rfl⟩
    obtain ⟨b1, ⟨rest, b2, b3⟩, _⟩ := hm'.objs 0 _ rfl rfl
    have hrc : ∀ {E : Env}, rowOK E s.wd n' g' := fun i hi c hc => ⟨SC.bnd_mono none0_le (hcl i hi c hc).1, (hcl i hi c hc).2⟩
    have hm2 : Mem Z.w.heap.size ρ2 (ob ++ [SO.row s.e s.wd n' g' (cp * s.wd)]) w' := by
      refine ⟨fun i y hi hy => ?_, fun i j hi hj hij => ?_, fun b c u hu => ?_⟩
      · by_cases e : i = ob.length
        · subst e
          rw [hlast] at hi
          simp only [Option.some.injEq] at hi
          subst hi
          rw [r0]
          exact ⟨b1, ⟨rest, b2, b3⟩, hrc⟩
        · rw [hback i e] at hi
          have hl0 : live ob i := ⟨y, hi, hy⟩
          have hi2 : ob[i]? = some y := hi
          obtain ⟨a1, ⟨rs, hrs, a2⟩, a3⟩ := H.mem.objs i y hi2 hy
          rw [r1 i e]
          refine ⟨a1, ⟨rs, hrs, ?_⟩, ?_⟩
          · rw [(hkk (ρ i) _ (.inr ⟨i, hl0, rfl, a2⟩)).1]
            have : y.vals ρ2 = y.vals ρ := by
              cases y with
              | cells e ks sp =>
                exact Agree.sks (n := lv ρ ob) (ρ := ρ) (ρ' := ρ2) (fun i hi => r1 i (by obtain ⟨z, hz, _⟩ := hi; have := ob_lt hz; omega)) (fun kk hkk => a3.1 kk hkk)
              | row e w n g sp => rfl
              | rown e w n g sp p => exact vals_agree (E := lv ρ ob) (fun i hi => r1 i (by obtain ⟨z, hz, _⟩ := hi; have := ob_lt hz; omega)) a3
              | gone => rfl
              | dead => rfl
            rw [this]
          · cases y with
            | cells e ks sp =>
              refine ⟨fun kk hkk => ?_, a3.2⟩
              exact SK.bnd_mono (n := lv ρ ob) (m := lv ρ2 (ob ++ [SO.row s.e s.wd n' g' (cp * s.wd)])) ⟨fun i hi => by
                obtain ⟨z, hz, hh⟩ := hi
                exact ⟨z, by rw [hback i (by have := ob_lt hz; omega)]; exact hz, hh⟩, fun _ _ _ h => h⟩ (a3.1 kk hkk)
            | row e w n g sp => exact a3
            | rown e w n g sp p =>
              exact SO.ok_mono (n := lv ρ ob) (m := lv ρ2 (ob ++ [SO.row s.e s.wd n' g' (cp * s.wd)])) ⟨fun i hi => by
                obtain ⟨z, hz, hh⟩ := hi
                exact ⟨z, by rw [hback i (by have := ob_lt hz; omega)]; exact hz, hh⟩, fun _ _ _ h => h⟩ a3
            | gone => cases hy
            | dead => cases hy
      · by_cases e1 : i = ob.length
        · by_cases e2 : j = ob.length
          · rw [e1, e2]
          · subst e1
            rw [r0, r1 j e2] at hij
            exact absurd hij (hfar j (alive j e2 hj))
        · by_cases e2 : j = ob.length
          · subst e2
            rw [r0, r1 i e1] at hij
            exact absurd hij.symm (hfar i (alive i e1 hi))
          · rw [r1 i e1, r1 j e2] at hij
            exact H.mem.injs i j (alive i e1 hi) (alive j e2 hj) hij
      · obtain ⟨k1, k2⟩ := hm'.frz b c u (hf' b c u hu)
        refine ⟨k1, fun i hi => ?_⟩
        by_cases e : i = ob.length
        · subst e; rw [r0]; exact k2 0 ⟨_, rfl, rfl⟩
        · rw [r1 i e]; exact (H.mem.frz b c u hu).2 i (alive i e hi)
    have hkept : Kept Z ρ2 (ob ++ [SO.row s.e s.wd n' g' (cp * s.wd)]) := by
      have hlow : ∀ {i : Nat}, i < Z.ob.length → i < ob.length := fun h => by have := H.kept.2.2; omega
      refine ⟨fun i hi => ?_, fun i hi => ?_, by have := H.kept.2.2; simp; omega⟩
      · have hil : i < ob.length := hlow (by obtain ⟨z, hz, _⟩ := hi; exact ob_lt hz)
        rcases H.kept.1 i hi with ⟨⟨z, hz, hh⟩, k2⟩ | k1
        · exact .inl ⟨⟨z, by rw [hback i (by omega)]; exact hz, hh⟩, by rw [r1 i (by omega)]; exact k2⟩
        · exact .inr (by rw [hback i (by omega)]; exact k1)
      · have hil : i < ob.length := hlow (ob_lt hi)
        rw [hback i (by omega)]
        exact H.kept.2.1 i hi
    have hkk2 : Keeps Z.keep ρ2 (ob ++ [SO.row s.e s.wd n' g' (cp * s.wd)]) w' := fun b y hy => by
      refine ⟨(hkk b y (.inl hy)).1, fun i hi => ?_⟩
      by_cases e : i = ob.length
      · subst e; rw [r0]; exact (hkk b y (.inl hy)).2 0 ⟨_, rfl, rfl⟩
      · rw [r1 i e]; exact (H.keeps b y hy).2 i (alive i e hi)
    have H2 : Holds Z ρ2 (scrub (ob ++ [SO.row s.e s.wd n' g' (cp * s.wd)]) tm) (ob ++ [SO.row s.e s.wd n' g' (cp * s.wd)]) a w' := by
      refine H.onto (fun i hi _ => r1 i ?_) (fun _ _ _ h => h) (fun b o v hv => .inl ⟨o, v, hv⟩) hbl hm2 hkept hkk2
      obtain ⟨z, hz, _⟩ := hi
      have := ob_lt hz
      omega
    refine ⟨ρ2, _, _, hk, ?_, ?_, H2⟩
    · have hv : (SA.sc (.slw ob.length s.wd 0 n' (n' + cp)) :: vs).map (SA.conc ρ2) = (SC.slw 0 s.wd 0 n' (n' + cp)).conc ρ' :: vs.map (SA.conc Rho.nil) := by
        rw [List.map_cons]
        congr 1
        · simp only [SA.conc, SC.conc, r0]
        · exact List.map_congr_left fun y hy => Agree.sa (n := none0) (ρ := Rho.nil) (ρ' := ρ2) (fun _ q => q.elim) (hvs y hy)
      rw [← hv]
      exact valL_conc ρ2 _
    · refine resV_bnd fun y hy => ?_
      rcases List.mem_cons.1 hy with rfl | hy
      · exact ⟨_, hlast, rfl⟩
      · exact SA.bnd_mono none0_le (hvs y hy)
section
variable {P : Program}
def inlNw (P : Program) (cx : Cx) (sl : List (Nat × SSpec)) (tl : List (Nat × TSpec)) (nl : List (Nat × NSpec)) (dr : Drawn) (iv : List (Nat × Hint)) (N : Nat) : Nat → Inl
  | 0 => inlN nl (inlT tl (inlW cx.wf (inlS sl noInl)))
  | d + 1 => inlN nl (inlT tl (inlW cx.wf (inlS sl fun f args ob k =>
    match P.funcs[f]? with
    | some fn =>
      match fn.body, fn.name == "runtime.NumGoroutine" with
      | some c, false => sx P { cx with kn := ob.length } (inlNw P cx sl tl nl dr iv N d) dr iv N ((f + 1) * 100000) ob.length c (slots0 args fn.ntmps) ob (ret P fn.results.toList k)
      | _, _ => StuckAt "no text"
    | none => StuckAt "no function")))
theorem inlNw_ok {cx : Cx} (hcx : CxOK P cx) {sl : List (Nat × SSpec)} (hsl : ∀ p ∈ sl, FnOKs P cx.gl p.1 p.2) {tl : List (Nat × TSpec)} (htl : ∀ p ∈ tl, FnOKt P cx.gl p.1 p.2) {nl : List (Nat × NSpec)} (hnl : ∀ p ∈ nl, FnOKn P cx.gl p.1 p.2) {dr : Drawn} (hdr : DrawnOK P cx dr) (iv : List (Nat × Hint)) (N : Nat) : ∀ d, InlOK P cx.gl (inlNw P cx sl tl nl dr iv N d)
  | 0 => inlN_ok hnl (inlT_ok htl (inlW_ok hcx.2 (inlS_ok hsl (noInl_ok P cx.gl))))
  | d + 1 => by
    refine inlN_ok hnl (inlT_ok htl (inlW_ok hcx.2 (inlS_ok hsl ?_)))
    intro f args ob k h Z ρ tm a w hz H hargs
    split at h
    case h_2 => exact h.no
    rename_i fn hf
    split at h
    case h_2 => exact h.no
    rename_i c hb hn
    refine ⟨run_callFunc_enter hf (by rw [hb]; rfl) hn _ w, ?_⟩
    refine calls_of_sx (cx := { cx with kn := ob.length }) hcx (inlNw_ok hcx hsl htl hnl hdr iv N d) hdr iv N _ hf hb args ρ hargs w H.below H.mem (by rw [← hz]; exact H.gl) (Nat.le_refl _) H.keeps k (fun sv ob' ρ' v w' hk hr hbd hB hm hkp hfz hkk => ?_) h
    refine ⟨v, rfl, ρ', sv, ob', hk, hr, hbd, H.onto (fun i hi hi' => ?_) hfz.le hfz.own hB hm ⟨fun i hi => ?_, fun i hi => hkp.2.1 i (H.kept.2.1 i hi), Nat.le_trans H.kept.2.2 hkp.2.2⟩ hkk⟩
    · rcases hkp.1 i hi with ⟨_, e⟩ | e
      · exact e
      · obtain ⟨_, h', hh⟩ := hi'; rw [e] at h'; cases h'; cases hh
    · rcases H.kept.1 i hi with ⟨k1, k2⟩ | k1
      · rcases hkp.1 i k1 with ⟨q1, q2⟩ | q
        · exact .inl ⟨q1, Eq.trans q2 k2⟩
        · exact .inr q
      · exact .inr (hkp.2.1 i k1)
def isOwn : Option Nat → Nat → Prop
  | none, _ => True
  | some _, n => 0 < n
def okNs (s : NSpec) (n : Nat) (g : Nat → Nat → SC) (vs : List SA) (ob : List SO) : List SA → Prop
  | x :: r => match headT ob s.wd s.e x with
    | some (qs, m, h, _, old) => ands qs (ands [m = n, isOwn old n] (ands [∀ i, i < n → allC s.wd fun c => simC (h i c) (g i c)] (okV r vs)))
    | none => StuckAt "head"
  | _ => StuckAt "result"
def okN (s : NSpec) (n : Nat) (g : Nat → Nat → SC) (vs : List SA) (sv : SV) (ob : List SO) : Prop :=
  match sv with
  | .one x => okNs s n g vs ob [x]
  | .tup [_] => False
  | .tup xs => okNs s n g vs ob xs
  | _ => False
def OwesNP (P : Program) (cx : Cx) (sl : List (Nat × SSpec)) (tl : List (Nat × TSpec)) (nl : List (Nat × NSpec)) (iv : List (Nat × Hint)) (N : Nat) (fn : Func) (args : List SA) (post : SV → List SO → Prop) : Prop :=
  sx P { cx with kn := 0 } (inlNw P cx sl tl nl drawOK iv N 8) drawOK iv N 0 0 (fn.body.getD .skip) (slots0 args fn.ntmps) [] (ret P fn.results.toList post)
def OwesNw (P : Program) (cx : Cx) (sl : List (Nat × SSpec)) (tl : List (Nat × TSpec)) (nl : List (Nat × NSpec)) (iv : List (Nat × Hint)) (N : Nat) (fn : Func) (args : List SA) (s : NSpec) (n : Nat) (g : Nat → Nat → SC) (vs : List SA) : Prop :=
  OwesNP P cx sl tl nl iv N fn args (okN s n g vs)
def OwesNr (P : Program) (cx : Cx) (sl : List (Nat × SSpec)) (tl : List (Nat × TSpec)) (nl : List (Nat × NSpec)) (iv : List (Nat × Hint)) (N : Nat) (fn : Func) (args : List SA) (sh : Bool) (rs : List RS) : Prop :=
  OwesNP P cx sl tl nl iv N fn args (okRS sh rs)
theorem FnOKn_owes {cx : Cx} (hcx : CxOK P cx) {sl : List (Nat × SSpec)} (hsl : ∀ p ∈ sl, FnOKs P cx.gl p.1 p.2) {tl : List (Nat × TSpec)} (htl : ∀ p ∈ tl, FnOKt P cx.gl p.1 p.2) {nl : List (Nat × NSpec)} (hnl : ∀ p ∈ nl, FnOKn P cx.gl p.1 p.2) {f : Nat} {fn : Func} (hf : P.funcs[f]? = some fn) (hb : fn.body.isSome = true) (hn : (fn.name == "runtime.NumGoroutine") = false) {s : NSpec}
    (h : ∀ args ps n g vs, s.of args = some (ps, n, g, vs) → Ok ps → ∃ args', (∀ ρ, args.map (SA.conc ρ) = args'.map (SA.conc ρ)) ∧ (∀ E : Env, (∀ x ∈ args, x.bnd E) → ∀ x ∈ args', x.bnd E) ∧ (∀ v ∈ vs, v.bnd none0) ∧ closedG n s.wd g ∧
      ∃ iv N, OwesNw P cx sl tl nl iv N fn args' s n g vs) : FnOKn P cx.gl f s := by
  intro args ps n g vs hs hp
  obtain ⟨args', h1, h2, hvs, hcl, iv, N, h4⟩ := h args ps n g vs hs hp
  refine ⟨hvs, hcl, fun Z ρ w hB hm hg ha keep hkeep => ⟨run_callFunc_enter hf hb hn _ w, ?_⟩⟩
  obtain ⟨c, hc⟩ := Option.isSome_iff_exists.1 hb
  rw [h1]
  unfold OwesNw OwesNP at h4
  rw [hc] at h4
  refine calls_of_sx (cx := { cx with kn := 0 }) hcx (inlNw_ok hcx hsl htl hnl (drawOK_ok hcx) iv N 8) (drawOK_ok hcx) iv N 0 hf hc (Z := Z) (ob := []) args' ρ (fun x hx => SA.bnd_mono (n := ⟨fun _ => False, ρ.fz⟩) (m := lv ρ []) ⟨fun _ k => k.elim, fun _ _ _ k => k⟩ (h2 _ ha x hx)) w hB hm hg (Nat.le_refl _) hkeep _ (fun sv ob' ρ' v w' hq hr hbd hB' hm' hkp hfz hkk => ?_) h4
  have H : Holds ⟨Z, [], ρ, cx.gl, keep⟩ ρ' [] ob' { tmps := #[], defers := [] } w' := by
    refine ⟨rfl, fun t => ?_, fun t => ?_, rfl, hB', hm', hkp, fun p hp => ?_, hfz, hkk⟩
    · rw [show ([] : List SV).getD t .any = .any by simp]; trivial
    · rw [show ([] : List SV).getD t .any = .any by simp]; trivial
    · obtain ⟨g1, g2⟩ := hg p hp
      exact ⟨fun k hk => SK.bnd_mono (n := ⟨fun _ => False, ρ.fz⟩) (m := ⟨fun _ => False, ρ'.fz⟩) ⟨fun _ x => x, fun b o v h => hfz.le b o v h⟩ (g1 k hk), fun o v h => hfz.le _ _ _ (g2 o v h)⟩
  have key : ∀ xs : List SA, okNs s n g vs ob' xs → v = valL (xs.map (SA.conc ρ')) → ∃ (ρ' : Rho) (x : SC) (obn : List SO), NewN s.e s.wd n g x obn ∧ Ending.returned v = .returned (valL (x.conc ρ' :: vs.map (SA.conc Rho.nil))) ∧ Below Z.heap.size Z w' ∧
        Mem Z.heap.size ρ' obn w' ∧ (∀ b o u, ρ.fz b o u → ρ'.fz b o u) ∧ Keeps keep ρ' obn w' := by
    intro xs hxs hv
    unfold okNs at hxs
    split at hxs
    case h_2 => exact hxs.no
    rename_i x r
    split at hxs
    case h_2 => exact hxs.no
    rename_i qs m h' ob0 old hh
    obtain ⟨hqs, hxs⟩ := ands_iff.1 hxs
    obtain ⟨⟨hmn, hio, _⟩, hxs2⟩ := ands_iff.1 hxs
    obtain ⟨⟨hrows, _⟩, hxs3⟩ := ands_iff.1 hxs2
    subst hmn
    obtain ⟨hown, hkl, hrow, hold⟩ := headT_sound H hh hqs
    have hval : ∀ y : Value, x.conc ρ' = y → v = valL (y :: vs.map (SA.conc Rho.nil)) := fun y hy => by
      rw [hv, List.map_cons, okV_sound (ρ := ρ') hxs3, hy]
      congr 2
      exact List.map_congr_left fun y hy => Agree.sa (n := none0) (ρ := Rho.nil) (ρ' := ρ') (fun _ q => q.elim) (hvs y hy)
    rcases hown.2 with ⟨hx, hn0⟩ | ⟨b, cap, cur, hx, hB0, hcur, hnc, hcm, hsz, htk⟩
    · refine ⟨⟨ρ'.pos, ρ'.fz⟩, _, [], .none hn0, by rw [hval _ hx]; rfl, hB', ⟨fun i y hi => by simp at hi, fun i j hi => by obtain ⟨z, hz, _⟩ := hi; simp at hz, fun b o v hv => ⟨(hm'.frz b o v hv).1, fun i hi => by obtain ⟨z, hz, _⟩ := hi; simp at hz⟩⟩, hfz.le, fun b y hy => ⟨(hkk b y hy).1, fun i hi => by obtain ⟨z, hz, _⟩ := hi; simp at hz⟩⟩
    · have hlive : ∃ o, live ob' o ∧ b = ρ' o := by
        rcases hkl with ⟨e2, _⟩ | ⟨o2, y, ho, hy, _, e2⟩
        · rw [hx] at e2; cases e2
        · rw [hx] at e2
          exact ⟨o2, ⟨y, ho, hy⟩, by simpa [Value.ownBlock] using e2⟩
      have hpos : 0 < m := by
        rcases hold with ⟨_, _, e, _⟩ | ⟨o, rfl, _⟩
        · rw [hx] at e; cases e
        · exact hio
      obtain ⟨o2, hl2, rfl⟩ := hlive
      have hcurl : cur.toList = rowc s.wd m h' ++ cur.toList.drop (m * s.wd) := by rw [← htk]; exact (List.take_append_drop _ _).symm
      refine ⟨⟨fun _ => ρ' o2, ρ'.fz⟩, _, _, .own cap (cap * s.wd - m * s.wd) hpos ⟨hnc, hcm, ?_⟩, by rw [hval _ hx]; simp [SC.conc], hB', ⟨fun i y hi hy => ?_, fun i j hi hj _ => ?_, fun b c u hu => ⟨(hm'.frz b c u hu).1, fun i _ => (hm'.frz b c u hu).2 o2 hl2⟩⟩, hfz.le, fun b y hy => ⟨(hkk b y hy).1, fun i _ => (hkk b y hy).2 o2 hl2⟩⟩
      · have := Nat.mul_le_mul_right s.wd hnc; omega
      · cases i with
        | succ i => simp at hi
        | zero =>
          simp only [List.getElem?_cons_zero, Option.some.injEq] at hi
          subst hi
          refine ⟨hB0, ⟨cur.toList.drop (m * s.wd), ?_, ?_⟩, fun i hi c hc => ⟨SC.bnd_mono none0_le (hcl i hi c hc).1, (hcl i hi c hc).2⟩⟩
          · rw [List.length_drop, Array.length_toList, hsz]; rfl
          · show w'.heap[ρ' o2]? = some (.cells (rowc s.wd m g ++ cur.toList.drop (m * s.wd)).toArray s.e (0, 0))
            rw [← rowc_congr hrows, ← hcurl, hcur]
      · obtain ⟨y, hy, _⟩ := hi
        obtain ⟨z, hz', _⟩ := hj
        cases i with
        | succ i => simp at hy
        | zero => cases j with
          | succ j => simp at hz'
          | zero => rfl
  unfold okN at hq
  split at hq
  · exact key _ hq (by rw [hr]; rfl)
  · exact hq.elim
  · rename_i xs hne
    refine key _ hq ?_
    rw [hr]
    match xs, hne with
    | [], _ => rfl
    | [x], hne => exact absurd rfl (hne x)
    | x :: y :: r, _ => rfl
  · exact hq.elim
theorem FnOKs_owesNr {cx : Cx} (hcx : CxOK P cx) {sl : List (Nat × SSpec)} (hsl : ∀ p ∈ sl, FnOKs P cx.gl p.1 p.2) {tl : List (Nat × TSpec)} (htl : ∀ p ∈ tl, FnOKt P cx.gl p.1 p.2) {nl : List (Nat × NSpec)} (hnl : ∀ p ∈ nl, FnOKn P cx.gl p.1 p.2) {f : Nat} {fn : Func} (hf : P.funcs[f]? = some fn) (hb : fn.body.isSome = true) (hn : (fn.name == "runtime.NumGoroutine") = false) {s : SSpec}
    (h : ∀ args ps rs, s.of args = some (ps, rs) → Ok ps → ∃ iv N args', (∀ ρ, args.map (SA.conc ρ) = args'.map (SA.conc ρ)) ∧ (∀ fz, (∀ x ∈ args, x.bnd ⟨fun _ => True, fz⟩) → ∀ x ∈ args', x.bnd ⟨fun _ => False, fz⟩) ∧ (∀ r ∈ rs, r.closed) ∧ OwesNr P cx sl tl nl iv N fn args' s.share rs) : FnOKs P cx.gl f s := by
  intro args ps rs hs hp ρ w hz hg ha
  refine ⟨run_callFunc_enter hf hb hn _ w, ?_⟩
  obtain ⟨iv, N, args', h1, h2, h3, h4⟩ := h args ps rs hs hp
  rw [h1]
  obtain ⟨c, hc⟩ := Option.isSome_iff_exists.1 hb
  unfold OwesNr OwesNP at h4
  rw [hc] at h4
  refine calls_of_sx (cx := { cx with kn := 0 }) hcx (inlNw_ok hcx hsl htl hnl (drawOK_ok hcx) iv N 8) (drawOK_ok hcx) iv N 0 hf hc (Z := w) (ob := []) args' ρ (fun x hx => SA.bnd_mono (n := ⟨fun _ => False, ρ.fz⟩) (m := lv ρ []) ⟨fun _ k => k.elim, fun _ _ _ k => k⟩ (h2 _ ha x hx)) w (Below.refl _ _) (Mem.start hz) hg (Nat.zero_le _) (Keeps.none _ _ _) _ (fun sv ob' ρ' v w' hp' hr hbd hbl hm _ hfz _ => ?_) h4
  have key : ∀ xs : List SA, (∀ x ∈ xs, x.bnd (lv ρ' ob')) → okRL s.share ob' rs xs → RS.isL w' (fun b => w.heap.size ≤ b ∨ (s.share = true ∧ ∃ o u, ρ.fz b o u)) rs (xs.map (SA.conc ρ')) := fun xs hx hk => okRL_sound (F := ρ.fz) hm hfz.own h3 hx hk
  unfold okRS at hp'
  split at hp'
  · rename_i x
    exact ⟨_, by rw [hr]; rfl, key [x] (fun y hy => by simp only [List.mem_singleton] at hy; subst hy; exact hbd) hp', hbl⟩
  · exact hp'.elim
  · rename_i xs hne
    refine ⟨xs.map (SA.conc ρ'), ?_, key xs hbd hp', hbl⟩
    rw [hr]
    match xs, hne with
    | [], _ => rfl
    | [x], hne => exact absurd rfl (hne x)
    | x :: y :: r, _ => rfl
  · exact hp'.elim
end
attribute [irreducible] OwesNw OwesNr
end Go.Sx
end

section
namespace Go.Sx
def specN0 (e : TypeId) (wd : Nat) (aq : List AQ) (c : List (List FD) → List Prop) (n : List (List FD) → Nat) (g : List (List FD) → Nat → Nat → SC) : NSpec :=
  ⟨e, wd, fun args => match asQs aq args with
    | some (ps, ls) => some (ps ++ c ls, n ls, g ls, [])
    | none => none⟩
theorem FnOKn_R0 {P : Program} {cx : Cx} (hcx : CxOK P cx) {sl : List (Nat × SSpec)} (hsl : ∀ p ∈ sl, FnOKs P cx.gl p.1 p.2) {tl : List (Nat × TSpec)} (htl : ∀ p ∈ tl, FnOKt P cx.gl p.1 p.2) {nl : List (Nat × NSpec)} (hnl : ∀ p ∈ nl, FnOKn P cx.gl p.1 p.2) {f : Nat} {fn : Func} (hf : P.funcs[f]? = some fn) (hb : fn.body.isSome = true) (hn : (fn.name == "runtime.NumGoroutine") = false)
    {e : TypeId} {wd : Nat} {aq : List AQ} {c : List (List FD) → List Prop} {n : List (List FD) → Nat} {g : List (List FD) → Nat → Nat → SC}
    (h : ∀ ls, Ok (c ls) → ∃ iv N args', (∀ ρ, (mkQs aq ls).map (SA.conc ρ) = args'.map (SA.conc ρ)) ∧ (∀ E, (∀ x ∈ mkQs aq ls, x.bnd E) → ∀ x ∈ args', x.bnd E) ∧ closedG (n ls) wd (g ls) ∧ OwesNw P cx sl tl nl iv N fn args' (specN0 e wd aq c n g) (n ls) (g ls) []) : FnOKn P cx.gl f (specN0 e wd aq c n g) := by
  refine FnOKn_owes hcx hsl htl hnl hf hb hn fun args ps m g' vs hs hp => ?_
  simp only [specN0] at hs
  split at hs
  case h_2 => cases hs
  rename_i q ls ha
  simp only [Option.some.injEq, Prod.mk.injEq] at hs
  obtain ⟨rfl, rfl, rfl, rfl⟩ := hs
  obtain ⟨o1, o3⟩ := Ok.append.1 hp
  obtain ⟨a1, a2⟩ := asQs_sound ha
  obtain ⟨iv, N, args', h1, h2, hc, hw⟩ := h ls o3
  refine ⟨args', fun ρ => by rw [a1 o1 ρ, h1], fun E hx x hxm => ?_, fun v hv => (by cases hv), hc, iv, N, hw⟩
  exact SA.bnd_mono (n := ⟨fun _ => False, E.fz⟩) (m := E) ⟨fun _ k => k.elim, fun _ _ _ k => k⟩ (h2 ⟨fun _ => False, E.fz⟩ (fun y hy => a2 E hx y hy) x hxm)
theorem FnOKn.up0 {P : Program} {f : Nat} {s : NSpec} (h : FnOKn P [] f s) (gl : Globs) : FnOKn P gl f s := fun args ps n' g' vs hs hp => by
  obtain ⟨h1, h2, h3⟩ := h args ps n' g' vs hs hp
  exact ⟨h1, h2, fun Z ρ w hB hm _ ha keep hk => h3 Z ρ w hB hm (fun _ hq => by cases hq) ha keep hk⟩
theorem FnOKs_N0 {P : Program} {cx : Cx} (hcx : CxOK P cx) {sl : List (Nat × SSpec)} (hsl : ∀ p ∈ sl, FnOKs P cx.gl p.1 p.2) {tl : List (Nat × TSpec)} (htl : ∀ p ∈ tl, FnOKt P cx.gl p.1 p.2) {nl : List (Nat × NSpec)} (hnl : ∀ p ∈ nl, FnOKn P cx.gl p.1 p.2) {f : Nat} {fn : Func} (hf : P.funcs[f]? = some fn) (hb : fn.body.isSome = true) (hn : (fn.name == "runtime.NumGoroutine") = false)
    {share : Bool} {aq : List AQ} {c : List (List FD) → List Prop} {g : List (List FD) → List RS}
    (h : ∀ ls, Ok (c ls) → ∃ iv N args', (∀ ρ, (mkQs aq ls).map (SA.conc ρ) = args'.map (SA.conc ρ)) ∧ (∀ E, (∀ x ∈ mkQs aq ls, x.bnd E) → ∀ x ∈ args', x.bnd E) ∧ (∀ r ∈ g ls, r.closed) ∧ OwesNr P cx sl tl nl iv N fn args' share (g ls)) : FnOKs P cx.gl f (specQ0 share aq c g) := by
  refine FnOKs_owesNr hcx hsl htl hnl hf hb hn fun args ps rs hs hp => ?_
  simp only [specQ0] at hs
  split at hs
  case h_2 => cases hs
  rename_i q ls ha
  simp only [Option.some.injEq, Prod.mk.injEq] at hs
  obtain ⟨rfl, rfl⟩ := hs
  obtain ⟨o1, o3⟩ := Ok.append.1 hp
  obtain ⟨a1, a2⟩ := asQs_sound ha
  obtain ⟨iv, N, args', h1, h2, hc, hw⟩ := h ls o3
  refine ⟨iv, N, args', fun ρ => by rw [a1 o1 ρ, h1], fun fz hx x hxm => ?_, hc, hw⟩
  exact h2 ⟨fun _ => False, fz⟩ (fun y hy => a2 ⟨fun _ => True, fz⟩ hx y hy) x hxm
theorem FnOKs.plain {P : Program} {gl : Globs} {f : Nat} {fn : Func} (hf : P.funcs[f]? = some fn) (hb : fn.body.isSome = true) (hn : (fn.name == "runtime.NumGoroutine") = false) {s : SSpec} {t : FSpec} (h : FnOKs P gl f s)
    (ht : ∀ args ps sv, t args = some (ps, sv) → ∃ x : SA, sv = .one x ∧ x.bnd none0 ∧ s.of args = some (ps, [.v x])) : FnOKg P gl f t :=
  FnOK_of hf hb hn fun args ps sv hs hp => by
    obtain ⟨x, rfl, hb0, e⟩ := ht args ps sv hs
    refine ⟨hb0, fun ρ w hz hg ha => ((h args ps _ e hp ρ w hz hg ha).2).mono ?_⟩
    rintro e' w' ⟨vs, rfl, hvs, hbl⟩
    match vs, hvs with
    | [v], hvs =>
      obtain ⟨⟨ev, _⟩, _⟩ := hvs
      refine ⟨v, rfl, ?_, hbl⟩
      show v = x.conc ρ
      rw [ev]
      exact Agree.sa (n := none0) (ρ := ρ) (ρ' := Rho.nil) (fun _ q => q.elim) hb0
    | [], hvs => exact hvs.elim
    | _ :: _ :: _, hvs => exact hvs.2.elim
end Go.Sx
end

section
namespace Go.Sx
open Go.RowKit
theorem okx_nil {P : Program} {gl : Globs} : CxOK P ⟨[], gl, 0, []⟩ := ⟨fun _ h => (by cases h), fun _ h => (by cases h)⟩
theorem okx_cons {P : Program} {gl : Globs} {f : Nat} {s : FSpec} {l : List (Nat × FSpec)} {wf : List (Nat × WSpec)} (h : FnOKg P gl f s) (hs : CxOK P ⟨l, gl, 0, wf⟩) : CxOK P ⟨(f, s) :: l, gl, 0, wf⟩ :=
  ⟨fun p hp => by
    rcases List.mem_cons.1 hp with rfl | hp
    · exact h
    · exact hs.1 p hp, hs.2⟩
theorem okx_mark {P : Program} {gl : Globs} {f : Nat} {l : List (Nat × FSpec)} {wf : List (Nat × WSpec)} (hs : CxOK P ⟨l, gl, 0, wf⟩) : CxOK P ⟨(f, fun _ => none) :: l, gl, 0, wf⟩ :=
  okx_cons (fun _ _ _ h => (by cases h)) hs
theorem oks_nil {P : Program} {gl : Globs} : ∀ p ∈ ([] : List (Nat × SSpec)), FnOKs P gl p.1 p.2 := fun _ h => (by cases h)
theorem oks_cons {P : Program} {gl : Globs} {f : Nat} {s : SSpec} {l : List (Nat × SSpec)} (h : FnOKs P gl f s) (hl : ∀ p ∈ l, FnOKs P gl p.1 p.2) : ∀ p ∈ (f, s) :: l, FnOKs P gl p.1 p.2 := fun p hp => by
  rcases List.mem_cons.1 hp with rfl | hp
  · exact h
  · exact hl p hp
end Go.Sx
end

section
namespace Go.Proofs.Ytnomjdechekapaa
open Go.Sx
set_option maxRecDepth 100000
def blkF (P H : Nat → Int) (A : Nat → Option Addr) (N C : Nat → Nat) (X : Nat → Nat → Nat → SC) (i c : Nat) : SC :=
  match c with
  | 0 => .val (.int .i64 (P i))
  | 1 => .val (.int .i64 (H i))
  | _ => .xs (A i) (N i) (C i) 109 (X i)
def sTr (a : Option Addr) (n cap : Nat) (f : Nat → Nat → SC) (best fin : Int) : SA := .agg [.c (.xs a n cap 3 f), .c (.val (.int .i64 best)), .c (.val (.int .i64 fin))]
def pqTr : AQ := .st [.x 3, .i .i64, .i .i64]
def iAt (f : Nat → Nat → SC) (i c : Nat) : Int := match f i c with
  | .val (.int _ n) => n
  | _ => 0
def aAt : SC → Option Addr
  | .xs a _ _ _ _ => a
  | _ => none
def nAt : SC → Nat
  | .xs _ n _ _ _ => n
  | _ => 0
def cAt : SC → Nat
  | .xs _ _ c _ _ => c
  | _ => 0
def xAt : SC → Nat → Nat → SC
  | .xs _ _ _ _ g => g
  | _ => fun _ _ => .bit false
def clK (c : Nat) : IntKind := if c = 0 ∨ c = 65 ∨ c = 106 ∨ c = 107 then .i64 else if 66 ≤ c ∧ c < 74 then .u64 else .u8
def clF (V : Nat → Nat → Int) (A : Nat → Option Addr) (N C : Nat → Nat) (B : Nat → Nat → Int) (j c : Nat) : SC :=
  match Nat.blt c 108 with
  | true => .val (.int (clK c) (V j c))
  | false => .xs (A j) (N j) (C j) 1 fun i _ => .val (.int .u8 (B j i))
abbrev fCl (g : Nat → Nat → SC) : Nat → Nat → SC := clF (iAt g) (fun j => aAt (g j 108)) (fun j => nAt (g j 108)) (fun j => cAt (g j 108)) (fun j i => iAt (xAt (g j 108)) i 0)
structure clP (g : Nat → Nat → SC) : Prop where
  gf : ∀ j c, c < 109 → g j c = fCl g j c
def liT (P : Nat → Int) : Nat → Int → List Int
  | 0, _ => []
  | k + 1, b => if b < 0 then [] else liT P k (P b.toNat) ++ [b]
def lineT (P : Nat → Int) (b : Int) : List Int := liT P (b.toNat + 1) b
def lnN (P : Nat → Int) (b : Int) : Nat := (lineT P b).length
def lnG (P : Nat → Int) (b : Int) (i _ : Nat) : SC := .val (.int .i64 ((lineT P b).getD i 0))
structure trP (a : Option Addr) (n : Nat) (f : Nat → Nat → SC) : Prop where
  tn : n ≤ 1000
  ta : a = none → n = 0
  tf : ∀ i c, c < 3 → f i c = blkF (fun i => iAt f i 0) (fun i => iAt f i 1) (fun i => aAt (f i 2)) (fun i => nAt (f i 2)) (fun i => cAt (f i 2)) (fun i => xAt (f i 2)) i c
  tc : ∀ i, clP (xAt (f i 2))
  tp : ∀ i, i < n → -1 ≤ iAt f i 0 ∧ iAt f i 0 < (i : Int)
def ltC (k : Nat) : List (List FD) → List Prop
  | [[.x a n _ f, .i _, .i _], [.i b]] => [trP a n f, -1 ≤ b, b < (n : Int), b + 1 < (k : Int)]
  | _ => [False]
def ltN : List (List FD) → Nat
  | [[.x _ _ _ f, .i _, .i _], [.i b]] => lnN (fun i => iAt f i 0) b
  | _ => 0
def ltG : List (List FD) → Nat → Nat → SC
  | [[.x _ _ _ f, .i _, .i _], [.i b]] => lnG (fun i => iAt f i 0) b
  | _ => fun _ _ => .bit false
def cLt (k : Nat) : NSpec := specN0 3 1 [pqTr, .one (.i .i64)] (ltC k) ltN ltG
def cxLt : Cx := ⟨[(1000000015, fun _ => none)], [], 0, []⟩
theorem vc_lt (k : Nat) (a : Option Addr) (n cap : Nat) (P H : Nat → Int) (A : Nat → Option Addr) (N C : Nat → Nat) (X : Nat → Nat → Nat → SC) (best fin b : Int) :
    OwesNw Try.prog cxLt [] [] [(27, cLt k)] [] 4 Try.f27 [sTr a n cap (blkF P H A N C X) best fin, sI .i64 b] (cLt (k + 1)) (lnN P b) (lnG P b) [] =
    (let x1 : Nat := ltN [[FD.x a n cap (blkF P H A N C X), FD.i best, FD.i fin], [FD.i (P b.toNat)]]; let x2 : Prop := 0 < x1; let x3 : Nat := x1 + 1; let x4 : Prop := trP a n (blkF P H A N C X) ∧ (-1 : Int) ≤ P b.toNat ∧ P b.toNat < (↑n : Int) ∧ P b.toNat + (1 : Int) < (↑k : Int) ∧ (x1 = 0 → ∀ (c : Nat), 1 + c ≤ Go.maxLen → (1 ≤ 1 + c ∧ 1 + c ≤ Go.maxLen ∧ (1 + c) * 1 = 1 + c * 1) ∧ 1 = lnN P b ∧ Nat.le 1 (lnN P b) ∧ (∀ (i : Nat), i < lnN P b → allC 1 fun (c : Nat) => simC (fixAt (flat ([] ++ [SK.c (SC.val (Go.Value.int Go.IntKind.i64 b))])) 1 1 0 i c) (lnG P b i c)) ∧ True) ∧ (x2 → ∀ (c : Nat), x1 + c ≤ Go.maxLen → 0 = 0 ∧ x1 = x1 ∧ (x1 ≤ x1 + c ∧ x1 + c ≤ Go.maxLen ∧ (x1 + c) * 1 = x1 * 1 + c * 1) ∧ (x3 ≤ Go.maxLen ∧ x3 * 8 ≤ 140737488355328) ∧ ∀ (c_1 : Nat), x3 + c_1 ≤ Go.maxLen → 0 = 0 ∧ x3 = x3 ∧ (x3 ≤ x3 + c_1 ∧ x3 + c_1 ≤ Go.maxLen ∧ (x3 + c_1) * 1 = x3 * 1 + c_1 * 1) ∧ x3 = lnN P b ∧ Nat.le 1 (lnN P b) ∧ (∀ (i : Nat), i < lnN P b → allC 1 fun (c_2 : Nat) => simC (newH (SA.sc (SC.slw 2 1 0 x1 (x1 + c))) (SA.sc (SC.sl 1 0 1 1)) x1 (ltG [[FD.x a n cap (blkF P H A N C X), FD.i best, FD.i fin], [FD.i (P b.toNat)]]) (fixAt (flat [SK.c (SC.val (Go.Value.int Go.IntKind.i64 b))]) 1 1 0) i c_2) (lnG P b i c_2)) ∧ True); let x5 : Prop := ((trP a n (blkF P H A N C X) ∧ (-1 : Int) ≤ P b.toNat ∧ P b.toNat < (↑n : Int) ∧ P b.toNat + (1 : Int) < (↑k : Int) ∧ (x1 = 0 → ∀ (c : Nat), 1 + c ≤ Go.maxLen → (1 ≤ 1 + c ∧ 1 + c ≤ Go.maxLen ∧ (1 + c) * 1 = 1 + c * 1) ∧ 1 = lnN P b ∧ Nat.le 1 (lnN P b) ∧ (∀ (i : Nat), i < lnN P b → allC 1 fun (c : Nat) => simC (fixAt (flat ([] ++ [SK.c (SC.val (Go.Value.int Go.IntKind.i64 b))])) 1 1 0 i c) (lnG P b i c)) ∧ True) ∧ (x2 → ∀ (c : Nat), x1 + c ≤ Go.maxLen → 0 = 0 ∧ x1 = x1 ∧ (x1 ≤ x1 + c ∧ x1 + c ≤ Go.maxLen ∧ (x1 + c) * 1 = x1 * 1 + c * 1) ∧ (x3 ≤ Go.maxLen ∧ x3 * 8 ≤ 140737488355328) ∧ ∀ (c_1 : Nat), x3 + c_1 ≤ Go.maxLen → 0 = 0 ∧ x3 = x3 ∧ (x3 ≤ x3 + c_1 ∧ x3 + c_1 ≤ Go.maxLen ∧ (x3 + c_1) * 1 = x3 * 1 + c_1 * 1) ∧ x3 = lnN P b ∧ Nat.le 1 (lnN P b) ∧ (∀ (i : Nat), i < lnN P b → allC 1 fun (c_2 : Nat) => simC (newH (SA.sc (SC.slw 1 1 0 x1 (x1 + c))) (SA.sc (SC.sl 2 0 1 1)) x1 (ltG [[FD.x a n cap (blkF P H A N C X), FD.i best, FD.i fin], [FD.i (P b.toNat)]]) (fixAt (flat [SK.c (SC.val (Go.Value.int Go.IntKind.i64 b))]) 1 1 0) i c_2) (lnG P b i c_2)) ∧ True)) ∧ x4) ∧ x4; let x6 : Prop := ((0 : Int) ≤ b ∧ b < (↑n : Int)) ∧ x4; let x7 : Prop := x4 ∧ x4; let x8 : Prop := x6 ∧ ((0 : Int) ≤ b ∧ b < (↑n : Int)) ∧ x7; let x9 : Prop := x6 ∧ x8; (Decidable.decide (b < (0 : Int)) = Bool.true → 0 = lnN P b ∧ True ∧ (∀ (i : Nat), i < lnN P b → allC 1 fun (c : Nat) => simC (SC.bit Bool.false) (lnG P b i c)) ∧ True) ∧ (Decidable.decide (b < (0 : Int)) = Bool.false → ((((((0 : Int) ≤ b ∧ b < (↑n : Int)) ∧ x5) ∧ x6) ∧ x6) ∧ x6) ∧ ((((((0 : Int) ≤ b ∧ b < (↑n : Int)) ∧ x5) ∧ x6) ∧ x6) ∧ (((((0 : Int) ≤ b ∧ b < (↑n : Int)) ∧ x5) ∧ x6) ∧ (((0 : Int) ≤ b ∧ b < (↑n : Int)) ∧ x5 ∧ x5 ∧ x7) ∧ x8) ∧ x9) ∧ x6 ∧ x9)) := by kernel_rfl
end Go.Proofs.Ytnomjdechekapaa
end

section
namespace Go.Proofs.Ytnomjdechekapaa
open Go.Sx
set_option maxRecDepth 100000
section
variable {P : Nat → Int}
theorem li_neg {b : Int} (h : b < 0) : ∀ k, liT P k b = []
  | 0 => rfl
  | _ + 1 => if_pos h
theorem li_pos {b : Int} (h : 0 ≤ b) (k : Nat) : liT P (k + 1) b = liT P k (P b.toNat) ++ [b] := if_neg (by omega)
theorem li_fuel {n : Nat} (hP : ∀ i, i < n → -1 ≤ P i ∧ P i < (i : Int)) : ∀ (k1 k2 : Nat) (b : Int), b < (n : Int) → (b < 0 ∨ (b.toNat < k1 ∧ b.toNat < k2)) → liT P k1 b = liT P k2 b
  | 0, k2, b, _, h => by
    have : b < 0 := by omega
    rw [li_neg this, li_neg this]
  | k1 + 1, 0, b, _, h => by
    have : b < 0 := by omega
    rw [li_neg this, li_neg this]
  | k1 + 1, k2 + 1, b, hb, h => by
    by_cases c : b < 0
    · rw [li_neg c, li_neg c]
    · have q := hP b.toNat (by omega)
      rw [li_pos (by omega), li_pos (by omega), li_fuel hP k1 k2 (P b.toNat) (by omega) (by omega)]
theorem line_neg {b : Int} (h : b < 0) : lineT P b = [] := li_neg h _
theorem line_step {n : Nat} (hP : ∀ i, i < n → -1 ≤ P i ∧ P i < (i : Int)) {b : Int} (h0 : 0 ≤ b) (hb : b < (n : Int)) : lineT P b = lineT P (P b.toNat) ++ [b] := by
  have q := hP b.toNat (by omega)
  unfold lineT
  rw [li_pos h0, li_fuel hP b.toNat ((P b.toNat).toNat + 1) (P b.toNat) (by omega) (by omega)]
theorem ln_neg {b : Int} (h : b < 0) : lnN P b = 0 := by unfold lnN; rw [line_neg h]; rfl
theorem ln_step {n : Nat} (hP : ∀ i, i < n → -1 ≤ P i ∧ P i < (i : Int)) {b : Int} (h0 : 0 ≤ b) (hb : b < (n : Int)) : lnN P b = lnN P (P b.toNat) + 1 := by
  unfold lnN; rw [line_step hP h0 hb, List.length_append]; rfl
theorem ln_le {n : Nat} (hP : ∀ i, i < n → -1 ≤ P i ∧ P i < (i : Int)) : ∀ (k : Nat) (b : Int), b < (n : Int) → b + 1 < (k : Int) → (lnN P b : Int) ≤ b + 1 ∨ b < 0
  | 0, b, _, h => .inr (by omega)
  | k + 1, b, hb, h => by
    by_cases c : b < 0
    · exact .inr c
    · have q := hP b.toNat (by omega)
      have e := ln_step hP (by omega) hb
      rcases ln_le hP k (P b.toNat) (by omega) (by omega) with r | r
      · left; omega
      · have := ln_neg (P := P) r
        left; omega
theorem ln_small {n : Nat} (hn : n ≤ 1000) (hP : ∀ i, i < n → -1 ≤ P i ∧ P i < (i : Int)) {b : Int} (hb : b < (n : Int)) : lnN P b ≤ 1000 := by
  rcases ln_le hP (b + 2).toNat b hb (by omega) with r | r
  · omega
  · rw [ln_neg r]; omega
theorem lg_old {n : Nat} (hP : ∀ i, i < n → -1 ≤ P i ∧ P i < (i : Int)) {b : Int} (h0 : 0 ≤ b) (hb : b < (n : Int)) {i c : Nat} (hi : i < lnN P (P b.toNat)) : lnG P b i c = lnG P (P b.toNat) i c := by
  unfold lnG
  rw [line_step hP h0 hb]
  unfold lnN at hi
  rw [List.getD_eq_getElem?_getD, List.getD_eq_getElem?_getD, List.getElem?_append_left hi]
theorem lg_new {n : Nat} (hP : ∀ i, i < n → -1 ≤ P i ∧ P i < (i : Int)) {b : Int} (h0 : 0 ≤ b) (hb : b < (n : Int)) {i c : Nat} (hi : i = lnN P (P b.toNat)) : lnG P b i c = .val (.int .i64 b) := by
  unfold lnG
  rw [line_step hP h0 hb, hi]
  unfold lnN
  simp [List.getD_eq_getElem?_getD]
end
theorem ok_lt (k : Nat) (a : Option Addr) (n cap : Nat) (P H : Nat → Int) (A : Nat → Option Addr) (N C : Nat → Nat) (X : Nat → Nat → Nat → SC) (best fin b : Int) (ht : trP a n (blkF P H A N C X)) (_ : -1 ≤ b) (h2 : b < (n : Int)) (h3 : b + 1 < ((k + 1 : Nat) : Int)) :
    OwesNw Try.prog cxLt [] [] [(27, cLt k)] [] 4 Try.f27 [sTr a n cap (blkF P H A N C X) best fin, sI .i64 b] (cLt (k + 1)) (lnN P b) (lnG P b) [] := by
  rw [vc_lt]
  have hP : ∀ i, i < n → -1 ≤ P i ∧ P i < (i : Int) := ht.tp
  have hML : maxLen = 9223372036854775807 := rfl
  intro x1 x2 x3 x4 x5 x6 x7 x8 x9
  have e1 : x1 = lnN P (P b.toNat) := rfl
  have e3 : x3 = x1 + 1 := rfl
  clear_value x3
  clear_value x1
  have hneg : b < 0 → (0 : Nat) = lnN P b ∧ True ∧ (∀ (i : Nat), i < lnN P b → allC 1 fun c => simC (SC.bit false) (lnG P b i c)) ∧ True := fun h => by
    rw [ln_neg h]
    exact ⟨rfl, trivial, fun i hi => absurd hi (Nat.not_lt_zero _), trivial⟩
  by_cases hb : b < 0
  · exact ⟨fun _ => hneg hb, fun h => absurd hb (of_decide_eq_false h)⟩
  have q := hP b.toNat (by omega)
  have es := ln_step hP (by omega) h2
  have hs := ln_small ht.tn hP h2
  have h01 : (0 : Int) ≤ b ∧ b < (n : Int) := ⟨by omega, h2⟩
  have c1 : x1 = (0 : Nat) → ∀ g : Nat → Nat → SC, g 0 0 = .val (.int .i64 b) → (1 : Nat) = lnN P b ∧ Nat.le 1 (lnN P b) ∧ (∀ (i : Nat), i < lnN P b → allC 1 fun c => simC (g i c) (lnG P b i c)) ∧ True := fun h g hg => by
    have e : lnN P b = 1 := by rw [es, ← e1, h]
    refine ⟨e.symm, by rw [e]; exact Nat.le_refl _, fun i hi => ?_, trivial⟩
    have hi0 : i = 0 := by omega
    subst hi0
    show simC (g 0 0) (lnG P b 0 0)
    rw [hg, lg_new hP (by omega) h2 (by omega)]
    rfl
  have c2 : ∀ o : Nat, ∀ g : Nat → Nat → SC, (∀ i, i < x1 → g i 0 = lnG P (P b.toNat) i 0) → g x1 0 = .val (.int .i64 b) → x3 = lnN P b ∧ Nat.le 1 (lnN P b) ∧ (∀ (i : Nat), i < lnN P b → allC 1 fun c => simC (g i c) (lnG P b i c)) ∧ True := fun o g g1 g2 => by
    refine ⟨by rw [e3, es, e1], (show 1 ≤ lnN P b by omega), fun i hi => ?_, trivial⟩
    show simC (g i 0) (lnG P b i 0)
    by_cases hl : i < x1
    · rw [g1 i hl, lg_old hP (by omega) h2 (by omega)]; rfl
    · have : i = x1 := by omega
      subst this
      rw [g2, lg_new hP (by omega) h2 (by omega)]; rfl
  have hx4 : x4 := ⟨ht, q.1, by omega, by omega, fun h c hc => ⟨⟨by omega, hc, by omega⟩, c1 h _ rfl⟩, fun h c hc => ⟨rfl, rfl, ⟨by omega, hc, by omega⟩, ⟨by omega, by omega⟩, fun c hc => ⟨rfl, rfl, ⟨by omega, hc, by omega⟩, c2 1 _ (fun i hi => by show selC (decide (i < x1)) _ _ = _; rw [decide_eq_true hi]; rfl) (by show selC (decide (x1 < x1)) _ (fixAt _ 1 1 0 (x1 - x1) 0) = _; rw [decide_eq_false (Nat.lt_irrefl _)]; rfl)⟩⟩⟩
  have hx5 : x5 := ⟨⟨⟨ht, q.1, by omega, by omega, fun h c hc => ⟨⟨by omega, hc, by omega⟩, c1 h _ rfl⟩, fun h c hc => ⟨rfl, rfl, ⟨by omega, hc, by omega⟩, ⟨by omega, by omega⟩, fun c hc => ⟨rfl, rfl, ⟨by omega, hc, by omega⟩, c2 1 _ (fun i hi => by show selC (decide (i < x1)) _ _ = _; rw [decide_eq_true hi]; rfl) (by show selC (decide (x1 < x1)) _ (fixAt _ 1 1 0 (x1 - x1) 0) = _; rw [decide_eq_false (Nat.lt_irrefl _)]; rfl)⟩⟩⟩, hx4⟩, hx4⟩
  have hx6 : x6 := ⟨h01, hx4⟩
  have hx7 : x7 := ⟨hx4, hx4⟩
  have hx8 : x8 := ⟨hx6, h01, hx7⟩
  have hx9 : x9 := ⟨hx6, hx8⟩
  refine ⟨fun h => absurd (of_decide_eq_true h) hb, fun _ => ?_⟩
  repeat' (first | exact h01 | exact hx9 | exact hx8 | exact hx7 | exact hx6 | exact hx5 | exact hx4 | refine ⟨?_, ?_⟩)
theorem cl_refl {V : Nat → Nat → Int} {A : Nat → Option Addr} {N C : Nat → Nat} {B : Nat → Nat → Int} {j c : Nat} : simC (clF V A N C B j c) (clF V A N C B j c) := by
  unfold clF
  split
  · unfold simC; simp only [noX]
    unfold sameC asV
    cases h : clK c <;> rfl
  · exact ⟨rfl, rfl, rfl, fun _ _ => rfl⟩
theorem allC_of : ∀ {n : Nat} {f : Nat → Prop}, (∀ c, c < n → f c) → allC n f
  | 0, _, _ => trivial
  | 1, _, h => h 0 (by omega)
  | n + 2, f, h => ⟨h 0 (by omega), allC_of (n := n + 1) (f := fun c => f (c + 1)) fun c hc => h (c + 1) (by omega)⟩
theorem clP.refl {g : Nat → Nat → SC} (p : clP g) {a : Option Addr} {n cap : Nat} : simC (.xs a n cap 109 g) (.xs a n cap 109 g) :=
  ⟨rfl, rfl, rfl, fun i _ => allC_of fun c hc => by show simC (g i c) (g i c); rw [p.gf i c hc]; exact cl_refl⟩
theorem clP_of {g : Nat → Nat → SC} {V : Nat → Nat → Int} {A : Nat → Option Addr} {N C : Nat → Nat} {B : Nat → Nat → Int} (h : ∀ j c, c < 109 → g j c = clF V A N C B j c) : clP g := ⟨fun j c hc => by
  have h8 := h j 108 (by omega)
  have e8 : g j 108 = .xs (A j) (N j) (C j) 1 fun i _ => .val (.int .u8 (B j i)) := h8
  by_cases k : c < 108
  · have hb : Nat.blt c 108 = true := by simpa [Nat.blt_eq] using k
    have e : g j c = .val (.int (clK c) (V j c)) := by rw [h j c hc]; unfold clF; rw [hb]
    rw [e]
    unfold fCl clF iAt
    rw [hb, e]
  · have : c = 108 := by omega
    subst this
    rw [e8]
    show _ = SC.xs (aAt (g j 108)) (nAt (g j 108)) (cAt (g j 108)) 1 fun i _ => .val (.int .u8 (iAt (xAt (g j 108)) i 0))
    rw [e8]; rfl⟩
theorem clP_cl {V : Nat → Nat → Int} {A : Nat → Option Addr} {N C : Nat → Nat} {B : Nat → Nat → Int} : clP (clF V A N C B) := clP_of fun _ _ _ => rfl
theorem sel_cl (b : Bool) {V V' : Nat → Nat → Int} {A A' : Nat → Option Addr} {N C N' C' : Nat → Nat} {B B' : Nat → Nat → Int} {j c : Nat} :
    selC b (clF V A N C B j c) (clF V' A' N' C' B' j c) = clF (fun j c => cond b (V j c) (V' j c)) (fun j => cond b (A j) (A' j)) (fun j => cond b (N j) (N' j)) (fun j => cond b (C j) (C' j)) (fun j i => cond b (B j i) (B' j i)) j c := by
  unfold clF
  split
  · show selO b _ _ = _
    unfold selO selI
    simp only [asI, if_pos]
  · rfl
theorem trP.ts {a : Option Addr} {n : Nat} {f : Nat → Nat → SC} (p : trP a n f) : ∀ i, i < n → simC (f i 2) (f i 2) := fun i _ => by
  rw [p.tf i 2 (by omega)]; exact (p.tc i).refl
theorem xs_told {a : Option Addr} {n cap w : Nat} {f g : Nat → Nat → SC} (h : ∀ i, i < n → ∀ c, c < w → f i c = g i c) {E : Env} (hb : (SC.xs a n cap w f).bnd E) : (SC.xs a n cap w g).bnd E := by
  obtain ⟨b1, b2, b3⟩ := hb
  exact ⟨b1, b2, fun b hb => ⟨(b3 b hb).1, fun i hi c hc => by rw [← h i hi c hc]; exact (b3 b hb).2 i hi c hc⟩⟩
theorem trP.told {a : Option Addr} {n : Nat} {f : Nat → Nat → SC} (p : trP a n f) : trP a n (blkF (fun i => iAt f i 0) (fun i => iAt f i 1) (fun i => aAt (f i 2)) (fun i => nAt (f i 2)) (fun i => cAt (f i 2)) (fun i => xAt (f i 2))) :=
  ⟨p.tn, p.ta, fun i c hc => by
    rcases c with _ | _ | _ | c
    · rfl
    · rfl
    · rfl
    · omega, fun i => p.tc i, p.tp⟩
abbrev fTr (f : Nat → Nat → SC) : Nat → Nat → SC := blkF (fun i => iAt f i 0) (fun i => iAt f i 1) (fun i => aAt (f i 2)) (fun i => nAt (f i 2)) (fun i => cAt (f i 2)) (fun i => xAt (f i 2))
theorem tr_told {a : Option Addr} {n cap : Nat} {f g : Nat → Nat → SC} {best fin : Int} (h : ∀ i, i < n → ∀ c, c < 3 → f i c = g i c) {E : Env} (hb : (sTr a n cap f best fin).bnd E) : (sTr a n cap g best fin).bnd E := fun k hk => by
  rcases List.mem_cons.1 hk with rfl | hk
  · exact xs_told h (hb _ (List.mem_cons_self ..))
  · exact hb k (List.mem_cons_of_mem _ hk)
theorem okx_Lt : CxOK Try.prog cxLt := okx_mark okx_nil
theorem card_lt0 : ∀ k, FnOKn Try.prog [] 27 (cLt k)
  | 0 => by
    refine fun args ps n' g' vs hs hp => absurd hp ?_
    simp only [cLt, specN0] at hs
    split at hs
    case h_2 => cases hs
    rename_i q ls ha
    simp only [Option.some.injEq, Prod.mk.injEq] at hs
    obtain ⟨rfl, rfl, rfl, rfl⟩ := hs
    intro hp
    have hc := (Ok.append.1 hp).2
    unfold ltC at hc
    split at hc
    · obtain ⟨_, h1, _, h2, _⟩ := hc
      omega
    · exact hc.1.elim
  | k + 1 => by
    refine FnOKn_R0 (cx := cxLt) okx_Lt (sl := []) oks_nil (tl := []) (fun _ h => by cases h) (nl := [(27, cLt k)]) (fun p hp => by rw [List.mem_singleton.1 hp]; exact card_lt0 k) Try.func27 (by kernel_rfl) (by kernel_rfl) fun ls hc => ?_
    unfold ltC at hc
    split at hc
    · rename_i a n cap f best fin b
      obtain ⟨p, h1, h2, h3, _⟩ := hc
      refine ⟨_, _, _, ?_, ?_, ?_, ok_lt k a n cap (fun i => iAt f i 0) (fun i => iAt f i 1) (fun i => aAt (f i 2)) (fun i => nAt (f i 2)) (fun i => cAt (f i 2)) (fun i => xAt (f i 2)) best fin b p.told h1 h2 h3⟩
      · exact fun ρ => rfl
      · intro E hE x hx
        rcases List.mem_cons.1 hx with rfl | hx
        · exact tr_told (fun i _ c hc => p.tf i c hc) (hE (sTr a n cap f best fin) (List.mem_cons_self ..))
        · exact hE x (List.mem_cons_of_mem _ hx)
      · exact fun i hi c hc => ⟨trivial, rfl⟩
    · exact hc.1.elim
theorem card_lt {gl : Globs} (k : Nat) : FnOKn Try.prog gl 27 (cLt k) := (card_lt0 k).up0 gl
end Go.Proofs.Ytnomjdechekapaa
end

section
namespace Go.Proofs.Ytnomjdechekapaa
open Go.Sx
set_option maxRecDepth 100000
def stO (P : Nat → Int) (b r : Int) : Bool := (lineT P b).any fun x => x == r
def sdC : List (List FD) → List Prop
  | [[.x a n _ f, .i _, .i _], [.i b], [.i _]] => [trP a n f, 0 ≤ b, b < (n : Int)]
  | _ => [False]
def sdG : List (List FD) → List RS
  | [[.x _ _ _ f, .i _, .i _], [.i b], [.i r]] => [.v (sB (stO (fun i => iAt f i 0) b r))]
  | _ => []
def cSd : SSpec := specQ0 false [pqTr, .one (.i .i64), .one (.i .i64)] sdC sdG
def invSd (P : Nat → Int) (b r : Int) : Inv where
  X := Nat × Nat
  tm y := slotsAt 21 [(2, .one (sI .i64 r)), (11, .one (.sc (.slw 1 1 0 (lnN P b) (lnN P b + y.2)))), (12, .one (sI .i64 (lnN P b : Int))), (13, .one (sI .i64 (y.1 : Int)))]
  ob y := [.dead, .row 3 1 (lnN P b) (lnG P b) (y.2 * 1)]
  holds y := y.1 ≤ lnN P b ∧ ∀ j, j < y.1 → (lineT P b).getD j 0 ≠ r
  less y := lnN P b - y.1
def bsD (P H : Nat → Int) (fin : Int) (n : Nat) : Nat → Int
  | 0 => -1
  | d + 1 => if stO P ((n : Int) - 1 - (d : Int)) fin && (decide (bsD P H fin n d < 0) || decide (H (bsD P H fin n d).toNat ≤ H (n - 1 - d))) then (n : Int) - 1 - (d : Int) else bsD P H fin n d
def boC : List (List FD) → List Prop
  | [[.x a n _ f, .i _, .i _]] => [trP a n f]
  | _ => [False]
def boG : List (List FD) → List RS
  | [[.x _ n _ f, .i _, .i fin]] => [.v (sI .i64 (bsD (fun i => iAt f i 0) (fun i => iAt f i 1) fin n n))]
  | _ => []
def cBo : SSpec := specQ0 false [pqTr] boC boG
def invBo (a : Option Addr) (n cap : Nat) (P H : Nat → Int) (A : Nat → Option Addr) (N C : Nat → Nat) (X : Nat → Nat → Nat → SC) (best fin : Int) : Inv where
  X := Nat × Addr
  tm d := slotsAt 39 [(1, .one (.sc (.px d.2 3 (fun c => ([.xs a n cap 3 (blkF P H A N C X), .val (.int .i64 best), .val (.int .i64 fin)] : List SC).getD c (.bit false))))), (3, .one (sI .i64 (bsD P H fin n d.1))), (4, .one (sI .i64 ((n : Int) - 1 - (d.1 : Int))))]
  ob _ := []
  holds d := d.1 ≤ n
  less d := n - d.1
def slBo : List (Nat × SSpec) := [(24, cSd)]
def cxBo : Cx := ⟨[(1000000008, fun _ => none), (1000000010, fun _ => none), (1000000012, fun _ => none), (1000000013, fun _ => none), (1000000014, fun _ => none)], [], 0, []⟩
theorem vc_sd (a : Option Addr) (n cap : Nat) (P H : Nat → Int) (A : Nat → Option Addr) (N C : Nat → Nat) (X : Nat → Nat → Nat → SC) (best fin b r : Int) :
    OwesNr Try.prog .none [] [] [(27, cLt 1002)] [(2, .inv (invSd P b r))] 4 Try.f24 [sTr a n cap (blkF P H A N C X) best fin, sI .i64 b, sI .i64 r] false [.v (sB (stO P b r))] =
    (let x1 : Nat := ltN [[FD.x a n cap (blkF P H A N C X), FD.i best, FD.i fin], [FD.i b]]; let x2 : Prop := ∀ (y : Nat × Nat), (y.fst ≤ lnN P b ∧ ∀ (j : Nat), j < y.fst → (lineT P b).getD j (0 : Int) ≠ r) → (Decidable.decide ((↑y.fst : Int) < (↑(lnN P b) : Int)) = Bool.true → ((0 : Int) ≤ (↑y.fst : Int) ∧ (↑y.fst : Int) < (↑(lnN P b) : Int)) ∧ 0 + (↑y.fst : Int).toNat < lnN P b ∧ (((lineT P b).getD (0 + (↑y.fst : Int).toNat) (0 : Int) == r) = Bool.true → Bool.true = stO P b r) ∧ (((lineT P b).getD (0 + (↑y.fst : Int).toNat) (0 : Int) == r) = Bool.false → ∃ (y' : Nat × Nat), (y'.fst ≤ lnN P b ∧ ∀ (j : Nat), j < y'.fst → (lineT P b).getD j (0 : Int) ≠ r) ∧ r = r ∧ (1 = 1 ∧ 1 = 1 ∧ 0 = 0 ∧ lnN P b = lnN P b ∧ lnN P b + y.snd = lnN P b + y'.snd) ∧ (↑(lnN P b) : Int) = (↑(lnN P b) : Int) ∧ Go.IntKind.i64.wrap ((↑y.fst : Int) + (1 : Int)) = (↑y'.fst : Int) ∧ lnN P b = lnN P b ∧ y.snd * 1 = y'.snd * 1 ∧ (∀ (i : Nat), i < lnN P b → allC 1 fun (c : Nat) => simC (lnG P b i c) (lnG P b i c)) ∧ (lnN P b - y'.fst).succ.le (lnN P b - y.fst))) ∧ (Decidable.decide ((↑y.fst : Int) < (↑(lnN P b) : Int)) = Bool.false → Bool.false = stO P b r); trP a n (blkF P H A N C X) ∧ (-1 : Int) ≤ b ∧ b < (↑n : Int) ∧ b + (1 : Int) < (1002 : Int) ∧ (x1 = 0 → (∀ (y : Nat × Nat), closedB (slotsAt 21 [(2, SV.one (sI Go.IntKind.i64 r)), (11, SV.one (SA.sc (SC.slw 1 1 0 (lnN P b) (lnN P b + y.snd)))), (12, SV.one (sI Go.IntKind.i64 (↑(lnN P b) : Int))), (13, SV.one (sI Go.IntKind.i64 (↑y.fst : Int)))]) [SO.dead, SO.row (3 : Go.TypeId) 1 (lnN P b) (lnG P b) (y.snd * 1)] = Bool.true) ∧ ∃ (y : Nat × Nat), (y.fst ≤ lnN P b ∧ ∀ (j : Nat), j < y.fst → (lineT P b).getD j (0 : Int) ≠ r) ∧ r = r ∧ False ∧ (0 : Int) = (↑(lnN P b) : Int) ∧ (0 : Int) = (↑y.fst : Int) ∧ False ∧ x2) ∧ (0 < x1 → ∀ (c : Nat), x1 + c ≤ Go.maxLen → (∀ (y : Nat × Nat), closedB (slotsAt 21 [(2, SV.one (sI Go.IntKind.i64 r)), (11, SV.one (SA.sc (SC.slw 1 1 0 (lnN P b) (lnN P b + y.snd)))), (12, SV.one (sI Go.IntKind.i64 (↑(lnN P b) : Int))), (13, SV.one (sI Go.IntKind.i64 (↑y.fst : Int)))]) [SO.dead, SO.row (3 : Go.TypeId) 1 (lnN P b) (lnG P b) (y.snd * 1)] = Bool.true) ∧ ∃ (y : Nat × Nat), (y.fst ≤ lnN P b ∧ ∀ (j : Nat), j < y.fst → (lineT P b).getD j (0 : Int) ≠ r) ∧ r = r ∧ (1 = 1 ∧ 1 = 1 ∧ 0 = 0 ∧ x1 = lnN P b ∧ x1 + c = lnN P b + y.snd) ∧ (↑x1 : Int) = (↑(lnN P b) : Int) ∧ (0 : Int) = (↑y.fst : Int) ∧ x1 = lnN P b ∧ c * 1 = y.snd * 1 ∧ (∀ (i : Nat), i < x1 → allC 1 fun (c : Nat) => simC (ltG [[FD.x a n cap (blkF P H A N C X), FD.i best, FD.i fin], [FD.i b]] i c) (lnG P b i c)) ∧ x2)) := by kernel_rfl
theorem vc_bo (a : Option Addr) (n cap : Nat) (P H : Nat → Int) (A : Nat → Option Addr) (N C : Nat → Nat) (X : Nat → Nat → Nat → SC) (best fin : Int) :
    OwesR Try.prog cxBo slBo [(3, .inv (invBo a n cap P H A N C X best fin))] 4 Try.f21 [sTr a n cap (blkF P H A N C X) best fin] false [.v (sI .i64 (bsD P H fin n n))] =
    (let x1 : Int := (↑n : Int) - (1 : Int); ∀ (a_1 : Go.Addr), (∀ (y : Nat × Go.Addr), closedB (slotsAt 39 [(1, SV.one (SA.sc (SC.px y.snd 3 fun (c : Nat) => [SC.xs a n cap 3 (blkF P H A N C X), SC.val (Go.Value.int Go.IntKind.i64 best), SC.val (Go.Value.int Go.IntKind.i64 fin)].getD c (SC.bit Bool.false)))), (3, SV.one (sI Go.IntKind.i64 (bsD P H fin n y.fst))), (4, SV.one (sI Go.IntKind.i64 (x1 - (↑y.fst : Int))))]) [] = Bool.true) ∧ ∃ (y : Nat × Go.Addr), y.fst ≤ n ∧ (a_1 = y.snd ∧ simC ((flat (toKs (sTr a n cap (blkF P H A N C X) best fin))).getD 0 (SC.bit Bool.false)) ([SC.xs a n cap 3 (blkF P H A N C X), SC.val (Go.Value.int Go.IntKind.i64 best), SC.val (Go.Value.int Go.IntKind.i64 fin)].getD 0 (SC.bit Bool.false)) ∧ simC ((flat (toKs (sTr a n cap (blkF P H A N C X) best fin))).getD 1 (SC.bit Bool.false)) ([SC.xs a n cap 3 (blkF P H A N C X), SC.val (Go.Value.int Go.IntKind.i64 best), SC.val (Go.Value.int Go.IntKind.i64 fin)].getD 1 (SC.bit Bool.false)) ∧ fin = fin) ∧ (-1 : Int) = bsD P H fin n y.fst ∧ Go.IntKind.i64.wrap x1 = x1 - (↑y.fst : Int) ∧ ∀ (y : Nat × Go.Addr), let x101 : Prop := stO (fun (i : Nat) => iAt (blkF P H A N C X) i 0) (x1 - (↑y.fst : Int)) fin = Bool.true; let x102 : Prop := (stO (fun (i : Nat) => iAt (blkF P H A N C X) i 0) (x1 - (↑y.fst : Int)) fin && !Decidable.decide (bsD P H fin n y.fst < (0 : Int))) = Bool.true; let x103 : Prop := (x102 → x102) ∧ (x102 → x102) ∧ (x102 → x102) ∧ (x102 → x102) ∧ (x101 → x101) ∧ (x101 → Decidable.decide (bsD P H fin n y.fst < (0 : Int)) = Bool.false → x102) ∧ (x101 → x101) ∧ ((stO (fun (i : Nat) => iAt (blkF P H A N C X) i 0) (x1 - (↑y.fst : Int)) fin && (Decidable.decide (bsD P H fin n y.fst < (0 : Int)) || Decidable.decide (H (x1 - (↑y.fst : Int)).toNat ≥ H (bsD P H fin n y.fst).toNat))) = Bool.true → ∃ (y' : Nat × Go.Addr), y'.fst ≤ n ∧ (y.snd = y'.snd ∧ simC ([SC.xs a n cap 3 (blkF P H A N C X), SC.val (Go.Value.int Go.IntKind.i64 best), SC.val (Go.Value.int Go.IntKind.i64 fin)].getD 0 (SC.bit Bool.false)) ([SC.xs a n cap 3 (blkF P H A N C X), SC.val (Go.Value.int Go.IntKind.i64 best), SC.val (Go.Value.int Go.IntKind.i64 fin)].getD 0 (SC.bit Bool.false)) ∧ simC ([SC.xs a n cap 3 (blkF P H A N C X), SC.val (Go.Value.int Go.IntKind.i64 best), SC.val (Go.Value.int Go.IntKind.i64 fin)].getD 1 (SC.bit Bool.false)) ([SC.xs a n cap 3 (blkF P H A N C X), SC.val (Go.Value.int Go.IntKind.i64 best), SC.val (Go.Value.int Go.IntKind.i64 fin)].getD 1 (SC.bit Bool.false)) ∧ fin = fin) ∧ x1 - (↑y.fst : Int) = bsD P H fin n y'.fst ∧ Go.IntKind.i64.wrap (x1 - (↑y.fst : Int) - (1 : Int)) = x1 - (↑y'.fst : Int) ∧ (n - y'.fst).succ.le (n - y.fst)) ∧ ((stO (fun (i : Nat) => iAt (blkF P H A N C X) i 0) (x1 - (↑y.fst : Int)) fin && (Decidable.decide (bsD P H fin n y.fst < (0 : Int)) || Decidable.decide (H (x1 - (↑y.fst : Int)).toNat ≥ H (bsD P H fin n y.fst).toNat))) = Bool.false → ∃ (y' : Nat × Go.Addr), y'.fst ≤ n ∧ (y.snd = y'.snd ∧ simC ([SC.xs a n cap 3 (blkF P H A N C X), SC.val (Go.Value.int Go.IntKind.i64 best), SC.val (Go.Value.int Go.IntKind.i64 fin)].getD 0 (SC.bit Bool.false)) ([SC.xs a n cap 3 (blkF P H A N C X), SC.val (Go.Value.int Go.IntKind.i64 best), SC.val (Go.Value.int Go.IntKind.i64 fin)].getD 0 (SC.bit Bool.false)) ∧ simC ([SC.xs a n cap 3 (blkF P H A N C X), SC.val (Go.Value.int Go.IntKind.i64 best), SC.val (Go.Value.int Go.IntKind.i64 fin)].getD 1 (SC.bit Bool.false)) ([SC.xs a n cap 3 (blkF P H A N C X), SC.val (Go.Value.int Go.IntKind.i64 best), SC.val (Go.Value.int Go.IntKind.i64 fin)].getD 1 (SC.bit Bool.false)) ∧ fin = fin) ∧ bsD P H fin n y.fst = bsD P H fin n y'.fst ∧ Go.IntKind.i64.wrap (x1 - (↑y.fst : Int) - (1 : Int)) = x1 - (↑y'.fst : Int) ∧ (n - y'.fst).succ.le (n - y.fst)); let x104 : Prop := (x102 → x102) ∧ (x102 → x102) ∧ (x102 → x102) ∧ (x102 → (0 : Int) ≤ bsD P H fin n y.fst ∧ bsD P H fin n y.fst < (↑n : Int)) ∧ x103; let x105 : Prop := (x102 → x102) ∧ x103 ∧ x103; let x106 : Prop := (x102 → x102) ∧ x104 ∧ (x102 → x102) ∧ (x102 → x102) ∧ (x102 → (0 : Int) ≤ bsD P H fin n y.fst ∧ bsD P H fin n y.fst < (↑n : Int)) ∧ x105; let x107 : Prop := (x102 → x102) ∧ (x102 → x102) ∧ (x102 → x102) ∧ (x102 → (0 : Int) ≤ x1 - (↑y.fst : Int) ∧ x1 - (↑y.fst : Int) < (↑n : Int)) ∧ x103; let x108 : Prop := (x102 → x102) ∧ ((x102 → x102) ∧ (x102 → x102) ∧ (x102 → (0 : Int) ≤ x1 - (↑y.fst : Int) ∧ x1 - (↑y.fst : Int) < (↑n : Int)) ∧ x105) ∧ x107; let x109 : Prop := (x102 → x102) ∧ ((x102 → x102) ∧ (x102 → x102) ∧ (x102 → (0 : Int) ≤ x1 - (↑y.fst : Int) ∧ x1 - (↑y.fst : Int) < (↑n : Int)) ∧ x106) ∧ (x102 → x102) ∧ (x102 → x102) ∧ (x102 → (0 : Int) ≤ bsD P H fin n y.fst ∧ bsD P H fin n y.fst < (↑n : Int)) ∧ x108; y.fst ≤ n → (Decidable.decide (x1 - (↑y.fst : Int) ≥ (0 : Int)) = Bool.true → trP a n (blkF P H A N C X) ∧ (0 : Int) ≤ x1 - (↑y.fst : Int) ∧ x1 - (↑y.fst : Int) < (↑n : Int) ∧ (x101 → x101) ∧ (x101 → x101) ∧ ((x102 → x102) ∧ ((x102 → x102) ∧ (x102 → x102) ∧ (x102 → (0 : Int) ≤ x1 - (↑y.fst : Int) ∧ x1 - (↑y.fst : Int) < (↑n : Int)) ∧ (x102 → x102) ∧ ((x102 → x102) ∧ x104) ∧ x106) ∧ x109) ∧ (x102 → x102) ∧ x109 ∧ (x102 → x102) ∧ (x102 → x102) ∧ (x102 → (0 : Int) ≤ bsD P H fin n y.fst ∧ bsD P H fin n y.fst < (↑n : Int)) ∧ (x102 → x102) ∧ x108 ∧ (x102 → x102) ∧ x107) ∧ (Decidable.decide (x1 - (↑y.fst : Int) ≥ (0 : Int)) = Bool.false → bsD P H fin n y.fst = bsD P H fin n n)) := by kernel_rfl
end Go.Proofs.Ytnomjdechekapaa
end

section
namespace Go.Proofs.Ytnomjdechekapaa
open Go.Sx
set_option maxRecDepth 100000
theorem stO_t {P : Nat → Int} {b r : Int} {j : Nat} (hj : j < lnN P b) (h : (lineT P b).getD j 0 = r) : stO P b r = true := by
  unfold stO
  unfold lnN at hj
  refine List.any_eq_true.2 ⟨r, ?_, beq_self_eq_true r⟩
  rw [← h, List.getD_eq_getElem?_getD, List.getElem?_eq_getElem hj]
  exact List.getElem_mem hj
theorem stO_f {P : Nat → Int} {b r : Int} (h : ∀ j, j < lnN P b → (lineT P b).getD j 0 ≠ r) : stO P b r = false := by
  unfold stO
  refine List.any_eq_false.2 fun x hx hxr => ?_
  obtain ⟨j, hj, e⟩ := List.getElem_of_mem hx
  refine h j hj ?_
  rw [List.getD_eq_getElem?_getD, List.getElem?_eq_getElem hj, Option.getD_some, e]
  exact eq_of_beq hxr
theorem ok_sd (a : Option Addr) (n cap : Nat) (P H : Nat → Int) (A : Nat → Option Addr) (N C : Nat → Nat) (X : Nat → Nat → Nat → SC) (best fin b r : Int) (ht : trP a n (blkF P H A N C X)) (h1 : 0 ≤ b) (h2 : b < (n : Int)) :
    OwesNr Try.prog .none [] [] [(27, cLt 1002)] [(2, .inv (invSd P b r))] 4 Try.f24 [sTr a n cap (blkF P H A N C X) best fin, sI .i64 b, sI .i64 r] false [.v (sB (stO P b r))] := by
  rw [vc_sd]
  have hP : ∀ i, i < n → -1 ≤ P i ∧ P i < (i : Int) := ht.tp
  have hML : maxLen = 9223372036854775807 := rfl
  intro x1 x2
  have e1 : x1 = lnN P b := rfl
  have es := ln_step hP (by omega) h2
  have hs := ln_small ht.tn hP h2
  have hn := ht.tn
  have hx2 : x2 := by
    intro y hy
    refine ⟨fun h => ?_, fun h => ?_⟩
    · have hl : y.1 < lnN P b := by have := of_decide_eq_true h; omega
      have ey : 0 + (y.1 : Int).toNat = y.1 := by omega
      rw [ey]
      refine ⟨⟨by omega, by omega⟩, by omega, fun h => (stO_t hl (eq_of_beq h)).symm, fun h => ⟨(y.1 + 1, y.2), ⟨by show y.1 + 1 ≤ _; omega, fun j hj => ?_⟩, rfl, ⟨rfl, rfl, rfl, rfl, rfl⟩, rfl, ?_, rfl, rfl, fun i _ => rfl, by show (lnN P b - (y.1 + 1)) + 1 ≤ _; omega⟩⟩
      · replace hj : j < y.1 + 1 := hj
        by_cases c : j = y.1
        · rw [c]; exact ne_of_beq_false h
        · exact hy.2 j (by omega)
      · show _ = ((y.1 + 1 : Nat) : Int)
        rw [IntKind.wrap_i64]; omega
    · have := of_decide_eq_false h
      exact (stO_f fun j hj => hy.2 j (by omega)).symm
  clear_value x2
  clear_value x1
  refine ⟨ht, by omega, h2, by omega, fun h => by omega, fun h c hc => ⟨fun _ => rfl, (0, c), ⟨Nat.zero_le _, fun j hj => absurd hj (Nat.not_lt_zero _)⟩, rfl, ⟨rfl, rfl, rfl, e1, by rw [e1]⟩, by rw [e1], rfl, e1, rfl, fun i hi => ?_, hx2⟩⟩
  rfl
theorem card_sd {gl : Globs} : FnOKs Try.prog gl 24 cSd := by
  refine FnOKs.up0 (FnOKs_N0 (cx := .none) okx_nil (sl := []) oks_nil (tl := []) (fun _ h => by cases h) (nl := [(27, cLt 1002)]) (fun p hp => by rw [List.mem_singleton.1 hp]; exact card_lt 1002) Try.func24 (by kernel_rfl) (by kernel_rfl) fun ls hc => ?_) gl
  unfold sdC at hc
  split at hc
  · rename_i a n cap f best fin b r
    obtain ⟨p, h1, h2, _⟩ := hc
    refine ⟨_, _, _, fun ρ => ?_, fun E hE x hx => ?_, fun r hr => ?_, ok_sd a n cap (fun i => iAt f i 0) (fun i => iAt f i 1) (fun i => aAt (f i 2)) (fun i => nAt (f i 2)) (fun i => cAt (f i 2)) (fun i => xAt (f i 2)) best fin b r p.told h1 h2⟩
    · rfl
    · rcases List.mem_cons.1 hx with rfl | hx
      · exact tr_told (fun i _ c hc => p.tf i c hc) (hE (sTr a n cap f best fin) (List.mem_cons_self ..))
      · exact hE x (List.mem_cons_of_mem _ hx)
    · rw [List.mem_singleton.1 hr]; exact trivial
  · exact hc.1.elim
theorem bs_in {P H : Nat → Int} {fin : Int} {n : Nat} : ∀ {d : Nat}, d ≤ n → -1 ≤ bsD P H fin n d ∧ (bsD P H fin n d < (n : Int) ∨ bsD P H fin n d = -1)
  | 0, _ => ⟨Int.le_refl _, .inr rfl⟩
  | d + 1, h => by
    have ih := bs_in (P := P) (H := H) (fin := fin) (n := n) (d := d) (by omega)
    unfold bsD
    split
    · exact ⟨by omega, .inl (by omega)⟩
    · exact ih
theorem ok_bo (a : Option Addr) (n cap : Nat) (P H : Nat → Int) (A : Nat → Option Addr) (N C : Nat → Nat) (X : Nat → Nat → Nat → SC) (best fin : Int) (ht : trP a n (blkF P H A N C X)) :
    OwesR Try.prog cxBo slBo [(3, .inv (invBo a n cap P H A N C X best fin))] 4 Try.f21 [sTr a n cap (blkF P H A N C X) best fin] false [.v (sI .i64 (bsD P H fin n n))] := by
  rw [vc_bo]
  have hML : maxLen = 9223372036854775807 := rfl
  have hn := ht.tn
  have hxs : simC (.xs a n cap 3 (blkF P H A N C X)) (.xs a n cap 3 (blkF P H A N C X)) := ⟨rfl, rfl, rfl, fun i hi => ⟨rfl, rfl, ht.ts i hi⟩⟩
  intro x1 a1
  have e1 : x1 = (n : Int) - 1 := rfl
  refine ⟨fun _ => rfl, (0, a1), Nat.zero_le _, ⟨rfl, hxs, rfl, rfl⟩, rfl, ?_, fun y => ?_⟩
  · show _ = x1 - ((0 : Nat) : Int)
    rw [IntKind.wrap_i64]; omega
  intro x101 x102 x103 x104 x105 x106 x107 x108 x109 hy
  clear_value x1
  refine ⟨fun h0 => ?_, fun h0 => ?_⟩
  · have h0 : 0 ≤ x1 - (y.1 : Int) := of_decide_eq_true h0
    have hd : y.1 < n := by omega
    have hr := bs_in (P := P) (H := H) (fin := fin) (n := n) (d := y.1) hy
    have e2 : (x1 - (y.1 : Int)).toNat = n - 1 - y.1 := by omega
    have hj : x102 → (0 : Int) ≤ x1 - (y.1 : Int) ∧ x1 - (y.1 : Int) < (n : Int) := fun _ => ⟨h0, by omega⟩
    have hb : x102 → (0 : Int) ≤ bsD P H fin n y.1 ∧ bsD P H fin n y.1 < (n : Int) := fun h => by
      have h : (_ && !decide (bsD P H fin n y.1 < 0)) = true := h
      simp only [Bool.and_eq_true, Bool.not_eq_true', decide_eq_false_iff_not] at h
      omega
    have ew : IntKind.i64.wrap (x1 - (y.1 : Int) - 1) = x1 - ((y.1 + 1 : Nat) : Int) := by rw [IntKind.wrap_i64]; omega
    have el : (n - (y.1 + 1)).succ.le (n - y.1) := by show (n - (y.1 + 1)) + 1 ≤ _; omega
    have es : bsD P H fin n (y.1 + 1) = if (stO P (x1 - (y.1 : Int)) fin && (decide (bsD P H fin n y.1 < 0) || decide (H (x1 - (y.1 : Int)).toNat ≥ H (bsD P H fin n y.1).toNat))) = true then x1 - (y.1 : Int) else bsD P H fin n y.1 := by
      rw [e2, e1]; rfl
    have h103 : x103 := ⟨id, id, id, id, id, fun h1 h2 => by
      show (_ && !_) = true
      rw [show stO (fun i => iAt (blkF P H A N C X) i 0) (x1 - (y.1 : Int)) fin = true from h1, h2]; rfl, id, fun h => ⟨(y.1 + 1, y.2), hd, ⟨rfl, hxs, rfl, rfl⟩, by
        show x1 - (y.1 : Int) = bsD P H fin n (y.1 + 1)
        exact (es.trans (if_pos h)).symm, ew, el⟩, fun h => ⟨(y.1 + 1, y.2), hd, ⟨rfl, hxs, rfl, rfl⟩, by
        show bsD P H fin n y.1 = bsD P H fin n (y.1 + 1)
        exact (es.trans (if_neg (fun c => Bool.noConfusion ((show false = true from h.symm.trans c))))).symm, ew, el⟩⟩
    have h104 : x104 := ⟨id, id, id, hb, h103⟩
    have h105 : x105 := ⟨id, h103, h103⟩
    have h106 : x106 := ⟨id, h104, id, id, hb, h105⟩
    have h107 : x107 := ⟨id, id, id, hj, h103⟩
    have h108 : x108 := ⟨id, ⟨id, id, hj, h105⟩, h107⟩
    have h109 : x109 := ⟨id, ⟨id, id, hj, h106⟩, id, id, hb, h108⟩
    refine ⟨ht, h0, by omega, id, id, ?_⟩
    repeat' (first | exact id | exact hb | exact hj | exact h109 | exact h108 | exact h107 | exact h106 | exact h105 | exact h104 | exact h103 | refine ⟨?_, ?_⟩)
  · have := of_decide_eq_false h0
    have : y.1 = n := by omega
    rw [this]
theorem okx_Bo : CxOK Try.prog cxBo := okx_mark (okx_mark (okx_mark (okx_mark (okx_mark okx_nil))))
theorem card_bo {gl : Globs} : FnOKs Try.prog gl 21 cBo := by
  refine FnOKs.up0 (FnOKs_R0 (cx := cxBo) okx_Bo (sl := slBo) (oks_cons card_sd oks_nil) Try.func21 (by kernel_rfl) (by kernel_rfl) fun ls hc => ?_) gl
  unfold boC at hc
  split at hc
  · rename_i a n cap f best fin
    obtain ⟨p, _⟩ := hc
    refine ⟨_, _, _, fun ρ => ?_, fun E hE x hx => ?_, fun r hr => ?_, ok_bo a n cap (fun i => iAt f i 0) (fun i => iAt f i 1) (fun i => aAt (f i 2)) (fun i => nAt (f i 2)) (fun i => cAt (f i 2)) (fun i => xAt (f i 2)) best fin p.told⟩
    · rfl
    · rcases List.mem_cons.1 hx with rfl | hx
      · exact tr_told (fun i _ c hc => p.tf i c hc) (hE (sTr a n cap f best fin) (List.mem_cons_self ..))
      · exact hE x (List.mem_cons_of_mem _ hx)
    · rw [List.mem_singleton.1 hr]; exact trivial
  · exact hc.1.elim
end Go.Proofs.Ytnomjdechekapaa
end

section
namespace Go.Proofs.Ytnomjdechekapaa
open Go.Sx
set_option maxRecDepth 100000
def blO (P H : Nat → Int) (N : Nat → Nat) (i : Nat) : Bool :=
  if i = 0 then P 0 == -1 && H 0 == 0 && N 0 == 0 else decide (0 ≤ P i) && decide (P i < (i : Int)) && H i == IntKind.i64.wrap (H (P i).toNat + 1)
def trR (P H : Nat → Int) (N : Nat → Nat) : Nat → Int
  | 0 => 0
  | i + 1 => if trR P H N i ≠ 0 then trR P H N i else if 6 < N i then 1 else if blO P H N i then 0 else 12
def trE (P H : Nat → Int) (N : Nat → Nat) (n : Nat) (best fin : Int) : Int :=
  if n = 0 ∨ 40 < n then 1 else if trR P H N n ≠ 0 then trR P H N n else if fin < 0 ∨ (n : Int) ≤ fin ∨ best ≠ bsD P H fin n n then 12 else 0
structure tfP (a : Option Addr) (n : Nat) (f : Nat → Nat → SC) : Prop where
  tn : n ≤ maxLen
  ta : a = none → n = 0
  tf : ∀ i c, c < 3 → f i c = fTr f i c
  tm : ∀ i, i < n → nAt (f i 2) ≤ maxLen
  tc : ∀ i, clP (xAt (f i 2))
def tfC : List (List FD) → List Prop
  | [[.x a n _ f, .i _, .i _]] => [tfP a n f]
  | _ => [False]
def tfG : List (List FD) → List RS
  | [[.x _ n _ f, .i b, .i fin]] => [.v (sI .i64 (trE (fun i => iAt f i 0) (fun i => iAt f i 1) (fun i => nAt (f i 2)) n b fin))]
  | _ => []
def cTf : SSpec := specQ0 false [pqTr] tfC tfG
def invTf (a : Option Addr) (n cap : Nat) (P H : Nat → Int) (A : Nat → Option Addr) (N C : Nat → Nat) (X : Nat → Nat → Nat → SC) (best fin : Int) : Inv where
  X := Nat × Addr
  tm d := slotsAt 87 [(1, .one (.sc (.px d.2 3 (fun c => ([.xs a n cap 3 (blkF P H A N C X), .val (.int .i64 best), .val (.int .i64 fin)] : List SC).getD c (.bit false))))), (17, .one (.sc (.xs a n cap 3 (blkF P H A N C X)))), (18, .one (sI .i64 (n : Int))), (19, .one (sI .i64 (d.1 : Int)))]
  ob _ := []
  holds d := d.1 ≤ n ∧ trR P H N d.1 = 0
  less d := n - d.1
def slTf : List (Nat × SSpec) := [(21, cBo)]
theorem vc_tf (a : Option Addr) (n cap : Nat) (P H : Nat → Int) (A : Nat → Option Addr) (N C : Nat → Nat) (X : Nat → Nat → Nat → SC) (best fin r : Int) :
    OwesR Try.prog cxBo slTf [(4, .inv (invTf a n cap P H A N C X best fin))] 4 Try.f8 [sTr a n cap (blkF P H A N C X) best fin] false [.v (sI .i64 r)] =
    (let x1 : Bool := (↑n : Int) == (0 : Int); let x2 : Prop := (!x1) = Bool.true; let x3 : Bool := Decidable.decide (fin < (0 : Int)); let x4 : Prop := (!x3) = Bool.true; let x5 : Prop := (!(x3 || Decidable.decide (fin ≥ (↑n : Int)))) = Bool.true; let x6 : Prop := (x5 → x5 ∧ trP a n (blkF P H A N C X) ∧ x5 ∧ ((best != bsD (fun (i : Nat) => iAt (blkF P H A N C X) i 0) (fun (i : Nat) => iAt (blkF P H A N C X) i 1) fin n n) = Bool.true → (12 : Int) = r) ∧ ((best != bsD (fun (i : Nat) => iAt (blkF P H A N C X) i 0) (fun (i : Nat) => iAt (blkF P H A N C X) i 1) fin n n) = Bool.false → (0 : Int) = r)) ∧ ((!(x3 || Decidable.decide (fin ≥ (↑n : Int)))) = Bool.false → (12 : Int) = r); let x7 : Prop := (x4 → x4) ∧ (x4 → x4) ∧ (x4 → x4) ∧ (x4 → x4) ∧ (x3 = Bool.false → x4) ∧ ((x5 → x5) ∧ x6) ∧ x6; ∀ (a_1 : Go.Addr), (x2 → x2) ∧ (x2 → x2) ∧ (x2 → x2) ∧ (x1 = Bool.false → x2) ∧ ((x1 || Decidable.decide ((↑n : Int) > (40 : Int))) = Bool.true → (1 : Int) = r) ∧ ((x1 || Decidable.decide ((↑n : Int) > (40 : Int))) = Bool.false → (∀ (y : Nat × Go.Addr), closedB (slotsAt 87 [(1, SV.one (SA.sc (SC.px y.snd 3 fun (c : Nat) => [SC.xs a n cap 3 (blkF P H A N C X), SC.val (Go.Value.int Go.IntKind.i64 best), SC.val (Go.Value.int Go.IntKind.i64 fin)].getD c (SC.bit Bool.false)))), (17, SV.one (SA.sc (SC.xs a n cap 3 (blkF P H A N C X)))), (18, SV.one (sI Go.IntKind.i64 (↑n : Int))), (19, SV.one (sI Go.IntKind.i64 (↑y.fst : Int)))]) [] = Bool.true) ∧ ∃ (y : Nat × Go.Addr), (y.fst ≤ n ∧ trR P H N y.fst = (0 : Int)) ∧ (a_1 = y.snd ∧ simC ((flat (toKs (sTr a n cap (blkF P H A N C X) best fin))).getD 0 (SC.bit Bool.false)) ([SC.xs a n cap 3 (blkF P H A N C X), SC.val (Go.Value.int Go.IntKind.i64 best), SC.val (Go.Value.int Go.IntKind.i64 fin)].getD 0 (SC.bit Bool.false)) ∧ simC ((flat (toKs (sTr a n cap (blkF P H A N C X) best fin))).getD 1 (SC.bit Bool.false)) ([SC.xs a n cap 3 (blkF P H A N C X), SC.val (Go.Value.int Go.IntKind.i64 best), SC.val (Go.Value.int Go.IntKind.i64 fin)].getD 1 (SC.bit Bool.false)) ∧ fin = fin) ∧ simC (SC.xs a n cap 3 (blkF P H A N C X)) (SC.xs a n cap 3 (blkF P H A N C X)) ∧ (↑n : Int) = (↑n : Int) ∧ (0 : Int) = (↑y.fst : Int) ∧ ∀ (y : Nat × Go.Addr), let x101 : Prop := (P (↑y.fst : Int).toNat == (-1 : Int) && H (↑y.fst : Int).toNat == (0 : Int)) = Bool.true; let x102 : Prop := Decidable.decide (P (↑y.fst : Int).toNat ≥ (0 : Int)) = Bool.true; let x103 : Prop := (Decidable.decide (P (↑y.fst : Int).toNat ≥ (0 : Int)) && Decidable.decide (P (↑y.fst : Int).toNat < (↑y.fst : Int))) = Bool.true; let x104 : Prop := ∃ (y' : Nat × Go.Addr), (y'.fst ≤ n ∧ trR P H N y'.fst = (0 : Int)) ∧ (y.snd = y'.snd ∧ simC ([SC.xs a n cap 3 (blkF P H A N C X), SC.val (Go.Value.int Go.IntKind.i64 best), SC.val (Go.Value.int Go.IntKind.i64 fin)].getD 0 (SC.bit Bool.false)) ([SC.xs a n cap 3 (blkF P H A N C X), SC.val (Go.Value.int Go.IntKind.i64 best), SC.val (Go.Value.int Go.IntKind.i64 fin)].getD 0 (SC.bit Bool.false)) ∧ simC ([SC.xs a n cap 3 (blkF P H A N C X), SC.val (Go.Value.int Go.IntKind.i64 best), SC.val (Go.Value.int Go.IntKind.i64 fin)].getD 1 (SC.bit Bool.false)) ([SC.xs a n cap 3 (blkF P H A N C X), SC.val (Go.Value.int Go.IntKind.i64 best), SC.val (Go.Value.int Go.IntKind.i64 fin)].getD 1 (SC.bit Bool.false)) ∧ fin = fin) ∧ simC (SC.xs a n cap 3 (blkF P H A N C X)) (SC.xs a n cap 3 (blkF P H A N C X)) ∧ (↑n : Int) = (↑n : Int) ∧ Go.IntKind.i64.wrap ((↑y.fst : Int) + (1 : Int)) = (↑y'.fst : Int) ∧ (n - y'.fst).succ.le (n - y.fst); y.fst ≤ n ∧ trR P H N y.fst = (0 : Int) → (Decidable.decide ((↑y.fst : Int) < (↑n : Int)) = Bool.true → ((0 : Int) ≤ (↑y.fst : Int) ∧ (↑y.fst : Int) < (↑n : Int)) ∧ (Decidable.decide ((↑(N (↑y.fst : Int).toNat) : Int) > (6 : Int)) = Bool.true → (1 : Int) = r) ∧ (Decidable.decide ((↑(N (↑y.fst : Int).toNat) : Int) > (6 : Int)) = Bool.false → ((P (↑y.fst : Int).toNat == (-1 : Int)) = Bool.true → (P (↑y.fst : Int).toNat == (-1 : Int)) = Bool.true) ∧ ((P (↑y.fst : Int).toNat == (-1 : Int)) = Bool.true → (P (↑y.fst : Int).toNat == (-1 : Int)) = Bool.true) ∧ ((P (↑y.fst : Int).toNat == (-1 : Int)) = Bool.true → (P (↑y.fst : Int).toNat == (-1 : Int)) = Bool.true) ∧ (x101 → x101) ∧ (x101 → x101) ∧ (x101 → x101) ∧ (x101 → x101) ∧ (Decidable.decide ((↑y.fst : Int) > (0 : Int)) = Bool.true → (x102 → x102) ∧ (x102 → x102) ∧ (x102 → x102) ∧ (x102 → x102) ∧ (x103 → x103) ∧ (x103 → x103) ∧ (x103 → x103) ∧ (x103 → x103) ∧ (x103 → x103) ∧ (x103 → (0 : Int) ≤ P (↑y.fst : Int).toNat ∧ P (↑y.fst : Int).toNat < (↑n : Int)) ∧ (x103 → x103) ∧ (x103 → x103) ∧ (x103 → x103) ∧ (x103 → x103) ∧ (x103 → x103) ∧ (x103 → x103) ∧ ((!(Decidable.decide (P (↑y.fst : Int).toNat ≥ (0 : Int)) && Decidable.decide (P (↑y.fst : Int).toNat < (↑y.fst : Int)) && H (↑y.fst : Int).toNat == Go.IntKind.i64.wrap (H (P (↑y.fst : Int).toNat).toNat + (1 : Int)))) = Bool.true → (12 : Int) = r) ∧ ((!(Decidable.decide (P (↑y.fst : Int).toNat ≥ (0 : Int)) && Decidable.decide (P (↑y.fst : Int).toNat < (↑y.fst : Int)) && H (↑y.fst : Int).toNat == Go.IntKind.i64.wrap (H (P (↑y.fst : Int).toNat).toNat + (1 : Int)))) = Bool.false → x104)) ∧ (Decidable.decide ((↑y.fst : Int) > (0 : Int)) = Bool.false → ((!(P (↑y.fst : Int).toNat == (-1 : Int) && H (↑y.fst : Int).toNat == (0 : Int) && (↑(N (↑y.fst : Int).toNat) : Int) == (0 : Int))) = Bool.true → (12 : Int) = r) ∧ ((!(P (↑y.fst : Int).toNat == (-1 : Int) && H (↑y.fst : Int).toNat == (0 : Int) && (↑(N (↑y.fst : Int).toNat) : Int) == (0 : Int))) = Bool.false → x104)))) ∧ (Decidable.decide ((↑y.fst : Int) < (↑n : Int)) = Bool.false → ((x4 → x4) ∧ x7) ∧ (x4 → x4) ∧ x7 ∧ x7))) := by kernel_rfl
end Go.Proofs.Ytnomjdechekapaa
end

section
namespace Go.Proofs.Ytnomjdechekapaa
open Go.Sx
set_option maxRecDepth 100000
section
variable {P H : Nat → Int} {N : Nat → Nat}
theorem tr_stay {m : Nat} (h : trR P H N m ≠ 0) : ∀ d, trR P H N (m + d) = trR P H N m
  | 0 => rfl
  | d + 1 => by
    have ih := tr_stay h d
    exact (if_pos (by rw [ih]; exact h) : trR P H N (m + d + 1) = trR P H N (m + d)).trans ih
theorem tr_end {n m : Nat} (hm : m < n) {r : Int} (hr : r ≠ 0) (h : trR P H N (m + 1) = r) : trR P H N n = r := by
  have := tr_stay (m := m + 1) (by rw [h]; exact hr) (n - (m + 1))
  rw [show m + 1 + (n - (m + 1)) = n by omega] at this
  rw [this, h]
theorem tr_step {m : Nat} (h : trR P H N m = 0) : trR P H N (m + 1) = if 6 < N m then 1 else if blO P H N m then 0 else 12 := if_neg (fun c => c h)
theorem tr_pre {m : Nat} (h : trR P H N (m + 1) = 0) : trR P H N m = 0 ∧ blO P H N m = true := by
  by_cases c : trR P H N m = 0
  · rw [tr_step c] at h
    by_cases d : 6 < N m
    · rw [if_pos d] at h; cases h
    · rw [if_neg d] at h
      refine ⟨c, ?_⟩
      cases e : blO P H N m
      · rw [e] at h; cases h
      · rfl
  · exact absurd ((tr_stay c 1).symm.trans h) c
theorem tr_all : ∀ {m : Nat}, trR P H N m = 0 → ∀ j, j < m → blO P H N j = true
  | 0, _, j, hj => absurd hj (Nat.not_lt_zero _)
  | m + 1, h, j, hj => by
    obtain ⟨h1, h2⟩ := tr_pre h
    by_cases e : j = m
    · rw [e]; exact h2
    · exact tr_all h1 j (by omega)
theorem bl_zero : blO P H N 0 = (P 0 == -1 && H 0 == 0 && N 0 == 0) := rfl
theorem bl_pos {i : Nat} (h : 0 < i) : blO P H N i = (decide (0 ≤ P i) && decide (P i < (i : Int)) && H i == IntKind.i64.wrap (H (P i).toNat + 1)) := if_neg (by omega)
theorem bl_par {i : Nat} (h : blO P H N i = true) : -1 ≤ P i ∧ P i < (i : Int) := by
  by_cases c : i = 0
  · subst c
    rw [bl_zero] at h
    simp only [Bool.and_eq_true, beq_iff_eq] at h
    omega
  · rw [bl_pos (by omega)] at h
    simp only [Bool.and_eq_true, decide_eq_true_eq] at h
    omega
end
theorem tfP.ts {a : Option Addr} {n : Nat} {f : Nat → Nat → SC} (p : tfP a n f) : ∀ i, i < n → simC (f i 2) (f i 2) := fun i _ => by
  rw [p.tf i 2 (by omega)]; exact (p.tc i).refl
theorem tf_tr {a : Option Addr} {n : Nat} {f : Nat → Nat → SC} (p : tfP a n f) (hn : n ≤ 40) (h : trR (fun i => iAt f i 0) (fun i => iAt f i 1) (fun i => nAt (f i 2)) n = 0) : trP a n f :=
  ⟨by omega, p.ta, p.tf, p.tc, fun i hi => bl_par (tr_all h i hi)⟩
theorem ok_tf (a : Option Addr) (n cap : Nat) (P H : Nat → Int) (A : Nat → Option Addr) (N C : Nat → Nat) (X : Nat → Nat → Nat → SC) (best fin : Int) (ht : tfP a n (blkF P H A N C X)) :
    OwesR Try.prog cxBo slTf [(4, .inv (invTf a n cap P H A N C X best fin))] 4 Try.f8 [sTr a n cap (blkF P H A N C X) best fin] false [.v (sI .i64 (trE P H N n best fin))] := by
  rw [vc_tf]
  have hML : maxLen = 9223372036854775807 := rfl
  have hn := ht.tn
  have hxs : simC (.xs a n cap 3 (blkF P H A N C X)) (.xs a n cap 3 (blkF P H A N C X)) := ⟨rfl, rfl, rfl, fun i hi => ⟨rfl, rfl, ht.ts i hi⟩⟩
  intro x1 x2 x3 x4 x5 x6 x7 a1
  have q1 : x1 = true ↔ n = 0 := by show ((n : Int) == 0) = true ↔ _; rw [beq_iff_eq]; omega
  refine ⟨id, id, id, fun h => by show (!x1) = true; rw [h]; rfl, fun h => ?_, fun h => ?_⟩
  · simp only [Bool.or_eq_true, decide_eq_true_eq, q1] at h
    unfold trE
    rw [if_pos (by omega)]
  simp only [Bool.or_eq_false_iff, decide_eq_false_iff_not] at h
  have h40 : n ≤ 40 := by omega
  have h1 : n ≠ 0 := fun c => by rw [q1.2 c] at h; exact Bool.noConfusion h.1
  have ee : trE P H N n best fin = if trR P H N n ≠ 0 then trR P H N n else if fin < 0 ∨ (n : Int) ≤ fin ∨ best ≠ bsD P H fin n n then 12 else 0 := if_neg (by omega)
  refine ⟨fun _ => rfl, (0, a1), ⟨Nat.zero_le _, rfl⟩, ⟨rfl, hxs, rfl, rfl⟩, hxs, rfl, rfl, fun y => ?_⟩
  intro x101 x102 x103 x104 hy
  obtain ⟨hy1, hy2⟩ := hy
  refine ⟨fun hl => ?_, fun hl => ?_⟩
  · have hl : y.1 < n := by have := of_decide_eq_true hl; omega
    have et : (y.1 : Int).toNat = y.1 := Int.toNat_natCast _
    have good : 6 ≥ N y.1 → blO P H N y.1 = true → x104 := fun h6 ho => ⟨(y.1 + 1, y.2), ⟨hl, by show trR P H N (y.1 + 1) = 0; rw [tr_step hy2, if_neg (by omega), if_pos ho]⟩, ⟨rfl, hxs, rfl, rfl⟩, hxs, rfl, by show _ = ((y.1 + 1 : Nat) : Int); rw [IntKind.wrap_i64]; omega, by show (n - (y.1 + 1)) + 1 ≤ _; omega⟩
    have bad : 6 ≥ N y.1 → blO P H N y.1 = false → 12 = trE P H N n best fin := fun h6 ho => by
      have := tr_end (n := n) hl (r := 12) (by decide) (by rw [tr_step hy2, if_neg (by omega), ho]; rfl)
      rw [ee, this, if_pos (by decide)]
    refine ⟨⟨by omega, by omega⟩, fun h6 => ?_, fun h6 => ?_⟩
    · have h6 := of_decide_eq_true h6
      rw [et] at h6
      have := tr_end (n := n) hl (r := 1) (by decide) (by rw [tr_step hy2, if_pos (by omega)])
      rw [ee, this, if_pos (by decide)]
    · have h6 := of_decide_eq_false h6
      rw [et] at h6
      have h6 : 6 ≥ N y.1 := by omega
      have hin : x103 → (0 : Int) ≤ P (y.1 : Int).toNat ∧ P (y.1 : Int).toNat < (n : Int) := fun h => by
        have h : (_ && _) = true := h
        simp only [Bool.and_eq_true, decide_eq_true_eq] at h
        omega
      clear_value x101 x102 x103 x104
      refine ⟨id, id, id, id, id, id, id, fun hp => ?_, fun hp => ?_⟩
      · have hp := of_decide_eq_true hp
        have eb := bl_pos (P := P) (H := H) (N := N) (i := y.1) (by omega)
        refine ⟨id, id, id, id, id, id, id, id, id, hin, id, id, id, id, id, id, fun h => bad h6 ?_, fun h => good h6 ?_⟩
        · rw [eb]; rw [et, Bool.not_eq_true'] at h; exact h
        · rw [eb]; rw [et] at h; simpa using h
      · have hp := of_decide_eq_false hp
        have e0 : y.1 = 0 := by omega
        refine ⟨fun h => bad h6 ?_, fun h => good h6 ?_⟩
        · rw [et, e0] at h
          rw [e0, bl_zero]
          have : ((N 0 : Int) == 0) = (N 0 == 0) := by rw [Bool.eq_iff_iff, beq_iff_eq, beq_iff_eq]; omega
          rw [this, Bool.not_eq_true'] at h
          exact h
        · rw [et, e0] at h
          rw [e0, bl_zero]
          have : ((N 0 : Int) == 0) = (N 0 == 0) := by rw [Bool.eq_iff_iff, beq_iff_eq, beq_iff_eq]; omega
          rw [this] at h
          simpa using h
  · have hl := of_decide_eq_false hl
    have en : y.1 = n := by omega
    rw [en] at hy2
    have e2 : trE P H N n best fin = if fin < 0 ∨ (n : Int) ≤ fin ∨ best ≠ bsD P H fin n n then 12 else 0 := by rw [ee, if_neg (fun c => c hy2)]
    have hx6 : x6 := by
      refine ⟨fun h5 => ⟨h5, tf_tr ht h40 hy2, h5, fun hb => ?_, fun hb => ?_⟩, fun h5 => ?_⟩
      · rw [e2, if_pos (.inr (.inr (by simp at hb; exact hb)))]
      · have h5 : (!(decide (fin < 0) || decide (fin ≥ (n : Int)))) = true := h5
        simp only [Bool.not_eq_true', Bool.or_eq_false_iff, decide_eq_false_iff_not] at h5
        have hb : best = bsD P H fin n n := by simp at hb; exact hb
        rw [e2, if_neg (by omega)]
      · have h5 : (!(decide (fin < 0) || decide (fin ≥ (n : Int)))) = false := h5
        simp only [Bool.not_eq_false', Bool.or_eq_true, decide_eq_true_eq] at h5
        rw [e2, if_pos (by omega)]
    have hx7 : x7 := ⟨id, id, id, id, fun h => by show (!x3) = true; rw [h]; rfl, ⟨id, hx6⟩, hx6⟩
    exact ⟨⟨id, hx7⟩, id, hx7, hx7⟩
theorem card_tf {gl : Globs} : FnOKs Try.prog gl 8 cTf := by
  refine FnOKs.up0 (FnOKs_R0 (cx := cxBo) okx_Bo (sl := slTf) (oks_cons card_bo oks_nil) Try.func8 (by kernel_rfl) (by kernel_rfl) fun ls hc => ?_) gl
  unfold tfC at hc
  split at hc
  · rename_i a n cap f best fin
    obtain ⟨p, _⟩ := hc
    refine ⟨_, _, _, fun ρ => ?_, fun E hE x hx => ?_, fun r hr => ?_, ok_tf a n cap (fun i => iAt f i 0) (fun i => iAt f i 1) (fun i => aAt (f i 2)) (fun i => nAt (f i 2)) (fun i => cAt (f i 2)) (fun i => xAt (f i 2)) best fin ⟨p.tn, p.ta, fun i c hc => ?_, fun i hi => p.tm i hi, fun i => p.tc i⟩⟩
    · rfl
    · rcases List.mem_cons.1 hx with rfl | hx
      · exact tr_told (fun i _ c hc => p.tf i c hc) (hE (sTr a n cap f best fin) (List.mem_cons_self ..))
      · exact hE x (List.mem_cons_of_mem _ hx)
    · rw [List.mem_singleton.1 hr]; exact trivial
    · rcases c with _ | _ | _ | c
      · rfl
      · rfl
      · rfl
      · omega
  · exact hc.1.elim
end Go.Proofs.Ytnomjdechekapaa
end

section
namespace Go.Proofs.Ytnomjdechekapaa
open Go.Sx
set_option maxRecDepth 100000
def slLo : List (Nat × SSpec) := [(8, cTf)]
def seE (P H : Nat → Int) (N : Nat → Nat) (n : Nat) (best fin h : Int) : Int := if trE P H N n best fin ≠ 0 then trE P H N n best fin else if h < H fin.toNat ∨ H best.toNat < h then 6 else 0
def seF (P : Nat → Int) (best h : Int) : Int := (lineT P best).getD h.toNat 0
def kI (n : Int) : RK := .k (.c (.val (.int .i64 n)))
def seR (P H : Nat → Int) (N : Nat → Nat) (n : Nat) (f : Nat → Nat → SC) (best fin h : Int) : List RS :=
  [.ex (fun _ => True) fun _ => .st [.s (if seE P H N n best fin h = 0 then n else 0) 3 f, kI (if seE P H N n best fin h = 0 then best else 0), kI (if seE P H N n best fin h = 0 then seF P best h else 0)], .v (sI .i64 (seE P H N n best fin h))]
def seC : List (List FD) → List Prop
  | [[.x a n _ f, .i _, .i _], [.i _]] => [tfP a n f]
  | _ => [False]
def seG : List (List FD) → List RS
  | [[.x _ n _ f, .i b, .i fin], [.i h]] => seR (fun i => iAt f i 0) (fun i => iAt f i 1) (fun i => nAt (f i 2)) n (fTr f) b fin h
  | _ => []
def cSe : SSpec := specQ0 true [pqTr, .one (.i .i64)] seC seG
theorem vc_se (a : Option Addr) (n cap : Nat) (P H : Nat → Int) (A : Nat → Option Addr) (N C : Nat → Nat) (X : Nat → Nat → Nat → SC) (best fin h : Int) :
    OwesNr Try.prog .none slLo [] [(27, cLt 1002)] [] 4 Try.f13 [sTr a n cap (blkF P H A N C X) best fin, sI .i64 h] true (seR P H N n (blkF P H A N C X) best fin h) =
    (let x1 : Int := trE (fun (i : Nat) => iAt (blkF P H A N C X) i 0) (fun (i : Nat) => iAt (blkF P H A N C X) i 1) (fun (i : Nat) => nAt (blkF P H A N C X i 2)) n best fin; let x2 : Prop := seE P H N n best fin h = (0 : Int); let x3 : Nat := if x2 then n else 0; let x4 : Int := if x2 then best else (0 : Int); let x5 : Int := if x2 then seF P best h else (0 : Int); let x6 : Bool := Decidable.decide (h < H fin.toNat); let x7 : Prop := (!x6) = Bool.true; let x8 : Nat := ltN [[FD.x a n cap (blkF P H A N C X), FD.i best, FD.i fin], [FD.i best]]; let x9 : Nat := 0 + h.toNat; tfP a n (blkF P H A N C X) ∧ ((x1 != (0 : Int)) = Bool.true → (∃ (_ : List Nat → Option Go.Addr × Nat), True ∧ x3 = 0 ∧ ((0 : Int) = x4 ∧ True) ∧ ((0 : Int) = x5 ∧ True) ∧ True) ∧ x1 = seE P H N n best fin h) ∧ ((x1 != (0 : Int)) = Bool.false → ((0 : Int) ≤ fin ∧ fin < (↑n : Int)) ∧ (x7 → x7) ∧ (x7 → x7) ∧ (x7 → x7) ∧ (x7 → x7) ∧ (x7 → (0 : Int) ≤ best ∧ best < (↑n : Int)) ∧ (x7 → x7) ∧ (x7 → x7) ∧ (x7 → x7) ∧ (x7 → x7) ∧ (x6 = Bool.false → x7) ∧ ((x6 || Decidable.decide (h > H best.toNat)) = Bool.true → (∃ (_ : List Nat → Option Go.Addr × Nat), True ∧ x3 = 0 ∧ ((0 : Int) = x4 ∧ True) ∧ ((0 : Int) = x5 ∧ True) ∧ True) ∧ (6 : Int) = seE P H N n best fin h) ∧ ((x6 || Decidable.decide (h > H best.toNat)) = Bool.false → trP a n (blkF P H A N C X) ∧ (-1 : Int) ≤ best ∧ best < (↑n : Int) ∧ best + (1 : Int) < (1002 : Int) ∧ (x8 = 0 → Stuck { dst := Option.some 39, op := Go.Op.indexAddr 35 (Go.Operand.tmp 37) (Go.Operand.tmp 38), type := 0, pos := "chain.go:220", after := #[{ on := 3, ground := Go.Ground.data }, { on := 4, ground := Go.Ground.data }], guard := Option.none }) ∧ (0 < x8 → ∀ (c : Nat), x8 + c ≤ Go.maxLen → ((0 : Int) ≤ h ∧ h < (↑x8 : Int)) ∧ x9 < x8 ∧ (∃ (_ : List Nat → Option Go.Addr × Nat), True ∧ (n = x3 ∧ ∀ (i : Nat), i < x3 → allC 3 fun (c : Nat) => simC (blkF P H A N C X i c) (blkF P H A N C X i c)) ∧ (best = x4 ∧ True) ∧ ((lineT (fun (i : Nat) => iAt (blkF P H A N C X) i 0) best).getD x9 (0 : Int) = x5 ∧ True) ∧ True) ∧ (0 : Int) = seE P H N n best fin h)))) := by kernel_rfl
end Go.Proofs.Ytnomjdechekapaa
end

section
namespace Go.Proofs.Ytnomjdechekapaa
open Go.Sx
set_option maxRecDepth 100000
section
variable {P H : Nat → Int} {N : Nat → Nat} {n : Nat} {best fin : Int}
theorem tr_par (h : trR P H N n = 0) : ∀ i, i < n → -1 ≤ P i ∧ P i < (i : Int) := fun i hi => bl_par (tr_all h i hi)
theorem tr_high (hn : n ≤ 1000) (h : trR P H N n = 0) : ∀ k i, i < n → i < k → H i + 1 = (lnN P (i : Int) : Int)
  | 0, i, _, hk => absurd hk (Nat.not_lt_zero _)
  | k + 1, i, hi, hk => by
    have hP := tr_par h
    have es := ln_step hP (b := (i : Int)) (by omega) (by omega)
    rw [Int.toNat_natCast] at es
    have ho := tr_all h i hi
    by_cases c : i = 0
    · subst c
      rw [bl_zero] at ho
      simp only [Bool.and_eq_true, beq_iff_eq] at ho
      rw [es, ho.1.1, ln_neg (by omega), ho.1.2]; rfl
    · rw [bl_pos (by omega)] at ho
      simp only [Bool.and_eq_true, decide_eq_true_eq, beq_iff_eq] at ho
      obtain ⟨⟨h1, h2⟩, h3⟩ := ho
      have ih := tr_high hn h k (P i).toNat (by omega) (by omega)
      rw [Int.toNat_of_nonneg h1] at ih
      have hs := ln_small hn hP (b := P i) (by omega)
      rw [IntKind.wrap_i64] at h3
      omega
theorem tr_line (hn : n ≤ 1000) (h : trR P H N n = 0) {b : Int} (h0 : 0 ≤ b) (hb : b < (n : Int)) : H b.toNat + 1 = (lnN P b : Int) := by
  have := tr_high hn h (b.toNat + 1) b.toNat (by omega) (by omega)
  rwa [Int.toNat_of_nonneg h0] at this
theorem stO_self (hP : ∀ i, i < n → -1 ≤ P i ∧ P i < (i : Int)) {b : Int} (h0 : 0 ≤ b) (hb : b < (n : Int)) : stO P b b = true := by
  unfold stO
  rw [line_step hP h0 hb, List.any_append]
  simp
theorem bs_pos : ∀ {d : Nat} (e : Nat), d + e ≤ n → 0 ≤ bsD P H fin n d → 0 ≤ bsD P H fin n (d + e)
  | d, 0, _, h => h
  | d, e + 1, he, h => by
    have ih := bs_pos (d := d) e (by omega) h
    show 0 ≤ bsD P H fin n (d + e + 1)
    unfold bsD
    split
    · omega
    · exact ih
theorem bs_fin (hP : ∀ i, i < n → -1 ≤ P i ∧ P i < (i : Int)) (h0 : 0 ≤ fin) (hb : fin < (n : Int)) : 0 ≤ bsD P H fin n n := by
  have hd : 0 ≤ bsD P H fin n (n - 1 - fin.toNat + 1) := by
    unfold bsD
    rw [show (n : Int) - 1 - ((n - 1 - fin.toNat : Nat) : Int) = fin by omega, stO_self hP h0 hb, Bool.true_and]
    split
    · exact h0
    · rename_i c
      simp only [Bool.or_eq_true, decide_eq_true_eq] at c
      omega
  have := bs_pos (d := n - 1 - fin.toNat + 1) fin.toNat (by omega) hd
  rwa [show n - 1 - fin.toNat + 1 + fin.toNat = n by omega] at this
structure OkT (P H : Nat → Int) (N : Nat → Nat) (n : Nat) (best fin : Int) : Prop where
  pos : 0 < n
  few : n ≤ 40
  row : trR P H N n = 0
  fin0 : 0 ≤ fin
  fin1 : fin < (n : Int)
  bst : best = bsD P H fin n n
theorem okT_of (h : trE P H N n best fin = 0) : OkT P H N n best fin := by
  unfold trE at h
  split at h
  · cases h
  rename_i h1
  split at h
  · rename_i c; exact absurd h c
  rename_i h2
  split at h
  · cases h
  rename_i h3
  have h2 : trR P H N n = 0 := Classical.not_not.1 h2
  refine ⟨by omega, by omega, h2, by omega, by omega, Classical.byContradiction fun c => h3 (.inr (.inr c))⟩
theorem OkT.bst0 (h : OkT P H N n best fin) : 0 ≤ best := by rw [h.bst]; exact bs_fin (tr_par h.row) h.fin0 h.fin1
theorem OkT.bst1 (h : OkT P H N n best fin) : best < (n : Int) := by
  have := bs_in (P := P) (H := H) (fin := fin) (n := n) (d := n) (Nat.le_refl _)
  have := h.bst0
  have := h.bst
  omega
end
theorem OkT.tr {a : Option Addr} {n : Nat} {f : Nat → Nat → SC} {best fin : Int} (h : OkT (fun i => iAt f i 0) (fun i => iAt f i 1) (fun i => nAt (f i 2)) n best fin) (p : tfP a n f) : trP a n f := tf_tr p h.few h.row
theorem ok_se (a : Option Addr) (n cap : Nat) (P H : Nat → Int) (A : Nat → Option Addr) (N C : Nat → Nat) (X : Nat → Nat → Nat → SC) (best fin h : Int) (ht : tfP a n (blkF P H A N C X)) :
    OwesNr Try.prog .none slLo [] [(27, cLt 1002)] [] 4 Try.f13 [sTr a n cap (blkF P H A N C X) best fin, sI .i64 h] true (seR P H N n (blkF P H A N C X) best fin h) := by
  rw [vc_se]
  intro x1 x2 x3 x4 x5 x6 x7 x8 x9
  have e1 : x1 = trE P H N n best fin := rfl
  have e8 : x8 = lnN P best := rfl
  clear_value x1 x8
  have bad : seE P H N n best fin h ≠ 0 → (∃ _ac : List Nat → Option Go.Addr × Nat, True ∧ x3 = 0 ∧ ((0 : Int) = x4 ∧ True) ∧ ((0 : Int) = x5 ∧ True) ∧ True) := fun hc => ⟨fun _ => (none, 0), trivial, if_neg hc, ⟨(if_neg hc).symm, trivial⟩, ⟨(if_neg hc).symm, trivial⟩, trivial⟩
  refine ⟨ht, fun h1 => ?_, fun h1 => ?_⟩
  · have h1 : x1 ≠ 0 := by simpa using h1
    have es : seE P H N n best fin h = trE P H N n best fin := if_pos (by rw [← e1]; exact h1)
    exact ⟨bad (by rw [es, ← e1]; exact h1), by rw [es, e1]⟩
  have h1 : x1 = 0 := by simpa using h1
  have h0 : trE P H N n best fin = 0 := by rw [← e1, h1]
  have hk := okT_of h0
  have p := OkT.tr (f := blkF P H A N C X) hk ht
  have b0 := hk.bst0
  have b1 := hk.bst1
  have f0 := hk.fin0
  have f1 := hk.fin1
  have few := hk.few
  have es : seE P H N n best fin h = if h < H fin.toNat ∨ H best.toNat < h then 6 else 0 := if_neg (fun c => c h0)
  have lf := tr_line (by omega) hk.row f0 f1
  have lb := tr_line (by omega) hk.row b0 b1
  have lf1 := ln_step (tr_par hk.row) f0 f1
  refine ⟨⟨f0, f1⟩, id, id, id, id, fun _ => ⟨b0, b1⟩, id, id, id, id, fun hc => by show (!x6) = true; rw [hc]; rfl, fun hc => ?_, fun hc => ?_⟩
  · have hc : (decide (h < H fin.toNat) || decide (h > H best.toNat)) = true := hc
    simp only [Bool.or_eq_true, decide_eq_true_eq] at hc
    have e6 : seE P H N n best fin h = 6 := by rw [es, if_pos (by omega)]
    exact ⟨bad (by rw [e6]; decide), e6.symm⟩
  · have hc : (decide (h < H fin.toNat) || decide (h > H best.toNat)) = false := hc
    simp only [Bool.or_eq_false_iff, decide_eq_false_iff_not] at hc
    have e0 : seE P H N n best fin h = 0 := by rw [es, if_neg (by omega)]
    have e9 : x9 = h.toNat := Nat.zero_add _
    refine ⟨p, by omega, b1, by omega, fun hz => by omega, fun hz c hc' => ⟨⟨by omega, by omega⟩, by rw [e9]; omega, ⟨fun _ => (none, 0), trivial, ⟨(if_pos e0).symm, fun i hi => ?_⟩, ⟨(if_pos e0).symm, trivial⟩, ⟨?_, trivial⟩, trivial⟩, e0.symm⟩⟩
    · have e3 : x3 = n := if_pos e0
      exact ⟨rfl, rfl, ht.ts i (by omega)⟩
    · rw [e9]; exact (if_pos e0).symm
theorem tfP.told {a : Option Addr} {n : Nat} {f : Nat → Nat → SC} (p : tfP a n f) : tfP a n (fTr f) :=
  ⟨p.tn, p.ta, fun i c hc => by
    rcases c with _ | _ | _ | c
    · rfl
    · rfl
    · rfl
    · omega, fun i hi => p.tm i hi, fun i => p.tc i⟩
theorem nl_lt : ∀ p ∈ [((27 : Nat), cLt 1002)], FnOKn Try.prog [] p.1 p.2 := fun p hp => by rw [List.mem_singleton.1 hp]; exact card_lt 1002
theorem card_se {gl : Globs} : FnOKs Try.prog gl 13 cSe := by
  refine FnOKs.up0 (FnOKs_N0 (cx := .none) okx_nil (sl := slLo) (oks_cons card_tf oks_nil) (tl := []) (fun _ h => by cases h) nl_lt Try.func13 (by kernel_rfl) (by kernel_rfl) fun ls hc => ?_) gl
  unfold seC at hc
  split at hc
  · rename_i a n cap f best fin h
    obtain ⟨p, _⟩ := hc
    refine ⟨_, _, _, fun ρ => ?_, fun E hE y hy => ?_, fun r hr => ?_, ok_se a n cap (fun i => iAt f i 0) (fun i => iAt f i 1) (fun i => aAt (f i 2)) (fun i => nAt (f i 2)) (fun i => cAt (f i 2)) (fun i => xAt (f i 2)) best fin h p.told⟩
    · rfl
    · rcases List.mem_cons.1 hy with rfl | hy
      · exact tr_told (fun i _ c hc => p.tf i c hc) (hE (sTr a n cap f best fin) (List.mem_cons_self ..))
      · exact hE y (List.mem_cons_of_mem _ hy)
    · rcases List.mem_cons.1 hr with rfl | hr
      · intro _ k hk
        rcases List.mem_cons.1 hk with rfl | hk
        · exact trivial
        · rcases List.mem_cons.1 hk with rfl | hk
          · exact trivial
          · rw [List.mem_singleton.1 hk]; exact trivial
      · rw [List.mem_singleton.1 hr]; exact trivial
  · exact hc.1.elim
end Go.Proofs.Ytnomjdechekapaa
end
