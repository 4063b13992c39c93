/-
  Texts: Rfh, V195, V190, V191, P300, P301, P311, P312, P313, P314, V196, P315, P316, V199, P318, Open, Lo.
-/
import Derived.Test.YtggpnmbfjnmfdaaDoorM1
import Derived.Test.YtggpnmbfjnmfdaaDoorM2
import Derived.Test.YtggpnmbfjnmfdaaDoorM3
import Derived.Test.YtggpnmbfjnmfdaaDoorM4
import Derived.Test.YtggpnmbfjnmfdaaDoorM5
import Derived.Test.YtggpnmbfjnmfdaaDoorM6
import Derived.Test.YtggpnmbfjnmfdaaDoorM7
import Derived.Test.YtggpnmbfjnmfdaaDoorM8
import Derived.Test.YtggpnmbfjnmfdaaDoorM9
import Derived.Test.YtggpnmbfjnmfdaaDoorProg
import Derived.RangeFuncBox
import Derived.OwnWalkIn
import Derived.Great.BuildSlice
import Derived.Test.YtggpnmbfjnmfdaaDoorRows
section
namespace Go.Sx
open Go.RowKit
def flatS (l : List (Nat × SV)) : Prop := ∀ p ∈ l, p.2.bnd none0
theorem lookS_bnd : ∀ {l : List (Nat × SV)}, flatS l → ∀ t, (lookS l t).bnd none0
  | [], _, _ => trivial
  | (k, v) :: r, h, t => by
    unfold lookS
    split
    · exact h _ (List.mem_cons_self ..)
    · exact lookS_bnd (fun p hp => h p (List.mem_cons_of_mem _ hp)) t
theorem slots_bnd {l : List (Nat × SV)} (h : flatS l) (n t : Nat) : ((slotsAt n l).getD t .any).bnd none0 := by
  unfold slotsAt
  rw [List.getD_eq_getElem?_getD, List.getElem?_map]
  rcases Nat.lt_or_ge t n with ht | ht
  · rw [List.getElem?_range ht]; exact lookS_bnd h t
  · rw [List.getElem?_eq_none (by simpa using ht)]; trivial
theorem Holds.again {Z : Base} {ρ : Rho} {n : Nat} {l : List (Nat × SV)} {ob : List SO} {a : Act} {w w2 : World} (H : Holds Z ρ (slotsAt n l) ob a w) (hl : flatS l) {gl : Globs} {fz : Nat → Nat → Value → Prop} (hz : FzOK fz w2) (hg : GlobsOK gl fz) :
    Holds ⟨w2, [], ⟨ρ.pos, fz⟩, gl, noKeep⟩ ⟨ρ.pos, fz⟩ (slotsAt n l) [] a w2 := by
  refine ⟨H.size, fun t => ?_, fun t => SV.bnd_mono none0_le (slots_bnd hl n t), H.defers, Below.refl _ _, Mem.start hz, ⟨fun i hi => .inl ⟨hi, rfl⟩, fun i hi => hi, Nat.le_refl _⟩, hg, ⟨fun _ _ _ h => h, fun _ _ _ h => .inl ⟨_, _, h⟩⟩, Keeps.none _ _ _⟩
  exact Agree.sv (n := none0) (ρ := ρ) (ρ' := ⟨ρ.pos, fz⟩) (fun _ h => h.elim) (slots_bnd hl n t) (H.rep t)
def St (gl : Globs) (fz : Nat → Nat → Value → Prop) (n : Nat) (l : List (Nat × SV)) (a : Act) (w : World) : Prop := ∃ pos, Holds ⟨w, [], ⟨pos, fz⟩, gl, noKeep⟩ ⟨pos, fz⟩ (slotsAt n l) [] a w
theorem fz_keep {fz : Nat → Nat → Value → Prop} {w w' : World} (h : FzOK fz w) (hb : Below w.heap.size w w') : FzOK fz w' := fun b o v hv =>
  (World.cell?_of_block (hb.block b (World.block_lt_of_cell? w ⟨b, o, none⟩ (h b o v hv)))).trans (h b o v hv)
theorem St.fz {gl : Globs} {fz : Nat → Nat → Value → Prop} {n : Nat} {l : List (Nat × SV)} {a : Act} {w : World} (H : St gl fz n l a w) : FzOK fz w := fun b o v h => (H.choose_spec.mem.frz b o v h).1
theorem St.gl {gl : Globs} {fz : Nat → Nat → Value → Prop} {n : Nat} {l : List (Nat × SV)} {a : Act} {w : World} (H : St gl fz n l a w) : GlobsOK gl fz := H.choose_spec.gl
theorem St.move {gl gl2 : Globs} {fz fz2 : Nat → Nat → Value → Prop} {n : Nat} {l : List (Nat × SV)} {a : Act} {w w2 : World} (H : St gl fz n l a w) (hl : flatS l) (hz : FzOK fz2 w2) (hg : GlobsOK gl2 fz2) : St gl2 fz2 n l a w2 :=
  ⟨_, H.choose_spec.again hl hz hg⟩
theorem St.eval {gl : Globs} {fz : Nat → Nat → Value → Prop} {n : Nat} {l : List (Nat × SV)} {a : Act} {w : World} (H : St gl fz n l a w) {t : Nat} {k : SC} (h : (slotsAt n l).getD t .any = .one (.sc k)) {v : Value} (hv : ∀ ρ, k.conc ρ = v) : a.eval (.tmp t) = v := by
  obtain ⟨pos, H⟩ := H
  have := H.rep t
  rw [h] at this
  exact this.trans (hv _)
section
variable {P : Program} {cx : Cx}
theorem St.code (hcx : CxOK P cx) (_ : cx.kn = 0) {inl : Inl} (hin : InlOK P cx.gl inl) {N kf : Nat} {fz : Nat → Nat → Value → Prop} {n : Nat} {l l2 : List (Nat × SV)} {e0 : Exit} {c : Code} {a : Act} {w : World} (H : St cx.gl fz n l a w)
    (h : sx P cx inl drawOK [] N kf 0 c (slotsAt n l) [] (fun e tm' _ => e = e0 ∧ Ok (weakT tm' (slotsAt n l2)))) (hf : flatS l2) (hc : closedB (slotsAt n l2) [] = true) {m : Nat} {Q : Exit → Act → World → Prop}
    (hQ : ∀ a' w', St cx.gl fz n l2 a' w' → Below w.heap.size w w' → Q e0 a' w') : c.wpIn Fence.wide m P Q a w := by
  have hz := H.fz
  have hg := H.gl
  obtain ⟨pos, H⟩ := H
  refine wpIn_wide.2 (sx_sound hcx ⟨rfl, Nat.zero_le _⟩ hin (drawOK_ok hcx) rfl c H h fun e ρ tm ob a' w' H' hk => ?_)
  obtain ⟨rfl, hk⟩ := hk
  have H2 := (H'.weaken (kn := 0) (ob' := []) (Nat.le_refl _) (Nat.zero_le _) hk (by cases ob <;> trivial) hc).1
  exact hQ a' w' ⟨_, H2.again hf (fz_keep hz H'.below) hg⟩ H'.below
theorem St.list (hcx : CxOK P cx) {inl : Inl} (hin : InlOK P cx.gl inl) {r : Option Nat} {fz : Nat → Nat → Value → Prop} {n i : Nat} {l l2 : List (Nat × SV)} {ops : Array Oper} {ls : List Oper} {a : Act} {w : World} (H : St cx.gl fz n l a w)
    (h : runs P cx inl ops false i ls (slotsAt n l) [] (fun tm' _ => Ok (weakT tm' (slotsAt n l2)))) (hf : flatS l2) (hc : closedB (slotsAt n l2) [] = true) (hd : ∀ o ∈ ls, ∀ c, o.op ≠ .defer c) {m : Nat} {Q : Exit → Act → World → Prop} (hQ0 : ¬ LetsOut Q)
    (hQ : ∀ a' w', St cx.gl fz n l2 a' w' → Below w.heap.size w w' → Q .normal a' w') : wpListIn (wideR r) m P ops Q ls a w := by
  have hz := H.fz
  have hg := H.gl
  obtain ⟨pos, H⟩ := H
  refine listIn hQ0 hd (runs_sound hcx ⟨rfl, Nat.zero_le _⟩ hin (fun ρ tm ob a' w' H' hk => ?_) H h)
  have H2 := (H'.weaken (kn := 0) (ob' := []) (Nat.le_refl _) (Nat.zero_le _) hk (by cases ob <;> trivial) hc).1
  exact hQ a' w' ⟨_, H2.again hf (fz_keep hz H'.below) hg⟩ H'.below
end
end Go.Sx
end

section
namespace Go.Proofs.YtggpnmbfjnmfdaaDoor
open Go Go.Sx Go.RowKit
set_option maxRecDepth 100000
def seqA : Code → Code
  | .seq a _ => a
  | c => c
def seqB : Code → Code
  | .seq _ b => b
  | c => c
def inn : Code → Code
  | .block _ b => b
  | .loop b => b
  | c => c
def opsOf : Code → Array Oper
  | .region _ ops _ => ops
  | _ => #[]
noncomputable def mkC : Code := Tryd.f8.body.getD .skip
noncomputable def mkR0 : Code := seqA mkC
noncomputable def mkL : Code := inn (inn (seqB mkC))
noncomputable def mkR1 : Code := seqA mkL
noncomputable def mkB1 : Code := inn (seqA (seqB (seqB mkL)))
noncomputable def mkR2 : Code := seqA mkB1
noncomputable def mkM : Code := inn (inn (seqB mkB1))
noncomputable def mkR3 : Code := seqA (seqA mkM)
noncomputable def mkN : Code := inn (seqB mkM)
noncomputable def mkR4 : Code := seqA (seqA mkN)
noncomputable def mkR5 : Code := seqB mkN
noncomputable def mkR6 : Code := seqB (seqB (seqB mkL))
noncomputable def ops4 : Array Oper := opsOf mkR4
def yv (l : Nat) : SA := .sc (.val (.func (.yield l) #[] #[]))
def pxA (b : Addr) (x : Nat) : SA := .sc (.px b 4 fun c => .val (.int .u64 (limb x c)))
def lA (l x p : Nat) : List (Nat × SV) := [(0, .one (yv l)), (5, .one (sU x)), (6, .one (sI .i64 (p : Int)))]
def lA7 (l x p : Nat) : List (Nat × SV) := [(0, .one (yv l)), (5, .one (sU x)), (6, .one (sI .i64 (p : Int))), (7, .one (sB (decide ((p : Int) < 4))))]
def lC (l x p v : Nat) : List (Nat × SV) := [(0, .one (yv l)), (3, .one (sI .i64 (p : Int))), (4, .one (sI .u64 (v : Int))), (5, .one (sU x)), (6, .one (sI .i64 (p : Int)))]
def lC11 (l x p v : Nat) : List (Nat × SV) := [(0, .one (yv l)), (3, .one (sI .i64 (p : Int))), (4, .one (sI .u64 (v : Int))), (5, .one (sU x)), (6, .one (sI .i64 (p : Int))), (11, .one (sB (decide (v ≠ 0))))]
def lE (l x p v k : Nat) : List (Nat × SV) := [(0, .one (yv l)), (3, .one (sI .i64 (p : Int))), (4, .one (sI .u64 (v : Int))), (5, .one (sU x)), (6, .one (sI .i64 (p : Int))), (12, .one (yv l)), (17, .one (sI .i64 (k : Int)))]
def lE18 (l x p v : Nat) (b : Bool) : List (Nat × SV) := [(0, .one (yv l)), (3, .one (sI .i64 (p : Int))), (4, .one (sI .u64 (v : Int))), (5, .one (sU x)), (6, .one (sI .i64 (p : Int))), (18, .one (sB b))]
def lE19 (l x p v : Nat) (b : Bool) : List (Nat × SV) := [(0, .one (yv l)), (3, .one (sI .i64 (p : Int))), (4, .one (sI .u64 (v : Int))), (5, .one (sU x)), (6, .one (sI .i64 (p : Int))), (19, .one (sB b))]
def cxRn : Cx := ⟨[(9, specW tzG)], glZ, 0, []⟩
noncomputable def inR : Inl := inlX Tryd.prog cxRn [] drawOK [] 4 8
noncomputable def rnS (c : Code) (tm : List SV) (K : Exit → List SV → List SO → Prop) : Prop := sx Tryd.prog cxRn inR drawOK [] 4 0 0 c tm [] K
noncomputable def rnL (i : Nat) (l : List Oper) (tm : List SV) (K : List SV → List SO → Prop) : Prop := runs Tryd.prog cxRn inR ops4 false i l tm [] K
noncomputable def inR0 : Inl := inlX Tryd.prog Cx.none [] drawOK [] 4 8
noncomputable def rnL0 (i : Nat) (l : List Oper) (tm : List SV) (K : List SV → List SO → Prop) : Prop := runs Tryd.prog Cx.none inR0 ops4 false i l tm [] K
def toQ (l2 : List (Nat × SV)) : Exit → List SV → List SO → Prop := fun e tm' _ => e = .normal ∧ Ok (weakT tm' (slotsAt 25 l2))
def toL (l2 : List (Nat × SV)) : List SV → List SO → Prop := fun tm' _ => Ok (weakT tm' (slotsAt 25 l2))
theorem pm_0 (l x : Nat) (b : Addr) :
    rnS mkR0 (slots0 [yv l, pxA b x] 25) (toQ (lA l x 0)) =
    (Go.Exit.normal = Go.Exit.normal ∧ Go.Value.func (Go.Fn.yield l) #[] #[] = Go.Value.func (Go.Fn.yield l) #[] #[] ∧ (((0 : Int) ≤ limb x 0 ∧ limb x 0 < (18446744073709551616 : Int)) ∧ ((0 : Int) ≤ limb x 1 ∧ limb x 1 < (18446744073709551616 : Int)) ∧ ((0 : Int) ≤ limb x 2 ∧ limb x 2 < (18446744073709551616 : Int)) ∧ ((0 : Int) ≤ limb x 3 ∧ limb x 3 < (18446744073709551616 : Int)) ∧ join (limb x 0) (limb x 1) (limb x 2) (limb x 3) % M256 = x % M256 ∧ True) ∧ (0 : Int) = (0 : Int) ∧ True) := by kernel_rfl
theorem pm_1 (l x p : Nat) :
    rnS mkR1 (slotsAt 25 (lA l x p)) (toQ (lA7 l x p)) =
    (let x1 : Nat := x % M256; let x2 : Bool := Decidable.decide ((↑p : Int) < (4 : Int)); Go.Exit.normal = Go.Exit.normal ∧ Go.Value.func (Go.Fn.yield l) #[] #[] = Go.Value.func (Go.Fn.yield l) #[] #[] ∧ x1 = x1 ∧ (↑p : Int) = (↑p : Int) ∧ x2 = x2 ∧ True) := by kernel_rfl
theorem pm_2 (l x p v : Nat) :
    rnS mkR2 (slotsAt 25 (lA l x p)) (toQ (lC l x p v)) =
    (let x1 : Nat := x % M256; ((0 : Int) ≤ (↑p : Int) ∧ (↑p : Int) < (4 : Int)) ∧ Go.Exit.normal = Go.Exit.normal ∧ Go.Value.func (Go.Fn.yield l) #[] #[] = Go.Value.func (Go.Fn.yield l) #[] #[] ∧ (↑p : Int) = (↑p : Int) ∧ limb x (↑p : Int).toNat = (↑v : Int) ∧ x1 = x1 ∧ (↑p : Int) = (↑p : Int) ∧ True) := by kernel_rfl
theorem pm_3 (l x p v : Nat) :
    rnS mkR3 (slotsAt 25 (lC l x p v)) (toQ (lC11 l x p v)) =
    (let x1 : Nat := x % M256; Go.Exit.normal = Go.Exit.normal ∧ Go.Value.func (Go.Fn.yield l) #[] #[] = Go.Value.func (Go.Fn.yield l) #[] #[] ∧ (↑p : Int) = (↑p : Int) ∧ (↑v : Int) = (↑v : Int) ∧ x1 = x1 ∧ (↑p : Int) = (↑p : Int) ∧ ((↑v : Int) != (0 : Int)) = Decidable.decide (v ≠ 0) ∧ True) := by kernel_rfl
theorem pm_4 (l x p v k : Nat) :
    rnL 0 (ops4.toList.take 6) (slotsAt 25 (lC l x p v)) (toL (lE l x p v k)) =
    (let x1 : Nat := x % M256; ((0 : Int) ≤ (↑v : Int) ∧ (↑v : Int) < (18446744073709551616 : Int)) ∧ Go.Value.func (Go.Fn.yield l) #[] #[] = Go.Value.func (Go.Fn.yield l) #[] #[] ∧ (↑p : Int) = (↑p : Int) ∧ (↑v : Int) = (↑v : Int) ∧ x1 = x1 ∧ (↑p : Int) = (↑p : Int) ∧ Go.Value.func (Go.Fn.yield l) #[] #[] = Go.Value.func (Go.Fn.yield l) #[] #[] ∧ Go.IntKind.i64.wrap (Go.IntKind.i64.wrap ((↑p : Int) * (64 : Int)) + (↑(Go.Lib.ctz 64 (↑v : Int).toNat) : Int)) = (↑k : Int) ∧ True) := by kernel_rfl
theorem pm_5 (l x p v : Nat) (b c : Bool) :
    rnL0 7 (ops4.toList.drop 7) (slotsAt 25 (lE18 l x p v b)) (toL (lE19 l x p v c)) =
    (let x1 : Nat := x % M256; Go.Value.func (Go.Fn.yield l) #[] #[] = Go.Value.func (Go.Fn.yield l) #[] #[] ∧ (↑p : Int) = (↑p : Int) ∧ (↑v : Int) = (↑v : Int) ∧ x1 = x1 ∧ (↑p : Int) = (↑p : Int) ∧ (!b) = c ∧ True) := by kernel_rfl
theorem pm_6 (l x p v w : Nat) :
    rnS mkR5 (slotsAt 25 (lC l x p v)) (toQ (lC l x p w)) =
    (let x1 : Nat := x % M256; Go.Exit.normal = Go.Exit.normal ∧ Go.Value.func (Go.Fn.yield l) #[] #[] = Go.Value.func (Go.Fn.yield l) #[] #[] ∧ (↑p : Int) = (↑p : Int) ∧ Go.IntKind.u64.wrap (↑(BitVec.ofInt 64 (↑v : Int) &&& BitVec.ofInt 64 (Go.IntKind.u64.wrap ((↑v : Int) - (1 : Int)))).toNat : Int) = (↑w : Int) ∧ x1 = x1 ∧ (↑p : Int) = (↑p : Int) ∧ True) := by kernel_rfl
theorem pm_7 (l x p v q : Nat) :
    rnS mkR6 (slotsAt 25 (lC l x p v)) (toQ (lA l x q)) =
    (let x1 : Nat := x % M256; Go.Exit.normal = Go.Exit.normal ∧ Go.Value.func (Go.Fn.yield l) #[] #[] = Go.Value.func (Go.Fn.yield l) #[] #[] ∧ x1 = x1 ∧ Go.IntKind.i64.wrap ((↑p : Int) + (1 : Int)) = (↑q : Int) ∧ True) := by kernel_rfl
end Go.Proofs.YtggpnmbfjnmfdaaDoor
end

section
namespace Go.Proofs.YtggpnmbfjnmfdaaDoor
open Go Go.Sx Go.RowKit
set_option maxRecDepth 100000
structure inP (n : Int) : Prop where
  i1 : 0 ≤ n
  i2 : n < 256
def plC : List (List FD) → List Prop
  | [[.i n]] => [inP n]
  | _ => [False]
def plG : List (List FD) → List RS
  | [[.i n]] => [.v (sI .i64 ((n.toNat / 64 : Nat) : Int)), .v (sI .u64 ((2 ^ (n.toNat % 64) : Nat) : Int))]
  | _ => []
def cPl : SSpec := specQ0 false [.one (.i .i64)] plC plG
def inB (n : Int) : Bool := decide (0 ≤ n) && decide (n < 256)
def haB (x : Nat) (n : Int) : Bool := inB n && x.testBit n.toNat
def haE (n : Int) : Int := bif inB n then 0 else 6
def haC : List (List FD) → List Prop
  | [[.u _], [.i _]] => []
  | _ => [False]
def haG : List (List FD) → List RS
  | [[.u x], [.i n]] => [.v (sB (haB x n)), .v (sI .i64 (haE n))]
  | _ => []
def cHa : SSpec := specQ0 false [.st [.u], .one (.i .i64)] haC haG
def slHa : List (Nat × SSpec) := [(7, cPl)]
theorem vc_pl (n p b : Int) :
    OwesR Tryd.prog Cx.none [] [] 10 Tryd.f7 [sI .i64 n] false [.v (sI .i64 p), .v (sI .u64 b)] =
    ((0 : Int) ≤ n.tmod (64 : Int) ∧ Go.IntKind.i64.wrap (n.tdiv (64 : Int)) = p ∧ Go.IntKind.u64.wrap ((1 : Int) * (2 : Int) ^ Min.min (n.tmod (64 : Int)).toNat 64) = b) := by kernel_rfl
theorem vc_ha (x : Nat) (n : Int) (b : Bool) (e : Int) :
    OwesR Tryd.prog Cx.none slHa [] 10 Tryd.f5 [sU x, sI .i64 n] false [.v (sB b), .v (sI .i64 e)] =
    (let x1 : Bool := Decidable.decide (n < (0 : Int)); let x2 : Prop := (!x1) = Bool.true; let x3 : Int := (↑(n.toNat / 64) : Int); (x2 → x2) ∧ (x1 = Bool.false → x2) ∧ ((x1 || Decidable.decide (n ≥ (256 : Int))) = Bool.true → Bool.false = b ∧ (6 : Int) = e) ∧ ((x1 || Decidable.decide (n ≥ (256 : Int))) = Bool.false → inP n ∧ ((0 : Int) ≤ x3 ∧ x3 < (4 : Int)) ∧ ((0 : Int) ≤ x3 ∧ x3 < (4 : Int)) ∧ (Go.IntKind.u64.wrap (↑(BitVec.ofInt 64 (limb x x3.toNat) &&& BitVec.ofInt 64 (↑((2 : Nat) ^ (n.toNat % 64)) : Int)).toNat : Int) != (0 : Int)) = b ∧ (0 : Int) = e)) := by kernel_rfl
end Go.Proofs.YtggpnmbfjnmfdaaDoor
end

section
namespace Go.Proofs.YtggpnmbfjnmfdaaDoor
open Go Go.Sx Go.RowKit
set_option maxRecDepth 100000
def maL (x k : Nat) : List Nat := (List.range k).filter fun i => x.testBit i
def maN (x : Nat) : Nat := (maL x 256).length
def maF (x i : Nat) : Int := ((maL x 256).getD i 0 : Nat)
def maC : List (List FD) → List Prop
  | [[.u _]] => []
  | _ => [False]
def maG : List (List FD) → List RS
  | [[.u x]] => [.s (maN x) .i64 (maF x)]
  | _ => []
def cMa : SSpec := specQ0 false [.st [.u]] maC maG
end Go.Proofs.YtggpnmbfjnmfdaaDoor
end

section
namespace Go.Proofs.YtggpnmbfjnmfdaaDoor
open Go Go.Sx Go.RowKit
set_option maxRecDepth 100000
theorem in_iff {n : Int} : inB n = true ↔ inP n := by
  unfold inB
  rw [Bool.and_eq_true, decide_eq_true_eq, decide_eq_true_eq]
  exact ⟨fun h => ⟨h.1, h.2⟩, fun h => ⟨h.1, h.2⟩⟩
theorem in_not {n : Int} (h : n < 0 ∨ 256 ≤ n) : inB n = false := by
  rw [Bool.eq_false_iff]; intro k; have := in_iff.1 k; have a := this.1; have b := this.2; omega
theorem in_nat {n : Int} (h : inP n) : ∃ k : Nat, n = k ∧ k < 256 := by
  have a := h.1; have b := h.2
  exact ⟨n.toNat, by omega, by omega⟩
theorem card_pl {gl : Globs} : FnOKs Tryd.prog gl 7 cPl := by
  refine FnOKs.up0 (FnOKs_R0 (cx := Cx.none) okx_nil (sl := []) oks_nil Tryd.func7 (by kernel_rfl) (by kernel_rfl) fun ls hc => ?_) gl
  unfold plC at hc
  split at hc
  · rename_i n
    obtain ⟨p, _⟩ := hc
    refine ⟨[], 10, [sI .i64 n], fun _ => rfl, fun E hE => hE, fun r hr => ?_, ?_⟩
    · unfold plG at hr
      simp only [List.mem_cons, List.not_mem_nil, or_false] at hr
      rcases hr with rfl | rfl <;> exact trivial
    · show OwesR _ _ _ _ _ _ [sI .i64 n] false [.v (sI .i64 _), .v (sI .u64 _)]
      rw [vc_pl]
      obtain ⟨k, rfl, hk⟩ := in_nat p
      rw [pg_mod, Int.toNat_natCast]
      exact ⟨by omega, pg_div k hk, pg_shl _ (Nat.mod_lt _ (by decide))⟩
  · exact hc.1.elim
theorem oks_Ha : ∀ p ∈ slHa, FnOKs Tryd.prog Cx.none.gl p.1 p.2 := oks_cons card_pl oks_nil
theorem ok_ha (x : Nat) (n : Int) : OwesR Tryd.prog Cx.none slHa [] 10 Tryd.f5 [sU x, sI .i64 n] false [.v (sB (haB x n)), .v (sI .i64 (haE n))] := by
  rw [vc_ha]
  intro x1 x2 x3
  have e1 : x1 = decide (n < 0) := rfl
  have e3 : x3 = ((n.toNat / 64 : Nat) : Int) := rfl
  have e2 : x2 = ((!x1) = true) := rfl
  clear_value x1 x3
  subst e1
  rw [e2]
  refine ⟨id, fun h => by rw [h]; rfl, fun h => ?_, fun h => ?_⟩
  · have hn : inB n = false := by
      rw [Bool.or_eq_true, decide_eq_true_eq, decide_eq_true_eq] at h
      exact in_not (by omega)
    unfold haB haE
    rw [hn]
    exact ⟨rfl, rfl⟩
  · have hn : inP n := by
      rw [Bool.or_eq_false_iff, decide_eq_false_iff_not, decide_eq_false_iff_not] at h
      exact ⟨by omega, by omega⟩
    obtain ⟨k, rfl, hk⟩ := in_nat hn
    subst e3
    rw [Int.toNat_natCast, Int.toNat_natCast, pg_and x _ _ (Nat.mod_lt _ (by decide)), pg_split]
    unfold haB haE
    rw [in_iff.2 hn, Int.toNat_natCast]
    exact ⟨hn, ⟨by omega, by omega⟩, ⟨by omega, by omega⟩, rfl, rfl⟩
theorem card_ha {gl : Globs} : FnOKs Tryd.prog gl 5 cHa := by
  refine FnOKs.up0 (FnOKs_R0 (cx := Cx.none) okx_nil (sl := slHa) oks_Ha Tryd.func5 (by kernel_rfl) (by kernel_rfl) fun ls hc => ?_) gl
  unfold haC at hc
  split at hc
  · rename_i x n
    refine ⟨[], 10, [sU x, sI .i64 n], fun _ => rfl, fun E hE => hE, fun r hr => ?_, ok_ha x n⟩
    unfold haG at hr
    simp only [List.mem_cons, List.not_mem_nil, or_false] at hr
    rcases hr with rfl | rfl <;> exact trivial
  · exact hc.1.elim
theorem bnd_pg {n : Env} (a : Nat) : (SA.agg [SK.u a]).bnd n := by
  intro k hk
  simp only [List.mem_singleton] at hk
  subst hk
  trivial
theorem lim_ok (x i : Nat) : 0 ≤ limb x i ∧ limb x i < 18446744073709551616 := by
  unfold limb
  have : x / 2 ^ (64 * i) % 2 ^ 64 < 2 ^ 64 := Nat.mod_lt _ (Nat.two_pow_pos 64)
  omega
end Go.Proofs.YtggpnmbfjnmfdaaDoor
end

section
namespace Go.Proofs.YtggpnmbfjnmfdaaDoor
open Go Go.Sx Go.RowKit
set_option maxRecDepth 100000
theorem ma_succ (x k : Nat) : maL x (k + 1) = maL x k ++ if x.testBit k = true then [k] else [] := by
  unfold maL
  rw [List.range_succ, List.filter_append]
  congr 1
  rw [List.filter_cons, List.filter_nil]
theorem ma_pre (x k : Nat) : ∀ m, ∃ r, maL x (k + m) = maL x k ++ r
  | 0 => ⟨[], by rw [Nat.add_zero, List.append_nil]⟩
  | m + 1 => by
    obtain ⟨r, hr⟩ := ma_pre x k m
    exact ⟨_, by rw [← Nat.add_assoc, ma_succ, hr, List.append_assoc]⟩
theorem ma_at {x k : Nat} (hk : k < 256) (hb : x.testBit k = true) : maF x (maL x k).length = k := by
  obtain ⟨r, hr⟩ := ma_pre x (k + 1) (256 - (k + 1))
  have h1 := ma_succ x k
  rw [if_pos hb] at h1
  rw [show k + 1 + (256 - (k + 1)) = 256 by omega, h1, List.append_assoc] at hr
  unfold maF
  rw [hr]
  simp
theorem ma_len (x k : Nat) : (maL x (k + 1)).length = (maL x k).length + if x.testBit k = true then 1 else 0 := by
  rw [ma_succ, List.length_append]; split <;> rfl
theorem ma_le (x k : Nat) : (maL x k).length ≤ k := by
  have := List.length_filter_le (fun i => x.testBit i) (List.range k)
  rw [List.length_range] at this
  exact this
end Go.Proofs.YtggpnmbfjnmfdaaDoor
end

section
namespace Go.Proofs.YtggpnmbfjnmfdaaDoor
open Go Go.Sx
structure lowB (x p b v : Nat) : Prop where
  l1 : v < 18446744073709551616
  l2 : ∀ i, v.testBit i = (decide (b ≤ i) && (decide (i < 64) && x.testBit (64 * p + i)))
theorem ma_skip (x k : Nat) : ∀ m, (∀ j, k ≤ j → j < k + m → x.testBit j = false) → maL x (k + m) = maL x k
  | 0, _ => rfl
  | m + 1, h => by
    rw [← Nat.add_assoc, ma_succ, h (k + m) (by omega) (by omega), if_neg (by decide), List.append_nil]
    exact ma_skip x k m fun j h1 h2 => h j h1 (by omega)
theorem low_0 (x p : Nat) : lowB x p 0 (x / 2 ^ (64 * p) % 2 ^ 64) :=
  ⟨Nat.mod_lt _ (Nat.two_pow_pos 64), fun i => by rw [pg_part, decide_eq_true (Nat.zero_le i), Bool.true_and]⟩
theorem low_end {x p b : Nat} (hb : b ≤ 64) (h : lowB x p b 0) : maL x (64 * (p + 1)) = maL x (64 * p + b) := by
  have := ma_skip x (64 * p + b) (64 - b) fun j h1 h2 => by
    have k := h.l2 (j - 64 * p)
    rw [Nat.zero_testBit, decide_eq_true (by omega : b ≤ j - 64 * p), decide_eq_true (by omega : j - 64 * p < 64), Bool.true_and, Bool.true_and, show 64 * p + (j - 64 * p) = j by omega] at k
    exact k.symm
  rw [← this]
  congr 1
  omega
structure lowT (v t : Nat) : Prop where
  t1 : t < 64
  t2 : ∀ j, j < t → v.testBit j = false
  t3 : v.testBit t = true
  t4 : ∀ j, (v &&& (v - 1)).testBit j = (v.testBit j && decide (j ≠ t))
  t5 : (v &&& (v - 1)) < v
theorem low_ctz {v : Nat} (h0 : v ≠ 0) (h : v < 18446744073709551616) : lowT v (Lib.ctz 64 v) := by
  have h64 : v < 2 ^ 64 := h
  obtain ⟨m, hm, ht⟩ := Lib.ctzFrom_spec 64 v (by omega) h64
  have e : Lib.ctz 64 v = Lib.ctzFrom 64 v := by unfold Lib.ctz; rw [if_neg h0]
  rw [e]
  generalize Lib.ctzFrom 64 v = t at hm ht
  have hp : 0 < 2 ^ t := Nat.two_pow_pos t
  have b2 : ∀ j, j < t → v.testBit j = false := fun j hj => by
    rw [hm, Nat.testBit_two_pow_mul, decide_eq_false (by omega), Bool.false_and]
  have b3 : v.testBit t = true := by
    rw [hm, Nat.testBit_two_pow_mul, decide_eq_true (Nat.le_refl t), Bool.true_and, Nat.sub_self, Nat.testBit_zero]
    rw [decide_eq_true_eq]; omega
  have e1 : v - 1 = 2 ^ t * (2 * m) + (2 ^ t - 1) := by
    rw [hm, Nat.mul_add, Nat.mul_one]; omega
  have c1 : ∀ j, t ≤ j → (v - 1).testBit j = (2 * m).testBit (j - t) := fun j hj => by
    rw [e1, Nat.testBit_two_pow_mul_add _ (by omega), if_neg (by omega)]
  have b4 : ∀ j, (v &&& (v - 1)).testBit j = (v.testBit j && decide (j ≠ t)) := fun j => by
    rw [Nat.testBit_and]
    rcases Nat.lt_trichotomy j t with hj | hj | hj
    · rw [b2 j hj, Bool.false_and, Bool.false_and]
    · subst hj
      rw [c1 j (Nat.le_refl j), Nat.sub_self, Nat.testBit_zero, decide_eq_false (by omega), decide_eq_false (by simp)]
    · rw [decide_eq_true (by omega : j ≠ t), Bool.and_true, c1 j (by omega), hm, Nat.testBit_two_pow_mul, decide_eq_true (by omega), Bool.true_and]
      obtain ⟨i, hi⟩ : ∃ i, j - t = i + 1 := ⟨j - t - 1, by omega⟩
      rw [hi, Nat.testBit_succ, Nat.testBit_succ, show (2 * m + 1) / 2 = m by omega, show 2 * m / 2 = m by omega, Bool.and_self]
  refine ⟨ht, b2, b3, b4, ?_⟩
  have h1 : v &&& (v - 1) ≤ v - 1 := Nat.and_le_right
  omega
theorem low_step {x p b v : Nat} (h : lowB x p b v) (h0 : v ≠ 0) :
    Lib.ctz 64 v < 64 ∧ b ≤ Lib.ctz 64 v ∧ maL x (64 * p + (Lib.ctz 64 v + 1)) = maL x (64 * p + b) ++ [64 * p + Lib.ctz 64 v] ∧ lowB x p (Lib.ctz 64 v + 1) (v &&& (v - 1)) ∧ (v &&& (v - 1)) < v ∧ (maL x (64 * p + b)).length ≤ 64 * p + b := by
  have k := low_ctz h0 h.l1
  generalize Lib.ctz 64 v = t at k
  have k3 := h.l2 t
  rw [k.t3] at k3
  have k3 := k3.symm
  rw [Bool.and_eq_true, Bool.and_eq_true, decide_eq_true_eq, decide_eq_true_eq] at k3
  refine ⟨k.t1, k3.1, ?_, ⟨?_, fun i => ?_⟩, k.t5, ma_le x _⟩
  · rw [← Nat.add_assoc, ma_succ, if_pos k3.2.2]
    congr 1
    have := ma_skip x (64 * p + b) (t - b) fun j h1 h2 => by
      have q := h.l2 (j - 64 * p)
      rw [k.t2 _ (by omega), decide_eq_true (by omega : b ≤ j - 64 * p), decide_eq_true (by have := k.t1; omega : j - 64 * p < 64), Bool.true_and, Bool.true_and, show 64 * p + (j - 64 * p) = j by omega] at q
      exact q.symm
    rw [← this]
    congr 1
    have := k3.1
    omega
  · have := k.t5; have := h.l1; omega
  · rw [k.t4, h.l2]
    rcases Nat.lt_trichotomy i t with hi | hi | hi
    · have q := h.l2 i
      rw [k.t2 i hi] at q
      rw [← q, Bool.false_and, decide_eq_false (by omega), Bool.false_and]
    · subst hi
      rw [decide_eq_false (by simp : ¬ i ≠ i), Bool.and_false, decide_eq_false (by omega), Bool.false_and]
    · rw [decide_eq_true (by omega : i ≠ t), Bool.and_true, decide_eq_true (by have := k3.1; omega : b ≤ i), decide_eq_true (by omega : t + 1 ≤ i)]
theorem low_and {v : Nat} (h0 : v ≠ 0) (h : v < 18446744073709551616) : IntKind.u64.wrap ((BitVec.ofInt 64 (v : Int) &&& BitVec.ofInt 64 (IntKind.u64.wrap ((v : Int) - 1))).toNat : Int) = ((v &&& (v - 1) : Nat) : Int) := by
  have e : IntKind.u64.wrap ((v : Int) - 1) = ((v - 1 : Nat) : Int) := by rw [IntKind.wrap_u64]; omega
  have hv : v < 2 ^ 64 := h
  have hv1 : v - 1 < 2 ^ 64 := by omega
  rw [e, BitVec.toNat_and, BitVec.ofInt_natCast, BitVec.ofInt_natCast, BitVec.toNat_ofNat, BitVec.toNat_ofNat, Nat.mod_eq_of_lt hv, Nat.mod_eq_of_lt hv1]
  have h1 : v &&& (v - 1) ≤ v - 1 := Nat.and_le_right
  rw [IntKind.wrap_u64]; omega
end Go.Proofs.YtggpnmbfjnmfdaaDoor
end

section
namespace Go.Proofs.YtggpnmbfjnmfdaaDoor
open Go Go.Sx Go.RowKit
set_option maxRecDepth 100000
theorem okx_Rn : CxOK Tryd.prog cxRn := okx_cons card_tz okx_nil
theorem inR_ok : InlOK Tryd.prog cxRn.gl inR := inlX_ok okx_Rn (sl := []) oks_nil (drawOK_ok okx_Rn) [] 4 8
theorem inR0_ok : InlOK Tryd.prog Cx.none.gl inR0 := inlX_ok okx_none (sl := []) oks_nil (drawOK_ok okx_none) [] 4 8
theorem mkC_eq : mkC = .seq mkR0 (.block 0 (.loop (.seq mkR1 (.seq (.cond (.tmp 7) .skip (.exit 0)) (.seq (.block 1 (.seq mkR2 (.block 2 (.loop (.seq (.seq mkR3 (.cond (.tmp 11) .skip (.exit 2))) (.block 3 (.seq (.seq (.region 4 ops4 false) (.cond (.tmp 19) .ret .skip)) mkR5))))))) mkR6))))) := by kernel_rfl
theorem mk_body : Tryd.f8.body = some mkC := by kernel_rfl
theorem op_get {ops : Array Oper} {i : Nat} {g : Option (Nat × Bool)} {d : Option Tmp} {x : Op} (h : (ops[i]?).isSome = true) (h1 : ((ops[i]?).get h).guard = g) (h2 : ((ops[i]?).get h).dst = d) (h3 : ((ops[i]?).get h).op = x) : ∃ o, ops[i]? = some o ∧ o.guard = g ∧ o.dst = d ∧ o.op = x :=
  ⟨(ops[i]?).get h, (Option.some_get h).symm, h1, h2, h3⟩
theorem o4_6 : ∃ o, ops4[6]? = some o ∧ o.guard = none ∧ o.dst = some 18 ∧ o.op = .call { callee := .value (.tmp 12), args := #[.tmp 17], argTypes := #[3] } := op_get (by kernel_rfl) (by kernel_rfl) (by kernel_rfl) (by kernel_rfl)
def isDef : Op → Bool
  | .defer _ => true
  | _ => false
theorem noDef_ok {l : List Oper} (h : (l.all fun o => !isDef o.op) = true) : ∀ o ∈ l, ∀ c, o.op ≠ .defer c := by
  intro o ho c e
  have := List.all_eq_true.1 h o ho
  rw [e] at this
  cases this
theorem flA (l x p : Nat) : flatS (lA l x p) := by
  intro q hq
  simp only [lA, List.mem_cons, List.not_mem_nil, or_false] at hq
  rcases hq with rfl | rfl | rfl
  · exact trivial
  · exact bnd_pg _
  · exact trivial
theorem flA7 (l x p : Nat) : flatS (lA7 l x p) := by
  intro q hq
  simp only [lA7, List.mem_cons, List.not_mem_nil, or_false] at hq
  rcases hq with rfl | rfl | rfl | rfl
  · exact trivial
  · exact bnd_pg _
  · exact trivial
  · exact trivial
theorem flC (l x p v : Nat) : flatS (lC l x p v) := by
  intro q hq
  simp only [lC, List.mem_cons, List.not_mem_nil, or_false] at hq
  rcases hq with rfl | rfl | rfl | rfl | rfl
  · exact trivial
  · exact trivial
  · exact trivial
  · exact bnd_pg _
  · exact trivial
theorem flC11 (l x p v : Nat) : flatS (lC11 l x p v) := by
  intro q hq
  simp only [lC11, List.mem_cons, List.not_mem_nil, or_false] at hq
  rcases hq with rfl | rfl | rfl | rfl | rfl | rfl
  · exact trivial
  · exact trivial
  · exact trivial
  · exact bnd_pg _
  · exact trivial
  · exact trivial
theorem flE (l x p v k : Nat) : flatS (lE l x p v k) := by
  intro q hq
  simp only [lE, List.mem_cons, List.not_mem_nil, or_false] at hq
  rcases hq with rfl | rfl | rfl | rfl | rfl | rfl | rfl
  · exact trivial
  · exact trivial
  · exact trivial
  · exact bnd_pg _
  · exact trivial
  · exact trivial
  · exact trivial
theorem flE19 (l x p v : Nat) (b : Bool) : flatS (lE19 l x p v b) := by
  intro q hq
  simp only [lE19, List.mem_cons, List.not_mem_nil, or_false] at hq
  rcases hq with rfl | rfl | rfl | rfl | rfl | rfl
  · exact trivial
  · exact trivial
  · exact trivial
  · exact bnd_pg _
  · exact trivial
  · exact trivial
theorem q_0 (l x : Nat) (b : Addr) : rnS mkR0 (slots0 [yv l, pxA b x] 25) (toQ (lA l x 0)) := by
  rw [pm_0]
  exact ⟨rfl, rfl, ⟨lim_ok _ _, lim_ok _ _, lim_ok _ _, lim_ok _ _, by rw [join_limbs, Nat.mod_mod], trivial⟩, rfl, trivial⟩
theorem q_1 (l x p : Nat) : rnS mkR1 (slotsAt 25 (lA l x p)) (toQ (lA7 l x p)) := by
  rw [pm_1]
  exact ⟨rfl, rfl, rfl, rfl, rfl, trivial⟩
theorem q_2 (l x p : Nat) (hp : p < 4) : rnS mkR2 (slotsAt 25 (lA l x p)) (toQ (lC l x p (x / 2 ^ (64 * p) % 2 ^ 64))) := by
  rw [pm_2]
  exact ⟨⟨by omega, by omega⟩, rfl, rfl, rfl, by rw [Int.toNat_natCast]; rfl, rfl, rfl, trivial⟩
theorem q_3 (l x p v : Nat) : rnS mkR3 (slotsAt 25 (lC l x p v)) (toQ (lC11 l x p v)) := by
  rw [pm_3]
  refine ⟨rfl, rfl, rfl, rfl, rfl, rfl, ?_, trivial⟩
  rw [Bool.eq_iff_iff, bne_iff_ne, decide_eq_true_eq]; omega
theorem q_4 (l x p v : Nat) (hp : p < 4) (hv : v < 18446744073709551616) (ht : Lib.ctz 64 v < 64) : rnL 0 (ops4.toList.take 6) (slotsAt 25 (lC l x p v)) (toL (lE l x p v (64 * p + Lib.ctz 64 v))) := by
  rw [pm_4]
  refine ⟨⟨by omega, by omega⟩, rfl, rfl, rfl, rfl, rfl, rfl, ?_, trivial⟩
  rw [Int.toNat_natCast]
  generalize Lib.ctz 64 v = t at ht
  rw [IntKind.wrap_i64, IntKind.wrap_i64]; omega
theorem q_5 (l x p v : Nat) (b : Bool) : rnL0 7 (ops4.toList.drop 7) (slotsAt 25 (lE18 l x p v b)) (toL (lE19 l x p v (!b))) := by
  rw [pm_5]
  exact ⟨rfl, rfl, rfl, rfl, rfl, rfl, trivial⟩
theorem q_6 (l x p v : Nat) (h0 : v ≠ 0) (hv : v < 18446744073709551616) : rnS mkR5 (slotsAt 25 (lC l x p v)) (toQ (lC l x p (v &&& (v - 1)))) := by
  rw [pm_6]
  exact ⟨rfl, rfl, rfl, low_and h0 hv, rfl, rfl, trivial⟩
theorem q_7 (l x p v : Nat) (hp : p < 4) : rnS mkR6 (slotsAt 25 (lC l x p v)) (toQ (lA l x (p + 1))) := by
  rw [pm_7]
  refine ⟨rfl, rfl, rfl, ?_, trivial⟩
  rw [IntKind.wrap_i64]; omega
end Go.Proofs.YtggpnmbfjnmfdaaDoor
end

section
namespace Go.Proofs.YtggpnmbfjnmfdaaDoor
open Go Go.Sx Go.RowKit
set_option maxRecDepth 100000
def natAt (a : Act) (t : Nat) : Nat := match a.tmps.getD t undef with
  | .int _ n => n.toNat
  | _ => 0
theorem nat_at {gl : Globs} {fz : Nat → Nat → Value → Prop} {n : Nat} {l : List (Nat × SV)} {a : Act} {w : World} (H : St gl fz n l a w) {t : Nat} {k : IntKind} {v : Nat} (h : (slotsAt n l).getD t .any = .one (sI k (v : Int))) : natAt a t = v := by
  have := H.eval h (v := .int k v) (fun _ => rfl)
  have e : a.tmps.getD t undef = .int k v := this
  unfold natAt
  rw [e]; rfl
def fzB (n : Nat) (w0 : World) : Nat → Nat → Value → Prop := fun b o v => b < n ∧ w0.cell? ⟨b, o, none⟩ = some v
def KpN (n : Nat) (w w' : World) : Prop := ∀ k, k < n → w'.heap[k]? = w.heap[k]?
theorem fzB_below {n : Nat} {w0 w w' : World} (h : FzOK (fzB n w0) w) (hb : KpN n w w') : FzOK (fzB n w0) w' := fun b o v hv => (World.cell?_of_block (hb b hv.1)).trans (h b o v hv)
theorem grown_of {w w' : World} (h : Below w.heap.size w w') : w.grownBy w' none := ⟨h.os, h.tape, h.output, h.size, fun k hk _ => h.block k hk⟩
theorem abide {β : Type} {B : Nat} {J : β → World → Prop} (hJ : AbidesFrom B J) {s : β} {w w' : World} (h : J s w) (hb : Below w.heap.size w w') : J s w' := hJ s w w' none h (grown_of hb) (fun r e => by cases e)
section
variable {n : Nat} {w0 : World}
theorem st_tell {m : Nat} {Q : Exit → Act → World → Prop} (hQ0 : ¬ LetsOut Q) {l x p v : Nat} {a : Act} {w : World} (H : St glZ (fzB n w0) 25 (lC l x p v) a w) (hp : p < 4) (hv : v < 18446744073709551616) (ht : Lib.ctz 64 v < 64)
    {J Jx : World → Prop} {R : World → Ending → World → Prop} (hy : ∀ w1, Below w.heap.size w w1 → YieldAt Fence.wide (m - 1) Tryd.prog l #[.int .i64 ((64 * p + Lib.ctz 64 v : Nat) : Int)] w1 (R w1))
    (hR : ∀ e w1 w2, Below w.heap.size w w1 → R w1 e w2 → (e = .returned (.bool true) ∧ J w2 ∧ KpN n w1 w2) ∨ (e = .returned (.bool false) ∧ Jx w2))
    (hJ : ∀ a' w2 w', J w2 → Below w2.heap.size w2 w' → St glZ (fzB n w0) 25 (lE19 l x p v false) a' w' → Q .normal a' w')
    (hJx : ∀ a' w2 w', Jx w2 → Below w2.heap.size w2 w' → a'.defers = [] → a'.eval (.tmp 19) = .bool true → Q .normal a' w') :
    (Code.region 4 ops4 false).wpIn Fence.wide m Tryd.prog Q a w := by
  refine wpIn_region_list ?_
  obtain ⟨o6, i6, g6, d6, x6⟩ := o4_6
  have hl : ops4.toList = ops4.toList.take 6 ++ (o6 :: ops4.toList.drop 7) := by
    have h6 : ops4.toList[6]? = some o6 := by rw [Array.getElem?_toList]; exact i6
    obtain ⟨hlt, e6⟩ := List.getElem?_eq_some_iff.1 h6
    rw [← e6, List.getElem_cons_drop hlt, List.take_append_drop]
  rw [hl]
  refine listIn_append (F := wideR none) ?_
  refine St.list okx_Rn inR_ok (r := none) H (q_4 l x p v hp hv ht) (flE _ _ _ _ _) (by rfl) (noDef_ok (by kernel_rfl)) (fun ⟨a, w, h⟩ => hQ0 ⟨a, w, h⟩) fun a1 w1 H1 hb1 => ?_
  show wpListIn (wideR none) m Tryd.prog ops4 Q (o6 :: ops4.toList.drop 7) a1 w1
  have e12 : a1.eval (.tmp 12) = .func (.yield l) #[] #[] := H1.eval rfl (fun _ => rfl)
  have e17 : a1.eval (.tmp 17) = .int .i64 ((64 * p + Lib.ctz 64 v : Nat) : Int) := H1.eval rfl (fun _ => rfl)
  have hsz : a1.tmps.size = 25 := H1.choose_spec.size
  have hdf : a1.defers = [] := H1.choose_spec.defers
  obtain ⟨fn, tmps, assign, body, hrun, hround⟩ := hy w1 hb1
  unfold wpListIn
  have hw : Region.wanted o6 (yielded ops4 a1.tmps) = true := by simp only [Region.wanted, g6]
  rw [if_pos hw]
  refine ⟨fun f _ => trivial, ?_⟩
  have hex : (o6.semAt (wideR none).round a1.eval).run Tryd.prog w1 = .ok (.round l fn tmps assign body) w1 := by
    show (execOp a1.eval o6).run Tryd.prog w1 = _
    unfold execOp
    simp only [x6, resolve, e12, e17, Sem.run_bind, Sem.run_pure, Result.andThen_ok, invoke, List.map_toArray, List.map_cons, List.map_nil, Array.append_empty, Array.empty_append]
    exact hrun
  rw [hex]
  refine ⟨fun h => (by cases h), RoundIn.mono hround fun e w2 hr => ?_⟩
  have put18 : ∀ b : Bool, ∀ {gl : Globs} {fz : Nat → Nat → Value → Prop}, St gl fz 25 (lE l x p v (64 * p + Lib.ctz 64 v)) a1 w2 → St gl fz 25 (lE18 l x p v b) (a1.put o6.dst (.bool b)) w2 := fun b {gl fz} H => by
    obtain ⟨pos, H⟩ := H
    have H2 := H.put o6.dst (sv := .one (sB b)) (v := .bool b) rfl trivial
    rw [d6] at H2 ⊢
    exact ⟨pos, (H2.weaken (kn := 0) (tm' := slotsAt 25 (lE18 l x p v b)) (ob' := []) (Nat.le_refl _) (Nat.zero_le _) ⟨rfl, rfl, rfl, rfl, rfl, rfl, trivial⟩ trivial (by rfl)).1⟩
  have step : ∀ b : Bool, (∀ a' w', Below w2.heap.size w2 w' → a'.defers = [] → St [] (fun _ _ _ => False) 25 (lE19 l x p v (!b)) a' w' → Q .normal a' w') → wpListIn (wideR none) m Tryd.prog ops4 Q (ops4.toList.drop 7) (a1.put o6.dst (.bool b)) w2 := fun b hb => by
    have H0 : St [] (fun _ _ _ => False) 25 (lE l x p v (64 * p + Lib.ctz 64 v)) a1 w2 := H1.move (flE _ _ _ _ _) (fun _ _ _ h => h.elim) (fun p hp => by cases hp)
    refine St.list okx_none inR0_ok (r := none) (put18 b H0) (q_5 l x p v b) (flE19 _ _ _ _ _) (by rfl) (noDef_ok (by kernel_rfl)) hQ0 fun a' w' H' hb' => ?_
    exact hb a' w' hb' H'.choose_spec.defers H'
  rcases hR e w1 w2 hb1 hr with ⟨rfl, hj, hbn⟩ | ⟨rfl, hj⟩
  · refine step true fun a' w' hb' _ H' => ?_
    refine hJ a' w2 w' hj hb' (H'.move (flE19 _ _ _ _ _) (fz_keep (fzB_below H1.fz hbn) hb') H.gl)
  · refine step false fun a' w' hb' hd' H' => ?_
    exact hJx a' w2 w' hj hb' hd' (H'.eval rfl (fun _ => rfl))
end
end Go.Proofs.YtggpnmbfjnmfdaaDoor
end

section
namespace Go.Proofs.YtggpnmbfjnmfdaaDoor
open Go Go.Sx Go.RowKit
set_option maxRecDepth 100000
theorem globs_mono {gl : Globs} {fz fz' : Nat → Nat → Value → Prop} (h : GlobsOK gl fz) (hf : ∀ b o v, fz b o v → fz' b o v) : GlobsOK gl fz' := fun p hp =>
  ⟨fun k hk => SK.bnd_mono (n := ⟨fun _ => False, fz⟩) (m := ⟨fun _ => False, fz'⟩) ⟨fun _ h => h, hf⟩ ((h p hp).1 k hk), fun o v hv => hf _ _ _ ((h p hp).2 o v hv)⟩
theorem rf_start {gl : Globs} {args : List SA} {n : Nat} {ρ : Rho} {w : World} (hz : FzOK ρ.fz w) (hg : GlobsOK gl ρ.fz) (hargs : ∀ x ∈ args, x.bnd ⟨fun _ => False, ρ.fz⟩) : Holds ⟨w, [], ρ, gl, noKeep⟩ ρ (slots0 args n) [] { tmps := (args.map (SA.conc ρ)).toArray ++ Array.replicate (n - (args.map (SA.conc ρ)).toArray.size) undef, defers := [] } w := by
  have get : ∀ t : Nat, (slots0 args n).getD t .any = match args[t]? with | some x => .one x | none => .any := by
    intro t
    simp only [slots0, List.getD_eq_getElem?_getD, List.getElem?_append, List.length_map, List.getElem?_map]
    by_cases ht : t < args.length
    · simp [ht]
    · simp only [ht, if_false, List.getElem?_replicate, List.getElem?_eq_none (Nat.le_of_not_lt ht)]
      split <;> rfl
  refine ⟨by simp [slots0], fun t => ?_, fun t => ?_, rfl, Below.refl _ _, Mem.start hz, ⟨fun i hi => .inl ⟨hi, rfl⟩, fun i hi => hi, Nat.le_refl _⟩, hg, ⟨fun _ _ _ h => h, fun _ _ _ h => .inl ⟨_, _, h⟩⟩, Keeps.none _ _ _⟩
  · rw [get t]
    cases ht : args[t]? with
    | none => trivial
    | some x =>
      obtain ⟨hlt, rfl⟩ := List.getElem?_eq_some_iff.1 ht
      simp [SV.rep, Array.getElem?_append, hlt]
  · rw [get t]
    cases ht : args[t]? with
    | none => trivial
    | some x => exact SA.bnd_mono (n := ⟨fun _ => False, ρ.fz⟩) (m := lv ρ []) ⟨fun _ k => k.elim, fun _ _ _ k => k⟩ (hargs x (List.mem_of_getElem? ht))
section
variable {n : Nat} {w0 : World}
theorem mk_ends (R : Ending → World → Prop) {a : Act} {w : World} {e : Exit} (he : e = .normal ∨ e = .ret) (hd : a.defers = []) (_ : ∃ v, R (.returned v) w → True) (hR : ∀ v, R (.returned v) w) : bodyPost Tryd.prog Tryd.f8 R e a w := by
  have hr : (results Tryd.f8 a.tmps).run Tryd.prog w = .ok (.tuple #[]) w := by
    have h0 : Tryd.f8.results = #[] := by kernel_rfl
    simp [results, h0]
  rcases he with rfl | rfl
  · exact ⟨hd, _, hr, hR _⟩
  · exact ⟨hd, _, hr, hR _⟩
theorem marks_seq (x : Nat) {wr : World} (hwr : Below n w0 wr) (hn : n ≤ wr.heap.size) (hg : GlobsOK glZ (fzB n w0)) (b : Addr) (hb : b.spot = none) (hc : ∀ c, c < 4 → wr.cell? ⟨b.block, b.off + c, none⟩ = some (.int .u64 (limb x c))) (m : Nat) :
    SeqStopsK Fence.wide m Tryd.prog 8 #[.pointer (some b)] (fun k : Nat => #[.int .i64 (k : Int)]) (KpN n) (fun xs => xs = maL x 256) (fun _ => True) 256 wr := by
  intro l J Jx W hW hJ hJx hy h0
  obtain ⟨R, hR⟩ : ∃ R : Ending → World → Prop, R = fun e W' => (∃ v, e = .returned v) ∧ ((∃ xs, xs = maL x 256 ∧ J xs W') ∨ (∃ pre, True ∧ Jx pre W')) := ⟨_, rfl⟩
  show CallsIn Fence.wide m Tryd.prog _ _ W (fun e W' => (∃ v, e = .returned v) ∧ ((∃ xs, xs = maL x 256 ∧ J xs W') ∨ (∃ pre, True ∧ Jx pre W')))
  rw [← hR]
  have hout : ∀ w, ¬ R .outgrown w := fun w h => by rw [hR] at h; obtain ⟨⟨v, hv⟩, _⟩ := h; cases hv
  have hend : ∀ v w, J (maL x 256) w → R (.returned v) w := fun v w h => by rw [hR]; exact ⟨⟨v, rfl⟩, .inl ⟨_, rfl, h⟩⟩
  have hstop : ∀ v pre w, Jx pre w → R (.returned v) w := fun v pre w h => by rw [hR]; exact ⟨⟨v, rfl⟩, .inr ⟨pre, trivial, h⟩⟩
  clear hR
  have hz : FzOK (fzB n w0) W := fun b' o v hv => (World.cell?_of_block ((hwr.trans (hW.mono hn)).block b' hv.1)).trans hv.2
  have hlt : ∀ c, c < 4 → b.block < wr.heap.size := fun c h4 => World.block_lt_of_cell? wr ⟨b.block, b.off + c, none⟩ (hc c h4)
  refine callsIn_of_wp Tryd.func8 mk_body trivial ?_
  have hpx : ∀ z ∈ [yv l, pxA b x], z.bnd ⟨fun _ => False, (Rho.mk (fun _ => 0) fun b o v => W.cell? ⟨b, o, none⟩ = some v).fz⟩ := by
    intro z hz'
    simp only [List.mem_cons, List.not_mem_nil, or_false] at hz'
    rcases hz' with rfl | rfl
    · exact trivial
    · exact ⟨hb, fun c h4 => ⟨trivial, rfl, (World.cell?_of_block (a := ⟨b.block, b.off + c, none⟩) (hW.block b.block (hlt c h4))).trans (hc c h4)⟩⟩
  have H0 := rf_start (gl := glZ) (n := 25) (ρ := Rho.mk (fun _ => 0) fun b o v => W.cell? ⟨b, o, none⟩ = some v) (w := W) (fun _ _ _ h => h) (globs_mono hg hz) hpx
  have e0 : ({ tmps := (List.map (SA.conc (Rho.mk (fun _ => 0) fun b o v => W.cell? ⟨b, o, none⟩ = some v)) [yv l, pxA b x]).toArray ++ Array.replicate (25 - (List.map (SA.conc (Rho.mk (fun _ => 0) fun b o v => W.cell? ⟨b, o, none⟩ = some v)) [yv l, pxA b x]).toArray.size) undef, defers := [] } : Act) = { tmps := (#[Value.func (.yield l) #[] #[]] ++ #[Value.pointer (some b)]) ++ Array.replicate (Tryd.f8.ntmps - (#[Value.func (.yield l) #[] #[]] ++ #[Value.pointer (some b)]).size) undef, defers := [] } := rfl
  rw [e0] at H0
  rw [mkC_eq]
  refine wpIn_seq (wpIn_wide.2 (sx_sound okx_Rn ⟨rfl, Nat.zero_le _⟩ inR_ok (drawOK_ok okx_Rn) rfl mkR0 H0 (q_0 l x b) fun e ρ tm ob a1 w1 H1 hk => ?_))
  obtain ⟨rfl, hk⟩ := hk
  have S1 : St glZ (fzB n w0) 25 (lA l x 0) a1 w1 := ⟨_, ((H1.weaken (kn := 0) (ob' := []) (Nat.le_refl _) (Nat.zero_le _) hk (by cases ob <;> trivial) (by rfl)).1).again (flA _ _ _) (fz_keep hz H1.below) hg⟩
  have J1 : J (maL x (64 * 0)) w1 := abide hJ h0 H1.below
  have B1 : W.heap.size ≤ w1.heap.size := H1.below.size
  clear H1 hk H0 e0 hpx
  show (Code.block 0 _).wpIn Fence.wide m Tryd.prog (bodyPost Tryd.prog Tryd.f8 R) a1 w1
  refine wpIn_block (wpIn_loop (fun a w => ∃ p, p ≤ 4 ∧ St glZ (fzB n w0) 25 (lA l x p) a w ∧ J (maL x (64 * p)) w) (fun a _ => 4 - natAt a 6) ⟨0, by omega, S1, J1⟩ fun a w hI => ?_)
  obtain ⟨p, hp, H, hj⟩ := hI
  have hmu : natAt a 6 = p := nat_at H rfl
  refine wpIn_seq (St.code okx_Rn rfl inR_ok H (q_1 l x p) (flA7 _ _ _) (by rfl) fun a2 w2 H2 b2 => ?_)
  have hj2 := abide hJ hj b2
  have ev7 : a2.eval (.tmp 7) = .bool (decide ((p : Int) < 4)) := H2.eval rfl (fun _ => rfl)
  refine wpIn_seq (wpIn_cond_split ev7 (fun h4 => wpIn_skip ?_) (fun h4 => wpIn_exit ?_))
  rotate_left
  · -- all parts are told
    have h4 := of_decide_eq_false h4
    have : p = 4 := by omega
    subst this
    show bodyPost Tryd.prog Tryd.f8 R .normal a2 w2
    exact mk_ends R (.inl rfl) H2.choose_spec.defers ⟨undef, fun _ => trivial⟩ fun v => hend v w2 hj2
  · have h4 := of_decide_eq_true h4
    have hp4 : p < 4 := by omega
    have H2 : St glZ (fzB n w0) 25 (lA l x p) a2 w2 := by
      obtain ⟨pos, H2⟩ := H2
      exact ⟨pos, (H2.weaken (kn := 0) (tm' := slotsAt 25 (lA l x p)) (ob' := []) (Nat.le_refl _) (Nat.zero_le _) ⟨rfl, rfl, rfl, trivial⟩ trivial (by rfl)).1⟩
    refine wpIn_seq (wpIn_block (wpIn_seq (St.code okx_Rn rfl inR_ok H2 (q_2 l x p hp4) (flC _ _ _ _) (by rfl) fun a3 w3 H3 b3 => ?_)))
    have hj3 := abide hJ hj2 b3
    refine wpIn_block (wpIn_loop (fun a w => ∃ v b, b ≤ 64 ∧ lowB x p b v ∧ St glZ (fzB n w0) 25 (lC l x p v) a w ∧ J (maL x (64 * p + b)) w) (fun a _ => natAt a 4) ⟨_, 0, by omega, low_0 x p, H3, hj3⟩ fun a w hI => ?_)
    clear H3 hj3 H2 hj2 H hj ev7 b3 b2 S1 J1
    obtain ⟨v, b', hb', hlow, H, hj⟩ := hI
    have hmu4 : natAt a 4 = v := nat_at H rfl
    refine wpIn_seq (wpIn_seq (St.code okx_Rn rfl inR_ok H (q_3 l x p v) (flC11 _ _ _ _) (by rfl) fun a4 w4 H4 b4 => ?_))
    have hj4 := abide hJ hj b4
    have ev11 : a4.eval (.tmp 11) = .bool (decide (v ≠ 0)) := H4.eval rfl (fun _ => rfl)
    have H4 : St glZ (fzB n w0) 25 (lC l x p v) a4 w4 := by
      obtain ⟨pos, H4⟩ := H4
      exact ⟨pos, (H4.weaken (kn := 0) (tm' := slotsAt 25 (lC l x p v)) (ob' := []) (Nat.le_refl _) (Nat.zero_le _) ⟨rfl, rfl, rfl, rfl, rfl, trivial⟩ trivial (by rfl)).1⟩
    refine wpIn_cond_split ev11 (fun hv => wpIn_skip ?_) (fun hv => wpIn_exit ?_)
    rotate_left
    · -- this part is told
      have hv := of_decide_eq_false hv
      have hv : v = 0 := Decidable.not_not.1 hv
      subst hv
      show mkR6.wpIn Fence.wide m Tryd.prog _ a4 w4
      refine St.code okx_Rn rfl inR_ok H4 (q_7 l x p 0 hp4) (flA _ _ _) (by rfl) fun a5 w5 H5 b5 => ?_
      have hj5 := abide hJ hj4 b5
      rw [← low_end hb' hlow] at hj5
      have : natAt a5 6 = p + 1 := nat_at H5 rfl
      exact ⟨⟨p + 1, by omega, H5, hj5⟩, by rw [this, hmu]; omega⟩
    · have hv : v ≠ 0 := of_decide_eq_true hv
      obtain ⟨t1, t2, t3, t4, t5, t6⟩ := low_step hlow hv
      show (Code.block 3 _).wpIn Fence.wide m Tryd.prog _ a4 w4
      refine wpIn_block (wpIn_seq (wpIn_seq ?_))
      refine st_tell (fun ⟨a, w, h⟩ => hout w h) H4 hp4 hlow.l1 t1 (J := J (maL x (64 * p + b') ++ [64 * p + Lib.ctz 64 v])) (Jx := Jx (maL x (64 * p + b') ++ [64 * p + Lib.ctz 64 v]))
        (fun w5 b5 => hy (maL x (64 * p + b')) (64 * p + Lib.ctz 64 v) w5 (abide hJ hj4 b5) (by omega)) (fun e w1 w2 _ h => h) (fun a5 w5 w6 hj5 b6 H6 => ?_) (fun a5 w5 w6 hj5 b6 hd hev => ?_)
      · have hj6 := abide hJ hj5 b6
        rw [← t3] at hj6
        have ev19 : a5.eval (.tmp 19) = .bool false := H6.eval rfl (fun _ => rfl)
        have H6 : St glZ (fzB n w0) 25 (lC l x p v) a5 w6 := by
          obtain ⟨pos, H6⟩ := H6
          exact ⟨pos, (H6.weaken (kn := 0) (tm' := slotsAt 25 (lC l x p v)) (ob' := []) (Nat.le_refl _) (Nat.zero_le _) ⟨rfl, rfl, rfl, rfl, rfl, trivial⟩ trivial (by rfl)).1⟩
        refine wpIn_cond_false ev19 (wpIn_skip ?_)
        show mkR5.wpIn Fence.wide m Tryd.prog _ a5 w6
        refine St.code okx_Rn rfl inR_ok H6 (q_6 l x p v hv hlow.l1) (flC _ _ _ _) (by rfl) fun a7 w7 H7 b7 => ?_
        have : natAt a7 4 = v &&& (v - 1) := nat_at H7 rfl
        exact ⟨⟨_, _, by omega, t4, H7, abide hJ hj6 b7⟩, by rw [this, hmu4]; exact t5⟩
      · refine wpIn_cond_true hev (wpIn_ret ?_)
        exact mk_ends R (.inr rfl) hd ⟨undef, fun _ => trivial⟩ fun v => hstop v _ w6 (abide hJx hj5 b6)
end
end Go.Proofs.YtggpnmbfjnmfdaaDoor
end

section
namespace Go.Proofs.YtggpnmbfjnmfdaaDoor
open Go Go.Sx Go.RowKit
set_option maxRecDepth 100000
def rfA : Code → Code
  | .rangeFunc _ _ a _ => a
  | c => c
def rfB : Code → Code
  | .rangeFunc _ _ _ b => b
  | c => c
noncomputable def alC : Code := Tryd.f4.body.getD .skip
noncomputable def alR0 : Code := seqA alC
noncomputable def alR1 : Code := seqA (seqB alC)
noncomputable def alX : Code := seqA (seqB (seqB alC))
noncomputable def alR2 : Code := seqA alX
noncomputable def alF : Code := inn (seqB alX)
noncomputable def alR5 : Code := seqA (seqB (seqB (seqB alC)))
noncomputable def ops3a : Array Oper := opsOf (rfA alF)
noncomputable def ops4a : Array Oper := opsOf (inn (rfB alF))
noncomputable def ops5a : Array Oper := opsOf alR5
noncomputable def inA : Inl := inlX Tryd.prog Cx.none [] drawOK [] 10 8
noncomputable def rnA (c : Code) (tm : List SV) (ob : List SO) (K : Exit → List SV → List SO → Prop) : Prop := sx Tryd.prog Cx.none inA drawOK [] 10 0 0 c tm ob K
def toO (T : List (Nat × SV)) (O : List SO) : Exit → List SV → List SO → Prop := fun e tm' ob' => e = .normal ∧ Ok (weakT tm' (slotsAt 13 T)) ∧ Ok (weakO 0 ob' O)
def pgO (x : Nat) : SO := .cells 29 [.u x] 0
def slO (s : SC) : SO := .cells 24 [.c s] 0
def nilS : SC := .val (.slice none 0 0)
theorem al_0 (x : Nat) :
    rnA alR0 (slots0 [sU x] 13) [] (toO [(1, .one (.sc (.ptr 0 0)))] [pgO x]) =
    (let x1 : Nat := x % M256; Go.Exit.normal = Go.Exit.normal ∧ True ∧ x1 = x1 ∧ 0 = 0 ∧ True) := by kernel_rfl
theorem al_1 (x : Nat) :
    rnA alR1 (slotsAt 13 [(1, .one (.sc (.ptr 0 0)))]) [pgO x] (toO [(1, .one (.sc (.ptr 0 0))), (3, .one (.sc (.ptr 1 0)))] [pgO x, slO nilS]) =
    (let x1 : Nat := x % M256; Go.Exit.normal = Go.Exit.normal ∧ True ∧ x1 = x1 ∧ 0 = 0 ∧ Go.Value.slice Option.none 0 0 = Go.Value.slice Option.none 0 0 ∧ 0 = 0 ∧ True) := by kernel_rfl
theorem al_2 (x : Nat) :
    rnA alR2 (slotsAt 13 [(1, .one (.sc (.ptr 0 0))), (3, .one (.sc (.ptr 1 0)))]) [pgO x, slO nilS] (toO [(3, .one (.sc (.ptr 1 0))), (6, .one (.sc (.fn 8 [.p 2 0])))] [pgO x, slO nilS, pgO x]) =
    (let x1 : Nat := x % M256; Go.Exit.normal = Go.Exit.normal ∧ ((8 = 8 ∧ [PV.p 2 0] = [PV.p 2 0]) ∧ True) ∧ x1 = x1 ∧ 0 = 0 ∧ Go.Value.slice Option.none 0 0 = Go.Value.slice Option.none 0 0 ∧ 0 = 0 ∧ x1 = x1 ∧ 0 = 0 ∧ True) := by kernel_rfl
end Go.Proofs.YtggpnmbfjnmfdaaDoor
end

section
namespace Go.Proofs.YtggpnmbfjnmfdaaDoor
open Go Go.Sx Go.RowKit
set_option maxRecDepth 100000
theorem alC_eq : alC = .seq alR0 (.seq alR1 (.seq (.seq alR2 (.block 0 (.rangeFunc (.tmp 6) #[7] (.region 3 ops3a false) (.block 1 (.region 4 ops4a false))))) (.seq (.region 5 ops5a false) .ret))) := by kernel_rfl
theorem al_body : Tryd.f4.body = some alC := by kernel_rfl
theorem toList_1 {α : Type} {l : Array α} (hs : l.size = 1) {x : α} (h : l[0]? = some x) : l.toList = [x] := by
  obtain ⟨l⟩ := l
  match l, hs with
  | [y], _ => simp at h; rw [h]
theorem toList_2 {α : Type} {l : Array α} (hs : l.size = 2) {x y : α} (h : l[0]? = some x) (h1 : l[1]? = some y) : l.toList = [x, y] := by
  obtain ⟨l⟩ := l
  match l, hs with
  | [a, b], _ => simp at h h1; rw [h, h1]
theorem toList_5 {α : Type} {l : Array α} (hs : l.size = 5) {x0 x1 x2 x3 x4 : α} (h0 : l[0]? = some x0) (h1 : l[1]? = some x1) (h2 : l[2]? = some x2) (h3 : l[3]? = some x3) (h4 : l[4]? = some x4) : l.toList = [x0, x1, x2, x3, x4] := by
  obtain ⟨l⟩ := l
  match l, hs with
  | [a, b, c, d, e], _ => simp at h0 h1 h2 h3 h4; rw [h0, h1, h2, h3, h4]
theorem o3a0 : ∃ o, ops3a[0]? = some o ∧ o.guard = none ∧ o.dst = some 4 ∧ o.op = .assign (.tmp 7) := op_get (by kernel_rfl) (by kernel_rfl) (by kernel_rfl) (by kernel_rfl)
theorem o4a0 : ∃ o, ops4a[0]? = some o ∧ o.guard = none ∧ o.dst = some 8 ∧ o.op = .load 24 (.tmp 3) := op_get (by kernel_rfl) (by kernel_rfl) (by kernel_rfl) (by kernel_rfl)
theorem o4a1 : ∃ o, ops4a[1]? = some o ∧ o.guard = none ∧ o.dst = some 9 ∧ o.op = .move (.tmp 4) := op_get (by kernel_rfl) (by kernel_rfl) (by kernel_rfl) (by kernel_rfl)
theorem o4a2 : ∃ o, ops4a[2]? = some o ∧ o.guard = none ∧ o.dst = some 10 ∧ o.op = .buildSlice 24 1 #[(0, .tmp 9)] := op_get (by kernel_rfl) (by kernel_rfl) (by kernel_rfl) (by kernel_rfl)
theorem o4a3 : ∃ o, ops4a[3]? = some o ∧ o.guard = none ∧ o.dst = some 11 ∧ o.op = .call { callee := .builtin .append, args := #[.tmp 8, .tmp 10], argTypes := #[24, 24] } := op_get (by kernel_rfl) (by kernel_rfl) (by kernel_rfl) (by kernel_rfl)
theorem o4a4 : ∃ o, ops4a[4]? = some o ∧ o.guard = none ∧ o.dst = none ∧ o.op = .store 24 (.tmp 3) (.tmp 11) := op_get (by kernel_rfl) (by kernel_rfl) (by kernel_rfl) (by kernel_rfl)
theorem o5a0 : ∃ o, ops5a[0]? = some o ∧ o.guard = none ∧ o.dst = some 12 ∧ o.op = .load 24 (.tmp 3) := op_get (by kernel_rfl) (by kernel_rfl) (by kernel_rfl) (by kernel_rfl)
theorem o5a1 : ∃ o, ops5a[1]? = some o ∧ o.guard = none ∧ o.dst = some 2 ∧ o.op = .assign (.tmp 12) := op_get (by kernel_rfl) (by kernel_rfl) (by kernel_rfl) (by kernel_rfl)
theorem ev_no {a : Act} {d e : Nat} {v : Value} (h : d ≠ e) : (a.put (some d) v).eval (.tmp e) = a.eval (.tmp e) :=
  Act.eval_put fun d' hd' => by
    cases hd'
    intro e'
    cases e'
    exact h rfl
theorem ev_at {a : Act} {d : Nat} {v : Value} (h : d < a.tmps.size) : (a.put (some d) v).eval (.tmp d) = v := by
  show (a.tmps.setIfInBounds d v).getD d undef = v
  simp [h]
theorem sz_put {a : Act} {d : Nat} {v : Value} : (a.put (some d) v).tmps.size = a.tmps.size := by
  show (a.tmps.setIfInBounds d v).size = _
  simp
theorem in_val {r : Option Nat} {n : Nat} {P : Program} {ops : Array Oper} {Q : Exit → Act → World → Prop} {o : Oper} {rest : List Oper} {a : Act} {w w' : World} {v : Value} (hg : o.guard = none) (hd : ∀ c, o.op ≠ .defer c)
    (h : (execOp a.eval o).run P w = .ok (.value v) w') (hk : wpListIn (wideR r) n P ops Q rest (a.put o.dst v) w') : wpListIn (wideR r) n P ops Q (o :: rest) a w := by
  refine wpListIn_plain hg fun K hK => ⟨fun f _ => trivial, ?_⟩
  rw [Oper.semAt_eq _ _ _ hd, h]
  exact hK _ _ hk
theorem in_skip {r : Option Nat} {n : Nat} {P : Program} {ops : Array Oper} {Q : Exit → Act → World → Prop} {o : Oper} {rest : List Oper} {a : Act} {w w' : World} (hg : o.guard = none) (hd : ∀ c, o.op ≠ .defer c)
    (h : (execOp a.eval o).run P w = .ok .skip w') (hk : wpListIn (wideR r) n P ops Q rest (a.put o.dst undef) w') : wpListIn (wideR r) n P ops Q (o :: rest) a w := by
  refine wpListIn_plain hg fun K hK => ⟨fun f _ => trivial, ?_⟩
  rw [Oper.semAt_eq _ _ _ hd, h]
  exact hK _ _ hk
theorem und_ints : Tryd.prog.underlying 24 = some (.slice 3) := by kernel_rfl
theorem info_int : (Tryd.prog.info? 3).map (fun i => (i.zero, i.size, i.bytes)) = some (some (.int .i64 0), 1, 8) := by kernel_rfl
theorem load_box {W : World} {B : Nat} {v : Value} (h : Boxed W B 24 v) {a : Act} {x : Operand} (hx : a.eval x = .pointer (some ⟨B, 0, none⟩)) {o : Oper} (ho : o.op = .load 24 x) : (execOp a.eval o).run Tryd.prog W = .ok (.value v) W := by
  have hc := h.cell
  unfold execOp
  simp only [ho, hx, Instr.loadAt, Instr.sureAddr, Sem.run_bind, Sem.run_pure, Result.andThen_ok]
  have : (loadVar 24 ⟨B, 0, none⟩).run Tryd.prog W = .ok v W := by
    simp [loadVar, isAgg, run_underlying und_ints, Sem.run_bind, Result.andThen, run_load, hc]
  rw [this]; rfl
theorem set_one {w : World} {g : Nat} {old v : Value} {t : TypeId} {fr : Nat × Nat} (h : w.heap[g]? = some (.cells #[old] t fr)) : w.setRow g #[v] = w.setCell ⟨g, 0, none⟩ v := by
  unfold World.setRow World.setCell
  congr 1
  apply Array.ext_getElem?
  intro i
  simp only [Array.getElem?_modify]
  split
  · rename_i e
    subst e
    rw [h]; rfl
  · rfl
def kV (k : Nat) : Value := .int .i64 (k : Int)
def alI (n B : Nat) (w : World) (pre : List Nat) (W : World) : Prop := (∃ v, Boxed W B 24 v ∧ W.ownsRow n 3 1 v pre.length (pre.map kV) ∧ True) ∧ Below n w W
theorem al_own {n B C : Nat} {w : World} (hn : n ≤ w.heap.size) (hC : n ≤ C) : OwnFrom C (alI n B w) :=
  (holdsRow_own n B 24 3 1 (fun pre : List Nat => pre.length) (fun pre => pre.map kV) (fun _ _ => True)).from C |>.and (ownFrom_below hn hC)
theorem fill_one (k : Nat) : Instr.fill (fun i => some (i * 1, 1)) ((Array.range (1 * 1)).map ((Value.int .i64 0).cells[· % (Value.int .i64 0).cells.size]!)) #[(0, kV k)].toList = some #[kV k] := by kernel_rfl
theorem al_round {n B m L : Nat} {w : World} {pre : List Nat} {k : Nat} {W : World} {a : Act} (hn : n = w.heap.size) (hB : n ≤ B) (hI : alI n B w pre W) (hlen : pre.length < 256) (h3 : a.eval (.tmp 3) = .pointer (some ⟨B, 0, none⟩)) (h4 : a.eval (.tmp 4) = kV k) (hsz : a.tmps.size = 13) :
    (Code.block 1 (.region 4 ops4a false)).wpIn (Fence.wide.inRound L) m Tryd.prog (ownPostK (KpN n) (alI n B w) (fun _ _ _ => False) (pre ++ [k]) W) a W := by
  obtain ⟨⟨v, hb, hrow, _⟩, hbl⟩ := hI
  have hnW : n ≤ W.heap.size := by rw [hn]; exact hbl.size
  have hMax : maxLen = 9223372036854775807 := rfl
  refine wpIn_block (wpIn_region_list ?_)
  obtain ⟨o0, i0, g0, d0, x0⟩ := o4a0
  obtain ⟨o1, i1, g1, d1, x1⟩ := o4a1
  obtain ⟨o2, i2, g2, d2, x2⟩ := o4a2
  obtain ⟨o3, i3, g3, d3, x3⟩ := o4a3
  obtain ⟨o4, i4, g4, d4, x4⟩ := o4a4
  rw [toList_5 (by kernel_rfl) i0 i1 i2 i3 i4]
  show wpListIn (wideR (some L)) m Tryd.prog ops4a _ [o0, o1, o2, o3, o4] a W
  refine in_val g0 (by rw [x0]; intro c h; cases h) (load_box hb h3 x0) ?_
  rw [d0]
  refine in_val (v := kV k) (w' := W) g1 (by rw [x1]; intro c h; cases h) (by unfold execOp; simp only [x1]; rw [ev_no (by decide), h4]; rfl) ?_
  rw [d1]
  have b9 : ((a.put (some 8) v).put (some 9) (kV k)).eval (.tmp 9) = kV k := ev_at (by rw [sz_put, hsz]; decide)
  obtain ⟨ie, hie, hi⟩ : ∃ ie, Tryd.prog.info? 3 = some ie ∧ (ie.zero = some (.int .i64 0) ∧ ie.size = 1 ∧ ie.bytes = 8) := by
    have := info_int
    cases h : Tryd.prog.info? 3 with
    | none => rw [h] at this; cases this
    | some ie =>
      rw [h] at this
      simp only [Option.map_some, Option.some.injEq, Prod.mk.injEq] at this
      exact ⟨ie, rfl, this⟩
  refine in_val (v := .slice (some ⟨W.heap.size, 0, none⟩) 1 1) (w' := W.alloc (.cells #[kV k] 3)) g2 (by rw [x2]; intro c h; cases h) ?_ ?_
  · unfold execOp
    simp only [x2, Sem.run_bind, List.map_toArray, List.map_cons, List.map_nil, b9]
    rw [run_buildSlice W 24 3 1 #[(0, kV k)] #[kV k] ie (.int .i64 0) und_ints hie hi.1 (by rw [hi.2.1]; decide) (by rw [hi.2.1]; decide) (by rw [hi.2.1]; exact fill_one k)]
    rfl
  rw [d2]
  refine wpListIn_append_own (F := wideR (some L)) (W.alloc (.cells #[kV k] 3)) g3 (.tmp 8) (.tmp 10) 24 x3 n 3 ie (.int .i64 0) 1 8 und_ints hie hi.1 hi.2.1 hi.2.2 rfl (by decide)
    v pre.length (pre.map kV) ?_ (hrow.alloc _) ⟨W.heap.size, 0, none⟩ 1 1 [kV k] ?_ rfl ?_ ?_ (by omega) (by omega) (by simp; omega) ?_
  · rw [ev_no (by decide), ev_no (by decide)]
    exact ev_at (by rw [hsz]; decide)
  · exact ev_at (by rw [sz_put, sz_put, hsz]; decide)
  · intro j u hu
    match j, hu with
    | 0, hu =>
      simp only [List.getElem?_cons_zero, Option.some.injEq] at hu
      subst hu
      show (W.alloc (.cells #[kV k] 3)).cell? ⟨W.heap.size, 0, none⟩ = _
      unfold World.cell?
      have e : (W.alloc (.cells #[kV k] 3)).heap[W.heap.size]? = some (.cells #[kV k] 3) := World.alloc_heap_new W _
      simp only [e]; rfl
    | j + 1, hu => simp at hu
  · intro u hu
    rw [List.mem_singleton.1 hu]; rfl
  · intro v' w1 hown hgrow _
    obtain ⟨k1, k2, k3, k4, k5⟩ := hb.appended (by decide) hrow hnW hB hown hgrow
    rw [d3]
    have e3 : ((((a.put (some 8) v).put (some 9) (kV k)).put (some 10) (.slice (some ⟨W.heap.size, 0, none⟩) 1 1)).put (some 11) v').eval (.tmp 3) = .pointer (some ⟨B, 0, none⟩) := by
      rw [ev_no (by decide), ev_no (by decide), ev_no (by decide), ev_no (by decide), h3]
    have e11 : ((((a.put (some 8) v).put (some 9) (kV k)).put (some 10) (.slice (some ⟨W.heap.size, 0, none⟩) 1 1)).put (some 11) v').eval (.tmp 11) = v' := ev_at (by rw [sz_put, sz_put, sz_put, hsz]; decide)
    have one : v'.oneCell' = true := by
      rcases hown.2 with ⟨rfl, _⟩ | ⟨g, cap, cur, rfl, _⟩ <;> rfl
    have hinfo : (Tryd.prog.info? 24).map (·.size) = some 1 := by kernel_rfl
    refine in_skip (w' := w1.setCell ⟨B, 0, none⟩ v') g4 (by rw [x4]; intro c h; cases h) ?_ ?_
    · unfold execOp
      simp only [x4, e3, e11, Instr.storeAt, Instr.sureAddr, Sem.run_bind, Sem.run_pure, Result.andThen_ok, run_storeVar_one w1 B 24 24 v v' k1 hinfo one, set_one k1]
    · rw [d4]
      refine ⟨k4, fun i hi => k5.block i hi, ⟨⟨v', k2, ?_, trivial⟩, hbl.trans k5⟩⟩
      rw [List.length_append, List.map_append]
      exact k3
end Go.Proofs.YtggpnmbfjnmfdaaDoor
end

section
namespace Go.Proofs.YtggpnmbfjnmfdaaDoor
open Go Go.Sx Go.RowKit
set_option maxRecDepth 100000
theorem inA_ok : InlOK Tryd.prog Cx.none.gl inA := inlX_ok okx_none (sl := []) oks_nil (drawOK_ok okx_none) [] 10 8
theorem r_0 (x : Nat) : rnA alR0 (slots0 [sU x] 13) [] (toO [(1, .one (.sc (.ptr 0 0)))] [pgO x]) := by rw [al_0]; exact ⟨rfl, trivial, rfl, rfl, trivial⟩
theorem r_1 (x : Nat) : rnA alR1 (slotsAt 13 [(1, .one (.sc (.ptr 0 0)))]) [pgO x] (toO [(1, .one (.sc (.ptr 0 0))), (3, .one (.sc (.ptr 1 0)))] [pgO x, slO nilS]) := by rw [al_1]; exact ⟨rfl, trivial, rfl, rfl, rfl, rfl, trivial⟩
theorem r_2 (x : Nat) : rnA alR2 (slotsAt 13 [(1, .one (.sc (.ptr 0 0))), (3, .one (.sc (.ptr 1 0)))]) [pgO x, slO nilS] (toO [(3, .one (.sc (.ptr 1 0))), (6, .one (.sc (.fn 8 [.p 2 0])))] [pgO x, slO nilS, pgO x]) := by rw [al_2]; exact ⟨rfl, ⟨⟨rfl, rfl⟩, trivial⟩, rfl, rfl, rfl, rfl, rfl, rfl, trivial⟩
def F0 : Nat → Nat → Value → Prop := fun _ _ _ => False
theorem al_told {n : Nat} {W : World} {x : Nat} {far : Nat → Prop} (hfar : ∀ b, n ≤ b → far b) {v : Value} (hrow : W.ownsRow n 3 1 v (maL x 256).length ((maL x 256).map kV)) : RS.isL W far [.s (maN x) .i64 (maF x)] [v] := by
  refine ⟨?_, trivial⟩
  rcases hrow.2 with ⟨rfl, h0⟩ | ⟨g, cap, cur, rfl, hbase, hcells, hle, hcap, hsz, hcur⟩
  · have h0 : maN x = 0 := h0
    exact ⟨none, 0, by rw [h0], fun _ => ⟨h0, rfl⟩, by rw [h0]; exact Nat.le_refl 0, fun b e => by cases e⟩
  · refine ⟨some ⟨g, 0, none⟩, cap, rfl, fun e => (by cases e), hle, fun b e => ?_⟩
    cases e
    refine ⟨fun _ => rfl, fun i hi => ⟨hfar _ hbase, ?_⟩⟩
    have hi : i < (maL x 256).length := hi
    show W.cell? ⟨g, 0 + i, none⟩ = _
    unfold World.cell?
    simp only [hcells, Option.isSome_none, Bool.false_eq_true, if_false, Nat.zero_add]
    have e1 : (cur.toList.take ((maL x 256).length * 1))[i]? = ((maL x 256).map kV)[i]? := by rw [hcur]
    rw [List.getElem?_take, if_pos (by omega), List.getElem?_map, List.getElem?_eq_getElem hi, Option.map_some] at e1
    rw [← Array.getElem?_toList, e1]
    unfold maF kV
    rw [List.getD_eq_getElem?_getD, List.getElem?_eq_getElem hi, Option.getD_some]
theorem zip_one (tm : Array Value) (v : Value) : (((#[7] : Array Tmp).zip #[v]).foldl (fun t (p, v) => t.setIfInBounds p v) tm) = tm.setIfInBounds 7 v := by kernel_rfl
theorem al_res {a : Act} {v : Value} {W : World} (h : a.tmps.getD 2 undef = v) : (results Tryd.f4 a.tmps).run Tryd.prog W = .ok v W := by
  have h0 : Tryd.f4.results = #[.tmp 2] := by kernel_rfl
  rw [← h]
  simp [results, h0]
theorem card_all : FnOKs Tryd.prog glZ 4 cMa := by
  intro args ps rs hs hp ρ w hz hg _
  unfold cMa specQ0 at hs
  simp only at hs
  split at hs
  case h_2 => cases hs
  rename_i q ls ha
  simp only [Option.some.injEq, Prod.mk.injEq] at hs
  obtain ⟨rfl, rfl⟩ := hs
  obtain ⟨o1, o3⟩ := Ok.append.1 hp
  have hc := (asQs_sound ha).1 o1 ρ
  rw [hc]
  unfold maC at o3
  split at o3
  case h_2 => exact o3.1.elim
  rename_i x
  show (callFunc 4 ([sU x].map (SA.conc ρ)).toArray).run Tryd.prog w = .ok (.enter 4 ([sU x].map (SA.conc ρ)).toArray) w ∧ Calls Tryd.prog 4 ([sU x].map (SA.conc ρ)).toArray w _
  refine ⟨run_callFunc_enter Tryd.func4 (by kernel_rfl) (by kernel_rfl) _ w, ?_⟩
  obtain ⟨R, hR⟩ : ∃ R : Ending → World → Prop, R = fun e w' => ∃ vs, e = .returned (valL vs) ∧ RS.isL w' (fun b => w.heap.size ≤ b ∨ (cMa.share = true ∧ ∃ o u, ρ.fz b o u)) [.s (maN x) .i64 (maF x)] vs ∧ Below w.heap.size w w' := ⟨_, rfl⟩
  show Calls Tryd.prog 4 ([sU x].map (SA.conc ρ)).toArray w fun e w' => ∃ vs, e = .returned (valL vs) ∧ RS.isL w' (fun b => w.heap.size ≤ b ∨ (cMa.share = true ∧ ∃ o u, ρ.fz b o u)) [.s (maN x) .i64 (maF x)] vs ∧ Below w.heap.size w w'
  rw [← hR]
  refine callsIn_wide (n := 4).1 (callsIn_of_wp_marks Tryd.func4 al_body trivial ?_)
  have ec : ([sU x].map (SA.conc ρ)) = [sU x].map (SA.conc ⟨fun _ => 0, F0⟩) := rfl
  have H0 := rf_start (gl := []) (args := [sU x]) (n := 13) (ρ := ⟨fun _ => 0, F0⟩) (w := w) (fun _ _ _ h => h.elim) (fun p h => (by cases h)) (by
    intro z hz'
    rw [List.mem_singleton.1 hz']
    exact bnd_pg _)
  have e0 : ({ tmps := (List.map (SA.conc ⟨fun _ => 0, F0⟩) [sU x]).toArray ++ Array.replicate (13 - (List.map (SA.conc ⟨fun _ => 0, F0⟩) [sU x]).toArray.size) undef, defers := [] } : Act) = { tmps := (List.map (SA.conc ρ) [sU x]).toArray ++ Array.replicate (Tryd.f4.ntmps - (List.map (SA.conc ρ) [sU x]).toArray.size) undef, defers := [] } := rfl
  rw [e0] at H0
  rw [alC_eq]
  refine wpIn_seq (wpIn_wide.2 (sx_sound okx_none ⟨rfl, Nat.zero_le _⟩ inA_ok (drawOK_ok okx_none) rfl alR0 H0 (r_0 x) fun e ρ1 tm ob a1 w1 H1 hk => ?_))
  obtain ⟨rfl, ht, ho⟩ := hk
  have H1 := (H1.weaken (kn := 0) (Nat.le_refl _) (Nat.zero_le _) ht ho (by rfl)).1
  refine wpIn_seq (wpIn_wide.2 (sx_sound okx_none ⟨rfl, Nat.zero_le _⟩ inA_ok (drawOK_ok okx_none) rfl alR1 H1 (r_1 x) fun e ρ2 tm2 ob2 a2 w2 H2 hk => ?_))
  obtain ⟨rfl, ht2, ho2⟩ := hk
  have H2 := (H2.weaken (kn := 0) (Nat.le_refl _) (Nat.zero_le _) ht2 ho2 (by rfl)).1
  refine wpIn_seq (wpIn_seq (wpIn_wide.2 (sx_sound okx_none ⟨rfl, Nat.zero_le _⟩ inA_ok (drawOK_ok okx_none) rfl alR2 H2 (r_2 x) fun e ρ3 tm3 ob3 a3 w3 H3 hk => ?_)))
  obtain ⟨rfl, ht3, ho3⟩ := hk
  have H3 := (H3.weaken (kn := 0) (Nat.le_refl _) (Nat.zero_le _) ht3 ho3 (by rfl)).1
  clear H0 H1 H2 ht ho ht2 ho2 ht3 ho3 e0
  have B3 : Below w.heap.size w w3 := H3.below
  have s3 : a3.tmps.size = 13 := H3.size
  have d3 : a3.defers = [] := H3.defers
  have v3 : a3.eval (.tmp 3) = .pointer (some ⟨ρ3 1, 0, none⟩) := H3.rep 3
  have v6 : a3.eval (.tmp 6) = .func (.func 8) #[] #[.pointer (some ⟨ρ3 2, 0, none⟩)] := H3.rep 6
  obtain ⟨hB1, ⟨rest1, hr1, hm1⟩, _⟩ := H3.mem.obj 1 _ _ _ rfl
  obtain ⟨hB2, ⟨rest2, hr2, hm2⟩, _⟩ := H3.mem.obj 2 _ _ _ rfl
  have hr1 : rest1 = [] := List.length_eq_zero_iff.1 hr1
  have hr2 : rest2 = [] := List.length_eq_zero_iff.1 hr2
  subst hr1 hr2
  have hbox : Boxed w3 (ρ3 1) 24 (.slice none 0 0) := hm1
  have hcell : ∀ c, c < 4 → w3.cell? ⟨ρ3 2, 0 + c, none⟩ = some (.int .u64 (limb x c)) := fun c hc4 => by
    unfold World.cell?
    simp only [hm2]
    match c, hc4 with
    | 0, _ => rfl
    | 1, _ => rfl
    | 2, _ => rfl
    | 3, _ => rfl
  have hgZ : GlobsOK glZ (fzB w.heap.size w) := globs_mono hg fun b o v hv => ⟨World.block_lt_of_cell? w ⟨b, o, none⟩ (hz b o v hv), hz b o v hv⟩
  have hs3 : w.heap.size ≤ w3.heap.size := B3.size
  clear H3 hm1 hm2
  obtain ⟨tm3', df3⟩ := a3
  have d3 : df3 = [] := d3
  subst d3
  have s3 : tm3'.size = 13 := s3
  refine wpIn_block (wpIn_rangeFunc_ownF rfl (by decide) v6 trivial (fun args w => run_callFunc_enter Tryd.func8 (by kernel_rfl) (by kernel_rfl) args w)
    (marks_seq (n := w.heap.size) (w0 := w) x (wr := w3) B3 hs3 hgZ ⟨ρ3 2, 0, none⟩ rfl hcell 3)
    (fun h k i hi => (k i hi).trans (h i hi)) (fun W l o o' hl h _ _ i hi => World.putObj_heap_other (by omega)) (Below.refl _ _) (fun _ => rfl)
    (alI w.heap.size (ρ3 1) w) (fun _ _ _ => False) (al_own (Nat.le_refl _) hs3) (fun _ _ _ _ _ h _ _ => h) ⟨⟨_, hbox, World.ownsRow_nil _ _ _ _, trivial⟩, B3⟩
    (fun k => { tmps := (tm3'.setIfInBounds 7 (kV k)).setIfInBounds 4 (kV k), defers := [] }) ?_ ?_ ?_ ?_)
  · -- the variable
    intro l k W K hK
    obtain ⟨o, i0, g0, d0, x0⟩ := o3a0
    refine wpIn_region_list ?_
    rw [toList_1 (by kernel_rfl) i0, zip_one]
    refine in_val (r := some l) (v := kV k) (w' := W) g0 (by rw [x0]; intro c h; cases h) ?_ ?_
    · unfold execOp
      simp only [x0]
      have : Act.eval { tmps := tm3'.setIfInBounds 7 (.int .i64 (k : Int)), defers := [] } (.tmp 7) = kV k := by
        show (tm3'.setIfInBounds 7 (kV k)).getD 7 undef = kV k
        simp [s3]
      exact congrArg (fun v => (pure (Next.value v) : Sem Next).run Tryd.prog W) this
    · rw [d0]
      exact hK
  · -- a round
    intro l pre k W hI hlen
    refine al_round rfl hB1 hI hlen ?_ ?_ ?_
    · show ((tm3'.setIfInBounds 7 (kV k)).setIfInBounds 4 (kV k)).getD 3 undef = _
      have : tm3'.getD 3 undef = .pointer (some ⟨ρ3 1, 0, none⟩) := v3
      simpa using this
    · show ((tm3'.setIfInBounds 7 (kV k)).setIfInBounds 4 (kV k)).getD 4 undef = _
      simp [s3]
    · show ((tm3'.setIfInBounds 7 (kV k)).setIfInBounds 4 (kV k)).size = 13
      simp [s3]
  · -- behind it
    intro D xs W hD hxs hI hdef
    subst hxs
    obtain ⟨⟨v, hb, hrow, _⟩, hbl⟩ := hI
    show (Code.seq (.region 5 ops5a false) .ret).wpIn Fence.wide 4 Tryd.prog _ _ W
    obtain ⟨o0, i0, g0, d0, x0⟩ := o5a0
    obtain ⟨o1, i1, g1, d1, x1⟩ := o5a1
    refine wpIn_seq (wpIn_region_list ?_)
    rw [toList_2 (by kernel_rfl) i0 i1]
    refine in_val (r := none) g0 (by rw [x0]; intro c h; cases h) (load_box hb v3 x0) ?_
    rw [d0]
    refine in_val (r := none) (v := v) (w' := W) g1 (by rw [x1]; intro c h; cases h) ?_ ?_
    · unfold execOp
      simp only [x1]
      exact congrArg (fun v => (pure (Next.value v) : Sem Next).run Tryd.prog W) (ev_at (by rw [show (({ tmps := tm3', defers := [{ target := .collected D, args := #[] }] } : Act).tmps) = tm3' from rfl, s3]; decide))
    rw [d1]
    show Code.ret.wpIn Fence.wide 4 Tryd.prog _ _ W
    refine wpIn_ret ?_
    show LeavesInM Fence.wide 4 Tryd.prog Tryd.f4 _ R [{ target := .collected D, args := #[] }] .returning W
    refine ⟨by simp, .inl ⟨D, _, rfl, run_takeDeferred hdef, v, al_res ?_, ?_⟩⟩
    · show ((tm3'.setIfInBounds 12 v).setIfInBounds 2 v).getD 2 undef = v
      simp [s3]
    · rw [hR]
      have hrow2 := ownsRow_putObj hrow (.deferred none) hdef rfl
      refine ⟨[v], rfl, al_told (n := w.heap.size) (fun b hb => .inl hb) hrow2, hbl.trans ?_⟩
      exact belowK_b (w := w3) hs3 W D _ _ hD hdef rfl rfl
  · intro D c pre W _ _ h
    exact h.elim
end Go.Proofs.YtggpnmbfjnmfdaaDoor
end

section
namespace Go.Proofs.YtggpnmbfjnmfdaaDoor
open Go Go.Sx Go.RowKit
set_option maxRecDepth 100000
def msI (x m : Nat) (f : Nat → Int) (N : Nat → Nat) : Inv where
  X := Nat × Option Addr × Nat
  tm y := slotsAt 57 [(1, .one (.sc (.ptr 0 0))), (3, .one (xsI y.2.1 m y.2.2 .i64 f)), (4, .one (sI .i64 (N y.1 : Int))), (11, .one (sI .i64 (y.1 : Int)))]
  ob _ := [.cells 23 [.u x] 0]
  holds y := y.1 ≤ 256
  less y := 256 - y.1
def slMs : List (Nat × SSpec) := [(4, cMa), (5, cHa)]
def cxMs : Cx := ⟨[(1000000014, fun _ => none)], glZ, 0, []⟩
theorem vc_lma (x : Nat) (N : Nat → Nat) :
    OwesV Tryd.prog cxMs slMs [(4, .inv (msI x (maN x) (maF x) N))] 20 Tryd.f3 [sU x] yes =
    (let x1 : Prop := ∀ (i : Nat), i < maN x → allC 1 fun (_ : Nat) => simC (SC.val (Go.Value.int Go.IntKind.i64 (maF x i))) (SC.val (Go.Value.int Go.IntKind.i64 (maF x i))); let x2 : Nat := x % M256; let x3 : Bool := (1 : Int) == (1 : Int); ∀ (a : Option Go.Addr) (cap : Nat), (a = Option.none → maN x = 0 ∧ cap = 0) → maN x ≤ cap → (∀ (y : Nat × Option Go.Addr × Nat), closedB (slotsAt 57 [(1, SV.one (SA.sc (SC.ptr 0 0))), (3, SV.one (xsI y.snd.fst (maN x) y.snd.snd Go.IntKind.i64 (maF x))), (4, SV.one (sI Go.IntKind.i64 (↑(N y.fst) : Int))), (11, SV.one (sI Go.IntKind.i64 (↑y.fst : Int)))]) [SO.cells (23 : Go.TypeId) [SK.u x] 0] = Bool.true) ∧ ∃ (y : Nat × Option Go.Addr × Nat), y.fst ≤ 256 ∧ (a = y.snd.fst ∧ maN x = maN x ∧ cap = y.snd.snd ∧ x1) ∧ (0 : Int) = (↑(N y.fst) : Int) ∧ (0 : Int) = (↑y.fst : Int) ∧ x2 = x2 ∧ 0 = 0 ∧ ∀ (y : Nat × Option Go.Addr × Nat), let x101 : Prop := (!Decidable.decide ((↑(N y.fst) : Int) ≥ (↑(maN x) : Int))) = Bool.true; y.fst ≤ 256 → (Decidable.decide ((↑y.fst : Int) < (256 : Int)) = Bool.true → ((haE (↑y.fst : Int) == (0 : Int)) = Bool.true → (haE (↑y.fst : Int) == (0 : Int)) = Bool.true) ∧ ((haE (↑y.fst : Int) == (0 : Int) && haB x (↑y.fst : Int)) = Bool.true → (x101 → x101) ∧ (x101 → x101) ∧ (x101 → (0 : Int) ≤ (↑(N y.fst) : Int) ∧ (↑(N y.fst) : Int) < (↑(maN x) : Int)) ∧ (x101 → x101) ∧ (x101 → x101) ∧ (x101 → x101) ∧ (Decidable.decide ((↑(N y.fst) : Int) ≥ (↑(maN x) : Int)) = Bool.false → x101) ∧ ((Decidable.decide ((↑(N y.fst) : Int) ≥ (↑(maN x) : Int)) || maF x (↑(N y.fst) : Int).toNat != (↑y.fst : Int)) = Bool.true → Bool.false = Bool.true) ∧ ((Decidable.decide ((↑(N y.fst) : Int) ≥ (↑(maN x) : Int)) || maF x (↑(N y.fst) : Int).toNat != (↑y.fst : Int)) = Bool.false → ∃ (y' : Nat × Option Go.Addr × Nat), y'.fst ≤ 256 ∧ (y.snd.fst = y'.snd.fst ∧ maN x = maN x ∧ y.snd.snd = y'.snd.snd ∧ x1) ∧ Go.IntKind.i64.wrap ((↑(N y.fst) : Int) + (1 : Int)) = (↑(N y'.fst) : Int) ∧ Go.IntKind.i64.wrap ((↑y.fst : Int) + (1 : Int)) = (↑y'.fst : Int) ∧ x2 = x2 ∧ 0 = 0 ∧ (256 - y'.fst).succ.le (256 - y.fst))) ∧ ((haE (↑y.fst : Int) == (0 : Int) && haB x (↑y.fst : Int)) = Bool.false → ∃ (y' : Nat × Option Go.Addr × Nat), y'.fst ≤ 256 ∧ (y.snd.fst = y'.snd.fst ∧ maN x = maN x ∧ y.snd.snd = y'.snd.snd ∧ x1) ∧ (↑(N y.fst) : Int) = (↑(N y'.fst) : Int) ∧ Go.IntKind.i64.wrap ((↑y.fst : Int) + (1 : Int)) = (↑y'.fst : Int) ∧ x2 = x2 ∧ 0 = 0 ∧ (256 - y'.fst).succ.le (256 - y.fst))) ∧ (Decidable.decide ((↑y.fst : Int) < (256 : Int)) = Bool.false → ∀ (a : Option Go.Addr) (cap : Nat), (a = Option.none → 1 = 0 ∧ cap = 0) → 1 ≤ cap → (((↑(N y.fst) : Int) == (↑(maN x) : Int)) = Bool.true → ((↑(N y.fst) : Int) == (↑(maN x) : Int)) = Bool.true) ∧ (((↑(N y.fst) : Int) == (↑(maN x) : Int)) = Bool.true → ((↑(N y.fst) : Int) == (↑(maN x) : Int)) = Bool.true) ∧ (((↑(N y.fst) : Int) == (↑(maN x) : Int)) = Bool.true → ((↑(N y.fst) : Int) == (↑(maN x) : Int)) = Bool.true) ∧ (((↑(N y.fst) : Int) == (↑(maN x) : Int) && x3) = Bool.true → ((↑(N y.fst) : Int) == (↑(maN x) : Int) && x3) = Bool.true) ∧ (((↑(N y.fst) : Int) == (↑(maN x) : Int) && x3) = Bool.true → (0 : Int) ≤ (0 : Int) ∧ (0 : Int) < (1 : Int)) ∧ (((↑(N y.fst) : Int) == (↑(maN x) : Int) && x3) = Bool.true → ((↑(N y.fst) : Int) == (↑(maN x) : Int) && x3) = Bool.true) ∧ (((↑(N y.fst) : Int) == (↑(maN x) : Int) && x3) = Bool.true → ((↑(N y.fst) : Int) == (↑(maN x) : Int) && x3) = Bool.true) ∧ (((↑(N y.fst) : Int) == (↑(maN x) : Int) && x3) = Bool.true → ((↑(N y.fst) : Int) == (↑(maN x) : Int) && x3) = Bool.true) ∧ ((↑(N y.fst) : Int) == (↑(maN x) : Int) && x3 && x3) = Bool.true)) := by kernel_rfl
end Go.Proofs.YtggpnmbfjnmfdaaDoor
end

section
namespace Go.Proofs.YtggpnmbfjnmfdaaDoor
open Go Go.Sx Go.RowKit
set_option maxRecDepth 100000
def NMk (x : Nat) : Nat → Nat := fun k => (maL x k).length
theorem ma_mono (x k m : Nat) (h : k ≤ m) : NMk x k ≤ NMk x m := by
  obtain ⟨r, hr⟩ := ma_pre x k (m - k)
  rw [show k + (m - k) = m by omega] at hr
  unfold NMk
  rw [hr, List.length_append]; omega
theorem okl_MarksAll (x : Nat) : OwesV Tryd.prog cxMs slMs [(4, .inv (msI x (maN x) (maF x) (NMk x)))] 20 Tryd.f3 [sU x] yes := by
  have hs : ∀ k, NMk x (k + 1) = NMk x k + if x.testBit k = true then 1 else 0 := ma_len x
  have ha : ∀ k : Nat, k < 256 → x.testBit k = true → maF x (NMk x k) = k := fun k => ma_at
  have hm : NMk x 256 = maN x := rfl
  have hmono : ∀ k m, k ≤ m → NMk x k ≤ NMk x m := ma_mono x
  have h0 : NMk x 0 = 0 := rfl
  have hle : maN x ≤ 256 := ma_le x 256
  generalize NMk x = N at hs ha hm hmono h0 ⊢
  rw [vc_lma]
  generalize maN x = m at hm hle ⊢
  generalize maF x = f at ha ⊢
  intro x1 x2 x3 a cap _ _
  have h1 : x1 := fun i _ => rfl
  have e3 : x3 = true := rfl
  clear_value x1 x2 x3
  subst e3
  refine ⟨fun _ => rfl, (0, a, cap), Nat.zero_le _, ⟨rfl, rfl, rfl, h1⟩, by rw [h0]; rfl, rfl, rfl, rfl, fun y => ?_⟩
  obtain ⟨i, b, c⟩ := y
  intro x101 hi
  have hi : i ≤ 256 := hi
  have e101 : x101 = ((!decide ((N i : Int) ≥ (m : Int))) = true) := rfl
  clear_value x101
  refine ⟨fun hd => ?_, fun hd => ?_⟩
  · have hd : (i : Int) < 256 := of_decide_eq_true hd
    have hlt : i < 256 := by omega
    have hin : inB (i : Int) = true := in_iff.2 ⟨by omega, by omega⟩
    have hE : haE (i : Int) = 0 := by unfold haE; rw [hin]; rfl
    have hB : haB x (i : Int) = x.testBit i := by unfold haB; rw [hin, Bool.true_and, Int.toNat_natCast]
    have hsi := hs i
    have hmi := hmono (i + 1) 256 (by omega)
    rw [hm] at hmi
    have hw : IntKind.i64.wrap ((i : Int) + 1) = ((i + 1 : Nat) : Int) := by rw [IntKind.wrap_i64]; omega
    show ((haE (i : Int) == 0) = true → (haE (i : Int) == 0) = true) ∧ ((haE (i : Int) == 0 && haB x (i : Int)) = true → _) ∧ ((haE (i : Int) == 0 && haB x (i : Int)) = false → _)
    rw [hE, hB]
    refine ⟨id, fun hb => ?_, fun hb => ?_⟩
    · have hb : x.testBit i = true := hb
      rw [if_pos hb] at hsi
      have hN : N i < m := by omega
      have hx : x101 := by rw [e101, decide_eq_false (by omega)]; rfl
      refine ⟨id, id, fun _ => ⟨by show (0 : Int) ≤ (N i : Int); omega, by show (N i : Int) < (m : Int); omega⟩, id, id, id, fun _ => hx, fun h => ?_, fun _ => ⟨(i + 1, b, c), by show i + 1 ≤ 256; omega, ⟨rfl, rfl, rfl, h1⟩, ?_, hw, rfl, rfl, by show 256 - (i + 1) < 256 - i; omega⟩⟩
      · have h : (decide ((N i : Int) ≥ (m : Int)) || f (N i) != (i : Int)) = true := h
        rw [decide_eq_false (by omega), Bool.false_or, ha i hlt hb] at h
        exact absurd rfl (bne_iff_ne.1 h)
      · show IntKind.i64.wrap ((N i : Int) + 1) = (N (i + 1) : Int)
        rw [IntKind.wrap_i64, hsi]; omega
    · have hb : x.testBit i = false := hb
      rw [if_neg (by rw [hb]; decide)] at hsi
      exact ⟨(i + 1, b, c), by show i + 1 ≤ 256; omega, ⟨rfl, rfl, rfl, h1⟩, by show (N i : Int) = (N (i + 1) : Int); rw [hsi]; rfl, hw, rfl, rfl, by show 256 - (i + 1) < 256 - i; omega⟩
  · have hd : ¬ (i : Int) < 256 := of_decide_eq_false hd
    have : i = 256 := by omega
    subst this
    intro _ _ _ _
    refine ⟨id, id, id, id, fun _ => ⟨by omega, by omega⟩, id, id, id, ?_⟩
    show ((N 256 : Int) == (m : Int) && true && true) = true
    rw [hm, beq_self_eq_true]; rfl
theorem oks_Ms : ∀ p ∈ slMs, FnOKs Tryd.prog cxMs.gl p.1 p.2 := oks_cons card_all (oks_cons card_ha oks_nil)
theorem okx_Ms : CxOK Tryd.prog cxMs := okx_mark okx_nil
end Go.Proofs.YtggpnmbfjnmfdaaDoor
end

section
namespace Go.Sx
open Go.RowKit Go.ChangeShapes Go.WideShapes
section
variable {H : Type} {enc : TypeId × Value → H} {P : Program} {w : World} {base : Nat} {sp : Nat → Bool} {held : Bool}
end
theorem calls_of_owesV {P : Program} {cx : Cx} (hcx : CxOK P cx) {sl : List (Nat × SSpec)} (hsl : ∀ p ∈ sl, FnOKs P cx.gl p.1 p.2) {iv : List (Nat × Hint)} {N : Nat} {f : FuncId} {fn : Func} (hf : P.funcs[f]? = some fn) (hb : fn.body.isSome = true) {args : List SA} {out : SV}
    (h : OwesV P cx sl iv N fn args out) (ρ : Rho) (w : World) (hz : FzOK ρ.fz w) (hg : GlobsOK cx.gl ρ.fz) (hargs : ∀ x ∈ args, x.bnd ⟨fun _ => False, ρ.fz⟩) :
    Calls P f (args.map (SA.conc ρ)).toArray w fun e w' => ∃ v, e = .returned v ∧ (∃ ρ', out.rep ρ' v) ∧ Below w.heap.size w w' := by
  unfold OwesV at h
  refine (calls_of_owesS hcx hsl hf hb h ρ w hz hg hargs).mono ?_
  rintro e w' ⟨v, rfl, hbl, sv, ob', ρ', hp, hr, _⟩
  exact ⟨v, rfl, ⟨ρ', same_sound hp ρ' v hr⟩, hbl⟩
end Go.Sx
end

section
namespace Go.Proofs.YtggpnmbfjnmfdaaDoor
open Go.ChangeShapes Go.WideShapes Go.ChangeAt Go.RowKit Go.Sx
theorem prog_three : Tryd.prog.mayEnter = true ∧ Tryd.prog.liftsFinal = Rows.marksAllRow.lifted ∧ Tryd.prog.make = some Rows.marksAllRow.make := ⟨by kernel_rfl, by kernel_rfl, by kernel_rfl⟩
theorem own_none : ownKnob Tryd.prog.godebug = none := by kernel_rfl
theorem laid_out : laidOutB Tryd.prog = true := by kernel_rfl
theorem pgu_of {v : Value} (ρ : Rho) (hx : ∃ cs : List Value, v = .agg cs.toArray ∧ fitsL [.int .u64, .int .u64, .int .u64, .int .u64] cs) : ∃ n, v = (sU n).conc ρ := by
  obtain ⟨cs, rfl, hf⟩ := hx
  match cs, hf with
  | [.int k1 a1, .int k2 a2, .int k3 a3, .int k4 a4], hf =>
    obtain ⟨⟨rfl, w1⟩, ⟨rfl, w2⟩, ⟨rfl, w3⟩, ⟨rfl, w4⟩, _⟩ := hf
    have b : ∀ {n : Int}, (Lit.int .u64 n).wf = true → 0 ≤ n ∧ n < 2 ^ 64 := by
      intro n h
      simp [Lit.wf, IntKind.min, IntKind.max, IntKind.signed, IntKind.bits] at h
      omega
    refine ⟨join a1 a2 a3 a4, ?_⟩
    have := U_join (b w1) (b w2) (b w3) (b w4)
    exact this.symm
theorem open_p4 {H : Type} {enc : TypeId × Value → H} {W : World} {base b0 : Nat} {sp : Nat → Bool} {held : Bool} {v : Value} {d : DataW H} {ps : List MemPlace} (ρ : Rho)
    (hval : Unit → Value.okWide Tryd.prog W .any b0 23 v) (h : Unit → DataW.Trod enc Tryd.prog W base sp held 23 v d ps) : ∃ n, v = (sU n).conc ρ := by
  have hl : lks Tryd.prog 3 23 = some [.int .u64, .int .u64, .int .u64, .int .u64] := by kernel_rfl
  have hx : ∃ cs : List Value, v = .agg cs.toArray ∧ fitsL [.int .u64, .int .u64, .int .u64, .int .u64] cs := by
    refine open_flat (H := H) (enc := enc) (P := Tryd.prog) (w := W) (base := base) (sp := sp) (held := held) (d := 3) (t := 23) (r := .any) (b0 := b0) (v := v) (x := d) (ps := ps) hl ?_ ?_ ?_
    · kernel_rfl
    · with_reducible exact hval ()
    · with_reducible exact h ()
  exact pgu_of ρ hx
theorem bnd_pgu {n : Env} (a : Nat) : (SA.agg [SK.u a]).bnd n := by
  intro k hk
  simp only [List.mem_singleton] at hk
  subst hk
  trivial
end Go.Proofs.YtggpnmbfjnmfdaaDoor
end
