/-
  Texts: P79, Okx, V116, Open, P168.
-/
import Derived.Test.YtpebkgbelifdgaaDoorM1
import Derived.Test.YtpebkgbelifdgaaDoorM2
import Derived.Test.YtpebkgbelifdgaaDoorM3
import Derived.Test.YtpebkgbelifdgaaDoorM4
import Derived.Test.YtpebkgbelifdgaaDoorM5
import Derived.Test.YtpebkgbelifdgaaDoorM6
import Derived.Test.YtpebkgbelifdgaaDoorM7
import Derived.Test.YtpebkgbelifdgaaDoorM8
import Derived.Test.YtpebkgbelifdgaaDoorM9
import Derived.Test.YtpebkgbelifdgaaDoorM10
import Derived.Test.YtpebkgbelifdgaaDoorM11
import Derived.Test.YtpebkgbelifdgaaDoorM12
import Derived.Test.YtpebkgbelifdgaaDoorM13
section
namespace Go.Proofs.YtpebkgbelifdgaaDoor
open Go Go.Sx Go.RowKit
def aA (L H : Nat → Int) (N : Int) (n : Nat) (f : Nat → Int) (i : Nat) : Int := if mayG H N then lw ((addB (spOf L H N) f n).a i) else 0
def aG (L H : Nat → Int) (N : Int) (n : Nat) (f : Nat → Int) (j : Nat) : Int := if mayG H N then (addB (spOf L H N) f n).H j else 0
def aM (L H : Nat → Int) (N : Int) (n : Nat) (f : Nat → Int) : Int := if mayG H N then ((addB (spOf L H N) f n).n : Int) else 0
def aX (_ H : Nat → Int) (N : Int) (_ : Nat) (_ : Nat → Int) : Int := if mayG H N then 0 else 12
theorem addGG_eq : addGG aA aG aM aX = kAddG := rfl
theorem kAddG_bnd (L H : Nat → Int) (N : Int) (n : Nat) (f : Nat → Int) : (kAddG L H N n f).bnd none0 := by
  unfold kAddG
  intro x hx
  simp only [List.mem_cons, List.not_mem_nil, or_false] at hx
  rcases hx with rfl | rfl
  · exact bnd_sSp _ _ _ _
  · trivial
theorem card_Soaked : FnOKg Tryd.prog [] 22 (specSpB soakC kAddG) :=
  FnOK_SpB (cx := cxSoaked turnB) (by
    refine ⟨fun p hp => ?_, fun _ h => (by cases h)⟩
    simp only [cxSoaked, List.mem_cons, List.not_mem_nil, or_false] at hp
    rcases hp with rfl | rfl
    · exact card_badSponge
    · exact card_soaked) (iv := fun L H N _ m _ f => [(6, .inv (invEat L H N (PE L H N f m))), (10, .inv (invLay L H N (PE L H N f m)))]) (N := 200) Tryd.func22 (by kernel_rfl) (by kernel_rfl) kAddG_bnd fun L H N a m cap f hc => ok_Soaked L H N a m cap f hc.1 hc.2.1 hc.2.2.1 hc.2.2.2.1
theorem push_bytes {s : Sp} (h : bytesH s.H) {b : Int} (hb : 0 ≤ b ∧ b < 256) : bytesH (pushB s b).H := by
  unfold pushB
  split
  · exact fun _ _ => ⟨Int.le_refl _, (by decide : (0 : Int) < 256)⟩
  · intro j hj
    show 0 ≤ (if j = s.n then b else s.H j) ∧ (if j = s.n then b else s.H j) < 256
    split
    · exact hb
    · exact h j hj
theorem add_bytes {s : Sp} (h : bytesH s.H) {f : Nat → Int} (hf : ∀ i, 0 ≤ f i ∧ f i < 256) : ∀ m, bytesH (addB s f m).H
  | 0 => h
  | m + 1 => push_bytes (add_bytes h hf m) (hf m)
theorem ok_Hash (s : ByteArray) (hs : s.size ≤ 140737488355327) : Owes Tryd.prog (cxHash aA aG aM aX eE xE) [] 10 Tryd.f14 [.sc (.val (.string s))] (.one (sRow .u8 32 (sumB s.size fun j => ((s.data.getD j 0).toNat : Int)))) := by
  rw [vc_Hash]
  generalize hF : (fun j : Nat => ((s.data.getD j (0 : UInt8)).toNat : Int)) = F
  have hFb : ∀ i, 0 ≤ F i ∧ F i < 256 := fun i => by
    subst hF
    have := (s.data.getD i 0).toNat_lt
    show 0 ≤ ((s.data.getD i (0 : UInt8)).toNat : Int) ∧ ((s.data.getD i (0 : UInt8)).toNat : Int) < 256
    omega
  have hc := addB_clean sp0_clean F s.size
  have hb : bytesH (addB sp0 F s.size).H := add_bytes (fun _ _ => ⟨Int.le_refl _, (by decide : (0 : Int) < 256)⟩) hFb _
  have e1 : aA (fun _ => 0) (fun _ => 0) 0 s.size F = fun i => lw ((addB sp0 F s.size).a i) := by
    funext i
    simp only [aA, may_zero, if_true, sp0_eq]
  have e2 : aG (fun _ => 0) (fun _ => 0) 0 s.size F = (addB sp0 F s.size).H := by
    funext i
    simp only [aG, may_zero, if_true, sp0_eq]
  have e3 : aM (fun _ => 0) (fun _ => 0) 0 s.size F = ((addB sp0 F s.size).n : Int) := by
    simp only [aM, may_zero, if_true, sp0_eq]
  rw [e1, e2, e3]
  refine fun a cap _ => ⟨fun _ => trivial, fun _ _ => ⟨by decide, by decide⟩, fun _ _ => ⟨by decide, by decide⟩, fun i => ?_, hs, lanes_lw _ _, hb, fun j _ => ?_, trivial⟩
  · have := hFb i
    rw [← hF] at this
    exact this
  · simp only [eE, may_clean hc, if_true, spOf_lw, sumB]
theorem card_Hash : FnOKg Tryd.prog [] 14 cHash := by
  refine FnOK_of Tryd.func14 (by kernel_rfl) (by kernel_rfl) fun args ps sv hs hp => ?_
  unfold cHash at hs
  split at hs
  case h_2 => cases hs
  rename_i s
  simp only [Option.some.injEq, Prod.mk.injEq] at hs
  obtain ⟨rfl, rfl⟩ := hs
  have hb : (SV.one (sRow .u8 32 (sumB s.size fun j => ((s.data.getD j 0).toNat : Int)))).bnd none0 := bnd_row _ _ _ _
  have hcx : CxOK Tryd.prog (cxHash aA aG aM aX eE xE) := by
    refine ⟨fun p hp => ?_, fun _ h => (by cases h)⟩
    unfold cxHash at hp
    rw [addGG_eq] at hp
    simp only [List.mem_cons, List.not_mem_nil, or_false] at hp
    rcases hp with rfl | rfl
    · exact card_Soaked
    · exact card_Wrung
  refine ⟨hb, fun ρ w hz hg _ => ?_⟩
  refine (calls_of_owesG hcx Tryd.func14 (by kernel_rfl) (ok_Hash s hp.1) ρ w hz hg (fun x hx => ?_)).mono ?_
  · simp only [List.mem_singleton] at hx
    subst hx
    trivial
  · rintro e w' ⟨v, rfl, ⟨ρ', hr⟩, hbl⟩
    exact ⟨v, rfl, rep_none0 hb hr, hbl⟩
end Go.Proofs.YtpebkgbelifdgaaDoor
end

section
namespace Go.Sx
open Go.RowKit
theorem okx_nil {P : Program} {gl : Globs} : CxOK P ⟨[], gl, 0, []⟩ := ⟨fun _ h => (by cases h), fun _ h => (by cases h)⟩
theorem okx_cons {P : Program} {gl : Globs} {f : Nat} {s : FSpec} {l : List (Nat × FSpec)} {wf : List (Nat × WSpec)} (h : FnOKg P gl f s) (hs : CxOK P ⟨l, gl, 0, wf⟩) : CxOK P ⟨(f, s) :: l, gl, 0, wf⟩ :=
  ⟨fun p hp => by
    rcases List.mem_cons.1 hp with rfl | hp
    · exact h
    · exact hs.1 p hp, hs.2⟩
theorem okx_mark {P : Program} {gl : Globs} {f : Nat} {l : List (Nat × FSpec)} {wf : List (Nat × WSpec)} (hs : CxOK P ⟨l, gl, 0, wf⟩) : CxOK P ⟨(f, fun _ => none) :: l, gl, 0, wf⟩ :=
  okx_cons (fun _ _ _ h => (by cases h)) hs
theorem oks_nil {P : Program} {gl : Globs} : ∀ p ∈ ([] : List (Nat × SSpec)), FnOKs P gl p.1 p.2 := fun _ h => (by cases h)
theorem oks_cons {P : Program} {gl : Globs} {f : Nat} {s : SSpec} {l : List (Nat × SSpec)} (h : FnOKs P gl f s) (hl : ∀ p ∈ l, FnOKs P gl p.1 p.2) : ∀ p ∈ (f, s) :: l, FnOKs P gl p.1 p.2 := fun p hp => by
  rcases List.mem_cons.1 hp with rfl | hp
  · exact h
  · exact hl p hp
end Go.Sx
end

section
namespace Go.Proofs.YtpebkgbelifdgaaDoor
open Go.Sx
set_option maxRecDepth 100000
def cellB (s : ByteArray) (i : Nat) : Int := ((s.data.getD i 0).toNat : Int)
structure bytIn (em : Nat → Int) (m : Nat) (f : Nat → Nat → SC) : Prop where
  nf : f = u8F (kOf f)
  em : ∀ j, j < 32 → 0 ≤ em j ∧ em j < 256
  k : ∀ i, i < m → 0 ≤ kOf f i 0 ∧ kOf f i 0 < 256
def rbC : List (List FD) → List Prop
  | [[.i _, .i _, .i _, .y em, .i _, .i _, .x _ m _ f]] => [bytIn em m f]
  | _ => [False]
def rbbS : List (List FD) → List RS
  | [[.i t, .i n, .i c, .y em, .i u, .i l, .x _ m _ f]] => [.s (bytN t n c u l m) .u8 (cellB (bodyStr t n c em u l m (kOf f))), .v (sI .i64 (bodyE t n c u l m))]
  | _ => []
def cRbb : SSpec := specQ true shBd nfBd rbC rbbS
def cRbs : SSpec := specQ false shBd nfBd rbC smS
def slRb : List (Nat × SSpec) := [(12, cBckS), (13, cBdtS)]
def cxRb : Cx := ⟨[(14, cHash), (1000000010, fun _ => none), (1000000012, fun _ => none)], [], 0, []⟩
def slBW : List (Nat × SSpec) := [(4, cByS), (5, cSmS), (6, cRbb), (7, cRbs)]
def cxBW : Cx := ⟨[(1000000010, fun _ => none), (1000000012, fun _ => none), (1000000013, fun _ => none), (1000000014, fun _ => none)], glK, 0, []⟩
theorem vc_rbb (t n c u l e : Int) (em : Nat → Int) (a : Option Addr) (m cap : Nat) (k : Nat → Nat → Int) (r : Nat) (g : Nat → Int) :
    OwesR Tryd.prog cxRb slRb [] 30 Tryd.f6 [sBody t n c em u l a m cap k] true [.s r .u8 g, .v (sI .i64 e)] =
    (let x1 : Nat := (bodyStr t n c em u l m (kOf (u8F (kOf (u8F k))))).size; t = t ∧ n = n ∧ c = c ∧ (∀ (j : Nat), j < 32 → em j = em j) ∧ u = u ∧ l = l ∧ a = a ∧ m = m ∧ cap = cap ∧ (∀ (i : Nat), i < m → k i 0 = kOf (u8F k) i 0) ∧ u8F (kOf (u8F k)) = u8F (kOf (u8F (kOf (u8F k)))) ∧ ((bodyE t n c u l m != (0 : Int)) = Bool.true → r = 0 ∧ bodyE t n c u l m = e) ∧ ((bodyE t n c u l m != (0 : Int)) = Bool.false → t = t ∧ n = n ∧ c = c ∧ (∀ (j : Nat), j < 32 → em j = em j) ∧ u = u ∧ l = l ∧ a = a ∧ m = m ∧ cap = cap ∧ (∀ (i : Nat), i < m → k i 0 = kOf (u8F k) i 0) ∧ u8F (kOf (u8F k)) = u8F (kOf (u8F (kOf (u8F k)))) ∧ bodyE t n c u l m = (0 : Int) ∧ ∀ (_ : Go.Addr) (cap : Nat), x1 ≤ cap → (x1 = r ∧ ∀ (i : Nat), i < r → (↑((bodyStr t n c em u l m (kOf (u8F (kOf (u8F k))))).data.getD i (0 : UInt8)).toNat : Int) = g i) ∧ (0 : Int) = e)) := by kernel_rfl
theorem vc_rbs (t n c u l e : Int) (em : Nat → Int) (a : Option Addr) (m cap : Nat) (k : Nat → Nat → Int) (g : Nat → Int) :
    OwesR Tryd.prog cxRb slRb [] 30 Tryd.f7 [sBody t n c em u l a m cap k] false [.v (sRow .u8 32 g), .v (sI .i64 e)] =
    (let x1 : Nat := (bodyStr t n c em u l m (kOf (u8F (kOf (u8F k))))).size; let x2 : Nat := (bytesI (intsL [SK.f Go.IntKind.u8 32 (sumB x1 fun (j : Nat) => (↑((bodyStr t n c em u l m (kOf (u8F (kOf (u8F k))))).data.getD j (0 : UInt8)).toNat : Int))])).size; t = t ∧ n = n ∧ c = c ∧ (∀ (j : Nat), j < 32 → em j = em j) ∧ u = u ∧ l = l ∧ a = a ∧ m = m ∧ cap = cap ∧ (∀ (i : Nat), i < m → k i 0 = kOf (u8F k) i 0) ∧ u8F (kOf (u8F k)) = u8F (kOf (u8F (kOf (u8F k)))) ∧ ((bodyE t n c u l m != (0 : Int)) = Bool.true → ((0 : Int) = g 0 ∧ (0 : Int) = g 1 ∧ (0 : Int) = g 2 ∧ (0 : Int) = g 3 ∧ (0 : Int) = g 4 ∧ (0 : Int) = g 5 ∧ (0 : Int) = g 6 ∧ (0 : Int) = g 7 ∧ (0 : Int) = g 8 ∧ (0 : Int) = g 9 ∧ (0 : Int) = g 10 ∧ (0 : Int) = g 11 ∧ (0 : Int) = g 12 ∧ (0 : Int) = g 13 ∧ (0 : Int) = g 14 ∧ (0 : Int) = g 15 ∧ (0 : Int) = g 16 ∧ (0 : Int) = g 17 ∧ (0 : Int) = g 18 ∧ (0 : Int) = g 19 ∧ (0 : Int) = g 20 ∧ (0 : Int) = g 21 ∧ (0 : Int) = g 22 ∧ (0 : Int) = g 23 ∧ (0 : Int) = g 24 ∧ (0 : Int) = g 25 ∧ (0 : Int) = g 26 ∧ (0 : Int) = g 27 ∧ (0 : Int) = g 28 ∧ (0 : Int) = g 29 ∧ (0 : Int) = g 30 ∧ (0 : Int) = g 31 ∧ True) ∧ bodyE t n c u l m = e) ∧ ((bodyE t n c u l m != (0 : Int)) = Bool.false → t = t ∧ n = n ∧ c = c ∧ (∀ (j : Nat), j < 32 → em j = em j) ∧ u = u ∧ l = l ∧ a = a ∧ m = m ∧ cap = cap ∧ (∀ (i : Nat), i < m → k i 0 = kOf (u8F k) i 0) ∧ u8F (kOf (u8F k)) = u8F (kOf (u8F (kOf (u8F k)))) ∧ bodyE t n c u l m = (0 : Int) ∧ x1 ≤ 140737488355327 ∧ x2 ≤ 140737488355327 ∧ ((∀ (j : Nat), j < 32 → sumB x2 (fun (j : Nat) => (↑((bytesI (intsL [SK.f Go.IntKind.u8 32 (sumB x1 fun (j : Nat) => (↑((bodyStr t n c em u l m (kOf (u8F (kOf (u8F k))))).data.getD j (0 : UInt8)).toNat : Int))])).data.getD j (0 : UInt8)).toNat : Int)) j = g j) ∧ True) ∧ (0 : Int) = e)) := by kernel_rfl
theorem vc_BW (t n c u l : Int) (em : Nat → Int) (a : Option Addr) (m cap : Nat) (k : Nat → Nat → Int) :
    OwesV Tryd.prog cxBW slBW [] 30 Tryd.f3 [sBody t n c em u l a m cap k] yes =
    (let x1 : Bool := (bytesI (List.map (fun (j : Nat) => bodyF t n c em u l (kOf (u8F (kOf (u8F k)))) j) (List.range (bytN t n c u l m)))).toList == (bytesI (List.map (fun (j : Nat) => cellB (bodyStr t n c em u l m (kOf (u8F (kOf (u8F k))))) j) (List.range (bytN t n c u l m)))).toList; let x2 : Bool := bodyE t n c u l m == bodyE t n c u l m; let x3 : Bool := x1 && x2; let x4 : Bool := x3 && conj [(List.range 32).all fun (j : Nat) => smF t n c em u l m (kOf (u8F (kOf (u8F k)))) j == smF t n c em u l m (kOf (u8F (kOf (u8F k)))) j]; t = t ∧ n = n ∧ c = c ∧ (∀ (j : Nat), j < 32 → em j = em j) ∧ u = u ∧ l = l ∧ a = a ∧ m = m ∧ cap = cap ∧ (∀ (i : Nat), i < m → k i 0 = kOf (u8F k) i 0) ∧ u8F (kOf (u8F k)) = u8F (kOf (u8F (kOf (u8F k)))) ∧ ∀ (a_1 : Option Go.Addr) (cap_1 : Nat), (a_1 = Option.none → bytN t n c u l m = 0 ∧ cap_1 = 0) → bytN t n c u l m ≤ cap_1 → t = t ∧ n = n ∧ c = c ∧ (∀ (j : Nat), j < 32 → em j = em j) ∧ u = u ∧ l = l ∧ a = a ∧ m = m ∧ cap = cap ∧ (∀ (i : Nat), i < m → k i 0 = kOf (u8F k) i 0) ∧ u8F (kOf (u8F k)) = u8F (kOf (u8F (kOf (u8F k)))) ∧ t = t ∧ n = n ∧ c = c ∧ (∀ (j : Nat), j < 32 → em j = em j) ∧ u = u ∧ l = l ∧ a = a ∧ m = m ∧ cap = cap ∧ (∀ (i : Nat), i < m → k i 0 = kOf (u8F k) i 0) ∧ bytIn em m (u8F (kOf (u8F k))) ∧ ∀ (a_4 : Option Go.Addr) (cap_2 : Nat), (a_4 = Option.none → bytN t n c u l m = 0 ∧ cap_2 = 0) → bytN t n c u l m ≤ cap_2 → t = t ∧ n = n ∧ c = c ∧ (∀ (j : Nat), j < 32 → em j = em j) ∧ u = u ∧ l = l ∧ a = a ∧ m = m ∧ cap = cap ∧ (∀ (i : Nat), i < m → k i 0 = kOf (u8F k) i 0) ∧ bytIn em m (u8F (kOf (u8F k))) ∧ (∀ (_ : Nat), True) ∧ (∀ (_ : Nat), True) ∧ (x1 = Bool.true → x1 = Bool.true) ∧ (x1 = Bool.true → x1 = Bool.true) ∧ (x1 = Bool.true → x1 = Bool.true) ∧ (x3 = Bool.true → x3 = Bool.true) ∧ (x3 = Bool.true → x3 = Bool.true) ∧ (x3 = Bool.true → x3 = Bool.true) ∧ (x4 = Bool.true → x4 = Bool.true) ∧ (x4 = Bool.true → x4 = Bool.true) ∧ (x4 = Bool.true → x4 = Bool.true) ∧ (x4 && x2) = Bool.true) := by kernel_rfl
end Go.Proofs.YtpebkgbelifdgaaDoor
end

section
namespace Go.Sx
open Go.RowKit Go.ChangeShapes Go.WideShapes
inductive LQ where
  | k (x : LK)
  | sl (ks : List LK)
def LQ.fits (W : World) : LQ → Value → Prop
  | .k x, v => x.fits v
  | .sl ks, v => ∃ (a : Option Addr) (n cap : Nat) (f : Nat → Nat → Value), v = .slice a n cap ∧ n ≤ maxLen ∧ (∀ i, i < n → ∀ (c : Nat) (x : LK), ks[c]? = some x → x.fits (f i c)) ∧
      SC.bnd ⟨fun _ => False, (Rho.whole W).fz⟩ (.xs a n cap ks.length fun i c => .val (f i c))
def fitsQ (W : World) : List LQ → List Value → Prop
  | [], [] => True
  | l :: ls, v :: vs => l.fits W v ∧ fitsQ W ls vs
  | _, _ => False
theorem fitsQ_append {W : World} : ∀ {a b : List LQ} {u v : List Value}, fitsQ W a u → fitsQ W b v → fitsQ W (a ++ b) (u ++ v)
  | [], _, [], _, _, h => h
  | _ :: _, _, _ :: _, _, h, k => ⟨h.1, fitsQ_append h.2 k⟩
  | [], _, _ :: _, _, h, _ => h.elim
  | _ :: _, _, [], _, h, _ => h.elim
theorem fitsQ_flat {W : World} : ∀ {ks : List LK} {vs : List Value}, fitsL ks vs → fitsQ W (ks.map .k) vs
  | [], [], _ => trivial
  | _ :: _, _ :: _, h => ⟨h.1, fitsQ_flat h.2⟩
  | [], _ :: _, h => h.elim
  | _ :: _, [], h => h.elim
theorem fitsQ_unflat {W : World} : ∀ {ks : List LK} {b : List LQ} {vs : List Value}, fitsQ W (ks.map .k ++ b) vs → ∃ u v, vs = u ++ v ∧ fitsL ks u ∧ fitsQ W b v
  | [], _, vs, h => ⟨[], vs, rfl, trivial, h⟩
  | _ :: _, _, [], h => h.elim
  | _ :: _, _, x :: vs, h => by
    obtain ⟨u, v, rfl, h1, h2⟩ := fitsQ_unflat h.2
    exact ⟨x :: u, v, rfl, ⟨h.1, h1⟩, h2⟩
theorem fitsL_at : ∀ {ks : List LK} {vs : List Value} {c : Nat} {x : LK}, fitsL ks vs → ks[c]? = some x → ∃ v, vs[c]? = some v ∧ x.fits v
  | [], _, _, _, _, h => by simp at h
  | _ :: _, [], _, _, h, _ => h.elim
  | _ :: _, v :: _, 0, _, h, e => by
    simp only [List.getElem?_cons_zero, Option.some.injEq] at e
    subst e
    exact ⟨v, rfl, h.1⟩
  | _ :: _, _ :: _, c + 1, _, h, e => by
    simp only [List.getElem?_cons_succ] at e ⊢
    exact fitsL_at h.2 e
theorem LK.fits_fit {x : LK} {v : Value} (h : x.fits v) : oneCell v = true := by
  cases x <;> cases v <;> first | rfl | exact h.elim
def lqsF (P : Program) (g : TypeId → Option (List LQ)) : List Field → Nat → Option (List LQ)
  | [], _ => some []
  | f :: fs, n =>
    match g f.type with
    | none => none
    | some a => if Nat.beq f.offset n && Nat.beq (P.cellsOf f.type) a.length then (lqsF P g fs (n + a.length)).map (a ++ ·) else none
def lqs (P : Program) : Nat → TypeId → Option (List LQ)
  | 0, _ => none
  | d + 1, t =>
    match lks P (d + 1) t with
    | some a => some (a.map .k)
    | none => match P.underlying t with
      | some (.slice e) => match lks P d e with
        | some a => if Nat.beq (P.cellsOf e) a.length && Nat.ble 1 a.length then some [.sl a] else none
        | none => none
      | some (.struct fs) => match lqsF P (lqs P d) fs.toList 0 with
        | some a => if Nat.beq (P.cellsOf t) a.length then some a else none
        | none => none
      | _ => none
theorem cells_at {w : World} {base : Nat} {a : Addr} {n : Nat} {cs : List Value} (h : w.cells? base a n = some cs) : cs.length = n ∧ ∀ j v, cs[j]? = some v → w.cell? (a.add j) = some v := by
  unfold World.cells? at h
  split at h
  · obtain ⟨h1, h2⟩ := mapM_get h
    rw [List.length_range] at h1
    refine ⟨h1, fun j v hv => ?_⟩
    have hj : j < n := by rw [← h1]; exact (List.getElem?_eq_some_iff.1 hv).1
    obtain ⟨b, hb, hc⟩ := h2 j j (by rw [List.getElem?_range hj])
    rw [hv] at hb
    cases hb
    exact hc
  · cases h
section
variable {H : Type} {enc : TypeId × Value → H} {P : Program} {w : World} {base : Nat} {sp : Nat → Bool} {held : Bool}
theorem trod_sl {fuel : Nat} {t e : TypeId} {ks : List LK} {d : Nat} {cs : List Value} {y : DataW H × List MemPlace} (ht : P.underlying t = some (.slice e)) (he : lks P d e = some ks) (hc : P.cellsOf e = ks.length) (hk : 1 ≤ ks.length)
    (hs : ∀ v ∈ cs, ∀ a n cap, v = .slice (some a) n cap → a.spot = none) (h : DataW.trod enc P w base sp held fuel t cs = some y) : fitsQ w [.sl ks] cs := by
  cases fuel with
  | zero => simp [DataW.trod] at h
  | succ fuel =>
    match cs, h with
    | [], h => simp [DataW.trod, ht] at h
    | _ :: _ :: _, h => simp [DataW.trod, ht] at h
    | [v], h =>
      cases v <;> simp only [DataW.trod, ht] at h <;> try (cases h)
      rename_i a n cap
      cases a with
      | none =>
        match n, cap, h with
        | 0, 0, _ => exact ⟨⟨none, 0, 0, fun _ _ => .nilIface, rfl, Nat.zero_le _, fun i hi => by omega, fun _ => ⟨rfl, rfl⟩, Nat.le_refl _, fun b hb => by cases hb⟩, trivial⟩
        | 0, c + 1, h => simp at h
        | m + 1, c, h => simp at h
      | some a =>
        have hsp : a.spot = none := hs _ (by simp) a n cap rfl
        simp only at h
        split at h
        case isFalse => cases h
        rename_i hb
        obtain ⟨elems, hel, _⟩ := Option.bind_eq_some_iff.1 h
        obtain ⟨h1, h2⟩ := mapM_get hel
        have hrow : ∀ i, i < n → ∃ vs : List Value, fitsL ks vs ∧ ∀ c v, vs[c]? = some v → w.cell? ⟨a.block, a.off + (i * ks.length + c), none⟩ = some v := by
          intro i hi
          obtain ⟨b, _, hb'⟩ := h2 i i (by rw [List.getElem?_range hi])
          obtain ⟨vs, hvs, ht'⟩ := Option.bind_eq_some_iff.1 hb'
          rw [hc] at hvs
          obtain ⟨_, q2⟩ := cells_at hvs
          refine ⟨vs, trod_fits he ht', fun c v hv => ?_⟩
          have := q2 c v hv
          rw [← this, fz_add (add_spot hsp _) c, add_block, add_off, Nat.add_assoc]
        refine ⟨⟨some a, n, cap, fun i c => if h : i < n then (hrow i h).choose.getD c .nilIface else .nilIface, rfl, Nat.le_trans hb.2.1 hb.2.2, fun i hi c x hx => ?_, fun e => (by cases e), hb.2.1, fun b hb' => ?_⟩, trivial⟩
        · obtain ⟨q1, q2⟩ := (hrow i hi).choose_spec
          obtain ⟨v, hv, hf⟩ := fitsL_at q1 hx
          dsimp only
          rw [dif_pos hi, List.getD_eq_getElem?_getD, hv]
          exact hf
        · cases hb'
          refine ⟨hsp, fun i hi c hc' => ?_⟩
          obtain ⟨q1, q2⟩ := (hrow i hi).choose_spec
          obtain ⟨v, hv, hf⟩ := fitsL_at q1 (c := c) (x := ks[c]) (List.getElem?_eq_getElem hc')
          have e : (if h : i < n then (hrow i h).choose.getD c .nilIface else .nilIface) = v := by rw [dif_pos hi, List.getD_eq_getElem?_getD, hv]; rfl
          dsimp only
          rw [e]
          exact ⟨trivial, LK.fits_fit hf, q2 c v hv⟩
theorem fits_fieldsQ {fuel : Nat} {g : TypeId → Option (List LQ)} {cs : List Value} (hs : ∀ v ∈ cs, ∀ a n cap, v = .slice (some a) n cap → a.spot = none)
    (hg : ∀ {t a cs' x}, g t = some a → (∀ v ∈ cs', ∀ a n cap, v = .slice (some a) n cap → a.spot = none) → DataW.trod enc P w base sp held fuel t cs' = some x → fitsQ w a cs') :
    ∀ {fs : List Field} {n : Nat} {a : List LQ}, lqsF P g fs n = some a →
      (∀ f ∈ fs, ∃ x, DataW.trod enc P w base sp held fuel f.type ((cs.drop f.offset).take (P.cellsOf f.type)) = some x) → fitsQ w a ((cs.drop n).take a.length)
  | [], n, a, h, _ => by
    simp only [lqsF, Option.some.injEq] at h
    subst h
    simp [fitsQ]
  | f :: fs, n, a, h, hx => by
    simp only [lqsF] at h
    split at h
    · cases h
    · rename_i a0 ha
      split at h
      · rename_i hc
        simp only [Bool.and_eq_true] at hc
        have h1 := Nat.eq_of_beq_eq_true hc.1
        have h2 := Nat.eq_of_beq_eq_true hc.2
        cases hr : lqsF P g fs (n + a0.length) with
        | none => rw [hr] at h; simp at h
        | some a1 =>
          rw [hr] at h
          simp only [Option.map_some, Option.some.injEq] at h
          subst h
          obtain ⟨x, hx0⟩ := hx f (by simp)
          have f0 := hg ha (fun v hv => hs v (List.mem_of_mem_drop (List.mem_of_mem_take hv))) hx0
          have f1 := fits_fieldsQ hs hg hr (fun f' hf' => hx f' (by simp [hf']))
          rw [h1, h2] at f0
          have := fitsQ_append f0 f1
          rwa [List.length_append, List.take_add, List.drop_drop]
      · cases h
theorem trod_fitsQ : ∀ {d : Nat} {t : TypeId} {a : List LQ} {fuel : Nat} {cs : List Value} {x : DataW H × List MemPlace}, lqs P d t = some a → (∀ v ∈ cs, ∀ a n cap, v = .slice (some a) n cap → a.spot = none) → DataW.trod enc P w base sp held fuel t cs = some x → fitsQ w a cs
  | 0, _, _, _, _, _, h, _, _ => by cases h
  | d + 1, t, a, fuel, cs, x, h, hs, hx => by
    unfold lqs at h
    split at h
    · rename_i a' ha
      simp only [Option.some.injEq] at h
      subst h
      exact fitsQ_flat (trod_fits ha hx)
    · split at h
      · rename_i e hu
        split at h
        · rename_i ks hk
          split at h
          · rename_i hc
            simp only [Bool.and_eq_true] at hc
            simp only [Option.some.injEq] at h
            subst h
            exact trod_sl hu hk (Nat.eq_of_beq_eq_true hc.1) (Nat.le_of_ble_eq_true hc.2) hs hx
          · cases h
        · cases h
      · rename_i fs hu
        split at h
        · rename_i a' ha
          split at h
          · rename_i hc
            simp only [Option.some.injEq] at h; subst h
            obtain ⟨xs, n, rfl, _, hl, hn, hf⟩ := DataW.trod_struct hu hx
            have := fits_fieldsQ (cs := cs) hs (fun h1 h2 h3 => trod_fitsQ (d := d) h1 h2 h3) ha (fun f hm => by
              obtain ⟨i, hi, e⟩ := List.mem_iff_getElem.1 hm
              have e' : fs[i]? = some f := by rw [← e]; simp at hi ⊢
              have hlt : i < xs.length := by simp at hi; omega
              exact ⟨xs[i], by rw [hf i f e']; simp [hlt]⟩)
            rw [List.drop_zero, List.take_of_length_le (by rw [hl, Nat.eq_of_beq_eq_true hc]; exact Nat.le_refl _)] at this
            exact this
          · cases h
        · cases h
      · cases h
theorem spot_cell {r : Reach} {b0 : Nat} {u : TypeId} {a : Addr} {n cap : Nat} (h : Cell.okWide P w r b0 u (.slice (some a) n cap)) : a.spot = none := by
  have h2 : Cell.ok P w r b0 u (.slice (some a) n cap) := by
    unfold Cell.okWide at h
    split at h <;> first | exact h | simp_all
  unfold Cell.ok at h2
  split at h2 <;> first | exact h2.elim | (simp_all; done) | (rename_i e1; cases e1; exact h2.2.2.2.1)
theorem open_q {d : Nat} {t : TypeId} {a : List LQ} {r : Reach} {b0 : Nat} {v : Value} {x : DataW H} {ps : List MemPlace} (ha : lqs P d t = some a)
    (hs : (match P.underlying t with | some (.struct _) => true | _ => false) = true)
    (hval : Value.okWide P w r b0 t v) (hd : DataW.Trod enc P w base sp held t v x ps) : ∃ cs : List Value, v = .agg cs.toArray ∧ fitsQ w a cs := by
  obtain ⟨fuel, hf⟩ := hd
  unfold Value.okWide at hval
  split at hval
  · obtain ⟨cs, rfl, _, _, _, _, hrow⟩ := hval
    refine ⟨cs.toList, rfl, trod_fitsQ ha (fun v hv a n cap e => ?_) hf⟩
    subst e
    obtain ⟨i, hi, e⟩ := List.mem_iff_getElem.1 hv
    obtain ⟨u, _, hu⟩ := hrow i (.slice (some a) n cap) (by rw [← e]; simp at hi ⊢)
    exact spot_cell hu
  · rename_i e
    rw [e] at hs
    cases hs
  · rename_i h1 h2
    split at hs
    · rename_i e; exact (h1 _ e).elim
    · cases hs
theorem xs_told {E : Env} {a : Option Addr} {n cap wd : Nat} {g g' : Nat → Nat → SC} (h : SC.bnd E (.xs a n cap wd g)) (e : ∀ i, i < n → ∀ c, c < wd → (g i c).conc Rho.nil = (g' i c).conc Rho.nil ∧ (g' i c).bnd E.bare ∧ (g' i c).fit = true) : SC.bnd E (.xs a n cap wd g') := by
  obtain ⟨h1, h2, h3⟩ := h
  refine ⟨h1, h2, fun b hb => ⟨(h3 b hb).1, fun i hi c hc => ?_⟩⟩
  obtain ⟨e1, e2, e3⟩ := e i hi c hc
  exact ⟨e2, e3, by rw [← e1]; exact ((h3 b hb).2 i hi c hc).2.2⟩
theorem fits_bytes {a : Option Addr} {n cap : Nat} {f : Nat → Nat → Value} (hf : ∀ i, i < n → ∀ (c : Nat) (x : LK), [LK.int .u8][c]? = some x → x.fits (f i c)) (hb : SC.bnd ⟨fun _ => False, (Rho.whole w).fz⟩ (.xs a n cap 1 fun i c => .val (f i c))) :
    ∃ k : Nat → Nat → Int, (∀ i, i < n → 0 ≤ k i 0 ∧ k i 0 < 256) ∧ SC.bnd ⟨fun _ => False, (Rho.whole w).fz⟩ (.xs a n cap 1 (u8F k)) := by
  have key : ∀ i, i < n → ∃ x : Int, f i 0 = .int .u8 x ∧ 0 ≤ x ∧ x < 256 := by
    intro i hi
    have := hf i hi 0 (.int .u8) rfl
    cases hv : f i 0 <;> rw [hv] at this <;> try exact this.elim
    rename_i k x
    obtain ⟨rfl, hw⟩ := this
    have := bounds_u8 hw
    exact ⟨x, rfl, this.1, by omega⟩
  refine ⟨fun i _ => if h : i < n then (key i h).choose else 0, fun i hi => ?_, xs_told hb fun i hi c hc => ?_⟩
  · dsimp only
    rw [dif_pos hi]
    exact (key i hi).choose_spec.2
  · have : c = 0 := by omega
    subst this
    refine ⟨?_, trivial, rfl⟩
    show f i 0 = .int .u8 _
    rw [(key i hi).choose_spec.1]
    dsimp only
    rw [dif_pos hi]
end
theorem calls_of_owesV {P : Program} {cx : Cx} (hcx : CxOK P cx) {sl : List (Nat × SSpec)} (hsl : ∀ p ∈ sl, FnOKs P cx.gl p.1 p.2) {iv : List (Nat × Hint)} {N : Nat} {f : FuncId} {fn : Func} (hf : P.funcs[f]? = some fn) (hb : fn.body.isSome = true) {args : List SA} {out : SV}
    (h : OwesV P cx sl iv N fn args out) (ρ : Rho) (w : World) (hz : FzOK ρ.fz w) (hg : GlobsOK cx.gl ρ.fz) (hargs : ∀ x ∈ args, x.bnd ⟨fun _ => False, ρ.fz⟩) :
    Calls P f (args.map (SA.conc ρ)).toArray w fun e w' => ∃ v, e = .returned v ∧ (∃ ρ', out.rep ρ' v) ∧ Below w.heap.size w w' := by
  unfold OwesV at h
  refine (calls_of_owesS hcx hsl hf hb h ρ w hz hg hargs).mono ?_
  rintro e w' ⟨v, rfl, hbl, sv, ob', ρ', hp, hr, _⟩
  exact ⟨v, rfl, ⟨ρ', same_sound hp ρ' v hr⟩, hbl⟩
def intV : Value → Int
  | .int _ n => n
  | _ => 0
theorem fit_int {k : IntKind} {v : Value} (h : (LK.int k).fits v) : v = .int k (intV v) ∧ (Lit.int k (intV v)).wf = true := by
  cases v <;> try exact h.elim
  obtain ⟨rfl, h⟩ := h
  exact ⟨rfl, h⟩
def bdLQ : List LQ := [.k (.int .i64), .k (.int .i64), .k (.int .i64)] ++ ((List.replicate 32 (LK.int .u8)).map .k ++ [.k (.int .i64), .k (.int .i64), .sl [.int .u8]])
theorem fits_rowU8 : ∀ {n : Nat} {cs : List Value}, fitsL (List.replicate n (.int .u8)) cs → ∃ g : Nat → Int, cs = (List.range n).map (fun i => Value.int .u8 (g i)) ∧ ∀ i, i < n → 0 ≤ g i ∧ g i < 256
  | 0, cs, h => by
    cases cs with
    | nil => exact ⟨fun _ => 0, rfl, fun _ h => absurd h (Nat.not_lt_zero _)⟩
    | cons c cs => exact h.elim
  | n + 1, cs, h => by
    cases cs with
    | nil => exact h.elim
    | cons c cs =>
      rw [List.replicate_succ] at h
      obtain ⟨e, w⟩ := fit_int h.1
      obtain ⟨g, rfl, hg⟩ := fits_rowU8 h.2
      refine ⟨fun i => match i with | 0 => intV c | i + 1 => g i, ?_, fun i hi => ?_⟩
      · rw [List.range_succ_eq_map, List.map_cons, List.map_map, ← e]; rfl
      · cases i with
        | zero =>
          have := bounds_u8 w
          exact ⟨this.1, by show intV c < 256; omega⟩
        | succ i => exact hg i (by omega)
structure bodyIn (t n c : Int) (em : Nat → Int) (u l : Int) (m : Nat) (k : Nat → Nat → Int) : Prop where
  ht : -9223372036854775808 ≤ t ∧ t ≤ 9223372036854775807
  hn : -9223372036854775808 ≤ n ∧ n ≤ 9223372036854775807
  hc : -9223372036854775808 ≤ c ∧ c ≤ 9223372036854775807
  hem : ∀ i, i < 32 → 0 ≤ em i ∧ em i < 256
  hu : -9223372036854775808 ≤ u ∧ u ≤ 9223372036854775807
  hl : -9223372036854775808 ≤ l ∧ l ≤ 9223372036854775807
  hm : m ≤ maxLen
  hk : ∀ i, i < m → 0 ≤ k i 0 ∧ k i 0 < 256
theorem fits_body {w : World} {cs : List Value} (h : fitsQ w bdLQ cs) : ∃ (t n c : Int) (em : Nat → Int) (u l : Int) (a : Option Addr) (m cap : Nat) (k : Nat → Nat → Int), cs = concs (Rho.whole w) [.c (.val (.int .i64 t)), .c (.val (.int .i64 n)), .c (.val (.int .i64 c)), .f .u8 32 em, .c (.val (.int .i64 u)), .c (.val (.int .i64 l)), .c (.xs a m cap 1 (u8F k))] ∧
    bodyIn t n c em u l m k ∧ SC.bnd ⟨fun _ => False, (Rho.whole w).fz⟩ (.xs a m cap 1 (u8F k)) := by
  obtain ⟨v1, v2, v3, r, rfl, h1, h2, h3, h⟩ : ∃ v1 v2 v3 r, cs = v1 :: v2 :: v3 :: r ∧ (LK.int .i64).fits v1 ∧ (LK.int .i64).fits v2 ∧ (LK.int .i64).fits v3 ∧ fitsQ w ((List.replicate 32 (LK.int .u8)).map .k ++ [.k (.int .i64), .k (.int .i64), .sl [.int .u8]]) r := by
    match cs, h with
    | v1 :: v2 :: v3 :: r, h => exact ⟨v1, v2, v3, r, rfl, h.1, h.2.1, h.2.2.1, h.2.2.2⟩
  obtain ⟨e, r2, rfl, he, hB⟩ := fitsQ_unflat h
  obtain ⟨em, rfl, hem⟩ := fits_rowU8 he
  obtain ⟨v4, v5, v6, rfl, h4, h5, h6⟩ : ∃ v4 v5 v6, r2 = [v4, v5, v6] ∧ (LK.int .i64).fits v4 ∧ (LK.int .i64).fits v5 ∧ (LQ.sl [.int .u8]).fits w v6 := by
    match r2, hB with
    | [v4, v5, v6], h => exact ⟨v4, v5, v6, rfl, h.1, h.2.1, h.2.2.1⟩
  obtain ⟨a, m, cap, f, rfl, hm, hf, hb⟩ := h6
  obtain ⟨k, hk, hb⟩ := fits_bytes hf hb
  obtain ⟨e1, w1⟩ := fit_int h1
  obtain ⟨e2, w2⟩ := fit_int h2
  obtain ⟨e3, w3⟩ := fit_int h3
  obtain ⟨e4, w4⟩ := fit_int h4
  obtain ⟨e5, w5⟩ := fit_int h5
  refine ⟨intV v1, intV v2, intV v3, em, intV v4, intV v5, a, m, cap, k, ?_, ⟨bounds_i64 w1, bounds_i64 w2, bounds_i64 w3, hem, bounds_i64 w4, bounds_i64 w5, hm, hk⟩, hb⟩
  have c1 : ∀ (v : Value) (r : List SK), concs (Rho.whole w) (.c (.val v) :: r) = v :: concs (Rho.whole w) r := fun v r => concs_cons _ _ _
  rw [c1, c1, c1, concs_cons, concs_f, c1, c1, ← e1, ← e2, ← e3, ← e4, ← e5]
  rfl
end Go.Sx
end

section
namespace Go.Proofs.YtpebkgbelifdgaaDoor
open Go.Sx
theorem bw_at (z : Nat) (v : Int) (j : Nat) : 0 ≤ bigAt z v j ∧ bigAt z v j < 256 := ⟨Int.emod_nonneg _ (by decide), Int.emod_lt_of_pos _ (by decide)⟩
theorem bw_in {t n c : Int} {em : Nat → Int} {u l : Int} {k : Nat → Nat → Int} {m : Nat} (he : ∀ j, j < 32 → 0 ≤ em j ∧ em j < 256) (hk : ∀ i, i < m → 0 ≤ k i 0 ∧ k i 0 < 256) :
    ∀ j, j < 55 + m → 0 ≤ bodyF t n c em u l k j ∧ bodyF t n c em u l k j < 256 := by
  intro j hj
  unfold bodyF
  split
  · exact bw_at _ _ _
  split
  · exact bw_at _ _ _
  split
  · exact bw_at _ _ _
  split
  · exact he _ (by omega)
  split
  · exact bw_at _ _ _
  split
  · exact bw_at _ _ _
  · exact hk _ (by omega)
theorem sum_in (n : Nat) (f : Nat → Int) (j : Nat) : 0 ≤ sumB n f j ∧ sumB n f j < 256 := by
  unfold sumB endB firstG
  rw [IntKind.wrap_u8]
  omega
theorem cell_row {n : Nat} {F : Nat → Int} (hF : ∀ j, j < n → 0 ≤ F j ∧ F j < 256) (j : Nat) (hj : j < n) : cellB (bytesI ((List.range n).map F)) j = F j := by
  refine byI_cell ?_ (hF j hj)
  rw [List.getElem?_map, List.getElem?_range hj]
  rfl
theorem cell_body {t n c : Int} {em : Nat → Int} {u l : Int} {k : Nat → Nat → Int} {m : Nat} (he : ∀ j, j < 32 → 0 ≤ em j ∧ em j < 256) (hk : ∀ i, i < m → 0 ≤ k i 0 ∧ k i 0 < 256) (j : Nat) (hj : j < 55 + m) :
    cellB (bodyStr t n c em u l m k) j = bodyF t n c em u l k j := by
  rw [bodyStr_row]
  exact cell_row (bw_in he hk) j hj
theorem ok_rbb (t n c u l : Int) (em : Nat → Int) (a : Option Addr) (m cap : Nat) (k : Nat → Nat → Int) :
    OwesR Tryd.prog cxRb slRb [] 30 Tryd.f6 [sBody t n c em u l a m cap k] true [.s (bytN t n c u l m) .u8 (cellB (bodyStr t n c em u l m k)), .v (sI .i64 (bodyE t n c u l m))] := by
  rw [vc_rbb]
  have k1 : ∀ k : Nat → Nat → Int, kOf (u8F k) = k := fun _ => rfl
  simp only [k1, eq_self, implies_true, and_self, true_and, and_true, bodyStr_size]
  refine ⟨fun h => ?_, fun h => ?_⟩
  · unfold bytN
    rw [if_neg (bne_iff_ne.1 h)]
  · have h0 : bodyE t n c u l m = 0 := by simpa using h
    refine ⟨h0, fun _ cap' _ => ⟨⟨by unfold bytN; rw [if_pos h0], fun i _ => rfl⟩, h0.symm⟩⟩
theorem ok_rbs (t n c u l : Int) (em : Nat → Int) (a : Option Addr) (m cap : Nat) (k : Nat → Nat → Int) (he : ∀ j, j < 32 → 0 ≤ em j ∧ em j < 256) (hk : ∀ i, i < m → 0 ≤ k i 0 ∧ k i 0 < 256) :
    OwesR Tryd.prog cxRb slRb [] 30 Tryd.f7 [sBody t n c em u l a m cap k] false [.v (sRow .u8 32 (smF t n c em u l m k)), .v (sI .i64 (bodyE t n c u l m))] := by
  rw [vc_rbs]
  have k1 : ∀ k : Nat → Nat → Int, kOf (u8F k) = k := fun _ => rfl
  simp only [k1, eq_self, implies_true, and_self, true_and, and_true, bodyStr_size]
  have e1 : (sumB (55 + m) fun j => (((bodyStr t n c em u l m k).data.getD j (0 : UInt8)).toNat : Int)) = sumB (55 + m) (bodyF t n c em u l k) := sumB_congr fun j hj => cell_body he hk j hj
  rw [e1]
  have e2 : ∀ S : Nat → Int, intsL [SK.f .u8 32 S] = (List.range 32).map S := fun S => by simp [intsL]
  rw [e2]
  have e3 : (bytesI ((List.range 32).map (sumB (55 + m) (bodyF t n c em u l k)))).size = 32 := by rw [byI_size, List.length_map, List.length_range]
  rw [e3]
  refine ⟨fun h => ?_, fun h => ?_⟩
  · have hz : ∀ j, (0 : Int) = smF t n c em u l m k j := fun j => by unfold smF; rw [if_neg (bne_iff_ne.1 h)]
    exact ⟨hz _, hz _, hz _, hz _, hz _, hz _, hz _, hz _, hz _, hz _, hz _, hz _, hz _, hz _, hz _, hz _, hz _, hz _, hz _, hz _, hz _, hz _, hz _, hz _, hz _, hz _, hz _, hz _, hz _, hz _, hz _, hz _⟩
  · have h0 : bodyE t n c u l m = 0 := by simpa using h
    have hm := bodyE_m h0
    refine ⟨h0, by omega, by omega, fun j hj => ?_, h0.symm⟩
    unfold smF
    rw [if_pos h0]
    refine congrFun (sumB_congr fun i hi => ?_) j
    exact cell_row (fun j _ => sum_in _ _ j) i hi
theorem card_rbb {gl : Globs} : FnOKs Tryd.prog gl 6 cRbb := by
  refine FnOKs.up0 (FnOKs_Q (cx := cxRb) (okx_cons card_Hash (okx_mark (okx_mark okx_nil))) (sl := slRb) (oks_cons card_bft (oks_cons card_rbdt oks_nil)) Tryd.func6 (by kernel_rfl) (by kernel_rfl) fun ls hc => ?_) gl
  unfold rbC at hc
  split at hc
  · rename_i t n c em u l a m cap f
    obtain ⟨h, _⟩ := hc
    have := ok_rbb t n c u l em a m cap (kOf f)
    unfold sBody ksBody at this
    rw [← h.nf] at this
    refine ⟨_, _, fun r hr => ?_, this⟩
    simp only [rbbS, List.mem_cons, List.not_mem_nil, or_false] at hr
    rcases hr with rfl | rfl <;> exact trivial
  · exact hc.1.elim
theorem card_rbs {gl : Globs} : FnOKs Tryd.prog gl 7 cRbs := by
  refine FnOKs.up0 (FnOKs_Q (cx := cxRb) (okx_cons card_Hash (okx_mark (okx_mark okx_nil))) (sl := slRb) (oks_cons card_bft (oks_cons card_rbdt oks_nil)) Tryd.func7 (by kernel_rfl) (by kernel_rfl) fun ls hc => ?_) gl
  unfold rbC at hc
  split at hc
  · rename_i t n c em u l a m cap f
    obtain ⟨h, _⟩ := hc
    have := ok_rbs t n c u l em a m cap (kOf f) h.em h.k
    unfold sBody ksBody at this
    rw [← h.nf] at this
    refine ⟨_, _, fun r hr => ?_, this⟩
    simp only [smS, List.mem_cons, List.not_mem_nil, or_false] at hr
    rcases hr with rfl | rfl
    · exact bnd_row _ _ _ _
    · exact trivial
  · exact hc.1.elim
theorem okl_BW (t n c u l : Int) (em : Nat → Int) (a : Option Addr) (m cap : Nat) (k : Nat → Nat → Int) (h : bodyIn t n c em u l m k) :
    OwesV Tryd.prog cxBW slBW [] 30 Tryd.f3 [sBody t n c em u l a m cap k] yes := by
  rw [vc_BW]
  have k1 : ∀ k : Nat → Nat → Int, kOf (u8F k) = k := fun _ => rfl
  have q : bytIn em m (u8F k) := ⟨rfl, h.hem, h.hk⟩
  have e1 : ((bytesI ((List.range (bytN t n c u l m)).map fun j => bodyF t n c em u l k j)).toList == (bytesI ((List.range (bytN t n c u l m)).map fun j => cellB (bodyStr t n c em u l m k) j)).toList) = true := by
    rw [beq_iff_eq]
    congr 2
    refine row_congr fun j hj => ?_
    unfold bytN at hj
    split at hj
    · exact (cell_body h.hem h.hk j hj).symm
    · omega
  simp only [k1, q, e1, eq_self, implies_true, and_self, true_and, and_true, beq_self_eq_true, Bool.true_and, conj, List.all_eq_true, imp_self, forall_const]
  intros
  rfl
theorem cxok_BW : CxOK Tryd.prog cxBW := okx_mark (okx_mark (okx_mark (okx_mark okx_nil)))
theorem sl_BW : ∀ p ∈ slBW, FnOKs Tryd.prog glK p.1 p.2 := oks_cons card_by (oks_cons card_sm (oks_cons card_rbb (oks_cons card_rbs oks_nil)))
end Go.Proofs.YtpebkgbelifdgaaDoor
end
