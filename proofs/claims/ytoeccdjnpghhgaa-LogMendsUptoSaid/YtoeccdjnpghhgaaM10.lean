/-
  Texts: P410, Lex, V301, P411, V302, P413, V303.
-/
import Derived.Test.YtoeccdjnpghhgaaM1
import Derived.Test.YtoeccdjnpghhgaaM2
import Derived.Test.YtoeccdjnpghhgaaM3
import Derived.Test.YtoeccdjnpghhgaaM4
import Derived.Test.YtoeccdjnpghhgaaM5
import Derived.Test.YtoeccdjnpghhgaaM6
import Derived.Test.YtoeccdjnpghhgaaM7
import Derived.Test.YtoeccdjnpghhgaaM8
import Derived.Test.YtoeccdjnpghhgaaM9
import Derived.Lib.BytesEntry
section
namespace Go.Proofs.Ytoeccdjnpghhgaa
open Go Go.Sx
set_option maxRecDepth 100000
theorem iOr_add (X b : Int) (hX : 0 ≤ X ∧ X < 256) (hb : 0 ≤ b ∧ b < 256) : IntKind.i64.wrap ((BitVec.ofInt 64 (IntKind.i64.wrap (IntKind.i64.wrap X * 256)) ||| BitVec.ofInt 64 (IntKind.i64.wrap b)).toNat : Int) = X * 256 + b := by
  have w : ∀ z : Int, 0 ≤ z ∧ z < 65536 → IntKind.i64.wrap z = z := fun z hz => by rw [IntKind.wrap_i64]; omega
  rw [w X (by omega), w (X * 256) (by omega), w b (by omega)]
  obtain ⟨x, rfl⟩ := Int.eq_ofNat_of_zero_le hX.1
  obtain ⟨c, rfl⟩ := Int.eq_ofNat_of_zero_le hb.1
  have e : (BitVec.ofInt 64 ((x : Int) * 256) ||| BitVec.ofInt 64 (c : Int)).toNat = x * 256 + c := by
    rw [BitVec.toNat_or, show ((x : Int) * 256) = ((x * 256 : Nat) : Int) by rw [Int.natCast_mul]; rfl, BitVec.ofInt_natCast, BitVec.ofInt_natCast, BitVec.toNat_ofNat, BitVec.toNat_ofNat, Nat.mod_eq_of_lt (by omega), Nat.mod_eq_of_lt (by omega)]
    have := Nat.shiftLeft_add_eq_or_of_lt (b := c) (i := 8) (by omega) x
    rw [Nat.shiftLeft_eq] at this
    exact this.symm
  rw [e]
  exact w _ (by omega)
theorem ok_by (a b : Option Addr) (n cap cb : Nat) (B B' : Nat → Int) (h : ∀ i, i < n → B i = B' i) :
    OwesR Try.prog .none [] [] 4 Try.f23 [xsI a n cap .u8 B, xsI b n cb .u8 B'] false [.v (sB true)] := by
  rw [vc_by]
  have e : List.map (fun j => B j) (List.range n) = List.map (fun j => B' j) (List.range n) := List.map_congr_left fun j hj => h j (List.mem_range.1 hj)
  rw [e]
  exact ⟨fun _ => trivial, fun _ => trivial, beq_self_eq_true _⟩
theorem card_by {gl : Globs} : FnOKs Try.prog gl 23 cBy := by
  refine FnOKs.up0 (FnOKs_R0 (cx := .none) okx_nil (sl := []) oks_nil Try.func23 (by kernel_rfl) (by kernel_rfl) fun ls hc => ?_) gl
  unfold byC at hc
  split at hc
  · rename_i a n cap f b m cb g
    obtain ⟨p, _⟩ := hc
    have hm := p.bn
    subst hm
    have := ok_by a b n cap cb (bOf f) (bOf g) p.be
    unfold xsI at this
    rw [show (fun (i _ : Nat) => SC.val (.int .u8 (bOf f i))) = f from p.bf.symm, show (fun (i _ : Nat) => SC.val (.int .u8 (bOf g i))) = g from p.bg.symm] at this
    refine ⟨_, _, _, fun ρ => rfl, fun E hE y hy => hE y hy, fun r hr => ?_, this⟩
    rw [List.mem_singleton.1 hr]; exact trivial
  · exact hc.1.elim
theorem ok_su (a : Option Addr) (n cap : Nat) (B : Nat → Int) (_ : ∀ i, i < n → 0 ≤ B i ∧ B i < 256) (hn : n ≤ 16777216) :
    OwesR Try.prog .none [] [(3, .inv (suI a n cap B))] 10 Try.f27 [xsI a n cap .u8 B] false [.v (sI .u8 (smB B 0 n % 256))] := by
  rw [vc_su]
  have sim : simC (SC.xs a n cap 1 fun (i _ : Nat) => .val (.int .u8 (B i))) (SC.xs a n cap 1 fun (i _ : Nat) => .val (.int .u8 (B i))) := ⟨rfl, rfl, rfl, fun _ _ => rfl⟩
  refine ⟨fun _ => rfl, 0, Nat.zero_le _, rfl, sim, rfl, rfl, fun y hy => ⟨fun h => ?_, fun h => ?_⟩⟩
  · have h := of_decide_eq_true h
    have hlt : y < n := by omega
    refine ⟨⟨by omega, h⟩, y + 1, by omega, ?_, sim, rfl, ?_, by show n - (y + 1) + 1 ≤ n - y; omega⟩
    · rw [Int.toNat_natCast, IntKind.wrap_u8]
      show (smB B 0 y % 256 + B y) % 256 = (smB B 0 y + B (0 + y)) % 256
      rw [Nat.zero_add]; omega
    · rw [IntKind.wrap_i64]; omega
  · have h := of_decide_eq_false h
    rw [show y = n by omega]
theorem bnd_by {a : Option Addr} {n cap : Nat} {f : Nat → Nat → SC} {E : Env} (h : f = byF (bOf f)) (hb : (SA.sc (.xs a n cap 1 f)).bnd E) : (xsI a n cap .u8 (bOf f)).bnd E := by
  rw [h] at hb; exact hb
theorem card_su {gl : Globs} : FnOKs Try.prog gl 27 cSu := by
  refine FnOKs.up0 (FnOKs_R0 (cx := .none) okx_nil (sl := []) oks_nil Try.func27 (by kernel_rfl) (by kernel_rfl) fun ls hc => ?_) gl
  unfold b1C at hc
  split at hc
  · rename_i a n cap f
    obtain ⟨p, _⟩ := hc
    refine ⟨_, 10, [xsI a n cap .u8 (bOf f)], fun ρ => rfl, fun E hE y hy => ?_, fun r hr => ?_, ok_su a n cap (bOf f) p.bb p.bl⟩
    · rw [List.mem_singleton.1 hy]
      exact bnd_by p.bf (hE _ (List.mem_cons_self ..))
    · unfold suG at hr
      rw [List.mem_singleton.1 hr]; exact trivial
  · exact hc.1.elim
theorem ok_fi (a : Option Addr) (n cap : Nat) (B : Nat → Int) (v : Int) (hb : ∀ i, i < n → 0 ≤ B i ∧ B i < 256) (hn : n ≤ 16777216) :
    OwesR Try.prog .none slSu [] 10 Try.f30 [xsI a n cap .u8 B, sI .u8 v] false [.v (sB (smB B 0 n % 256 == v))] := by
  rw [vc_fi]
  exact ⟨⟨rfl, hb, hn⟩, rfl⟩
theorem card_fi {gl : Globs} : FnOKs Try.prog gl 30 cFi := by
  refine FnOKs.up0 (FnOKs_R0 (cx := .none) okx_nil (sl := slSu) (oks_cons card_su oks_nil) Try.func30 (by kernel_rfl) (by kernel_rfl) fun ls hc => ?_) gl
  unfold fiC at hc
  split at hc
  · rename_i a n cap f v
    obtain ⟨p, _⟩ := hc
    refine ⟨_, 10, [xsI a n cap .u8 (bOf f), sI .u8 v], fun ρ => rfl, fun E hE y hy => ?_, fun r hr => ?_, ok_fi a n cap (bOf f) v p.bb p.bl⟩
    · simp only [List.mem_cons, List.not_mem_nil, or_false] at hy
      rcases hy with rfl | rfl
      · exact bnd_by p.bf (hE _ (List.mem_cons_self ..))
      · exact trivial
    · unfold fiG at hr
      rw [List.mem_singleton.1 hr]; exact trivial
  · exact hc.1.elim
theorem okx_ap : CxOK Try.prog cxAp := okx_mark okx_nil
theorem ok_cl (a : Option Addr) (n cap : Nat) (B : Nat → Int) (hz : a.isNone = true → n = 0) (hn : n ≤ 16777216) :
    OwesR Try.prog cxAp [] [] 10 Try.f19 [xsI a n cap .u8 B] true [.s n .u8 B] := by
  rw [vc_cl]
  have hML : maxLen = 9223372036854775807 := rfl
  intro x1
  have e1 : x1 = n := Nat.zero_add n
  refine ⟨hz, fun _ => ⟨⟨by omega, by omega, rfl⟩, ⟨by omega, by omega⟩, fun c hc => ⟨by omega, e1, by omega, fun i _ => ?_⟩⟩⟩
  rw [Nat.zero_add]
theorem card_cl {gl : Globs} : FnOKs Try.prog gl 19 cCl := by
  refine FnOKs.up0 (FnOKs_R0 (cx := cxAp) okx_ap (sl := []) oks_nil Try.func19 (by kernel_rfl) (by kernel_rfl) fun ls hc => ?_) gl
  unfold clC at hc
  split at hc
  · rename_i a n cap f
    obtain ⟨p, hz, _⟩ := hc
    have k := ok_cl a n cap (bOf f) (fun h => hz (Option.isNone_iff_eq_none.1 h)) p.bl
    refine ⟨_, 10, [xsI a n cap .u8 (bOf f)], fun ρ => ?_, fun E hE y hy => ?_, fun r hr => ?_, k⟩
    · rfl
    · rw [List.mem_singleton.1 hy]
      exact bnd_by p.bf (hE _ (List.mem_cons_self ..))
    · unfold clG at hr
      rw [List.mem_singleton.1 hr]; exact trivial
  · exact hc.1.elim
theorem cat_at {n : Nat} {B B' : Nat → Int} (i : Nat) : (bif decide (i < n) then B i else B' (i - n)) = catB n B B' i := by
  unfold catB
  by_cases h : i < n <;> simp [h]
theorem ok_cc (b a a' : Option Addr) (m n cap n' cap' : Nat) (B B' : Nat → Int) (hn : n ≤ 16777216) (hn' : n' ≤ 16777216) :
    OwesR Try.prog cxCc [] [] 10 Try.f20 [.sc (.xs b 2 m 1 (twB a n cap B a' n' cap' B'))] true [.s (n + n') .u8 (catB n B B')] := by
  rw [vc_cc]
  have hML : maxLen = 9223372036854775807 := rfl
  intro x1 x2 x3 x4 x5 x6 x7 x8 x9 x10 x11
  have e1 : x1 = (n : Int) := by show IntKind.i64.wrap (0 + (n : Int)) = _; rw [IntKind.wrap_i64]; omega
  have e3 : x3 = ((n + n' : Nat) : Int) := by show IntKind.i64.wrap (x1 + (n' : Int)) = _; rw [e1, IntKind.wrap_i64]; omega
  have e6 : x6 = ((n + n' : Nat) : Int) := by show IntKind.i64.wrap (x3 - 0) = _; rw [e3, IntKind.wrap_i64]; omega
  have e6' : x6.toNat = n + n' := by rw [e6]; exact Int.toNat_natCast _
  have e7 : x7 = n := Nat.zero_add n
  have e8 : x8 = n := by show x7 * 1 = _; rw [e7, Nat.mul_one]
  have e9 : x9 = n + n' := by show x7 + n' = _; rw [e7]
  have e10 : x10 = n + n' := rfl
  have e11 : x11 = n := Nat.mul_one n
  have h5 : x4 → False := fun h => by
    have h : decide (x3 < 0) = true := h
    rw [e3, decide_eq_true_eq] at h; omega
  clear_value x1 x3 x6 x7 x8 x9 x10 x11
  refine ⟨by omega, fun h => ?_, fun _ => ⟨by omega, fun h => (h5 h).elim, fun _ => ⟨fun h => (h5 h).elim, fun _ => ⟨fun h => ?_, fun h => ?_⟩⟩⟩⟩
  · rw [e1, decide_eq_true_eq] at h; omega
  · rw [decide_eq_true_eq] at h
    refine ⟨by omega, fun c hc => ⟨by omega, by omega, rfl, rfl, by omega, by omega, fun c1 hc1 => ⟨by omega, rfl, rfl, by omega, by omega, fun c2 hc2 => ⟨by omega, by omega, by omega, fun i hi => ?_⟩⟩⟩⟩
    subst e7
    rw [Nat.zero_add, Nat.sub_zero]
    exact cat_at i
  · rw [decide_eq_false_iff_not] at h
    have hz : n = 0 := by omega
    have hz' : n' = 0 := by omega
    exact ⟨by omega, by omega, fun _ => ⟨by omega, by omega, fun _ => by omega, fun h => absurd hz' h⟩, fun h => absurd hz h⟩
def ccC : List (List FD) → List Prop
  | [[.x _ n _ f]] => [n = 2, ∃ a m cap g, f 0 0 = .xs a m cap 1 g ∧ bP m g, ∃ a m cap g, f 1 0 = .xs a m cap 1 g ∧ bP m g]
  | _ => [False]
def xN : SC → Nat
  | .xs _ n _ _ _ => n
  | _ => 0
def xG : SC → Nat → Nat → SC
  | .xs _ _ _ _ g => g
  | _ => fun _ _ => .bit false
def ccG : List (List FD) → List RS
  | [[.x _ _ _ f]] => [.s (xN (f 0 0) + xN (f 1 0)) .u8 (catB (xN (f 0 0)) (bOf (xG (f 0 0))) (bOf (xG (f 1 0))))]
  | _ => []
def cCc : SSpec := specQ0 true [.one (.x 1)] ccC ccG
theorem okx_Cc : CxOK Try.prog cxCc := okx_mark (okx_mark (okx_mark (okx_mark (okx_mark (okx_mark okx_nil)))))
theorem card_cc {gl : Globs} : FnOKs Try.prog gl 20 cCc := by
  refine FnOKs.up0 (FnOKs_R0 (cx := cxCc) okx_Cc (sl := []) oks_nil Try.func20 (by kernel_rfl) (by kernel_rfl) fun ls hc => ?_) gl
  unfold ccC at hc
  split at hc
  · rename_i b n m f
    obtain ⟨hn, ⟨a0, n0, cap0, g0, t0, q0⟩, ⟨a1, n1, cap1, g1, t1, q1⟩, _⟩ := hc
    subst hn
    have e0 : g0 = byF (bOf g0) := q0.bf
    have e1 : g1 = byF (bOf g1) := q1.bf
    refine ⟨[], 10, [.sc (.xs b 2 m 1 (twB a0 n0 cap0 (bOf g0) a1 n1 cap1 (bOf g1)))], fun ρ => rfl, fun E hE y hy => ?_, fun r hr => ?_, ?_⟩
    · rw [List.mem_singleton.1 hy]
      have hb : (SC.xs b 2 m 1 f).bnd E := hE _ (List.mem_cons_self ..)
      obtain ⟨b1, b2, b3⟩ := hb
      refine ⟨b1, b2, fun bb hbb => ⟨(b3 bb hbb).1, fun i hi c hc => ?_⟩⟩
      have hq := (b3 bb hbb).2 i hi c hc
      have hc0 : c = 0 := by omega
      subst hc0
      rcases (by omega : i = 0 ∨ i = 1) with rfl | rfl
      · rw [t0, e0] at hq
        exact ⟨hq.1, rfl, hq.2.2⟩
      · rw [t1, e1] at hq
        exact ⟨hq.1, rfl, hq.2.2⟩
    · rw [List.mem_singleton.1 hr]
      exact trivial
    · have := ok_cc b a0 a1 m n0 cap0 n1 cap1 (bOf g0) (bOf g1) q0.bl q1.bl
      have e : ccG [[.x b 2 m f]] = [.s (n0 + n1) .u8 (catB n0 (bOf g0) (bOf g1))] := by
        unfold ccG
        simp only [t0, t1, xN, xG]
      rw [e]
      exact this
  · exact hc.1.elim
theorem ok_le (a : Option Addr) (n cap : Nat) (B : Nat → Int) (hb : ∀ i, i < n → 0 ≤ B i ∧ B i < 256) (hn : 2 ≤ n) :
    OwesR Try.prog .none [] [] 10 Try.f29 [xsI a n cap .u8 B] false [.v (sI .i64 (B 0 * 256 + B 1))] := by
  rw [vc_le]
  exact ⟨by omega, by omega, iOr_add (B 0) (B 1) (hb 0 (by omega)) (hb 1 (by omega))⟩
def leC : List (List FD) → List Prop
  | [[.x _ n _ f]] => [bP n f, 2 ≤ n]
  | _ => [False]
def leG : List (List FD) → List RS
  | [[.x _ _ _ f]] => [.v (sI .i64 (bOf f 0 * 256 + bOf f 1))]
  | _ => []
def cLe : SSpec := specQ0 false [.one (.x 1)] leC leG
theorem card_le {gl : Globs} : FnOKs Try.prog gl 29 cLe := by
  refine FnOKs.up0 (FnOKs_R0 (cx := .none) okx_nil (sl := []) oks_nil Try.func29 (by kernel_rfl) (by kernel_rfl) fun ls hc => ?_) gl
  unfold leC at hc
  split at hc
  · rename_i a n cap f
    obtain ⟨p, hn, _⟩ := hc
    refine ⟨_, 10, [xsI a n cap .u8 (bOf f)], fun ρ => rfl, fun E hE y hy => ?_, fun r hr => ?_, ok_le a n cap (bOf f) p.bb hn⟩
    · rw [List.mem_singleton.1 hy]
      exact bnd_by p.bf (hE _ (List.mem_cons_self ..))
    · unfold leG at hr
      rw [List.mem_singleton.1 hr]; exact trivial
  · exact hc.1.elim
end Go.Proofs.Ytoeccdjnpghhgaa
end

section
namespace Go.Sx
open Go.RowKit
def vl : List Nat → Nat
  | [] => 0
  | a :: l => a * 256 ^ l.length + vl l
def kv (w : Nat → Int) : Nat := vl ((List.range 32).map fun j => (w j).toNat)
attribute [irreducible] kv
end Go.Sx
end

section
namespace Go.Proofs.Ytoeccdjnpghhgaa
open Go.Sx
set_option maxRecDepth 100000
def sLg (a : Option Addr) (n cap : Nat) (F : Nat → Int) (b : Option Addr) (m cb : Nat) (G : Nat → Int) : SA := .agg [.c (.xs a n cap 1 (byF F)), .c (.xs b m cb 1 (byF G))]
def zl (e : Int) (n : Nat) : Nat := if e = 0 then n else 0
structure bQ (a : Option Addr) (n : Nat) (f : Nat → Nat → SC) : Prop where
  bf : f = byF (bOf f)
  bb : ∀ i, i < n → 0 ≤ bOf f i ∧ bOf f i < 256
  bl : n ≤ maxLen
  bz : a = none → n = 0
def cxLA : Cx := ⟨[(1000000008, fun _ => none), (1000000010, fun _ => none), (1000000012, fun _ => none), (1000000013, fun _ => none), (1000000014, fun _ => none)], [], 0, []⟩
def bigAt (k : Nat) (v : Int) (j : Nat) : Int := v / 256 ^ (k - 1 - j) % 256
def bigL (k : Nat) (v : Int) : List Int := (List.range k).map (bigAt k v)
def bigB (k : Nat) (v : Int) : ByteArray := bytesI (bigL k v)
def cBigK : FSpec := fun args =>
  match args with
  | [x, y] => match asI x, asI y with
    | some (.u64, v), some (.i64, 1) => some ([0 ≤ v ∧ v < 18446744073709551616], .one (sStr (bigB 1 v)))
    | some (.u64, v), some (.i64, 2) => some ([0 ≤ v ∧ v < 18446744073709551616], .one (sStr (bigB 2 v)))
    | _, _ => none
  | _ => none
def txI (a : Option Addr) (n cap : Nat) (B : Nat → Int) : Inv where
  X := Nat
  tm i := slotsAt 28 [(0, .one (xsI a n cap .u8 B)), (3, .one (sI .i64 (smB B 0 i))), (6, .one (xsI a n cap .u8 B)), (7, .one (sI .i64 (n : Int))), (8, .one (sI .i64 (i : Int)))]
  ob _ := []
  holds i := i ≤ n
  less i := n - i
def cxTx : Cx := ⟨[(28, cBigK), (1000000010, fun _ => none), (1000000012, fun _ => none)], [], 0, []⟩
def frT (B : Nat → Int) (n : Nat) : ByteArray := bytesI ((List.range (n + 3)).map (frB B n))
def txG : List (List FD) → List RS
  | [[.x _ n _ f]] => [.v (sStr (frT (bOf f) n))]
  | _ => []
def cTx : SSpec := specQ0 false [.one (.x 1)] frC txG
def slTx : List (Nat × SSpec) := [(22, cTx)]
def slSm : List (Nat × SSpec) := [(23, cBy)]
def slC : List (List FD) → List Prop
  | [[.x _ n _ f, .x _ m _ g], [.x _ n' _ f', .x _ m' _ g']] => [byP n n' f f', byP m m' g g']
  | _ => [False]
def cSl : SSpec := specQ0 false [.st [.x 1, .x 1], .st [.x 1, .x 1]] slC byG
theorem vc_rbig1 (v : Int) :
    Owes Try.prog Cx.none [] 12 Try.f28 [sI .u64 v, .sc (.num .i64 1)] (.one (sStr (bigB 1 v))) =
    ((bytesI (intsL [SK.c (SC.val (Go.Value.int Go.IntKind.u8 (Go.IntKind.u8.wrap v)))])).size + 0 ≤ 9223372036854775807 ∧ bytesI (intsL [SK.c (SC.val (Go.Value.int Go.IntKind.u8 (Go.IntKind.u8.wrap v)))]) ++ (ByteArray.mk #[]) = bigB 1 v) := by kernel_rfl
theorem vc_rbig2 (v : Int) :
    Owes Try.prog Cx.none [] 12 Try.f28 [sI .u64 v, .sc (.num .i64 2)] (.one (sStr (bigB 2 v))) =
    ((bytesI (intsL [SK.c (SC.val (Go.Value.int Go.IntKind.u8 (Go.IntKind.u8.wrap v)))])).size + 0 ≤ 9223372036854775807 ∧ (bytesI (intsL [SK.c (SC.val (Go.Value.int Go.IntKind.u8 (Go.IntKind.u8.wrap (v.fdiv (256 : Int)))))])).size + (bytesI (intsL [SK.c (SC.val (Go.Value.int Go.IntKind.u8 (Go.IntKind.u8.wrap v)))]) ++ (ByteArray.mk #[])).size ≤ 9223372036854775807 ∧ bytesI (intsL [SK.c (SC.val (Go.Value.int Go.IntKind.u8 (Go.IntKind.u8.wrap (v.fdiv (256 : Int)))))]) ++ (bytesI (intsL [SK.c (SC.val (Go.Value.int Go.IntKind.u8 (Go.IntKind.u8.wrap v)))]) ++ (ByteArray.mk #[])) = bigB 2 v) := by kernel_rfl
theorem vc_ltx (a : Option Addr) (n cap : Nat) (B : Nat → Int) (r : ByteArray) :
    OwesR Try.prog cxTx [] [(3, .inv (txI a n cap B))] 10 Try.f22 [xsI a n cap .u8 B] false [.v (sStr r)] =
    ((∀ (y : Nat), closedB ((txI a n cap B).tm y) ((txI a n cap B).ob y) = Bool.true) ∧ ∃ (y : Nat), y ≤ n ∧ simC (SC.xs a n cap 1 fun (i _ : Nat) => SC.val (Go.Value.int Go.IntKind.u8 (B i))) (SC.xs a n cap 1 fun (i _ : Nat) => SC.val (Go.Value.int Go.IntKind.u8 (B i))) ∧ (0 : Int) = smB B 0 y ∧ simC (SC.xs a n cap 1 fun (i _ : Nat) => SC.val (Go.Value.int Go.IntKind.u8 (B i))) (SC.xs a n cap 1 fun (i _ : Nat) => SC.val (Go.Value.int Go.IntKind.u8 (B i))) ∧ (↑n : Int) = (↑n : Int) ∧ (0 : Int) = (↑y : Int) ∧ ∀ (y : Nat), y ≤ n → (Decidable.decide ((↑y : Int) < (↑n : Int)) = Bool.true → ((0 : Int) ≤ (↑y : Int) ∧ (↑y : Int) < (↑n : Int)) ∧ ∃ (y' : Nat), y' ≤ n ∧ simC (SC.xs a n cap 1 fun (i _ : Nat) => SC.val (Go.Value.int Go.IntKind.u8 (B i))) (SC.xs a n cap 1 fun (i _ : Nat) => SC.val (Go.Value.int Go.IntKind.u8 (B i))) ∧ Go.IntKind.i64.wrap (smB B 0 y + Go.IntKind.i64.wrap (B (↑y : Int).toNat)) = smB B 0 y' ∧ simC (SC.xs a n cap 1 fun (i _ : Nat) => SC.val (Go.Value.int Go.IntKind.u8 (B i))) (SC.xs a n cap 1 fun (i _ : Nat) => SC.val (Go.Value.int Go.IntKind.u8 (B i))) ∧ (↑n : Int) = (↑n : Int) ∧ Go.IntKind.i64.wrap ((↑y : Int) + (1 : Int)) = (↑y' : Int) ∧ (n - y').succ.le (n - y)) ∧ (Decidable.decide ((↑y : Int) < (↑n : Int)) = Bool.false → ((0 : Int) ≤ Go.IntKind.u64.wrap (↑n : Int) ∧ Go.IntKind.u64.wrap (↑n : Int) < (18446744073709551616 : Int)) ∧ (∀ (_ : Nat), True) ∧ (bigB 2 (Go.IntKind.u64.wrap (↑n : Int))).size + (bytesI (List.map (fun (j : Nat) => B j) (List.range n))).size ≤ 9223372036854775807 ∧ ((0 : Int) ≤ Go.IntKind.u64.wrap (smB B 0 y) ∧ Go.IntKind.u64.wrap (smB B 0 y) < (18446744073709551616 : Int)) ∧ (bigB 2 (Go.IntKind.u64.wrap (↑n : Int)) ++ bytesI (List.map (fun (j : Nat) => B j) (List.range n))).size + (bigB 1 (Go.IntKind.u64.wrap (smB B 0 y))).size ≤ 9223372036854775807 ∧ bigB 2 (Go.IntKind.u64.wrap (↑n : Int)) ++ bytesI (List.map (fun (j : Nat) => B j) (List.range n)) ++ bigB 1 (Go.IntKind.u64.wrap (smB B 0 y)) = r)) := by kernel_rfl
theorem vc_sl (a : Option Addr) (n cap : Nat) (F : Nat → Int) (b : Option Addr) (m cb : Nat) (G : Nat → Int) (a' : Option Addr) (n' cap' : Nat) (F' : Nat → Int) (b' : Option Addr) (m' cb' : Nat) (G' : Nat → Int) :
    OwesR Try.prog cxLA slSm [] 10 Try.f9 [sLg a n cap F b m cb G, sLg a' n' cap' F' b' m' cb' G'] false [.v (sB true)] =
    (∀ (_ _ : Go.Addr), byP n n' (byF F) (byF F') ∧ (Bool.true = Bool.true → Bool.true = Bool.true) ∧ (Bool.true = Bool.true → Bool.true = Bool.true) ∧ (Bool.true = Bool.true → Bool.true = Bool.true ∧ Bool.true = Bool.true ∧ byP m m' (byF G) (byF G') ∧ Bool.true = Bool.true) ∧ (Bool.true = Bool.false → Bool.false = Bool.true)) := by kernel_rfl
end Go.Proofs.Ytoeccdjnpghhgaa
end

section
namespace Go.Proofs.Ytoeccdjnpghhgaa
open Go Go.Sx
set_option maxRecDepth 100000
theorem bQ_bP {a : Option Addr} {n : Nat} {f : Nat → Nat → SC} (h : bQ a n f) (hn : n ≤ 16777216) : bP n f := ⟨h.bf, h.bb, hn⟩
theorem simby {a b : Int} (h : a = b) : simC (SC.val (.int .u8 a)) (SC.val (.int .u8 b)) := by subst h; rfl
theorem frB_in {H : Nat → Int} {k : Nat} (hb : ∀ i, i < k → 0 ≤ H i ∧ H i < 256) (hk : k ≤ 200) {i : Nat} (hi : i < k + 3) : 0 ≤ frB H k i ∧ frB H k i < 256 := by
  unfold frB
  by_cases h0 : i = 0
  · rw [if_pos h0]; omega
  · rw [if_neg h0]
    by_cases h1 : i = 1
    · rw [if_pos h1]; omega
    · rw [if_neg h1]
      by_cases h2 : i < k + 2
      · rw [if_pos h2]; exact hb _ (by omega)
      · rw [if_neg h2]; omega
theorem bnd_lg {a : Option Addr} {n cap : Nat} {f : Nat → Nat → SC} {b : Option Addr} {m cb : Nat} {g : Nat → Nat → SC} {E : Env} (hf : f = byF (bOf f)) (hg : g = byF (bOf g)) (hb : (mkQ (.st [.x 1, .x 1]) [.x a n cap f, .x b m cb g]).bnd E) : (sLg a n cap (bOf f) b m cb (bOf g)).bnd E := by
  rw [hf, hg] at hb; exact hb
theorem okx_LA : CxOK Try.prog cxLA := okx_mark (okx_mark (okx_mark (okx_mark (okx_mark okx_nil))))
theorem bigB_row (k : Nat) (v : Int) : bigB k v = bytesI ((List.range k).map (bigAt k v)) := rfl
theorem bigB_size (k : Nat) (v : Int) : (bigB k v).size = k := by rw [bigB_row, byI_size, List.length_map, List.length_range]
theorem one_list (z : Int) : (bytesI (intsL [SK.c (SC.val (Value.int IntKind.u8 z))])).data.toList = [UInt8.ofNat z.toNat] := by rw [byI_list]; rfl
theorem one_size (z : Int) : (bytesI (intsL [SK.c (SC.val (Value.int IntKind.u8 z))])).size = 1 := by rw [byI_size]; rfl
theorem nil_size : (ByteArray.mk #[]).size = 0 := rfl
theorem nil_list : (ByteArray.mk #[]).data.toList = [] := rfl
theorem bigB_list (k : Nat) (v : Int) : (bigB k v).data.toList = (List.range k).map fun j => UInt8.ofNat (bigAt k v j).toNat := by rw [bigB_row, byI_list, List.map_map]; rfl
theorem fdiv_256 (z : Int) : z.fdiv 256 = z / 256 := Int.fdiv_eq_ediv_of_nonneg z (by decide)
theorem ok_rbig1 (v : Int) : Owes Try.prog Cx.none [] 12 Try.f28 [sI .u64 v, .sc (.num .i64 1)] (.one (sStr (bigB 1 v))) := by
  rw [vc_rbig1]
  simp only [one_size]
  refine ⟨by decide, txt_ext ?_⟩
  simp only [txt_app, one_list, nil_list, bigB_list, IntKind.wrap_u8, List.append_nil]
  show _ = [_]
  unfold bigAt
  simp
theorem ok_rbig2 (v : Int) : Owes Try.prog Cx.none [] 12 Try.f28 [sI .u64 v, .sc (.num .i64 2)] (.one (sStr (bigB 2 v))) := by
  rw [vc_rbig2]
  simp only [ByteArray.size_append, one_size, nil_size, fdiv_256]
  refine ⟨by decide, by decide, txt_ext ?_⟩
  simp only [txt_app, one_list, nil_list, bigB_list, IntKind.wrap_u8, List.append_nil]
  show _ = [_, _]
  unfold bigAt
  simp
theorem card_rbig : FnOK Try.prog 28 cBigK := by
  refine FnOK_owes (cx := Cx.none) (iv := []) (N := 12) okx_nil Try.func28 (by kernel_rfl) (by kernel_rfl) fun args ps sv hs hp => ?_
  unfold cBigK at hs
  split at hs
  case h_2 => cases hs
  rename_i x y
  split at hs
  case h_3 => cases hs
  all_goals
    rename_i v hx hy
    simp only [Option.some.injEq, Prod.mk.injEq] at hs
    obtain ⟨rfl, rfl⟩ := hs
    refine ⟨[sI .u64 v, .sc (.num .i64 _)], fun ρ => by simp only [List.map_cons, List.map_nil, asI_sound hx ρ, asI_sound hy ρ]; rfl, fun z hz => ?_, trivial, ?_⟩
  case h_1.refine_2 => exact ok_rbig1 v
  case h_2.refine_2 => exact ok_rbig2 v
  all_goals
    simp only [List.mem_cons, List.not_mem_nil, or_false] at hz
    rcases hz with rfl | rfl <;> trivial
theorem smB_in {B : Nat → Int} {n o : Nat} (hb : ∀ i, i < n → 0 ≤ B i ∧ B i < 256) : ∀ k, o + k ≤ n → 0 ≤ smB B o k ∧ smB B o k ≤ 256 * k
  | 0, _ => ⟨Int.le_refl _, by simp [smB]⟩
  | k + 1, h => by
    have ih := smB_in (n := n) (o := o) hb k (by omega)
    have := hb (o + k) (by omega)
    unfold smB
    omega
theorem frT_eq (B : Nat → Int) (n : Nat) (hn : n ≤ 200) : frT B n = bigB 2 n ++ bytesI ((List.range n).map B) ++ bigB 1 (smB B 0 n) := by
  unfold frT
  rw [bigB_row, bigB_row, ← byI_app, ← byI_app]
  congr 1
  rw [← cat_list, ← cat_list, show 2 + n + 1 = n + 3 by omega]
  refine row_congr fun i hi => ?_
  unfold catB frB bigAt
  by_cases h0 : i = 0
  · subst h0
    rw [if_pos rfl, if_pos (by omega), if_pos (by omega)]
    show (n : Int) / 256 = (n : Int) / 256 ^ 1 % 256
    rw [Int.pow_one]; omega
  · rw [if_neg h0]
    by_cases h1 : i = 1
    · subst h1
      rw [if_pos rfl, if_pos (by omega), if_pos (by omega)]
      show (n : Int) % 256 = (n : Int) / 256 ^ 0 % 256
      rw [Int.pow_zero, Int.ediv_one]
    · rw [if_neg h1]
      by_cases h2 : i < n + 2
      · rw [if_pos h2, if_pos (by omega), if_neg (by omega)]
      · rw [if_neg h2, if_neg (by omega)]
        rw [show i - (2 + n) = 0 by omega]
        show smB B 0 n % 256 = smB B 0 n / 256 ^ 0 % 256
        rw [Int.pow_zero, Int.ediv_one]
theorem ok_ltx (a : Option Addr) (n cap : Nat) (B : Nat → Int) (hb : ∀ i, i < n → 0 ≤ B i ∧ B i < 256) (hn : n ≤ 200) :
    OwesR Try.prog cxTx [] [(3, .inv (txI a n cap B))] 10 Try.f22 [xsI a n cap .u8 B] false [.v (sStr (frT B n))] := by
  rw [vc_ltx]
  have sim : simC (SC.xs a n cap 1 fun (i _ : Nat) => .val (.int .u8 (B i))) (SC.xs a n cap 1 fun (i _ : Nat) => .val (.int .u8 (B i))) := ⟨rfl, rfl, rfl, fun _ _ => rfl⟩
  refine ⟨fun _ => rfl, 0, Nat.zero_le _, sim, rfl, sim, rfl, rfl, fun y hy => ⟨fun h => ?_, fun h => ?_⟩⟩
  · have h := of_decide_eq_true h
    have hlt : y < n := by omega
    have s1 := smB_in (n := n) hb (o := 0) y (by omega)
    have b1 := hb y hlt
    refine ⟨⟨by omega, h⟩, y + 1, by omega, sim, ?_, sim, rfl, ?_, by show n - (y + 1) + 1 ≤ n - y; omega⟩
    · rw [Int.toNat_natCast, IntKind.wrap_i64, IntKind.wrap_i64]
      show _ = smB B 0 y + B (0 + y)
      rw [Nat.zero_add]; omega
    · rw [IntKind.wrap_i64]; omega
  · have h := of_decide_eq_false h
    have e : y = n := by omega
    subst e
    have s1 := smB_in (n := y) hb (o := 0) y (by omega)
    have w1 : IntKind.u64.wrap (y : Int) = y := by rw [IntKind.wrap_u64]; omega
    have w2 : IntKind.u64.wrap (smB B 0 y) = smB B 0 y := by rw [IntKind.wrap_u64]; omega
    rw [w1, w2, frT_eq B y hn]
    simp only [ByteArray.size_append, bigB_size, byI_size, List.length_map, List.length_range]
    exact ⟨by omega, fun _ => trivial, by omega, by omega, by omega, trivial⟩
theorem okx_Tx : CxOK Try.prog cxTx := okx_cons card_rbig (okx_mark (okx_mark okx_nil))
theorem card_ltx {gl : Globs} : FnOKs Try.prog gl 22 cTx := by
  refine FnOKs.up0 (FnOKs_R0 (cx := cxTx) okx_Tx (sl := []) oks_nil Try.func22 (by kernel_rfl) (by kernel_rfl) fun ls hc => ?_) gl
  unfold frC at hc
  split at hc
  · rename_i a n cap f
    obtain ⟨p, hn, _⟩ := hc
    refine ⟨_, 10, [xsI a n cap .u8 (bOf f)], fun ρ => rfl, fun E hE y hy => ?_, fun r hr => ?_, ok_ltx a n cap (bOf f) p.bb hn⟩
    · rw [List.mem_singleton.1 hy]
      exact bnd_by p.bf (hE _ (List.mem_cons_self ..))
    · unfold txG at hr
      rw [List.mem_singleton.1 hr]; exact trivial
  · exact hc.1.elim
theorem byI_at {n : Nat} {B : Nat → Int} (hb : ∀ i, i < n → 0 ≤ B i ∧ B i < 256) {i : Nat} (hi : i < n) : (((bytesI ((List.range n).map B)).data.getD i 0).toNat : Int) = B i :=
  byI_cell (by rw [List.getElem?_map, List.getElem?_range hi]; rfl) (hb i hi)
theorem cat_txt (m k : Nat) (G K : Nat → Int) : bytesI ((List.range m).map G) ++ bytesI ((List.range k).map K) = bytesI ((List.range (m + k)).map (catB m G K)) := by
  rw [← byI_app, cat_list]
theorem catB_in {m k : Nat} {G K : Nat → Int} (hg : ∀ i, i < m → 0 ≤ G i ∧ G i < 256) (hk : ∀ i, i < k → 0 ≤ K i ∧ K i < 256) : ∀ i, i < m + k → 0 ≤ catB m G K i ∧ catB m G K i < 256 := by
  intro i hi
  unfold catB
  by_cases h : i < m
  · rw [if_pos h]; exact hg i h
  · rw [if_neg h]; exact hk _ (by omega)
theorem ok_sl (a : Option Addr) (n cap : Nat) (F : Nat → Int) (b : Option Addr) (m cb : Nat) (G : Nat → Int) (a' : Option Addr) (n' cap' : Nat) (F' : Nat → Int) (b' : Option Addr) (m' cb' : Nat) (G' : Nat → Int) (h1 : byP n n' (byF F) (byF F')) (h2 : byP m m' (byF G) (byF G')) :
    OwesR Try.prog cxLA slSm [] 10 Try.f9 [sLg a n cap F b m cb G, sLg a' n' cap' F' b' m' cb' G'] false [.v (sB true)] := by
  rw [vc_sl]
  exact fun _ _ => ⟨h1, id, id, fun _ => ⟨rfl, rfl, h2, rfl⟩, fun h => by cases h⟩
theorem card_sl {gl : Globs} : FnOKs Try.prog gl 9 cSl := by
  refine FnOKs.up0 (FnOKs_R0 (cx := cxLA) okx_LA (sl := slSm) (oks_cons card_by oks_nil) Try.func9 (by kernel_rfl) (by kernel_rfl) fun ls hc => ?_) gl
  unfold slC at hc
  split at hc
  · rename_i a n cap f b m cb g a' n' cap' f' b' m' cb' g'
    obtain ⟨p, q, _⟩ := hc
    refine ⟨_, 10, [sLg a n cap (bOf f) b m cb (bOf g), sLg a' n' cap' (bOf f') b' m' cb' (bOf g')], fun ρ => rfl, fun E hE y hy => ?_, fun r hr => ?_, ok_sl a n cap (bOf f) b m cb (bOf g) a' n' cap' (bOf f') b' m' cb' (bOf g') ⟨p.bn, rfl, rfl, p.be⟩ ⟨q.bn, rfl, rfl, q.be⟩⟩
    · simp only [List.mem_cons, List.not_mem_nil, or_false] at hy
      rcases hy with rfl | rfl
      · exact bnd_lg p.bf q.bf (hE _ (List.mem_cons_self ..))
      · exact bnd_lg p.bg q.bg (hE _ (List.mem_cons_of_mem _ (List.mem_cons_self ..)))
    · unfold byG at hr
      rw [List.mem_singleton.1 hr]; exact trivial
  · exact hc.1.elim
theorem by_self (n : Nat) (F : Nat → Int) : byP n n (byF F) (byF F) := ⟨rfl, rfl, rfl, fun _ _ => rfl⟩
end Go.Proofs.Ytoeccdjnpghhgaa
end

section
namespace Go.Proofs.Ytoeccdjnpghhgaa
open Go.Sx
set_option maxRecDepth 100000
def ln (B : Nat → Int) (p : Nat) : Nat := (B p * 256 + B (p + 1)).toNat
def posW (B : Nat → Int) : Nat → Nat
  | 0 => 0
  | i + 1 => posW B i + ln B (posW B i) + 3
def recB (B : Nat → Int) (p k : Nat) : Int := B (p + 2 + k)
structure good (B : Nat → Int) (n p : Nat) : Prop where
  g1 : p + 3 ≤ n
  g2 : ln B p ≤ 200
  g3 : p + ln B p + 3 ≤ n
  g4 : smB (recB B p) 0 (ln B p) % 256 = B (p + 2 + ln B p)
instance goodD (B : Nat → Int) (n p : Nat) : Decidable (good B n p) :=
  decidable_of_iff (p + 3 ≤ n ∧ ln B p ≤ 200 ∧ p + ln B p + 3 ≤ n ∧ smB (recB B p) 0 (ln B p) % 256 = B (p + 2 + ln B p)) ⟨fun h => ⟨h.1, h.2.1, h.2.2.1, h.2.2.2⟩, fun h => ⟨h.g1, h.g2, h.g3, h.g4⟩⟩
def cntW (B : Nat → Int) (n : Nat) : Nat → Nat → Nat
  | 0, i => i
  | f + 1, i => if good B n (posW B i) then cntW B n f (i + 1) else i
def whN (B : Nat → Int) (n : Nat) : Nat := cntW B n n 0
structure WX where
  i : Nat
  p : Nat
  ac : Nat → Option Addr × Nat
def whF (B : Nat → Int) (ac : Nat → Option Addr × Nat) (j _ : Nat) : SC := .xs (ac j).1 (ln B (posW B j)) (ac j).2 1 (byF (recB B (posW B j)))
def whH (B : Nat → Int) (n : Nat) (y : WX) : Prop := (∀ j, j < y.i → good B n (posW B j))
def whO (B : Nat → Int) (y : WX) : SO := .row 22 1 y.i (whF B y.ac) y.p
def whT (a : Option Addr) (n cap : Nat) (B : Nat → Int) (r : SC) (y : WX) : List SV := slotsAt 51 [(0, .one (xsI a n cap .u8 B)), (4, .one (.sc r)), (5, .one (sI .i64 (posW B y.i : Int)))]
def invWL (a : Option Addr) (n cap : Nat) (B : Nat → Int) : Inv where
  X := WX
  tm y := whT a n cap B (.val (.slice none 0 0)) y
  ob _ := []
  holds y := whH B n y ∧ y.i = 0
  less y := n - posW B y.i
def invWM (a : Option Addr) (n cap : Nat) (B : Nat → Int) : Inv where
  X := WX
  tm y := whT a n cap B (.slw 0 1 0 y.i (y.i + y.p)) y
  ob y := [whO B y]
  holds y := whH B n y ∧ 0 < y.i ∧ y.i + y.p ≤ maxLen
  less y := n - posW B y.i
def pickN (k : Nat) (tm : List SV) (_ : List SO) : Bool := match tm.getD k .any with
  | .one (.sc (.val _)) => true
  | _ => false
def whR (B : Nat → Int) (n : Nat) : List RS :=
  [.ex (fun _ => True) fun ac => .rows (whN B n) 1 (whF B fun j => ac [j]), .v (sI .i64 (posW B (whN B n) : Int))]
def whG : List (List FD) → List RS
  | [[.x _ n _ f]] => whR (bOf f) n
  | _ => []
def whC : List (List FD) → List Prop
  | [[.x _ n cap f]] => [bP n f, n ≤ cap]
  | _ => [False]
def cWh : SSpec := specQ0 true [.one (.x 1)] whC whG
def slWh : List (Nat × SSpec) := [(29, cLe), (30, cFi)]
def cxWh : Cx := ⟨[(1000000007, fun _ => none), (1000000010, fun _ => none), (1000000012, fun _ => none), (1000000013, fun _ => none), (1000000014, fun _ => none)], [], 0, []⟩
theorem vc_wh (a : Option Addr) (n cap : Nat) (B : Nat → Int) :
    OwesR Try.prog cxWh slWh [(3, .inv2 (invWL a n cap B) (invWM a n cap B) (pickN 4))] 4 Try.f24 [xsI a n cap .u8 B] true (whR B n) =
    ((∀ (y : WX), closedB ((invWL a n cap B).tm y) ((invWL a n cap B).ob y) = Bool.true) ∧ (∀ (y : WX), closedB ((invWM a n cap B).tm y) ((invWM a n cap B).ob y) = Bool.true) ∧ (∀ (y : WX), let x101 : Prop := (∃ (ac : List Nat → Option Go.Addr × Nat), True ∧ 0 + y.i ≤ y.i ∧ y.i = whN B n ∧ y.i ≤ y.i + y.p ∧ ∀ (i : Nat), i < whN B n → allC 1 fun (c : Nat) => simC (whF B y.ac (0 + i) c) (whF B (fun (j : Nat) => ac [j]) i c)) ∧ (↑(posW B y.i) : Int) = (↑(posW B (whN B n)) : Int); let x102 : Prop := Go.IntKind.i64.wrap ((2 : Int) + (bOf (fun (i _ : Nat) => SC.val (Go.Value.int Go.IntKind.u8 (B ((↑(posW B y.i) : Int).toNat + i)))) 0 * (256 : Int) + bOf (fun (i _ : Nat) => SC.val (Go.Value.int Go.IntKind.u8 (B ((↑(posW B y.i) : Int).toNat + i)))) 1)) ≤ (↑(n - (↑(posW B y.i) : Int).toNat) : Int); (∀ (j : Nat), j < y.i → good B n (posW B j)) ∧ 0 < y.i ∧ y.i + y.p ≤ Go.maxLen → (Decidable.decide (Go.IntKind.i64.wrap ((↑n : Int) - (↑(posW B y.i) : Int)) ≥ (2 : Int)) = Bool.true → ((0 : Int) ≤ (↑(posW B y.i) : Int) ∧ (↑(posW B y.i) : Int) ≤ (↑n : Int) ∧ (↑n : Int) ≤ (↑n : Int)) ∧ (bP (n - (↑(posW B y.i) : Int).toNat) fun (i _ : Nat) => SC.val (Go.Value.int Go.IntKind.u8 (B ((↑(posW B y.i) : Int).toNat + i)))) ∧ 2 ≤ n - (↑(posW B y.i) : Int).toNat ∧ (Decidable.decide (Go.IntKind.i64.wrap ((2 : Int) + (bOf (fun (i _ : Nat) => SC.val (Go.Value.int Go.IntKind.u8 (B ((↑(posW B y.i) : Int).toNat + i)))) 0 * (256 : Int) + bOf (fun (i _ : Nat) => SC.val (Go.Value.int Go.IntKind.u8 (B ((↑(posW B y.i) : Int).toNat + i)))) 1)) > (202 : Int)) = Bool.true → x101) ∧ (Decidable.decide (Go.IntKind.i64.wrap ((2 : Int) + (bOf (fun (i _ : Nat) => SC.val (Go.Value.int Go.IntKind.u8 (B ((↑(posW B y.i) : Int).toNat + i)))) 0 * (256 : Int) + bOf (fun (i _ : Nat) => SC.val (Go.Value.int Go.IntKind.u8 (B ((↑(posW B y.i) : Int).toNat + i)))) 1)) > (202 : Int)) = Bool.false → (Decidable.decide (Go.IntKind.i64.wrap (Go.IntKind.i64.wrap ((2 : Int) + (bOf (fun (i _ : Nat) => SC.val (Go.Value.int Go.IntKind.u8 (B ((↑(posW B y.i) : Int).toNat + i)))) 0 * (256 : Int) + bOf (fun (i _ : Nat) => SC.val (Go.Value.int Go.IntKind.u8 (B ((↑(posW B y.i) : Int).toNat + i)))) 1)) + (1 : Int)) > (↑(n - (↑(posW B y.i) : Int).toNat) : Int)) = Bool.true → x101) ∧ (Decidable.decide (Go.IntKind.i64.wrap (Go.IntKind.i64.wrap ((2 : Int) + (bOf (fun (i _ : Nat) => SC.val (Go.Value.int Go.IntKind.u8 (B ((↑(posW B y.i) : Int).toNat + i)))) 0 * (256 : Int) + bOf (fun (i _ : Nat) => SC.val (Go.Value.int Go.IntKind.u8 (B ((↑(posW B y.i) : Int).toNat + i)))) 1)) + (1 : Int)) > (↑(n - (↑(posW B y.i) : Int).toNat) : Int)) = Bool.false → ((0 : Int) ≤ (2 : Int) ∧ (2 : Int) ≤ Go.IntKind.i64.wrap ((2 : Int) + (bOf (fun (i _ : Nat) => SC.val (Go.Value.int Go.IntKind.u8 (B ((↑(posW B y.i) : Int).toNat + i)))) 0 * (256 : Int) + bOf (fun (i _ : Nat) => SC.val (Go.Value.int Go.IntKind.u8 (B ((↑(posW B y.i) : Int).toNat + i)))) 1)) ∧ x102) ∧ ((0 : Int) ≤ Go.IntKind.i64.wrap ((2 : Int) + (bOf (fun (i _ : Nat) => SC.val (Go.Value.int Go.IntKind.u8 (B ((↑(posW B y.i) : Int).toNat + i)))) 0 * (256 : Int) + bOf (fun (i _ : Nat) => SC.val (Go.Value.int Go.IntKind.u8 (B ((↑(posW B y.i) : Int).toNat + i)))) 1)) ∧ Go.IntKind.i64.wrap ((2 : Int) + (bOf (fun (i _ : Nat) => SC.val (Go.Value.int Go.IntKind.u8 (B ((↑(posW B y.i) : Int).toNat + i)))) 0 * (256 : Int) + bOf (fun (i _ : Nat) => SC.val (Go.Value.int Go.IntKind.u8 (B ((↑(posW B y.i) : Int).toNat + i)))) 1)) < (↑(n - (↑(posW B y.i) : Int).toNat) : Int)) ∧ (bP ((Go.IntKind.i64.wrap ((2 : Int) + (bOf (fun (i _ : Nat) => SC.val (Go.Value.int Go.IntKind.u8 (B ((↑(posW B y.i) : Int).toNat + i)))) 0 * (256 : Int) + bOf (fun (i _ : Nat) => SC.val (Go.Value.int Go.IntKind.u8 (B ((↑(posW B y.i) : Int).toNat + i)))) 1))).toNat - 2) fun (i _ : Nat) => SC.val (Go.Value.int Go.IntKind.u8 (B ((↑(posW B y.i) : Int).toNat + (2 + i))))) ∧ ((!smB (bOf fun (i _ : Nat) => SC.val (Go.Value.int Go.IntKind.u8 (B ((↑(posW B y.i) : Int).toNat + (2 + i))))) 0 ((Go.IntKind.i64.wrap ((2 : Int) + (bOf (fun (i _ : Nat) => SC.val (Go.Value.int Go.IntKind.u8 (B ((↑(posW B y.i) : Int).toNat + i)))) 0 * (256 : Int) + bOf (fun (i _ : Nat) => SC.val (Go.Value.int Go.IntKind.u8 (B ((↑(posW B y.i) : Int).toNat + i)))) 1))).toNat - 2) % (256 : Int) == B ((↑(posW B y.i) : Int).toNat + (Go.IntKind.i64.wrap ((2 : Int) + (bOf (fun (i _ : Nat) => SC.val (Go.Value.int Go.IntKind.u8 (B ((↑(posW B y.i) : Int).toNat + i)))) 0 * (256 : Int) + bOf (fun (i _ : Nat) => SC.val (Go.Value.int Go.IntKind.u8 (B ((↑(posW B y.i) : Int).toNat + i)))) 1))).toNat)) = Bool.true → x101) ∧ ((!smB (bOf fun (i _ : Nat) => SC.val (Go.Value.int Go.IntKind.u8 (B ((↑(posW B y.i) : Int).toNat + (2 + i))))) 0 ((Go.IntKind.i64.wrap ((2 : Int) + (bOf (fun (i _ : Nat) => SC.val (Go.Value.int Go.IntKind.u8 (B ((↑(posW B y.i) : Int).toNat + i)))) 0 * (256 : Int) + bOf (fun (i _ : Nat) => SC.val (Go.Value.int Go.IntKind.u8 (B ((↑(posW B y.i) : Int).toNat + i)))) 1))).toNat - 2) % (256 : Int) == B ((↑(posW B y.i) : Int).toNat + (Go.IntKind.i64.wrap ((2 : Int) + (bOf (fun (i _ : Nat) => SC.val (Go.Value.int Go.IntKind.u8 (B ((↑(posW B y.i) : Int).toNat + i)))) 0 * (256 : Int) + bOf (fun (i _ : Nat) => SC.val (Go.Value.int Go.IntKind.u8 (B ((↑(posW B y.i) : Int).toNat + i)))) 1))).toNat)) = Bool.false → ((0 : Int) ≤ (2 : Int) ∧ (2 : Int) ≤ Go.IntKind.i64.wrap ((2 : Int) + (bOf (fun (i _ : Nat) => SC.val (Go.Value.int Go.IntKind.u8 (B ((↑(posW B y.i) : Int).toNat + i)))) 0 * (256 : Int) + bOf (fun (i _ : Nat) => SC.val (Go.Value.int Go.IntKind.u8 (B ((↑(posW B y.i) : Int).toNat + i)))) 1)) ∧ Go.IntKind.i64.wrap ((2 : Int) + (bOf (fun (i _ : Nat) => SC.val (Go.Value.int Go.IntKind.u8 (B ((↑(posW B y.i) : Int).toNat + i)))) 0 * (256 : Int) + bOf (fun (i _ : Nat) => SC.val (Go.Value.int Go.IntKind.u8 (B ((↑(posW B y.i) : Int).toNat + i)))) 1)) ≤ Go.IntKind.i64.wrap ((2 : Int) + (bOf (fun (i _ : Nat) => SC.val (Go.Value.int Go.IntKind.u8 (B ((↑(posW B y.i) : Int).toNat + i)))) 0 * (256 : Int) + bOf (fun (i _ : Nat) => SC.val (Go.Value.int Go.IntKind.u8 (B ((↑(posW B y.i) : Int).toNat + i)))) 1)) ∧ Go.IntKind.i64.wrap ((2 : Int) + (bOf (fun (i _ : Nat) => SC.val (Go.Value.int Go.IntKind.u8 (B ((↑(posW B y.i) : Int).toNat + i)))) 0 * (256 : Int) + bOf (fun (i _ : Nat) => SC.val (Go.Value.int Go.IntKind.u8 (B ((↑(posW B y.i) : Int).toNat + i)))) 1)) ≤ (↑(cap - (↑(posW B y.i) : Int).toNat) : Int) ∧ x102) ∧ 0 = 0 ∧ y.i = y.i ∧ (y.i ≤ y.i + y.p ∧ y.i + y.p ≤ Go.maxLen ∧ (y.i + y.p) * 1 = y.i * 1 + y.p) ∧ (y.i + 1 ≤ Go.maxLen ∧ (y.i + 1) * 24 ≤ 140737488355328) ∧ ∀ (c : Nat), y.i + 1 + c ≤ Go.maxLen → ∃ (y' : WX), ((∀ (j : Nat), j < y'.i → good B n (posW B j)) ∧ 0 < y'.i ∧ y'.i + y'.p ≤ Go.maxLen) ∧ simC (SC.xs a n cap 1 fun (i _ : Nat) => SC.val (Go.Value.int Go.IntKind.u8 (B i))) (SC.xs a n cap 1 fun (i _ : Nat) => SC.val (Go.Value.int Go.IntKind.u8 (B i))) ∧ (0 = 0 ∧ 1 = 1 ∧ 0 = 0 ∧ y.i + 1 = y'.i ∧ y.i + 1 + c = y'.i + y'.p) ∧ Go.IntKind.i64.wrap ((↑(posW B y.i) : Int) + Go.IntKind.i64.wrap (Go.IntKind.i64.wrap ((2 : Int) + (bOf (fun (i _ : Nat) => SC.val (Go.Value.int Go.IntKind.u8 (B ((↑(posW B y.i) : Int).toNat + i)))) 0 * (256 : Int) + bOf (fun (i _ : Nat) => SC.val (Go.Value.int Go.IntKind.u8 (B ((↑(posW B y.i) : Int).toNat + i)))) 1)) + (1 : Int))) = (↑(posW B y'.i) : Int) ∧ y.i + 1 = y'.i ∧ c * 1 = y'.p ∧ (∀ (i : Nat), i < y.i + 1 → allC 1 fun (c : Nat) => simC (newH (SA.sc (SC.slw 0 1 0 y.i (y.i + y.p))) (SA.sc (SC.sl 1 0 1 1)) y.i (whF B y.ac) (fixAt (flat [SK.c (SC.xs (adS (Go.IntKind.i64.wrap ((2 : Int) + (bOf (fun (i _ : Nat) => SC.val (Go.Value.int Go.IntKind.u8 (B ((↑(posW B y.i) : Int).toNat + i)))) 0 * (256 : Int) + bOf (fun (i _ : Nat) => SC.val (Go.Value.int Go.IntKind.u8 (B ((↑(posW B y.i) : Int).toNat + i)))) 1))).toNat 2 1 (adS cap (↑(posW B y.i) : Int).toNat 1 a)) ((Go.IntKind.i64.wrap ((2 : Int) + (bOf (fun (i _ : Nat) => SC.val (Go.Value.int Go.IntKind.u8 (B ((↑(posW B y.i) : Int).toNat + i)))) 0 * (256 : Int) + bOf (fun (i _ : Nat) => SC.val (Go.Value.int Go.IntKind.u8 (B ((↑(posW B y.i) : Int).toNat + i)))) 1))).toNat - 2) ((Go.IntKind.i64.wrap ((2 : Int) + (bOf (fun (i _ : Nat) => SC.val (Go.Value.int Go.IntKind.u8 (B ((↑(posW B y.i) : Int).toNat + i)))) 0 * (256 : Int) + bOf (fun (i _ : Nat) => SC.val (Go.Value.int Go.IntKind.u8 (B ((↑(posW B y.i) : Int).toNat + i)))) 1))).toNat - 2) 1 fun (i _ : Nat) => SC.val (Go.Value.int Go.IntKind.u8 (B ((↑(posW B y.i) : Int).toNat + (2 + i)))))]) 1 1 0) i c) (whF B y'.ac i c)) ∧ (n - posW B y'.i).succ.le (n - posW B y.i))))) ∧ (Decidable.decide (Go.IntKind.i64.wrap ((↑n : Int) - (↑(posW B y.i) : Int)) ≥ (2 : Int)) = Bool.false → x101)) ∧ ∃ (y : WX), ((∀ (j : Nat), j < y.i → good B n (posW B j)) ∧ y.i = 0) ∧ simC (SC.xs a n cap 1 fun (i _ : Nat) => SC.val (Go.Value.int Go.IntKind.u8 (B i))) (SC.xs a n cap 1 fun (i _ : Nat) => SC.val (Go.Value.int Go.IntKind.u8 (B i))) ∧ Go.Value.slice Option.none 0 0 = Go.Value.slice Option.none 0 0 ∧ (0 : Int) = (↑(posW B y.i) : Int) ∧ ∀ (y : WX), let x103 : Prop := (∃ (_ : List Nat → Option Go.Addr × Nat), True ∧ whN B n = 0) ∧ (↑(posW B y.i) : Int) = (↑(posW B (whN B n)) : Int); let x104 : Prop := Go.IntKind.i64.wrap ((2 : Int) + (bOf (fun (i _ : Nat) => SC.val (Go.Value.int Go.IntKind.u8 (B ((↑(posW B y.i) : Int).toNat + i)))) 0 * (256 : Int) + bOf (fun (i _ : Nat) => SC.val (Go.Value.int Go.IntKind.u8 (B ((↑(posW B y.i) : Int).toNat + i)))) 1)) ≤ (↑(n - (↑(posW B y.i) : Int).toNat) : Int); (∀ (j : Nat), j < y.i → good B n (posW B j)) ∧ y.i = 0 → (Decidable.decide (Go.IntKind.i64.wrap ((↑n : Int) - (↑(posW B y.i) : Int)) ≥ (2 : Int)) = Bool.true → ((0 : Int) ≤ (↑(posW B y.i) : Int) ∧ (↑(posW B y.i) : Int) ≤ (↑n : Int) ∧ (↑n : Int) ≤ (↑n : Int)) ∧ (bP (n - (↑(posW B y.i) : Int).toNat) fun (i _ : Nat) => SC.val (Go.Value.int Go.IntKind.u8 (B ((↑(posW B y.i) : Int).toNat + i)))) ∧ 2 ≤ n - (↑(posW B y.i) : Int).toNat ∧ (Decidable.decide (Go.IntKind.i64.wrap ((2 : Int) + (bOf (fun (i _ : Nat) => SC.val (Go.Value.int Go.IntKind.u8 (B ((↑(posW B y.i) : Int).toNat + i)))) 0 * (256 : Int) + bOf (fun (i _ : Nat) => SC.val (Go.Value.int Go.IntKind.u8 (B ((↑(posW B y.i) : Int).toNat + i)))) 1)) > (202 : Int)) = Bool.true → x103) ∧ (Decidable.decide (Go.IntKind.i64.wrap ((2 : Int) + (bOf (fun (i _ : Nat) => SC.val (Go.Value.int Go.IntKind.u8 (B ((↑(posW B y.i) : Int).toNat + i)))) 0 * (256 : Int) + bOf (fun (i _ : Nat) => SC.val (Go.Value.int Go.IntKind.u8 (B ((↑(posW B y.i) : Int).toNat + i)))) 1)) > (202 : Int)) = Bool.false → (Decidable.decide (Go.IntKind.i64.wrap (Go.IntKind.i64.wrap ((2 : Int) + (bOf (fun (i _ : Nat) => SC.val (Go.Value.int Go.IntKind.u8 (B ((↑(posW B y.i) : Int).toNat + i)))) 0 * (256 : Int) + bOf (fun (i _ : Nat) => SC.val (Go.Value.int Go.IntKind.u8 (B ((↑(posW B y.i) : Int).toNat + i)))) 1)) + (1 : Int)) > (↑(n - (↑(posW B y.i) : Int).toNat) : Int)) = Bool.true → x103) ∧ (Decidable.decide (Go.IntKind.i64.wrap (Go.IntKind.i64.wrap ((2 : Int) + (bOf (fun (i _ : Nat) => SC.val (Go.Value.int Go.IntKind.u8 (B ((↑(posW B y.i) : Int).toNat + i)))) 0 * (256 : Int) + bOf (fun (i _ : Nat) => SC.val (Go.Value.int Go.IntKind.u8 (B ((↑(posW B y.i) : Int).toNat + i)))) 1)) + (1 : Int)) > (↑(n - (↑(posW B y.i) : Int).toNat) : Int)) = Bool.false → ((0 : Int) ≤ (2 : Int) ∧ (2 : Int) ≤ Go.IntKind.i64.wrap ((2 : Int) + (bOf (fun (i _ : Nat) => SC.val (Go.Value.int Go.IntKind.u8 (B ((↑(posW B y.i) : Int).toNat + i)))) 0 * (256 : Int) + bOf (fun (i _ : Nat) => SC.val (Go.Value.int Go.IntKind.u8 (B ((↑(posW B y.i) : Int).toNat + i)))) 1)) ∧ x104) ∧ ((0 : Int) ≤ Go.IntKind.i64.wrap ((2 : Int) + (bOf (fun (i _ : Nat) => SC.val (Go.Value.int Go.IntKind.u8 (B ((↑(posW B y.i) : Int).toNat + i)))) 0 * (256 : Int) + bOf (fun (i _ : Nat) => SC.val (Go.Value.int Go.IntKind.u8 (B ((↑(posW B y.i) : Int).toNat + i)))) 1)) ∧ Go.IntKind.i64.wrap ((2 : Int) + (bOf (fun (i _ : Nat) => SC.val (Go.Value.int Go.IntKind.u8 (B ((↑(posW B y.i) : Int).toNat + i)))) 0 * (256 : Int) + bOf (fun (i _ : Nat) => SC.val (Go.Value.int Go.IntKind.u8 (B ((↑(posW B y.i) : Int).toNat + i)))) 1)) < (↑(n - (↑(posW B y.i) : Int).toNat) : Int)) ∧ (bP ((Go.IntKind.i64.wrap ((2 : Int) + (bOf (fun (i _ : Nat) => SC.val (Go.Value.int Go.IntKind.u8 (B ((↑(posW B y.i) : Int).toNat + i)))) 0 * (256 : Int) + bOf (fun (i _ : Nat) => SC.val (Go.Value.int Go.IntKind.u8 (B ((↑(posW B y.i) : Int).toNat + i)))) 1))).toNat - 2) fun (i _ : Nat) => SC.val (Go.Value.int Go.IntKind.u8 (B ((↑(posW B y.i) : Int).toNat + (2 + i))))) ∧ ((!smB (bOf fun (i _ : Nat) => SC.val (Go.Value.int Go.IntKind.u8 (B ((↑(posW B y.i) : Int).toNat + (2 + i))))) 0 ((Go.IntKind.i64.wrap ((2 : Int) + (bOf (fun (i _ : Nat) => SC.val (Go.Value.int Go.IntKind.u8 (B ((↑(posW B y.i) : Int).toNat + i)))) 0 * (256 : Int) + bOf (fun (i _ : Nat) => SC.val (Go.Value.int Go.IntKind.u8 (B ((↑(posW B y.i) : Int).toNat + i)))) 1))).toNat - 2) % (256 : Int) == B ((↑(posW B y.i) : Int).toNat + (Go.IntKind.i64.wrap ((2 : Int) + (bOf (fun (i _ : Nat) => SC.val (Go.Value.int Go.IntKind.u8 (B ((↑(posW B y.i) : Int).toNat + i)))) 0 * (256 : Int) + bOf (fun (i _ : Nat) => SC.val (Go.Value.int Go.IntKind.u8 (B ((↑(posW B y.i) : Int).toNat + i)))) 1))).toNat)) = Bool.true → x103) ∧ ((!smB (bOf fun (i _ : Nat) => SC.val (Go.Value.int Go.IntKind.u8 (B ((↑(posW B y.i) : Int).toNat + (2 + i))))) 0 ((Go.IntKind.i64.wrap ((2 : Int) + (bOf (fun (i _ : Nat) => SC.val (Go.Value.int Go.IntKind.u8 (B ((↑(posW B y.i) : Int).toNat + i)))) 0 * (256 : Int) + bOf (fun (i _ : Nat) => SC.val (Go.Value.int Go.IntKind.u8 (B ((↑(posW B y.i) : Int).toNat + i)))) 1))).toNat - 2) % (256 : Int) == B ((↑(posW B y.i) : Int).toNat + (Go.IntKind.i64.wrap ((2 : Int) + (bOf (fun (i _ : Nat) => SC.val (Go.Value.int Go.IntKind.u8 (B ((↑(posW B y.i) : Int).toNat + i)))) 0 * (256 : Int) + bOf (fun (i _ : Nat) => SC.val (Go.Value.int Go.IntKind.u8 (B ((↑(posW B y.i) : Int).toNat + i)))) 1))).toNat)) = Bool.false → ((0 : Int) ≤ (2 : Int) ∧ (2 : Int) ≤ Go.IntKind.i64.wrap ((2 : Int) + (bOf (fun (i _ : Nat) => SC.val (Go.Value.int Go.IntKind.u8 (B ((↑(posW B y.i) : Int).toNat + i)))) 0 * (256 : Int) + bOf (fun (i _ : Nat) => SC.val (Go.Value.int Go.IntKind.u8 (B ((↑(posW B y.i) : Int).toNat + i)))) 1)) ∧ Go.IntKind.i64.wrap ((2 : Int) + (bOf (fun (i _ : Nat) => SC.val (Go.Value.int Go.IntKind.u8 (B ((↑(posW B y.i) : Int).toNat + i)))) 0 * (256 : Int) + bOf (fun (i _ : Nat) => SC.val (Go.Value.int Go.IntKind.u8 (B ((↑(posW B y.i) : Int).toNat + i)))) 1)) ≤ Go.IntKind.i64.wrap ((2 : Int) + (bOf (fun (i _ : Nat) => SC.val (Go.Value.int Go.IntKind.u8 (B ((↑(posW B y.i) : Int).toNat + i)))) 0 * (256 : Int) + bOf (fun (i _ : Nat) => SC.val (Go.Value.int Go.IntKind.u8 (B ((↑(posW B y.i) : Int).toNat + i)))) 1)) ∧ Go.IntKind.i64.wrap ((2 : Int) + (bOf (fun (i _ : Nat) => SC.val (Go.Value.int Go.IntKind.u8 (B ((↑(posW B y.i) : Int).toNat + i)))) 0 * (256 : Int) + bOf (fun (i _ : Nat) => SC.val (Go.Value.int Go.IntKind.u8 (B ((↑(posW B y.i) : Int).toNat + i)))) 1)) ≤ (↑(cap - (↑(posW B y.i) : Int).toNat) : Int) ∧ x104) ∧ (1 ≤ Go.maxLen ∧ 24 ≤ 140737488355328) ∧ ∀ (c : Nat), 1 + c ≤ Go.maxLen → ∃ (y' : WX), ((∀ (j : Nat), j < y'.i → good B n (posW B j)) ∧ 0 < y'.i ∧ y'.i + y'.p ≤ Go.maxLen) ∧ simC (SC.xs a n cap 1 fun (i _ : Nat) => SC.val (Go.Value.int Go.IntKind.u8 (B i))) (SC.xs a n cap 1 fun (i _ : Nat) => SC.val (Go.Value.int Go.IntKind.u8 (B i))) ∧ (0 = 0 ∧ 1 = 1 ∧ 0 = 0 ∧ 1 = y'.i ∧ 1 + c = y'.i + y'.p) ∧ Go.IntKind.i64.wrap ((↑(posW B y.i) : Int) + Go.IntKind.i64.wrap (Go.IntKind.i64.wrap ((2 : Int) + (bOf (fun (i _ : Nat) => SC.val (Go.Value.int Go.IntKind.u8 (B ((↑(posW B y.i) : Int).toNat + i)))) 0 * (256 : Int) + bOf (fun (i _ : Nat) => SC.val (Go.Value.int Go.IntKind.u8 (B ((↑(posW B y.i) : Int).toNat + i)))) 1)) + (1 : Int))) = (↑(posW B y'.i) : Int) ∧ 1 = y'.i ∧ c * 1 = y'.p ∧ (∀ (i : Nat), i < 1 → allC 1 fun (c : Nat) => simC (fixAt (flat [SK.c (SC.xs (adS (Go.IntKind.i64.wrap ((2 : Int) + (bOf (fun (i _ : Nat) => SC.val (Go.Value.int Go.IntKind.u8 (B ((↑(posW B y.i) : Int).toNat + i)))) 0 * (256 : Int) + bOf (fun (i _ : Nat) => SC.val (Go.Value.int Go.IntKind.u8 (B ((↑(posW B y.i) : Int).toNat + i)))) 1))).toNat 2 1 (adS cap (↑(posW B y.i) : Int).toNat 1 a)) ((Go.IntKind.i64.wrap ((2 : Int) + (bOf (fun (i _ : Nat) => SC.val (Go.Value.int Go.IntKind.u8 (B ((↑(posW B y.i) : Int).toNat + i)))) 0 * (256 : Int) + bOf (fun (i _ : Nat) => SC.val (Go.Value.int Go.IntKind.u8 (B ((↑(posW B y.i) : Int).toNat + i)))) 1))).toNat - 2) ((Go.IntKind.i64.wrap ((2 : Int) + (bOf (fun (i _ : Nat) => SC.val (Go.Value.int Go.IntKind.u8 (B ((↑(posW B y.i) : Int).toNat + i)))) 0 * (256 : Int) + bOf (fun (i _ : Nat) => SC.val (Go.Value.int Go.IntKind.u8 (B ((↑(posW B y.i) : Int).toNat + i)))) 1))).toNat - 2) 1 fun (i _ : Nat) => SC.val (Go.Value.int Go.IntKind.u8 (B ((↑(posW B y.i) : Int).toNat + (2 + i)))))]) 1 1 0 i c) (whF B y'.ac i c)) ∧ (n - posW B y'.i).succ.le (n - posW B y.i))))) ∧ (Decidable.decide (Go.IntKind.i64.wrap ((↑n : Int) - (↑(posW B y.i) : Int)) ≥ (2 : Int)) = Bool.false → x103)) := by kernel_rfl
end Go.Proofs.Ytoeccdjnpghhgaa
end

section
namespace Go.Proofs.Ytoeccdjnpghhgaa
open Go Go.Sx
set_option maxRecDepth 100000
theorem cntW_eq (B : Nat → Int) (n : Nat) : ∀ (f i k : Nat), i ≤ k → k ≤ i + f → (∀ j, i ≤ j → j < k → good B n (posW B j)) → (k < i + f → ¬ good B n (posW B k)) → cntW B n f i = k
  | 0, i, k, h1, h2, _, _ => by unfold cntW; omega
  | f + 1, i, k, h1, h2, hg, hn => by
    unfold cntW
    by_cases e : i = k
    · subst e
      rw [if_neg (hn (by omega))]
    · rw [if_pos (hg i (Nat.le_refl _) (by omega))]
      exact cntW_eq B n f (i + 1) k (by omega) (by omega) (fun j h3 h4 => hg j (by omega) h4) (fun h => hn (by omega))
theorem posW_le {B : Nat → Int} {n : Nat} : ∀ i, (∀ j, j < i → good B n (posW B j)) → 3 * i ≤ posW B i ∧ posW B i ≤ n
  | 0, _ => ⟨Nat.le_refl _, Nat.zero_le _⟩
  | i + 1, h => by
    have ih := posW_le (n := n) i fun j hj => h j (by omega)
    have g := (h i (by omega)).g3
    unfold posW
    omega
theorem whN_eq {B : Nat → Int} {n k : Nat} (h : ∀ j, j < k → good B n (posW B j)) (hn : ¬ good B n (posW B k)) : whN B n = k := by
  have := posW_le k h
  exact cntW_eq B n n 0 k (Nat.zero_le _) (by omega) (fun j _ hj => h j hj) (fun _ => hn)
theorem cntW_spec (B : Nat → Int) (n : Nat) : ∀ (f i : Nat), (∀ j, j < i → good B n (posW B j)) → ∀ j, j < cntW B n f i → good B n (posW B j)
  | 0, i, h, j, hj => h j (by unfold cntW at hj; exact hj)
  | f + 1, i, h, j, hj => by
    unfold cntW at hj
    by_cases e : good B n (posW B i)
    · rw [if_pos e] at hj
      exact cntW_spec B n f (i + 1) (fun k hk => by
        rcases Nat.lt_or_ge k i with q | q
        · exact h k q
        · rw [show k = i by omega]; exact e) j hj
    · rw [if_neg e] at hj
      exact h j hj
theorem whN_good (B : Nat → Int) (n : Nat) : ∀ j, j < whN B n → good B n (posW B j) := cntW_spec B n n 0 fun _ h => absurd h (Nat.not_lt_zero _)
theorem smB_congr {B C : Nat → Int} {o : Nat} : ∀ k, (∀ j, j < k → B (o + j) = C (o + j)) → smB B o k = smB C o k
  | 0, _ => rfl
  | k + 1, h => by
    unfold smB
    rw [smB_congr k fun j hj => h j (by omega), h k (by omega)]
theorem xs_sim {a a' : Option Addr} {n n' cap cap' : Nat} {G G' : Nat → Int} (h1 : a = a') (h2 : n = n') (h3 : cap = cap') (h : ∀ k, k < n → G k = G' k) : simC (.xs a n cap 1 (byF G)) (.xs a' n' cap' 1 (byF G')) := by
  subst h1; subst h2; subst h3
  refine ⟨rfl, rfl, rfl, fun i hi => ?_⟩
  show simC (.val (.int .u8 (G i))) (.val (.int .u8 (G' i)))
  rw [h i hi]; rfl
theorem wh_self (B : Nat → Int) (ac ac' : Nat → Option Addr × Nat) (i i' c : Nat) (e : i = i') (h : ac i' = ac' i') : simC (whF B ac i c) (whF B ac' i' c) := by
  subst e
  exact xs_sim (by rw [h]) rfl (by rw [h]) fun _ _ => rfl
def acW (ac : Nat → Option Addr × Nat) (k : Nat) (x : Option Addr × Nat) (j : Nat) : Option Addr × Nat := if j < k then ac j else x
theorem wh_old {B : Nat → Int} {ac : Nat → Option Addr × Nat} {k : Nat} {x : Option Addr × Nat} {i c : Nat} (h : i < k) {a' : Option Addr} {n' cap' : Nat} {g' : Nat → Nat → SC} (hg : ∀ j, ∃ z, g' j 0 = .val (.int .u8 z)) : simC (selC true (whF B ac i c) (.xs a' n' cap' 1 g')) (whF B (acW ac k x) i c) := by
  have e : acW ac k x i = ac i := if_pos h
  refine ⟨?_, rfl, ?_, fun j hj => ?_⟩
  · show (ac i).1 = _
    rw [e]
  · show (ac i).2 = _
    rw [e]
  · obtain ⟨z, hz⟩ := hg j
    show simC (selC true (byF (recB B (posW B i)) j 0) (g' j 0)) _
    rw [hz]
    rfl
theorem wh_new {B : Nat → Int} {ac : Nat → Option Addr × Nat} {k : Nat} {x : Option Addr × Nat} {i c : Nat} (h : i = k) {m : Nat} {G : Nat → Int} (h2 : m = ln B (posW B k)) (h4 : ∀ j, j < m → G j = recB B (posW B k) j) :
    simC (.xs x.1 m x.2 1 (byF G)) (whF B (acW ac k x) i c) := by
  subst h
  have e : acW ac i x i = x := if_neg (by omega)
  exact xs_sim (by rw [e]) h2 (by rw [e]) h4
theorem wh_newS {B : Nat → Int} {ac : Nat → Option Addr × Nat} {k : Nat} {x : Option Addr × Nat} {i c : Nat} (h : i = k) {m : Nat} {G : Nat → Int} (h2 : m = ln B (posW B k)) (h4 : ∀ j, j < m → G j = recB B (posW B k) j) (a0 : Option Addr) (n0 cap0 : Nat) (G0 : Nat → Int) :
    simC (selC false (.xs a0 n0 cap0 1 (byF G0)) (.xs x.1 m x.2 1 (byF G))) (whF B (acW ac k x) i c) := wh_new h h2 h4
theorem bP_sub {n : Nat} {B : Nat → Int} (hb : ∀ i, i < n → 0 ≤ B i ∧ B i < 256) (hn : n ≤ 16777216) {p m : Nat} (h : p + m ≤ n) : bP m (byF fun i => B (p + i)) := ⟨rfl, fun i hi => hb (p + i) (by omega), by omega⟩
theorem ln_le {n p : Nat} {B : Nat → Int} (hb : ∀ i, i < n → 0 ≤ B i ∧ B i < 256) (h : p + 2 ≤ n) : ln B p ≤ 65535 := by
  have b0 := hb p (by omega)
  have b1 := hb (p + 1) (by omega)
  unfold ln
  omega
theorem key2 {n p : Nat} {B : Nat → Int} (hb : ∀ i, i < n → 0 ≤ B i ∧ B i < 256) (h : p + 2 ≤ n) : IntKind.i64.wrap (2 + (B p * 256 + B (p + 1))) = ((2 + ln B p : Nat) : Int) := by
  have b0 := hb p (by omega)
  have b1 := hb (p + 1) (by omega)
  unfold ln
  rw [IntKind.wrap_i64]
  omega
theorem w21 (L : Nat) (h : L ≤ 65535) : IntKind.i64.wrap (((2 + L : Nat) : Int) + 1) = ((L + 3 : Nat) : Int) := by
  rw [IntKind.wrap_i64]; omega
theorem wps (p L : Nat) (h : p + L + 3 ≤ 16777216) (h' : L ≤ 65535) : IntKind.i64.wrap ((p : Int) + IntKind.i64.wrap (((2 + L : Nat) : Int) + 1)) = ((p + L + 3 : Nat) : Int) := by
  rw [w21 L h', IntKind.wrap_i64]; omega
theorem wsub (n p : Nat) (h : p ≤ n) (hn : n ≤ 16777216) : IntKind.i64.wrap ((n : Int) - (p : Int)) = ((n - p : Nat) : Int) := by
  rw [IntKind.wrap_i64]; omega
set_option maxHeartbeats 2000000 in
theorem ok_wh (a : Option Addr) (n cap : Nat) (B : Nat → Int) (hb : ∀ i, i < n → 0 ≤ B i ∧ B i < 256) (hn : n ≤ 16777216) (hc : n ≤ cap) :
    OwesR Try.prog cxWh slWh [(3, .inv2 (invWL a n cap B) (invWM a n cap B) (pickN 4))] 4 Try.f24 [xsI a n cap .u8 B] true (whR B n) := by
  rw [vc_wh]
  have hML : maxLen = 9223372036854775807 := rfl
  have sim : simC (SC.xs a n cap 1 fun (i _ : Nat) => .val (.int .u8 (B i))) (SC.xs a n cap 1 fun (i _ : Nat) => .val (.int .u8 (B i))) := ⟨rfl, rfl, rfl, fun _ _ => rfl⟩
  refine ⟨fun _ => rfl, fun _ => rfl, fun y => ?_, ⟨0, 0, fun _ => (none, 0)⟩, ⟨fun j hj => absurd hj (Nat.not_lt_zero _), rfl⟩, sim, rfl, rfl, fun y => ?_⟩
  · intro x101 x102 hy
    obtain ⟨h1, h2, h3⟩ := hy
    obtain ⟨q3, q4⟩ := posW_le y.i h1
    have stop : ¬ good B n (posW B y.i) → x101 := fun hg => by
      have e := whN_eq h1 hg
      refine ⟨⟨fun l => match l with | [j] => y.ac j | _ => (none, 0), trivial, by omega, e.symm, by omega, fun i hi => ?_⟩, by rw [e]⟩
      exact wh_self B _ _ (0 + i) i 0 (Nat.zero_add i) rfl
    have e102 : 2 ≤ n - posW B y.i → (((2 + ln B (posW B y.i) : Nat) : Int) ≤ ((n - posW B y.i : Nat) : Int)) → x102 := fun hk hh => by
      show IntKind.i64.wrap (2 + (B ((posW B y.i : Int).toNat + 0) * 256 + B ((posW B y.i : Int).toNat + 1))) ≤ ((n - (posW B y.i : Int).toNat : Nat) : Int)
      rw [Int.toNat_natCast, Nat.add_zero, key2 hb (by omega)]
      exact hh
    clear_value x101 x102
    simp only [Int.toNat_natCast]
    refine ⟨fun h => ?_, fun h => stop fun hg => ?_⟩
    · have h := of_decide_eq_true h
      rw [wsub n _ q4 hn] at h
      have hk : 2 ≤ n - posW B y.i := by omega
      have e102 := e102 hk
      have eE : IntKind.i64.wrap (2 + (bOf (fun (i _ : Nat) => SC.val (Value.int .u8 (B (posW B y.i + i)))) 0 * 256 + bOf (fun (i _ : Nat) => SC.val (Value.int .u8 (B (posW B y.i + i)))) 1)) = ((2 + ln B (posW B y.i) : Nat) : Int) := key2 (p := posW B y.i) hb (by omega)
      have eR : (bOf fun (i _ : Nat) => SC.val (Value.int .u8 (B (posW B y.i + (2 + i))))) = recB B (posW B y.i) := funext fun i => by
        show B (posW B y.i + (2 + i)) = B (posW B y.i + 2 + i)
        rw [Nat.add_assoc]
      simp only [eE, eR, Int.toNat_natCast]
      rw [show 2 + ln B (posW B y.i) - 2 = ln B (posW B y.i) by omega]
      generalize hp : posW B y.i = p at *
      generalize hL : ln B p = L at *
      refine ⟨⟨by omega, by omega, Int.le_refl _⟩, bP_sub hb hn (by omega), hk, fun h => stop fun hg => ?_, fun h => ⟨fun h => stop fun hg => ?_, fun h' => ?_⟩⟩
      · have h := of_decide_eq_true h
        have := hg.g2
        omega
      · have h := of_decide_eq_true h
        rw [w21 L (hL ▸ ln_le hb (by omega))] at h
        have := hg.g3
        omega
      · have h := of_decide_eq_false h
        have h' := of_decide_eq_false h'
        rw [w21 L (by omega)] at h'
        refine ⟨⟨by omega, by omega, e102 (by omega)⟩, ⟨by omega, by omega⟩, ⟨rfl, fun i hi => hb _ (by omega), by omega⟩, fun h => stop fun hg => ?_, fun h => ?_⟩
        · have k := hg.g4
          rw [hL] at k
          rw [show p + 2 + L = p + (2 + L) by omega] at k
          rw [k, beq_self_eq_true] at h
          cases h
        · have hgood : good B n p := by
            refine ⟨by omega, by omega, by omega, ?_⟩
            rw [hL]
            have := of_decide_eq_true (show decide (smB (recB B p) 0 L % 256 = B (p + (2 + L))) = true by
              cases hd : (smB (recB B p) 0 L % 256 == B (p + (2 + L))) with
              | true => exact decide_eq_true (eq_of_beq hd)
              | false => rw [hd] at h; cases h)
            exact this.trans (by rw [Nat.add_assoc])
          have hext : ∀ j, j < y.i + 1 → good B n (posW B j) := fun j hj => by
            rcases Nat.lt_or_ge j y.i with q | q
            · exact h1 j q
            · rw [show j = y.i by omega, hp]; exact hgood
          have hpos : posW B (y.i + 1) = p + L + 3 := by
            show posW B y.i + ln B (posW B y.i) + 3 = _
            rw [hp, hL]
          refine ⟨⟨by omega, by omega, by omega, by omega, e102 (by omega)⟩, trivial, trivial, ⟨by omega, by omega, by omega⟩, ⟨by omega, by omega⟩, fun c hcc => ⟨⟨y.i + 1, c, acW y.ac y.i (adS (2 + L) 2 1 (adS cap p 1 a), L)⟩, ⟨hext, by show 0 < y.i + 1; omega, hcc⟩, sim, ⟨trivial, trivial, trivial, rfl, rfl⟩, ?_, rfl, Nat.mul_one c, fun i hi => ?_, ?_⟩⟩
          · show _ = ((posW B (y.i + 1) : Nat) : Int)
            rw [hpos]; exact wps p L (by omega) (by omega)
          · show simC (selC (decide (i < y.i)) (whF B y.ac i 0) (.xs (adS (2 + L) 2 1 (adS cap p 1 a)) L L 1 (byF fun i => B (p + (2 + i))))) (whF B (acW y.ac y.i (adS (2 + L) 2 1 (adS cap p 1 a), L)) i 0)
            by_cases hlt : i < y.i
            · rw [decide_eq_true hlt]
              exact wh_old hlt fun j => ⟨_, rfl⟩
            · rw [decide_eq_false hlt]
              refine wh_newS (x := (adS (2 + L) 2 1 (adS cap p 1 a), L)) (by omega) (by rw [hp, hL]) (fun j _ => ?_) _ _ _ _
              rw [hp]
              show B (p + (2 + j)) = B (p + 2 + j)
              rw [Nat.add_assoc]
          · show n - posW B (y.i + 1) + 1 ≤ n - p
            rw [hpos]; omega
    · have h := of_decide_eq_false h
      rw [wsub n _ q4 hn] at h
      have := hg.g1
      omega
  · intro x101 x102 hy
    obtain ⟨h1, h2⟩ := hy
    obtain ⟨q3, q4⟩ := posW_le y.i h1
    have stop : ¬ good B n (posW B y.i) → x101 := fun hg => by
      have e := whN_eq h1 hg
      exact ⟨⟨fun _ => (none, 0), trivial, by rw [e]; exact h2⟩, by rw [e]⟩
    have e102 : 2 ≤ n - posW B y.i → (((2 + ln B (posW B y.i) : Nat) : Int) ≤ ((n - posW B y.i : Nat) : Int)) → x102 := fun hk hh => by
      show IntKind.i64.wrap (2 + (B ((posW B y.i : Int).toNat + 0) * 256 + B ((posW B y.i : Int).toNat + 1))) ≤ ((n - (posW B y.i : Int).toNat : Nat) : Int)
      rw [Int.toNat_natCast, Nat.add_zero, key2 hb (by omega)]
      exact hh
    clear_value x101 x102
    simp only [Int.toNat_natCast]
    refine ⟨fun h => ?_, fun h => stop fun hg => ?_⟩
    · have h := of_decide_eq_true h
      rw [wsub n _ q4 hn] at h
      have hk : 2 ≤ n - posW B y.i := by omega
      have e102 := e102 hk
      have eE : IntKind.i64.wrap (2 + (bOf (fun (i _ : Nat) => SC.val (Value.int .u8 (B (posW B y.i + i)))) 0 * 256 + bOf (fun (i _ : Nat) => SC.val (Value.int .u8 (B (posW B y.i + i)))) 1)) = ((2 + ln B (posW B y.i) : Nat) : Int) := key2 (p := posW B y.i) hb (by omega)
      have eR : (bOf fun (i _ : Nat) => SC.val (Value.int .u8 (B (posW B y.i + (2 + i))))) = recB B (posW B y.i) := funext fun i => by
        show B (posW B y.i + (2 + i)) = B (posW B y.i + 2 + i)
        rw [Nat.add_assoc]
      simp only [eE, eR, Int.toNat_natCast]
      rw [show 2 + ln B (posW B y.i) - 2 = ln B (posW B y.i) by omega]
      generalize hp : posW B y.i = p at *
      generalize hL : ln B p = L at *
      refine ⟨⟨by omega, by omega, Int.le_refl _⟩, bP_sub hb hn (by omega), hk, fun h => stop fun hg => ?_, fun h => ⟨fun h => stop fun hg => ?_, fun h' => ?_⟩⟩
      · have h := of_decide_eq_true h
        have := hg.g2
        omega
      · have h := of_decide_eq_true h
        rw [w21 L (hL ▸ ln_le hb (by omega))] at h
        have := hg.g3
        omega
      · have h := of_decide_eq_false h
        have h' := of_decide_eq_false h'
        rw [w21 L (by omega)] at h'
        refine ⟨⟨by omega, by omega, e102 (by omega)⟩, ⟨by omega, by omega⟩, ⟨rfl, fun i hi => hb _ (by omega), by omega⟩, fun h => stop fun hg => ?_, fun h => ?_⟩
        · have k := hg.g4
          rw [hL] at k
          rw [show p + 2 + L = p + (2 + L) by omega] at k
          rw [k, beq_self_eq_true] at h
          cases h
        · have hgood : good B n p := by
            refine ⟨by omega, by omega, by omega, ?_⟩
            rw [hL]
            have := of_decide_eq_true (show decide (smB (recB B p) 0 L % 256 = B (p + (2 + L))) = true by
              cases hd : (smB (recB B p) 0 L % 256 == B (p + (2 + L))) with
              | true => exact decide_eq_true (eq_of_beq hd)
              | false => rw [hd] at h; cases h)
            exact this.trans (by rw [Nat.add_assoc])
          have hext : ∀ j, j < y.i + 1 → good B n (posW B j) := fun j hj => by
            rcases Nat.lt_or_ge j y.i with q | q
            · exact h1 j q
            · rw [show j = y.i by omega, hp]; exact hgood
          have hpos : posW B (y.i + 1) = p + L + 3 := by
            show posW B y.i + ln B (posW B y.i) + 3 = _
            rw [hp, hL]
          refine ⟨⟨by omega, by omega, by omega, by omega, e102 (by omega)⟩, ⟨by omega, by omega⟩, fun c hcc => ⟨⟨1, c, acW y.ac y.i (adS (2 + L) 2 1 (adS cap p 1 a), L)⟩, ⟨fun j hj => hext j (by have : j < 1 := hj; omega), by show 0 < 1; omega, hcc⟩, sim, ⟨trivial, trivial, trivial, rfl, rfl⟩, ?_, rfl, Nat.mul_one c, fun i hi => ?_, ?_⟩⟩
          · show _ = ((posW B 1 : Nat) : Int)
            rw [show 1 = y.i + 1 by omega, hpos]; exact wps p L (by omega) (by omega)
          · show simC (.xs (adS (2 + L) 2 1 (adS cap p 1 a)) L L 1 (byF fun i => B (p + (2 + i)))) (whF B (acW y.ac y.i (adS (2 + L) 2 1 (adS cap p 1 a), L)) i 0)
            refine wh_new (x := (adS (2 + L) 2 1 (adS cap p 1 a), L)) (by omega) (by rw [hp, hL]) (fun j _ => ?_)
            rw [hp]
            show B (p + (2 + j)) = B (p + 2 + j)
            rw [Nat.add_assoc]
          · show n - posW B 1 + 1 ≤ n - p
            rw [show 1 = y.i + 1 by omega, hpos]; omega
    · have h := of_decide_eq_false h
      rw [wsub n _ q4 hn] at h
      have := hg.g1
      omega
end Go.Proofs.Ytoeccdjnpghhgaa
end

section
namespace Go.Proofs.Ytoeccdjnpghhgaa
open Go.Sx
set_option maxRecDepth 100000
def opC : List (List FD) → List Prop
  | [[.x a n cap f, .x b m cb g]] => [bP n f, bP m g, n + m ≤ 16777216, n ≤ cap, m ≤ cb, a = none → n = 0, b = none → m = 0]
  | _ => [False]
def opG : List (List FD) → List RS
  | [[.x _ n _ f, .x _ m _ g]] => whR (catB n (bOf f) (bOf g)) (n + m)
  | _ => []
def cOp : SSpec := specQ0 true [.st [.x 1, .x 1]] opC opG
def slOp : List (Nat × SSpec) := [(20, cCc), (24, cWh)]
def mdE (m : Nat) : Int := if 0 < m then 12 else 0
def mdR (n : Nat) (F : Nat → Int) (m : Nat) : List RS := [.st [.s (zl (mdE m) (posW F (whN F n))) 1 (byF F), .s 0 1 (byF F)], .v (sI .i64 (mdE m))]
def mdG : List (List FD) → List RS
  | [[.x _ n _ f, .x _ m _ _]] => mdR n (bOf f) m
  | _ => []
def cMd : SSpec := specQ0 true [.st [.x 1, .x 1]] opC mdG
def slMd : List (Nat × SSpec) := [(19, cCl), (24, cWh)]
def chr (s : ByteArray) (i : Nat) : Int := ((s.data.getD i 0).toNat : Int)
def txN (s : ByteArray) : Nat → Int
  | 0 => 0
  | i + 1 => txN s i * 256 + chr s i
def invNum (s : ByteArray) : Inv where
  X := Nat
  tm i := slotsAt 20 [(0, .one (sStr s)), (3, .one (sI .u64 (txN s i))), (4, .one (sI .i64 (i : Int)))]
  ob _ := []
  holds i := i ≤ s.size
  less i := s.size - i
def specNum : FSpec := fun args =>
  match args with
  | [.sc (.val (.string s))] => some ([s.size ≤ 8], .one (sI .i64 (IntKind.i64.wrap (txN s s.size))))
  | _ => none
def txS (n : Nat) (B : Nat → Int) : ByteArray := bytesI ((List.range n).map B)
def rcT (n : Nat) (B : Nat → Int) (r : SC) (y : WX) : List SV := slotsAt 58 [(4, .one (sStr ((txS n B).extract (posW B y.i) n))), (5, .one (sI .i64 (n : Int))), (6, .one (.sc r))]
def invRL (n : Nat) (B : Nat → Int) : Inv where
  X := WX
  tm y := rcT n B (.val (.slice none 0 0)) y
  ob _ := []
  holds y := whH B n y ∧ y.i = 0
  less y := n - posW B y.i
def invRM (n : Nat) (B : Nat → Int) : Inv where
  X := WX
  tm y := rcT n B (.slw 0 1 0 y.i (y.i + y.p)) y
  ob y := [whO B y]
  holds y := whH B n y ∧ 0 < y.i ∧ y.i + y.p ≤ maxLen
  less y := n - posW B y.i
def cxRc : Cx := ⟨[(25, specNum), (1200000000 + 22, fun _ => none), (1000000007, fun _ => none), (1000000008, fun _ => none), (1000000010, fun _ => none), (1000000012, fun _ => none), (1000000013, fun _ => none), (1000000014, fun _ => none)], [], 0, []⟩
def slRm : List (Nat × SSpec) := [(15, cOp)]
theorem vc_op (a : Option Addr) (n cap : Nat) (F : Nat → Int) (b : Option Addr) (m cb : Nat) (G : Nat → Int) :
    OwesR Try.prog cxLA slOp [] 10 Try.f14 [sLg a n cap F b m cb G] true (whR (catB n F G) (n + m)) =
    (let x1 : Nat := xN ((flat ([SK.c ((flat (toKs (sLg a n cap F b m cb G))).getD 0 (SC.bit Bool.false))] ++ toKs (SA.sc ((flat (toKs (sLg a n cap F b m cb G))).getD 1 (SC.bit Bool.false))) ++ [])).getD 0 (SC.bit Bool.false)); let x2 : Nat := x1 + xN ((flat ([SK.c ((flat (toKs (sLg a n cap F b m cb G))).getD 0 (SC.bit Bool.false))] ++ toKs (SA.sc ((flat (toKs (sLg a n cap F b m cb G))).getD 1 (SC.bit Bool.false))) ++ [])).getD 1 (SC.bit Bool.false)); let x3 : Nat := whN (bOf fun (i _ : Nat) => SC.val (Go.Value.int Go.IntKind.u8 (catB x1 (bOf (xG ((flat ([SK.c ((flat (toKs (sLg a n cap F b m cb G))).getD 0 (SC.bit Bool.false))] ++ toKs (SA.sc ((flat (toKs (sLg a n cap F b m cb G))).getD 1 (SC.bit Bool.false))) ++ [])).getD 0 (SC.bit Bool.false)))) (bOf (xG ((flat ([SK.c ((flat (toKs (sLg a n cap F b m cb G))).getD 0 (SC.bit Bool.false))] ++ toKs (SA.sc ((flat (toKs (sLg a n cap F b m cb G))).getD 1 (SC.bit Bool.false))) ++ [])).getD 1 (SC.bit Bool.false)))) i))) x2; let x4 : Nat := whN (catB n F G) (n + m); ∀ (_ : Go.Addr), 2 ≤ 2 ∧ ∀ (_ : Go.Addr), 2 = 2 ∧ (∃ (a_3 : Option Go.Addr), ∃ (m_1 : Nat), ∃ (cap_1 : Nat), ∃ (g : Nat → Nat → SC), (flat ([SK.c ((flat (toKs (sLg a n cap F b m cb G))).getD 0 (SC.bit Bool.false))] ++ toKs (SA.sc ((flat (toKs (sLg a n cap F b m cb G))).getD 1 (SC.bit Bool.false))) ++ [])).getD 0 (SC.bit Bool.false) = SC.xs a_3 m_1 cap_1 1 g ∧ bP m_1 g) ∧ (∃ (a_3 : Option Go.Addr), ∃ (m_1 : Nat), ∃ (cap_1 : Nat), ∃ (g : Nat → Nat → SC), (flat ([SK.c ((flat (toKs (sLg a n cap F b m cb G))).getD 0 (SC.bit Bool.false))] ++ toKs (SA.sc ((flat (toKs (sLg a n cap F b m cb G))).getD 1 (SC.bit Bool.false))) ++ [])).getD 1 (SC.bit Bool.false) = SC.xs a_3 m_1 cap_1 1 g ∧ bP m_1 g) ∧ ∀ (a_3 : Option Go.Addr) (cap_1 : Nat), (a_3 = Option.none → x2 = 0 ∧ cap_1 = 0) → x2 ≤ cap_1 → (bP x2 fun (i _ : Nat) => SC.val (Go.Value.int Go.IntKind.u8 (catB x1 (bOf (xG ((flat ([SK.c ((flat (toKs (sLg a n cap F b m cb G))).getD 0 (SC.bit Bool.false))] ++ toKs (SA.sc ((flat (toKs (sLg a n cap F b m cb G))).getD 1 (SC.bit Bool.false))) ++ [])).getD 0 (SC.bit Bool.false)))) (bOf (xG ((flat ([SK.c ((flat (toKs (sLg a n cap F b m cb G))).getD 0 (SC.bit Bool.false))] ++ toKs (SA.sc ((flat (toKs (sLg a n cap F b m cb G))).getD 1 (SC.bit Bool.false))) ++ [])).getD 1 (SC.bit Bool.false)))) i))) ∧ x2 ≤ cap_1 ∧ ∀ (ac : List Nat → Option Go.Addr × Nat), True → ∀ (a_7 : Option Go.Addr) (cap_2 : Nat), (a_7 = Option.none → x3 = 0 ∧ cap_2 = 0) → x3 ≤ cap_2 → (∃ (ac_1 : List Nat → Option Go.Addr × Nat), True ∧ x3 = x4 ∧ ∀ (i : Nat), i < x4 → allC 1 fun (c : Nat) => simC (whF (bOf fun (i _ : Nat) => SC.val (Go.Value.int Go.IntKind.u8 (catB x1 (bOf (xG ((flat ([SK.c ((flat (toKs (sLg a n cap F b m cb G))).getD 0 (SC.bit Bool.false))] ++ toKs (SA.sc ((flat (toKs (sLg a n cap F b m cb G))).getD 1 (SC.bit Bool.false))) ++ [])).getD 0 (SC.bit Bool.false)))) (bOf (xG ((flat ([SK.c ((flat (toKs (sLg a n cap F b m cb G))).getD 0 (SC.bit Bool.false))] ++ toKs (SA.sc ((flat (toKs (sLg a n cap F b m cb G))).getD 1 (SC.bit Bool.false))) ++ [])).getD 1 (SC.bit Bool.false)))) i))) (fun (j : Nat) => ac [j]) i c) (whF (catB n F G) (fun (j : Nat) => ac_1 [j]) i c)) ∧ (↑(posW (bOf fun (i _ : Nat) => SC.val (Go.Value.int Go.IntKind.u8 (catB x1 (bOf (xG ((flat ([SK.c ((flat (toKs (sLg a n cap F b m cb G))).getD 0 (SC.bit Bool.false))] ++ toKs (SA.sc ((flat (toKs (sLg a n cap F b m cb G))).getD 1 (SC.bit Bool.false))) ++ [])).getD 0 (SC.bit Bool.false)))) (bOf (xG ((flat ([SK.c ((flat (toKs (sLg a n cap F b m cb G))).getD 0 (SC.bit Bool.false))] ++ toKs (SA.sc ((flat (toKs (sLg a n cap F b m cb G))).getD 1 (SC.bit Bool.false))) ++ [])).getD 1 (SC.bit Bool.false)))) i))) x3) : Int) = (↑(posW (catB n F G) x4) : Int)) := by kernel_rfl
theorem vc_md (a : Option Addr) (n cap : Nat) (F : Nat → Int) (b : Option Addr) (m cb : Nat) (G : Nat → Int) :
    OwesR Try.prog cxLA slMd [] 10 Try.f17 [sLg a n cap F b m cb G] true (mdR n F m) =
    (let x1 : Prop := 0 = 0 ∧ True; let x2 : Int := (↑(posW (bOf (byF F)) (whN (bOf (byF F)) n)) : Int); let x3 : Nat := x2.toNat; let x4 : Prop := x3 = 0; ∀ (_ : Go.Addr), (Decidable.decide ((↑m : Int) > (0 : Int)) = Bool.true → (zl (mdE m) (posW F (whN F n)) = 0 ∧ x1) ∧ (12 : Int) = mdE m) ∧ (Decidable.decide ((↑m : Int) > (0 : Int)) = Bool.false → bP n (byF F) ∧ n ≤ cap ∧ ∀ (_ : List Nat → Option Go.Addr × Nat), True → ∀ (a_4 : Option Go.Addr) (cap : Nat), (a_4 = Option.none → whN (bOf (byF F)) n = 0 ∧ cap = 0) → whN (bOf (byF F)) n ≤ cap → ((0 : Int) ≤ x2 ∧ x2 ≤ (↑n : Int)) ∧ bP x3 (byF F) ∧ (a = Option.none → x4) ∧ ∀ (a : Option Go.Addr) (cap : Nat), (a = Option.none → x4 ∧ cap = 0) → x3 ≤ cap → ((x3 = zl (mdE m) (posW F (whN F n)) ∧ ∀ (i : Nat), i < zl (mdE m) (posW F (whN F n)) → allC 1 fun (c : Nat) => simC (SC.val (Go.Value.int Go.IntKind.u8 (bOf (byF F) i))) (byF F i c)) ∧ x1) ∧ (0 : Int) = mdE m)) := by kernel_rfl
theorem vc_rnum (s : ByteArray) (r : Int) :
    Owes Try.prog Cx.none [(3, .inv (invNum s))] 12 Try.f25 [sStr s] (.one (sI .i64 r)) =
    ((∀ (y : Nat), closedB ((invNum s).tm y) ((invNum s).ob y) = Bool.true) ∧ ∃ (y : Nat), y ≤ s.size ∧ s = s ∧ (0 : Int) = txN s y ∧ (0 : Int) = (↑y : Int) ∧ ∀ (y : Nat), y ≤ s.size → (Decidable.decide ((↑y : Int) < (↑s.size : Int)) = Bool.true → ((0 : Int) ≤ (↑y : Int) ∧ (↑y : Int).toNat < s.size) ∧ ∃ (y' : Nat), y' ≤ s.size ∧ s = s ∧ Go.IntKind.u64.wrap (Go.IntKind.u64.wrap (txN s y * (256 : Int)) + Go.IntKind.u64.wrap (↑(s.data.getD (↑y : Int).toNat (0 : UInt8)).toNat : Int)) = txN s y' ∧ Go.IntKind.i64.wrap ((↑y : Int) + (1 : Int)) = (↑y' : Int) ∧ (s.size - y').succ.le (s.size - y)) ∧ (Decidable.decide ((↑y : Int) < (↑s.size : Int)) = Bool.false → Go.IntKind.i64.wrap (txN s y) = r)) := by kernel_rfl
theorem vc_rc (a : Option Addr) (n cap : Nat) (F : Nat → Int) (b : Option Addr) (m cb : Nat) (G : Nat → Int) :
    OwesR Try.prog cxRc slTx [(4, .inv2 (invRL (n + m) (catB n F G)) (invRM (n + m) (catB n F G)) (pickN 6))] 4 Try.f15 [sLg a n cap F b m cb G] true (whR (catB n F G) (n + m)) =
    (let x1 : Nat := n + m; let x2 : Nat := whN (catB n F G) x1; let x3 : Int := (↑x1 : Int); let x4 : Int := (↑(posW (catB n F G) x2) : Int); ∀ (_ : Go.Addr), (∀ (_ : Nat), True) ∧ (∀ (_ : Nat), True) ∧ (bytesI (List.map (fun (j : Nat) => F j) (List.range n))).size + (bytesI (List.map (fun (j : Nat) => G j) (List.range m))).size ≤ 9223372036854775807 ∧ (∀ (y : WX), closedB ((invRL x1 (catB n F G)).tm y) ((invRL x1 (catB n F G)).ob y) = Bool.true) ∧ (∀ (y : WX), closedB ((invRM x1 (catB n F G)).tm y) ((invRM x1 (catB n F G)).ob y) = Bool.true) ∧ (∀ (y : WX), let x101 : Prop := (!Decidable.decide (Go.IntKind.i64.wrap (txN (((txS x1 (catB n F G)).extract (posW (catB n F G) y.i) x1).extract 0 2) (((txS x1 (catB n F G)).extract (posW (catB n F G) y.i) x1).extract 0 2).size) > (200 : Int))) = Bool.true; let x102 : Prop := (∃ (ac : List Nat → Option Go.Addr × Nat), True ∧ 0 + y.i ≤ y.i ∧ y.i = x2 ∧ y.i ≤ y.i + y.p ∧ ∀ (i : Nat), i < x2 → allC 1 fun (c : Nat) => simC (whF (catB n F G) y.ac (0 + i) c) (whF (catB n F G) (fun (j : Nat) => ac [j]) i c)) ∧ Go.IntKind.i64.wrap (x3 - (↑((txS x1 (catB n F G)).extract (posW (catB n F G) y.i) x1).size : Int)) = x4; let x103 : Prop := Go.IntKind.i64.wrap (Go.IntKind.i64.wrap (txN (((txS x1 (catB n F G)).extract (posW (catB n F G) y.i) x1).extract 0 2) (((txS x1 (catB n F G)).extract (posW (catB n F G) y.i) x1).extract 0 2).size) + (3 : Int)) ≤ (↑((txS x1 (catB n F G)).extract (posW (catB n F G) y.i) x1).size : Int); (∀ (j : Nat), j < y.i → good (catB n F G) x1 (posW (catB n F G) j)) ∧ 0 < y.i ∧ y.i + y.p ≤ Go.maxLen → (Decidable.decide ((↑((txS x1 (catB n F G)).extract (posW (catB n F G) y.i) x1).size : Int) ≥ (3 : Int)) = Bool.true → ((0 : Int) ≤ (0 : Int) ∧ (0 : Int) ≤ (2 : Int) ∧ (2 : Int) ≤ (↑((txS x1 (catB n F G)).extract (posW (catB n F G) y.i) x1).size : Int)) ∧ (((txS x1 (catB n F G)).extract (posW (catB n F G) y.i) x1).extract 0 2).size ≤ 8 ∧ (x101 → x101) ∧ (x101 → x101) ∧ (x101 → x101) ∧ (x101 → x101) ∧ (Decidable.decide (Go.IntKind.i64.wrap (txN (((txS x1 (catB n F G)).extract (posW (catB n F G) y.i) x1).extract 0 2) (((txS x1 (catB n F G)).extract (posW (catB n F G) y.i) x1).extract 0 2).size) > (200 : Int)) = Bool.false → x101) ∧ ((Decidable.decide (Go.IntKind.i64.wrap (txN (((txS x1 (catB n F G)).extract (posW (catB n F G) y.i) x1).extract 0 2) (((txS x1 (catB n F G)).extract (posW (catB n F G) y.i) x1).extract 0 2).size) > (200 : Int)) || Decidable.decide (Go.IntKind.i64.wrap (Go.IntKind.i64.wrap (txN (((txS x1 (catB n F G)).extract (posW (catB n F G) y.i) x1).extract 0 2) (((txS x1 (catB n F G)).extract (posW (catB n F G) y.i) x1).extract 0 2).size) + (3 : Int)) > (↑((txS x1 (catB n F G)).extract (posW (catB n F G) y.i) x1).size : Int))) = Bool.true → x102) ∧ ((Decidable.decide (Go.IntKind.i64.wrap (txN (((txS x1 (catB n F G)).extract (posW (catB n F G) y.i) x1).extract 0 2) (((txS x1 (catB n F G)).extract (posW (catB n F G) y.i) x1).extract 0 2).size) > (200 : Int)) || Decidable.decide (Go.IntKind.i64.wrap (Go.IntKind.i64.wrap (txN (((txS x1 (catB n F G)).extract (posW (catB n F G) y.i) x1).extract 0 2) (((txS x1 (catB n F G)).extract (posW (catB n F G) y.i) x1).extract 0 2).size) + (3 : Int)) > (↑((txS x1 (catB n F G)).extract (posW (catB n F G) y.i) x1).size : Int))) = Bool.false → ((0 : Int) ≤ (2 : Int) ∧ (2 : Int) ≤ Go.IntKind.i64.wrap ((2 : Int) + Go.IntKind.i64.wrap (txN (((txS x1 (catB n F G)).extract (posW (catB n F G) y.i) x1).extract 0 2) (((txS x1 (catB n F G)).extract (posW (catB n F G) y.i) x1).extract 0 2).size)) ∧ Go.IntKind.i64.wrap ((2 : Int) + Go.IntKind.i64.wrap (txN (((txS x1 (catB n F G)).extract (posW (catB n F G) y.i) x1).extract 0 2) (((txS x1 (catB n F G)).extract (posW (catB n F G) y.i) x1).extract 0 2).size)) ≤ (↑((txS x1 (catB n F G)).extract (posW (catB n F G) y.i) x1).size : Int)) ∧ ∀ (a : Go.Addr) (cap : Nat), (((txS x1 (catB n F G)).extract (posW (catB n F G) y.i) x1).extract 2 (Go.IntKind.i64.wrap ((2 : Int) + Go.IntKind.i64.wrap (txN (((txS x1 (catB n F G)).extract (posW (catB n F G) y.i) x1).extract 0 2) (((txS x1 (catB n F G)).extract (posW (catB n F G) y.i) x1).extract 0 2).size))).toNat).size ≤ cap → ((0 : Int) ≤ (0 : Int) ∧ (0 : Int) ≤ Go.IntKind.i64.wrap (Go.IntKind.i64.wrap (txN (((txS x1 (catB n F G)).extract (posW (catB n F G) y.i) x1).extract 0 2) (((txS x1 (catB n F G)).extract (posW (catB n F G) y.i) x1).extract 0 2).size) + (3 : Int)) ∧ x103) ∧ (bP (((txS x1 (catB n F G)).extract (posW (catB n F G) y.i) x1).extract 2 (Go.IntKind.i64.wrap ((2 : Int) + Go.IntKind.i64.wrap (txN (((txS x1 (catB n F G)).extract (posW (catB n F G) y.i) x1).extract 0 2) (((txS x1 (catB n F G)).extract (posW (catB n F G) y.i) x1).extract 0 2).size))).toNat).size fun (i _ : Nat) => SC.val (Go.Value.int Go.IntKind.u8 (↑((((txS x1 (catB n F G)).extract (posW (catB n F G) y.i) x1).extract 2 (Go.IntKind.i64.wrap ((2 : Int) + Go.IntKind.i64.wrap (txN (((txS x1 (catB n F G)).extract (posW (catB n F G) y.i) x1).extract 0 2) (((txS x1 (catB n F G)).extract (posW (catB n F G) y.i) x1).extract 0 2).size))).toNat).data.getD i (0 : UInt8)).toNat : Int))) ∧ (((txS x1 (catB n F G)).extract (posW (catB n F G) y.i) x1).extract 2 (Go.IntKind.i64.wrap ((2 : Int) + Go.IntKind.i64.wrap (txN (((txS x1 (catB n F G)).extract (posW (catB n F G) y.i) x1).extract 0 2) (((txS x1 (catB n F G)).extract (posW (catB n F G) y.i) x1).extract 0 2).size))).toNat).size ≤ 200 ∧ ((!(frT (bOf fun (i _ : Nat) => SC.val (Go.Value.int Go.IntKind.u8 (↑((((txS x1 (catB n F G)).extract (posW (catB n F G) y.i) x1).extract 2 (Go.IntKind.i64.wrap ((2 : Int) + Go.IntKind.i64.wrap (txN (((txS x1 (catB n F G)).extract (posW (catB n F G) y.i) x1).extract 0 2) (((txS x1 (catB n F G)).extract (posW (catB n F G) y.i) x1).extract 0 2).size))).toNat).data.getD i (0 : UInt8)).toNat : Int))) (((txS x1 (catB n F G)).extract (posW (catB n F G) y.i) x1).extract 2 (Go.IntKind.i64.wrap ((2 : Int) + Go.IntKind.i64.wrap (txN (((txS x1 (catB n F G)).extract (posW (catB n F G) y.i) x1).extract 0 2) (((txS x1 (catB n F G)).extract (posW (catB n F G) y.i) x1).extract 0 2).size))).toNat).size).toList == (((txS x1 (catB n F G)).extract (posW (catB n F G) y.i) x1).extract 0 (Go.IntKind.i64.wrap (Go.IntKind.i64.wrap (txN (((txS x1 (catB n F G)).extract (posW (catB n F G) y.i) x1).extract 0 2) (((txS x1 (catB n F G)).extract (posW (catB n F G) y.i) x1).extract 0 2).size) + (3 : Int))).toNat).toList) = Bool.true → x102) ∧ ((!(frT (bOf fun (i _ : Nat) => SC.val (Go.Value.int Go.IntKind.u8 (↑((((txS x1 (catB n F G)).extract (posW (catB n F G) y.i) x1).extract 2 (Go.IntKind.i64.wrap ((2 : Int) + Go.IntKind.i64.wrap (txN (((txS x1 (catB n F G)).extract (posW (catB n F G) y.i) x1).extract 0 2) (((txS x1 (catB n F G)).extract (posW (catB n F G) y.i) x1).extract 0 2).size))).toNat).data.getD i (0 : UInt8)).toNat : Int))) (((txS x1 (catB n F G)).extract (posW (catB n F G) y.i) x1).extract 2 (Go.IntKind.i64.wrap ((2 : Int) + Go.IntKind.i64.wrap (txN (((txS x1 (catB n F G)).extract (posW (catB n F G) y.i) x1).extract 0 2) (((txS x1 (catB n F G)).extract (posW (catB n F G) y.i) x1).extract 0 2).size))).toNat).size).toList == (((txS x1 (catB n F G)).extract (posW (catB n F G) y.i) x1).extract 0 (Go.IntKind.i64.wrap (Go.IntKind.i64.wrap (txN (((txS x1 (catB n F G)).extract (posW (catB n F G) y.i) x1).extract 0 2) (((txS x1 (catB n F G)).extract (posW (catB n F G) y.i) x1).extract 0 2).size) + (3 : Int))).toNat).toList) = Bool.false → ((0 : Int) ≤ Go.IntKind.i64.wrap (Go.IntKind.i64.wrap (txN (((txS x1 (catB n F G)).extract (posW (catB n F G) y.i) x1).extract 0 2) (((txS x1 (catB n F G)).extract (posW (catB n F G) y.i) x1).extract 0 2).size) + (3 : Int)) ∧ x103 ∧ (↑((txS x1 (catB n F G)).extract (posW (catB n F G) y.i) x1).size : Int) ≤ (↑((txS x1 (catB n F G)).extract (posW (catB n F G) y.i) x1).size : Int)) ∧ 0 = 0 ∧ y.i = y.i ∧ (y.i ≤ y.i + y.p ∧ y.i + y.p ≤ Go.maxLen ∧ (y.i + y.p) * 1 = y.i * 1 + y.p) ∧ (y.i + 1 ≤ Go.maxLen ∧ (y.i + 1) * 24 ≤ 140737488355328) ∧ ∀ (c : Nat), y.i + 1 + c ≤ Go.maxLen → ∃ (y' : WX), ((∀ (j : Nat), j < y'.i → good (catB n F G) x1 (posW (catB n F G) j)) ∧ 0 < y'.i ∧ y'.i + y'.p ≤ Go.maxLen) ∧ ((txS x1 (catB n F G)).extract (posW (catB n F G) y.i) x1).extract (Go.IntKind.i64.wrap (Go.IntKind.i64.wrap (txN (((txS x1 (catB n F G)).extract (posW (catB n F G) y.i) x1).extract 0 2) (((txS x1 (catB n F G)).extract (posW (catB n F G) y.i) x1).extract 0 2).size) + (3 : Int))).toNat (↑((txS x1 (catB n F G)).extract (posW (catB n F G) y.i) x1).size : Int).toNat = (txS x1 (catB n F G)).extract (posW (catB n F G) y'.i) x1 ∧ x3 = x3 ∧ (0 = 0 ∧ 1 = 1 ∧ 0 = 0 ∧ y.i + 1 = y'.i ∧ y.i + 1 + c = y'.i + y'.p) ∧ y.i + 1 = y'.i ∧ c * 1 = y'.p ∧ (∀ (i : Nat), i < y.i + 1 → allC 1 fun (c : Nat) => simC (newH (SA.sc (SC.slw 0 1 0 y.i (y.i + y.p))) (SA.sc (SC.sl 3 0 1 1)) y.i (whF (catB n F G) y.ac) (fixAt (flat [SK.c (SC.xs (Option.some a) (((txS x1 (catB n F G)).extract (posW (catB n F G) y.i) x1).extract 2 (Go.IntKind.i64.wrap ((2 : Int) + Go.IntKind.i64.wrap (txN (((txS x1 (catB n F G)).extract (posW (catB n F G) y.i) x1).extract 0 2) (((txS x1 (catB n F G)).extract (posW (catB n F G) y.i) x1).extract 0 2).size))).toNat).size cap 1 fun (i _ : Nat) => SC.val (Go.Value.int Go.IntKind.u8 (↑((((txS x1 (catB n F G)).extract (posW (catB n F G) y.i) x1).extract 2 (Go.IntKind.i64.wrap ((2 : Int) + Go.IntKind.i64.wrap (txN (((txS x1 (catB n F G)).extract (posW (catB n F G) y.i) x1).extract 0 2) (((txS x1 (catB n F G)).extract (posW (catB n F G) y.i) x1).extract 0 2).size))).toNat).data.getD i (0 : UInt8)).toNat : Int)))]) 1 1 0) i c) (whF (catB n F G) y'.ac i c)) ∧ (x1 - posW (catB n F G) y'.i).succ.le (x1 - posW (catB n F G) y.i)))) ∧ (Decidable.decide ((↑((txS x1 (catB n F G)).extract (posW (catB n F G) y.i) x1).size : Int) ≥ (3 : Int)) = Bool.false → x102)) ∧ ∃ (y : WX), ((∀ (j : Nat), j < y.i → good (catB n F G) x1 (posW (catB n F G) j)) ∧ y.i = 0) ∧ bytesI (List.map (fun (j : Nat) => F j) (List.range n)) ++ bytesI (List.map (fun (j : Nat) => G j) (List.range m)) = (txS x1 (catB n F G)).extract (posW (catB n F G) y.i) x1 ∧ (↑(bytesI (List.map (fun (j : Nat) => F j) (List.range n)) ++ bytesI (List.map (fun (j : Nat) => G j) (List.range m))).size : Int) = x3 ∧ Go.Value.slice Option.none 0 0 = Go.Value.slice Option.none 0 0 ∧ ∀ (y : WX), let x104 : Prop := (!Decidable.decide (Go.IntKind.i64.wrap (txN (((txS x1 (catB n F G)).extract (posW (catB n F G) y.i) x1).extract 0 2) (((txS x1 (catB n F G)).extract (posW (catB n F G) y.i) x1).extract 0 2).size) > (200 : Int))) = Bool.true; let x105 : Prop := (∃ (_ : List Nat → Option Go.Addr × Nat), True ∧ x2 = 0) ∧ Go.IntKind.i64.wrap (x3 - (↑((txS x1 (catB n F G)).extract (posW (catB n F G) y.i) x1).size : Int)) = x4; let x106 : Prop := Go.IntKind.i64.wrap (Go.IntKind.i64.wrap (txN (((txS x1 (catB n F G)).extract (posW (catB n F G) y.i) x1).extract 0 2) (((txS x1 (catB n F G)).extract (posW (catB n F G) y.i) x1).extract 0 2).size) + (3 : Int)) ≤ (↑((txS x1 (catB n F G)).extract (posW (catB n F G) y.i) x1).size : Int); (∀ (j : Nat), j < y.i → good (catB n F G) x1 (posW (catB n F G) j)) ∧ y.i = 0 → (Decidable.decide ((↑((txS x1 (catB n F G)).extract (posW (catB n F G) y.i) x1).size : Int) ≥ (3 : Int)) = Bool.true → ((0 : Int) ≤ (0 : Int) ∧ (0 : Int) ≤ (2 : Int) ∧ (2 : Int) ≤ (↑((txS x1 (catB n F G)).extract (posW (catB n F G) y.i) x1).size : Int)) ∧ (((txS x1 (catB n F G)).extract (posW (catB n F G) y.i) x1).extract 0 2).size ≤ 8 ∧ (x104 → x104) ∧ (x104 → x104) ∧ (x104 → x104) ∧ (x104 → x104) ∧ (Decidable.decide (Go.IntKind.i64.wrap (txN (((txS x1 (catB n F G)).extract (posW (catB n F G) y.i) x1).extract 0 2) (((txS x1 (catB n F G)).extract (posW (catB n F G) y.i) x1).extract 0 2).size) > (200 : Int)) = Bool.false → x104) ∧ ((Decidable.decide (Go.IntKind.i64.wrap (txN (((txS x1 (catB n F G)).extract (posW (catB n F G) y.i) x1).extract 0 2) (((txS x1 (catB n F G)).extract (posW (catB n F G) y.i) x1).extract 0 2).size) > (200 : Int)) || Decidable.decide (Go.IntKind.i64.wrap (Go.IntKind.i64.wrap (txN (((txS x1 (catB n F G)).extract (posW (catB n F G) y.i) x1).extract 0 2) (((txS x1 (catB n F G)).extract (posW (catB n F G) y.i) x1).extract 0 2).size) + (3 : Int)) > (↑((txS x1 (catB n F G)).extract (posW (catB n F G) y.i) x1).size : Int))) = Bool.true → x105) ∧ ((Decidable.decide (Go.IntKind.i64.wrap (txN (((txS x1 (catB n F G)).extract (posW (catB n F G) y.i) x1).extract 0 2) (((txS x1 (catB n F G)).extract (posW (catB n F G) y.i) x1).extract 0 2).size) > (200 : Int)) || Decidable.decide (Go.IntKind.i64.wrap (Go.IntKind.i64.wrap (txN (((txS x1 (catB n F G)).extract (posW (catB n F G) y.i) x1).extract 0 2) (((txS x1 (catB n F G)).extract (posW (catB n F G) y.i) x1).extract 0 2).size) + (3 : Int)) > (↑((txS x1 (catB n F G)).extract (posW (catB n F G) y.i) x1).size : Int))) = Bool.false → ((0 : Int) ≤ (2 : Int) ∧ (2 : Int) ≤ Go.IntKind.i64.wrap ((2 : Int) + Go.IntKind.i64.wrap (txN (((txS x1 (catB n F G)).extract (posW (catB n F G) y.i) x1).extract 0 2) (((txS x1 (catB n F G)).extract (posW (catB n F G) y.i) x1).extract 0 2).size)) ∧ Go.IntKind.i64.wrap ((2 : Int) + Go.IntKind.i64.wrap (txN (((txS x1 (catB n F G)).extract (posW (catB n F G) y.i) x1).extract 0 2) (((txS x1 (catB n F G)).extract (posW (catB n F G) y.i) x1).extract 0 2).size)) ≤ (↑((txS x1 (catB n F G)).extract (posW (catB n F G) y.i) x1).size : Int)) ∧ ∀ (a : Go.Addr) (cap : Nat), (((txS x1 (catB n F G)).extract (posW (catB n F G) y.i) x1).extract 2 (Go.IntKind.i64.wrap ((2 : Int) + Go.IntKind.i64.wrap (txN (((txS x1 (catB n F G)).extract (posW (catB n F G) y.i) x1).extract 0 2) (((txS x1 (catB n F G)).extract (posW (catB n F G) y.i) x1).extract 0 2).size))).toNat).size ≤ cap → ((0 : Int) ≤ (0 : Int) ∧ (0 : Int) ≤ Go.IntKind.i64.wrap (Go.IntKind.i64.wrap (txN (((txS x1 (catB n F G)).extract (posW (catB n F G) y.i) x1).extract 0 2) (((txS x1 (catB n F G)).extract (posW (catB n F G) y.i) x1).extract 0 2).size) + (3 : Int)) ∧ x106) ∧ (bP (((txS x1 (catB n F G)).extract (posW (catB n F G) y.i) x1).extract 2 (Go.IntKind.i64.wrap ((2 : Int) + Go.IntKind.i64.wrap (txN (((txS x1 (catB n F G)).extract (posW (catB n F G) y.i) x1).extract 0 2) (((txS x1 (catB n F G)).extract (posW (catB n F G) y.i) x1).extract 0 2).size))).toNat).size fun (i _ : Nat) => SC.val (Go.Value.int Go.IntKind.u8 (↑((((txS x1 (catB n F G)).extract (posW (catB n F G) y.i) x1).extract 2 (Go.IntKind.i64.wrap ((2 : Int) + Go.IntKind.i64.wrap (txN (((txS x1 (catB n F G)).extract (posW (catB n F G) y.i) x1).extract 0 2) (((txS x1 (catB n F G)).extract (posW (catB n F G) y.i) x1).extract 0 2).size))).toNat).data.getD i (0 : UInt8)).toNat : Int))) ∧ (((txS x1 (catB n F G)).extract (posW (catB n F G) y.i) x1).extract 2 (Go.IntKind.i64.wrap ((2 : Int) + Go.IntKind.i64.wrap (txN (((txS x1 (catB n F G)).extract (posW (catB n F G) y.i) x1).extract 0 2) (((txS x1 (catB n F G)).extract (posW (catB n F G) y.i) x1).extract 0 2).size))).toNat).size ≤ 200 ∧ ((!(frT (bOf fun (i _ : Nat) => SC.val (Go.Value.int Go.IntKind.u8 (↑((((txS x1 (catB n F G)).extract (posW (catB n F G) y.i) x1).extract 2 (Go.IntKind.i64.wrap ((2 : Int) + Go.IntKind.i64.wrap (txN (((txS x1 (catB n F G)).extract (posW (catB n F G) y.i) x1).extract 0 2) (((txS x1 (catB n F G)).extract (posW (catB n F G) y.i) x1).extract 0 2).size))).toNat).data.getD i (0 : UInt8)).toNat : Int))) (((txS x1 (catB n F G)).extract (posW (catB n F G) y.i) x1).extract 2 (Go.IntKind.i64.wrap ((2 : Int) + Go.IntKind.i64.wrap (txN (((txS x1 (catB n F G)).extract (posW (catB n F G) y.i) x1).extract 0 2) (((txS x1 (catB n F G)).extract (posW (catB n F G) y.i) x1).extract 0 2).size))).toNat).size).toList == (((txS x1 (catB n F G)).extract (posW (catB n F G) y.i) x1).extract 0 (Go.IntKind.i64.wrap (Go.IntKind.i64.wrap (txN (((txS x1 (catB n F G)).extract (posW (catB n F G) y.i) x1).extract 0 2) (((txS x1 (catB n F G)).extract (posW (catB n F G) y.i) x1).extract 0 2).size) + (3 : Int))).toNat).toList) = Bool.true → x105) ∧ ((!(frT (bOf fun (i _ : Nat) => SC.val (Go.Value.int Go.IntKind.u8 (↑((((txS x1 (catB n F G)).extract (posW (catB n F G) y.i) x1).extract 2 (Go.IntKind.i64.wrap ((2 : Int) + Go.IntKind.i64.wrap (txN (((txS x1 (catB n F G)).extract (posW (catB n F G) y.i) x1).extract 0 2) (((txS x1 (catB n F G)).extract (posW (catB n F G) y.i) x1).extract 0 2).size))).toNat).data.getD i (0 : UInt8)).toNat : Int))) (((txS x1 (catB n F G)).extract (posW (catB n F G) y.i) x1).extract 2 (Go.IntKind.i64.wrap ((2 : Int) + Go.IntKind.i64.wrap (txN (((txS x1 (catB n F G)).extract (posW (catB n F G) y.i) x1).extract 0 2) (((txS x1 (catB n F G)).extract (posW (catB n F G) y.i) x1).extract 0 2).size))).toNat).size).toList == (((txS x1 (catB n F G)).extract (posW (catB n F G) y.i) x1).extract 0 (Go.IntKind.i64.wrap (Go.IntKind.i64.wrap (txN (((txS x1 (catB n F G)).extract (posW (catB n F G) y.i) x1).extract 0 2) (((txS x1 (catB n F G)).extract (posW (catB n F G) y.i) x1).extract 0 2).size) + (3 : Int))).toNat).toList) = Bool.false → ((0 : Int) ≤ Go.IntKind.i64.wrap (Go.IntKind.i64.wrap (txN (((txS x1 (catB n F G)).extract (posW (catB n F G) y.i) x1).extract 0 2) (((txS x1 (catB n F G)).extract (posW (catB n F G) y.i) x1).extract 0 2).size) + (3 : Int)) ∧ x106 ∧ (↑((txS x1 (catB n F G)).extract (posW (catB n F G) y.i) x1).size : Int) ≤ (↑((txS x1 (catB n F G)).extract (posW (catB n F G) y.i) x1).size : Int)) ∧ (1 ≤ Go.maxLen ∧ 24 ≤ 140737488355328) ∧ ∀ (c : Nat), 1 + c ≤ Go.maxLen → ∃ (y' : WX), ((∀ (j : Nat), j < y'.i → good (catB n F G) x1 (posW (catB n F G) j)) ∧ 0 < y'.i ∧ y'.i + y'.p ≤ Go.maxLen) ∧ ((txS x1 (catB n F G)).extract (posW (catB n F G) y.i) x1).extract (Go.IntKind.i64.wrap (Go.IntKind.i64.wrap (txN (((txS x1 (catB n F G)).extract (posW (catB n F G) y.i) x1).extract 0 2) (((txS x1 (catB n F G)).extract (posW (catB n F G) y.i) x1).extract 0 2).size) + (3 : Int))).toNat (↑((txS x1 (catB n F G)).extract (posW (catB n F G) y.i) x1).size : Int).toNat = (txS x1 (catB n F G)).extract (posW (catB n F G) y'.i) x1 ∧ x3 = x3 ∧ (0 = 0 ∧ 1 = 1 ∧ 0 = 0 ∧ 1 = y'.i ∧ 1 + c = y'.i + y'.p) ∧ 1 = y'.i ∧ c * 1 = y'.p ∧ (∀ (i : Nat), i < 1 → allC 1 fun (c : Nat) => simC (fixAt (flat [SK.c (SC.xs (Option.some a) (((txS x1 (catB n F G)).extract (posW (catB n F G) y.i) x1).extract 2 (Go.IntKind.i64.wrap ((2 : Int) + Go.IntKind.i64.wrap (txN (((txS x1 (catB n F G)).extract (posW (catB n F G) y.i) x1).extract 0 2) (((txS x1 (catB n F G)).extract (posW (catB n F G) y.i) x1).extract 0 2).size))).toNat).size cap 1 fun (i _ : Nat) => SC.val (Go.Value.int Go.IntKind.u8 (↑((((txS x1 (catB n F G)).extract (posW (catB n F G) y.i) x1).extract 2 (Go.IntKind.i64.wrap ((2 : Int) + Go.IntKind.i64.wrap (txN (((txS x1 (catB n F G)).extract (posW (catB n F G) y.i) x1).extract 0 2) (((txS x1 (catB n F G)).extract (posW (catB n F G) y.i) x1).extract 0 2).size))).toNat).data.getD i (0 : UInt8)).toNat : Int)))]) 1 1 0 i c) (whF (catB n F G) y'.ac i c)) ∧ (x1 - posW (catB n F G) y'.i).succ.le (x1 - posW (catB n F G) y.i)))) ∧ (Decidable.decide ((↑((txS x1 (catB n F G)).extract (posW (catB n F G) y.i) x1).size : Int) ≥ (3 : Int)) = Bool.false → x105)) := by kernel_rfl
theorem vc_rm (a : Option Addr) (n cap : Nat) (F : Nat → Int) (b : Option Addr) (m cb : Nat) (G : Nat → Int) :
    OwesR Try.prog cxLA slRm [] 10 Try.f18 [sLg a n cap F b m cb G] true (mdR n F m) =
    (let x1 : Prop := 0 = 0 ∧ True; let x2 : Nat := n + m; let x3 : Nat := whN (catB n (bOf (byF F)) (bOf (byF G))) x2; let x4 : Int := (↑(posW (catB n (bOf (byF F)) (bOf (byF G))) x3) : Int); let x5 : Nat := ((bytesI (List.map (fun (j : Nat) => F j) (List.range n))).extract 0 x4.toNat).size; ∀ (_ : Go.Addr), (Decidable.decide ((↑m : Int) > (0 : Int)) = Bool.true → (zl (mdE m) (posW F (whN F n)) = 0 ∧ x1) ∧ (12 : Int) = mdE m) ∧ (Decidable.decide ((↑m : Int) > (0 : Int)) = Bool.false → bP n (byF F) ∧ bP m (byF G) ∧ x2 ≤ 16777216 ∧ n ≤ cap ∧ m ≤ cb ∧ (a = Option.none → n = 0) ∧ (b = Option.none → m = 0) ∧ ∀ (_ : List Nat → Option Go.Addr × Nat), True → ∀ (a : Option Go.Addr) (cap : Nat), (a = Option.none → x3 = 0 ∧ cap = 0) → x3 ≤ cap → (∀ (_ : Nat), True) ∧ ((0 : Int) ≤ (0 : Int) ∧ (0 : Int) ≤ x4 ∧ x4 ≤ (↑(bytesI (List.map (fun (j : Nat) => F j) (List.range n))).size : Int)) ∧ ∀ (_ : Go.Addr) (cap : Nat), x5 ≤ cap → ((x5 = zl (mdE m) (posW F (whN F n)) ∧ ∀ (i : Nat), i < zl (mdE m) (posW F (whN F n)) → allC 1 fun (c : Nat) => simC (SC.val (Go.Value.int Go.IntKind.u8 (↑(((bytesI (List.map (fun (j : Nat) => F j) (List.range n))).extract 0 x4.toNat).data.getD i (0 : UInt8)).toNat : Int))) (byF F i c)) ∧ x1) ∧ (0 : Int) = mdE m)) := by kernel_rfl
end Go.Proofs.Ytoeccdjnpghhgaa
end
