/-
  Texts: P410, Lex, V301, P411, V302, P413, V303, P414, V305, P418, P415, V304, P416.
-/
import Derived.Test.YtehphcdlcakcaaaM1
import Derived.Test.YtehphcdlcakcaaaM2
import Derived.Test.YtehphcdlcakcaaaM3
import Derived.Test.YtehphcdlcakcaaaM4
import Derived.Test.YtehphcdlcakcaaaM5
import Derived.Test.YtehphcdlcakcaaaM6
import Derived.Test.YtehphcdlcakcaaaM7
import Derived.Test.YtehphcdlcakcaaaM8
import Derived.Test.YtehphcdlcakcaaaM9
import Derived.Lib.BytesEntry
section
namespace Go.Proofs.Ytehphcdlcakcaaa
open Go Go.Sx
set_option maxRecDepth 100000
theorem iOr_add (X b : Int) (hX : 0 ≤ X ∧ X < 256) (hb : 0 ≤ b ∧ b < 256) : IntKind.i64.wrap ((BitVec.ofInt 64 (IntKind.i64.wrap (IntKind.i64.wrap X * 256)) ||| BitVec.ofInt 64 (IntKind.i64.wrap b)).toNat : Int) = X * 256 + b := by
  have w : ∀ z : Int, 0 ≤ z ∧ z < 65536 → IntKind.i64.wrap z = z := fun z hz => by rw [IntKind.wrap_i64]; omega
  rw [w X (by omega), w (X * 256) (by omega), w b (by omega)]
  obtain ⟨x, rfl⟩ := Int.eq_ofNat_of_zero_le hX.1
  obtain ⟨c, rfl⟩ := Int.eq_ofNat_of_zero_le hb.1
  have e : (BitVec.ofInt 64 ((x : Int) * 256) ||| BitVec.ofInt 64 (c : Int)).toNat = x * 256 + c := by
    rw [BitVec.toNat_or, show ((x : Int) * 256) = ((x * 256 : Nat) : Int) by rw [Int.natCast_mul]; rfl, BitVec.ofInt_natCast, BitVec.ofInt_natCast, BitVec.toNat_ofNat, BitVec.toNat_ofNat, Nat.mod_eq_of_lt (by omega), Nat.mod_eq_of_lt (by omega)]
    have := Nat.shiftLeft_add_eq_or_of_lt (b := c) (i := 8) (by omega) x
    rw [Nat.shiftLeft_eq] at this
    exact this.symm
  rw [e]
  exact w _ (by omega)
theorem ok_su (a : Option Addr) (n cap : Nat) (B : Nat → Int) (_ : ∀ i, i < n → 0 ≤ B i ∧ B i < 256) (hn : n ≤ 16777216) :
    OwesR Try.prog .none [] [(3, .inv (suI a n cap B))] 10 Try.f23 [xsI a n cap .u8 B] false [.v (sI .u8 (smB B 0 n % 256))] := by
  rw [vc_su]
  have sim : simC (SC.xs a n cap 1 fun (i _ : Nat) => .val (.int .u8 (B i))) (SC.xs a n cap 1 fun (i _ : Nat) => .val (.int .u8 (B i))) := ⟨rfl, rfl, rfl, fun _ _ => rfl⟩
  refine ⟨fun _ => rfl, 0, Nat.zero_le _, rfl, sim, rfl, rfl, fun y hy => ⟨fun h => ?_, fun h => ?_⟩⟩
  · have h := of_decide_eq_true h
    have hlt : y < n := by omega
    refine ⟨⟨by omega, h⟩, y + 1, by omega, ?_, sim, rfl, ?_, by show n - (y + 1) + 1 ≤ n - y; omega⟩
    · rw [Int.toNat_natCast, IntKind.wrap_u8]
      show (smB B 0 y % 256 + B y) % 256 = (smB B 0 y + B (0 + y)) % 256
      rw [Nat.zero_add]; omega
    · rw [IntKind.wrap_i64]; omega
  · have h := of_decide_eq_false h
    rw [show y = n by omega]
theorem bnd_by {a : Option Addr} {n cap : Nat} {f : Nat → Nat → SC} {E : Env} (h : f = byF (bOf f)) (hb : (SA.sc (.xs a n cap 1 f)).bnd E) : (xsI a n cap .u8 (bOf f)).bnd E := by
  rw [h] at hb; exact hb
theorem card_su {gl : Globs} : FnOKs Try.prog gl 23 cSu := by
  refine FnOKs.up0 (FnOKs_R0 (cx := .none) okx_nil (sl := []) oks_nil Try.func23 (by kernel_rfl) (by kernel_rfl) fun ls hc => ?_) gl
  unfold b1C at hc
  split at hc
  · rename_i a n cap f
    obtain ⟨p, _⟩ := hc
    refine ⟨_, 10, [xsI a n cap .u8 (bOf f)], fun ρ => rfl, fun E hE y hy => ?_, fun r hr => ?_, ok_su a n cap (bOf f) p.bb p.bl⟩
    · rw [List.mem_singleton.1 hy]
      exact bnd_by p.bf (hE _ (List.mem_cons_self ..))
    · unfold suG at hr
      rw [List.mem_singleton.1 hr]; exact trivial
  · exact hc.1.elim
theorem ok_fi (a : Option Addr) (n cap : Nat) (B : Nat → Int) (v : Int) (hb : ∀ i, i < n → 0 ≤ B i ∧ B i < 256) (hn : n ≤ 16777216) :
    OwesR Try.prog .none slSu [] 10 Try.f22 [xsI a n cap .u8 B, sI .u8 v] false [.v (sB (smB B 0 n % 256 == v))] := by
  rw [vc_fi]
  exact ⟨⟨rfl, hb, hn⟩, rfl⟩
theorem card_fi {gl : Globs} : FnOKs Try.prog gl 22 cFi := by
  refine FnOKs.up0 (FnOKs_R0 (cx := .none) okx_nil (sl := slSu) (oks_cons card_su oks_nil) Try.func22 (by kernel_rfl) (by kernel_rfl) fun ls hc => ?_) gl
  unfold fiC at hc
  split at hc
  · rename_i a n cap f v
    obtain ⟨p, _⟩ := hc
    refine ⟨_, 10, [xsI a n cap .u8 (bOf f), sI .u8 v], fun ρ => rfl, fun E hE y hy => ?_, fun r hr => ?_, ok_fi a n cap (bOf f) v p.bb p.bl⟩
    · simp only [List.mem_cons, List.not_mem_nil, or_false] at hy
      rcases hy with rfl | rfl
      · exact bnd_by p.bf (hE _ (List.mem_cons_self ..))
      · exact trivial
    · unfold fiG at hr
      rw [List.mem_singleton.1 hr]; exact trivial
  · exact hc.1.elim
theorem fr_cell (B : Nat → Int) (n : Nat) (hn : n ≤ 200) (i : Nat) (s : Int) (hs : s = smB B 0 n % 256) :
    (bif decide (0 + i < 2 + n) then bif decide (0 + i < 2) then bif decide (0 + i = 0) then IntKind.u8.wrap ((n : Int).fdiv 256) else IntKind.u8.wrap n else B (0 + i - 2) else s) = frB B n i := by
  unfold frB
  rw [Nat.zero_add, IntKind.wrap_u8, IntKind.wrap_u8, Int.fdiv_eq_ediv_of_nonneg _ (by omega)]
  by_cases h : i < 2 + n
  · rw [decide_eq_true h, cond_true]
    by_cases h2 : i < 2
    · rw [decide_eq_true h2, cond_true]
      by_cases h0 : i = 0
      · rw [decide_eq_true h0, cond_true, if_pos h0]; omega
      · rw [decide_eq_false h0, cond_false, if_neg h0, if_pos (by omega)]
    · rw [decide_eq_false h2, cond_false, if_neg (by omega), if_neg (by omega), if_pos (by omega)]
  · rw [decide_eq_false h, cond_false, if_neg (by omega), if_neg (by omega), if_neg (by omega)]
    exact hs
theorem ok_fr (a : Option Addr) (n cap : Nat) (B : Nat → Int) (hb : ∀ i, i < n → 0 ≤ B i ∧ B i < 256) (hn : n ≤ 200) :
    OwesR Try.prog cxAp slSu [] 10 Try.f19 [xsI a n cap .u8 B] true [.s (n + 3) .u8 (frB B n)] := by
  rw [vc_fr]
  have hML : maxLen = 9223372036854775807 := rfl
  intro x1 x2 x3 x4
  have e1 : x1 = 2 + n := rfl
  have e2 : x2 = x1 := Nat.mul_one _
  have e3 : x3 = x1 + 1 := rfl
  have e4 : x4 = n + 3 := rfl
  have hi : ∀ i, (bif decide (0 + i < x1) then bif decide (0 + i < 2) then bif decide (0 + i = 0) then IntKind.u8.wrap ((n : Int).fdiv 256) else IntKind.u8.wrap n else B (0 + i - 2) else smB (bOf fun (i _ : Nat) => SC.val (.int .u8 (B i))) 0 n % 256) = frB B n i := fun i => fr_cell B n hn i _ rfl
  clear_value x1 x2 x3 x4
  refine ⟨⟨by omega, by omega, rfl⟩, ⟨by omega, by omega⟩, fun c hc => ⟨⟨rfl, hb, by omega⟩, rfl, rfl, ⟨by omega, by omega, by omega⟩, ⟨by omega, by omega⟩, fun c hc => ⟨by omega, by omega, by omega, fun i _ => hi i⟩⟩⟩
theorem okx_ap : CxOK Try.prog cxAp := okx_mark okx_nil
theorem card_fr {gl : Globs} : FnOKs Try.prog gl 19 cFr := by
  refine FnOKs.up0 (FnOKs_R0 (cx := cxAp) okx_ap (sl := slSu) (oks_cons card_su oks_nil) Try.func19 (by kernel_rfl) (by kernel_rfl) fun ls hc => ?_) gl
  unfold frC at hc
  split at hc
  · rename_i a n cap f
    obtain ⟨p, hn, _⟩ := hc
    refine ⟨_, 10, [xsI a n cap .u8 (bOf f)], fun ρ => rfl, fun E hE y hy => ?_, fun r hr => ?_, ok_fr a n cap (bOf f) p.bb hn⟩
    · rw [List.mem_singleton.1 hy]
      exact bnd_by p.bf (hE _ (List.mem_cons_self ..))
    · unfold frG at hr
      rw [List.mem_singleton.1 hr]; exact trivial
  · exact hc.1.elim
theorem ok_cl (a : Option Addr) (n cap : Nat) (B : Nat → Int) (hz : a.isNone = true → n = 0) (hn : n ≤ 16777216) :
    OwesR Try.prog cxAp [] [] 10 Try.f18 [xsI a n cap .u8 B] true [.s n .u8 B] := by
  rw [vc_cl]
  have hML : maxLen = 9223372036854775807 := rfl
  intro x1
  have e1 : x1 = n := Nat.zero_add n
  refine ⟨hz, fun _ => ⟨⟨by omega, by omega, rfl⟩, ⟨by omega, by omega⟩, fun c hc => ⟨by omega, e1, by omega, fun i _ => ?_⟩⟩⟩
  rw [Nat.zero_add]
theorem card_cl {gl : Globs} : FnOKs Try.prog gl 18 cCl := by
  refine FnOKs.up0 (FnOKs_R0 (cx := cxAp) okx_ap (sl := []) oks_nil Try.func18 (by kernel_rfl) (by kernel_rfl) fun ls hc => ?_) gl
  unfold clC at hc
  split at hc
  · rename_i a n cap f
    obtain ⟨p, hz, _⟩ := hc
    have k := ok_cl a n cap (bOf f) (fun h => hz (Option.isNone_iff_eq_none.1 h)) p.bl
    refine ⟨_, 10, [xsI a n cap .u8 (bOf f)], fun ρ => ?_, fun E hE y hy => ?_, fun r hr => ?_, k⟩
    · rfl
    · rw [List.mem_singleton.1 hy]
      exact bnd_by p.bf (hE _ (List.mem_cons_self ..))
    · unfold clG at hr
      rw [List.mem_singleton.1 hr]; exact trivial
  · exact hc.1.elim
theorem cat_at {n : Nat} {B B' : Nat → Int} (i : Nat) : (bif decide (i < n) then B i else B' (i - n)) = catB n B B' i := by
  unfold catB
  by_cases h : i < n <;> simp [h]
theorem ok_cc (b a a' : Option Addr) (m n cap n' cap' : Nat) (B B' : Nat → Int) (hn : n ≤ 16777216) (hn' : n' ≤ 16777216) :
    OwesR Try.prog cxCc [] [] 10 Try.f16 [.sc (.xs b 2 m 1 (twB a n cap B a' n' cap' B'))] true [.s (n + n') .u8 (catB n B B')] := by
  rw [vc_cc]
  have hML : maxLen = 9223372036854775807 := rfl
  intro x1 x2 x3 x4 x5 x6 x7 x8 x9 x10 x11
  have e1 : x1 = (n : Int) := by show IntKind.i64.wrap (0 + (n : Int)) = _; rw [IntKind.wrap_i64]; omega
  have e3 : x3 = ((n + n' : Nat) : Int) := by show IntKind.i64.wrap (x1 + (n' : Int)) = _; rw [e1, IntKind.wrap_i64]; omega
  have e6 : x6 = ((n + n' : Nat) : Int) := by show IntKind.i64.wrap (x3 - 0) = _; rw [e3, IntKind.wrap_i64]; omega
  have e6' : x6.toNat = n + n' := by rw [e6]; exact Int.toNat_natCast _
  have e7 : x7 = n := Nat.zero_add n
  have e8 : x8 = n := by show x7 * 1 = _; rw [e7, Nat.mul_one]
  have e9 : x9 = n + n' := by show x7 + n' = _; rw [e7]
  have e10 : x10 = n + n' := rfl
  have e11 : x11 = n := Nat.mul_one n
  have h5 : x4 → False := fun h => by
    have h : decide (x3 < 0) = true := h
    rw [e3, decide_eq_true_eq] at h; omega
  clear_value x1 x3 x6 x7 x8 x9 x10 x11
  refine ⟨by omega, fun h => ?_, fun _ => ⟨by omega, fun h => (h5 h).elim, fun _ => ⟨fun h => (h5 h).elim, fun _ => ⟨fun h => ?_, fun h => ?_⟩⟩⟩⟩
  · rw [e1, decide_eq_true_eq] at h; omega
  · rw [decide_eq_true_eq] at h
    refine ⟨by omega, fun c hc => ⟨by omega, by omega, rfl, rfl, by omega, by omega, fun c1 hc1 => ⟨by omega, rfl, rfl, by omega, by omega, fun c2 hc2 => ⟨by omega, by omega, by omega, fun i hi => ?_⟩⟩⟩⟩
    subst e7
    rw [Nat.zero_add, Nat.sub_zero]
    exact cat_at i
  · rw [decide_eq_false_iff_not] at h
    have hz : n = 0 := by omega
    have hz' : n' = 0 := by omega
    exact ⟨by omega, by omega, fun _ => ⟨by omega, by omega, fun _ => by omega, fun h => absurd hz' h⟩, fun h => absurd hz h⟩
def ccC : List (List FD) → List Prop
  | [[.x _ n _ f]] => [n = 2, ∃ a m cap g, f 0 0 = .xs a m cap 1 g ∧ bP m g, ∃ a m cap g, f 1 0 = .xs a m cap 1 g ∧ bP m g]
  | _ => [False]
def xN : SC → Nat
  | .xs _ n _ _ _ => n
  | _ => 0
def xG : SC → Nat → Nat → SC
  | .xs _ _ _ _ g => g
  | _ => fun _ _ => .bit false
def ccG : List (List FD) → List RS
  | [[.x _ _ _ f]] => [.s (xN (f 0 0) + xN (f 1 0)) .u8 (catB (xN (f 0 0)) (bOf (xG (f 0 0))) (bOf (xG (f 1 0))))]
  | _ => []
def cCc : SSpec := specQ0 true [.one (.x 1)] ccC ccG
theorem okx_Cc : CxOK Try.prog cxCc := okx_mark (okx_mark (okx_mark (okx_mark (okx_mark (okx_mark okx_nil)))))
theorem card_cc {gl : Globs} : FnOKs Try.prog gl 16 cCc := by
  refine FnOKs.up0 (FnOKs_R0 (cx := cxCc) okx_Cc (sl := []) oks_nil Try.func16 (by kernel_rfl) (by kernel_rfl) fun ls hc => ?_) gl
  unfold ccC at hc
  split at hc
  · rename_i b n m f
    obtain ⟨hn, ⟨a0, n0, cap0, g0, t0, q0⟩, ⟨a1, n1, cap1, g1, t1, q1⟩, _⟩ := hc
    subst hn
    have e0 : g0 = byF (bOf g0) := q0.bf
    have e1 : g1 = byF (bOf g1) := q1.bf
    refine ⟨[], 10, [.sc (.xs b 2 m 1 (twB a0 n0 cap0 (bOf g0) a1 n1 cap1 (bOf g1)))], fun ρ => rfl, fun E hE y hy => ?_, fun r hr => ?_, ?_⟩
    · rw [List.mem_singleton.1 hy]
      have hb : (SC.xs b 2 m 1 f).bnd E := hE _ (List.mem_cons_self ..)
      obtain ⟨b1, b2, b3⟩ := hb
      refine ⟨b1, b2, fun bb hbb => ⟨(b3 bb hbb).1, fun i hi c hc => ?_⟩⟩
      have hq := (b3 bb hbb).2 i hi c hc
      have hc0 : c = 0 := by omega
      subst hc0
      rcases (by omega : i = 0 ∨ i = 1) with rfl | rfl
      · rw [t0, e0] at hq
        exact ⟨hq.1, rfl, hq.2.2⟩
      · rw [t1, e1] at hq
        exact ⟨hq.1, rfl, hq.2.2⟩
    · rw [List.mem_singleton.1 hr]
      exact trivial
    · have := ok_cc b a0 a1 m n0 cap0 n1 cap1 (bOf g0) (bOf g1) q0.bl q1.bl
      have e : ccG [[.x b 2 m f]] = [.s (n0 + n1) .u8 (catB n0 (bOf g0) (bOf g1))] := by
        unfold ccG
        simp only [t0, t1, xN, xG]
      rw [e]
      exact this
  · exact hc.1.elim
theorem ok_le (a : Option Addr) (n cap : Nat) (B : Nat → Int) (hb : ∀ i, i < n → 0 ≤ B i ∧ B i < 256) (hn : 2 ≤ n) :
    OwesR Try.prog .none [] [] 10 Try.f21 [xsI a n cap .u8 B] false [.v (sI .i64 (B 0 * 256 + B 1))] := by
  rw [vc_le]
  exact ⟨by omega, by omega, iOr_add (B 0) (B 1) (hb 0 (by omega)) (hb 1 (by omega))⟩
def leC : List (List FD) → List Prop
  | [[.x _ n _ f]] => [bP n f, 2 ≤ n]
  | _ => [False]
def leG : List (List FD) → List RS
  | [[.x _ _ _ f]] => [.v (sI .i64 (bOf f 0 * 256 + bOf f 1))]
  | _ => []
def cLe : SSpec := specQ0 false [.one (.x 1)] leC leG
theorem card_le {gl : Globs} : FnOKs Try.prog gl 21 cLe := by
  refine FnOKs.up0 (FnOKs_R0 (cx := .none) okx_nil (sl := []) oks_nil Try.func21 (by kernel_rfl) (by kernel_rfl) fun ls hc => ?_) gl
  unfold leC at hc
  split at hc
  · rename_i a n cap f
    obtain ⟨p, hn, _⟩ := hc
    refine ⟨_, 10, [xsI a n cap .u8 (bOf f)], fun ρ => rfl, fun E hE y hy => ?_, fun r hr => ?_, ok_le a n cap (bOf f) p.bb hn⟩
    · rw [List.mem_singleton.1 hy]
      exact bnd_by p.bf (hE _ (List.mem_cons_self ..))
    · unfold leG at hr
      rw [List.mem_singleton.1 hr]; exact trivial
  · exact hc.1.elim
end Go.Proofs.Ytehphcdlcakcaaa
end

section
namespace Go.Sx
open Go.RowKit
def vl : List Nat → Nat
  | [] => 0
  | a :: l => a * 256 ^ l.length + vl l
def kv (w : Nat → Int) : Nat := vl ((List.range 32).map fun j => (w j).toNat)
attribute [irreducible] kv
end Go.Sx
end

section
namespace Go.Proofs.Ytehphcdlcakcaaa
open Go.Sx
set_option maxRecDepth 100000
def sLg (a : Option Addr) (n cap : Nat) (F : Nat → Int) (b : Option Addr) (m cb : Nat) (G : Nat → Int) : SA := .agg [.c (.xs a n cap 1 (byF F)), .c (.xs b m cb 1 (byF G))]
def apE (n m k : Nat) : Int := if 9000 < n ∨ 9000 < m then 12 else if 200 < k then 1 else if 9000 < n + m + k + 3 then 9 else 0
def zl (e : Int) (n : Nat) : Nat := if e = 0 then n else 0
def apR (n : Nat) (F : Nat → Int) (m : Nat) (G : Nat → Int) (k : Nat) (H : Nat → Int) (e : Int) : List RS :=
  [.st [.s (zl e n) 1 (byF F), .s (zl e (m + (k + 3))) 1 (byF (catB m G (frB H k)))], .v (sI .i64 e)]
structure bQ (a : Option Addr) (n : Nat) (f : Nat → Nat → SC) : Prop where
  bf : f = byF (bOf f)
  bb : ∀ i, i < n → 0 ≤ bOf f i ∧ bOf f i < 256
  bl : n ≤ maxLen
  bz : a = none → n = 0
def apC : List (List FD) → List Prop
  | [[.x a n _ f, .x b m _ g], [.x c k _ h]] => [bQ a n f, bQ b m g, bQ c k h]
  | _ => [False]
def apG : List (List FD) → List RS
  | [[.x _ n _ f, .x _ m _ g], [.x _ k _ h]] => apR n (bOf f) m (bOf g) k (bOf h) (apE n m k)
  | _ => []
def cAp : SSpec := specQ0 true [.st [.x 1, .x 1], .one (.x 1)] apC apG
def cxLA : Cx := ⟨[(1000000008, fun _ => none), (1000000010, fun _ => none), (1000000012, fun _ => none), (1000000013, fun _ => none), (1000000014, fun _ => none)], [], 0, []⟩
def slLA : List (Nat × SSpec) := [(18, cCl), (19, cFr), (16, cCc)]
theorem vc_lap (a : Option Addr) (n cap : Nat) (F : Nat → Int) (b : Option Addr) (m cb : Nat) (G : Nat → Int) (c : Option Addr) (k ck : Nat) (H : Nat → Int) (e : Int) :
    OwesR Try.prog cxLA slLA [] 10 Try.f12 [sLg a n cap F b m cb G, xsI c k ck .u8 H] true (apR n F m G k H e) =
    (let x1 : Bool := Decidable.decide ((↑n : Int) > (9000 : Int)); let x2 : Prop := (!x1) = Bool.true; let x3 : Nat := k + 3; let x4 : Nat := zl e (m + x3); let x5 : Int := Go.IntKind.i64.wrap (Go.IntKind.i64.wrap (Go.IntKind.i64.wrap (Go.IntKind.i64.wrap ((↑n : Int) + (↑m : Int)) + (2 : Int)) + (↑k : Int)) + (1 : Int)); ∀ (_ : Go.Addr), (x2 → x2) ∧ (x2 → x2) ∧ (x2 → x2) ∧ (x1 = Bool.false → x2) ∧ ((x1 || Decidable.decide ((↑m : Int) > (9000 : Int))) = Bool.true → (zl e n = 0 ∧ x4 = 0 ∧ True) ∧ (12 : Int) = e) ∧ ((x1 || Decidable.decide ((↑m : Int) > (9000 : Int))) = Bool.false → (Decidable.decide ((↑k : Int) > (200 : Int)) = Bool.true → (zl e n = 0 ∧ x4 = 0 ∧ True) ∧ (1 : Int) = e) ∧ (Decidable.decide ((↑k : Int) > (200 : Int)) = Bool.false → (Decidable.decide (x5 > (9000 : Int)) = Bool.true → (zl e n = 0 ∧ x4 = 0 ∧ True) ∧ (9 : Int) = e) ∧ (Decidable.decide (x5 > (9000 : Int)) = Bool.false → bP n (byF F) ∧ (a = Option.none → n = 0) ∧ ∀ (a_5 : Option Go.Addr) (cap_1 : Nat), (a_5 = Option.none → n = 0 ∧ cap_1 = 0) → n ≤ cap_1 → (bP k fun (i _ : Nat) => SC.val (Go.Value.int Go.IntKind.u8 (H i))) ∧ k ≤ 200 ∧ ∀ (a_8 : Option Go.Addr) (cap_2 : Nat), (a_8 = Option.none → x3 = 0 ∧ cap_2 = 0) → x3 ≤ cap_2 → 2 ≤ 2 ∧ ∀ (_ : Go.Addr), 2 = 2 ∧ (∃ (a_12 : Option Go.Addr), ∃ (m_1 : Nat), ∃ (cap_3 : Nat), ∃ (g : Nat → Nat → SC), (flat ([SK.c ((flat (toKs (sLg a n cap F b m cb G))).getD 1 (SC.bit Bool.false))] ++ toKs (xsI a_8 x3 cap_2 Go.IntKind.u8 (frB (bOf fun (i _ : Nat) => SC.val (Go.Value.int Go.IntKind.u8 (H i))) k)) ++ [])).getD 0 (SC.bit Bool.false) = SC.xs a_12 m_1 cap_3 1 g ∧ bP m_1 g) ∧ (∃ (a_12 : Option Go.Addr), ∃ (m_1 : Nat), ∃ (cap_3 : Nat), ∃ (g : Nat → Nat → SC), (flat ([SK.c ((flat (toKs (sLg a n cap F b m cb G))).getD 1 (SC.bit Bool.false))] ++ toKs (xsI a_8 x3 cap_2 Go.IntKind.u8 (frB (bOf fun (i _ : Nat) => SC.val (Go.Value.int Go.IntKind.u8 (H i))) k)) ++ [])).getD 1 (SC.bit Bool.false) = SC.xs a_12 m_1 cap_3 1 g ∧ bP m_1 g) ∧ ∀ (a_12 : Option Go.Addr) (cap_3 : Nat), (a_12 = Option.none → xN ((flat ([SK.c ((flat (toKs (sLg a n cap F b m cb G))).getD 1 (SC.bit Bool.false))] ++ toKs (xsI a_8 x3 cap_2 Go.IntKind.u8 (frB (bOf fun (i _ : Nat) => SC.val (Go.Value.int Go.IntKind.u8 (H i))) k)) ++ [])).getD 0 (SC.bit Bool.false)) + xN ((flat ([SK.c ((flat (toKs (sLg a n cap F b m cb G))).getD 1 (SC.bit Bool.false))] ++ toKs (xsI a_8 x3 cap_2 Go.IntKind.u8 (frB (bOf fun (i _ : Nat) => SC.val (Go.Value.int Go.IntKind.u8 (H i))) k)) ++ [])).getD 1 (SC.bit Bool.false)) = 0 ∧ cap_3 = 0) → xN ((flat ([SK.c ((flat (toKs (sLg a n cap F b m cb G))).getD 1 (SC.bit Bool.false))] ++ toKs (xsI a_8 x3 cap_2 Go.IntKind.u8 (frB (bOf fun (i _ : Nat) => SC.val (Go.Value.int Go.IntKind.u8 (H i))) k)) ++ [])).getD 0 (SC.bit Bool.false)) + xN ((flat ([SK.c ((flat (toKs (sLg a n cap F b m cb G))).getD 1 (SC.bit Bool.false))] ++ toKs (xsI a_8 x3 cap_2 Go.IntKind.u8 (frB (bOf fun (i _ : Nat) => SC.val (Go.Value.int Go.IntKind.u8 (H i))) k)) ++ [])).getD 1 (SC.bit Bool.false)) ≤ cap_3 → ((n = zl e n ∧ ∀ (i : Nat), i < zl e n → allC 1 fun (c : Nat) => simC (SC.val (Go.Value.int Go.IntKind.u8 (bOf (byF F) i))) (byF F i c)) ∧ (xN ((flat ([SK.c ((flat (toKs (sLg a n cap F b m cb G))).getD 1 (SC.bit Bool.false))] ++ toKs (xsI a_8 x3 cap_2 Go.IntKind.u8 (frB (bOf fun (i _ : Nat) => SC.val (Go.Value.int Go.IntKind.u8 (H i))) k)) ++ [])).getD 0 (SC.bit Bool.false)) + xN ((flat ([SK.c ((flat (toKs (sLg a n cap F b m cb G))).getD 1 (SC.bit Bool.false))] ++ toKs (xsI a_8 x3 cap_2 Go.IntKind.u8 (frB (bOf fun (i _ : Nat) => SC.val (Go.Value.int Go.IntKind.u8 (H i))) k)) ++ [])).getD 1 (SC.bit Bool.false)) = x4 ∧ ∀ (i : Nat), i < x4 → allC 1 fun (c : Nat) => simC (SC.val (Go.Value.int Go.IntKind.u8 (catB (xN ((flat ([SK.c ((flat (toKs (sLg a n cap F b m cb G))).getD 1 (SC.bit Bool.false))] ++ toKs (xsI a_8 x3 cap_2 Go.IntKind.u8 (frB (bOf fun (i _ : Nat) => SC.val (Go.Value.int Go.IntKind.u8 (H i))) k)) ++ [])).getD 0 (SC.bit Bool.false))) (bOf (xG ((flat ([SK.c ((flat (toKs (sLg a n cap F b m cb G))).getD 1 (SC.bit Bool.false))] ++ toKs (xsI a_8 x3 cap_2 Go.IntKind.u8 (frB (bOf fun (i _ : Nat) => SC.val (Go.Value.int Go.IntKind.u8 (H i))) k)) ++ [])).getD 0 (SC.bit Bool.false)))) (bOf (xG ((flat ([SK.c ((flat (toKs (sLg a n cap F b m cb G))).getD 1 (SC.bit Bool.false))] ++ toKs (xsI a_8 x3 cap_2 Go.IntKind.u8 (frB (bOf fun (i _ : Nat) => SC.val (Go.Value.int Go.IntKind.u8 (H i))) k)) ++ [])).getD 1 (SC.bit Bool.false)))) i))) (byF (catB m G (frB H k)) i c)) ∧ True) ∧ (0 : Int) = e)))) := by kernel_rfl
end Go.Proofs.Ytehphcdlcakcaaa
end

section
namespace Go.Proofs.Ytehphcdlcakcaaa
open Go Go.Sx
set_option maxRecDepth 100000
theorem bQ_bP {a : Option Addr} {n : Nat} {f : Nat → Nat → SC} (h : bQ a n f) (hn : n ≤ 16777216) : bP n f := ⟨h.bf, h.bb, hn⟩
theorem simby {a b : Int} (h : a = b) : simC (SC.val (.int .u8 a)) (SC.val (.int .u8 b)) := by subst h; rfl
theorem frB_in {H : Nat → Int} {k : Nat} (hb : ∀ i, i < k → 0 ≤ H i ∧ H i < 256) (hk : k ≤ 200) {i : Nat} (hi : i < k + 3) : 0 ≤ frB H k i ∧ frB H k i < 256 := by
  unfold frB
  by_cases h0 : i = 0
  · rw [if_pos h0]; omega
  · rw [if_neg h0]
    by_cases h1 : i = 1
    · rw [if_pos h1]; omega
    · rw [if_neg h1]
      by_cases h2 : i < k + 2
      · rw [if_pos h2]; exact hb _ (by omega)
      · rw [if_neg h2]; omega
theorem ok_lap (a : Option Addr) (n cap : Nat) (F : Nat → Int) (b : Option Addr) (m cb : Nat) (G : Nat → Int) (c : Option Addr) (k ck : Nat) (H : Nat → Int) (hF : bQ a n (byF F)) (hG : bQ b m (byF G)) (hH : bQ c k (byF H)) :
    OwesR Try.prog cxLA slLA [] 10 Try.f12 [sLg a n cap F b m cb G, xsI c k ck .u8 H] true (apR n F m G k H (apE n m k)) := by
  have hML : maxLen = 9223372036854775807 := rfl
  have f1 := hF.bl
  have g1 := hG.bl
  have h1 := hH.bl
  rw [vc_lap]
  intro x1 x2 x3 x4 x5 _
  have e3 : x3 = k + 3 := rfl
  have e4 : x4 = zl (apE n m k) (m + x3) := rfl
  have ex : x1 = false → x2 := fun h => by show (!x1) = true; rw [h]; rfl
  have d1 : x1 = decide (9000 < n) := by show decide ((n : Int) > 9000) = _; exact decide_eq_decide.2 ⟨fun h => by omega, fun h => by omega⟩
  have d2 : decide ((m : Int) > 9000) = decide (9000 < m) := decide_eq_decide.2 ⟨fun h => by omega, fun h => by omega⟩
  have d3 : decide ((k : Int) > 200) = decide (200 < k) := decide_eq_decide.2 ⟨fun h => by omega, fun h => by omega⟩
  have w5 : n ≤ 9000 → m ≤ 9000 → k ≤ 200 → x5 = ((n + m + k + 3 : Nat) : Int) := fun a b c => by
    show IntKind.i64.wrap (IntKind.i64.wrap (IntKind.i64.wrap (IntKind.i64.wrap (n + m) + 2) + k) + 1) = _
    simp only [IntKind.wrap_i64]; omega
  clear_value x1 x2 x3 x4 x5
  subst e4
  rw [d1, d2, d3]
  rw [d1] at ex
  refine ⟨id, id, id, ex, fun h => ?_, fun h => ⟨fun h2 => ?_, fun h2 => ⟨fun h3 => ?_, fun h3 => ?_⟩⟩⟩
  · have e : apE n m k = 12 := by
      unfold apE
      rw [if_pos]
      rcases Bool.or_eq_true_iff.1 h with h | h
      · exact .inl (of_decide_eq_true h)
      · exact .inr (of_decide_eq_true h)
    rw [e]
    exact ⟨⟨rfl, rfl, trivial⟩, rfl⟩
  all_goals
    obtain ⟨q1, q2⟩ := Bool.or_eq_false_iff.1 h
    have q1 := of_decide_eq_false q1
    have q2 := of_decide_eq_false q2
  · have e : apE n m k = 1 := by
      unfold apE
      rw [if_neg (by omega), if_pos (of_decide_eq_true h2)]
    rw [e]
    exact ⟨⟨rfl, rfl, trivial⟩, rfl⟩
  all_goals
    have q3 := of_decide_eq_false h2
    have w5 := w5 (by omega) (by omega) (by omega)
    rw [w5] at h3
  · have h3 := of_decide_eq_true h3
    have e : apE n m k = 9 := by
      unfold apE
      rw [if_neg (by omega), if_neg (by omega), if_pos (by omega)]
    rw [e]
    exact ⟨⟨rfl, rfl, trivial⟩, rfl⟩
  · have h3 := of_decide_eq_false h3
    have e : apE n m k = 0 := by
      unfold apE
      rw [if_neg (by omega), if_neg (by omega), if_neg (by omega)]
    rw [e]
    have z1 : zl 0 n = n := if_pos rfl
    have z2 : zl 0 (m + x3) = m + x3 := if_pos rfl
    rw [z1, z2]
    refine ⟨bQ_bP hF (by omega), hF.bz, fun _ _ _ _ => ⟨bQ_bP hH (by omega), by omega, fun a8 c2 hz hc => ⟨Nat.le_refl _, fun _ => ⟨rfl, ⟨b, m, cb, byF G, rfl, bQ_bP hG (by omega)⟩, ⟨a8, x3, c2, byF (frB H k), rfl, ⟨rfl, fun i hi => frB_in hH.bb (by omega) (by omega), by omega⟩⟩, fun _ _ _ _ => ⟨⟨⟨rfl, fun i _ => rfl⟩, ⟨rfl, fun i _ => simby rfl⟩, trivial⟩, rfl⟩⟩⟩⟩⟩
theorem bnd_lg {a : Option Addr} {n cap : Nat} {f : Nat → Nat → SC} {b : Option Addr} {m cb : Nat} {g : Nat → Nat → SC} {E : Env} (hf : f = byF (bOf f)) (hg : g = byF (bOf g)) (hb : (mkQ (.st [.x 1, .x 1]) [.x a n cap f, .x b m cb g]).bnd E) : (sLg a n cap (bOf f) b m cb (bOf g)).bnd E := by
  rw [hf, hg] at hb; exact hb
theorem apR_closed {n : Nat} {F : Nat → Int} {m : Nat} {G : Nat → Int} {k : Nat} {H : Nat → Int} {e : Int} : ∀ r ∈ apR n F m G k H e, r.closed := by
  intro r hr
  unfold apR at hr
  simp only [List.mem_cons, List.not_mem_nil, or_false] at hr
  rcases hr with rfl | rfl
  · intro x hx
    simp only [List.mem_cons, List.not_mem_nil, or_false] at hx
    rcases hx with rfl | rfl
    · exact fun _ _ _ _ => ⟨trivial, rfl⟩
    · exact fun _ _ _ _ => ⟨trivial, rfl⟩
  · exact trivial
theorem okx_LA : CxOK Try.prog cxLA := okx_mark (okx_mark (okx_mark (okx_mark (okx_mark okx_nil))))
theorem oks_LA {gl : Globs} : ∀ p ∈ slLA, FnOKs Try.prog gl p.1 p.2 := oks_cons card_cl (oks_cons card_fr (oks_cons card_cc oks_nil))
theorem card_lap {gl : Globs} : FnOKs Try.prog gl 12 cAp := by
  refine FnOKs.up0 (FnOKs_R0 (cx := cxLA) okx_LA (sl := slLA) oks_LA Try.func12 (by kernel_rfl) (by kernel_rfl) fun ls hc => ?_) gl
  unfold apC at hc
  split at hc
  · rename_i a n cap f b m cb g c k ck h
    obtain ⟨pf, pg, ph, _⟩ := hc
    have ef := pf.bf
    have eg := pg.bf
    have eh := ph.bf
    refine ⟨_, 10, [sLg a n cap (bOf f) b m cb (bOf g), xsI c k ck .u8 (bOf h)], fun ρ => ?_, fun E hE y hy => ?_, apR_closed, ok_lap a n cap (bOf f) b m cb (bOf g) c k ck (bOf h) ⟨rfl, pf.bb, pf.bl, pf.bz⟩ ⟨rfl, pg.bb, pg.bl, pg.bz⟩ ⟨rfl, ph.bb, ph.bl, ph.bz⟩⟩
    · rfl
    · simp only [List.mem_cons, List.not_mem_nil, or_false] at hy
      rcases hy with rfl | rfl
      · exact bnd_lg ef eg (hE _ (List.mem_cons_self ..))
      · exact bnd_by eh (hE _ (List.mem_cons_of_mem _ (List.mem_cons_self ..)))
  · exact hc.1.elim
theorem catB_in {m k : Nat} {G K : Nat → Int} (hg : ∀ i, i < m → 0 ≤ G i ∧ G i < 256) (hk : ∀ i, i < k → 0 ≤ K i ∧ K i < 256) : ∀ i, i < m + k → 0 ≤ catB m G K i ∧ catB m G K i < 256 := by
  intro i hi
  unfold catB
  by_cases h : i < m
  · rw [if_pos h]; exact hg i h
  · rw [if_neg h]; exact hk _ (by omega)
end Go.Proofs.Ytehphcdlcakcaaa
end

section
namespace Go.Proofs.Ytehphcdlcakcaaa
open Go.Sx
set_option maxRecDepth 100000
def ln (B : Nat → Int) (p : Nat) : Nat := (B p * 256 + B (p + 1)).toNat
def posW (B : Nat → Int) : Nat → Nat
  | 0 => 0
  | i + 1 => posW B i + ln B (posW B i) + 3
def recB (B : Nat → Int) (p k : Nat) : Int := B (p + 2 + k)
structure good (B : Nat → Int) (n p : Nat) : Prop where
  g1 : p + 3 ≤ n
  g2 : ln B p ≤ 200
  g3 : p + ln B p + 3 ≤ n
  g4 : smB (recB B p) 0 (ln B p) % 256 = B (p + 2 + ln B p)
instance goodD (B : Nat → Int) (n p : Nat) : Decidable (good B n p) :=
  decidable_of_iff (p + 3 ≤ n ∧ ln B p ≤ 200 ∧ p + ln B p + 3 ≤ n ∧ smB (recB B p) 0 (ln B p) % 256 = B (p + 2 + ln B p)) ⟨fun h => ⟨h.1, h.2.1, h.2.2.1, h.2.2.2⟩, fun h => ⟨h.g1, h.g2, h.g3, h.g4⟩⟩
def cntW (B : Nat → Int) (n : Nat) : Nat → Nat → Nat
  | 0, i => i
  | f + 1, i => if good B n (posW B i) then cntW B n f (i + 1) else i
def whN (B : Nat → Int) (n : Nat) : Nat := cntW B n n 0
structure WX where
  i : Nat
  p : Nat
  ac : Nat → Option Addr × Nat
def whF (B : Nat → Int) (ac : Nat → Option Addr × Nat) (j _ : Nat) : SC := .xs (ac j).1 (ln B (posW B j)) (ac j).2 1 (byF (recB B (posW B j)))
def whH (B : Nat → Int) (n : Nat) (y : WX) : Prop := (∀ j, j < y.i → good B n (posW B j))
def whO (B : Nat → Int) (y : WX) : SO := .row 23 1 y.i (whF B y.ac) y.p
def whT (a : Option Addr) (n cap : Nat) (B : Nat → Int) (r : SC) (y : WX) : List SV := slotsAt 51 [(0, .one (xsI a n cap .u8 B)), (4, .one (.sc r)), (5, .one (sI .i64 (posW B y.i : Int)))]
def invWL (a : Option Addr) (n cap : Nat) (B : Nat → Int) : Inv where
  X := WX
  tm y := whT a n cap B (.val (.slice none 0 0)) y
  ob _ := []
  holds y := whH B n y ∧ y.i = 0
  less y := n - posW B y.i
def invWM (a : Option Addr) (n cap : Nat) (B : Nat → Int) : Inv where
  X := WX
  tm y := whT a n cap B (.slw 0 1 0 y.i (y.i + y.p)) y
  ob y := [whO B y]
  holds y := whH B n y ∧ 0 < y.i ∧ y.i + y.p ≤ maxLen
  less y := n - posW B y.i
def pickN (k : Nat) (tm : List SV) (_ : List SO) : Bool := match tm.getD k .any with
  | .one (.sc (.val _)) => true
  | _ => false
def whR (B : Nat → Int) (n : Nat) : List RS :=
  [.ex (fun _ => True) fun ac => .rows (whN B n) 1 (whF B fun j => ac [j]), .v (sI .i64 (posW B (whN B n) : Int))]
def whG : List (List FD) → List RS
  | [[.x _ n _ f]] => whR (bOf f) n
  | _ => []
def whC : List (List FD) → List Prop
  | [[.x _ n cap f]] => [bP n f, n ≤ cap]
  | _ => [False]
def cWh : SSpec := specQ0 true [.one (.x 1)] whC whG
def slWh : List (Nat × SSpec) := [(21, cLe), (22, cFi)]
def cxWh : Cx := ⟨[(1000000007, fun _ => none), (1000000010, fun _ => none), (1000000012, fun _ => none), (1000000013, fun _ => none), (1000000014, fun _ => none)], [], 0, []⟩
theorem vc_wh (a : Option Addr) (n cap : Nat) (B : Nat → Int) :
    OwesR Try.prog cxWh slWh [(3, .inv2 (invWL a n cap B) (invWM a n cap B) (pickN 4))] 4 Try.f17 [xsI a n cap .u8 B] true (whR B n) =
    ((∀ (y : WX), closedB ((invWL a n cap B).tm y) ((invWL a n cap B).ob y) = Bool.true) ∧ (∀ (y : WX), closedB ((invWM a n cap B).tm y) ((invWM a n cap B).ob y) = Bool.true) ∧ (∀ (y : WX), let x101 : Prop := (∃ (ac : List Nat → Option Go.Addr × Nat), True ∧ 0 + y.i ≤ y.i ∧ y.i = whN B n ∧ y.i ≤ y.i + y.p ∧ ∀ (i : Nat), i < whN B n → allC 1 fun (c : Nat) => simC (whF B y.ac (0 + i) c) (whF B (fun (j : Nat) => ac [j]) i c)) ∧ (↑(posW B y.i) : Int) = (↑(posW B (whN B n)) : Int); let x102 : Prop := Go.IntKind.i64.wrap ((2 : Int) + (bOf (fun (i _ : Nat) => SC.val (Go.Value.int Go.IntKind.u8 (B ((↑(posW B y.i) : Int).toNat + i)))) 0 * (256 : Int) + bOf (fun (i _ : Nat) => SC.val (Go.Value.int Go.IntKind.u8 (B ((↑(posW B y.i) : Int).toNat + i)))) 1)) ≤ (↑(n - (↑(posW B y.i) : Int).toNat) : Int); (∀ (j : Nat), j < y.i → good B n (posW B j)) ∧ 0 < y.i ∧ y.i + y.p ≤ Go.maxLen → (Decidable.decide (Go.IntKind.i64.wrap ((↑n : Int) - (↑(posW B y.i) : Int)) ≥ (2 : Int)) = Bool.true → ((0 : Int) ≤ (↑(posW B y.i) : Int) ∧ (↑(posW B y.i) : Int) ≤ (↑n : Int) ∧ (↑n : Int) ≤ (↑n : Int)) ∧ (bP (n - (↑(posW B y.i) : Int).toNat) fun (i _ : Nat) => SC.val (Go.Value.int Go.IntKind.u8 (B ((↑(posW B y.i) : Int).toNat + i)))) ∧ 2 ≤ n - (↑(posW B y.i) : Int).toNat ∧ (Decidable.decide (Go.IntKind.i64.wrap ((2 : Int) + (bOf (fun (i _ : Nat) => SC.val (Go.Value.int Go.IntKind.u8 (B ((↑(posW B y.i) : Int).toNat + i)))) 0 * (256 : Int) + bOf (fun (i _ : Nat) => SC.val (Go.Value.int Go.IntKind.u8 (B ((↑(posW B y.i) : Int).toNat + i)))) 1)) > (202 : Int)) = Bool.true → x101) ∧ (Decidable.decide (Go.IntKind.i64.wrap ((2 : Int) + (bOf (fun (i _ : Nat) => SC.val (Go.Value.int Go.IntKind.u8 (B ((↑(posW B y.i) : Int).toNat + i)))) 0 * (256 : Int) + bOf (fun (i _ : Nat) => SC.val (Go.Value.int Go.IntKind.u8 (B ((↑(posW B y.i) : Int).toNat + i)))) 1)) > (202 : Int)) = Bool.false → (Decidable.decide (Go.IntKind.i64.wrap (Go.IntKind.i64.wrap ((2 : Int) + (bOf (fun (i _ : Nat) => SC.val (Go.Value.int Go.IntKind.u8 (B ((↑(posW B y.i) : Int).toNat + i)))) 0 * (256 : Int) + bOf (fun (i _ : Nat) => SC.val (Go.Value.int Go.IntKind.u8 (B ((↑(posW B y.i) : Int).toNat + i)))) 1)) + (1 : Int)) > (↑(n - (↑(posW B y.i) : Int).toNat) : Int)) = Bool.true → x101) ∧ (Decidable.decide (Go.IntKind.i64.wrap (Go.IntKind.i64.wrap ((2 : Int) + (bOf (fun (i _ : Nat) => SC.val (Go.Value.int Go.IntKind.u8 (B ((↑(posW B y.i) : Int).toNat + i)))) 0 * (256 : Int) + bOf (fun (i _ : Nat) => SC.val (Go.Value.int Go.IntKind.u8 (B ((↑(posW B y.i) : Int).toNat + i)))) 1)) + (1 : Int)) > (↑(n - (↑(posW B y.i) : Int).toNat) : Int)) = Bool.false → ((0 : Int) ≤ (2 : Int) ∧ (2 : Int) ≤ Go.IntKind.i64.wrap ((2 : Int) + (bOf (fun (i _ : Nat) => SC.val (Go.Value.int Go.IntKind.u8 (B ((↑(posW B y.i) : Int).toNat + i)))) 0 * (256 : Int) + bOf (fun (i _ : Nat) => SC.val (Go.Value.int Go.IntKind.u8 (B ((↑(posW B y.i) : Int).toNat + i)))) 1)) ∧ x102) ∧ ((0 : Int) ≤ Go.IntKind.i64.wrap ((2 : Int) + (bOf (fun (i _ : Nat) => SC.val (Go.Value.int Go.IntKind.u8 (B ((↑(posW B y.i) : Int).toNat + i)))) 0 * (256 : Int) + bOf (fun (i _ : Nat) => SC.val (Go.Value.int Go.IntKind.u8 (B ((↑(posW B y.i) : Int).toNat + i)))) 1)) ∧ Go.IntKind.i64.wrap ((2 : Int) + (bOf (fun (i _ : Nat) => SC.val (Go.Value.int Go.IntKind.u8 (B ((↑(posW B y.i) : Int).toNat + i)))) 0 * (256 : Int) + bOf (fun (i _ : Nat) => SC.val (Go.Value.int Go.IntKind.u8 (B ((↑(posW B y.i) : Int).toNat + i)))) 1)) < (↑(n - (↑(posW B y.i) : Int).toNat) : Int)) ∧ (bP ((Go.IntKind.i64.wrap ((2 : Int) + (bOf (fun (i _ : Nat) => SC.val (Go.Value.int Go.IntKind.u8 (B ((↑(posW B y.i) : Int).toNat + i)))) 0 * (256 : Int) + bOf (fun (i _ : Nat) => SC.val (Go.Value.int Go.IntKind.u8 (B ((↑(posW B y.i) : Int).toNat + i)))) 1))).toNat - 2) fun (i _ : Nat) => SC.val (Go.Value.int Go.IntKind.u8 (B ((↑(posW B y.i) : Int).toNat + (2 + i))))) ∧ ((!smB (bOf fun (i _ : Nat) => SC.val (Go.Value.int Go.IntKind.u8 (B ((↑(posW B y.i) : Int).toNat + (2 + i))))) 0 ((Go.IntKind.i64.wrap ((2 : Int) + (bOf (fun (i _ : Nat) => SC.val (Go.Value.int Go.IntKind.u8 (B ((↑(posW B y.i) : Int).toNat + i)))) 0 * (256 : Int) + bOf (fun (i _ : Nat) => SC.val (Go.Value.int Go.IntKind.u8 (B ((↑(posW B y.i) : Int).toNat + i)))) 1))).toNat - 2) % (256 : Int) == B ((↑(posW B y.i) : Int).toNat + (Go.IntKind.i64.wrap ((2 : Int) + (bOf (fun (i _ : Nat) => SC.val (Go.Value.int Go.IntKind.u8 (B ((↑(posW B y.i) : Int).toNat + i)))) 0 * (256 : Int) + bOf (fun (i _ : Nat) => SC.val (Go.Value.int Go.IntKind.u8 (B ((↑(posW B y.i) : Int).toNat + i)))) 1))).toNat)) = Bool.true → x101) ∧ ((!smB (bOf fun (i _ : Nat) => SC.val (Go.Value.int Go.IntKind.u8 (B ((↑(posW B y.i) : Int).toNat + (2 + i))))) 0 ((Go.IntKind.i64.wrap ((2 : Int) + (bOf (fun (i _ : Nat) => SC.val (Go.Value.int Go.IntKind.u8 (B ((↑(posW B y.i) : Int).toNat + i)))) 0 * (256 : Int) + bOf (fun (i _ : Nat) => SC.val (Go.Value.int Go.IntKind.u8 (B ((↑(posW B y.i) : Int).toNat + i)))) 1))).toNat - 2) % (256 : Int) == B ((↑(posW B y.i) : Int).toNat + (Go.IntKind.i64.wrap ((2 : Int) + (bOf (fun (i _ : Nat) => SC.val (Go.Value.int Go.IntKind.u8 (B ((↑(posW B y.i) : Int).toNat + i)))) 0 * (256 : Int) + bOf (fun (i _ : Nat) => SC.val (Go.Value.int Go.IntKind.u8 (B ((↑(posW B y.i) : Int).toNat + i)))) 1))).toNat)) = Bool.false → ((0 : Int) ≤ (2 : Int) ∧ (2 : Int) ≤ Go.IntKind.i64.wrap ((2 : Int) + (bOf (fun (i _ : Nat) => SC.val (Go.Value.int Go.IntKind.u8 (B ((↑(posW B y.i) : Int).toNat + i)))) 0 * (256 : Int) + bOf (fun (i _ : Nat) => SC.val (Go.Value.int Go.IntKind.u8 (B ((↑(posW B y.i) : Int).toNat + i)))) 1)) ∧ Go.IntKind.i64.wrap ((2 : Int) + (bOf (fun (i _ : Nat) => SC.val (Go.Value.int Go.IntKind.u8 (B ((↑(posW B y.i) : Int).toNat + i)))) 0 * (256 : Int) + bOf (fun (i _ : Nat) => SC.val (Go.Value.int Go.IntKind.u8 (B ((↑(posW B y.i) : Int).toNat + i)))) 1)) ≤ Go.IntKind.i64.wrap ((2 : Int) + (bOf (fun (i _ : Nat) => SC.val (Go.Value.int Go.IntKind.u8 (B ((↑(posW B y.i) : Int).toNat + i)))) 0 * (256 : Int) + bOf (fun (i _ : Nat) => SC.val (Go.Value.int Go.IntKind.u8 (B ((↑(posW B y.i) : Int).toNat + i)))) 1)) ∧ Go.IntKind.i64.wrap ((2 : Int) + (bOf (fun (i _ : Nat) => SC.val (Go.Value.int Go.IntKind.u8 (B ((↑(posW B y.i) : Int).toNat + i)))) 0 * (256 : Int) + bOf (fun (i _ : Nat) => SC.val (Go.Value.int Go.IntKind.u8 (B ((↑(posW B y.i) : Int).toNat + i)))) 1)) ≤ (↑(cap - (↑(posW B y.i) : Int).toNat) : Int) ∧ x102) ∧ 0 = 0 ∧ y.i = y.i ∧ (y.i ≤ y.i + y.p ∧ y.i + y.p ≤ Go.maxLen ∧ (y.i + y.p) * 1 = y.i * 1 + y.p) ∧ (y.i + 1 ≤ Go.maxLen ∧ (y.i + 1) * 24 ≤ 140737488355328) ∧ ∀ (c : Nat), y.i + 1 + c ≤ Go.maxLen → ∃ (y' : WX), ((∀ (j : Nat), j < y'.i → good B n (posW B j)) ∧ 0 < y'.i ∧ y'.i + y'.p ≤ Go.maxLen) ∧ simC (SC.xs a n cap 1 fun (i _ : Nat) => SC.val (Go.Value.int Go.IntKind.u8 (B i))) (SC.xs a n cap 1 fun (i _ : Nat) => SC.val (Go.Value.int Go.IntKind.u8 (B i))) ∧ (0 = 0 ∧ 1 = 1 ∧ 0 = 0 ∧ y.i + 1 = y'.i ∧ y.i + 1 + c = y'.i + y'.p) ∧ Go.IntKind.i64.wrap ((↑(posW B y.i) : Int) + Go.IntKind.i64.wrap (Go.IntKind.i64.wrap ((2 : Int) + (bOf (fun (i _ : Nat) => SC.val (Go.Value.int Go.IntKind.u8 (B ((↑(posW B y.i) : Int).toNat + i)))) 0 * (256 : Int) + bOf (fun (i _ : Nat) => SC.val (Go.Value.int Go.IntKind.u8 (B ((↑(posW B y.i) : Int).toNat + i)))) 1)) + (1 : Int))) = (↑(posW B y'.i) : Int) ∧ y.i + 1 = y'.i ∧ c * 1 = y'.p ∧ (∀ (i : Nat), i < y.i + 1 → allC 1 fun (c : Nat) => simC (newH (SA.sc (SC.slw 0 1 0 y.i (y.i + y.p))) (SA.sc (SC.sl 1 0 1 1)) y.i (whF B y.ac) (fixAt (flat [SK.c (SC.xs (adS (Go.IntKind.i64.wrap ((2 : Int) + (bOf (fun (i _ : Nat) => SC.val (Go.Value.int Go.IntKind.u8 (B ((↑(posW B y.i) : Int).toNat + i)))) 0 * (256 : Int) + bOf (fun (i _ : Nat) => SC.val (Go.Value.int Go.IntKind.u8 (B ((↑(posW B y.i) : Int).toNat + i)))) 1))).toNat 2 1 (adS cap (↑(posW B y.i) : Int).toNat 1 a)) ((Go.IntKind.i64.wrap ((2 : Int) + (bOf (fun (i _ : Nat) => SC.val (Go.Value.int Go.IntKind.u8 (B ((↑(posW B y.i) : Int).toNat + i)))) 0 * (256 : Int) + bOf (fun (i _ : Nat) => SC.val (Go.Value.int Go.IntKind.u8 (B ((↑(posW B y.i) : Int).toNat + i)))) 1))).toNat - 2) ((Go.IntKind.i64.wrap ((2 : Int) + (bOf (fun (i _ : Nat) => SC.val (Go.Value.int Go.IntKind.u8 (B ((↑(posW B y.i) : Int).toNat + i)))) 0 * (256 : Int) + bOf (fun (i _ : Nat) => SC.val (Go.Value.int Go.IntKind.u8 (B ((↑(posW B y.i) : Int).toNat + i)))) 1))).toNat - 2) 1 fun (i _ : Nat) => SC.val (Go.Value.int Go.IntKind.u8 (B ((↑(posW B y.i) : Int).toNat + (2 + i)))))]) 1 1 0) i c) (whF B y'.ac i c)) ∧ (n - posW B y'.i).succ.le (n - posW B y.i))))) ∧ (Decidable.decide (Go.IntKind.i64.wrap ((↑n : Int) - (↑(posW B y.i) : Int)) ≥ (2 : Int)) = Bool.false → x101)) ∧ ∃ (y : WX), ((∀ (j : Nat), j < y.i → good B n (posW B j)) ∧ y.i = 0) ∧ simC (SC.xs a n cap 1 fun (i _ : Nat) => SC.val (Go.Value.int Go.IntKind.u8 (B i))) (SC.xs a n cap 1 fun (i _ : Nat) => SC.val (Go.Value.int Go.IntKind.u8 (B i))) ∧ Go.Value.slice Option.none 0 0 = Go.Value.slice Option.none 0 0 ∧ (0 : Int) = (↑(posW B y.i) : Int) ∧ ∀ (y : WX), let x103 : Prop := (∃ (_ : List Nat → Option Go.Addr × Nat), True ∧ whN B n = 0) ∧ (↑(posW B y.i) : Int) = (↑(posW B (whN B n)) : Int); let x104 : Prop := Go.IntKind.i64.wrap ((2 : Int) + (bOf (fun (i _ : Nat) => SC.val (Go.Value.int Go.IntKind.u8 (B ((↑(posW B y.i) : Int).toNat + i)))) 0 * (256 : Int) + bOf (fun (i _ : Nat) => SC.val (Go.Value.int Go.IntKind.u8 (B ((↑(posW B y.i) : Int).toNat + i)))) 1)) ≤ (↑(n - (↑(posW B y.i) : Int).toNat) : Int); (∀ (j : Nat), j < y.i → good B n (posW B j)) ∧ y.i = 0 → (Decidable.decide (Go.IntKind.i64.wrap ((↑n : Int) - (↑(posW B y.i) : Int)) ≥ (2 : Int)) = Bool.true → ((0 : Int) ≤ (↑(posW B y.i) : Int) ∧ (↑(posW B y.i) : Int) ≤ (↑n : Int) ∧ (↑n : Int) ≤ (↑n : Int)) ∧ (bP (n - (↑(posW B y.i) : Int).toNat) fun (i _ : Nat) => SC.val (Go.Value.int Go.IntKind.u8 (B ((↑(posW B y.i) : Int).toNat + i)))) ∧ 2 ≤ n - (↑(posW B y.i) : Int).toNat ∧ (Decidable.decide (Go.IntKind.i64.wrap ((2 : Int) + (bOf (fun (i _ : Nat) => SC.val (Go.Value.int Go.IntKind.u8 (B ((↑(posW B y.i) : Int).toNat + i)))) 0 * (256 : Int) + bOf (fun (i _ : Nat) => SC.val (Go.Value.int Go.IntKind.u8 (B ((↑(posW B y.i) : Int).toNat + i)))) 1)) > (202 : Int)) = Bool.true → x103) ∧ (Decidable.decide (Go.IntKind.i64.wrap ((2 : Int) + (bOf (fun (i _ : Nat) => SC.val (Go.Value.int Go.IntKind.u8 (B ((↑(posW B y.i) : Int).toNat + i)))) 0 * (256 : Int) + bOf (fun (i _ : Nat) => SC.val (Go.Value.int Go.IntKind.u8 (B ((↑(posW B y.i) : Int).toNat + i)))) 1)) > (202 : Int)) = Bool.false → (Decidable.decide (Go.IntKind.i64.wrap (Go.IntKind.i64.wrap ((2 : Int) + (bOf (fun (i _ : Nat) => SC.val (Go.Value.int Go.IntKind.u8 (B ((↑(posW B y.i) : Int).toNat + i)))) 0 * (256 : Int) + bOf (fun (i _ : Nat) => SC.val (Go.Value.int Go.IntKind.u8 (B ((↑(posW B y.i) : Int).toNat + i)))) 1)) + (1 : Int)) > (↑(n - (↑(posW B y.i) : Int).toNat) : Int)) = Bool.true → x103) ∧ (Decidable.decide (Go.IntKind.i64.wrap (Go.IntKind.i64.wrap ((2 : Int) + (bOf (fun (i _ : Nat) => SC.val (Go.Value.int Go.IntKind.u8 (B ((↑(posW B y.i) : Int).toNat + i)))) 0 * (256 : Int) + bOf (fun (i _ : Nat) => SC.val (Go.Value.int Go.IntKind.u8 (B ((↑(posW B y.i) : Int).toNat + i)))) 1)) + (1 : Int)) > (↑(n - (↑(posW B y.i) : Int).toNat) : Int)) = Bool.false → ((0 : Int) ≤ (2 : Int) ∧ (2 : Int) ≤ Go.IntKind.i64.wrap ((2 : Int) + (bOf (fun (i _ : Nat) => SC.val (Go.Value.int Go.IntKind.u8 (B ((↑(posW B y.i) : Int).toNat + i)))) 0 * (256 : Int) + bOf (fun (i _ : Nat) => SC.val (Go.Value.int Go.IntKind.u8 (B ((↑(posW B y.i) : Int).toNat + i)))) 1)) ∧ x104) ∧ ((0 : Int) ≤ Go.IntKind.i64.wrap ((2 : Int) + (bOf (fun (i _ : Nat) => SC.val (Go.Value.int Go.IntKind.u8 (B ((↑(posW B y.i) : Int).toNat + i)))) 0 * (256 : Int) + bOf (fun (i _ : Nat) => SC.val (Go.Value.int Go.IntKind.u8 (B ((↑(posW B y.i) : Int).toNat + i)))) 1)) ∧ Go.IntKind.i64.wrap ((2 : Int) + (bOf (fun (i _ : Nat) => SC.val (Go.Value.int Go.IntKind.u8 (B ((↑(posW B y.i) : Int).toNat + i)))) 0 * (256 : Int) + bOf (fun (i _ : Nat) => SC.val (Go.Value.int Go.IntKind.u8 (B ((↑(posW B y.i) : Int).toNat + i)))) 1)) < (↑(n - (↑(posW B y.i) : Int).toNat) : Int)) ∧ (bP ((Go.IntKind.i64.wrap ((2 : Int) + (bOf (fun (i _ : Nat) => SC.val (Go.Value.int Go.IntKind.u8 (B ((↑(posW B y.i) : Int).toNat + i)))) 0 * (256 : Int) + bOf (fun (i _ : Nat) => SC.val (Go.Value.int Go.IntKind.u8 (B ((↑(posW B y.i) : Int).toNat + i)))) 1))).toNat - 2) fun (i _ : Nat) => SC.val (Go.Value.int Go.IntKind.u8 (B ((↑(posW B y.i) : Int).toNat + (2 + i))))) ∧ ((!smB (bOf fun (i _ : Nat) => SC.val (Go.Value.int Go.IntKind.u8 (B ((↑(posW B y.i) : Int).toNat + (2 + i))))) 0 ((Go.IntKind.i64.wrap ((2 : Int) + (bOf (fun (i _ : Nat) => SC.val (Go.Value.int Go.IntKind.u8 (B ((↑(posW B y.i) : Int).toNat + i)))) 0 * (256 : Int) + bOf (fun (i _ : Nat) => SC.val (Go.Value.int Go.IntKind.u8 (B ((↑(posW B y.i) : Int).toNat + i)))) 1))).toNat - 2) % (256 : Int) == B ((↑(posW B y.i) : Int).toNat + (Go.IntKind.i64.wrap ((2 : Int) + (bOf (fun (i _ : Nat) => SC.val (Go.Value.int Go.IntKind.u8 (B ((↑(posW B y.i) : Int).toNat + i)))) 0 * (256 : Int) + bOf (fun (i _ : Nat) => SC.val (Go.Value.int Go.IntKind.u8 (B ((↑(posW B y.i) : Int).toNat + i)))) 1))).toNat)) = Bool.true → x103) ∧ ((!smB (bOf fun (i _ : Nat) => SC.val (Go.Value.int Go.IntKind.u8 (B ((↑(posW B y.i) : Int).toNat + (2 + i))))) 0 ((Go.IntKind.i64.wrap ((2 : Int) + (bOf (fun (i _ : Nat) => SC.val (Go.Value.int Go.IntKind.u8 (B ((↑(posW B y.i) : Int).toNat + i)))) 0 * (256 : Int) + bOf (fun (i _ : Nat) => SC.val (Go.Value.int Go.IntKind.u8 (B ((↑(posW B y.i) : Int).toNat + i)))) 1))).toNat - 2) % (256 : Int) == B ((↑(posW B y.i) : Int).toNat + (Go.IntKind.i64.wrap ((2 : Int) + (bOf (fun (i _ : Nat) => SC.val (Go.Value.int Go.IntKind.u8 (B ((↑(posW B y.i) : Int).toNat + i)))) 0 * (256 : Int) + bOf (fun (i _ : Nat) => SC.val (Go.Value.int Go.IntKind.u8 (B ((↑(posW B y.i) : Int).toNat + i)))) 1))).toNat)) = Bool.false → ((0 : Int) ≤ (2 : Int) ∧ (2 : Int) ≤ Go.IntKind.i64.wrap ((2 : Int) + (bOf (fun (i _ : Nat) => SC.val (Go.Value.int Go.IntKind.u8 (B ((↑(posW B y.i) : Int).toNat + i)))) 0 * (256 : Int) + bOf (fun (i _ : Nat) => SC.val (Go.Value.int Go.IntKind.u8 (B ((↑(posW B y.i) : Int).toNat + i)))) 1)) ∧ Go.IntKind.i64.wrap ((2 : Int) + (bOf (fun (i _ : Nat) => SC.val (Go.Value.int Go.IntKind.u8 (B ((↑(posW B y.i) : Int).toNat + i)))) 0 * (256 : Int) + bOf (fun (i _ : Nat) => SC.val (Go.Value.int Go.IntKind.u8 (B ((↑(posW B y.i) : Int).toNat + i)))) 1)) ≤ Go.IntKind.i64.wrap ((2 : Int) + (bOf (fun (i _ : Nat) => SC.val (Go.Value.int Go.IntKind.u8 (B ((↑(posW B y.i) : Int).toNat + i)))) 0 * (256 : Int) + bOf (fun (i _ : Nat) => SC.val (Go.Value.int Go.IntKind.u8 (B ((↑(posW B y.i) : Int).toNat + i)))) 1)) ∧ Go.IntKind.i64.wrap ((2 : Int) + (bOf (fun (i _ : Nat) => SC.val (Go.Value.int Go.IntKind.u8 (B ((↑(posW B y.i) : Int).toNat + i)))) 0 * (256 : Int) + bOf (fun (i _ : Nat) => SC.val (Go.Value.int Go.IntKind.u8 (B ((↑(posW B y.i) : Int).toNat + i)))) 1)) ≤ (↑(cap - (↑(posW B y.i) : Int).toNat) : Int) ∧ x104) ∧ (1 ≤ Go.maxLen ∧ 24 ≤ 140737488355328) ∧ ∀ (c : Nat), 1 + c ≤ Go.maxLen → ∃ (y' : WX), ((∀ (j : Nat), j < y'.i → good B n (posW B j)) ∧ 0 < y'.i ∧ y'.i + y'.p ≤ Go.maxLen) ∧ simC (SC.xs a n cap 1 fun (i _ : Nat) => SC.val (Go.Value.int Go.IntKind.u8 (B i))) (SC.xs a n cap 1 fun (i _ : Nat) => SC.val (Go.Value.int Go.IntKind.u8 (B i))) ∧ (0 = 0 ∧ 1 = 1 ∧ 0 = 0 ∧ 1 = y'.i ∧ 1 + c = y'.i + y'.p) ∧ Go.IntKind.i64.wrap ((↑(posW B y.i) : Int) + Go.IntKind.i64.wrap (Go.IntKind.i64.wrap ((2 : Int) + (bOf (fun (i _ : Nat) => SC.val (Go.Value.int Go.IntKind.u8 (B ((↑(posW B y.i) : Int).toNat + i)))) 0 * (256 : Int) + bOf (fun (i _ : Nat) => SC.val (Go.Value.int Go.IntKind.u8 (B ((↑(posW B y.i) : Int).toNat + i)))) 1)) + (1 : Int))) = (↑(posW B y'.i) : Int) ∧ 1 = y'.i ∧ c * 1 = y'.p ∧ (∀ (i : Nat), i < 1 → allC 1 fun (c : Nat) => simC (fixAt (flat [SK.c (SC.xs (adS (Go.IntKind.i64.wrap ((2 : Int) + (bOf (fun (i _ : Nat) => SC.val (Go.Value.int Go.IntKind.u8 (B ((↑(posW B y.i) : Int).toNat + i)))) 0 * (256 : Int) + bOf (fun (i _ : Nat) => SC.val (Go.Value.int Go.IntKind.u8 (B ((↑(posW B y.i) : Int).toNat + i)))) 1))).toNat 2 1 (adS cap (↑(posW B y.i) : Int).toNat 1 a)) ((Go.IntKind.i64.wrap ((2 : Int) + (bOf (fun (i _ : Nat) => SC.val (Go.Value.int Go.IntKind.u8 (B ((↑(posW B y.i) : Int).toNat + i)))) 0 * (256 : Int) + bOf (fun (i _ : Nat) => SC.val (Go.Value.int Go.IntKind.u8 (B ((↑(posW B y.i) : Int).toNat + i)))) 1))).toNat - 2) ((Go.IntKind.i64.wrap ((2 : Int) + (bOf (fun (i _ : Nat) => SC.val (Go.Value.int Go.IntKind.u8 (B ((↑(posW B y.i) : Int).toNat + i)))) 0 * (256 : Int) + bOf (fun (i _ : Nat) => SC.val (Go.Value.int Go.IntKind.u8 (B ((↑(posW B y.i) : Int).toNat + i)))) 1))).toNat - 2) 1 fun (i _ : Nat) => SC.val (Go.Value.int Go.IntKind.u8 (B ((↑(posW B y.i) : Int).toNat + (2 + i)))))]) 1 1 0 i c) (whF B y'.ac i c)) ∧ (n - posW B y'.i).succ.le (n - posW B y.i))))) ∧ (Decidable.decide (Go.IntKind.i64.wrap ((↑n : Int) - (↑(posW B y.i) : Int)) ≥ (2 : Int)) = Bool.false → x103)) := by kernel_rfl
end Go.Proofs.Ytehphcdlcakcaaa
end

section
namespace Go.Proofs.Ytehphcdlcakcaaa
open Go Go.Sx
set_option maxRecDepth 100000
theorem cntW_eq (B : Nat → Int) (n : Nat) : ∀ (f i k : Nat), i ≤ k → k ≤ i + f → (∀ j, i ≤ j → j < k → good B n (posW B j)) → (k < i + f → ¬ good B n (posW B k)) → cntW B n f i = k
  | 0, i, k, h1, h2, _, _ => by unfold cntW; omega
  | f + 1, i, k, h1, h2, hg, hn => by
    unfold cntW
    by_cases e : i = k
    · subst e
      rw [if_neg (hn (by omega))]
    · rw [if_pos (hg i (Nat.le_refl _) (by omega))]
      exact cntW_eq B n f (i + 1) k (by omega) (by omega) (fun j h3 h4 => hg j (by omega) h4) (fun h => hn (by omega))
theorem posW_le {B : Nat → Int} {n : Nat} : ∀ i, (∀ j, j < i → good B n (posW B j)) → 3 * i ≤ posW B i ∧ posW B i ≤ n
  | 0, _ => ⟨Nat.le_refl _, Nat.zero_le _⟩
  | i + 1, h => by
    have ih := posW_le (n := n) i fun j hj => h j (by omega)
    have g := (h i (by omega)).g3
    unfold posW
    omega
theorem whN_eq {B : Nat → Int} {n k : Nat} (h : ∀ j, j < k → good B n (posW B j)) (hn : ¬ good B n (posW B k)) : whN B n = k := by
  have := posW_le k h
  exact cntW_eq B n n 0 k (Nat.zero_le _) (by omega) (fun j _ hj => h j hj) (fun _ => hn)
theorem cntW_spec (B : Nat → Int) (n : Nat) : ∀ (f i : Nat), (∀ j, j < i → good B n (posW B j)) → ∀ j, j < cntW B n f i → good B n (posW B j)
  | 0, i, h, j, hj => h j (by unfold cntW at hj; exact hj)
  | f + 1, i, h, j, hj => by
    unfold cntW at hj
    by_cases e : good B n (posW B i)
    · rw [if_pos e] at hj
      exact cntW_spec B n f (i + 1) (fun k hk => by
        rcases Nat.lt_or_ge k i with q | q
        · exact h k q
        · rw [show k = i by omega]; exact e) j hj
    · rw [if_neg e] at hj
      exact h j hj
theorem whN_good (B : Nat → Int) (n : Nat) : ∀ j, j < whN B n → good B n (posW B j) := cntW_spec B n n 0 fun _ h => absurd h (Nat.not_lt_zero _)
theorem smB_congr {B C : Nat → Int} {o : Nat} : ∀ k, (∀ j, j < k → B (o + j) = C (o + j)) → smB B o k = smB C o k
  | 0, _ => rfl
  | k + 1, h => by
    unfold smB
    rw [smB_congr k fun j hj => h j (by omega), h k (by omega)]
theorem xs_sim {a a' : Option Addr} {n n' cap cap' : Nat} {G G' : Nat → Int} (h1 : a = a') (h2 : n = n') (h3 : cap = cap') (h : ∀ k, k < n → G k = G' k) : simC (.xs a n cap 1 (byF G)) (.xs a' n' cap' 1 (byF G')) := by
  subst h1; subst h2; subst h3
  refine ⟨rfl, rfl, rfl, fun i hi => ?_⟩
  show simC (.val (.int .u8 (G i))) (.val (.int .u8 (G' i)))
  rw [h i hi]; rfl
theorem wh_self (B : Nat → Int) (ac ac' : Nat → Option Addr × Nat) (i i' c : Nat) (e : i = i') (h : ac i' = ac' i') : simC (whF B ac i c) (whF B ac' i' c) := by
  subst e
  exact xs_sim (by rw [h]) rfl (by rw [h]) fun _ _ => rfl
def acW (ac : Nat → Option Addr × Nat) (k : Nat) (x : Option Addr × Nat) (j : Nat) : Option Addr × Nat := if j < k then ac j else x
theorem wh_old {B : Nat → Int} {ac : Nat → Option Addr × Nat} {k : Nat} {x : Option Addr × Nat} {i c : Nat} (h : i < k) {a' : Option Addr} {n' cap' : Nat} {g' : Nat → Nat → SC} (hg : ∀ j, ∃ z, g' j 0 = .val (.int .u8 z)) : simC (selC true (whF B ac i c) (.xs a' n' cap' 1 g')) (whF B (acW ac k x) i c) := by
  have e : acW ac k x i = ac i := if_pos h
  refine ⟨?_, rfl, ?_, fun j hj => ?_⟩
  · show (ac i).1 = _
    rw [e]
  · show (ac i).2 = _
    rw [e]
  · obtain ⟨z, hz⟩ := hg j
    show simC (selC true (byF (recB B (posW B i)) j 0) (g' j 0)) _
    rw [hz]
    rfl
theorem wh_new {B : Nat → Int} {ac : Nat → Option Addr × Nat} {k : Nat} {x : Option Addr × Nat} {i c : Nat} (h : i = k) {m : Nat} {G : Nat → Int} (h2 : m = ln B (posW B k)) (h4 : ∀ j, j < m → G j = recB B (posW B k) j) :
    simC (.xs x.1 m x.2 1 (byF G)) (whF B (acW ac k x) i c) := by
  subst h
  have e : acW ac i x i = x := if_neg (by omega)
  exact xs_sim (by rw [e]) h2 (by rw [e]) h4
theorem wh_newS {B : Nat → Int} {ac : Nat → Option Addr × Nat} {k : Nat} {x : Option Addr × Nat} {i c : Nat} (h : i = k) {m : Nat} {G : Nat → Int} (h2 : m = ln B (posW B k)) (h4 : ∀ j, j < m → G j = recB B (posW B k) j) (a0 : Option Addr) (n0 cap0 : Nat) (G0 : Nat → Int) :
    simC (selC false (.xs a0 n0 cap0 1 (byF G0)) (.xs x.1 m x.2 1 (byF G))) (whF B (acW ac k x) i c) := wh_new h h2 h4
theorem bP_sub {n : Nat} {B : Nat → Int} (hb : ∀ i, i < n → 0 ≤ B i ∧ B i < 256) (hn : n ≤ 16777216) {p m : Nat} (h : p + m ≤ n) : bP m (byF fun i => B (p + i)) := ⟨rfl, fun i hi => hb (p + i) (by omega), by omega⟩
theorem ln_le {n p : Nat} {B : Nat → Int} (hb : ∀ i, i < n → 0 ≤ B i ∧ B i < 256) (h : p + 2 ≤ n) : ln B p ≤ 65535 := by
  have b0 := hb p (by omega)
  have b1 := hb (p + 1) (by omega)
  unfold ln
  omega
theorem key2 {n p : Nat} {B : Nat → Int} (hb : ∀ i, i < n → 0 ≤ B i ∧ B i < 256) (h : p + 2 ≤ n) : IntKind.i64.wrap (2 + (B p * 256 + B (p + 1))) = ((2 + ln B p : Nat) : Int) := by
  have b0 := hb p (by omega)
  have b1 := hb (p + 1) (by omega)
  unfold ln
  rw [IntKind.wrap_i64]
  omega
theorem w21 (L : Nat) (h : L ≤ 65535) : IntKind.i64.wrap (((2 + L : Nat) : Int) + 1) = ((L + 3 : Nat) : Int) := by
  rw [IntKind.wrap_i64]; omega
theorem wps (p L : Nat) (h : p + L + 3 ≤ 16777216) (h' : L ≤ 65535) : IntKind.i64.wrap ((p : Int) + IntKind.i64.wrap (((2 + L : Nat) : Int) + 1)) = ((p + L + 3 : Nat) : Int) := by
  rw [w21 L h', IntKind.wrap_i64]; omega
theorem wsub (n p : Nat) (h : p ≤ n) (hn : n ≤ 16777216) : IntKind.i64.wrap ((n : Int) - (p : Int)) = ((n - p : Nat) : Int) := by
  rw [IntKind.wrap_i64]; omega
set_option maxHeartbeats 2000000 in
theorem ok_wh (a : Option Addr) (n cap : Nat) (B : Nat → Int) (hb : ∀ i, i < n → 0 ≤ B i ∧ B i < 256) (hn : n ≤ 16777216) (hc : n ≤ cap) :
    OwesR Try.prog cxWh slWh [(3, .inv2 (invWL a n cap B) (invWM a n cap B) (pickN 4))] 4 Try.f17 [xsI a n cap .u8 B] true (whR B n) := by
  rw [vc_wh]
  have hML : maxLen = 9223372036854775807 := rfl
  have sim : simC (SC.xs a n cap 1 fun (i _ : Nat) => .val (.int .u8 (B i))) (SC.xs a n cap 1 fun (i _ : Nat) => .val (.int .u8 (B i))) := ⟨rfl, rfl, rfl, fun _ _ => rfl⟩
  refine ⟨fun _ => rfl, fun _ => rfl, fun y => ?_, ⟨0, 0, fun _ => (none, 0)⟩, ⟨fun j hj => absurd hj (Nat.not_lt_zero _), rfl⟩, sim, rfl, rfl, fun y => ?_⟩
  · intro x101 x102 hy
    obtain ⟨h1, h2, h3⟩ := hy
    obtain ⟨q3, q4⟩ := posW_le y.i h1
    have stop : ¬ good B n (posW B y.i) → x101 := fun hg => by
      have e := whN_eq h1 hg
      refine ⟨⟨fun l => match l with | [j] => y.ac j | _ => (none, 0), trivial, by omega, e.symm, by omega, fun i hi => ?_⟩, by rw [e]⟩
      exact wh_self B _ _ (0 + i) i 0 (Nat.zero_add i) rfl
    have e102 : 2 ≤ n - posW B y.i → (((2 + ln B (posW B y.i) : Nat) : Int) ≤ ((n - posW B y.i : Nat) : Int)) → x102 := fun hk hh => by
      show IntKind.i64.wrap (2 + (B ((posW B y.i : Int).toNat + 0) * 256 + B ((posW B y.i : Int).toNat + 1))) ≤ ((n - (posW B y.i : Int).toNat : Nat) : Int)
      rw [Int.toNat_natCast, Nat.add_zero, key2 hb (by omega)]
      exact hh
    clear_value x101 x102
    simp only [Int.toNat_natCast]
    refine ⟨fun h => ?_, fun h => stop fun hg => ?_⟩
    · have h := of_decide_eq_true h
      rw [wsub n _ q4 hn] at h
      have hk : 2 ≤ n - posW B y.i := by omega
      have e102 := e102 hk
      have eE : IntKind.i64.wrap (2 + (bOf (fun (i _ : Nat) => SC.val (Value.int .u8 (B (posW B y.i + i)))) 0 * 256 + bOf (fun (i _ : Nat) => SC.val (Value.int .u8 (B (posW B y.i + i)))) 1)) = ((2 + ln B (posW B y.i) : Nat) : Int) := key2 (p := posW B y.i) hb (by omega)
      have eR : (bOf fun (i _ : Nat) => SC.val (Value.int .u8 (B (posW B y.i + (2 + i))))) = recB B (posW B y.i) := funext fun i => by
        show B (posW B y.i + (2 + i)) = B (posW B y.i + 2 + i)
        rw [Nat.add_assoc]
      simp only [eE, eR, Int.toNat_natCast]
      rw [show 2 + ln B (posW B y.i) - 2 = ln B (posW B y.i) by omega]
      generalize hp : posW B y.i = p at *
      generalize hL : ln B p = L at *
      refine ⟨⟨by omega, by omega, Int.le_refl _⟩, bP_sub hb hn (by omega), hk, fun h => stop fun hg => ?_, fun h => ⟨fun h => stop fun hg => ?_, fun h' => ?_⟩⟩
      · have h := of_decide_eq_true h
        have := hg.g2
        omega
      · have h := of_decide_eq_true h
        rw [w21 L (hL ▸ ln_le hb (by omega))] at h
        have := hg.g3
        omega
      · have h := of_decide_eq_false h
        have h' := of_decide_eq_false h'
        rw [w21 L (by omega)] at h'
        refine ⟨⟨by omega, by omega, e102 (by omega)⟩, ⟨by omega, by omega⟩, ⟨rfl, fun i hi => hb _ (by omega), by omega⟩, fun h => stop fun hg => ?_, fun h => ?_⟩
        · have k := hg.g4
          rw [hL] at k
          rw [show p + 2 + L = p + (2 + L) by omega] at k
          rw [k, beq_self_eq_true] at h
          cases h
        · have hgood : good B n p := by
            refine ⟨by omega, by omega, by omega, ?_⟩
            rw [hL]
            have := of_decide_eq_true (show decide (smB (recB B p) 0 L % 256 = B (p + (2 + L))) = true by
              cases hd : (smB (recB B p) 0 L % 256 == B (p + (2 + L))) with
              | true => exact decide_eq_true (eq_of_beq hd)
              | false => rw [hd] at h; cases h)
            exact this.trans (by rw [Nat.add_assoc])
          have hext : ∀ j, j < y.i + 1 → good B n (posW B j) := fun j hj => by
            rcases Nat.lt_or_ge j y.i with q | q
            · exact h1 j q
            · rw [show j = y.i by omega, hp]; exact hgood
          have hpos : posW B (y.i + 1) = p + L + 3 := by
            show posW B y.i + ln B (posW B y.i) + 3 = _
            rw [hp, hL]
          refine ⟨⟨by omega, by omega, by omega, by omega, e102 (by omega)⟩, trivial, trivial, ⟨by omega, by omega, by omega⟩, ⟨by omega, by omega⟩, fun c hcc => ⟨⟨y.i + 1, c, acW y.ac y.i (adS (2 + L) 2 1 (adS cap p 1 a), L)⟩, ⟨hext, by show 0 < y.i + 1; omega, hcc⟩, sim, ⟨trivial, trivial, trivial, rfl, rfl⟩, ?_, rfl, Nat.mul_one c, fun i hi => ?_, ?_⟩⟩
          · show _ = ((posW B (y.i + 1) : Nat) : Int)
            rw [hpos]; exact wps p L (by omega) (by omega)
          · show simC (selC (decide (i < y.i)) (whF B y.ac i 0) (.xs (adS (2 + L) 2 1 (adS cap p 1 a)) L L 1 (byF fun i => B (p + (2 + i))))) (whF B (acW y.ac y.i (adS (2 + L) 2 1 (adS cap p 1 a), L)) i 0)
            by_cases hlt : i < y.i
            · rw [decide_eq_true hlt]
              exact wh_old hlt fun j => ⟨_, rfl⟩
            · rw [decide_eq_false hlt]
              refine wh_newS (x := (adS (2 + L) 2 1 (adS cap p 1 a), L)) (by omega) (by rw [hp, hL]) (fun j _ => ?_) _ _ _ _
              rw [hp]
              show B (p + (2 + j)) = B (p + 2 + j)
              rw [Nat.add_assoc]
          · show n - posW B (y.i + 1) + 1 ≤ n - p
            rw [hpos]; omega
    · have h := of_decide_eq_false h
      rw [wsub n _ q4 hn] at h
      have := hg.g1
      omega
  · intro x101 x102 hy
    obtain ⟨h1, h2⟩ := hy
    obtain ⟨q3, q4⟩ := posW_le y.i h1
    have stop : ¬ good B n (posW B y.i) → x101 := fun hg => by
      have e := whN_eq h1 hg
      exact ⟨⟨fun _ => (none, 0), trivial, by rw [e]; exact h2⟩, by rw [e]⟩
    have e102 : 2 ≤ n - posW B y.i → (((2 + ln B (posW B y.i) : Nat) : Int) ≤ ((n - posW B y.i : Nat) : Int)) → x102 := fun hk hh => by
      show IntKind.i64.wrap (2 + (B ((posW B y.i : Int).toNat + 0) * 256 + B ((posW B y.i : Int).toNat + 1))) ≤ ((n - (posW B y.i : Int).toNat : Nat) : Int)
      rw [Int.toNat_natCast, Nat.add_zero, key2 hb (by omega)]
      exact hh
    clear_value x101 x102
    simp only [Int.toNat_natCast]
    refine ⟨fun h => ?_, fun h => stop fun hg => ?_⟩
    · have h := of_decide_eq_true h
      rw [wsub n _ q4 hn] at h
      have hk : 2 ≤ n - posW B y.i := by omega
      have e102 := e102 hk
      have eE : IntKind.i64.wrap (2 + (bOf (fun (i _ : Nat) => SC.val (Value.int .u8 (B (posW B y.i + i)))) 0 * 256 + bOf (fun (i _ : Nat) => SC.val (Value.int .u8 (B (posW B y.i + i)))) 1)) = ((2 + ln B (posW B y.i) : Nat) : Int) := key2 (p := posW B y.i) hb (by omega)
      have eR : (bOf fun (i _ : Nat) => SC.val (Value.int .u8 (B (posW B y.i + (2 + i))))) = recB B (posW B y.i) := funext fun i => by
        show B (posW B y.i + (2 + i)) = B (posW B y.i + 2 + i)
        rw [Nat.add_assoc]
      simp only [eE, eR, Int.toNat_natCast]
      rw [show 2 + ln B (posW B y.i) - 2 = ln B (posW B y.i) by omega]
      generalize hp : posW B y.i = p at *
      generalize hL : ln B p = L at *
      refine ⟨⟨by omega, by omega, Int.le_refl _⟩, bP_sub hb hn (by omega), hk, fun h => stop fun hg => ?_, fun h => ⟨fun h => stop fun hg => ?_, fun h' => ?_⟩⟩
      · have h := of_decide_eq_true h
        have := hg.g2
        omega
      · have h := of_decide_eq_true h
        rw [w21 L (hL ▸ ln_le hb (by omega))] at h
        have := hg.g3
        omega
      · have h := of_decide_eq_false h
        have h' := of_decide_eq_false h'
        rw [w21 L (by omega)] at h'
        refine ⟨⟨by omega, by omega, e102 (by omega)⟩, ⟨by omega, by omega⟩, ⟨rfl, fun i hi => hb _ (by omega), by omega⟩, fun h => stop fun hg => ?_, fun h => ?_⟩
        · have k := hg.g4
          rw [hL] at k
          rw [show p + 2 + L = p + (2 + L) by omega] at k
          rw [k, beq_self_eq_true] at h
          cases h
        · have hgood : good B n p := by
            refine ⟨by omega, by omega, by omega, ?_⟩
            rw [hL]
            have := of_decide_eq_true (show decide (smB (recB B p) 0 L % 256 = B (p + (2 + L))) = true by
              cases hd : (smB (recB B p) 0 L % 256 == B (p + (2 + L))) with
              | true => exact decide_eq_true (eq_of_beq hd)
              | false => rw [hd] at h; cases h)
            exact this.trans (by rw [Nat.add_assoc])
          have hext : ∀ j, j < y.i + 1 → good B n (posW B j) := fun j hj => by
            rcases Nat.lt_or_ge j y.i with q | q
            · exact h1 j q
            · rw [show j = y.i by omega, hp]; exact hgood
          have hpos : posW B (y.i + 1) = p + L + 3 := by
            show posW B y.i + ln B (posW B y.i) + 3 = _
            rw [hp, hL]
          refine ⟨⟨by omega, by omega, by omega, by omega, e102 (by omega)⟩, ⟨by omega, by omega⟩, fun c hcc => ⟨⟨1, c, acW y.ac y.i (adS (2 + L) 2 1 (adS cap p 1 a), L)⟩, ⟨fun j hj => hext j (by have : j < 1 := hj; omega), by show 0 < 1; omega, hcc⟩, sim, ⟨trivial, trivial, trivial, rfl, rfl⟩, ?_, rfl, Nat.mul_one c, fun i hi => ?_, ?_⟩⟩
          · show _ = ((posW B 1 : Nat) : Int)
            rw [show 1 = y.i + 1 by omega, hpos]; exact wps p L (by omega) (by omega)
          · show simC (.xs (adS (2 + L) 2 1 (adS cap p 1 a)) L L 1 (byF fun i => B (p + (2 + i)))) (whF B (acW y.ac y.i (adS (2 + L) 2 1 (adS cap p 1 a), L)) i 0)
            refine wh_new (x := (adS (2 + L) 2 1 (adS cap p 1 a), L)) (by omega) (by rw [hp, hL]) (fun j _ => ?_)
            rw [hp]
            show B (p + (2 + j)) = B (p + 2 + j)
            rw [Nat.add_assoc]
          · show n - posW B 1 + 1 ≤ n - p
            rw [show 1 = y.i + 1 by omega, hpos]; omega
    · have h := of_decide_eq_false h
      rw [wsub n _ q4 hn] at h
      have := hg.g1
      omega
end Go.Proofs.Ytehphcdlcakcaaa
end

section
namespace Go.Proofs.Ytehphcdlcakcaaa
open Go.Sx
set_option maxRecDepth 100000
def opC : List (List FD) → List Prop
  | [[.x a n cap f, .x b m cb g]] => [bP n f, bP m g, n + m ≤ 16777216, n ≤ cap, m ≤ cb, a = none → n = 0, b = none → m = 0]
  | _ => [False]
def opG : List (List FD) → List RS
  | [[.x _ n _ f, .x _ m _ g]] => whR (catB n (bOf f) (bOf g)) (n + m)
  | _ => []
def cOp : SSpec := specQ0 true [.st [.x 1, .x 1]] opC opG
def slOp : List (Nat × SSpec) := [(16, cCc), (17, cWh)]
def mdE (m : Nat) : Int := if 0 < m then 12 else 0
def mdR (n : Nat) (F : Nat → Int) (m : Nat) : List RS := [.st [.s (zl (mdE m) (posW F (whN F n))) 1 (byF F), .s 0 1 (byF F)], .v (sI .i64 (mdE m))]
def mdG : List (List FD) → List RS
  | [[.x _ n _ f, .x _ m _ _]] => mdR n (bOf f) m
  | _ => []
def cMd : SSpec := specQ0 true [.st [.x 1, .x 1]] opC mdG
def slMd : List (Nat × SSpec) := [(18, cCl), (17, cWh)]
def chr (s : ByteArray) (i : Nat) : Int := ((s.data.getD i 0).toNat : Int)
theorem vc_op (a : Option Addr) (n cap : Nat) (F : Nat → Int) (b : Option Addr) (m cb : Nat) (G : Nat → Int) :
    OwesR Try.prog cxLA slOp [] 10 Try.f8 [sLg a n cap F b m cb G] true (whR (catB n F G) (n + m)) =
    (let x1 : Nat := xN ((flat ([SK.c ((flat (toKs (sLg a n cap F b m cb G))).getD 0 (SC.bit Bool.false))] ++ toKs (SA.sc ((flat (toKs (sLg a n cap F b m cb G))).getD 1 (SC.bit Bool.false))) ++ [])).getD 0 (SC.bit Bool.false)); let x2 : Nat := x1 + xN ((flat ([SK.c ((flat (toKs (sLg a n cap F b m cb G))).getD 0 (SC.bit Bool.false))] ++ toKs (SA.sc ((flat (toKs (sLg a n cap F b m cb G))).getD 1 (SC.bit Bool.false))) ++ [])).getD 1 (SC.bit Bool.false)); let x3 : Nat := whN (bOf fun (i _ : Nat) => SC.val (Go.Value.int Go.IntKind.u8 (catB x1 (bOf (xG ((flat ([SK.c ((flat (toKs (sLg a n cap F b m cb G))).getD 0 (SC.bit Bool.false))] ++ toKs (SA.sc ((flat (toKs (sLg a n cap F b m cb G))).getD 1 (SC.bit Bool.false))) ++ [])).getD 0 (SC.bit Bool.false)))) (bOf (xG ((flat ([SK.c ((flat (toKs (sLg a n cap F b m cb G))).getD 0 (SC.bit Bool.false))] ++ toKs (SA.sc ((flat (toKs (sLg a n cap F b m cb G))).getD 1 (SC.bit Bool.false))) ++ [])).getD 1 (SC.bit Bool.false)))) i))) x2; let x4 : Nat := whN (catB n F G) (n + m); ∀ (_ : Go.Addr), 2 ≤ 2 ∧ ∀ (_ : Go.Addr), 2 = 2 ∧ (∃ (a_3 : Option Go.Addr), ∃ (m_1 : Nat), ∃ (cap_1 : Nat), ∃ (g : Nat → Nat → SC), (flat ([SK.c ((flat (toKs (sLg a n cap F b m cb G))).getD 0 (SC.bit Bool.false))] ++ toKs (SA.sc ((flat (toKs (sLg a n cap F b m cb G))).getD 1 (SC.bit Bool.false))) ++ [])).getD 0 (SC.bit Bool.false) = SC.xs a_3 m_1 cap_1 1 g ∧ bP m_1 g) ∧ (∃ (a_3 : Option Go.Addr), ∃ (m_1 : Nat), ∃ (cap_1 : Nat), ∃ (g : Nat → Nat → SC), (flat ([SK.c ((flat (toKs (sLg a n cap F b m cb G))).getD 0 (SC.bit Bool.false))] ++ toKs (SA.sc ((flat (toKs (sLg a n cap F b m cb G))).getD 1 (SC.bit Bool.false))) ++ [])).getD 1 (SC.bit Bool.false) = SC.xs a_3 m_1 cap_1 1 g ∧ bP m_1 g) ∧ ∀ (a_3 : Option Go.Addr) (cap_1 : Nat), (a_3 = Option.none → x2 = 0 ∧ cap_1 = 0) → x2 ≤ cap_1 → (bP x2 fun (i _ : Nat) => SC.val (Go.Value.int Go.IntKind.u8 (catB x1 (bOf (xG ((flat ([SK.c ((flat (toKs (sLg a n cap F b m cb G))).getD 0 (SC.bit Bool.false))] ++ toKs (SA.sc ((flat (toKs (sLg a n cap F b m cb G))).getD 1 (SC.bit Bool.false))) ++ [])).getD 0 (SC.bit Bool.false)))) (bOf (xG ((flat ([SK.c ((flat (toKs (sLg a n cap F b m cb G))).getD 0 (SC.bit Bool.false))] ++ toKs (SA.sc ((flat (toKs (sLg a n cap F b m cb G))).getD 1 (SC.bit Bool.false))) ++ [])).getD 1 (SC.bit Bool.false)))) i))) ∧ x2 ≤ cap_1 ∧ ∀ (ac : List Nat → Option Go.Addr × Nat), True → ∀ (a_7 : Option Go.Addr) (cap_2 : Nat), (a_7 = Option.none → x3 = 0 ∧ cap_2 = 0) → x3 ≤ cap_2 → (∃ (ac_1 : List Nat → Option Go.Addr × Nat), True ∧ x3 = x4 ∧ ∀ (i : Nat), i < x4 → allC 1 fun (c : Nat) => simC (whF (bOf fun (i _ : Nat) => SC.val (Go.Value.int Go.IntKind.u8 (catB x1 (bOf (xG ((flat ([SK.c ((flat (toKs (sLg a n cap F b m cb G))).getD 0 (SC.bit Bool.false))] ++ toKs (SA.sc ((flat (toKs (sLg a n cap F b m cb G))).getD 1 (SC.bit Bool.false))) ++ [])).getD 0 (SC.bit Bool.false)))) (bOf (xG ((flat ([SK.c ((flat (toKs (sLg a n cap F b m cb G))).getD 0 (SC.bit Bool.false))] ++ toKs (SA.sc ((flat (toKs (sLg a n cap F b m cb G))).getD 1 (SC.bit Bool.false))) ++ [])).getD 1 (SC.bit Bool.false)))) i))) (fun (j : Nat) => ac [j]) i c) (whF (catB n F G) (fun (j : Nat) => ac_1 [j]) i c)) ∧ (↑(posW (bOf fun (i _ : Nat) => SC.val (Go.Value.int Go.IntKind.u8 (catB x1 (bOf (xG ((flat ([SK.c ((flat (toKs (sLg a n cap F b m cb G))).getD 0 (SC.bit Bool.false))] ++ toKs (SA.sc ((flat (toKs (sLg a n cap F b m cb G))).getD 1 (SC.bit Bool.false))) ++ [])).getD 0 (SC.bit Bool.false)))) (bOf (xG ((flat ([SK.c ((flat (toKs (sLg a n cap F b m cb G))).getD 0 (SC.bit Bool.false))] ++ toKs (SA.sc ((flat (toKs (sLg a n cap F b m cb G))).getD 1 (SC.bit Bool.false))) ++ [])).getD 1 (SC.bit Bool.false)))) i))) x3) : Int) = (↑(posW (catB n F G) x4) : Int)) := by kernel_rfl
theorem vc_md (a : Option Addr) (n cap : Nat) (F : Nat → Int) (b : Option Addr) (m cb : Nat) (G : Nat → Int) :
    OwesR Try.prog cxLA slMd [] 10 Try.f11 [sLg a n cap F b m cb G] true (mdR n F m) =
    (let x1 : Prop := 0 = 0 ∧ True; let x2 : Int := (↑(posW (bOf (byF F)) (whN (bOf (byF F)) n)) : Int); let x3 : Nat := x2.toNat; let x4 : Prop := x3 = 0; ∀ (_ : Go.Addr), (Decidable.decide ((↑m : Int) > (0 : Int)) = Bool.true → (zl (mdE m) (posW F (whN F n)) = 0 ∧ x1) ∧ (12 : Int) = mdE m) ∧ (Decidable.decide ((↑m : Int) > (0 : Int)) = Bool.false → bP n (byF F) ∧ n ≤ cap ∧ ∀ (_ : List Nat → Option Go.Addr × Nat), True → ∀ (a_4 : Option Go.Addr) (cap : Nat), (a_4 = Option.none → whN (bOf (byF F)) n = 0 ∧ cap = 0) → whN (bOf (byF F)) n ≤ cap → ((0 : Int) ≤ x2 ∧ x2 ≤ (↑n : Int)) ∧ bP x3 (byF F) ∧ (a = Option.none → x4) ∧ ∀ (a : Option Go.Addr) (cap : Nat), (a = Option.none → x4 ∧ cap = 0) → x3 ≤ cap → ((x3 = zl (mdE m) (posW F (whN F n)) ∧ ∀ (i : Nat), i < zl (mdE m) (posW F (whN F n)) → allC 1 fun (c : Nat) => simC (SC.val (Go.Value.int Go.IntKind.u8 (bOf (byF F) i))) (byF F i c)) ∧ x1) ∧ (0 : Int) = mdE m)) := by kernel_rfl
end Go.Proofs.Ytehphcdlcakcaaa
end

section
namespace Go.Proofs.Ytehphcdlcakcaaa
open Go Go.Sx
set_option maxRecDepth 100000
end Go.Proofs.Ytehphcdlcakcaaa
end

section
namespace Go.Proofs.Ytehphcdlcakcaaa
open Go.Sx
set_option maxRecDepth 100000
def cxCw : Cx := ⟨[(1300000000 + 26, fun _ => none), (1000000010, fun _ => none), (1000000012, fun _ => none), (1000000013, fun _ => none), (1000000014, fun _ => none), (1000000016, fun _ => none), (1000000021, fun _ => none)], [], 0, []⟩
def crE (k : Int) (m : Nat) : Int := if k < 0 ∨ (m : Int) < k then 6 else 0
def crR (n : Nat) (F : Nat → Int) (m : Nat) (G : Nat → Int) (k : Int) : List RS := [.st [.s (zl (crE k m) (n + k.toNat)) 1 (byF (catB n F G)), .s 0 1 (byF F)], .v (sI .i64 (crE k m))]
def cwC : List (List FD) → List Prop
  | [[.x _ n _ f]] => [n = 2, (∃ a m cap g, f 0 0 = .xs a m cap 1 g ∧ g = byF (bOf g)), (∃ a m cap g, f 1 0 = .xs a m cap 1 g ∧ g = byF (bOf g)), xN (f 0 0) + xN (f 1 0) ≤ 281474976710656]
  | _ => [False]
def cCw : SSpec := specQ0 true [.one (.x 1)] cwC ccG
structure bW (n : Nat) (f : Nat → Nat → SC) : Prop where
  bf : f = byF (bOf f)
  bb : ∀ i, i < n → 0 ≤ bOf f i ∧ bOf f i < 256
  bl : n ≤ 140737488355327
def crC : List (List FD) → List Prop
  | [[.x _ n _ f, .x _ m _ g], [.i _]] => [bW n f, bW m g]
  | _ => [False]
def crG : List (List FD) → List RS
  | [[.x _ n _ f, .x _ m _ g], [.i k]] => crR n (bOf f) m (bOf g) k
  | _ => []
def cCr : SSpec := specQ0 true [.st [.x 1, .x 1], .one (.i .i64)] crC crG
def syR (n : Nat) (F : Nat → Int) (m : Nat) (G : Nat → Int) : List RS := [.st [.s (n + m) 1 (byF (catB n F G)), .s 0 1 (byF F)]]
def syC : List (List FD) → List Prop
  | [[.x _ n _ f, .x _ m _ g]] => [bW n f, bW m g]
  | _ => [False]
def syG : List (List FD) → List RS
  | [[.x _ n _ f, .x _ m _ g]] => syR n (bOf f) m (bOf g)
  | _ => []
def cSy : SSpec := specQ0 true [.st [.x 1, .x 1]] syC syG
def slCw : List (Nat × SSpec) := [(16, cCw)]
theorem vc_cw (b a a' : Option Addr) (m n cap n' cap' : Nat) (B B' : Nat → Int) :
    OwesR Try.prog cxCw [] [] 10 Try.f16 [.sc (.xs b 2 m 1 (twB a n cap B a' n' cap' B'))] true [.s (n + n') .u8 (catB n B B')] =
    (let x1 : Int := Go.IntKind.i64.wrap ((0 : Int) + (↑n : Int)); let x2 : Prop := Stuck { dst := Option.none, op := Go.Op.panic (Go.Operand.tmp 21), type := 0, pos := "slices.go:496", after := #[{ on := 0, ground := Go.Ground.data }], guard := Option.none }; let x3 : Int := Go.IntKind.i64.wrap (x1 + (↑n' : Int)); let x4 : Prop := Decidable.decide (x3 < (0 : Int)) = Bool.true; let x5 : Prop := Decidable.decide (x3 < (0 : Int)) = Bool.false; let x6 : Int := Go.IntKind.i64.wrap (x3 - (0 : Int)); let x7 : Nat := 0 + n; let x8 : Nat := x7 * 1; let x9 : Nat := x7 + n'; let x10 : Nat := n + n'; let x11 : Nat := n * 1; let x12 : Prop := n ≤ 0; let x13 : Prop := n' ≤ 0; ((0 : Int) ≤ (0 : Int) ∧ (0 : Int) < (2 : Int)) ∧ (Decidable.decide (x1 < (0 : Int)) = Bool.true → x2) ∧ (Decidable.decide (x1 < (0 : Int)) = Bool.false → ((0 : Int) ≤ (1 : Int) ∧ (1 : Int) < (2 : Int)) ∧ (x4 → x2) ∧ (x5 → (x4 → Stuck { dst := Option.none, op := Go.Op.panic (Go.Operand.tmp 7), type := 0, pos := "slices.go:424", after := #[{ on := 0, ground := Go.Ground.data }], guard := Option.none }) ∧ (x5 → (Decidable.decide (x6 > (0 : Int)) = Bool.true → ((0 : Int) < x6 ∧ x6 ≤ (9223372036854775807 : Int) ∧ x6 * (1 : Int) ≤ (281474976710656 : Int)) ∧ ∀ (c : Nat), let x101 : Prop := x7 ≤ capA (SA.sc (SC.slw 0 1 0 0 (x6.toNat + c))); x6.toNat + c ≤ Go.maxLen → ((0 : Int) ≤ (0 : Int) ∧ (0 : Int) ≤ (↑(x6.toNat + c) : Int)) ∧ ((0 : Int) ≤ (0 : Int) ∧ (0 : Int) < (2 : Int)) ∧ 0 = 0 ∧ 0 = 0 ∧ (0 ≤ x6.toNat + c ∧ x6.toNat + c ≤ Go.maxLen ∧ (x6.toNat + c) * 1 = 0 + (x6.toNat + c) * 1) ∧ (x7 ≤ Go.maxLen ∧ (x8 ≤ 140737488355328 ∨ x101 ∨ capA (SA.sc (SC.slw 0 1 0 0 (x6.toNat + c))) = 0 ∧ x8 ≤ 281474976710656)) ∧ ∀ (c_1 : Nat), let x102 : Prop := x9 ≤ capA (SA.sc (SC.slw 0 1 0 x7 (x7 + c_1))); x7 + c_1 ≤ Go.maxLen → (x101 → x7 + c_1 = capA (SA.sc (SC.slw 0 1 0 0 (x6.toNat + c)))) → ((0 : Int) ≤ (1 : Int) ∧ (1 : Int) < (2 : Int)) ∧ 0 = 0 ∧ x7 = x7 ∧ (x7 ≤ x7 + c_1 ∧ x7 + c_1 ≤ Go.maxLen ∧ (x7 + c_1) * 1 = x8 + c_1 * 1) ∧ (x9 ≤ Go.maxLen ∧ (x9 * 1 ≤ 140737488355328 ∨ x102 ∨ capA (SA.sc (SC.slw 0 1 0 x7 (x7 + c_1))) = 0 ∧ x9 * 1 ≤ 281474976710656)) ∧ ∀ (c : Nat), x9 + c ≤ Go.maxLen → (x102 → x9 + c = capA (SA.sc (SC.slw 0 1 0 x7 (x7 + c_1)))) → 0 + x9 ≤ x9 ∧ x9 = x10 ∧ x9 ≤ x9 + c ∧ ∀ (i : Nat), i < x10 → (bif Decidable.decide (0 + i < x7) then B (0 + i - 0) else B' (0 + i - x7)) = catB n B B' i) ∧ (Decidable.decide (x6 > (0 : Int)) = Bool.false → ((0 : Int) ≤ (0 : Int) ∧ (0 : Int) < (2 : Int)) ∧ (n ≤ Go.maxLen ∧ (x11 ≤ 140737488355328 ∨ x12 ∨ 0 = 0 ∧ x11 ≤ 281474976710656)) ∧ (n = 0 → ((0 : Int) ≤ (1 : Int) ∧ (1 : Int) < (2 : Int)) ∧ (n' ≤ Go.maxLen ∧ (n' * 1 ≤ 140737488355328 ∨ x13 ∨ 0 = 0 ∧ n' * 1 ≤ 281474976710656)) ∧ (n' = 0 → x10 = 0) ∧ (n' ≠ 0 → ∀ (c : Nat), n' + c ≤ Go.maxLen → (x13 → n' + c = 0) → 0 + n' ≤ n' ∧ n' = x10 ∧ n' ≤ n' + c ∧ ∀ (i : Nat), i < x10 → B' (0 + i) = catB n B B' i)) ∧ (n ≠ 0 → ∀ (c : Nat), let x103 : Prop := x10 ≤ capA (SA.sc (SC.slw 0 1 0 n (n + c))); n + c ≤ Go.maxLen → (x12 → n + c = 0) → ((0 : Int) ≤ (1 : Int) ∧ (1 : Int) < (2 : Int)) ∧ 0 = 0 ∧ n = n ∧ (n ≤ n + c ∧ n + c ≤ Go.maxLen ∧ (n + c) * 1 = x11 + c * 1) ∧ (x10 ≤ Go.maxLen ∧ (x10 * 1 ≤ 140737488355328 ∨ x103 ∨ capA (SA.sc (SC.slw 0 1 0 n (n + c))) = 0 ∧ x10 * 1 ≤ 281474976710656)) ∧ ∀ (c_1 : Nat), x10 + c_1 ≤ Go.maxLen → (x103 → x10 + c_1 = capA (SA.sc (SC.slw 0 1 0 n (n + c)))) → 0 + x10 ≤ x10 ∧ x10 = x10 ∧ x10 ≤ x10 + c_1 ∧ ∀ (i : Nat), i < x10 → (bif Decidable.decide (0 + i < n) then B (0 + i) else B' (0 + i - n)) = catB n B B' i)))))) := by kernel_rfl
theorem vc_cr (a : Option Addr) (n cap : Nat) (F : Nat → Int) (b : Option Addr) (m cb : Nat) (G : Nat → Int) (k : Int) :
    OwesR Try.prog cxLA slCw [] 10 Try.f6 [sLg a n cap F b m cb G, sI .i64 k] true (crR n F m G k) =
    (let x1 : Bool := Decidable.decide (k < (0 : Int)); let x2 : Prop := (!x1) = Bool.true; let x3 : Nat := zl (crE k m) (n + k.toNat); let x4 : Prop := 0 = 0 ∧ True; let x5 : Nat := xN ((flat ([SK.c ((flat (toKs (sLg a n cap F b m cb G))).getD 0 (SC.bit Bool.false))] ++ toKs (SA.sc (SC.xs b k.toNat cb 1 (byF G))) ++ [])).getD 0 (SC.bit Bool.false)); let x6 : Nat := x5 + xN ((flat ([SK.c ((flat (toKs (sLg a n cap F b m cb G))).getD 0 (SC.bit Bool.false))] ++ toKs (SA.sc (SC.xs b k.toNat cb 1 (byF G))) ++ [])).getD 1 (SC.bit Bool.false)); ∀ (_ : Go.Addr), (x2 → x2) ∧ (x2 → x2) ∧ (x2 → x2) ∧ (x2 → x2) ∧ (x1 = Bool.false → x2) ∧ ((x1 || Decidable.decide (k > (↑m : Int))) = Bool.true → (x3 = 0 ∧ x4) ∧ (6 : Int) = crE k m) ∧ ((x1 || Decidable.decide (k > (↑m : Int))) = Bool.false → ((0 : Int) ≤ k ∧ k ≤ (↑m : Int)) ∧ 2 ≤ 2 ∧ ∀ (_ : Go.Addr), 2 = 2 ∧ (∃ (a_4 : Option Go.Addr), ∃ (m_1 : Nat), ∃ (cap_1 : Nat), ∃ (g : Nat → Nat → SC), (flat ([SK.c ((flat (toKs (sLg a n cap F b m cb G))).getD 0 (SC.bit Bool.false))] ++ toKs (SA.sc (SC.xs b k.toNat cb 1 (byF G))) ++ [])).getD 0 (SC.bit Bool.false) = SC.xs a_4 m_1 cap_1 1 g ∧ g = byF (bOf g)) ∧ (∃ (a_4 : Option Go.Addr), ∃ (m_1 : Nat), ∃ (cap_1 : Nat), ∃ (g : Nat → Nat → SC), (flat ([SK.c ((flat (toKs (sLg a n cap F b m cb G))).getD 0 (SC.bit Bool.false))] ++ toKs (SA.sc (SC.xs b k.toNat cb 1 (byF G))) ++ [])).getD 1 (SC.bit Bool.false) = SC.xs a_4 m_1 cap_1 1 g ∧ g = byF (bOf g)) ∧ x6 ≤ 281474976710656 ∧ ∀ (a_4 : Option Go.Addr) (cap_1 : Nat), (a_4 = Option.none → x6 = 0 ∧ cap_1 = 0) → x6 ≤ cap_1 → ((x6 = x3 ∧ ∀ (i : Nat), i < x3 → allC 1 fun (c : Nat) => simC (SC.val (Go.Value.int Go.IntKind.u8 (catB x5 (bOf (xG ((flat ([SK.c ((flat (toKs (sLg a n cap F b m cb G))).getD 0 (SC.bit Bool.false))] ++ toKs (SA.sc (SC.xs b k.toNat cb 1 (byF G))) ++ [])).getD 0 (SC.bit Bool.false)))) (bOf (xG ((flat ([SK.c ((flat (toKs (sLg a n cap F b m cb G))).getD 0 (SC.bit Bool.false))] ++ toKs (SA.sc (SC.xs b k.toNat cb 1 (byF G))) ++ [])).getD 1 (SC.bit Bool.false)))) i))) (byF (catB n F G) i c)) ∧ x4) ∧ (0 : Int) = crE k m)) := by kernel_rfl
theorem vc_sy (a : Option Addr) (n cap : Nat) (F : Nat → Int) (b : Option Addr) (m cb : Nat) (G : Nat → Int) :
    OwesR Try.prog cxLA slCw [] 10 Try.f15 [sLg a n cap F b m cb G] true (syR n F m G) =
    (let x1 : Nat := xN ((flat ([SK.c ((flat (toKs (sLg a n cap F b m cb G))).getD 0 (SC.bit Bool.false))] ++ toKs (SA.sc ((flat (toKs (sLg a n cap F b m cb G))).getD 1 (SC.bit Bool.false))) ++ [])).getD 0 (SC.bit Bool.false)); let x2 : Nat := x1 + xN ((flat ([SK.c ((flat (toKs (sLg a n cap F b m cb G))).getD 0 (SC.bit Bool.false))] ++ toKs (SA.sc ((flat (toKs (sLg a n cap F b m cb G))).getD 1 (SC.bit Bool.false))) ++ [])).getD 1 (SC.bit Bool.false)); let x3 : Nat := n + m; ∀ (_ : Go.Addr), 2 ≤ 2 ∧ ∀ (_ : Go.Addr), 2 = 2 ∧ (∃ (a_3 : Option Go.Addr), ∃ (m_1 : Nat), ∃ (cap_1 : Nat), ∃ (g : Nat → Nat → SC), (flat ([SK.c ((flat (toKs (sLg a n cap F b m cb G))).getD 0 (SC.bit Bool.false))] ++ toKs (SA.sc ((flat (toKs (sLg a n cap F b m cb G))).getD 1 (SC.bit Bool.false))) ++ [])).getD 0 (SC.bit Bool.false) = SC.xs a_3 m_1 cap_1 1 g ∧ g = byF (bOf g)) ∧ (∃ (a_3 : Option Go.Addr), ∃ (m_1 : Nat), ∃ (cap_1 : Nat), ∃ (g : Nat → Nat → SC), (flat ([SK.c ((flat (toKs (sLg a n cap F b m cb G))).getD 0 (SC.bit Bool.false))] ++ toKs (SA.sc ((flat (toKs (sLg a n cap F b m cb G))).getD 1 (SC.bit Bool.false))) ++ [])).getD 1 (SC.bit Bool.false) = SC.xs a_3 m_1 cap_1 1 g ∧ g = byF (bOf g)) ∧ x2 ≤ 281474976710656 ∧ ∀ (a_3 : Option Go.Addr) (cap_1 : Nat), (a_3 = Option.none → x2 = 0 ∧ cap_1 = 0) → x2 ≤ cap_1 → (x2 = x3 ∧ ∀ (i : Nat), i < x3 → allC 1 fun (c : Nat) => simC (SC.val (Go.Value.int Go.IntKind.u8 (catB x1 (bOf (xG ((flat ([SK.c ((flat (toKs (sLg a n cap F b m cb G))).getD 0 (SC.bit Bool.false))] ++ toKs (SA.sc ((flat (toKs (sLg a n cap F b m cb G))).getD 1 (SC.bit Bool.false))) ++ [])).getD 0 (SC.bit Bool.false)))) (bOf (xG ((flat ([SK.c ((flat (toKs (sLg a n cap F b m cb G))).getD 0 (SC.bit Bool.false))] ++ toKs (SA.sc ((flat (toKs (sLg a n cap F b m cb G))).getD 1 (SC.bit Bool.false))) ++ [])).getD 1 (SC.bit Bool.false)))) i))) (byF (catB n F G) i c)) ∧ 0 = 0 ∧ True) := by kernel_rfl
end Go.Proofs.Ytehphcdlcakcaaa
end

section
namespace Go.Proofs.Ytehphcdlcakcaaa
open Go Go.Sx
set_option maxRecDepth 100000
theorem ok_cw (b a a' : Option Addr) (m n cap n' cap' : Nat) (B B' : Nat → Int) (hn : n + n' ≤ 281474976710656) :
    OwesR Try.prog cxCw [] [] 10 Try.f16 [.sc (.xs b 2 m 1 (twB a n cap B a' n' cap' B'))] true [.s (n + n') .u8 (catB n B B')] := by
  rw [vc_cw]
  have hML : maxLen = 9223372036854775807 := rfl
  intro x1 x2 x3 x4 x5 x6 x7 x8 x9 x10 x11 x12 x13
  have e1 : x1 = (n : Int) := by show IntKind.i64.wrap (0 + (n : Int)) = _; rw [IntKind.wrap_i64]; omega
  have e3 : x3 = ((n + n' : Nat) : Int) := by show IntKind.i64.wrap (x1 + (n' : Int)) = _; rw [e1, IntKind.wrap_i64]; omega
  have e6 : x6 = ((n + n' : Nat) : Int) := by show IntKind.i64.wrap (x3 - 0) = _; rw [e3, IntKind.wrap_i64]; omega
  have e6' : x6.toNat = n + n' := by rw [e6]; exact Int.toNat_natCast _
  have e7 : x7 = n := Nat.zero_add n
  have e8 : x8 = n := by show x7 * 1 = _; rw [e7, Nat.mul_one]
  have e9 : x9 = n + n' := by show x7 + n' = _; rw [e7]
  have e10 : x10 = n + n' := rfl
  have e11 : x11 = n := Nat.mul_one n
  have h5 : x4 → False := fun h => by
    have h : decide (x3 < 0) = true := h
    rw [e3, decide_eq_true_eq] at h; omega
  clear_value x1 x3 x6 x7 x8 x9 x10 x11
  refine ⟨by omega, fun h => ?_, fun _ => ⟨by omega, fun h => (h5 h).elim, fun _ => ⟨fun h => (h5 h).elim, fun _ => ⟨fun h => ?_, fun h => ?_⟩⟩⟩⟩
  · rw [e1, decide_eq_true_eq] at h; omega
  · rw [decide_eq_true_eq] at h
    refine ⟨by omega, ?_⟩
    intro c x101 hc
    have c1 : capA (SA.sc (SC.slw 0 1 0 0 (x6.toNat + c))) = n + n' + c := by show x6.toNat + c = _; rw [e6']
    have h1 : x101 := by show x7 ≤ capA _; rw [c1]; omega
    rw [c1]
    clear_value x101
    refine ⟨by omega, by omega, rfl, rfl, by omega, ⟨by omega, .inr (.inl h1)⟩, ?_⟩
    intro c1 x102 hc1 hk
    have hk := hk h1
    have c2 : capA (SA.sc (SC.slw 0 1 0 x7 (x7 + c1))) = n + n' + c := hk
    have h2 : x102 := by show x9 ≤ capA _; rw [c2]; omega
    rw [c2]
    clear_value x102
    refine ⟨by omega, rfl, rfl, by omega, ⟨by omega, .inr (.inl h2)⟩, fun c2 hc2 _ => ⟨by omega, by omega, by omega, fun i hi => ?_⟩⟩
    subst e7
    rw [Nat.zero_add, Nat.sub_zero]
    exact cat_at i
  · rw [decide_eq_false_iff_not] at h
    have hz : n = 0 := by omega
    have hz' : n' = 0 := by omega
    exact ⟨by omega, ⟨by omega, .inl (by omega)⟩, fun _ => ⟨by omega, ⟨by omega, .inl (by omega)⟩, fun _ => by omega, fun h => absurd hz' h⟩, fun h => absurd hz h⟩
theorem okx_Cw : CxOK Try.prog cxCw := okx_mark (okx_mark (okx_mark (okx_mark (okx_mark (okx_mark (okx_mark okx_nil))))))
theorem card_cw {gl : Globs} : FnOKs Try.prog gl 16 cCw := by
  refine FnOKs.up0 (FnOKs_R0 (cx := cxCw) okx_Cw (sl := []) oks_nil Try.func16 (by kernel_rfl) (by kernel_rfl) fun ls hc => ?_) gl
  unfold cwC at hc
  split at hc
  · rename_i b n m f
    obtain ⟨hn, ⟨a0, n0, cap0, g0, t0, e0⟩, ⟨a1, n1, cap1, g1, t1, e1⟩, hl, _⟩ := hc
    subst hn
    rw [t0, t1] at hl
    refine ⟨[], 10, [.sc (.xs b 2 m 1 (twB a0 n0 cap0 (bOf g0) a1 n1 cap1 (bOf g1)))], fun ρ => rfl, fun E hE y hy => ?_, fun r hr => ?_, ?_⟩
    · rw [List.mem_singleton.1 hy]
      have hb : (SC.xs b 2 m 1 f).bnd E := hE _ (List.mem_cons_self ..)
      obtain ⟨b1, b2, b3⟩ := hb
      refine ⟨b1, b2, fun bb hbb => ⟨(b3 bb hbb).1, fun i hi c hc => ?_⟩⟩
      have hq := (b3 bb hbb).2 i hi c hc
      have hc0 : c = 0 := by omega
      subst hc0
      rcases (by omega : i = 0 ∨ i = 1) with rfl | rfl
      · rw [t0, e0] at hq
        exact ⟨hq.1, rfl, hq.2.2⟩
      · rw [t1, e1] at hq
        exact ⟨hq.1, rfl, hq.2.2⟩
    · rw [List.mem_singleton.1 hr]
      exact trivial
    · have := ok_cw b a0 a1 m n0 cap0 n1 cap1 (bOf g0) (bOf g1) hl
      have e : ccG [[.x b 2 m f]] = [.s (n0 + n1) .u8 (catB n0 (bOf g0) (bOf g1))] := by
        unfold ccG
        simp only [t0, t1, xN, xG]
      rw [e]
      exact this
  · exact hc.1.elim
theorem crE_bad {k : Int} {m : Nat} (h : k < 0 ∨ (m : Int) < k) : crE k m = 6 := if_pos h
theorem crE_good {k : Int} {m : Nat} (h : ¬ (k < 0 ∨ (m : Int) < k)) : crE k m = 0 := if_neg h
theorem st2_closed {n m : Nat} {F G : Nat → Int} {x : SA} (hx : x.bnd none0) : ∀ r ∈ [RS.st [.s n 1 (byF F), .s m 1 (byF G)], .v x], r.closed := by
  intro r hr
  simp only [List.mem_cons, List.not_mem_nil, or_false] at hr
  rcases hr with rfl | rfl
  · intro x hx
    simp only [List.mem_cons, List.not_mem_nil, or_false] at hx
    rcases hx with rfl | rfl
    · exact fun _ _ _ _ => ⟨trivial, rfl⟩
    · exact fun _ _ _ _ => ⟨trivial, rfl⟩
  · exact hx
theorem ok_cr (a : Option Addr) (n cap : Nat) (F : Nat → Int) (b : Option Addr) (m cb : Nat) (G : Nat → Int) (k : Int) (hF : bW n (byF F)) (hG : bW m (byF G)) :
    OwesR Try.prog cxLA slCw [] 10 Try.f6 [sLg a n cap F b m cb G, sI .i64 k] true (crR n F m G k) := by
  rw [vc_cr]
  intro x1 x2 x3 x4 x5 x6 _
  have e3 : x3 = zl (crE k m) (n + k.toNat) := rfl
  have h4 : x4 := ⟨rfl, trivial⟩
  have e5 : x5 = n := rfl
  have e6 : x6 = n + k.toNat := rfl
  have ex : x1 = false → x2 := fun h => by show (!x1) = true; rw [h]; rfl
  have e1 : x1 = decide (k < 0) := rfl
  have l1 := hF.bl
  have l2 := hG.bl
  have fin : ∀ i, simC (SC.val (.int .u8 (catB x5 (bOf (byF F)) (bOf (byF G)) i))) (byF (catB n F G) i 0) := fun i => rfl
  clear_value x1 x2 x3 x4
  refine ⟨id, id, id, id, ex, fun h => ?_, fun h => ?_⟩
  · have hb : k < 0 ∨ (m : Int) < k := by
      rw [e1] at h
      rcases Bool.or_eq_true_iff.1 h with h | h
      · exact .inl (of_decide_eq_true h)
      · exact .inr (of_decide_eq_true h)
    rw [crE_bad hb] at e3 ⊢
    exact ⟨⟨e3.trans (if_neg (by decide)), h4⟩, rfl⟩
  · rw [e1] at h
    obtain ⟨h1, h2⟩ := Bool.or_eq_false_iff.1 h
    have h1 := of_decide_eq_false h1
    have h2 := of_decide_eq_false h2
    have hg : crE k m = 0 := crE_good (by omega)
    rw [hg] at e3 ⊢
    have e3 : x3 = n + k.toNat := e3
    refine ⟨⟨by omega, by omega⟩, Nat.le_refl _, fun _ => ⟨rfl, ⟨a, n, cap, byF F, rfl, rfl⟩, ⟨b, k.toNat, cb, byF G, rfl, rfl⟩, by omega, fun _ _ _ _ => ⟨⟨⟨by omega, fun i _ => fin i⟩, h4⟩, rfl⟩⟩⟩
theorem card_cr {gl : Globs} : FnOKs Try.prog gl 6 cCr := by
  refine FnOKs.up0 (FnOKs_R0 (cx := cxLA) okx_LA (sl := slCw) (oks_cons card_cw oks_nil) Try.func6 (by kernel_rfl) (by kernel_rfl) fun ls hc => ?_) gl
  unfold crC at hc
  split at hc
  · rename_i a n cap f b m cb g k
    obtain ⟨pf, pg, _⟩ := hc
    refine ⟨_, 10, [sLg a n cap (bOf f) b m cb (bOf g), sI .i64 k], fun ρ => rfl, fun E hE y hy => ?_, st2_closed trivial, ok_cr a n cap (bOf f) b m cb (bOf g) k ⟨rfl, pf.bb, pf.bl⟩ ⟨rfl, pg.bb, pg.bl⟩⟩
    simp only [List.mem_cons, List.not_mem_nil, or_false] at hy
    rcases hy with rfl | rfl
    · exact bnd_lg pf.bf pg.bf (hE _ (List.mem_cons_self ..))
    · exact trivial
  · exact hc.1.elim
theorem sy_closed {n m : Nat} {F G : Nat → Int} : ∀ r ∈ syR n F m G, r.closed := by
  intro r hr
  unfold syR at hr
  exact st2_closed (x := sB true) trivial r (List.mem_cons.2 (.inl (List.mem_singleton.1 hr)))
theorem ok_sy (a : Option Addr) (n cap : Nat) (F : Nat → Int) (b : Option Addr) (m cb : Nat) (G : Nat → Int) (hF : bW n (byF F)) (hG : bW m (byF G)) :
    OwesR Try.prog cxLA slCw [] 10 Try.f15 [sLg a n cap F b m cb G] true (syR n F m G) := by
  rw [vc_sy]
  intro x1 x2 x3 _
  have l1 := hF.bl
  have l2 := hG.bl
  have e2 : x2 = n + m := rfl
  have e3 : x3 = n + m := rfl
  have fin : ∀ i, simC (SC.val (.int .u8 (catB x1 (bOf (byF F)) (bOf (byF G)) i))) (byF (catB n F G) i 0) := fun i => rfl
  exact ⟨Nat.le_refl _, fun _ => ⟨rfl, ⟨a, n, cap, byF F, rfl, rfl⟩, ⟨b, m, cb, byF G, rfl, rfl⟩, by omega, fun _ _ _ _ => ⟨⟨rfl, fun i _ => fin i⟩, rfl, trivial⟩⟩⟩
theorem card_sy {gl : Globs} : FnOKs Try.prog gl 15 cSy := by
  refine FnOKs.up0 (FnOKs_R0 (cx := cxLA) okx_LA (sl := slCw) (oks_cons card_cw oks_nil) Try.func15 (by kernel_rfl) (by kernel_rfl) fun ls hc => ?_) gl
  unfold syC at hc
  split at hc
  · rename_i a n cap f b m cb g
    obtain ⟨pf, pg, _⟩ := hc
    refine ⟨_, 10, [sLg a n cap (bOf f) b m cb (bOf g)], fun ρ => rfl, fun E hE y hy => ?_, sy_closed, ok_sy a n cap (bOf f) b m cb (bOf g) ⟨rfl, pf.bb, pf.bl⟩ ⟨rfl, pg.bb, pg.bl⟩⟩
    rw [List.mem_singleton.1 hy]
    exact bnd_lg pf.bf pg.bf (hE _ (List.mem_cons_self ..))
  · exact hc.1.elim
end Go.Proofs.Ytehphcdlcakcaaa
end

section
namespace Go.Proofs.Ytehphcdlcakcaaa
open Go Go.Sx
set_option maxRecDepth 100000
theorem whR_closed {B : Nat → Int} {n : Nat} : ∀ r ∈ whR B n, r.closed := by
  intro r hr
  unfold whR at hr
  simp only [List.mem_cons, List.not_mem_nil, or_false] at hr
  rcases hr with rfl | rfl
  · exact fun _ => trivial
  · exact trivial
theorem okx_Wh : CxOK Try.prog cxWh := okx_mark (okx_mark (okx_mark (okx_mark (okx_mark okx_nil))))
theorem card_wh {gl : Globs} : FnOKs Try.prog gl 17 cWh := by
  refine FnOKs.up0 (FnOKs_R0 (cx := cxWh) okx_Wh (sl := slWh) (oks_cons card_le (oks_cons card_fi oks_nil)) Try.func17 (by kernel_rfl) (by kernel_rfl) fun ls hc => ?_) gl
  unfold whC at hc
  split at hc
  · rename_i a n cap f
    obtain ⟨p, hcap, _⟩ := hc
    refine ⟨_, 4, [xsI a n cap .u8 (bOf f)], fun ρ => rfl, fun E hE y hy => ?_, whR_closed, ok_wh a n cap (bOf f) p.bb p.bl hcap⟩
    rw [List.mem_singleton.1 hy]
    exact bnd_by p.bf (hE _ (List.mem_cons_self ..))
  · exact hc.1.elim
theorem ok_op (a : Option Addr) (n cap : Nat) (F : Nat → Int) (b : Option Addr) (m cb : Nat) (G : Nat → Int) (hF : bP n (byF F)) (hG : bP m (byF G)) (hnm : n + m ≤ 16777216) :
    OwesR Try.prog cxLA slOp [] 10 Try.f8 [sLg a n cap F b m cb G] true (whR (catB n F G) (n + m)) := by
  rw [vc_op]
  refine fun _ => ⟨Nat.le_refl _, fun _ => ⟨rfl, ⟨a, n, cap, byF F, rfl, hF⟩, ⟨b, m, cb, byF G, rfl, hG⟩, fun a3 c1 hz hc => ⟨⟨rfl, catB_in hF.bb hG.bb, hnm⟩, hc, fun ac _ a7 c2 hz2 hc2 => ⟨⟨ac, trivial, rfl, fun i _ => ?_⟩, rfl⟩⟩⟩⟩
  exact wh_self (catB n F G) (fun j => ac [j]) (fun j => ac [j]) i i 0 rfl rfl
theorem card_op {gl : Globs} : FnOKs Try.prog gl 8 cOp := by
  refine FnOKs.up0 (FnOKs_R0 (cx := cxLA) okx_LA (sl := slOp) (oks_cons card_cc (oks_cons card_wh oks_nil)) Try.func8 (by kernel_rfl) (by kernel_rfl) fun ls hc => ?_) gl
  unfold opC at hc
  split at hc
  · rename_i a n cap f b m cb g
    obtain ⟨pf, pg, hnm, _, _, _, _, _⟩ := hc
    refine ⟨_, 10, [sLg a n cap (bOf f) b m cb (bOf g)], fun ρ => rfl, fun E hE y hy => ?_, whR_closed, ok_op a n cap (bOf f) b m cb (bOf g) ⟨rfl, pf.bb, pf.bl⟩ ⟨rfl, pg.bb, pg.bl⟩ hnm⟩
    rw [List.mem_singleton.1 hy]
    exact bnd_lg pf.bf pg.bf (hE _ (List.mem_cons_self ..))
  · exact hc.1.elim
theorem mdE_pos {m : Nat} (h : 0 < m) : mdE m = 12 := if_pos h
theorem mdE_nil {m : Nat} (h : m = 0) : mdE m = 0 := by subst h; rfl
theorem whN_le (B : Nat → Int) (n : Nat) : posW B (whN B n) ≤ n := (posW_le _ (whN_good B n)).2
theorem ok_md (a : Option Addr) (n cap : Nat) (F : Nat → Int) (b : Option Addr) (m cb : Nat) (G : Nat → Int) (hF : bP n (byF F)) (hcap : n ≤ cap) (hz : a = none → n = 0) :
    OwesR Try.prog cxLA slMd [] 10 Try.f11 [sLg a n cap F b m cb G] true (mdR n F m) := by
  rw [vc_md]
  intro x1 x2 x3 x4 _
  have e2 : x2 = (posW F (whN F n) : Int) := rfl
  have e3 : x3 = posW F (whN F n) := Int.toNat_natCast _
  have h1 : x1 := ⟨rfl, trivial⟩
  have hle := whN_le F n
  have hbl := hF.bl
  have e4 : x4 = (x3 = 0) := rfl
  clear_value x1 x2 x3 x4
  refine ⟨fun h => ?_, fun h => ⟨hF, hcap, fun _ _ _ _ _ _ => ⟨⟨by omega, by omega⟩, ⟨rfl, fun i hi => hF.bb i (by omega), by omega⟩, fun h => ?_, fun _ _ _ _ => ?_⟩⟩⟩
  · have h := of_decide_eq_true h
    rw [mdE_pos (by omega)]
    exact ⟨⟨rfl, h1⟩, rfl⟩
  · rw [e4]
    have := hz h
    omega
  · have h := of_decide_eq_false h
    rw [mdE_nil (by omega)]
    refine ⟨⟨⟨by rw [e3]; rfl, fun i _ => rfl⟩, h1⟩, rfl⟩
theorem mdR_closed {F : Nat → Int} {n m : Nat} : ∀ r ∈ mdR n F m, r.closed := by
  intro r hr
  unfold mdR at hr
  simp only [List.mem_cons, List.not_mem_nil, or_false] at hr
  rcases hr with rfl | rfl
  · intro x hx
    simp only [List.mem_cons, List.not_mem_nil, or_false] at hx
    rcases hx with rfl | rfl
    · exact fun _ _ _ _ => ⟨trivial, rfl⟩
    · exact fun _ _ _ _ => ⟨trivial, rfl⟩
  · exact trivial
theorem card_md {gl : Globs} : FnOKs Try.prog gl 11 cMd := by
  refine FnOKs.up0 (FnOKs_R0 (cx := cxLA) okx_LA (sl := slMd) (oks_cons card_cl (oks_cons card_wh oks_nil)) Try.func11 (by kernel_rfl) (by kernel_rfl) fun ls hc => ?_) gl
  unfold opC at hc
  split at hc
  · rename_i a n cap f b m cb g
    obtain ⟨pf, pg, hnm, hcap, _, hz, _, _⟩ := hc
    refine ⟨_, 10, [sLg a n cap (bOf f) b m cb (bOf g)], fun ρ => rfl, fun E hE y hy => ?_, mdR_closed, ok_md a n cap (bOf f) b m cb (bOf g) ⟨rfl, pf.bb, pf.bl⟩ hcap hz⟩
    rw [List.mem_singleton.1 hy]
    exact bnd_lg pf.bf pg.bf (hE _ (List.mem_cons_self ..))
  · exact hc.1.elim
theorem catB_nil {n : Nat} {F G : Nat → Int} : ∀ i, i < n → catB n F G i = F i := fun _ hi => if_pos hi
theorem good_congr {B C : Nat → Int} {n p : Nat} (h : ∀ i, i < n → B i = C i) : good B n p ↔ good C n p := by
  have one : ∀ {B C : Nat → Int}, (∀ i, i < n → B i = C i) → good B n p → good C n p := fun {B C} h g => by
    obtain ⟨g1, g2, g3, g4⟩ := g
    have e : ln B p = ln C p := by unfold ln; rw [h _ (by omega), h _ (by omega)]
    rw [e] at g2 g3 g4
    refine ⟨g1, g2, g3, ?_⟩
    rw [← h _ (by omega), ← g4]
    congr 1
    exact smB_congr _ fun j hj => (h (p + 2 + (0 + j)) (by omega)).symm
  exact ⟨one h, one fun i hi => (h i hi).symm⟩
theorem posW_congr {B C : Nat → Int} {n : Nat} (h : ∀ i, i < n → B i = C i) : ∀ k, (∀ j, j < k → good B n (posW B j)) → posW B k = posW C k
  | 0, _ => rfl
  | k + 1, g => by
    have ih := posW_congr h k fun j hj => g j (by omega)
    have g1 := (g k (by omega)).g1
    unfold posW
    rw [ih]
    rw [ih] at g1
    unfold ln
    rw [h _ (by omega), h _ (by omega)]
theorem cntW_end (B : Nat → Int) (n : Nat) : ∀ (f i : Nat), (∀ j, j < i → good B n (posW B j)) → n ≤ i + f → ¬ good B n (posW B (cntW B n f i))
  | 0, i, h, hf, g => by
    unfold cntW at g
    have := (posW_le i h).1
    have := g.g1
    omega
  | f + 1, i, h, hf, g => by
    unfold cntW at g
    by_cases e : good B n (posW B i)
    · rw [if_pos e] at g
      exact cntW_end B n f (i + 1) (fun k hk => by
        rcases Nat.lt_or_ge k i with q | q
        · exact h k q
        · rw [show k = i by omega]; exact e) (by omega) g
    · rw [if_neg e] at g
      exact e g
theorem whN_end (B : Nat → Int) (n : Nat) : ¬ good B n (posW B (whN B n)) := cntW_end B n n 0 (fun _ h => absurd h (Nat.not_lt_zero _)) (by omega)
theorem whN_congr {B C : Nat → Int} {n : Nat} (h : ∀ i, i < n → B i = C i) : whN B n = whN C n := by
  have hg := whN_good B n
  have key : ∀ k, k ≤ whN B n → posW B k = posW C k := fun k hk => posW_congr h k fun j hj => hg j (by omega)
  refine (whN_eq (fun j hj => ?_) fun g => ?_).symm
  · rw [← key j (by omega)]; exact (good_congr h).1 (hg j hj)
  · rw [← key _ (Nat.le_refl _)] at g
    exact whN_end B n ((good_congr h).2 g)
end Go.Proofs.Ytehphcdlcakcaaa
end

section
namespace Go.Proofs.Ytehphcdlcakcaaa
open Go.Sx
set_option maxRecDepth 100000
def rwF (A : Nat → Option Addr) (N C : Nat → Nat) (X : Nat → Nat → Int) (i _ : Nat) : SC := .xs (A i) (N i) (C i) 1 (byF (X i))
structure liP (n m : Nat) (f g : Nat → Nat → SC) : Prop where
  ln : n = m
  lf : ∃ A N C X A' C' X', (∀ i, i < n → f i 0 = rwF A N C X i 0) ∧ (∀ i, i < n → g i 0 = rwF A' N C' X' i 0) ∧ ∀ i, i < n → ∀ k, k < N i → X i k = X' i k
  lb : n ≤ 16777216
def liC : List (List FD) → List Prop
  | [[.x _ n _ f], [.x _ m _ g]] => [liP n m f g]
  | _ => [False]
def cLi : SSpec := specQ0 false [.one (.x 1), .one (.x 1)] liC byG
def liI (a : Option Addr) (n cap : Nat) (b : Option Addr) (cb : Nat) (A : Nat → Option Addr) (N C : Nat → Nat) (X : Nat → Nat → Int) (A' : Nat → Option Addr) (C' : Nat → Nat) (X' : Nat → Nat → Int) : Inv where
  X := Nat
  tm i := slotsAt 28 [(0, .one (.sc (.xs a n cap 1 (rwF A N C X)))), (1, .one (.sc (.xs b n cb 1 (rwF A' N C' X')))), (12, .one (sI .i64 (n : Int))), (13, .one (sI .i64 (i : Int)))]
  ob _ := []
  holds i := i ≤ n
  less i := n - i
def cxLi : Cx := ⟨[(1000000012, fun _ => none), (1000000013, fun _ => none), (1000000014, fun _ => none)], [], 0, []⟩
end Go.Proofs.Ytehphcdlcakcaaa
end

section
namespace Go.Proofs.Ytehphcdlcakcaaa
open Go Go.Sx
set_option maxRecDepth 100000
theorem li_sim (a : Option Addr) (n cap : Nat) (A : Nat → Option Addr) (N C : Nat → Nat) (X : Nat → Nat → Int) : simC (SC.xs a n cap 1 (rwF A N C X)) (SC.xs a n cap 1 (rwF A N C X)) :=
  ⟨rfl, rfl, rfl, fun _ _ => ⟨rfl, rfl, rfl, fun _ _ => rfl⟩⟩
theorem li_bnd {a : Option Addr} {n cap : Nat} {f g : Nat → Nat → SC} {E : Env} (h : ∀ i, i < n → f i 0 = g i 0) (hb : (SA.sc (.xs a n cap 1 f)).bnd E) : (SA.sc (.xs a n cap 1 g)).bnd E := by
  obtain ⟨b1, b2, b3⟩ : (SC.xs a n cap 1 f).bnd E := hb
  refine ⟨b1, b2, fun bb hbb => ⟨(b3 bb hbb).1, fun i hi c hc => ?_⟩⟩
  obtain rfl : c = 0 := by omega
  have := (b3 bb hbb).2 i hi 0 hc
  rw [h i hi] at this
  exact this
theorem okx_Li : CxOK Try.prog cxLi := okx_mark (okx_mark (okx_mark okx_nil))
end Go.Proofs.Ytehphcdlcakcaaa
end
