/-
  Texts: P317, Open, Lo.
-/
import Derived.Test.YtbedejilhhedlaaDoorM1
import Derived.Test.YtbedejilhhedlaaDoorM2
import Derived.Test.YtbedejilhhedlaaDoorM3
import Derived.Test.YtbedejilhhedlaaDoorM4
import Derived.Test.YtbedejilhhedlaaDoorM5
import Derived.Test.YtbedejilhhedlaaDoorM6
import Derived.Test.YtbedejilhhedlaaDoorM7
import Derived.Test.YtbedejilhhedlaaDoorM8
import Derived.Test.YtbedejilhhedlaaDoorM9
import Derived.Test.YtbedejilhhedlaaDoorM10
import Derived.Test.YtbedejilhhedlaaDoorRows
section
namespace Go.Proofs.YtbedejilhhedlaaDoor
open Go Go.Sx Go.RowKit
set_option maxRecDepth 100000
theorem pg_or (x y i : Nat) : IntKind.u64.wrap ((BitVec.ofInt 64 (limb x i) ||| BitVec.ofInt 64 (limb y i)).toNat : Int) = limb (x ||| y) i := by
  have h1 : x / 2 ^ (64 * i) % 2 ^ 64 < 2 ^ 64 := Nat.mod_lt _ (Nat.two_pow_pos 64)
  have h2 : y / 2 ^ (64 * i) % 2 ^ 64 < 2 ^ 64 := Nat.mod_lt _ (Nat.two_pow_pos 64)
  have e : (BitVec.ofInt 64 (limb x i) ||| BitVec.ofInt 64 (limb y i)).toNat = (x ||| y) / 2 ^ (64 * i) % 2 ^ 64 := by
    unfold limb
    rw [BitVec.toNat_or, BitVec.ofInt_natCast, BitVec.ofInt_natCast, BitVec.toNat_ofNat, BitVec.toNat_ofNat, Nat.mod_eq_of_lt h1, Nat.mod_eq_of_lt h2]
    apply Nat.eq_of_testBit_eq
    intro j
    rw [Nat.testBit_or, pg_part, pg_part, pg_part, Nat.testBit_or]
    cases decide (j < 64) <;> cases x.testBit (64 * i + j) <;> cases y.testBit (64 * i + j) <;> rfl
  rw [e]
  unfold limb
  have : (x ||| y) / 2 ^ (64 * i) % 2 ^ 64 < 2 ^ 64 := Nat.mod_lt _ (Nat.two_pow_pos 64)
  rw [IntKind.wrap_u64]; omega
theorem ok_bo (x y : Nat) : OwesR Tryd.prog Cx.none [] [] 10 Tryd.f5 [sU x, sU y] false [.v (sU (x ||| y))] := by
  rw [vc_bo, pg_or, pg_or, pg_or, pg_or]
  exact ⟨lim_ok _ _, lim_ok _ _, lim_ok _ _, lim_ok _ _, by rw [join_limbs, Nat.mod_mod], trivial⟩
theorem card_bo {gl : Globs} : FnOKs Tryd.prog gl 5 cBo := by
  refine FnOKs.up0 (FnOKs_R0 (cx := Cx.none) okx_nil (sl := []) oks_nil Tryd.func5 (by kernel_rfl) (by kernel_rfl) fun ls hc => ?_) gl
  unfold boC at hc
  split at hc
  · rename_i x y
    refine ⟨_, 10, [sU x, sU y], fun _ => rfl, fun E hE => hE, fun r hr => ?_, ok_bo x y⟩
    unfold boG at hr
    rw [List.mem_singleton.1 hr]; exact bnd_pg _
  · exact hc.1.elim
def unP (x y i z : Nat) : Prop := ∀ k, k < 256 → (z.testBit k = true ↔ x.testBit k = true ∨ ∃ j, j < i ∧ maF y j = k)
theorem maF_in {y j : Nat} (hj : j < maN y) : ∃ k : Nat, k < 256 ∧ maF y j = (k : Int) := by
  unfold maN at hj
  refine ⟨(maL y 256)[j], ?_, ?_⟩
  · have : (maL y 256)[j] ∈ maL y 256 := List.getElem_mem hj
    have h2 : (maL y 256)[j] ∈ List.range 256 := (List.mem_filter.1 this).1
    exact List.mem_range.1 h2
  · unfold maF
    rw [List.getD_eq_getElem?_getD, List.getElem?_eq_getElem hj, Option.getD_some]
theorem ok_un (x y : Nat) : OwesR Tryd.prog cxUn slUn [(2, .inv (unI y (maN y) (maF y) (unP x y)))] 10 Tryd.f7 [sU x, sU y] false [.v (sU (x ||| y))] := by
  rw [vc_un x y _ 0 (fun _ => 0)]
  intro x1 a cap ha hcap
  have h1 : x1 := fun i _ => rfl
  clear_value x1
  refine ⟨fun _ => rfl, (0, x, a, cap), ⟨Nat.zero_le _, fun k hk => ⟨fun h => .inl h, fun h => h.elim id fun ⟨j, hj, _⟩ => absurd hj (Nat.not_lt_zero j)⟩⟩, ⟨rfl, rfl, rfl, h1⟩, rfl, rfl, rfl, rfl, ⟨rfl, trivial⟩, rfl, fun u hu => ?_⟩
  obtain ⟨i, z, b, c⟩ := u
  obtain ⟨g1, g2⟩ := hu
  have g1 : i ≤ maN y := g1
  have g2 : unP x y i z := g2
  refine ⟨fun hd => ?_, fun hd => ?_⟩
  · have hd : (i : Int) < (maN y : Int) := of_decide_eq_true hd
    have hi : i < maN y := by omega
    obtain ⟨k, hk, hf⟩ := maF_in hi
    have hw : IntKind.i64.wrap ((i : Int) + 1) = ((i + 1 : Nat) : Int) := by
      have : maN y ≤ 256 := ma_le y 256
      rw [IntKind.wrap_i64]; omega
    have hB : haB z (maF y i) = z.testBit k := by
      rw [hf]; unfold haB; rw [in_iff.2 ⟨by omega, by omega⟩, Bool.true_and, Int.toNat_natCast]
    have next : ∀ z', (∀ q, q < 256 → (z'.testBit q = true ↔ z.testBit q = true ∨ q = k)) → unP x y (i + 1) z' := fun z' hz q hq => by
      rw [hz q hq, g2 q hq]
      constructor
      · rintro ((h | ⟨j, hj, e⟩) | rfl)
        · exact .inl h
        · exact .inr ⟨j, by omega, e⟩
        · exact .inr ⟨i, by omega, hf⟩
      · rintro (h | ⟨j, hj, e⟩)
        · exact .inl (.inl h)
        · rcases Nat.lt_or_ge j i with h | h
          · exact .inl (.inr ⟨j, h, e⟩)
          · have : j = i := by omega
            subst this
            rw [hf] at e
            exact .inr (by omega)
    refine ⟨⟨by show (0 : Int) ≤ (i : Int); omega, hd⟩, fun hb => ?_, fun hb => ?_⟩
    · have hb : (!haB z (maF y i)) = true := hb
      rw [hB, Bool.not_eq_true'] at hb
      refine ⟨(i + 1, z ||| 2 ^ k, b, c), ⟨by show i + 1 ≤ maN y; omega, next _ fun q hq => ?_⟩, ⟨rfl, rfl, rfl, h1⟩, rfl, hw, ?_, rfl, rfl, rfl, by show maN y - (i + 1) < maN y - i; omega⟩
      · rw [Nat.testBit_or, Nat.testBit_two_pow, Bool.or_eq_true, decide_eq_true_eq]
        exact ⟨fun h => h.imp id fun e => e.symm, fun h => h.imp id fun e => e.symm⟩
      · show mkP z (maF y i) % M256 = (z ||| 2 ^ k) % M256
        rw [hf]; unfold mkP
        rw [in_iff.2 ⟨by omega, by omega⟩, Int.toNat_natCast, hb]; rfl
    · have hb : (!haB z (maF y i)) = false := hb
      rw [hB, Bool.not_eq_false'] at hb
      refine ⟨(i + 1, z, b, c), ⟨by show i + 1 ≤ maN y; omega, next _ fun q hq => ⟨fun h => .inl h, fun h => h.elim id fun e => by rw [e]; exact hb⟩⟩, ⟨rfl, rfl, rfl, h1⟩, rfl, hw, rfl, rfl, rfl, rfl, by show maN y - (i + 1) < maN y - i; omega⟩
  · have hd : ¬ (i : Int) < (maN y : Int) := of_decide_eq_false hd
    have hi : i = maN y := by omega
    subst hi
    refine ⟨?_, trivial⟩
    show z % M256 = (x ||| y) % M256
    apply Nat.eq_of_testBit_eq
    intro q
    unfold M256
    rw [Nat.testBit_mod_two_pow, Nat.testBit_mod_two_pow]
    by_cases hq : q < 256
    · rw [decide_eq_true hq, Bool.true_and, Bool.true_and, Bool.eq_iff_iff, g2 q hq, ma_mem hq, Nat.testBit_or, Bool.or_eq_true]
    · rw [decide_eq_false hq, Bool.false_and, Bool.false_and]
theorem oks_Un : ∀ p ∈ slUn, FnOKs Tryd.prog cxUn.gl p.1 p.2 := oks_cons card_ma (oks_cons card_rmd (oks_cons card_rmt oks_nil))
theorem card_un {gl : Globs} : FnOKs Tryd.prog gl 7 cBo := by
  refine FnOKs.up0 (FnOKs_R0 (cx := cxUn) (okx_mark okx_nil) (sl := slUn) oks_Un Tryd.func7 (by kernel_rfl) (by kernel_rfl) fun ls hc => ?_) gl
  unfold boC at hc
  split at hc
  · rename_i x y
    refine ⟨_, 10, [sU x, sU y], fun _ => rfl, fun E hE => hE, fun r hr => ?_, ok_un x y⟩
    unfold boG at hr
    rw [List.mem_singleton.1 hr]; exact bnd_pg _
  · exact hc.1.elim
theorem si_bnd {E : Env} {a : Option Addr} {n cap : Nat} {f : Nat → Nat → SC} (h : f = i64F (iOf f)) (hb : (SA.sc (.xs a n cap 1 f)).bnd E) : (xsI a n cap .i64 (iOf f)).bnd E := by
  rw [h] at hb; exact hb
theorem ok_si (a : Option Addr) (n cap : Nat) (b : Option Addr) (cb : Nat) (f g : Nat → Int) (h : ∀ i, i < n → f i = g i) (hn : n ≤ 256) : OwesR Tryd.prog cxSi [] [(4, .inv (siI a n cap b cb f g))] 10 Tryd.f8 [xsI a n cap .i64 f, xsI b n cb .i64 g] false [.v (sB true)] := by
  rw [vc_si]
  have sim : ∀ (a : Option Addr) (cap : Nat) (f : Nat → Int), simC (SC.xs a n cap 1 fun (i _ : Nat) => .val (.int .i64 (f i))) (SC.xs a n cap 1 fun (i _ : Nat) => .val (.int .i64 (f i))) := fun _ _ _ => ⟨rfl, rfl, rfl, fun _ _ => rfl⟩
  refine ⟨fun hx => absurd rfl (bne_iff_ne.1 hx), fun _ => ⟨fun _ => rfl, 0, Nat.zero_le _, sim _ _ _, sim _ _ _, rfl, rfl, fun y hy => ⟨fun hd => ?_, fun _ => rfl⟩⟩⟩
  have hd := of_decide_eq_true hd
  have hlt : y < n := by omega
  refine ⟨⟨by omega, hd⟩, ⟨by omega, hd⟩, fun hx => ?_, fun _ => ⟨y + 1, by omega, sim _ _ _, sim _ _ _, rfl, ?_, by show n - (y + 1) < n - y; omega⟩⟩
  · rw [Int.toNat_natCast] at hx
    exact absurd (h y hlt) (bne_iff_ne.1 hx)
  · rw [IntKind.wrap_i64]; omega
theorem card_si {gl : Globs} : FnOKs Tryd.prog gl 8 cSi := by
  refine FnOKs.up0 (FnOKs_R0 (cx := cxSi) (okx_mark okx_nil) (sl := []) oks_nil Tryd.func8 (by kernel_rfl) (by kernel_rfl) fun ls hc => ?_) gl
  unfold siC at hc
  split at hc
  · rename_i a n cap f b m cb g
    obtain ⟨p, _⟩ := hc
    obtain ⟨s1, s2, s3, s4, s5⟩ := p
    subst s3
    refine ⟨_, 10, [xsI a n cap .i64 (iOf f), xsI b n cb .i64 (iOf g)], fun _ => rfl, fun E hE => ?_, fun r hr => ?_, ok_si a n cap b cb (iOf f) (iOf g) s4 s5⟩
    · intro z hz
      simp only [List.mem_cons, List.not_mem_nil, or_false] at hz
      rcases hz with rfl | rfl
      · exact si_bnd s1 (hE _ (List.mem_cons_self ..))
      · exact si_bnd s2 (hE _ (List.mem_cons_of_mem _ (List.mem_cons_self ..)))
    · unfold siG at hr
      rw [List.mem_singleton.1 hr]; exact trivial
  · exact hc.1.elim
theorem okx_La : CxOK Tryd.prog cxLa := okx_mark (okx_mark (okx_mark (okx_mark (okx_mark okx_nil))))
theorem oks_La : ∀ p ∈ slLa, FnOKs Tryd.prog cxLa.gl p.1 p.2 := oks_cons card_all (oks_cons card_bo (oks_cons card_ma (oks_cons card_un (oks_cons card_si oks_nil))))
theorem okl_SeenAll (x y : Nat) : OwesV Tryd.prog cxLa slLa [] 20 Tryd.f3 [sU x, sU y] yes := by
  rw [vc_lsa]
  intro x1 x2 x3 x4 x5
  have l4 : ∀ z : Nat, (0 ≤ limb z 0 ∧ limb z 0 < 18446744073709551616) ∧ (0 ≤ limb z 1 ∧ limb z 1 < 18446744073709551616) ∧ (0 ≤ limb z 2 ∧ limb z 2 < 18446744073709551616) ∧ (0 ≤ limb z 3 ∧ limb z 3 < 18446744073709551616) := fun z => ⟨lim_ok _ _, lim_ok _ _, lim_ok _ _, lim_ok _ _⟩
  obtain ⟨a0, a1, a2, a3⟩ := l4 x
  obtain ⟨b0, b1, b2, b3⟩ := l4 y
  have h4 : x4 := ⟨a0, a1, a2, a3, b0, b1, b2, b3, ⟨rfl, rfl, rfl, fun _ _ => rfl, ma_le x1 256⟩, id, id, id, by
    show (true && conj [x3 == x3]) = true
    rw [beq_self_eq_true]; rfl⟩
  have h5 : x5 := ⟨a0, a1, a2, a3, b0, b1, b2, b3, ⟨a0, a1, a2, a3, fun _ _ _ _ => ⟨h4, h4⟩⟩, a0, a1, a2, a3, fun _ _ _ _ => h4⟩
  clear_value x4 x5
  exact fun _ _ => ⟨⟨a0, a1, a2, a3, fun _ _ _ _ => ⟨h5, h5⟩⟩, a0, a1, a2, a3, fun _ _ _ _ => h5⟩
end Go.Proofs.YtbedejilhhedlaaDoor
end

section
namespace Go.Sx
open Go.RowKit Go.ChangeShapes Go.WideShapes
section
variable {H : Type} {enc : TypeId × Value → H} {P : Program} {w : World} {base : Nat} {sp : Nat → Bool} {held : Bool}
end
theorem calls_of_owesV {P : Program} {cx : Cx} (hcx : CxOK P cx) {sl : List (Nat × SSpec)} (hsl : ∀ p ∈ sl, FnOKs P cx.gl p.1 p.2) {iv : List (Nat × Hint)} {N : Nat} {f : FuncId} {fn : Func} (hf : P.funcs[f]? = some fn) (hb : fn.body.isSome = true) {args : List SA} {out : SV}
    (h : OwesV P cx sl iv N fn args out) (ρ : Rho) (w : World) (hz : FzOK ρ.fz w) (hg : GlobsOK cx.gl ρ.fz) (hargs : ∀ x ∈ args, x.bnd ⟨fun _ => False, ρ.fz⟩) :
    Calls P f (args.map (SA.conc ρ)).toArray w fun e w' => ∃ v, e = .returned v ∧ (∃ ρ', out.rep ρ' v) ∧ Below w.heap.size w w' := by
  unfold OwesV at h
  refine (calls_of_owesS hcx hsl hf hb h ρ w hz hg hargs).mono ?_
  rintro e w' ⟨v, rfl, hbl, sv, ob', ρ', hp, hr, _⟩
  exact ⟨v, rfl, ⟨ρ', same_sound hp ρ' v hr⟩, hbl⟩
end Go.Sx
end

section
namespace Go.Proofs.YtbedejilhhedlaaDoor
open Go.ChangeShapes Go.WideShapes Go.ChangeAt Go.RowKit Go.Sx
theorem prog_three : Tryd.prog.mayEnter = true ∧ Tryd.prog.liftsFinal = Rows.seenAllRow.lifted ∧ Tryd.prog.make = some Rows.seenAllRow.make := ⟨by kernel_rfl, by kernel_rfl, by kernel_rfl⟩
theorem own_none : ownKnob Tryd.prog.godebug = none := by kernel_rfl
theorem laid_out : laidOutB Tryd.prog = true := by kernel_rfl
theorem pgu_of {v : Value} (ρ : Rho) (hx : ∃ cs : List Value, v = .agg cs.toArray ∧ fitsL [.int .u64, .int .u64, .int .u64, .int .u64] cs) : ∃ n, v = (sU n).conc ρ := by
  obtain ⟨cs, rfl, hf⟩ := hx
  match cs, hf with
  | [.int k1 a1, .int k2 a2, .int k3 a3, .int k4 a4], hf =>
    obtain ⟨⟨rfl, w1⟩, ⟨rfl, w2⟩, ⟨rfl, w3⟩, ⟨rfl, w4⟩, _⟩ := hf
    have b : ∀ {n : Int}, (Lit.int .u64 n).wf = true → 0 ≤ n ∧ n < 2 ^ 64 := by
      intro n h
      simp [Lit.wf, IntKind.min, IntKind.max, IntKind.signed, IntKind.bits] at h
      omega
    refine ⟨join a1 a2 a3 a4, ?_⟩
    have := U_join (b w1) (b w2) (b w3) (b w4)
    exact this.symm
theorem open_pg {H : Type} {enc : TypeId × Value → H} {W : World} {base b0 : Nat} {sp : Nat → Bool} {held : Bool} {v : Value} {d : DataW H} {ps : List MemPlace} (ρ : Rho)
    (hval : Unit → Value.okWide Tryd.prog W .any b0 24 v) (h : Unit → DataW.Trod enc Tryd.prog W base sp held 24 v d ps) : ∃ n, v = (sU n).conc ρ := by
  have hl : lks Tryd.prog 3 24 = some [.int .u64, .int .u64, .int .u64, .int .u64] := by kernel_rfl
  have hx : ∃ cs : List Value, v = .agg cs.toArray ∧ fitsL [.int .u64, .int .u64, .int .u64, .int .u64] cs := by
    refine open_flat (H := H) (enc := enc) (P := Tryd.prog) (w := W) (base := base) (sp := sp) (held := held) (d := 3) (t := 24) (r := .any) (b0 := b0) (v := v) (x := d) (ps := ps) hl ?_ ?_ ?_
    · kernel_rfl
    · with_reducible exact hval ()
    · with_reducible exact h ()
  exact pgu_of ρ hx
theorem bnd_pgu {n : Env} (a : Nat) : (SA.agg [SK.u a]).bnd n := by
  intro k hk
  simp only [List.mem_singleton] at hk
  subst hk
  trivial
end Go.Proofs.YtbedejilhhedlaaDoor
end
