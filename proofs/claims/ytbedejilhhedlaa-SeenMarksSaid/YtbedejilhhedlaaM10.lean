/-
  Texts: P301, V192, P302, Lift, Laid, Open, Lo.
-/
import Derived.Test.YtbedejilhhedlaaM1
import Derived.Test.YtbedejilhhedlaaM2
import Derived.Test.YtbedejilhhedlaaM3
import Derived.Test.YtbedejilhhedlaaM4
import Derived.Test.YtbedejilhhedlaaM5
import Derived.Test.YtbedejilhhedlaaM6
import Derived.Test.YtbedejilhhedlaaM7
import Derived.Test.YtbedejilhhedlaaM8
import Derived.Test.YtbedejilhhedlaaM9
import Derived.ProofKit
import Derived.OpenShut
import Derived.FnData
import GoSem.ClaimJoined
import Derived.Test.YtbedejilhhedlaaRows
section
namespace Go.Proofs.Ytbedejilhhedlaa
open Go Go.Sx Go.RowKit
set_option maxRecDepth 100000
theorem ma_succ (x k : Nat) : maL x (k + 1) = maL x k ++ if x.testBit k = true then [k] else [] := by
  unfold maL
  rw [List.range_succ, List.filter_append]
  congr 1
  rw [List.filter_cons, List.filter_nil]
theorem ma_pre (x k : Nat) : ∀ m, ∃ r, maL x (k + m) = maL x k ++ r
  | 0 => ⟨[], by rw [Nat.add_zero, List.append_nil]⟩
  | m + 1 => by
    obtain ⟨r, hr⟩ := ma_pre x k m
    exact ⟨_, by rw [← Nat.add_assoc, ma_succ, hr, List.append_assoc]⟩
theorem ma_at {x k : Nat} (hk : k < 256) (hb : x.testBit k = true) : maF x (maL x k).length = k := by
  obtain ⟨r, hr⟩ := ma_pre x (k + 1) (256 - (k + 1))
  have h1 := ma_succ x k
  rw [if_pos hb] at h1
  rw [show k + 1 + (256 - (k + 1)) = 256 by omega, h1, List.append_assoc] at hr
  unfold maF
  rw [hr]
  simp
theorem ma_len (x k : Nat) : (maL x (k + 1)).length = (maL x k).length + if x.testBit k = true then 1 else 0 := by
  rw [ma_succ, List.length_append]; split <;> rfl
theorem ma_le (x k : Nat) : (maL x k).length ≤ k := by
  have := List.length_filter_le (fun i => x.testBit i) (List.range k)
  rw [List.length_range] at this
  exact this
theorem ma_mem {x : Nat} {k : Nat} (hk : k < 256) : (∃ j, j < maN x ∧ maF x j = k) ↔ x.testBit k = true := by
  have hm : k ∈ maL x 256 ↔ x.testBit k = true := by
    unfold maL; rw [List.mem_filter, List.mem_range]; exact ⟨fun h => h.2, fun h => ⟨hk, h⟩⟩
  rw [← hm]
  unfold maN maF
  constructor
  · rintro ⟨j, hj, e⟩
    rw [List.getD_eq_getElem?_getD, List.getElem?_eq_getElem hj, Option.getD_some] at e
    have e' : (maL x 256)[j] = k := by omega
    rw [← e']; exact List.getElem_mem hj
  · intro h
    obtain ⟨j, hj, e⟩ := List.mem_iff_getElem.1 h
    exact ⟨j, hj, by rw [List.getD_eq_getElem?_getD, List.getElem?_eq_getElem hj, Option.getD_some, e]⟩
def NM (x : Nat) : Nat → Nat := fun k => (maL x k).length
theorem okx_Ma : CxOK Try.prog cxMa := okx_mark (okx_mark okx_nil)
theorem ok_ma (x : Nat) : OwesR Try.prog cxMa [] [(3, .inv2 (invMaL x (NM x)) (invMaM x (NM x) (maF x)) pick3)] 10 Try.f10 [sU x] false [.s (maN x) .i64 (maF x)] := by
  have h0 : NM x 0 = 0 := rfl
  have hs : ∀ k, NM x (k + 1) = NM x k + if x.testBit k = true then 1 else 0 := ma_len x
  have hl : ∀ k, NM x k ≤ k := ma_le x
  have ha : ∀ k, k < 256 → x.testBit k = true → maF x (NM x k) = k := fun k => ma_at
  have hm : NM x 256 = maN x := rfl
  have hML : maxLen = 9223372036854775807 := rfl
  generalize NM x = N at h0 hs hl ha hm ⊢
  generalize maF x = f at ha ⊢
  generalize maN x = m at hm ⊢
  rw [vc_ma]
  intro x1
  have hb : ∀ k : Nat, k < 256 → (IntKind.u64.wrap (↑(BitVec.ofInt 64 (limb x (IntKind.i64.wrap ((k : Int).tdiv 64)).toNat) &&& BitVec.ofInt 64 (IntKind.u64.wrap (1 * 2 ^ Min.min ((k : Int).tmod 64).toNat 64))).toNat : Int) != 0) = x.testBit k := fun k hk => by
    rw [pg_div k hk, pg_mod, pg_shl _ (Nat.mod_lt _ (by decide)), Int.toNat_natCast, pg_and x _ _ (Nat.mod_lt _ (by decide)), pg_split]
  have hi : ∀ k : Nat, k < 256 → (0 ≤ IntKind.i64.wrap ((k : Int).tdiv 64) ∧ IntKind.i64.wrap ((k : Int).tdiv 64) < 4) ∧ 0 ≤ (k : Int).tmod 64 ∧ IntKind.i64.wrap ((k : Int) + 1) = ((k + 1 : Nat) : Int) := fun k hk => by
    rw [pg_div k hk, pg_mod, IntKind.wrap_i64]
    omega
  refine ⟨fun _ => rfl, fun _ => rfl, fun y hy => ⟨fun hd => ?_, fun hd => ?_⟩, 0, ⟨by omega, h0⟩, rfl, rfl, rfl, rfl, fun y hy => ⟨fun hd => ?_, fun hd => ?_⟩⟩
  · obtain ⟨y1, y2⟩ := y
    obtain ⟨g1, g2, g3⟩ := hy
    have hd := of_decide_eq_true hd
    have hk : y1 < 256 := by
      have : ((y1 : Nat) : Int) < 256 := hd
      omega
    have g2 : 0 < N y1 := g2
    have g3 : N y1 + y2 ≤ maxLen := g3
    obtain ⟨i1, i2, i3⟩ := hi y1 hk
    have hsk := hs y1
    have hlk := hl y1
    refine ⟨i1, i1, i2, fun hbt => ?_, fun hbt => ?_⟩
    · rw [hb y1 hk] at hbt
      rw [if_pos hbt] at hsk
      refine ⟨rfl, rfl, ⟨by show N y1 ≤ N y1 + y2; omega, g3, by show (N y1 + y2) * 1 = N y1 * 1 + y2; omega⟩, ⟨by show N y1 + 1 ≤ _; omega, by show (N y1 + 1) * 8 ≤ _; omega⟩, fun c hc => ⟨(y1 + 1, c), ⟨by show y1 + 1 ≤ 256; omega, by show 0 < N (y1 + 1); omega, by show N (y1 + 1) + c ≤ _; rw [hsk]; exact hc⟩, ⟨rfl, rfl, rfl, hsk.symm, by show N y1 + 1 + c = N (y1 + 1) + c; rw [hsk]⟩, i3, rfl, rfl, hsk.symm, Nat.mul_one c, fun j hj => ?_, by show 256 - (y1 + 1) < 256 - y1; omega⟩⟩
      show (bif decide (j < N y1) then f j else (y1 : Int)) = f j
      have hj : j < N y1 + 1 := hj
      rcases Nat.lt_or_ge j (N y1) with h | h
      · rw [decide_eq_true h]; rfl
      · have : j = N y1 := by omega
        subst this
        rw [decide_eq_false (Nat.lt_irrefl _), ha y1 hk hbt]; rfl
    · rw [hb y1 hk] at hbt
      rw [if_neg (by rw [hbt]; decide)] at hsk
      exact ⟨(y1 + 1, y2), ⟨by show y1 + 1 ≤ 256; omega, by show 0 < N (y1 + 1); omega, by show N (y1 + 1) + y2 ≤ _; rw [hsk]; exact g3⟩, ⟨rfl, rfl, rfl, hsk.symm, by show N y1 + y2 = N (y1 + 1) + y2; rw [hsk, Nat.add_zero]⟩, i3, rfl, rfl, hsk.symm, rfl, fun j hj => rfl, by show 256 - (y1 + 1) < 256 - y1; omega⟩
  · obtain ⟨y1, y2⟩ := y
    obtain ⟨g1, g2, g3⟩ := hy
    have hd : ¬ ((y1 : Nat) : Int) < 256 := of_decide_eq_false hd
    have g1 : y1 ≤ 256 := g1
    have : y1 = 256 := by omega
    subst this
    exact ⟨by show 0 + N 256 ≤ N 256; omega, hm, Nat.le_add_right _ _, fun i _ => by rw [Nat.zero_add]⟩
  · obtain ⟨g1, g2⟩ := hy
    have hd := of_decide_eq_true hd
    have hk : y < 256 := by omega
    obtain ⟨i1, i2, i3⟩ := hi y hk
    have hsk := hs y
    refine ⟨i1, i1, i2, fun hbt => ?_, fun hbt => ?_⟩
    · rw [hb y hk] at hbt
      rw [if_pos hbt, g2, Nat.zero_add] at hsk
      refine ⟨⟨by omega, by omega⟩, fun c hc => ⟨(y + 1, c), ⟨by show y + 1 ≤ 256; omega, by show 0 < N (y + 1); omega, by show N (y + 1) + c ≤ _; rw [hsk]; exact hc⟩, ⟨rfl, rfl, rfl, hsk.symm, by show 1 + c = N (y + 1) + c; rw [hsk]⟩, i3, rfl, rfl, hsk.symm, Nat.mul_one c, fun j hj => ?_, by show 256 - (y + 1) < 256 - y; omega⟩⟩
      show (y : Int) = f j
      have : j = 0 := by omega
      subst this
      have := ha y hk hbt
      rw [g2] at this
      exact this.symm
    · rw [hb y hk] at hbt
      rw [if_neg (by rw [hbt]; decide)] at hsk
      exact ⟨y + 1, ⟨by omega, by omega⟩, rfl, i3, rfl, rfl, by show 256 - (y + 1) < 256 - y; omega⟩
  · obtain ⟨g1, g2⟩ := hy
    have hd := of_decide_eq_false hd
    have : y = 256 := by omega
    subst this
    omega
theorem card_ma {gl : Globs} : FnOKs Try.prog gl 10 cMa := by
  refine FnOKs.up0 (FnOKs_R0 (cx := cxMa) okx_Ma (sl := []) oks_nil Try.func10 (by kernel_rfl) (by kernel_rfl) fun ls hc => ?_) gl
  unfold maC at hc
  split at hc
  · rename_i x
    refine ⟨_, 10, [sU x], fun _ => rfl, fun E hE => hE, fun r hr => ?_, ok_ma x⟩
    unfold maG at hr
    rw [List.mem_singleton.1 hr]; exact trivial
  · exact hc.1.elim
theorem oks_Md : ∀ p ∈ slMd, FnOKs Try.prog cxMa.gl p.1 p.2 := oks_cons card_ma oks_nil
theorem ok_rmd (x : Nat) (n : Int) : OwesR Try.prog cxMa slMd [(4, .inv (rdM x (maN x) n (maF x)))] 10 Try.f6 [sU x, sI .i64 n] false [.v (sB (haB x n)), .v (sI .i64 (haE n))] := by
  rw [vc_rmd]
  intro x1 x2 x3 x4
  have e1 : x1 = decide (n < 0) := rfl
  have e2 : x2 = ((!x1) = true) := rfl
  have h3 : x3 := fun i _ => rfl
  clear_value x1 x3 x4
  subst e1
  rw [e2]
  have hmm : ∀ k : Nat, k < 256 → ((∃ j, j < maN x ∧ maF x j = k) ↔ x.testBit k = true) := fun k => ma_mem
  have hlen : maN x ≤ 256 := ma_le x 256
  generalize maN x = m at hmm hlen ⊢
  generalize maF x = f at hmm ⊢
  refine ⟨id, fun h => by rw [h]; rfl, fun h => ?_, fun h a cap ha hcap => ⟨fun _ => rfl, (0, a, cap), ⟨Nat.zero_le _, fun j hj => absurd hj (Nat.not_lt_zero j)⟩, rfl, ⟨rfl, rfl, rfl, h3⟩, rfl, rfl, rfl, rfl, fun y hy => ?_⟩⟩
  · have hn : inB n = false := by
      rw [Bool.or_eq_true, decide_eq_true_eq, decide_eq_true_eq] at h
      exact in_not (by omega)
    unfold haB haE
    rw [hn]
    exact ⟨rfl, rfl⟩
  · have hn : inP n := by
      rw [Bool.or_eq_false_iff, decide_eq_false_iff_not, decide_eq_false_iff_not] at h
      exact ⟨by omega, by omega⟩
    obtain ⟨k, rfl, hk⟩ := in_nat hn
    obtain ⟨i, b, c⟩ := y
    obtain ⟨g1, g2⟩ := hy
    have g1 : i ≤ m := g1
    have g2 : ∀ j, j < i → f j ≠ (k : Int) := g2
    have hE : haE (k : Int) = 0 := by unfold haE; rw [in_iff.2 hn]; rfl
    have hB : haB x (k : Int) = x.testBit k := by unfold haB; rw [in_iff.2 hn, Bool.true_and, Int.toNat_natCast]
    rw [hE, hB]
    refine ⟨fun hd => ?_, fun hd => ?_⟩
    · have hd : ((i : Nat) : Int) < (m : Int) := of_decide_eq_true hd
      have hi : i < m := by omega
      refine ⟨⟨by show (0 : Int) ≤ (i : Int); omega, hd⟩, fun hf => ⟨?_, rfl⟩, fun hf => ⟨(i + 1, b, c), ⟨by show i + 1 ≤ m; omega, fun j hj => ?_⟩, rfl, ⟨rfl, rfl, rfl, h3⟩, rfl, ?_, rfl, rfl, by show m - (i + 1) < m - i; omega⟩⟩
      · have hf : f i = (k : Int) := beq_iff_eq.1 hf
        exact ((hmm k hk).1 ⟨i, hi, hf⟩).symm
      · have hf : f i ≠ (k : Int) := fun h => by
          have := beq_eq_false_iff_ne.1 hf
          exact this h
        have hj : j < i + 1 := hj
        rcases Nat.lt_or_ge j i with h | h
        · exact g2 j h
        · have : j = i := by omega
          rw [this]; exact hf
      · show IntKind.i64.wrap ((i : Int) + 1) = ((i + 1 : Nat) : Int)
        rw [IntKind.wrap_i64]; omega
    · have hd : ¬ ((i : Nat) : Int) < (m : Int) := of_decide_eq_false hd
      have hi : i = m := by omega
      subst hi
      refine ⟨?_, rfl⟩
      cases hb : x.testBit k
      · rfl
      · obtain ⟨j, hj, e⟩ := (hmm k hk).2 hb
        exact absurd e (g2 j hj)
theorem card_rmd {gl : Globs} : FnOKs Try.prog gl 6 cHa := by
  refine FnOKs.up0 (FnOKs_R0 (cx := cxMa) okx_Ma (sl := slMd) oks_Md Try.func6 (by kernel_rfl) (by kernel_rfl) fun ls hc => ?_) gl
  unfold haC at hc
  split at hc
  · rename_i x n
    refine ⟨_, 10, [sU x, sI .i64 n], fun _ => rfl, fun E hE => hE, fun r hr => ?_, ok_rmd x n⟩
    unfold haG at hr
    simp only [List.mem_cons, List.not_mem_nil, or_false] at hr
    rcases hr with rfl | rfl <;> exact trivial
  · exact hc.1.elim
theorem oks_Mt : ∀ p ∈ slMt, FnOKs Try.prog Cx.none.gl p.1 p.2 := oks_cons card_rmd oks_nil
theorem ok_rmt (x : Nat) (n : Int) : OwesR Try.prog Cx.none slMt [] 10 Try.f8 [sU x, sI .i64 n] false [.v (sU (mkP x n)), .v (sI .i64 (mkE x n))] := by
  obtain ⟨y, hy⟩ : ∃ y, y = mkP x n := ⟨_, rfl⟩
  obtain ⟨e, he⟩ : ∃ e, e = mkE x n := ⟨_, rfl⟩
  rw [← hy, ← he, vc_rmt]
  intro x1 x2 x3 x4 x5 x6 x7 x8
  unfold mkP at hy
  unfold mkE at he
  refine ⟨fun h => ?_, fun h => ⟨fun hb => ?_, fun hb => ?_⟩⟩
  · have hn : inB n = false := by
      cases hb : inB n
      · rfl
      · unfold haE at h; rw [hb] at h; cases h
    rw [hn] at hy he
    refine ⟨⟨?_, trivial⟩, ?_⟩
    · show 0 = y % M256; rw [hy]; exact (Nat.zero_mod _).symm
    · unfold haE; rw [hn, he]; rfl
  all_goals
    have hn : inB n = true := by
      cases hb : inB n
      · unfold haE at h; rw [hb] at h; cases h
      · rfl
    unfold haB at hb
    rw [hn, Bool.true_and] at hb
    rw [hn, hb] at hy he
  · refine ⟨⟨?_, trivial⟩, he.symm⟩
    show 0 = y % M256; rw [hy]; exact (Nat.zero_mod _).symm
  · have hp := in_iff.1 hn
    obtain ⟨k, rfl, hk⟩ := in_nat hp
    rw [Int.toNat_natCast] at hy hb
    have e2 : x2 = ((k / 64 : Nat) : Int) := pg_div k hk
    have e3 : x3 = k / 64 := by show x2.toNat = _; rw [e2]; rfl
    have e4 : x4 = limb (x ||| 2 ^ k) (k / 64) := by
      have := pg_add x (k / 64) (k % 64) (Nat.mod_lt _ (by decide)) (by rw [pg_split]; exact hb)
      rw [pg_split] at this
      rw [← this]
      show IntKind.u64.wrap (limb x x3 + IntKind.u64.wrap (1 * 2 ^ Min.min ((k : Int).tmod 64).toNat 64)) = _
      rw [e3, pg_mod, pg_shl _ (Nat.mod_lt _ (by decide))]
    have e1 : x1 = (x ||| 2 ^ k) % M256 := by show y % M256 = _; rw [hy]; rfl
    have e5 : x5 = if 0 = x3 then x4 else limb x 0 := rfl
    have e6 : x6 = if 1 = x3 then x4 else limb x 1 := rfl
    have e7 : x7 = if 2 = x3 then x4 else limb x 2 := rfl
    have e8 : x8 = if 3 = x3 then x4 else limb x 3 := rfl
    have hj := pg_join x k x4 e4
    rw [← e3, ← e5, ← e6, ← e7, ← e8, ← e1] at hj
    clear_value x1 x2 x3 x4 x5 x6 x7 x8
    have g : 0 ≤ x2 ∧ x2 < 4 := by omega
    have g' : 0 ≤ (k : Int).tmod 64 := by rw [pg_mod]; omega
    exact ⟨g, g, g', g, g, hj, he.symm⟩
theorem card_rmt {gl : Globs} : FnOKs Try.prog gl 8 cMk := by
  refine FnOKs.up0 (FnOKs_R0 (cx := Cx.none) okx_nil (sl := slMt) oks_Mt Try.func8 (by kernel_rfl) (by kernel_rfl) fun ls hc => ?_) gl
  unfold haC at hc
  split at hc
  · rename_i x n
    refine ⟨[], 10, [sU x, sI .i64 n], fun _ => rfl, fun E hE => hE, fun r hr => ?_, ok_rmt x n⟩
    unfold mkG at hr
    simp only [List.mem_cons, List.not_mem_nil, or_false] at hr
    rcases hr with rfl | rfl
    · exact bnd_pg _
    · exact trivial
  · exact hc.1.elim
end Go.Proofs.Ytbedejilhhedlaa
end

section
namespace Go.Proofs.Ytbedejilhhedlaa
open Go Go.Sx Go.RowKit
set_option maxRecDepth 100000
def slSh : List (Nat × SSpec) := [(5, cHa), (6, cHa)]
def slSm : List (Nat × SSpec) := [(7, cMk), (8, cMk)]
theorem vc_lsh (x : Nat) (n : Int) :
    OwesV Try.prog Cx.none slSh [] 20 Try.f3 [sU x, sI .i64 n] yes =
    (let x1 : Bool := haB x n == haB x n; let x2 : Prop := x1 = Bool.true; (x2 → x2) ∧ (x2 → x2) ∧ (x2 → x2) ∧ (x1 && haE n == haE n) = Bool.true) := by kernel_rfl
theorem vc_lsm (x : Nat) (n : Int) :
    OwesV Try.prog Cx.none slSm [] 20 Try.f4 [sU x, sI .i64 n] yes =
    (let x1 : Nat := mkP x n % M256; let x2 : Bool := conj [x1 == x1]; let x3 : Prop := x2 = Bool.true; (x3 → x3) ∧ (x3 → x3) ∧ (x3 → x3) ∧ (x2 && mkE x n == mkE x n) = Bool.true) := by kernel_rfl
end Go.Proofs.Ytbedejilhhedlaa
end

section
namespace Go.Proofs.Ytbedejilhhedlaa
open Go Go.Sx Go.RowKit
theorem oks_Sh : ∀ p ∈ slSh, FnOKs Try.prog Cx.none.gl p.1 p.2 := oks_cons card_ha (oks_cons card_rmd oks_nil)
theorem oks_Sm : ∀ p ∈ slSm, FnOKs Try.prog Cx.none.gl p.1 p.2 := oks_cons card_mk (oks_cons card_rmt oks_nil)
theorem okl_SeenHas (x : Nat) (n : Int) (_ : i64ok n) : OwesV Try.prog Cx.none slSh [] 20 Try.f3 [sU x, sI .i64 n] yes := by
  rw [vc_lsh]
  intro x1 x2
  refine ⟨id, id, id, ?_⟩
  show (_ && _) = true
  rw [beq_self_eq_true, Bool.and_true]
  exact beq_self_eq_true _
theorem okl_SeenMarks (x : Nat) (n : Int) (_ : i64ok n) : OwesV Try.prog Cx.none slSm [] 20 Try.f4 [sU x, sI .i64 n] yes := by
  rw [vc_lsm]
  intro x1 x2 x3
  refine ⟨id, id, id, ?_⟩
  have e2 : x2 = true := by show conj [x1 == x1] = true; rw [beq_self_eq_true]; rfl
  rw [e2, beq_self_eq_true]; rfl
end Go.Proofs.Ytbedejilhhedlaa
end

section
namespace Go.Sx
open Go.RowKit Go.ChangeShapes Go.WideShapes
inductive LK where
  | bool
  | int (k : IntKind)
  | text
def LK.fits : LK → Value → Prop
  | .bool, .bool _ => True
  | .int k, .int k' n => k' = k ∧ (Lit.int k n).wf = true
  | .text, .string s => s.size ≤ maxLen
  | _, _ => False
def fitsL : List LK → List Value → Prop
  | [], [] => True
  | l :: ls, v :: vs => l.fits v ∧ fitsL ls vs
  | _, _ => False
theorem fitsL_append : ∀ {a b : List LK} {u v : List Value}, fitsL a u → fitsL b v → fitsL (a ++ b) (u ++ v)
  | [], _, [], _, _, h => h
  | _ :: _, _, _ :: _, _, h, k => ⟨h.1, fitsL_append h.2 k⟩
  | [], _, _ :: _, _, h, _ => h.elim
  | _ :: _, _, [], _, h, _ => h.elim
def lksF (P : Program) (g : TypeId → Option (List LK)) : List Field → Nat → Option (List LK)
  | [], _ => some []
  | f :: fs, n =>
    match g f.type with
    | none => none
    | some a => if Nat.beq f.offset n && Nat.beq (P.cellsOf f.type) a.length then (lksF P g fs (n + a.length)).map (a ++ ·) else none
def lks (P : Program) : Nat → TypeId → Option (List LK)
  | 0, _ => none
  | d + 1, t =>
    match P.underlying t with
    | some .bool => some [.bool]
    | some (.int k) => some [.int k]
    | some .string => some [.text]
    | some (.struct fs) => match lksF P (lks P d) fs.toList 0 with
      | some a => if Nat.beq (P.cellsOf t) a.length then some a else none
      | none => none
    | some (.array n e) => match lks P d e with
      | some a => if Nat.beq (P.cellsOf e) a.length && Nat.beq (P.cellsOf t) (n * a.length) then some (List.replicate n a).flatten else none
      | none => none
    | _ => none
section
variable {H : Type} {enc : TypeId × Value → H} {P : Program} {w : World} {base : Nat} {sp : Nat → Bool} {held : Bool}
theorem fits_fields {fuel : Nat} {g : TypeId → Option (List LK)} {cs : List Value}
    (hg : ∀ {t a cs' x}, g t = some a → DataW.trod enc P w base sp held fuel t cs' = some x → fitsL a cs') :
    ∀ {fs : List Field} {n : Nat} {a : List LK}, lksF P g fs n = some a →
      (∀ f ∈ fs, ∃ x, DataW.trod enc P w base sp held fuel f.type ((cs.drop f.offset).take (P.cellsOf f.type)) = some x) → fitsL a ((cs.drop n).take a.length)
  | [], n, a, h, _ => by
    simp only [lksF, Option.some.injEq] at h
    subst h
    simp [fitsL]
  | f :: fs, n, a, h, hx => by
    simp only [lksF] at h
    split at h
    · cases h
    · rename_i a0 ha
      split at h
      · rename_i hc
        simp only [Bool.and_eq_true] at hc
        have h1 := Nat.eq_of_beq_eq_true hc.1
        have h2 := Nat.eq_of_beq_eq_true hc.2
        cases hr : lksF P g fs (n + a0.length) with
        | none => rw [hr] at h; simp at h
        | some a1 =>
          rw [hr] at h
          simp only [Option.map_some, Option.some.injEq] at h
          subst h
          obtain ⟨x, hx0⟩ := hx f (by simp)
          have f0 := hg ha hx0
          have f1 := fits_fields hg hr (fun f' hf' => hx f' (by simp [hf']))
          rw [h1, h2] at f0
          have := fitsL_append f0 f1
          rwa [List.length_append, List.take_add, List.drop_drop]
      · cases h
theorem fits_rows {a : List LK} : ∀ {n : Nat} {cs : List Value}, (∀ i, i < n → fitsL a ((cs.drop (i * a.length)).take a.length)) → cs.length = n * a.length → fitsL (List.replicate n a).flatten cs
  | 0, cs, _, hl => by
    have : cs = [] := List.eq_nil_of_length_eq_zero (by omega)
    subst this
    trivial
  | n + 1, cs, h, hl => by
    rw [List.replicate_succ, List.flatten_cons]
    have h0 := h 0 (by omega)
    rw [Nat.zero_mul, List.drop_zero] at h0
    have := fitsL_append h0 (fits_rows (n := n) (cs := cs.drop a.length) (fun i hi => by
      have := h (i + 1) (by omega)
      rw [List.drop_drop]
      rwa [Nat.add_mul, Nat.one_mul, Nat.add_comm] at this) (by rw [List.length_drop, hl, Nat.add_mul]; omega))
    rwa [List.take_append_drop] at this
theorem trod_fits : ∀ {d : Nat} {t : TypeId} {a : List LK} {fuel : Nat} {cs : List Value} {x : DataW H × List MemPlace}, lks P d t = some a → DataW.trod enc P w base sp held fuel t cs = some x → fitsL a cs
  | 0, _, _, _, _, _, h, _ => by cases h
  | d + 1, t, a, fuel, cs, x, h, hx => by
    unfold lks at h
    split at h
    · rename_i hu
      obtain ⟨b, rfl, _⟩ := DataW.trod_bool hu hx
      simp only [Option.some.injEq] at h; subst h
      exact ⟨trivial, trivial⟩
    · rename_i k hu
      obtain ⟨n, rfl, _, hw⟩ := DataW.trod_int hu hx
      simp only [Option.some.injEq] at h; subst h
      exact ⟨⟨rfl, hw⟩, trivial⟩
    · rename_i hu
      obtain ⟨s, rfl, _, hs⟩ := DataW.trod_string hu hx
      simp only [Option.some.injEq] at h; subst h
      exact ⟨hs, trivial⟩
    · rename_i fs hu
      split at h
      · rename_i a' ha
        split at h
        · rename_i hc
          simp only [Option.some.injEq] at h; subst h
          obtain ⟨xs, n, rfl, _, hl, hn, hf⟩ := DataW.trod_struct hu hx
          have := fits_fields (cs := cs) (fun h1 h2 => trod_fits (d := d) h1 h2) ha (fun f hm => by
            obtain ⟨i, hi, e⟩ := List.mem_iff_getElem.1 hm
            have e' : fs[i]? = some f := by rw [← e]; simp at hi ⊢
            have hlt : i < xs.length := by simp at hi; omega
            exact ⟨xs[i], by rw [hf i f e']; simp [hlt]⟩)
          rw [List.drop_zero, List.take_of_length_le (by rw [hl, Nat.eq_of_beq_eq_true hc]; exact Nat.le_refl _)] at this
          exact this
        · cases h
      · cases h
    · rename_i n e hu
      split at h
      · rename_i a' ha
        split at h
        · rename_i hc
          simp only [Bool.and_eq_true] at hc
          simp only [Option.some.injEq] at h; subst h
          obtain ⟨xs, m, rfl, _, hl, hn, hf⟩ := DataW.trod_array hu hx
          have h1 := Nat.eq_of_beq_eq_true hc.1
          have h2 := Nat.eq_of_beq_eq_true hc.2
          refine fits_rows (fun i hi => ?_) (by rw [hl, h2])
          have := hf i hi
          have hlt : i < xs.length := by omega
          rw [h1, List.getElem?_eq_getElem hlt] at this
          exact trod_fits ha this
        · cases h
      · cases h
    · cases h
theorem open_flat {d : Nat} {t : TypeId} {a : List LK} {r : Reach} {b0 : Nat} {v : Value} {x : DataW H} {ps : List MemPlace} (ha : lks P d t = some a)
    (hs : (match P.underlying t with | some (.struct _) | some (.array _ _) => true | _ => false) = true)
    (hval : Value.okWide P w r b0 t v) (hd : DataW.Trod enc P w base sp held t v x ps) : ∃ cs : List Value, v = .agg cs.toArray ∧ fitsL a cs := by
  obtain ⟨fuel, hf⟩ := hd
  have : ∃ cs : Array Value, v = .agg cs := by
    unfold Value.okWide at hval
    split at hval
    · obtain ⟨cs, h, _⟩ := hval; exact ⟨cs, h⟩
    · obtain ⟨cs, h, _⟩ := hval; exact ⟨cs, h⟩
    · rename_i h1 h2
      split at hs
      · rename_i e; exact (h1 _ e).elim
      · rename_i e; exact (h2 _ _ e).elim
      · cases hs
  obtain ⟨cs, rfl⟩ := this
  exact ⟨cs.toList, rfl, trod_fits ha hf⟩
theorem trodAll_carry (hl : laidOutB P = true) {W W' : World} (hb : Below W.heap.size W W') {sp' : Nat → Bool} :
    ∀ {ts : List TypeId} {vs : List Value} {ds : List (DataW H)} {ps : List MemPlace}, ts.all (fun t => P.readableRec t && Nat.blt t P.types.size) = true →
      DataW.TrodAll enc P W 0 (fun _ => true) true ts vs ds ps → (∀ x ∈ ps, x.block < W.heap.size) → (∀ x ∈ ps, sp' x.block = true) → DataW.TrodAll enc P W' 0 sp' true ts vs ds ps
  | [], _, _, _, _, h, _, _ => by
    obtain ⟨rfl, rfl, rfl⟩ := trodAll_nil h
    exact rfl
  | t :: ts, _, _, _, hr, h, hlt, hsp => by
    obtain ⟨v, vs, d, ds, p, q, rfl, rfl, rfl, h1, h2⟩ := trodAll_cons h
    simp only [List.all_cons, Bool.and_eq_true] at hr
    obtain ⟨⟨hr1, hr2⟩, hr3⟩ := hr
    refine trodAll_cons_mk (Go.WideElems.Trod_stays hl hr1 (by simpa [Nat.blt, Nat.succ_le_iff] using hr2) h1 (fun x hx => hb.same (hlt x (by simp [hx]))) (fun x hx => hsp x (by simp [hx])))
      (trodAll_carry hl hb hr3 h2 (fun x hx => hlt x (by simp [hx])) (fun x hx => hsp x (by simp [hx])))
theorem law_post {f : Func} {s : ChangeSpec} {fresh handsOn again : Bool} {W W' : World} {args : Array Value} {ds gs : List (DataW H)} {before : List MemPlace} {tb : TypeId}
    (hl : laidOutB P = true) (hp : f.params.toList.all (fun t => P.readableRec t && Nat.blt t P.types.size) = true) (hr : f.resultTypes = #[tb]) (hu : P.underlying tb = some .bool) (hv : s.vars = [])
    (hs : s.fn H (ds ++ gs) = { results := [.lit (.bool true)], args := ds, vars := [] })
    (hW : DataW.Whole enc P f.params.toList s.vars false W args.toList ds gs before) (hb : Below W.heap.size W W') :
    s.post enc P f false fresh handsOn again W args (.bool true) W' := by
  have hlt : ∀ p ∈ before, p.block < W.heap.size := fun p hp => hW.lt p hp
  have hW0 := hW
  obtain ⟨p, q, hA, hV, he, hz, hn⟩ := hW
  rw [hv] at hV
  obtain ⟨rfl, rfl⟩ := trodVars_none hV
  rw [List.append_nil] at he
  subst he
  have hres : ∀ (b : Nat) (sp : Nat → Bool) (hd : Bool), DataW.TrodAll enc P W' b sp hd f.resultTypes.toList (Value.resultList f.resultTypes.size (.bool true)) (s.fn H (ds ++ [])).results [] := by
    intro b sp hd
    rw [hs, hr]
    exact trodAll_mk1 (shut_bool hu true)
  have hargs : ∀ sp : Nat → Bool, (∀ x ∈ before, sp x.block = true) → DataW.TrodAll enc P W' 0 sp true f.params.toList args.toList (s.fn H (ds ++ [])).args before := by
    intro sp hsp
    rw [hs]
    exact trodAll_carry hl hb hp hA hlt hsp
  have hvars : ∀ sp : Nat → Bool, DataW.TrodVars enc P W' sp s.vars (s.fn H (ds ++ [])).vars [] := by
    intro sp
    rw [hv, hs]
    exact rfl
  refine ⟨ds, [], before, [], before, [], hW0, hres _ _ _, hargs _ (fun x hx => by simpa using hlt x hx), hvars _, World.keptBut_mono (fun x hx => ⟨hx, .inr (.inl hx)⟩) (hb.frame (· ∈ before)), fun _ => ⟨?_, _, [], before, ⟨before, [], trodAll_append (hargs _ (fun _ _ => rfl)) (hres _ _ _), ?_, (List.append_nil _).symm, ?_, ?_⟩, fun x hx _ => hx⟩⟩
  · refine ok_one hr rfl ?_
    unfold Value.okWide
    rw [hu]
    unfold Cell.okWide
    rw [hu]
    unfold Cell.ok
    rw [hu]
    trivial
  · have := hvars (fun _ => true)
    rw [hs] at this
    exact this
  · intro b off hm
    rw [hb.frozen (hlt _ hm)]
    exact hz b off hm
  · intro h; cases h
end
end Go.Sx
end

section
namespace Go.Sx
open Go.RowKit
structure Tab where
  name : String
  g : Nat
  t : TypeId
  k : IntKind
  lits : List Int
def Tab.vals (T : Tab) : List Value := T.lits.map (Value.int T.k)
def Rho.whole (W : World) : Rho := ⟨fun _ => 0, fun b o v => W.cell? ⟨b, o, none⟩ = some v⟩
theorem whole_ok (W : World) : FzOK (Rho.whole W).fz W := fun _ _ _ h => h
end Go.Sx
end

section
namespace Go.Sx
open Go.RowKit Go.ChangeShapes Go.WideShapes
section
variable {H : Type} {enc : TypeId × Value → H} {P : Program} {w : World} {base : Nat} {sp : Nat → Bool} {held : Bool}
end
theorem calls_of_owesV {P : Program} {cx : Cx} (hcx : CxOK P cx) {sl : List (Nat × SSpec)} (hsl : ∀ p ∈ sl, FnOKs P cx.gl p.1 p.2) {iv : List (Nat × Hint)} {N : Nat} {f : FuncId} {fn : Func} (hf : P.funcs[f]? = some fn) (hb : fn.body.isSome = true) {args : List SA} {out : SV}
    (h : OwesV P cx sl iv N fn args out) (ρ : Rho) (w : World) (hz : FzOK ρ.fz w) (hg : GlobsOK cx.gl ρ.fz) (hargs : ∀ x ∈ args, x.bnd ⟨fun _ => False, ρ.fz⟩) :
    Calls P f (args.map (SA.conc ρ)).toArray w fun e w' => ∃ v, e = .returned v ∧ (∃ ρ', out.rep ρ' v) ∧ Below w.heap.size w w' := by
  unfold OwesV at h
  refine (calls_of_owesS hcx hsl hf hb h ρ w hz hg hargs).mono ?_
  rintro e w' ⟨v, rfl, hbl, sv, ob', ρ', hp, hr, _⟩
  exact ⟨v, rfl, ⟨ρ', same_sound hp ρ' v hr⟩, hbl⟩
end Go.Sx
end

section
namespace Go.Proofs.Ytbedejilhhedlaa
open Go.ChangeShapes Go.WideShapes Go.ChangeAt Go.RowKit Go.Sx
theorem prog_three : Try.prog.mayEnter = true ∧ Try.prog.liftsFinal = Rows.seenHasRow.lifted ∧ Try.prog.make = some Rows.seenHasRow.make := ⟨by kernel_rfl, by kernel_rfl, by kernel_rfl⟩
theorem own_none : ownKnob Try.prog.godebug = none := by kernel_rfl
theorem laid_out : laidOutB Try.prog = true := by kernel_rfl
theorem pgu_of {v : Value} (ρ : Rho) (hx : ∃ cs : List Value, v = .agg cs.toArray ∧ fitsL [.int .u64, .int .u64, .int .u64, .int .u64] cs) : ∃ n, v = (sU n).conc ρ := by
  obtain ⟨cs, rfl, hf⟩ := hx
  match cs, hf with
  | [.int k1 a1, .int k2 a2, .int k3 a3, .int k4 a4], hf =>
    obtain ⟨⟨rfl, w1⟩, ⟨rfl, w2⟩, ⟨rfl, w3⟩, ⟨rfl, w4⟩, _⟩ := hf
    have b : ∀ {n : Int}, (Lit.int .u64 n).wf = true → 0 ≤ n ∧ n < 2 ^ 64 := by
      intro n h
      simp [Lit.wf, IntKind.min, IntKind.max, IntKind.signed, IntKind.bits] at h
      omega
    refine ⟨join a1 a2 a3 a4, ?_⟩
    have := U_join (b w1) (b w2) (b w3) (b w4)
    exact this.symm
theorem open_pg {H : Type} {enc : TypeId × Value → H} {W : World} {base b0 : Nat} {sp : Nat → Bool} {held : Bool} {v : Value} {d : DataW H} {ps : List MemPlace} (ρ : Rho)
    (hval : Unit → Value.okWide Try.prog W .any b0 24 v) (h : Unit → DataW.Trod enc Try.prog W base sp held 24 v d ps) : ∃ n, v = (sU n).conc ρ := by
  have hl : lks Try.prog 3 24 = some [.int .u64, .int .u64, .int .u64, .int .u64] := by kernel_rfl
  have hx : ∃ cs : List Value, v = .agg cs.toArray ∧ fitsL [.int .u64, .int .u64, .int .u64, .int .u64] cs := by
    refine open_flat (H := H) (enc := enc) (P := Try.prog) (w := W) (base := base) (sp := sp) (held := held) (d := 3) (t := 24) (r := .any) (b0 := b0) (v := v) (x := d) (ps := ps) hl ?_ ?_ ?_
    · kernel_rfl
    · with_reducible exact hval ()
    · with_reducible exact h ()
  exact pgu_of ρ hx
theorem open_in {H : Type} {enc : TypeId × Value → H} {W : World} {base b0 : Nat} {sp : Nat → Bool} {held : Bool} {v : Value} {d : DataW H} {ps : List MemPlace} (ρ : Rho)
    (hval : Unit → Value.okWide Try.prog W .any b0 3 v) (h : Unit → DataW.Trod enc Try.prog W base sp held 3 v d ps) : ∃ a, v = (sI .i64 a).conc ρ ∧ i64ok a := by
  have hu : Try.prog.underlying 3 = some (.int .i64) := by kernel_rfl
  obtain ⟨n, e, _, _, w⟩ := open_int hu (by with_reducible exact hval ()) (by with_reducible exact h ())
  exact ⟨n, e, bounds_i64 w⟩
theorem bnd_pgu {n : Env} (a : Nat) : (SA.agg [SK.u a]).bnd n := by
  intro k hk
  simp only [List.mem_singleton] at hk
  subst hk
  trivial
end Go.Proofs.Ytbedejilhhedlaa
end
