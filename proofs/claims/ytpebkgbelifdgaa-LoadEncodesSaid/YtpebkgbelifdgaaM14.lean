/-
  Texts: OpenL, P175.
-/
import Derived.Test.YtpebkgbelifdgaaM1
import Derived.Test.YtpebkgbelifdgaaM2
import Derived.Test.YtpebkgbelifdgaaM3
import Derived.Test.YtpebkgbelifdgaaM4
import Derived.Test.YtpebkgbelifdgaaM5
import Derived.Test.YtpebkgbelifdgaaM6
import Derived.Test.YtpebkgbelifdgaaM7
import Derived.Test.YtpebkgbelifdgaaM8
import Derived.Test.YtpebkgbelifdgaaM9
import Derived.Test.YtpebkgbelifdgaaM10
import Derived.Test.YtpebkgbelifdgaaM11
import Derived.Test.YtpebkgbelifdgaaM12
import Derived.Test.YtpebkgbelifdgaaM13
section
namespace Go.Sx
open Go.RowKit Go.ChangeShapes Go.WideShapes
section
variable {w : World}
theorem fits_rowsU8 {wd : Nat} {a : Option Addr} {n cap : Nat} {f : Nat → Nat → Value} (hf : ∀ i, i < n → ∀ (c : Nat) (x : LK), (List.replicate wd (LK.int .u8))[c]? = some x → x.fits (f i c)) (hb : SC.bnd ⟨fun _ => False, (Rho.whole w).fz⟩ (.xs a n cap wd fun i c => .val (f i c))) :
    ∃ k : Nat → Nat → Int, (∀ i, i < n → ∀ c, c < wd → 0 ≤ k i c ∧ k i c < 256) ∧ SC.bnd ⟨fun _ => False, (Rho.whole w).fz⟩ (.xs a n cap wd (u8F k)) := by
  have key : ∀ i, i < n → ∀ c, c < wd → (LK.int .u8).fits (f i c) := fun i hi c hc => hf i hi c _ (by rw [List.getElem?_replicate, if_pos hc])
  refine ⟨fun i c => intV (f i c), fun i hi c hc => ?_, xs_told hb fun i hi c hc => ?_⟩
  · have := bounds_u8 (fit_int (key i hi c hc)).2
    exact ⟨this.1, by show intV (f i c) < 256; omega⟩
  · exact ⟨(fit_int (key i hi c hc)).1, trivial, rfl⟩
def LQ.u64s (n : Nat) : List LQ := (List.replicate n (LK.int .u64)).map .k
def LQ.u8s (n : Nat) : List LQ := (List.replicate n (LK.int .u8)).map .k
theorem fits_headU {b : List LQ} {cs : List Value} (h : fitsQ w (LQ.u64s 4 ++ b) cs) : ∃ n r, cs = concs (Rho.whole w) [.u n] ++ r ∧ n < M256 ∧ fitsQ w b r := by
  obtain ⟨u, r, rfl, hu, hr⟩ := fitsQ_unflat h
  match u, hu with
  | [x, y, z, t], hu =>
    obtain ⟨h1, h2, h3, h4, _⟩ := hu
    obtain ⟨e1, e2, e3, e4⟩ := limb_of4 h1 h2 h3 h4
    have b1 := bounds_u64 (fit_int h1).2
    have b2 := bounds_u64 (fit_int h2).2
    have b3 := bounds_u64 (fit_int h3).2
    have b4 := bounds_u64 (fit_int h4).2
    refine ⟨join (intV x) (intV y) (intV z) (intV t), r, ?_, join_lt (by omega) (by omega) (by omega) (by omega), hr⟩
    rw [concs_u, ← e1, ← e2, ← e3, ← e4]
theorem fits_headY {n : Nat} {b : List LQ} {cs : List Value} (h : fitsQ w (LQ.u8s n ++ b) cs) : ∃ g r, cs = concs (Rho.whole w) [.f .u8 n g] ++ r ∧ (∀ i, i < n → 0 ≤ g i ∧ g i < 256) ∧ fitsQ w b r := by
  obtain ⟨u, r, rfl, hu, hr⟩ := fitsQ_unflat h
  obtain ⟨g, rfl, hg⟩ := fits_rowU8 hu
  exact ⟨g, r, by rw [concs_f], hg, hr⟩
theorem fits_headI {b : List LQ} {cs : List Value} (h : fitsQ w (.k (.int .i64) :: b) cs) : ∃ n r, cs = concs (Rho.whole w) [.c (.val (.int .i64 n))] ++ r ∧ (-9223372036854775808 ≤ n ∧ n ≤ 9223372036854775807) ∧ fitsQ w b r := by
  match cs, h with
  | v :: r, h =>
    obtain ⟨e, q⟩ := fit_int h.1
    exact ⟨intV v, r, by rw [show concs (Rho.whole w) [.c (.val (.int .i64 (intV v)))] = [.int .i64 (intV v)] from rfl, ← e]; rfl, bounds_i64 q, h.2⟩
theorem fits_headT {b : List LQ} {cs : List Value} (h : fitsQ w (.k .text :: b) cs) : ∃ s r, cs = concs (Rho.whole w) [.c (.val (.string s))] ++ r ∧ s.size ≤ maxLen ∧ fitsQ w b r := by
  match cs, h with
  | v :: r, h =>
    have h1 : LK.text.fits v := h.1
    cases v <;> try exact h1.elim
    rename_i s
    exact ⟨s, r, rfl, h1, h.2⟩
theorem fits_headX {wd : Nat} {b : List LQ} {cs : List Value} (h : fitsQ w (.sl (List.replicate wd (.int .u8)) :: b) cs) : ∃ a m cap k r, cs = concs (Rho.whole w) [.c (.xs a m cap wd (u8F k))] ++ r ∧ m ≤ maxLen ∧ (∀ i, i < m → ∀ c, c < wd → 0 ≤ k i c ∧ k i c < 256) ∧ SC.bnd ⟨fun _ => False, (Rho.whole w).fz⟩ (.xs a m cap wd (u8F k)) ∧ fitsQ w b r := by
  match cs, h with
  | v :: r, h =>
    obtain ⟨a, m, cap, f, rfl, hm, hf, hb⟩ := h.1
    rw [List.length_replicate] at hb
    obtain ⟨k, hk, hb⟩ := fits_rowsU8 hf hb
    exact ⟨a, m, cap, k, r, rfl, hm, hk, hb, h.2⟩
def ldLQ : List LQ := .k (.int .i64) :: (LQ.u64s 4 ++ (LQ.u64s 4 ++ (LQ.u8s 32 ++ (.k (.int .i64) :: (LQ.u8s 32 ++ [.k (.int .i64), .k (.int .i64), .k .text, .sl (List.replicate 1 (.int .u8)), .k (.int .i64), .sl (List.replicate 20 (.int .u8))])))))
abbrev ksLd (kd : Int) (am fe : Nat) (tk : Nat → Int) (hm : Int) (to : Nat → Int) (tc dc : Int) (sy : ByteArray) (a : Option Addr) (m cap : Nat) (dk : Nat → Nat → Int) (ix : Int) (b : Option Addr) (y cy : Nat) (kk : Nat → Nat → Int) : List SK := [.c (.val (.int .i64 kd)), .u am, .u fe, .f .u8 32 tk, .c (.val (.int .i64 hm)), .f .u8 32 to, .c (.val (.int .i64 tc)), .c (.val (.int .i64 dc)), .c (.val (.string sy)), .c (.xs a m cap 1 (u8F dk)), .c (.val (.int .i64 ix)), .c (.xs b y cy 20 (u8F kk))]
structure loadIn (kd : Int) (am fe : Nat) (tk : Nat → Int) (hm : Int) (to : Nat → Int) (tc dc : Int) (sy : ByteArray) (m : Nat) (dk : Nat → Nat → Int) (ix : Int) (y : Nat) (kk : Nat → Nat → Int) : Prop where
  qkd : -9223372036854775808 ≤ kd ∧ kd ≤ 9223372036854775807
  qam : am < M256
  qfe : fe < M256
  qtk : ∀ i, i < 32 → 0 ≤ tk i ∧ tk i < 256
  qhm : -9223372036854775808 ≤ hm ∧ hm ≤ 9223372036854775807
  qto : ∀ i, i < 32 → 0 ≤ to i ∧ to i < 256
  qtc : -9223372036854775808 ≤ tc ∧ tc ≤ 9223372036854775807
  qdc : -9223372036854775808 ≤ dc ∧ dc ≤ 9223372036854775807
  qsy : sy.size ≤ maxLen
  qm : m ≤ maxLen
  qdk : ∀ i, i < m → ∀ c, c < 1 → 0 ≤ dk i c ∧ dk i c < 256
  qix : -9223372036854775808 ≤ ix ∧ ix ≤ 9223372036854775807
  qy : y ≤ maxLen
  qkk : ∀ i, i < y → ∀ c, c < 20 → 0 ≤ kk i c ∧ kk i c < 256
theorem fits_load {cs : List Value} (h : fitsQ w ldLQ cs) : ∃ (kd : Int) (am fe : Nat) (tk : Nat → Int) (hm : Int) (to : Nat → Int) (tc dc : Int) (sy : ByteArray) (a : Option Addr) (m cap : Nat) (dk : Nat → Nat → Int) (ix : Int) (b : Option Addr) (y cy : Nat) (kk : Nat → Nat → Int),
    cs = concs (Rho.whole w) (ksLd kd am fe tk hm to tc dc sy a m cap dk ix b y cy kk) ∧ loadIn kd am fe tk hm to tc dc sy m dk ix y kk ∧ SC.bnd ⟨fun _ => False, (Rho.whole w).fz⟩ (.xs a m cap 1 (u8F dk)) ∧ SC.bnd ⟨fun _ => False, (Rho.whole w).fz⟩ (.xs b y cy 20 (u8F kk)) := by
  obtain ⟨kd, r1, rfl, i1, h⟩ := fits_headI h
  obtain ⟨am, r2, rfl, i2, h⟩ := fits_headU h
  obtain ⟨fe, r3, rfl, i3, h⟩ := fits_headU h
  obtain ⟨tk, r4, rfl, i4, h⟩ := fits_headY h
  obtain ⟨hm, r5, rfl, i5, h⟩ := fits_headI h
  obtain ⟨to, r6, rfl, i6, h⟩ := fits_headY h
  obtain ⟨tc, r7, rfl, i7, h⟩ := fits_headI h
  obtain ⟨dc, r8, rfl, i8, h⟩ := fits_headI h
  obtain ⟨sy, r9, rfl, i9, h⟩ := fits_headT h
  obtain ⟨a, m, cap, dk, r10, rfl, i10, j10, k10, h⟩ := fits_headX h
  obtain ⟨ix, r11, rfl, i11, h⟩ := fits_headI h
  obtain ⟨b, y, cy, kk, r12, rfl, i12, j12, k12, h⟩ := fits_headX h
  cases r12 with
  | cons _ _ => exact h.elim
  | nil =>
    refine ⟨kd, am, fe, tk, hm, to, tc, dc, sy, a, m, cap, dk, ix, b, y, cy, kk, ?_, ⟨i1, i2, i3, i4, i5, i6, i7, i8, i9, i10, j10, i11, i12, j12⟩, k10, k12⟩
    simp only [concs, flat, List.map_append, List.append_nil, List.append_assoc]
end
end Go.Sx
end

section
namespace Go.Proofs.Ytpebkgbelifdgaa
open Go.Sx
set_option maxRecDepth 100000
theorem ok_rwd (s : ByteArray) (_ : (s.size : Int) ≤ 9223372036854775807) : Owes Try.prog Cx.none [(3, .inv (invWd s))] 12 Try.f36 [sStr s] (.one (.agg [.f .u8 32 (wrdF s)])) := by
  rw [vc_rwd]
  have z : ∀ j, wrdG 0 s j = 0 := fun j => if_neg (by omega)
  refine ⟨fun _ => rfl, 0, ⟨Nat.zero_le _, by decide⟩, rfl, rfl, ?_, rfl, ?_, rfl, fun i hi => ⟨fun h => h, fun h => h, fun h => ?_, fun h => ?_⟩⟩
  · simp only [and_self]
  · simp only [z, and_self]
  · obtain ⟨h1, h2⟩ := Bool.and_eq_true_iff.1 h
    have h1 := of_decide_eq_true h1
    have h2 := of_decide_eq_true h2
    refine ⟨⟨by omega, by omega⟩, ⟨by omega, by omega⟩, ⟨by omega, by omega⟩, i + 1, ⟨by omega, by omega⟩, rfl, by rw [IntKind.wrap_i64]; omega, ⟨fun _ _ => rfl, trivial⟩, rfl, ⟨fun j _ => ?_, trivial⟩, rfl, by show s.size - (i + 1) + 1 ≤ s.size - i; omega⟩
    unfold wrdG
    rw [Int.toNat_natCast]
    by_cases e : j = i
    · subst e; rw [if_pos rfl, if_pos (by omega)]
    · rw [if_neg e]
      by_cases e' : j < i
      · rw [if_pos e', if_pos (by omega)]
      · rw [if_neg e', if_neg (by omega)]
  · refine ⟨fun j hj => ?_, trivial⟩
    have hx : s.size ≤ i ∨ 32 ≤ i := by
      rcases Bool.and_eq_false_iff.1 h with h | h
      · have := of_decide_eq_false h; omega
      · have := of_decide_eq_false h; omega
    unfold wrdG wrdF
    by_cases e : j < i
    · rw [if_pos e, if_pos (by omega)]
    · rw [if_neg e, if_neg (by omega)]
theorem card_rwd : FnOK Try.prog 36 specWd := by
  refine FnOK_owesG (cx := Cx.none) pcx_none Try.func36 (by kernel_rfl) (by kernel_rfl) fun args ps sv hs hp => ?_
  unfold specWd at hs
  split at hs
  · rename_i s
    simp only [Option.some.injEq, Prod.mk.injEq] at hs
    obtain ⟨rfl, rfl⟩ := hs
    refine ⟨_, _, [.sc (.val (.string s))], fun ρ => rfl, ?_, fun k hk => ?_, ok_rwd s hp.1⟩
    · intro fz _ x hx
      rw [List.mem_singleton.1 hx]; exact trivial
    · rw [List.mem_singleton.1 hk]; exact trivial
  · cases hs
theorem sl_LB : ∀ p ∈ slLB, FnOKs Try.prog [] p.1 p.2 := oks_cons card_lft oks_nil
theorem okx_LB : CxOK Try.prog cxLB := okx_cons card_rbig (okx_cons card_rtxt okx_nil)
theorem okx_LB2 : CxOK Try.prog cxLB2 := okx_cons card_rbig (okx_cons card_rtxt (okx_cons card_rwd okx_nil))
theorem card_rlb {gl : Globs} : FnOKs Try.prog gl 20 cRlb := by
  refine FnOKs_cases fun ls hc => ⟨fun l => [l = ls], ⟨rfl, trivial⟩, ?_⟩
  unfold ldC at hc
  split at hc
  · rename_i kd am fe tk hm to tc dc sy a m cap f ix b y cy h
    obtain ⟨p, _⟩ := hc
    have hq : ldQ sy a m (u8F (kOf f)) b y (u8F (kOf h)) := ⟨rfl, rfl, p.qs, p.qy, p.qa, p.qb⟩
    by_cases h1 : kd = 1
    · subst h1
      refine FnOKs.up0 (FnOKs_RM (cx := cxLB) okx_LB (sl := slLB) sl_LB Try.func20 (by kernel_rfl) (by kernel_rfl) fun l hl => ?_) gl
      obtain ⟨rfl, _⟩ := hl
      have := ok_rlb1 am fe tk hm to tc dc sy a m cap (kOf f) ix b y cy (kOf h) hq
      unfold kLd at this
      rw [← p.qf, ← p.qh] at this
      refine ⟨_, _, _, ?_, ?_, fun r hr => ?_, this⟩
      · exact fun ρ => rfl
      · exact lit_bnd
      rcases List.mem_cons.1 hr with rfl | hr
      · trivial
      · rw [List.mem_singleton.1 hr]; exact trivial
    by_cases h2 : kd = 2
    · subst h2
      refine FnOKs.up0 (FnOKs_RM (cx := cxLB2) okx_LB2 (sl := slLB) sl_LB Try.func20 (by kernel_rfl) (by kernel_rfl) fun l hl => ?_) gl
      obtain ⟨rfl, _⟩ := hl
      have := ok_rlb2 am fe tk hm to tc dc sy a m cap (kOf f) ix b y cy (kOf h) hq
      unfold kLd at this
      rw [← p.qf, ← p.qh] at this
      refine ⟨_, _, _, ?_, ?_, fun r hr => ?_, this⟩
      · exact fun ρ => rfl
      · exact lit_bnd
      rcases List.mem_cons.1 hr with rfl | hr
      · trivial
      · rw [List.mem_singleton.1 hr]; exact trivial
    by_cases h3 : kd = 3
    · subst h3
      refine FnOKs.up0 (FnOKs_RM (cx := cxLB) okx_LB (sl := slLB) sl_LB Try.func20 (by kernel_rfl) (by kernel_rfl) fun l hl => ?_) gl
      obtain ⟨rfl, _⟩ := hl
      have := ok_rlb3 am fe tk hm to tc dc sy a m cap (kOf f) ix b y cy (kOf h) hq
      unfold kLd at this
      rw [← p.qf, ← p.qh] at this
      refine ⟨_, _, _, ?_, ?_, fun r hr => ?_, this⟩
      · exact fun ρ => rfl
      · exact lit_bnd
      rcases List.mem_cons.1 hr with rfl | hr
      · trivial
      · rw [List.mem_singleton.1 hr]; exact trivial
    by_cases h4 : kd = 4
    · subst h4
      refine FnOKs.up0 (FnOKs_RM (cx := cxLB) okx_LB (sl := slLB) sl_LB Try.func20 (by kernel_rfl) (by kernel_rfl) fun l hl => ?_) gl
      obtain ⟨rfl, _⟩ := hl
      have := ok_rlb4 am fe tk hm to tc dc sy a m cap (kOf f) ix b y cy (kOf h) hq
      unfold kLd at this
      rw [← p.qf, ← p.qh] at this
      refine ⟨_, _, _, ?_, ?_, fun r hr => ?_, this⟩
      · exact fun ρ => rfl
      · exact lit_bnd
      rcases List.mem_cons.1 hr with rfl | hr
      · trivial
      · rw [List.mem_singleton.1 hr]; exact trivial
    · have e : ¬ (kd = 1 ∨ kd = 2 ∨ kd = 3 ∨ kd = 4) := by omega
      refine FnOKs.up0 (FnOKs_RM (cx := cxLB2) okx_LB2 (sl := slLB) sl_LB Try.func20 (by kernel_rfl) (by kernel_rfl) fun l hl => ?_) gl
      obtain ⟨rfl, _⟩ := hl
      have := ok_rlb0 kd am fe tk hm to tc dc sy a m cap (kOf f) ix b y cy (kOf h) (cellT (ldT kd am fe tk hm to tc dc sy m (kOf f) ix y (kOf h))) hq e
      unfold kLd at this
      rw [← p.qf, ← p.qh] at this
      refine ⟨[(13, .inv (invLB am fe tk hm to tc dc sy a m cap (kOf f) ix b y cy (kOf h)))], 30, _, fun ρ => rfl, fun E hE => hE, fun r hr => ?_, ?_⟩
      rotate_left 1
      · show OwesR _ _ _ _ _ _ _ _ [.s (if ldE _ _ _ _ _ _ _ _ _ _ _ _ = 0 then _ else 0) .u8 _, .v (sI .i64 (ldE _ _ _ _ _ _ _ _ _ _ _ _))]
        rw [ldE_kind e]
        exact this
      rcases List.mem_cons.1 hr with rfl | hr
      · trivial
      · rw [List.mem_singleton.1 hr]; exact trivial
  · exact hc.1.elim
theorem len_same (kd : Int) (am fe : Nat) (tk : Nat → Int) (hm : Int) (to : Nat → Int) (tc dc : Int) (sy : ByteArray) (m : Nat) (dk : Nat → Nat → Int) (ix : Int) (y : Nat) (kk : Nat → Nat → Int) :
    bytesI ((List.range (if ldE kd am fe tk hm to tc dc sy m ix y = 0 then ldN kd m y else 0)).map fun j => ldB kd am fe tk hm to tc dc sy dk ix y kk j) = bytesI ((List.range (if ldE kd am fe tk hm to tc dc sy m ix y = 0 then ldN kd m y else 0)).map fun j => cellT (ldT kd am fe tk hm to tc dc sy m dk ix y kk) j) := by
  by_cases h0 : ldE kd am fe tk hm to tc dc sy m ix y = 0
  · rw [if_pos h0]
    have key : ldT kd am fe tk hm to tc dc sy m dk ix y kk = bytesI ((List.range (ldN kd m y)).map (ldB kd am fe tk hm to tc dc sy dk ix y kk)) := by
      unfold ldT ldN ldB
      rcases ldE_good h0 with ⟨hk | hk, _, _, _, _, _, _, hm0, _⟩ | ⟨hk, _⟩ | ⟨hk, _⟩
      · have := hm0 hk
        subst hk this
        exact t13_row 1 am fe tk hm to tc 0 dk rfl
      · subst hk
        exact t13_row 3 am fe tk hm to tc m dk rfl
      · subst hk
        exact t2_row tk hm dc sy
      · subst hk
        exact trnS_row ix y kk y
    have h := byI_back (ldT kd am fe tk hm to tc dc sy m dk ix y kk)
    have e : (ldT kd am fe tk hm to tc dc sy m dk ix y kk).size = ldN kd m y := by rw [key, row_size]
    rw [e] at h
    exact key.symm.trans h.symm
  · rw [if_neg h0]
    rfl
theorem okl_LoadEncodes (kd : Int) (am fe : Nat) (tk : Nat → Int) (hm : Int) (to : Nat → Int) (tc dc : Int) (sy : ByteArray) (a : Option Addr) (m cap : Nat) (dk : Nat → Nat → Int) (ix : Int) (b : Option Addr) (y cy : Nat) (kk : Nat → Nat → Int)
    (h : loadIn kd am fe tk hm to tc dc sy m dk ix y kk) (ha : a = none → m = 0) (hb : b = none → y = 0) :
    OwesV Try.prog Cx.none slLE [] 30 Try.f7 [aLd kd am fe tk hm to tc dc sy a m cap dk ix b y cy kk] yes := by
  rw [vc_LoadEncodes]
  have k1 : ∀ k : Nat → Nat → Int, kOf (u8F k) = k := fun _ => rfl
  have hML : maxLen = 9223372036854775807 := rfl
  have hs := h.qsy
  have hy := h.qy
  have q : ldQ sy a m (u8F dk) b y (u8F kk) := ⟨rfl, rfl, by omega, by omega, ha, hb⟩
  intro x1 x2 x3
  have e : x3 = true := by
    show ((bytesI _).toList == (bytesI _).toList) = true
    rw [beq_iff_eq]
    exact congrArg ByteArray.toList (len_same ..)
  rw [e]
  clear_value x1 x2 x3
  simp only [k1, q, eq_self, implies_true, and_self, true_and, and_true, beq_self_eq_true, Bool.and_self, Bool.true_and]
theorem sl_LE : ∀ p ∈ slLE, FnOKs Try.prog [] p.1 p.2 := oks_cons card_len (oks_cons card_rlb oks_nil)
end Go.Proofs.Ytpebkgbelifdgaa
end
