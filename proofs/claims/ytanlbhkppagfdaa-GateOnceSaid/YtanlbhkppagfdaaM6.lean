/-
  Texts: SxS.
-/
import Derived.Test.YtanlbhkppagfdaaM1
import Derived.Test.YtanlbhkppagfdaaM2
import Derived.Test.YtanlbhkppagfdaaM3
import Derived.Test.YtanlbhkppagfdaaM4
import Derived.Test.YtanlbhkppagfdaaM5
section
namespace Go.Sx
open Go.RowKit
def asU4 (l : List SC) : Option (List Prop × Nat) :=
  match l with
  | [.num .u64 a, .num .u64 b, .num .u64 c, .num .u64 d] => if okLit a && okLit b && okLit c && okLit d then some ([], join a b c d) else none
  | [a, b, c, d] =>
    match asI (.sc a), asI (.sc b), asI (.sc c), asI (.sc d) with
    | some (.u64, a), some (.u64, b), some (.u64, c), some (.u64, d) => some ([0 ≤ a ∧ a < 2 ^ 64, 0 ≤ b ∧ b < 2 ^ 64, 0 ≤ c ∧ c < 2 ^ 64, 0 ≤ d ∧ d < 2 ^ 64], join a b c d)
    | _, _, _, _ => none
  | _ => none
theorem asU4_sound {l : List SC} {ps : List Prop} {n : Nat} (h : asU4 l = some (ps, n)) (hp : Ok ps) (ρ : Rho) : Value.agg (l.map (SC.conc ρ)).toArray = U n := by
  unfold asU4 at h
  split at h
  · rename_i a b c d
    split at h
    · rename_i hl
      simp only [Option.some.injEq, Prod.mk.injEq] at h
      obtain ⟨_, rfl⟩ := h
      simp only [Bool.and_eq_true] at hl
      obtain ⟨⟨⟨ha, hb⟩, hc⟩, hd⟩ := hl
      rw [U_join (okLit_iff ha) (okLit_iff hb) (okLit_iff hc) (okLit_iff hd)]; rfl
    · cases h
  · split at h
    · rename_i ha hb hc hd
      simp only [Option.some.injEq, Prod.mk.injEq] at h
      obtain ⟨rfl, rfl⟩ := h
      obtain ⟨h1, h2, h3, h4, _⟩ := hp
      rw [U_join h1 h2 h3 h4]
      have e1 := asI_sound ha ρ; have e2 := asI_sound hb ρ; have e3 := asI_sound hc ρ; have e4 := asI_sound hd ρ
      simp only [SA.conc] at e1 e2 e3 e4
      simp [e1, e2, e3, e4]
    · cases h
  · cases h
def sameV : Value → Value → Prop
  | .int .u64 a, .int .u64 b | .int .i64 a, .int .i64 b | .int .u8 a, .int .u8 b | .int .i32 a, .int .i32 b => a = b
  | .bool a, .bool b => a = b
  | .string a, .string b => a = b
  | v, w => v = w
def sameC (x y : SC) : Prop :=
  match x, y with
  | .ptr o off, .ptr o' off' => o = o' ∧ off = off'
  | .sl o off len cap, .sl o' off' len' cap' => o = o' ∧ off = off' ∧ len = len' ∧ cap = cap'
  | .sls o base lo hi cap, .sls o' base' lo' hi' cap' => o = o' ∧ base = base' ∧ lo = lo' ∧ hi = hi' ∧ cap = cap'
  | .fn f caps, .fn f' caps' => f = f' ∧ caps = caps'
  | .ptw o w i c, .ptw o' w' i' c' => o = o' ∧ w = w' ∧ i = i' ∧ c = c'
  | .slw o w off len cap, .slw o' w' off' len' cap' => o = o' ∧ w = w' ∧ off = off' ∧ len = len' ∧ cap = cap'
  | .ifc t o off, .ifc t' o' off' => t = t' ∧ o = o' ∧ off = off'
  | x, y =>
    match asV (.sc x), asV (.sc y) with
    | some v, some w => sameV v w
    | _, _ => False
def noX : SC → Bool
  | .xs _ _ _ _ _ | .px _ _ _ => false
  | _ => true
def allC : Nat → (Nat → Prop) → Prop
  | 0, _ => True
  | 1, f => f 0
  | n + 2, f => f 0 ∧ allC (n + 1) (fun c => f (c + 1))
theorem allC_at : ∀ {n : Nat} {f : Nat → Prop}, allC n f → ∀ c, c < n → f c
  | 0, _, _, c, hc => by omega
  | 1, f, h, c, hc => by
    have : c = 0 := by omega
    subst this; exact h
  | n + 2, f, h, c, hc => by
    match c with
    | 0 => exact h.1
    | c + 1 => exact allC_at (f := fun c => f (c + 1)) h.2 c (by omega)
def nilX (x y : SC) : Prop :=
  match y with
  | .xs a n cap _ _ => match x with
    | .val (.slice none 0 0) => a = none ∧ n = 0 ∧ cap = 0
    | _ => False
  | _ => False
def simC : SC → SC → Prop
  | .xs a n cap w g, .xs a' n' cap' w' g' => match Nat.beq w w' with
    | true => a = a' ∧ n = n' ∧ cap = cap' ∧ ∀ i, i < n → allC w (fun c => simC (g i c) (g' i c))
    | false => False
  | .px a m h, .px a' m' h' => match Nat.beq m m' with
    | true => a = a' ∧ allC m (fun c => simC (h c) (h' c))
    | false => False
  | x, y => match noX y with
    | true => sameC x y
    | false => nilX x y
def sameF : List SC → List SC → Prop
  | [], [] => True
  | x :: r, y :: r' => sameC x y ∧ sameF r r'
  | _, _ => False
def sameK : List SK → List SK → Prop
  | [], [] => True
  | .u a :: r, .u b :: r' => a % M256 = b % M256 ∧ sameK r r'
  | .f k n g :: r, .f k' n' g' :: r' => if k = k' ∧ n = n' then (∀ j, j < n → g j = g' j) ∧ sameK r r' else sameF (flat (.f k n g :: r)) (flat (.f k' n' g' :: r'))
  | .c a :: .c b :: .c c :: .c d :: r, .u n :: r' =>
    match asU4 [a, b, c, d] with
    | some (ps, m) => ands ps (m % M256 = n % M256 ∧ sameK r r')
    | none => False
  | .u n :: r, .c a :: .c b :: .c c :: .c d :: r' =>
    match asU4 [a, b, c, d] with
    | some (ps, m) => ands ps (n % M256 = m % M256 ∧ sameK r r')
    | none => False
  | .f .u64 4 g :: r, .u n :: r' => ands [0 ≤ g 0 ∧ g 0 < 2 ^ 64, 0 ≤ g 1 ∧ g 1 < 2 ^ 64, 0 ≤ g 2 ∧ g 2 < 2 ^ 64, 0 ≤ g 3 ∧ g 3 < 2 ^ 64] (join (g 0) (g 1) (g 2) (g 3) % M256 = n % M256 ∧ sameK r r')
  | .c x :: r, .c y :: r' => sameC x y ∧ sameK r r'
  | xs, ys => sameF (flat xs) (flat ys)
def sameA : SA → SA → Prop
  | .sc x, .sc y => sameC x y
  | .agg ks, .agg ks' => sameK ks ks'
  | _, _ => False
def sameL : List SA → List SA → Prop
  | [], [] => True
  | [x], [y] => sameA x y
  | x :: r, y :: r' => sameA x y ∧ sameL r r'
  | _, _ => False
def same : SV → SV → Prop
  | .one x, .one y => sameA x y
  | .tup xs, .tup ys => sameL xs ys
  | _, _ => False
theorem sameV_sound {v w : Value} (h : sameV v w) : v = w := by
  unfold sameV at h
  split at h <;> first | (rw [h]; done) | exact h
theorem sameC_sound {x y : SC} (h : sameC x y) (ρ : Rho) : x.conc ρ = y.conc ρ := by
  unfold sameC at h
  split at h
  · obtain ⟨rfl, rfl⟩ := h; rfl
  · obtain ⟨rfl, rfl, rfl, rfl⟩ := h; rfl
  · obtain ⟨rfl, rfl, rfl, rfl, rfl⟩ := h; rfl
  · obtain ⟨rfl, rfl⟩ := h; rfl
  · obtain ⟨rfl, rfl, rfl, rfl⟩ := h; rfl
  · obtain ⟨rfl, rfl, rfl, rfl, rfl⟩ := h; rfl
  · obtain ⟨rfl, rfl, rfl⟩ := h; rfl
  · split at h
    · rename_i v w hv hw
      have h1 := asV_sound hv ρ
      have h2 := asV_sound hw ρ
      simp only [SA.conc] at h1 h2
      rw [h1, h2, sameV_sound h]
    · exact h.elim
theorem sameC_bnd {x y : SC} (h : sameC x y) {E : Env} (hb : x.bnd E) : y.bnd E := by
  unfold sameC at h
  split at h
  · obtain ⟨rfl, rfl⟩ := h; exact hb
  · obtain ⟨rfl, rfl, rfl, rfl⟩ := h; exact hb
  · obtain ⟨rfl, rfl, rfl, rfl, rfl⟩ := h; exact hb
  · obtain ⟨rfl, rfl⟩ := h; exact hb
  · obtain ⟨rfl, rfl, rfl, rfl⟩ := h; exact hb
  · obtain ⟨rfl, rfl, rfl, rfl, rfl⟩ := h; exact hb
  · obtain ⟨rfl, rfl, rfl⟩ := h; exact hb
  · split at h
    · rename_i v w hv hw
      cases y <;> first | trivial | (simp [asV] at hw; done)
    · exact h.elim
theorem nilX_sound {x y : SC} (h : nilX x y) (ρ : Rho) : x.conc ρ = y.conc ρ := by
  unfold nilX at h
  split at h
  case h_2 => exact h.elim
  split at h
  case h_2 => exact h.elim
  obtain ⟨rfl, rfl, rfl⟩ := h
  rfl
theorem nilX_bnd {x y : SC} {E : Env} (h : nilX x y) : y.bnd E := by
  unfold nilX at h
  split at h
  case h_2 => exact h.elim
  split at h
  case h_2 => exact h.elim
  obtain ⟨rfl, rfl, rfl⟩ := h
  exact ⟨fun _ => ⟨rfl, rfl⟩, Nat.le_refl _, fun b hb => by cases hb⟩
theorem simC_sound (ρ : Rho) : ∀ {x y : SC}, simC x y → x.conc ρ = y.conc ρ := by
  intro x y h
  unfold simC at h
  split at h
  · split at h
    · obtain ⟨rfl, rfl, rfl, _⟩ := h; rfl
    · exact h.elim
  · split at h
    · obtain ⟨rfl, _⟩ := h; rfl
    · exact h.elim
  · split at h
    · exact sameC_sound h ρ
    · exact nilX_sound h ρ
theorem fit_iff (z : SC) : z.fit = oneCell (z.conc Rho.nil) := by cases z <;> rfl
theorem simC_fit {x y : SC} (h : simC x y) (hf : x.fit = true) : y.fit = true := by
  rw [fit_iff] at hf ⊢
  rw [← simC_sound Rho.nil h]; exact hf
theorem simC_bnd (x : SC) : ∀ {y : SC} {E : Env}, simC x y → x.bnd E → y.bnd E := by
  have plain : ∀ {x y : SC} {E : Env}, (match noX y with | true => sameC x y | false => nilX x y) → x.bnd E → y.bnd E := by
    intro x y E h hb
    split at h
    · exact sameC_bnd h hb
    · exact nilX_bnd h
  induction x with
  | xs a n cap w g ih =>
    intro y E h hb
    unfold simC at h
    split at h
    · rename_i a1 n1 c1 w1 g1 a2 n2 c2 w2 g2 e
      simp only [SC.xs.injEq] at e
      obtain ⟨rfl, rfl, rfl, rfl, rfl⟩ := e
      split at h
      · rename_i hw
        have hw := Nat.eq_of_beq_eq_true hw
        subst hw
        obtain ⟨rfl, rfl, rfl, h4⟩ := h
        obtain ⟨k1, k2, k3⟩ := hb
        refine ⟨k1, k2, fun b hb => ⟨(k3 b hb).1, fun i hi c hc => ?_⟩⟩
        obtain ⟨q1, q2, q3⟩ := (k3 b hb).2 i hi c hc
        have hs := allC_at (h4 i hi) c hc
        exact ⟨ih i c hs q1, simC_fit hs q2, by rw [← simC_sound Rho.nil hs]; exact q3⟩
      · exact h.elim
    · rename_i e; cases e
    · exact plain h hb
  | px a m g ih =>
    intro y E h hb
    unfold simC at h
    split at h
    · rename_i e; cases e
    · rename_i a1 m1 g1 a2 m2 g2 e
      simp only [SC.px.injEq] at e
      obtain ⟨rfl, rfl, rfl⟩ := e
      split at h
      · rename_i hw
        have hw := Nat.eq_of_beq_eq_true hw
        subst hw
        obtain ⟨rfl, h4⟩ := h
        obtain ⟨k1, k2⟩ := hb
        refine ⟨k1, fun c hc => ?_⟩
        obtain ⟨q1, q2, q3⟩ := k2 c hc
        have hs := allC_at h4 c hc
        exact ⟨ih c hs q1, simC_fit hs q2, by rw [← simC_sound Rho.nil hs]; exact q3⟩
      · exact h.elim
    · exact plain h hb
  | _ =>
    intro y E h hb
    unfold simC at h
    exact plain h hb
theorem sameF_sound (ρ : Rho) : ∀ {xs ys : List SC}, sameF xs ys → xs.map (SC.conc ρ) = ys.map (SC.conc ρ)
  | [], [], _ => rfl
  | x :: r, y :: r', h => by simp only [sameF] at h; rw [List.map_cons, List.map_cons, sameC_sound h.1 ρ, sameF_sound ρ h.2]
  | [], _ :: _, h | _ :: _, [], h => by simp [sameF] at h
theorem concs_cons (ρ : Rho) (k : SK) (r : List SK) : concs ρ (k :: r) = concs ρ [k] ++ concs ρ r := by simp [concs, flat]
theorem concs_u (ρ : Rho) (n : Nat) : concs ρ [.u n] = [.int .u64 (limb n 0), .int .u64 (limb n 1), .int .u64 (limb n 2), .int .u64 (limb n 3)] := rfl
theorem concs_f (ρ : Rho) (k : IntKind) (n : Nat) (g : Nat → Int) : concs ρ [.f k n g] = (List.range n).map fun j => .int k (g j) := by
  simp [concs, flat, SK.cells, Function.comp_def, SC.conc]
theorem asU4_concs {l : List SC} {ps : List Prop} {n : Nat} (h : asU4 l = some (ps, n)) (hp : Ok ps) (ρ : Rho) : l.map (SC.conc ρ) = concs ρ [.u n] := by
  have := asU4_sound h hp ρ
  simp only [U, Value.agg.injEq] at this
  rw [concs_u]
  have e := congrArg Array.toList this
  simpa using e
theorem concs_u_congr {a b : Nat} (h : a % M256 = b % M256) (ρ : Rho) : concs ρ [.u a] = concs ρ [.u b] := by
  obtain ⟨h0, h1, h2, h3⟩ := limbs_eq.1 h
  rw [concs_u, concs_u, h0, h1, h2, h3]
theorem sameK_sound (ρ : Rho) (xs ys : List SK) : sameK xs ys → concs ρ xs = concs ρ ys := by
  induction xs, ys using sameK.induct with
  | case1 => intro _; rfl
  | case2 a r b r' ih =>
    intro h
    simp only [sameK] at h
    rw [concs_cons, concs_cons ρ (.u b), concs_u_congr h.1, ih h.2]
  | case3 k n g r k' n' g' r' he ih =>
    intro h
    simp only [sameK, if_pos he] at h
    obtain ⟨rfl, rfl⟩ := he
    obtain ⟨hg, h⟩ := h
    rw [concs_cons, concs_cons ρ (.f k n g'), concs_f, concs_f, ih h]
    congr 1
    exact List.map_congr_left fun j hj => by rw [hg j (List.mem_range.1 hj)]
  | case4 k n g r k' n' g' r' he =>
    intro h
    simp only [sameK, if_neg he] at h
    exact sameF_sound ρ h
  | case5 a b c d r n r' ps m hm ih =>
    intro h
    simp only [sameK, hm] at h
    obtain ⟨hp, h1, h2⟩ := ands_iff.1 h
    have := asU4_concs hm hp ρ
    rw [concs_cons ρ (.u n), ← concs_u_congr h1, ← this, ← ih h2]
    simp [concs, flat, SK.cells]
  | case6 a b c d r n r' hm =>
    intro h
    simp only [sameK, hm] at h
  | case7 n r a b c d r' ps m hm ih =>
    intro h
    simp only [sameK, hm] at h
    obtain ⟨hp, h1, h2⟩ := ands_iff.1 h
    have := asU4_concs hm hp ρ
    rw [concs_cons ρ (.u n), concs_u_congr h1, ← this, ih h2]
    simp [concs, flat, SK.cells]
  | case8 n r a b c d r' hm =>
    intro h
    simp only [sameK, hm] at h
  | case9 g r n r' ih =>
    intro h
    simp only [sameK] at h
    obtain ⟨⟨h1, h2, h3, h4, _⟩, he, h⟩ := ands_iff.1 h
    have hj := limb_join h1 h2 h3 h4
    rw [concs_cons, concs_cons ρ (.u n), ← concs_u_congr he, ih h, concs_u, hj.1, hj.2.1, hj.2.2.1, hj.2.2.2]
    rfl
  | case10 x r y r' ih =>
    intro h
    simp only [sameK] at h
    rw [concs_cons, concs_cons ρ (.c y), ih h.2]
    simp [concs, flat, SK.cells, sameC_sound h.1 ρ]
  | case11 xs ys h1 h2 h3 h4 h5 h6 h7 =>
    intro h
    rw [sameK] at h <;> first | exact sameF_sound ρ h | assumption
theorem sameA_sound (ρ : Rho) {x y : SA} (h : sameA x y) : x.conc ρ = y.conc ρ := by
  unfold sameA at h
  split at h
  · exact sameC_sound h ρ
  · simp only [SA.conc, sameK_sound ρ _ _ h]
  · exact h.elim
theorem sameL_sound (ρ : Rho) : ∀ {xs ys : List SA}, sameL xs ys → xs.map (SA.conc ρ) = ys.map (SA.conc ρ)
  | [], [], _ => rfl
  | [x], [y], h => by simp only [sameL] at h; simp [sameA_sound ρ h]
  | x :: x' :: r, y :: y' :: r', h => by
    simp only [sameL] at h
    rw [List.map_cons, sameA_sound ρ h.1, sameL_sound ρ (ys := y' :: r') h.2]; rfl
  | [x], y :: y' :: r', h => by simp only [sameL] at h; cases r' <;> simp at h
  | x :: x' :: r, [y], h => by simp only [sameL] at h; cases r <;> simp at h
  | [], _ :: _, h => by simp [sameL] at h
  | _ :: _, [], h => by simp [sameL] at h
theorem same_sound {s s' : SV} (h : same s s') (ρ : Rho) (v : Value) (hr : s.rep ρ v) : s'.rep ρ v := by
  unfold same at h
  split at h
  · simp only [SV.rep] at hr ⊢; rw [hr, sameA_sound ρ h]
  · simp only [SV.rep] at hr ⊢; rw [hr, sameL_sound ρ h]
  · exact h.elim
end Go.Sx
end
