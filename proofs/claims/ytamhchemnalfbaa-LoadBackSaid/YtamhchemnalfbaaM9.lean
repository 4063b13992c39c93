/-
  Texts: Wsp, Wsp2, Wsp3, Wsp4, Wsp6, Wsp5, Wsp7, Wsp8, V90, P140, V92, P141, V1, V2, V4, P1, P2, P3, P4, P5, P6, P7, Lift, C1, C2, P9, Sx15.
-/
import Derived.Test.YtamhchemnalfbaaM1
import Derived.Test.YtamhchemnalfbaaM2
import Derived.Test.YtamhchemnalfbaaM3
import Derived.Test.YtamhchemnalfbaaM4
import Derived.Test.YtamhchemnalfbaaM5
import Derived.Test.YtamhchemnalfbaaM6
import Derived.Test.YtamhchemnalfbaaM7
import Derived.Test.YtamhchemnalfbaaM8
import Derived.Test.YtamhchemnalfbaaChecked
import Derived.Test.YtamhchemnalfbaaRows
import Derived.Lib.Mul64
import Derived.ProofKit
import Derived.OpenShut
section
namespace Go.Sx
open Go.RowKit
theorem asI_canon {x : SA} {k : IntKind} {n : Int} (h : asI x = some (k, n)) (ρ : Rho) : x.conc ρ = (sI k n).conc ρ := asI_sound h ρ
def specU (g : Nat → SV) : FSpec := fun args =>
  match args with
  | [x] => match asU x with
    | some (p, a) => some (p, g a)
    | none => none
  | _ => none
theorem FnOK_U {P : Program} {cx : Cx} (hcx : CxOK P cx) {iv : List (Nat × Hint)} {N : Nat} {f : Nat} {fn : Func} (hf : P.funcs[f]? = some fn) (hb : fn.body.isSome = true) (hn : (fn.name == "runtime.NumGoroutine") = false) {g : Nat → SV} (hg : ∀ a, (g a).bnd none0)
    (h : ∀ a, Owes P cx iv N fn [sU a] (g a)) : FnOKg P cx.gl f (specU g) := by
  refine FnOK_owes (iv := iv) (N := N) hcx hf hb hn fun args ps sv hs hp => ?_
  unfold specU at hs
  split at hs
  · rename_i x
    split at hs
    · rename_i p a ha
      simp only [Option.some.injEq, Prod.mk.injEq] at hs
      obtain ⟨rfl, rfl⟩ := hs
      refine ⟨[sU a], fun ρ => by simp only [List.map_cons, List.map_nil, asU_canon ha hp ρ], ?_, hg a, h a⟩
      intro z hz
      simp only [List.mem_singleton] at hz
      subst hz
      intro k hk; simp only [List.mem_singleton] at hk; subst hk; trivial
    · cases hs
  · cases hs
def specII (c : Int → Int → List Prop) (g : Int → Int → SV) : FSpec := fun args =>
  match args with
  | [x, y] => match asI x, asI y with
    | some (.i64, a), some (.i64, b) => some (c a b, g a b)
    | _, _ => none
  | _ => none
theorem FnOK_II {P : Program} {cx : Cx} (hcx : CxOK P cx) {iv : List (Nat × Hint)} {N : Nat} {f : Nat} {fn : Func} (hf : P.funcs[f]? = some fn) (hb : fn.body.isSome = true) (hn : (fn.name == "runtime.NumGoroutine") = false) {c : Int → Int → List Prop} {g : Int → Int → SV} (hg : ∀ a b, (g a b).bnd none0)
    (h : ∀ a b, Ok (c a b) → Owes P cx iv N fn [sI .i64 a, sI .i64 b] (g a b)) : FnOKg P cx.gl f (specII c g) := by
  refine FnOK_owes (iv := iv) (N := N) hcx hf hb hn fun args ps sv hs hp => ?_
  unfold specII at hs
  split at hs
  · rename_i x y
    split at hs
    · rename_i a b ha hb'
      simp only [Option.some.injEq, Prod.mk.injEq] at hs
      obtain ⟨rfl, rfl⟩ := hs
      refine ⟨[sI .i64 a, sI .i64 b], fun ρ => by simp only [List.map_cons, List.map_nil, asI_canon ha ρ, asI_canon hb' ρ], ?_, hg a b, h a b hp⟩
      intro z hz
      simp only [List.mem_cons, List.not_mem_nil, or_false] at hz
      rcases hz with rfl | rfl <;> trivial
    · cases hs
  · cases hs
abbrev sRaw (k a b : Int) (s : ByteArray) : SA := .agg [.c (.val (.int .i64 k)), .c (.val (.int .i64 a)), .c (.val (.int .i64 b)), .c (.val (.string s))]
def i64ok (n : Int) : Prop := -9223372036854775808 ≤ n ∧ n ≤ 9223372036854775807
def specRaw (g : Int → Int → Int → ByteArray → SV) : FSpec := fun args =>
  match args with
  | [.agg [.c (.val (.int .i64 k)), .c (.val (.int .i64 a)), .c (.val (.int .i64 b)), .c (.val (.string s))]] => some ([i64ok k, i64ok a, i64ok b], g k a b s)
  | _ => none
theorem FnOK_Raw {P : Program} {cx : Cx} (hcx : CxOK P cx) {iv : List (Nat × Hint)} {N : Nat} {f : Nat} {fn : Func} (hf : P.funcs[f]? = some fn) (hb : fn.body.isSome = true) (hn : (fn.name == "runtime.NumGoroutine") = false) {g : Int → Int → Int → ByteArray → SV} (hg : ∀ k a b s, (g k a b s).bnd none0)
    (h : ∀ k a b s, i64ok k → i64ok a → i64ok b → Owes P cx iv N fn [sRaw k a b s] (g k a b s)) : FnOKg P cx.gl f (specRaw g) := by
  refine FnOK_owes (iv := iv) (N := N) hcx hf hb hn fun args ps sv hs hp => ?_
  unfold specRaw at hs
  split at hs
  · rename_i k a b s
    simp only [Option.some.injEq, Prod.mk.injEq] at hs
    obtain ⟨rfl, rfl⟩ := hs
    obtain ⟨h1, h2, h3, _⟩ := hp
    refine ⟨_, fun ρ => rfl, ?_, hg k a b s, h k a b s h1 h2 h3⟩
    intro z hz
    simp only [List.mem_singleton] at hz
    subst hz
    intro q hq
    simp only [List.mem_cons, List.not_mem_nil, or_false] at hq
    rcases hq with rfl | rfl | rfl | rfl <;> trivial
  · cases hs
def lookS : List (Nat × SV) → Nat → SV
  | [], _ => .any
  | (k, v) :: r, t => match Nat.beq k t with
    | true => v
    | false => lookS r t
def slotsAt (n : Nat) (l : List (Nat × SV)) : List SV := (List.range n).map (lookS l)
abbrev sBy (n : Nat) (g : Nat → Int) : SA := .agg [.f .u8 n g]
def asBy (n : Nat) : SA → Option (Nat → Int)
  | .agg ks => if kindAll .u8 ks = true ∧ (flat ks).length = n then some (selG ks) else none
  | _ => none
theorem asBy_sound {n : Nat} {x : SA} {g : Nat → Int} (h : asBy n x = some g) (ρ : Rho) : x.conc ρ = (sBy n g).conc ρ := by
  unfold asBy at h
  split at h
  · rename_i ks
    split at h
    · rename_i hc
      obtain ⟨h1, h2⟩ := hc
      simp only [Option.some.injEq] at h
      subst h
      simp only [SA.conc, concs_f]
      congr 2
      apply List.ext_getElem?
      intro j
      rcases Nat.lt_or_ge j n with hj | hj
      · rw [selG_conc h1 ρ (by omega), List.getElem?_map, List.getElem?_range hj]; rfl
      · rw [List.getElem?_eq_none (by simp [concs]; omega), List.getElem?_eq_none (by simpa using hj)]
    · cases h
  · cases h
def byteOK (n : Nat) (g : Nat → Int) : Prop := ∀ j, j < n → 0 ≤ g j ∧ g j < 256
def specB (F : (Nat → Int) → SV) : FSpec := fun args =>
  match args with
  | [x] => match asBy 32 x with
    | some g => some ([byteOK 32 g], F g)
    | none => none
  | _ => none
theorem FnOK_B {P : Program} {cx : Cx} (hcx : CxOK P cx) {iv : List (Nat × Hint)} {N : Nat} {f : Nat} {fn : Func} (hf : P.funcs[f]? = some fn) (hb : fn.body.isSome = true) (hn : (fn.name == "runtime.NumGoroutine") = false) {F : (Nat → Int) → SV} (hg : ∀ g, (F g).bnd none0)
    (h : ∀ g, byteOK 32 g → Owes P cx iv N fn [sBy 32 g] (F g)) : FnOKg P cx.gl f (specB F) := by
  refine FnOK_owes (iv := iv) (N := N) hcx hf hb hn fun args ps sv hs hp => ?_
  unfold specB at hs
  split at hs
  · rename_i x
    split at hs
    · rename_i g hx
      simp only [Option.some.injEq, Prod.mk.injEq] at hs
      obtain ⟨rfl, rfl⟩ := hs
      refine ⟨[sBy 32 g], fun ρ => by simp only [List.map_cons, List.map_nil, asBy_sound hx ρ], ?_, hg g, h g hp.1⟩
      intro z hz
      simp only [List.mem_singleton] at hz
      subst hz
      intro k hk; simp only [List.mem_singleton] at hk; subst hk; trivial
    · cases hs
  · cases hs
def cmpN (a b : Nat) : Int := if a % M256 < b % M256 then -1 else if b % M256 < a % M256 then 1 else 0
def cmpG (a b : Nat) : SV := .one (sI .i64 (cmpN a b))
def yes : SV := .one (sB true)
def pickedG (n m : Int) : SV := .one (sI .i64 (n % m))
def w64 (x : Int) : Int := IntKind.u64.wrap x
def not64 (x : Int) : Int := w64 (BitVec.ofInt 64 18446744073709551615 ^^^ BitVec.ofInt 64 (w64 x)).toNat
def rawN (k a b : Int) : Nat :=
  if k % 5 = 0 then join (w64 (a % 1000)) 0 0 0
  else if k % 5 = 1 then join (w64 a) 0 0 0
  else if k % 5 = 2 then join (w64 a) (w64 b) 0 0
  else if k % 5 = 3 then join (w64 (w64 a * 11400714819323198485)) (w64 b) (w64 (BitVec.ofInt 64 (w64 a) ^^^ BitVec.ofInt 64 (w64 b)).toNat) (w64 (w64 b * 14029467366897019727))
  else join (not64 a) (not64 b) 18446744073709551615 18446744073709551615
theorem w64_range (x : Int) : 0 ≤ w64 x ∧ w64 x < 18446744073709551616 := by
  unfold w64 IntKind.wrap
  simp [IntKind.signed, IntKind.bits]
  omega
def rawG (k a b : Int) (_ : ByteArray) : SV := .one (sU (rawN k a b))
def by8 (a : Nat) (i : Nat) : Int := ((a / 2 ^ (8 * i) % 256 : Nat) : Int)
def bytesG (a : Nat) : SV := .one (sBy 32 fun j => by8 a (31 - j))
def fromN (g : Nat → Int) : Nat → Nat
  | 0 => 0
  | n + 1 => fromN g n + 256 ^ n * (g (31 - n)).toNat
def fromG (g : Nat → Int) : SV := .one (sU (fromN g 32))
end Go.Sx
end

section
namespace Go.Sx
open Go.RowKit
def sStr (s : ByteArray) : SA := .sc (.val (.string s))
end Go.Sx
end

section
namespace Go.Sx
open Go.RowKit
end Go.Sx
end

section
namespace Go.Sx
open Go.RowKit
end Go.Sx
end

section
namespace Go.Sx
open Go.RowKit
section
variable {P : Program} {cx : Cx} {sl : List (Nat × SSpec)} {f : Nat} {fn : Func}
end
end Go.Sx
end

section
namespace Go.Sx
open Go.RowKit
def asBit : SC → Option Bool
  | .bit x => some x
  | .val (.bool x) => some x
  | _ => none
theorem asBit_sound {s : SC} {x : Bool} (h : asBit s = some x) (ρ : Rho) : s.conc ρ = .bool x := by
  unfold asBit at h
  split at h
  · cases h; rfl
  · cases h; rfl
  · cases h
def takeU : List SK → Option (List Prop × Nat × List SK)
  | .u n :: r => some ([], n, r)
  | .c a :: .c b :: .c c :: .c d :: r => match asU4 [a, b, c, d] with
    | some (ps, n) => some (ps, n, r)
    | none => none
  | _ => none
theorem takeU_sound {ks r : List SK} {ps : List Prop} {n : Nat} (h : takeU ks = some (ps, n, r)) (hp : Ok ps) (ρ : Rho) : concs ρ ks = concs ρ (.u n :: r) := by
  unfold takeU at h
  split at h
  · cases h; rfl
  · rename_i a b c d r'
    split at h
    · rename_i ps' n' h4
      simp only [Option.some.injEq, Prod.mk.injEq] at h
      obtain ⟨rfl, rfl, rfl⟩ := h
      have := asU4_sound h4 hp ρ
      simp only [U, List.map_cons, List.map_nil, Value.agg.injEq] at this
      have := congrArg Array.toList this
      simp only [List.cons.injEq, and_true] at this
      obtain ⟨e1, e2, e3, e4⟩ := this
      simp [concs, flat, SK.cells, e1, e2, e3, e4, show ∀ v, (SC.val v).conc ρ = v from fun _ => rfl]
    · cases h
  · cases h
theorem concs_app (ρ : Rho) (k : SK) {xs ys : List SK} (h : concs ρ xs = concs ρ ys) : concs ρ (k :: xs) = concs ρ (k :: ys) := by
  rw [concs_cons ρ k xs, concs_cons ρ k ys, h]
end Go.Sx
end

section
namespace Go.Sx
open Go.RowKit
inductive PQ where
  | u | b | t
  | i (k : IntKind)
  | y (n : Nat)
  | x (w : Nat)
inductive FD where
  | u (n : Nat)
  | b (v : Bool)
  | i (n : Int)
  | y (g : Nat → Int)
  | x (a : Option Addr) (n cap : Nat) (f : Nat → Nat → SC)
  | t (s : ByteArray)
inductive AQ where
  | st (ps : List PQ)
  | one (p : PQ)
def fdK : PQ → FD → SK
  | .u, .u n => .u n
  | .b, .b v => .c (.val (.bool v))
  | .i k, .i n => .c (.val (.int k n))
  | .y n, .y g => .f .u8 n g
  | .x w, .x a n cap f => .c (.xs a n cap w f)
  | .t, .t s => .c (.val (.string s))
  | _, _ => .c (.bit false)
def fdKs : List PQ → List FD → List SK
  | p :: ps, d :: ds => fdK p d :: fdKs ps ds
  | _, _ => []
def takeF : PQ → List SK → Option (List Prop × FD × List SK)
  | .u, ks => match takeU ks with
    | some (p, n, r) => some (p, .u n, r)
    | none => none
  | .b, .c s :: r => match asBit s with
    | some v => some ([], .b v, r)
    | none => none
  | .i k, .c s :: r => match asI (.sc s) with
    | some (k', n) => if k' = k then some ([], .i n, r) else none
    | none => none
  | .y n, .f k m g :: r => if k = .u8 ∧ m = n then some ([], .y g, r) else none
  | .y n, ks => match grab ks n, seek ks n with
    | some cs, some r => match kindAll .u8 cs && Nat.ble 2 n with
      | true => some ([], .y (selG cs), r)
      | false => none
    | _, _ => none
  | .x w, .c (.xs a n cap w' f) :: r => if w' = w then some ([], .x a n cap f, r) else none
  | .x _, .c (.val (.slice none 0 0)) :: r => some ([], .x none 0 0 (fun _ _ => .bit false), r)
  | .t, .c (.val (.string s)) :: r => some ([], .t s, r)
  | _, _ => none
theorem cut_concs {ks cs r : List SK} {n : Nat} (h1 : grab ks n = some cs) (h2 : seek ks n = some r) (hk : kindAll .u8 cs = true) (ρ : Rho) : concs ρ ks = concs ρ (.f .u8 n (selG cs) :: r) := by
  obtain ⟨l1, e1⟩ := grab_flat ks n h1
  obtain ⟨_, e2⟩ := seek_flat ks n h2
  have hl : (flat cs).length = n := by rw [e1, List.length_take]; omega
  have hi : (intsL cs).length = n := by rw [intsL_length cs ρ .u8 hk, hl]
  have e3 : concs ρ cs = (List.range n).map fun j => .int .u8 (selG cs j) := by
    rw [ints_conc ρ .u8 hk]
    apply List.ext_getElem
    · simp [hi]
    · intro j h1 h2
      have hj : j < (intsL cs).length := by simpa using h1
      simp only [List.getElem_map, List.getElem_range]
      rw [selG_eq hj, List.getD_eq_getElem?_getD, List.getElem?_eq_getElem hj, Option.getD_some]
  rw [concs_cons, concs_f, ← e3]
  unfold concs
  rw [e1, e2, ← List.map_append, List.take_append_drop]
theorem takeF_sound {p : PQ} {ks r : List SK} {q : List Prop} {d : FD} (h : takeF p ks = some (q, d, r)) (hq : Ok q) (ρ : Rho) : concs ρ ks = concs ρ (fdK p d :: r) := by
  unfold takeF at h
  split at h
  · split at h
    · rename_i hu
      simp only [Option.some.injEq, Prod.mk.injEq] at h
      obtain ⟨rfl, rfl, rfl⟩ := h
      exact takeU_sound hu hq ρ
    · cases h
  · split at h
    · rename_i s r' v hv
      simp only [Option.some.injEq, Prod.mk.injEq] at h
      obtain ⟨rfl, rfl, rfl⟩ := h
      rw [concs_cons, concs_cons ρ (fdK .b (.b v))]
      congr 1
      simp [concs, flat, SK.cells, fdK, asBit_sound hv ρ, show ∀ v, (SC.val v).conc ρ = v from fun _ => rfl]
    · cases h
  · rename_i k s r'
    split at h
    · rename_i k' n hi
      split at h
      · rename_i e
        subst e
        simp only [Option.some.injEq, Prod.mk.injEq] at h
        obtain ⟨rfl, rfl, rfl⟩ := h
        rw [concs_cons, concs_cons ρ (fdK (.i k') (.i n))]
        congr 1
        have e : s.conc ρ = .int k' n := asI_sound hi ρ
        simp [concs, flat, SK.cells, fdK, e, show ∀ v, (SC.val v).conc ρ = v from fun _ => rfl]
      · cases h
    · cases h
  · split at h
    · rename_i e
      obtain ⟨rfl, rfl⟩ := e
      simp only [Option.some.injEq, Prod.mk.injEq] at h
      obtain ⟨rfl, rfl, rfl⟩ := h
      rfl
    · cases h
  · split at h
    · rename_i h1 h2
      split at h
      · rename_i hk
        simp only [Option.some.injEq, Prod.mk.injEq] at h
        obtain ⟨rfl, rfl, rfl⟩ := h
        exact cut_concs h1 h2 (Bool.and_eq_true_iff.1 hk).1 ρ
      · cases h
    · cases h
  · split at h
    · rename_i e
      subst e
      simp only [Option.some.injEq, Prod.mk.injEq] at h
      obtain ⟨rfl, rfl, rfl⟩ := h
      rfl
    · cases h
  · simp only [Option.some.injEq, Prod.mk.injEq] at h
    obtain ⟨rfl, rfl, rfl⟩ := h
    rfl
  · simp only [Option.some.injEq, Prod.mk.injEq] at h
    obtain ⟨rfl, rfl, rfl⟩ := h
    rfl
  · cases h
theorem takeF_bnd {p : PQ} {ks r : List SK} {q : List Prop} {d : FD} (h : takeF p ks = some (q, d, r)) {E : Env} (hb : ∀ k ∈ ks, k.bnd E) : (fdK p d).bnd E.bare ∧ ∀ k ∈ r, k.bnd E := by
  unfold takeF at h
  split at h
  · split at h
    · rename_i p' n r' hu
      simp only [Option.some.injEq, Prod.mk.injEq] at h
      obtain ⟨rfl, rfl, rfl⟩ := h
      refine ⟨trivial, ?_⟩
      unfold takeU at hu
      split at hu
      · cases hu; exact fun k hk => hb k (by simp [hk])
      · split at hu
        · simp only [Option.some.injEq, Prod.mk.injEq] at hu
          obtain ⟨_, _, rfl⟩ := hu
          exact fun k hk => hb k (by simp [hk])
        · cases hu
      · cases hu
    · cases h
  · split at h
    · simp only [Option.some.injEq, Prod.mk.injEq] at h
      obtain ⟨rfl, rfl, rfl⟩ := h
      exact ⟨trivial, fun k hk => hb k (by simp [hk])⟩
    · cases h
  · split at h
    · split at h
      · simp only [Option.some.injEq, Prod.mk.injEq] at h
        obtain ⟨rfl, rfl, rfl⟩ := h
        exact ⟨trivial, fun k hk => hb k (by simp [hk])⟩
      · cases h
    · cases h
  · split at h
    · simp only [Option.some.injEq, Prod.mk.injEq] at h
      obtain ⟨rfl, rfl, rfl⟩ := h
      exact ⟨trivial, fun k hk => hb k (by simp [hk])⟩
    · cases h
  · split at h
    · rename_i h1 h2
      split at h
      · simp only [Option.some.injEq, Prod.mk.injEq] at h
        obtain ⟨rfl, rfl, rfl⟩ := h
        exact ⟨trivial, bnd_flat.2 (mem_seek h2 (bnd_flat.1 hb))⟩
      · cases h
    · cases h
  · rename_i w a n cap w' f r'
    split at h
    · rename_i e
      subst e
      simp only [Option.some.injEq, Prod.mk.injEq] at h
      obtain ⟨rfl, rfl, rfl⟩ := h
      exact ⟨hb (.c (.xs a n cap w' f)) (by simp), fun k hk => hb k (by simp [hk])⟩
    · cases h
  · simp only [Option.some.injEq, Prod.mk.injEq] at h
    obtain ⟨rfl, rfl, rfl⟩ := h
    exact ⟨⟨fun _ => ⟨rfl, rfl⟩, Nat.le_refl _, fun b hb => by cases hb⟩, fun k hk => hb k (by simp [hk])⟩
  · simp only [Option.some.injEq, Prod.mk.injEq] at h
    obtain ⟨rfl, rfl, rfl⟩ := h
    exact ⟨trivial, fun k hk => hb k (by simp [hk])⟩
  · cases h
def asFs : List PQ → List SK → Option (List Prop × List FD)
  | [], [] => some ([], [])
  | p :: ps, ks => match takeF p ks with
    | some (q, d, r) => match asFs ps r with
      | some (q', ds) => some (q ++ q', d :: ds)
      | none => none
    | none => none
  | _, _ => none
theorem asFs_one {p : PQ} {k : SK} {q : List Prop} {l : List FD} (h : asFs [p] [k] = some (q, l)) : ∃ q1 d, takeF p [k] = some (q1, d, []) ∧ l = [d] := by
  have e : asFs [p] [k] = match takeF p [k] with
    | some (q, d, r) => match asFs [] r with
      | some (q', ds) => some (q ++ q', d :: ds)
      | none => none
    | none => none := by rw [asFs]
  rw [e] at h
  split at h
  · rename_i q1 d r ht
    cases r with
    | nil =>
      simp only [asFs, Option.some.injEq, Prod.mk.injEq] at h
      exact ⟨q1, d, ht, h.2.symm⟩
    | cons _ _ => simp [asFs] at h
  · cases h
theorem asFs_sound : ∀ {ps : List PQ} {ks : List SK} {q : List Prop} {l : List FD}, asFs ps ks = some (q, l) → (Ok q → ∀ ρ, concs ρ ks = concs ρ (fdKs ps l)) ∧ ∀ E : Env, (∀ k ∈ ks, k.bnd E) → ∀ k ∈ fdKs ps l, k.bnd E.bare
  | [], [], q, l, h => by
    simp only [asFs, Option.some.injEq, Prod.mk.injEq] at h
    obtain ⟨_, rfl⟩ := h
    exact ⟨fun _ _ => rfl, fun E _ k hk => by cases hk⟩
  | [], _ :: _, q, l, h => by simp [asFs] at h
  | p :: ps, ks, q, l, h => by
    simp only [asFs] at h
    split at h
    · rename_i q1 d r ht
      split at h
      · rename_i q2 ds hr
        simp only [Option.some.injEq, Prod.mk.injEq] at h
        obtain ⟨rfl, rfl⟩ := h
        obtain ⟨i1, i2⟩ := asFs_sound hr
        refine ⟨fun hq ρ => ?_, fun E hb k hk => ?_⟩
        · obtain ⟨h1, h2⟩ := Ok.append.1 hq
          rw [takeF_sound ht h1 ρ]
          exact concs_app ρ _ (i1 h2 ρ)
        · obtain ⟨b1, b2⟩ := takeF_bnd ht hb
          rcases List.mem_cons.1 hk with rfl | hk
          · exact b1
          · exact i2 E b2 k hk
      · cases h
    · cases h
def asQ : AQ → SA → Option (List Prop × List FD)
  | .st ps, .agg ks => asFs ps ks
  | .one p, .sc s => asFs [p] [.c s]
  | _, _ => none
def mkQ : AQ → List FD → SA
  | .st ps, l => .agg (fdKs ps l)
  | .one p, [d] => match fdK p d with
    | .c s => .sc s
    | _ => .agg []
  | _, _ => .agg []
theorem asQ_sound {aq : AQ} {x : SA} {q : List Prop} {l : List FD} (h : asQ aq x = some (q, l)) : (Ok q → ∀ ρ, x.conc ρ = (mkQ aq l).conc ρ) ∧ ∀ E : Env, x.bnd E → (mkQ aq l).bnd E.bare := by
  unfold asQ at h
  split at h
  · rename_i ps ks
    obtain ⟨h1, h2⟩ := asFs_sound h
    exact ⟨fun hq ρ => by simp only [SA.conc, mkQ, h1 hq ρ], fun E hb => h2 E hb⟩
  · rename_i p s
    obtain ⟨h1, h2⟩ := asFs_sound h
    obtain ⟨q1, d, ht, rfl⟩ := asFs_one h
    have e : ∀ (s : SC) ρ, concs ρ [SK.c s] = [s.conc ρ] := fun _ _ => rfl
    have h2' : ∀ E : Env, s.bnd E → (fdK p d).bnd E.bare := fun E hb => h2 E (fun k hk => by rw [List.mem_singleton.1 hk]; exact hb) _ (by simp [fdKs])
    have h1' : Ok q → ∀ ρ, [s.conc ρ] = concs ρ [fdK p d] := fun hq ρ => by rw [← e]; exact h1 hq ρ
    unfold mkQ
    simp only
    split
    · rename_i s' hs
      rw [hs] at h1' h2'
      refine ⟨fun hq ρ => ?_, fun E hb => h2' E hb⟩
      have := h1' hq ρ
      rw [e] at this
      exact (List.cons.inj this).1
    · rename_i hne
      exfalso
      unfold takeF at ht
      split at ht
      · split at ht
        · rename_i hu
          unfold takeU at hu
          simp at hu
        · cases ht
      · split at ht
        · simp only [Option.some.injEq, Prod.mk.injEq] at ht; obtain ⟨_, rfl, _⟩ := ht; exact hne _ rfl
        · cases ht
      · split at ht
        · split at ht
          · simp only [Option.some.injEq, Prod.mk.injEq] at ht; obtain ⟨_, rfl, _⟩ := ht; exact hne _ rfl
          · cases ht
        · cases ht
      · rename_i heq; cases heq
      · split at ht
        · rename_i hg _
          split at ht
          · rename_i hk
            have h2 := Nat.le_of_ble_eq_true (Bool.and_eq_true_iff.1 hk).2
            have h3 := (grab_flat _ _ hg).1
            simp [flat, SK.cells] at h3
            omega
          · cases ht
        · cases ht
      · split at ht
        · simp only [Option.some.injEq, Prod.mk.injEq] at ht; obtain ⟨_, rfl, _⟩ := ht; exact hne _ rfl
        · cases ht
      · simp only [Option.some.injEq, Prod.mk.injEq] at ht; obtain ⟨_, rfl, _⟩ := ht; exact hne _ rfl
      · simp only [Option.some.injEq, Prod.mk.injEq] at ht; obtain ⟨_, rfl, _⟩ := ht; exact hne _ rfl
      · cases ht
  · cases h
def asQs : List AQ → List SA → Option (List Prop × List (List FD))
  | [], [] => some ([], [])
  | a :: aqs, x :: xs => match asQ a x, asQs aqs xs with
    | some (q, l), some (q', ls) => some (q ++ q', l :: ls)
    | _, _ => none
  | _, _ => none
def mkQs : List AQ → List (List FD) → List SA
  | a :: aqs, l :: ls => mkQ a l :: mkQs aqs ls
  | _, _ => []
theorem asQs_sound : ∀ {aqs : List AQ} {xs : List SA} {q : List Prop} {ls : List (List FD)}, asQs aqs xs = some (q, ls) → (Ok q → ∀ ρ, xs.map (SA.conc ρ) = (mkQs aqs ls).map (SA.conc ρ)) ∧ ∀ E : Env, (∀ x ∈ xs, x.bnd E) → ∀ x ∈ mkQs aqs ls, x.bnd E.bare
  | [], [], q, ls, h => by
    simp only [asQs, Option.some.injEq, Prod.mk.injEq] at h
    obtain ⟨_, rfl⟩ := h
    exact ⟨fun _ _ => rfl, fun E _ k hk => by cases hk⟩
  | [], _ :: _, _, _, h => by simp [asQs] at h
  | _ :: _, [], _, _, h => by simp [asQs] at h
  | a :: aqs, x :: xs, q, ls, h => by
    simp only [asQs] at h
    split at h
    · rename_i q1 l q2 ls' h1 h2
      simp only [Option.some.injEq, Prod.mk.injEq] at h
      obtain ⟨rfl, rfl⟩ := h
      obtain ⟨a1, a2⟩ := asQ_sound h1
      obtain ⟨b1, b2⟩ := asQs_sound h2
      refine ⟨fun hq ρ => ?_, fun E hb y hy => ?_⟩
      · obtain ⟨o1, o2⟩ := Ok.append.1 hq
        simp only [List.map_cons, mkQs, a1 o1 ρ, b1 o2 ρ]
      · rcases List.mem_cons.1 hy with rfl | hy
        · exact a2 E (hb x (by simp))
        · exact b2 E (fun z hz => hb z (by simp [hz])) y hy
    · cases h
def simD : PQ → FD → FD → List Prop
  | .x w, .x a n c f, .x a' n' c' f' => [a = a', n = n', c = c', ∀ i, i < n → allC w fun k => simC (f i k) (f' i k)]
  | _, .u n, .u m => [n = m]
  | _, .b x, .b y => [x = y]
  | _, .i n, .i m => [n = m]
  | _, .t x, .t y => [x = y]
  | .y n, .y f, .y g => [∀ j, j < n → f j = g j]
  | _, _, _ => [False]
def simDs : List PQ → List FD → List FD → List Prop
  | p :: ps, d :: ds, e :: es => simD p d e ++ simDs ps ds es
  | [], [], [] => []
  | _, _, _ => [False]
def simQ : AQ → List FD → List FD → List Prop
  | .st ps, l, m => simDs ps l m
  | .one p, l, m => simDs [p] l m
def simQs : List AQ → List (List FD) → List (List FD) → List Prop
  | a :: aqs, l :: ls, m :: ms => simQ a l m ++ simQs aqs ls ms
  | [], [], [] => []
  | _, _, _ => [False]
theorem simD_sound {p : PQ} {d e : FD} (h : Ok (simD p d e)) : (∀ ρ, concs ρ [fdK p d] = concs ρ [fdK p e]) ∧ ∀ E : Env, (fdK p d).bnd E → (fdK p e).bnd E := by
  unfold simD at h
  split at h
  · rename_i w a n c f a' n' c' f'
    obtain ⟨rfl, rfl, rfl, h, _⟩ := h
    refine ⟨fun _ => rfl, fun E hb => simC_bnd (SC.xs a n c w f) (y := .xs a n c w f') ?_ hb⟩
    unfold simC
    simp only [Nat.beq_refl, true_and]
    exact h
  · obtain ⟨rfl, _⟩ := h; exact ⟨fun _ => rfl, fun _ k => k⟩
  · obtain ⟨rfl, _⟩ := h; exact ⟨fun _ => rfl, fun _ k => k⟩
  · obtain ⟨rfl, _⟩ := h; exact ⟨fun _ => rfl, fun _ k => k⟩
  · obtain ⟨rfl, _⟩ := h; exact ⟨fun _ => rfl, fun _ k => k⟩
  · rename_i n f g
    obtain ⟨h, _⟩ := h
    refine ⟨fun ρ => ?_, fun _ _ => trivial⟩
    rw [fdK, fdK, concs_f, concs_f]
    exact List.map_congr_left fun j hj => by rw [h j (List.mem_range.1 hj)]
  · exact h.1.elim
theorem simDs_sound : ∀ {ps : List PQ} {l m : List FD}, Ok (simDs ps l m) → (∀ ρ, concs ρ (fdKs ps l) = concs ρ (fdKs ps m)) ∧ ∀ E : Env, (∀ k ∈ fdKs ps l, k.bnd E) → ∀ k ∈ fdKs ps m, k.bnd E
  | [], [], [], _ => ⟨fun _ => rfl, fun _ h => h⟩
  | p :: ps, d :: ds, e :: es, h => by
    obtain ⟨o1, o2⟩ := Ok.append.1 h
    obtain ⟨a1, a2⟩ := simD_sound o1
    obtain ⟨b1, b2⟩ := simDs_sound o2
    refine ⟨fun ρ => ?_, fun E hb k hk => ?_⟩
    · simp only [fdKs]
      rw [concs_cons, concs_cons ρ (fdK p e), a1 ρ, b1 ρ]
    · rcases List.mem_cons.1 hk with rfl | hk
      · exact a2 E (hb _ (by simp [fdKs]))
      · exact b2 E (fun k hk => hb k (by simp [fdKs, hk])) k hk
  | [], [], _ :: _, h | [], _ :: _, [], h | [], _ :: _, _ :: _, h | _ :: _, [], [], h | _ :: _, [], _ :: _, h | _ :: _, _ :: _, [], h => by exact h.1.elim
theorem simQ_sound {a : AQ} {l m : List FD} (h : Ok (simQ a l m)) : (∀ ρ, (mkQ a l).conc ρ = (mkQ a m).conc ρ) ∧ ∀ E : Env, (mkQ a l).bnd E → (mkQ a m).bnd E := by
  cases a with
  | st ps =>
    obtain ⟨h1, h2⟩ := simDs_sound (show Ok (simDs ps l m) from h)
    exact ⟨fun ρ => by simp only [mkQ, SA.conc, h1 ρ], fun E hb => h2 E hb⟩
  | one p =>
    have h : Ok (simDs [p] l m) := h
    match l, m, h with
    | [], [], h => exact h.1.elim
    | [], _ :: _, h => exact h.1.elim
    | _ :: _, [], h => exact h.1.elim
    | d :: d2 :: ds, e :: es, h =>
      exfalso
      obtain ⟨_, o2⟩ := Ok.append.1 h
      cases es <;> exact o2.1.elim
    | [d], e :: e2 :: es, h =>
      exfalso
      obtain ⟨_, o2⟩ := Ok.append.1 h
      exact o2.1.elim
    | [d], [e], h =>
      obtain ⟨o1, _⟩ := Ok.append.1 h
      obtain ⟨h1, h2⟩ := simD_sound o1
      unfold mkQ
      simp only
      cases p <;> cases d <;> cases e <;> first
        | exact ⟨fun _ => rfl, fun _ k => k⟩
        | (exfalso; exact o1.1.elim)
        | (refine ⟨fun ρ => ?_, fun E hb => h2 E hb⟩
           have := h1 ρ
           exact (List.cons.inj this).1)
theorem simQs_sound : ∀ {aqs : List AQ} {l m : List (List FD)}, Ok (simQs aqs l m) → (∀ ρ, (mkQs aqs l).map (SA.conc ρ) = (mkQs aqs m).map (SA.conc ρ)) ∧ ∀ E : Env, (∀ x ∈ mkQs aqs l, x.bnd E) → ∀ x ∈ mkQs aqs m, x.bnd E
  | [], [], [], _ => ⟨fun _ => rfl, fun _ h => h⟩
  | a :: aqs, d :: ds, e :: es, h => by
    obtain ⟨o1, o2⟩ := Ok.append.1 h
    obtain ⟨a1, a2⟩ := simQ_sound o1
    obtain ⟨b1, b2⟩ := simQs_sound o2
    refine ⟨fun ρ => by simp only [mkQs, List.map_cons, a1 ρ, b1 ρ], fun E hb k hk => ?_⟩
    rcases List.mem_cons.1 hk with rfl | hk
    · exact a2 E (hb _ (by simp [mkQs]))
    · exact b2 E (fun k hk => hb k (by simp [mkQs, hk])) k hk
  | [], [], _ :: _, h | [], _ :: _, [], h | [], _ :: _, _ :: _, h | _ :: _, [], [], h | _ :: _, [], _ :: _, h | _ :: _, _ :: _, [], h => by exact h.1.elim
def specQ (share : Bool) (aq : List AQ) (nf : List (List FD) → List (List FD)) (c : List (List FD) → List Prop) (g : List (List FD) → List RS) : SSpec :=
  ⟨share, fun args => match asQs aq args with
    | some (ps, ls) => some (ps ++ (simQs aq ls (nf ls) ++ c (nf ls)), g (nf ls))
    | none => none⟩
theorem FnOKs_Q {P : Program} {cx : Cx} (hcx : CxOK P cx) {sl : List (Nat × SSpec)} (hsl : ∀ p ∈ sl, FnOKs P cx.gl p.1 p.2) {f : Nat} {fn : Func} (hf : P.funcs[f]? = some fn) (hb : fn.body.isSome = true) (hn : (fn.name == "runtime.NumGoroutine") = false)
    {share : Bool} {aq : List AQ} {nf : List (List FD) → List (List FD)} {c : List (List FD) → List Prop} {g : List (List FD) → List RS}
    (h : ∀ ls, Ok (c ls) → ∃ iv N, (∀ r ∈ g ls, r.closed) ∧ OwesR P cx sl iv N fn (mkQs aq ls) share (g ls)) : FnOKs P cx.gl f (specQ share aq nf c g) := by
  refine FnOKs_owes hcx hsl hf hb hn fun args ps rs hs hp => ?_
  simp only [specQ] at hs
  split at hs
  case h_2 => cases hs
  rename_i q ls ha
  simp only [Option.some.injEq, Prod.mk.injEq] at hs
  obtain ⟨rfl, rfl⟩ := hs
  obtain ⟨o1, o23⟩ := Ok.append.1 hp
  obtain ⟨o2, o3⟩ := Ok.append.1 o23
  obtain ⟨a1, a2⟩ := asQs_sound ha
  obtain ⟨b1, b2⟩ := simQs_sound o2
  obtain ⟨iv, N, hc, hw⟩ := h (nf ls) o3
  refine ⟨iv, N, mkQs aq (nf ls), fun ρ => by rw [a1 o1 ρ, b1 ρ], fun fz hx x hxm => ?_, hc, hw⟩
  exact b2 ⟨fun _ => False, fz⟩ (fun y hy => a2 ⟨fun _ => True, fz⟩ hx y hy) x hxm
end Go.Sx
end

section
namespace Go.Sx
def intOf : SC → Int
  | .val (.int _ x) => x
  | .num _ x => x
  | _ => 0
def u8F (k : Nat → Nat → Int) (i c : Nat) : SC := .val (.int .u8 (k i c))
def kOf (f : Nat → Nat → SC) (i c : Nat) : Int := intOf (f i c)
theorem FnOKs.up0 {P : Program} {f : Nat} {s : SSpec} (h : FnOKs P [] f s) (gl : Globs) : FnOKs P gl f s := fun args ps rs hs hp ρ w hz _ hb =>
  h args ps rs hs hp ρ w hz (fun p hp => by cases hp) hb
end Go.Sx
end

section
namespace Go.Proofs.Ytamhchemnalfbaa
open Go.Sx
set_option maxRecDepth 100000
end Go.Proofs.Ytamhchemnalfbaa
end

section
namespace Go.Proofs.Ytamhchemnalfbaa
open Go.Sx
theorem pcx_none : CxOK Try.prog Cx.none := ⟨fun _ h => (by cases h), fun _ h => (by cases h)⟩
theorem pgl_cons {gl : Globs} {f : Nat} {s : FSpec} {l : List (Nat × FSpec)} (h : FnOKg Try.prog gl f s) (hs : CxOK Try.prog ⟨l, gl, 0, []⟩) : CxOK Try.prog ⟨(f, s) :: l, gl, 0, []⟩ := by
  refine ⟨fun p hp => ?_, hs.2⟩
  rcases List.mem_cons.1 hp with rfl | hp
  · exact h
  · exact hs.1 p hp
end Go.Proofs.Ytamhchemnalfbaa
end

section
namespace Go.Proofs.Ytamhchemnalfbaa
open Go.Sx
set_option maxRecDepth 100000
end Go.Proofs.Ytamhchemnalfbaa
end

section
namespace Go.Proofs.Ytamhchemnalfbaa
open Go.Sx
end Go.Proofs.Ytamhchemnalfbaa
end

section
namespace Go.Proofs.Ytamhchemnalfbaa
open Go.Sx
set_option maxRecDepth 100000
def cxRaw : Cx := [(8, specII (fun a b => [i64ok a, 0 < b ∧ b ≤ 1000000]) pickedG)]
theorem vc_Cmp (a b : Nat) :
    Owes Try.prog Cx.none [] 100 Try.f12 [sU a, sU b] (cmpG a b) =
    ((Decidable.decide (limb a 3 < limb b 3) = Bool.true → (-1 : Int) = cmpN a b) ∧ (Decidable.decide (limb a 3 < limb b 3) = Bool.false → (Decidable.decide (limb a 3 > limb b 3) = Bool.true → (1 : Int) = cmpN a b) ∧ (Decidable.decide (limb a 3 > limb b 3) = Bool.false → (Decidable.decide (limb a 2 < limb b 2) = Bool.true → (-1 : Int) = cmpN a b) ∧ (Decidable.decide (limb a 2 < limb b 2) = Bool.false → (Decidable.decide (limb a 2 > limb b 2) = Bool.true → (1 : Int) = cmpN a b) ∧ (Decidable.decide (limb a 2 > limb b 2) = Bool.false → (Decidable.decide (limb a 1 < limb b 1) = Bool.true → (-1 : Int) = cmpN a b) ∧ (Decidable.decide (limb a 1 < limb b 1) = Bool.false → (Decidable.decide (limb a 1 > limb b 1) = Bool.true → (1 : Int) = cmpN a b) ∧ (Decidable.decide (limb a 1 > limb b 1) = Bool.false → (Decidable.decide (limb a 0 < limb b 0) = Bool.true → (-1 : Int) = cmpN a b) ∧ (Decidable.decide (limb a 0 < limb b 0) = Bool.false → (Decidable.decide (limb a 0 > limb b 0) = Bool.true → (1 : Int) = cmpN a b) ∧ (Decidable.decide (limb a 0 > limb b 0) = Bool.false → (0 : Int) = cmpN a b))))))))) := by kernel_rfl
theorem vc_picked (n m : Int) :
    Owes Try.prog Cx.none [] 100 Try.f8 [sI .i64 n, sI .i64 m] (pickedG n m) =
    (m ≠ (0 : Int) ∧ (Decidable.decide (n.tmod m < (0 : Int)) = Bool.true → Go.IntKind.i64.wrap (n.tmod m + m) = n % m) ∧ (Decidable.decide (n.tmod m < (0 : Int)) = Bool.false → n.tmod m = n % m)) := by kernel_rfl
theorem vc_number (k a b : Int) (s : ByteArray) :
    Owes Try.prog cxRaw [] 100 Try.f7 [sRaw k a b s] (rawG k a b s) =
    (((-9223372036854775808 : Int) ≤ k ∧ k ≤ (9223372036854775807 : Int)) ∧ ((0 : Int) < (5 : Int) ∧ (5 : Int) ≤ (1000000 : Int)) ∧ ((k % (5 : Int) == (0 : Int)) = Bool.true → ((-9223372036854775808 : Int) ≤ a ∧ a ≤ (9223372036854775807 : Int)) ∧ ((0 : Int) < (1000 : Int) ∧ (1000 : Int) ≤ (1000000 : Int)) ∧ ((0 : Int) ≤ Go.IntKind.u64.wrap (a % (1000 : Int)) ∧ Go.IntKind.u64.wrap (a % (1000 : Int)) < (2 : Int) ^ 64) ∧ ((0 : Int) ≤ (0 : Int) ∧ (0 : Int) < (2 : Int) ^ 64) ∧ ((0 : Int) ≤ (0 : Int) ∧ (0 : Int) < (2 : Int) ^ 64) ∧ ((0 : Int) ≤ (0 : Int) ∧ (0 : Int) < (2 : Int) ^ 64) ∧ join (Go.IntKind.u64.wrap (a % (1000 : Int))) (0 : Int) (0 : Int) (0 : Int) % M256 = rawN k a b % M256 ∧ True) ∧ ((k % (5 : Int) == (0 : Int)) = Bool.false → ((k % (5 : Int) == (1 : Int)) = Bool.true → ((0 : Int) ≤ Go.IntKind.u64.wrap a ∧ Go.IntKind.u64.wrap a < (2 : Int) ^ 64) ∧ ((0 : Int) ≤ (0 : Int) ∧ (0 : Int) < (2 : Int) ^ 64) ∧ ((0 : Int) ≤ (0 : Int) ∧ (0 : Int) < (2 : Int) ^ 64) ∧ ((0 : Int) ≤ (0 : Int) ∧ (0 : Int) < (2 : Int) ^ 64) ∧ join (Go.IntKind.u64.wrap a) (0 : Int) (0 : Int) (0 : Int) % M256 = rawN k a b % M256 ∧ True) ∧ ((k % (5 : Int) == (1 : Int)) = Bool.false → ((k % (5 : Int) == (2 : Int)) = Bool.true → ((0 : Int) ≤ Go.IntKind.u64.wrap a ∧ Go.IntKind.u64.wrap a < (2 : Int) ^ 64) ∧ ((0 : Int) ≤ Go.IntKind.u64.wrap b ∧ Go.IntKind.u64.wrap b < (2 : Int) ^ 64) ∧ ((0 : Int) ≤ (0 : Int) ∧ (0 : Int) < (2 : Int) ^ 64) ∧ ((0 : Int) ≤ (0 : Int) ∧ (0 : Int) < (2 : Int) ^ 64) ∧ join (Go.IntKind.u64.wrap a) (Go.IntKind.u64.wrap b) (0 : Int) (0 : Int) % M256 = rawN k a b % M256 ∧ True) ∧ ((k % (5 : Int) == (2 : Int)) = Bool.false → ((k % (5 : Int) == (3 : Int)) = Bool.true → ((0 : Int) ≤ Go.IntKind.u64.wrap (Go.IntKind.u64.wrap a * (11400714819323198485 : Int)) ∧ Go.IntKind.u64.wrap (Go.IntKind.u64.wrap a * (11400714819323198485 : Int)) < (2 : Int) ^ 64) ∧ ((0 : Int) ≤ Go.IntKind.u64.wrap b ∧ Go.IntKind.u64.wrap b < (2 : Int) ^ 64) ∧ ((0 : Int) ≤ Go.IntKind.u64.wrap (↑(BitVec.ofInt Go.IntKind.u64.bits (Go.IntKind.u64.wrap a) ^^^ BitVec.ofInt Go.IntKind.u64.bits (Go.IntKind.u64.wrap b)).toNat : Int) ∧ Go.IntKind.u64.wrap (↑(BitVec.ofInt Go.IntKind.u64.bits (Go.IntKind.u64.wrap a) ^^^ BitVec.ofInt Go.IntKind.u64.bits (Go.IntKind.u64.wrap b)).toNat : Int) < (2 : Int) ^ 64) ∧ ((0 : Int) ≤ Go.IntKind.u64.wrap (Go.IntKind.u64.wrap b * (14029467366897019727 : Int)) ∧ Go.IntKind.u64.wrap (Go.IntKind.u64.wrap b * (14029467366897019727 : Int)) < (2 : Int) ^ 64) ∧ join (Go.IntKind.u64.wrap (Go.IntKind.u64.wrap a * (11400714819323198485 : Int))) (Go.IntKind.u64.wrap b) (Go.IntKind.u64.wrap (↑(BitVec.ofInt Go.IntKind.u64.bits (Go.IntKind.u64.wrap a) ^^^ BitVec.ofInt Go.IntKind.u64.bits (Go.IntKind.u64.wrap b)).toNat : Int)) (Go.IntKind.u64.wrap (Go.IntKind.u64.wrap b * (14029467366897019727 : Int))) % M256 = rawN k a b % M256 ∧ True) ∧ ((k % (5 : Int) == (3 : Int)) = Bool.false → ((0 : Int) ≤ Go.IntKind.u64.wrap (↑(BitVec.ofInt Go.IntKind.u64.bits (if Go.IntKind.u64.signed = Bool.true then (-1 : Int) else Go.IntKind.u64.max) ^^^ BitVec.ofInt Go.IntKind.u64.bits (Go.IntKind.u64.wrap a)).toNat : Int) ∧ Go.IntKind.u64.wrap (↑(BitVec.ofInt Go.IntKind.u64.bits (if Go.IntKind.u64.signed = Bool.true then (-1 : Int) else Go.IntKind.u64.max) ^^^ BitVec.ofInt Go.IntKind.u64.bits (Go.IntKind.u64.wrap a)).toNat : Int) < (2 : Int) ^ 64) ∧ ((0 : Int) ≤ Go.IntKind.u64.wrap (↑(BitVec.ofInt Go.IntKind.u64.bits (if Go.IntKind.u64.signed = Bool.true then (-1 : Int) else Go.IntKind.u64.max) ^^^ BitVec.ofInt Go.IntKind.u64.bits (Go.IntKind.u64.wrap b)).toNat : Int) ∧ Go.IntKind.u64.wrap (↑(BitVec.ofInt Go.IntKind.u64.bits (if Go.IntKind.u64.signed = Bool.true then (-1 : Int) else Go.IntKind.u64.max) ^^^ BitVec.ofInt Go.IntKind.u64.bits (Go.IntKind.u64.wrap b)).toNat : Int) < (2 : Int) ^ 64) ∧ ((0 : Int) ≤ (18446744073709551615 : Int) ∧ (18446744073709551615 : Int) < (2 : Int) ^ 64) ∧ ((0 : Int) ≤ (18446744073709551615 : Int) ∧ (18446744073709551615 : Int) < (2 : Int) ^ 64) ∧ join (Go.IntKind.u64.wrap (↑(BitVec.ofInt Go.IntKind.u64.bits (if Go.IntKind.u64.signed = Bool.true then (-1 : Int) else Go.IntKind.u64.max) ^^^ BitVec.ofInt Go.IntKind.u64.bits (Go.IntKind.u64.wrap a)).toNat : Int)) (Go.IntKind.u64.wrap (↑(BitVec.ofInt Go.IntKind.u64.bits (if Go.IntKind.u64.signed = Bool.true then (-1 : Int) else Go.IntKind.u64.max) ^^^ BitVec.ofInt Go.IntKind.u64.bits (Go.IntKind.u64.wrap b)).toNat : Int)) (18446744073709551615 : Int) (18446744073709551615 : Int) % M256 = rawN k a b % M256 ∧ True))))) := by kernel_rfl
end Go.Proofs.Ytamhchemnalfbaa
end

section
namespace Go.Proofs.Ytamhchemnalfbaa
open Go.Sx
set_option maxRecDepth 100000
end Go.Proofs.Ytamhchemnalfbaa
end

section
namespace Go.Proofs.Ytamhchemnalfbaa
open Go.Sx
set_option maxRecDepth 100000
def wordF (a b : Int) (s : ByteArray) (j : Nat) : Int := if j = 31 then IntKind.u8.wrap b else if j = 30 then IntKind.u8.wrap a else if j < s.size then ((s.data.getD j 0).toNat : Int) else 0
def wordG (_ a b : Int) (s : ByteArray) : SV := .one (sBy 32 (wordF a b s))
theorem vc_Bytes (a : Nat) :
    Owes Try.prog Cx.none [] 400 Try.f86 [sU a] (bytesG a) =
    (Go.IntKind.u8.wrap ((limb a 3).fdiv (72057594037927936 : Int)) = by8 a 31 ∧ Go.IntKind.u8.wrap ((limb a 3).fdiv (281474976710656 : Int)) = by8 a 30 ∧ Go.IntKind.u8.wrap ((limb a 3).fdiv (1099511627776 : Int)) = by8 a 29 ∧ Go.IntKind.u8.wrap ((limb a 3).fdiv (4294967296 : Int)) = by8 a 28 ∧ Go.IntKind.u8.wrap ((limb a 3).fdiv (16777216 : Int)) = by8 a 27 ∧ Go.IntKind.u8.wrap ((limb a 3).fdiv (65536 : Int)) = by8 a 26 ∧ Go.IntKind.u8.wrap ((limb a 3).fdiv (256 : Int)) = by8 a 25 ∧ Go.IntKind.u8.wrap ((limb a 3).fdiv (1 : Int)) = by8 a 24 ∧ Go.IntKind.u8.wrap ((limb a 2).fdiv (72057594037927936 : Int)) = by8 a 23 ∧ Go.IntKind.u8.wrap ((limb a 2).fdiv (281474976710656 : Int)) = by8 a 22 ∧ Go.IntKind.u8.wrap ((limb a 2).fdiv (1099511627776 : Int)) = by8 a 21 ∧ Go.IntKind.u8.wrap ((limb a 2).fdiv (4294967296 : Int)) = by8 a 20 ∧ Go.IntKind.u8.wrap ((limb a 2).fdiv (16777216 : Int)) = by8 a 19 ∧ Go.IntKind.u8.wrap ((limb a 2).fdiv (65536 : Int)) = by8 a 18 ∧ Go.IntKind.u8.wrap ((limb a 2).fdiv (256 : Int)) = by8 a 17 ∧ Go.IntKind.u8.wrap ((limb a 2).fdiv (1 : Int)) = by8 a 16 ∧ Go.IntKind.u8.wrap ((limb a 1).fdiv (72057594037927936 : Int)) = by8 a 15 ∧ Go.IntKind.u8.wrap ((limb a 1).fdiv (281474976710656 : Int)) = by8 a 14 ∧ Go.IntKind.u8.wrap ((limb a 1).fdiv (1099511627776 : Int)) = by8 a 13 ∧ Go.IntKind.u8.wrap ((limb a 1).fdiv (4294967296 : Int)) = by8 a 12 ∧ Go.IntKind.u8.wrap ((limb a 1).fdiv (16777216 : Int)) = by8 a 11 ∧ Go.IntKind.u8.wrap ((limb a 1).fdiv (65536 : Int)) = by8 a 10 ∧ Go.IntKind.u8.wrap ((limb a 1).fdiv (256 : Int)) = by8 a 9 ∧ Go.IntKind.u8.wrap ((limb a 1).fdiv (1 : Int)) = by8 a 8 ∧ Go.IntKind.u8.wrap ((limb a 0).fdiv (72057594037927936 : Int)) = by8 a 7 ∧ Go.IntKind.u8.wrap ((limb a 0).fdiv (281474976710656 : Int)) = by8 a 6 ∧ Go.IntKind.u8.wrap ((limb a 0).fdiv (1099511627776 : Int)) = by8 a 5 ∧ Go.IntKind.u8.wrap ((limb a 0).fdiv (4294967296 : Int)) = by8 a 4 ∧ Go.IntKind.u8.wrap ((limb a 0).fdiv (16777216 : Int)) = by8 a 3 ∧ Go.IntKind.u8.wrap ((limb a 0).fdiv (65536 : Int)) = by8 a 2 ∧ Go.IntKind.u8.wrap ((limb a 0).fdiv (256 : Int)) = by8 a 1 ∧ Go.IntKind.u8.wrap ((limb a 0).fdiv (1 : Int)) = by8 a 0 ∧ True) := by kernel_rfl
theorem vc_From (g : Nat → Int) :
    Owes Try.prog Cx.none [] 400 Try.f88 [sBy 32 g] (fromG g) =
    (let x1 : Int := Go.IntKind.u64.wrap (↑(BitVec.ofInt 64 (Go.IntKind.u64.wrap (↑(BitVec.ofInt 64 (Go.IntKind.u64.wrap (↑(BitVec.ofInt 64 (Go.IntKind.u64.wrap (↑(BitVec.ofInt 64 (Go.IntKind.u64.wrap (↑(BitVec.ofInt 64 (Go.IntKind.u64.wrap (↑(BitVec.ofInt 64 (Go.IntKind.u64.wrap (↑(BitVec.ofInt 64 (Go.IntKind.u64.wrap (↑(BitVec.ofInt 64 (0 : Int) ||| BitVec.ofInt 64 (Go.IntKind.u64.wrap (Go.IntKind.u64.wrap (g 31) * (1 : Int)))).toNat : Int)) ||| BitVec.ofInt 64 (Go.IntKind.u64.wrap (Go.IntKind.u64.wrap (g 30) * (256 : Int)))).toNat : Int)) ||| BitVec.ofInt 64 (Go.IntKind.u64.wrap (Go.IntKind.u64.wrap (g 29) * (65536 : Int)))).toNat : Int)) ||| BitVec.ofInt 64 (Go.IntKind.u64.wrap (Go.IntKind.u64.wrap (g 28) * (16777216 : Int)))).toNat : Int)) ||| BitVec.ofInt 64 (Go.IntKind.u64.wrap (Go.IntKind.u64.wrap (g 27) * (4294967296 : Int)))).toNat : Int)) ||| BitVec.ofInt 64 (Go.IntKind.u64.wrap (Go.IntKind.u64.wrap (g 26) * (1099511627776 : Int)))).toNat : Int)) ||| BitVec.ofInt 64 (Go.IntKind.u64.wrap (Go.IntKind.u64.wrap (g 25) * (281474976710656 : Int)))).toNat : Int)) ||| BitVec.ofInt 64 (Go.IntKind.u64.wrap (Go.IntKind.u64.wrap (g 24) * (72057594037927936 : Int)))).toNat : Int); let x2 : Int := Go.IntKind.u64.wrap (↑(BitVec.ofInt 64 (Go.IntKind.u64.wrap (↑(BitVec.ofInt 64 (Go.IntKind.u64.wrap (↑(BitVec.ofInt 64 (Go.IntKind.u64.wrap (↑(BitVec.ofInt 64 (Go.IntKind.u64.wrap (↑(BitVec.ofInt 64 (Go.IntKind.u64.wrap (↑(BitVec.ofInt 64 (Go.IntKind.u64.wrap (↑(BitVec.ofInt 64 (Go.IntKind.u64.wrap (↑(BitVec.ofInt 64 (0 : Int) ||| BitVec.ofInt 64 (Go.IntKind.u64.wrap (Go.IntKind.u64.wrap (g 23) * (1 : Int)))).toNat : Int)) ||| BitVec.ofInt 64 (Go.IntKind.u64.wrap (Go.IntKind.u64.wrap (g 22) * (256 : Int)))).toNat : Int)) ||| BitVec.ofInt 64 (Go.IntKind.u64.wrap (Go.IntKind.u64.wrap (g 21) * (65536 : Int)))).toNat : Int)) ||| BitVec.ofInt 64 (Go.IntKind.u64.wrap (Go.IntKind.u64.wrap (g 20) * (16777216 : Int)))).toNat : Int)) ||| BitVec.ofInt 64 (Go.IntKind.u64.wrap (Go.IntKind.u64.wrap (g 19) * (4294967296 : Int)))).toNat : Int)) ||| BitVec.ofInt 64 (Go.IntKind.u64.wrap (Go.IntKind.u64.wrap (g 18) * (1099511627776 : Int)))).toNat : Int)) ||| BitVec.ofInt 64 (Go.IntKind.u64.wrap (Go.IntKind.u64.wrap (g 17) * (281474976710656 : Int)))).toNat : Int)) ||| BitVec.ofInt 64 (Go.IntKind.u64.wrap (Go.IntKind.u64.wrap (g 16) * (72057594037927936 : Int)))).toNat : Int); let x3 : Int := Go.IntKind.u64.wrap (↑(BitVec.ofInt 64 (Go.IntKind.u64.wrap (↑(BitVec.ofInt 64 (Go.IntKind.u64.wrap (↑(BitVec.ofInt 64 (Go.IntKind.u64.wrap (↑(BitVec.ofInt 64 (Go.IntKind.u64.wrap (↑(BitVec.ofInt 64 (Go.IntKind.u64.wrap (↑(BitVec.ofInt 64 (Go.IntKind.u64.wrap (↑(BitVec.ofInt 64 (Go.IntKind.u64.wrap (↑(BitVec.ofInt 64 (0 : Int) ||| BitVec.ofInt 64 (Go.IntKind.u64.wrap (Go.IntKind.u64.wrap (g 15) * (1 : Int)))).toNat : Int)) ||| BitVec.ofInt 64 (Go.IntKind.u64.wrap (Go.IntKind.u64.wrap (g 14) * (256 : Int)))).toNat : Int)) ||| BitVec.ofInt 64 (Go.IntKind.u64.wrap (Go.IntKind.u64.wrap (g 13) * (65536 : Int)))).toNat : Int)) ||| BitVec.ofInt 64 (Go.IntKind.u64.wrap (Go.IntKind.u64.wrap (g 12) * (16777216 : Int)))).toNat : Int)) ||| BitVec.ofInt 64 (Go.IntKind.u64.wrap (Go.IntKind.u64.wrap (g 11) * (4294967296 : Int)))).toNat : Int)) ||| BitVec.ofInt 64 (Go.IntKind.u64.wrap (Go.IntKind.u64.wrap (g 10) * (1099511627776 : Int)))).toNat : Int)) ||| BitVec.ofInt 64 (Go.IntKind.u64.wrap (Go.IntKind.u64.wrap (g 9) * (281474976710656 : Int)))).toNat : Int)) ||| BitVec.ofInt 64 (Go.IntKind.u64.wrap (Go.IntKind.u64.wrap (g 8) * (72057594037927936 : Int)))).toNat : Int); let x4 : Int := Go.IntKind.u64.wrap (↑(BitVec.ofInt 64 (Go.IntKind.u64.wrap (↑(BitVec.ofInt 64 (Go.IntKind.u64.wrap (↑(BitVec.ofInt 64 (Go.IntKind.u64.wrap (↑(BitVec.ofInt 64 (Go.IntKind.u64.wrap (↑(BitVec.ofInt 64 (Go.IntKind.u64.wrap (↑(BitVec.ofInt 64 (Go.IntKind.u64.wrap (↑(BitVec.ofInt 64 (Go.IntKind.u64.wrap (↑(BitVec.ofInt 64 (0 : Int) ||| BitVec.ofInt 64 (Go.IntKind.u64.wrap (Go.IntKind.u64.wrap (g 7) * (1 : Int)))).toNat : Int)) ||| BitVec.ofInt 64 (Go.IntKind.u64.wrap (Go.IntKind.u64.wrap (g 6) * (256 : Int)))).toNat : Int)) ||| BitVec.ofInt 64 (Go.IntKind.u64.wrap (Go.IntKind.u64.wrap (g 5) * (65536 : Int)))).toNat : Int)) ||| BitVec.ofInt 64 (Go.IntKind.u64.wrap (Go.IntKind.u64.wrap (g 4) * (16777216 : Int)))).toNat : Int)) ||| BitVec.ofInt 64 (Go.IntKind.u64.wrap (Go.IntKind.u64.wrap (g 3) * (4294967296 : Int)))).toNat : Int)) ||| BitVec.ofInt 64 (Go.IntKind.u64.wrap (Go.IntKind.u64.wrap (g 2) * (1099511627776 : Int)))).toNat : Int)) ||| BitVec.ofInt 64 (Go.IntKind.u64.wrap (Go.IntKind.u64.wrap (g 1) * (281474976710656 : Int)))).toNat : Int)) ||| BitVec.ofInt 64 (Go.IntKind.u64.wrap (Go.IntKind.u64.wrap (g 0) * (72057594037927936 : Int)))).toNat : Int); ((0 : Int) ≤ x1 ∧ x1 < (18446744073709551616 : Int)) ∧ ((0 : Int) ≤ x2 ∧ x2 < (18446744073709551616 : Int)) ∧ ((0 : Int) ≤ x3 ∧ x3 < (18446744073709551616 : Int)) ∧ ((0 : Int) ≤ x4 ∧ x4 < (18446744073709551616 : Int)) ∧ join x1 x2 x3 x4 % M256 = fromN g 32 % M256 ∧ True) := by kernel_rfl
theorem vc_word (k a b : Int) (s : ByteArray) :
    Owes Try.prog Cx.none [] 400 Try.f25 [sRaw k a b s] (wordG k a b s) =
    ((if 0 < s.size then (↑(s.data.getD 0 (0 : UInt8)).toNat : Int) else (0 : Int)) = wordF a b s 0 ∧ (if 1 < s.size then (↑(s.data.getD 1 (0 : UInt8)).toNat : Int) else (0 : Int)) = wordF a b s 1 ∧ (if 2 < s.size then (↑(s.data.getD 2 (0 : UInt8)).toNat : Int) else (0 : Int)) = wordF a b s 2 ∧ (if 3 < s.size then (↑(s.data.getD 3 (0 : UInt8)).toNat : Int) else (0 : Int)) = wordF a b s 3 ∧ (if 4 < s.size then (↑(s.data.getD 4 (0 : UInt8)).toNat : Int) else (0 : Int)) = wordF a b s 4 ∧ (if 5 < s.size then (↑(s.data.getD 5 (0 : UInt8)).toNat : Int) else (0 : Int)) = wordF a b s 5 ∧ (if 6 < s.size then (↑(s.data.getD 6 (0 : UInt8)).toNat : Int) else (0 : Int)) = wordF a b s 6 ∧ (if 7 < s.size then (↑(s.data.getD 7 (0 : UInt8)).toNat : Int) else (0 : Int)) = wordF a b s 7 ∧ (if 8 < s.size then (↑(s.data.getD 8 (0 : UInt8)).toNat : Int) else (0 : Int)) = wordF a b s 8 ∧ (if 9 < s.size then (↑(s.data.getD 9 (0 : UInt8)).toNat : Int) else (0 : Int)) = wordF a b s 9 ∧ (if 10 < s.size then (↑(s.data.getD 10 (0 : UInt8)).toNat : Int) else (0 : Int)) = wordF a b s 10 ∧ (if 11 < s.size then (↑(s.data.getD 11 (0 : UInt8)).toNat : Int) else (0 : Int)) = wordF a b s 11 ∧ (if 12 < s.size then (↑(s.data.getD 12 (0 : UInt8)).toNat : Int) else (0 : Int)) = wordF a b s 12 ∧ (if 13 < s.size then (↑(s.data.getD 13 (0 : UInt8)).toNat : Int) else (0 : Int)) = wordF a b s 13 ∧ (if 14 < s.size then (↑(s.data.getD 14 (0 : UInt8)).toNat : Int) else (0 : Int)) = wordF a b s 14 ∧ (if 15 < s.size then (↑(s.data.getD 15 (0 : UInt8)).toNat : Int) else (0 : Int)) = wordF a b s 15 ∧ (if 16 < s.size then (↑(s.data.getD 16 (0 : UInt8)).toNat : Int) else (0 : Int)) = wordF a b s 16 ∧ (if 17 < s.size then (↑(s.data.getD 17 (0 : UInt8)).toNat : Int) else (0 : Int)) = wordF a b s 17 ∧ (if 18 < s.size then (↑(s.data.getD 18 (0 : UInt8)).toNat : Int) else (0 : Int)) = wordF a b s 18 ∧ (if 19 < s.size then (↑(s.data.getD 19 (0 : UInt8)).toNat : Int) else (0 : Int)) = wordF a b s 19 ∧ (if 20 < s.size then (↑(s.data.getD 20 (0 : UInt8)).toNat : Int) else (0 : Int)) = wordF a b s 20 ∧ (if 21 < s.size then (↑(s.data.getD 21 (0 : UInt8)).toNat : Int) else (0 : Int)) = wordF a b s 21 ∧ (if 22 < s.size then (↑(s.data.getD 22 (0 : UInt8)).toNat : Int) else (0 : Int)) = wordF a b s 22 ∧ (if 23 < s.size then (↑(s.data.getD 23 (0 : UInt8)).toNat : Int) else (0 : Int)) = wordF a b s 23 ∧ (if 24 < s.size then (↑(s.data.getD 24 (0 : UInt8)).toNat : Int) else (0 : Int)) = wordF a b s 24 ∧ (if 25 < s.size then (↑(s.data.getD 25 (0 : UInt8)).toNat : Int) else (0 : Int)) = wordF a b s 25 ∧ (if 26 < s.size then (↑(s.data.getD 26 (0 : UInt8)).toNat : Int) else (0 : Int)) = wordF a b s 26 ∧ (if 27 < s.size then (↑(s.data.getD 27 (0 : UInt8)).toNat : Int) else (0 : Int)) = wordF a b s 27 ∧ (if 28 < s.size then (↑(s.data.getD 28 (0 : UInt8)).toNat : Int) else (0 : Int)) = wordF a b s 28 ∧ (if 29 < s.size then (↑(s.data.getD 29 (0 : UInt8)).toNat : Int) else (0 : Int)) = wordF a b s 29 ∧ Go.IntKind.u8.wrap a = wordF a b s 30 ∧ Go.IntKind.u8.wrap b = wordF a b s 31 ∧ True) := by kernel_rfl
end Go.Proofs.Ytamhchemnalfbaa
end

section
namespace Go.Proofs.Ytamhchemnalfbaa
open Go.Sx
theorem split4 (n : Nat) : ∃ a b c d : Nat, limb n 0 = a ∧ limb n 1 = b ∧ limb n 2 = c ∧ limb n 3 = d ∧ a < 18446744073709551616 ∧ b < 18446744073709551616 ∧ c < 18446744073709551616 ∧ d < 18446744073709551616 ∧
    n % M256 = a + 18446744073709551616 * b + 340282366920938463463374607431768211456 * c + 6277101735386680763835789423207666416102355444464034512896 * d := by
  refine ⟨n / 2 ^ (64 * 0) % 2 ^ 64, n / 2 ^ (64 * 1) % 2 ^ 64, n / 2 ^ (64 * 2) % 2 ^ 64, n / 2 ^ (64 * 3) % 2 ^ 64, rfl, rfl, rfl, rfl, Nat.mod_lt _ (by decide), Nat.mod_lt _ (by decide), Nat.mod_lt _ (by decide), Nat.mod_lt _ (by decide), ?_⟩
  rw [limbs_sum]
  simp only [Nat.mul_zero, Nat.pow_zero, Nat.div_one, Nat.mul_one, Nat.reduceMul, Nat.reducePow]
theorem ok_Cmp : ∀ a b, Owes Try.prog Cx.none [] 100 Try.f12 [sU a, sU b] (cmpG a b) := by
  intro a b
  rw [vc_Cmp]
  obtain ⟨a0, a1, a2, a3, e0, e1, e2, e3, h0, h1, h2, h3, ha⟩ := split4 a
  obtain ⟨b0, b1, b2, b3, f0, f1, f2, f3, k0, k1, k2, k3, hb⟩ := split4 b
  rw [e0, e1, e2, e3, f0, f1, f2, f3]
  simp only [cmpN, ha, hb, decide_eq_true_eq, decide_eq_false_iff_not]
  clear e0 e1 e2 e3 f0 f1 f2 f3 ha hb
  refine ⟨fun h => ?_, fun h => ⟨fun h' => ?_, fun h' => ⟨fun g => ?_, fun g => ⟨fun g' => ?_, fun g' => ⟨fun i => ?_, fun i => ⟨fun i' => ?_, fun i' => ⟨fun j => ?_, fun j => ⟨fun j' => ?_, fun j' => ?_⟩⟩⟩⟩⟩⟩⟩⟩
  all_goals
    split
    · omega
    · first
      | omega
      | (split <;> omega)
theorem ok_picked (n m : Int) (hn : i64ok n) (hm : 0 < m ∧ m ≤ 1000000) : Owes Try.prog Cx.none [] 100 Try.f8 [sI .i64 n, sI .i64 m] (pickedG n m) := by
  rw [vc_picked]
  obtain ⟨h1, h2⟩ := hn
  have hd := Int.tmod_add_mul_tdiv n m
  have b1 := Int.emod_nonneg n (show m ≠ 0 by omega)
  have b2 := Int.emod_lt_of_pos n hm.1
  have hlt := Int.tmod_lt_of_pos n hm.1
  refine ⟨by omega, fun h => ?_, fun h => ?_⟩
  · simp only [decide_eq_true_eq] at h
    have hgt : -m < n.tmod m := by
      have := Int.lt_tmod_of_pos n hm.1
      exact this
    have e : n.tmod m + m = n % m := by
      have : (n.tmod m + m) % m = n.tmod m + m := Int.emod_eq_of_lt (by omega) (by omega)
      rw [← this]
      conv => rhs; rw [← hd]
      rw [Int.add_mul_emod_self_left, Int.add_emod_right]
    rw [e]
    exact IntWalk.i64_in _ (by omega)
  · simp only [decide_eq_false_iff_not] at h
    have : n.tmod m % m = n.tmod m := Int.emod_eq_of_lt (by omega) hlt
    rw [← this]
    conv => rhs; rw [← hd]
    rw [Int.add_mul_emod_self_left]
end Go.Proofs.Ytamhchemnalfbaa
end

section
namespace Go.Proofs.Ytamhchemnalfbaa
open Go.Sx
theorem ok_number : ∀ k a b s, i64ok k → i64ok a → i64ok b → Owes Try.prog cxRaw [] 100 Try.f7 [sRaw k a b s] (rawG k a b s) := by
  intro k a b s hk ha hb
  rw [vc_number]
  unfold i64ok at hk ha hb
  have hr : ∀ x, 0 ≤ IntKind.u64.wrap x ∧ IntKind.u64.wrap x < 2 ^ 64 := w64_range
  have hz : (0 : Int) ≤ 0 ∧ (0 : Int) < 2 ^ 64 := ⟨by decide, by decide⟩
  have hm : (0 : Int) ≤ 18446744073709551615 ∧ (18446744073709551615 : Int) < 2 ^ 64 := ⟨by decide, by decide⟩
  refine ⟨hk, by omega, fun h0 => ?_, fun h0 => ⟨fun h1 => ?_, fun h1 => ⟨fun h2 => ?_, fun h2 => ⟨fun h3 => ?_, fun h3 => ?_⟩⟩⟩⟩
  · rw [beq_iff_eq] at h0
    refine ⟨ha, by omega, hr _, hz, hz, hz, ?_, trivial⟩
    rw [rawN, if_pos h0]; rfl
  · rw [beq_iff_eq] at h1
    rw [beq_eq_false_iff_ne] at h0
    refine ⟨hr _, hz, hz, hz, ?_, trivial⟩
    rw [rawN, if_neg h0, if_pos h1]; rfl
  · rw [beq_iff_eq] at h2
    rw [beq_eq_false_iff_ne] at h0 h1
    refine ⟨hr _, hr _, hz, hz, ?_, trivial⟩
    rw [rawN, if_neg h0, if_neg h1, if_pos h2]; rfl
  · rw [beq_iff_eq] at h3
    rw [beq_eq_false_iff_ne] at h0 h1 h2
    refine ⟨hr _, hr _, hr _, hr _, ?_, trivial⟩
    rw [rawN, if_neg h0, if_neg h1, if_neg h2, if_pos h3]; rfl
  · rw [beq_eq_false_iff_ne] at h0 h1 h2 h3
    refine ⟨hr _, hr _, hm, hm, ?_, trivial⟩
    rw [rawN, if_neg h0, if_neg h1, if_neg h2, if_neg h3]; rfl
end Go.Proofs.Ytamhchemnalfbaa
end

section
namespace Go.Proofs.Ytamhchemnalfbaa
open Go.Sx
theorem wrap_id {n : Int} (h : 0 ≤ n ∧ n < 18446744073709551616) : IntKind.u64.wrap n = n := by
  unfold IntKind.wrap
  simp [IntKind.signed, IntKind.bits]
  omega
end Go.Proofs.Ytamhchemnalfbaa
end

section
namespace Go.Proofs.Ytamhchemnalfbaa
open Go.Sx
end Go.Proofs.Ytamhchemnalfbaa
end

section
namespace Go.Proofs.Ytamhchemnalfbaa
open Go.Sx
end Go.Proofs.Ytamhchemnalfbaa
end

section
namespace Go.Proofs.Ytamhchemnalfbaa
open Go.Sx
end Go.Proofs.Ytamhchemnalfbaa
end

section
namespace Go.Proofs.Ytamhchemnalfbaa
open Go.Sx
end Go.Proofs.Ytamhchemnalfbaa
end

section
namespace Go.Sx
open Go.RowKit Go.ChangeShapes Go.WideShapes
inductive LK where
  | bool
  | int (k : IntKind)
  | text
def LK.fits : LK → Value → Prop
  | .bool, .bool _ => True
  | .int k, .int k' n => k' = k ∧ (Lit.int k n).wf = true
  | .text, .string s => s.size ≤ maxLen
  | _, _ => False
def fitsL : List LK → List Value → Prop
  | [], [] => True
  | l :: ls, v :: vs => l.fits v ∧ fitsL ls vs
  | _, _ => False
theorem fitsL_append : ∀ {a b : List LK} {u v : List Value}, fitsL a u → fitsL b v → fitsL (a ++ b) (u ++ v)
  | [], _, [], _, _, h => h
  | _ :: _, _, _ :: _, _, h, k => ⟨h.1, fitsL_append h.2 k⟩
  | [], _, _ :: _, _, h, _ => h.elim
  | _ :: _, _, [], _, h, _ => h.elim
def lksF (P : Program) (g : TypeId → Option (List LK)) : List Field → Nat → Option (List LK)
  | [], _ => some []
  | f :: fs, n =>
    match g f.type with
    | none => none
    | some a => if Nat.beq f.offset n && Nat.beq (P.cellsOf f.type) a.length then (lksF P g fs (n + a.length)).map (a ++ ·) else none
def lks (P : Program) : Nat → TypeId → Option (List LK)
  | 0, _ => none
  | d + 1, t =>
    match P.underlying t with
    | some .bool => some [.bool]
    | some (.int k) => some [.int k]
    | some .string => some [.text]
    | some (.struct fs) => match lksF P (lks P d) fs.toList 0 with
      | some a => if Nat.beq (P.cellsOf t) a.length then some a else none
      | none => none
    | some (.array n e) => match lks P d e with
      | some a => if Nat.beq (P.cellsOf e) a.length && Nat.beq (P.cellsOf t) (n * a.length) then some (List.replicate n a).flatten else none
      | none => none
    | _ => none
section
variable {H : Type} {enc : TypeId × Value → H} {P : Program} {w : World} {base : Nat} {sp : Nat → Bool} {held : Bool}
theorem fits_fields {fuel : Nat} {g : TypeId → Option (List LK)} {cs : List Value}
    (hg : ∀ {t a cs' x}, g t = some a → DataW.trod enc P w base sp held fuel t cs' = some x → fitsL a cs') :
    ∀ {fs : List Field} {n : Nat} {a : List LK}, lksF P g fs n = some a →
      (∀ f ∈ fs, ∃ x, DataW.trod enc P w base sp held fuel f.type ((cs.drop f.offset).take (P.cellsOf f.type)) = some x) → fitsL a ((cs.drop n).take a.length)
  | [], n, a, h, _ => by
    simp only [lksF, Option.some.injEq] at h
    subst h
    simp [fitsL]
  | f :: fs, n, a, h, hx => by
    simp only [lksF] at h
    split at h
    · cases h
    · rename_i a0 ha
      split at h
      · rename_i hc
        simp only [Bool.and_eq_true] at hc
        have h1 := Nat.eq_of_beq_eq_true hc.1
        have h2 := Nat.eq_of_beq_eq_true hc.2
        cases hr : lksF P g fs (n + a0.length) with
        | none => rw [hr] at h; simp at h
        | some a1 =>
          rw [hr] at h
          simp only [Option.map_some, Option.some.injEq] at h
          subst h
          obtain ⟨x, hx0⟩ := hx f (by simp)
          have f0 := hg ha hx0
          have f1 := fits_fields hg hr (fun f' hf' => hx f' (by simp [hf']))
          rw [h1, h2] at f0
          have := fitsL_append f0 f1
          rwa [List.length_append, List.take_add, List.drop_drop]
      · cases h
theorem fits_rows {a : List LK} : ∀ {n : Nat} {cs : List Value}, (∀ i, i < n → fitsL a ((cs.drop (i * a.length)).take a.length)) → cs.length = n * a.length → fitsL (List.replicate n a).flatten cs
  | 0, cs, _, hl => by
    have : cs = [] := List.eq_nil_of_length_eq_zero (by omega)
    subst this
    trivial
  | n + 1, cs, h, hl => by
    rw [List.replicate_succ, List.flatten_cons]
    have h0 := h 0 (by omega)
    rw [Nat.zero_mul, List.drop_zero] at h0
    have := fitsL_append h0 (fits_rows (n := n) (cs := cs.drop a.length) (fun i hi => by
      have := h (i + 1) (by omega)
      rw [List.drop_drop]
      rwa [Nat.add_mul, Nat.one_mul, Nat.add_comm] at this) (by rw [List.length_drop, hl, Nat.add_mul]; omega))
    rwa [List.take_append_drop] at this
theorem trod_fits : ∀ {d : Nat} {t : TypeId} {a : List LK} {fuel : Nat} {cs : List Value} {x : DataW H × List MemPlace}, lks P d t = some a → DataW.trod enc P w base sp held fuel t cs = some x → fitsL a cs
  | 0, _, _, _, _, _, h, _ => by cases h
  | d + 1, t, a, fuel, cs, x, h, hx => by
    unfold lks at h
    split at h
    · rename_i hu
      obtain ⟨b, rfl, _⟩ := DataW.trod_bool hu hx
      simp only [Option.some.injEq] at h; subst h
      exact ⟨trivial, trivial⟩
    · rename_i k hu
      obtain ⟨n, rfl, _, hw⟩ := DataW.trod_int hu hx
      simp only [Option.some.injEq] at h; subst h
      exact ⟨⟨rfl, hw⟩, trivial⟩
    · rename_i hu
      obtain ⟨s, rfl, _, hs⟩ := DataW.trod_string hu hx
      simp only [Option.some.injEq] at h; subst h
      exact ⟨hs, trivial⟩
    · rename_i fs hu
      split at h
      · rename_i a' ha
        split at h
        · rename_i hc
          simp only [Option.some.injEq] at h; subst h
          obtain ⟨xs, n, rfl, _, hl, hn, hf⟩ := DataW.trod_struct hu hx
          have := fits_fields (cs := cs) (fun h1 h2 => trod_fits (d := d) h1 h2) ha (fun f hm => by
            obtain ⟨i, hi, e⟩ := List.mem_iff_getElem.1 hm
            have e' : fs[i]? = some f := by rw [← e]; simp at hi ⊢
            have hlt : i < xs.length := by simp at hi; omega
            exact ⟨xs[i], by rw [hf i f e']; simp [hlt]⟩)
          rw [List.drop_zero, List.take_of_length_le (by rw [hl, Nat.eq_of_beq_eq_true hc]; exact Nat.le_refl _)] at this
          exact this
        · cases h
      · cases h
    · rename_i n e hu
      split at h
      · rename_i a' ha
        split at h
        · rename_i hc
          simp only [Bool.and_eq_true] at hc
          simp only [Option.some.injEq] at h; subst h
          obtain ⟨xs, m, rfl, _, hl, hn, hf⟩ := DataW.trod_array hu hx
          have h1 := Nat.eq_of_beq_eq_true hc.1
          have h2 := Nat.eq_of_beq_eq_true hc.2
          refine fits_rows (fun i hi => ?_) (by rw [hl, h2])
          have := hf i hi
          have hlt : i < xs.length := by omega
          rw [h1, List.getElem?_eq_getElem hlt] at this
          exact trod_fits ha this
        · cases h
      · cases h
    · cases h
theorem open_flat {d : Nat} {t : TypeId} {a : List LK} {r : Reach} {b0 : Nat} {v : Value} {x : DataW H} {ps : List MemPlace} (ha : lks P d t = some a)
    (hs : (match P.underlying t with | some (.struct _) | some (.array _ _) => true | _ => false) = true)
    (hval : Value.okWide P w r b0 t v) (hd : DataW.Trod enc P w base sp held t v x ps) : ∃ cs : List Value, v = .agg cs.toArray ∧ fitsL a cs := by
  obtain ⟨fuel, hf⟩ := hd
  have : ∃ cs : Array Value, v = .agg cs := by
    unfold Value.okWide at hval
    split at hval
    · obtain ⟨cs, h, _⟩ := hval; exact ⟨cs, h⟩
    · obtain ⟨cs, h, _⟩ := hval; exact ⟨cs, h⟩
    · rename_i h1 h2
      split at hs
      · rename_i e; exact (h1 _ e).elim
      · rename_i e; exact (h2 _ _ e).elim
      · cases hs
  obtain ⟨cs, rfl⟩ := this
  exact ⟨cs.toList, rfl, trod_fits ha hf⟩
theorem trodAll_carry (hl : laidOutB P = true) {W W' : World} (hb : Below W.heap.size W W') {sp' : Nat → Bool} :
    ∀ {ts : List TypeId} {vs : List Value} {ds : List (DataW H)} {ps : List MemPlace}, ts.all (fun t => P.readableRec t && Nat.blt t P.types.size) = true →
      DataW.TrodAll enc P W 0 (fun _ => true) true ts vs ds ps → (∀ x ∈ ps, x.block < W.heap.size) → (∀ x ∈ ps, sp' x.block = true) → DataW.TrodAll enc P W' 0 sp' true ts vs ds ps
  | [], _, _, _, _, h, _, _ => by
    obtain ⟨rfl, rfl, rfl⟩ := trodAll_nil h
    exact rfl
  | t :: ts, _, _, _, hr, h, hlt, hsp => by
    obtain ⟨v, vs, d, ds, p, q, rfl, rfl, rfl, h1, h2⟩ := trodAll_cons h
    simp only [List.all_cons, Bool.and_eq_true] at hr
    obtain ⟨⟨hr1, hr2⟩, hr3⟩ := hr
    refine trodAll_cons_mk (Go.WideElems.Trod_stays hl hr1 (by simpa [Nat.blt, Nat.succ_le_iff] using hr2) h1 (fun x hx => hb.same (hlt x (by simp [hx]))) (fun x hx => hsp x (by simp [hx])))
      (trodAll_carry hl hb hr3 h2 (fun x hx => hlt x (by simp [hx])) (fun x hx => hsp x (by simp [hx])))
theorem law_post {f : Func} {s : ChangeSpec} {fresh handsOn again : Bool} {W W' : World} {args : Array Value} {ds gs : List (DataW H)} {before : List MemPlace} {tb : TypeId}
    (hl : laidOutB P = true) (hp : f.params.toList.all (fun t => P.readableRec t && Nat.blt t P.types.size) = true) (hr : f.resultTypes = #[tb]) (hu : P.underlying tb = some .bool) (hv : s.vars = [])
    (hs : s.fn H (ds ++ gs) = { results := [.lit (.bool true)], args := ds, vars := [] })
    (hW : DataW.Whole enc P f.params.toList s.vars false W args.toList ds gs before) (hb : Below W.heap.size W W') :
    s.post enc P f false fresh handsOn again W args (.bool true) W' := by
  have hlt : ∀ p ∈ before, p.block < W.heap.size := fun p hp => hW.lt p hp
  have hW0 := hW
  obtain ⟨p, q, hA, hV, he, hz, hn⟩ := hW
  rw [hv] at hV
  obtain ⟨rfl, rfl⟩ := trodVars_none hV
  rw [List.append_nil] at he
  subst he
  have hres : ∀ (b : Nat) (sp : Nat → Bool) (hd : Bool), DataW.TrodAll enc P W' b sp hd f.resultTypes.toList (Value.resultList f.resultTypes.size (.bool true)) (s.fn H (ds ++ [])).results [] := by
    intro b sp hd
    rw [hs, hr]
    exact trodAll_mk1 (shut_bool hu true)
  have hargs : ∀ sp : Nat → Bool, (∀ x ∈ before, sp x.block = true) → DataW.TrodAll enc P W' 0 sp true f.params.toList args.toList (s.fn H (ds ++ [])).args before := by
    intro sp hsp
    rw [hs]
    exact trodAll_carry hl hb hp hA hlt hsp
  have hvars : ∀ sp : Nat → Bool, DataW.TrodVars enc P W' sp s.vars (s.fn H (ds ++ [])).vars [] := by
    intro sp
    rw [hv, hs]
    exact rfl
  refine ⟨ds, [], before, [], before, [], hW0, hres _ _ _, hargs _ (fun x hx => by simpa using hlt x hx), hvars _, World.keptBut_mono (fun x hx => ⟨hx, .inr (.inl hx)⟩) (hb.frame (· ∈ before)), fun _ => ⟨?_, _, [], before, ⟨before, [], trodAll_append (hargs _ (fun _ _ => rfl)) (hres _ _ _), ?_, (List.append_nil _).symm, ?_, ?_⟩, fun x hx _ => hx⟩⟩
  · refine ok_one hr rfl ?_
    unfold Value.okWide
    rw [hu]
    unfold Cell.okWide
    rw [hu]
    unfold Cell.ok
    rw [hu]
    trivial
  · have := hvars (fun _ => true)
    rw [hs] at this
    exact this
  · intro b off hm
    rw [hb.frozen (hlt _ hm)]
    exact hz b off hm
  · intro h; cases h
end
end Go.Sx
end

section
namespace Go.Proofs.Ytamhchemnalfbaa
open Go.Sx
theorem CxOK_nil : CxOK Try.prog Cx.none := ⟨fun _ h => (by cases h), fun _ h => (by cases h)⟩
theorem CxOK_cons {f : Nat} {s : FSpec} {l : List (Nat × FSpec)} {gl : Globs} {wf : List (Nat × WSpec)} (h : FnOKg Try.prog gl f s) (hs : CxOK Try.prog ⟨l, gl, 0, wf⟩) : CxOK Try.prog ⟨(f, s) :: l, gl, 0, wf⟩ := by
  refine ⟨fun p hp => ?_, hs.2⟩
  rcases List.mem_cons.1 hp with rfl | hp
  · exact h
  · exact hs.1 p hp
theorem bnd_U (n : Nat) : SA.bnd none0 (sU n) := by
  intro k hk; simp only [List.mem_singleton] at hk; subst hk; trivial
theorem bnd_I (k : IntKind) (n : Int) : SA.bnd none0 (sI k n) := trivial
theorem bnd_one {x : SA} (h : x.bnd none0) : SV.bnd none0 (.one x) := h
theorem card_Cmp : FnOK Try.prog 12 (specUU cmpG) :=
  FnOK_UU CxOK_nil (iv := []) (N := 100) Try.func12 (by kernel_rfl) (by kernel_rfl) (fun a b => by unfold cmpG; exact bnd_one (bnd_I _ _)) ok_Cmp
theorem card_picked : FnOK Try.prog 8 (specII (fun a b => [i64ok a, 0 < b ∧ b ≤ 1000000]) pickedG) :=
  FnOK_II CxOK_nil (iv := []) (N := 100) Try.func8 (by kernel_rfl) (by kernel_rfl) (fun _ _ => bnd_one (bnd_I _ _)) (fun a b h => ok_picked a b h.1 h.2.1)
theorem cxok_Raw : CxOK Try.prog cxRaw := CxOK_cons card_picked CxOK_nil
theorem card_number : FnOK Try.prog 7 (specRaw rawG) :=
  FnOK_Raw cxok_Raw (iv := []) (N := 100) Try.func7 (by kernel_rfl) (by kernel_rfl) (fun _ _ _ _ => bnd_one (bnd_U _)) ok_number
end Go.Proofs.Ytamhchemnalfbaa
end

section
namespace Go.Proofs.Ytamhchemnalfbaa
open Go.Sx
end Go.Proofs.Ytamhchemnalfbaa
end

section
namespace Go.Proofs.Ytamhchemnalfbaa
open Go.Sx
theorem byte_cut (c m : Nat) (hm : m < 8) : c % 2 ^ 64 / 2 ^ (8 * m) % 256 = c / 2 ^ (8 * m) % 256 := by
  match m, hm with
  | 0, _ | 1, _ | 2, _ | 3, _ | 4, _ | 5, _ | 6, _ | 7, _ => all_goals (simp only [Nat.reduceMul, Nat.reducePow, Nat.pow_zero]; omega)
theorem u8_wrap (n : Nat) : IntKind.u8.wrap (n : Int) = ((n % 256 : Nat) : Int) := by
  unfold IntKind.wrap
  simp [IntKind.signed, IntKind.bits]
theorem byte_of (a i m j : Nat) (d : Int) (hm : m < 8) (hd : d = ((2 ^ (8 * m) : Nat) : Int)) (hj : j = 8 * i + m) : IntKind.u8.wrap ((limb a i).fdiv d) = by8 a j := by
  subst hd hj
  unfold limb by8
  rw [Int.fdiv_eq_ediv_of_nonneg _ (Int.natCast_nonneg _), ← Int.natCast_ediv, u8_wrap, byte_cut _ _ hm, Nat.div_div_eq_div_mul, ← Nat.pow_add]
  have : 64 * i + 8 * m = 8 * (8 * i + m) := by omega
  rw [this]
theorem ok_Bytes : ∀ a, Owes Try.prog Cx.none [] 400 Try.f86 [sU a] (bytesG a) := by
  intro a
  rw [vc_Bytes]
  have h : ∀ i m j d, m < 8 → d = ((2 ^ (8 * m) : Nat) : Int) → j = 8 * i + m → IntKind.u8.wrap ((limb a i).fdiv d) = by8 a j := fun i m j d => byte_of a i m j d
  exact ⟨h 3 7 _ _ (by decide) rfl rfl,
    h 3 6 _ _ (by decide) rfl rfl,
    h 3 5 _ _ (by decide) rfl rfl,
    h 3 4 _ _ (by decide) rfl rfl,
    h 3 3 _ _ (by decide) rfl rfl,
    h 3 2 _ _ (by decide) rfl rfl,
    h 3 1 _ _ (by decide) rfl rfl,
    h 3 0 _ _ (by decide) rfl rfl,
    h 2 7 _ _ (by decide) rfl rfl,
    h 2 6 _ _ (by decide) rfl rfl,
    h 2 5 _ _ (by decide) rfl rfl,
    h 2 4 _ _ (by decide) rfl rfl,
    h 2 3 _ _ (by decide) rfl rfl,
    h 2 2 _ _ (by decide) rfl rfl,
    h 2 1 _ _ (by decide) rfl rfl,
    h 2 0 _ _ (by decide) rfl rfl,
    h 1 7 _ _ (by decide) rfl rfl,
    h 1 6 _ _ (by decide) rfl rfl,
    h 1 5 _ _ (by decide) rfl rfl,
    h 1 4 _ _ (by decide) rfl rfl,
    h 1 3 _ _ (by decide) rfl rfl,
    h 1 2 _ _ (by decide) rfl rfl,
    h 1 1 _ _ (by decide) rfl rfl,
    h 1 0 _ _ (by decide) rfl rfl,
    h 0 7 _ _ (by decide) rfl rfl,
    h 0 6 _ _ (by decide) rfl rfl,
    h 0 5 _ _ (by decide) rfl rfl,
    h 0 4 _ _ (by decide) rfl rfl,
    h 0 3 _ _ (by decide) rfl rfl,
    h 0 2 _ _ (by decide) rfl rfl,
    h 0 1 _ _ (by decide) rfl rfl,
    h 0 0 _ _ (by decide) rfl rfl, trivial⟩
theorem pow8_le (m : Nat) (hm : m < 8) : 2 ^ (8 * m) * 256 ≤ 18446744073709551616 := by
  have h : 2 ^ (8 * m) ≤ 2 ^ 56 := Nat.pow_le_pow_right (by decide) (by omega)
  omega
theorem or_step (x : Int) (y : Int) (m : Nat) (d : Int) (hx : 0 ≤ x ∧ x < d) (hy : 0 ≤ y ∧ y < 256) (hm : m < 8) (hd : d = ((2 ^ (8 * m) : Nat) : Int)) :
    IntKind.u64.wrap ((BitVec.ofInt 64 x ||| BitVec.ofInt 64 (IntKind.u64.wrap (IntKind.u64.wrap y * d))).toNat : Int) = x + y * d ∧ 0 ≤ x + y * d ∧ x + y * d < d * 256 := by
  subst hd
  obtain ⟨x, rfl⟩ := Int.eq_ofNat_of_zero_le hx.1
  obtain ⟨y, rfl⟩ := Int.eq_ofNat_of_zero_le hy.1
  have hx' : x < 2 ^ (8 * m) := Int.ofNat_lt.1 hx.2
  have hy' : y < 256 := by omega
  have hp := pow8_le m hm
  have hyd : y * 2 ^ (8 * m) + 2 ^ (8 * m) ≤ 2 ^ (8 * m) * 256 := by
    have : (y + 1) * 2 ^ (8 * m) ≤ 256 * 2 ^ (8 * m) := Nat.mul_le_mul_right _ (by omega)
    rw [Nat.add_mul, Nat.one_mul, Nat.mul_comm 256] at this
    exact this
  have hd0 : 0 < 2 ^ (8 * m) := Nat.two_pow_pos _
  generalize hD : 2 ^ (8 * m) = D at *
  have e0 : IntKind.u64.wrap (y : Int) = y := wrap_id ⟨by omega, by omega⟩
  have e1 : (y : Int) * (D : Int) = ((y * D : Nat) : Int) := (Int.natCast_mul y D).symm
  rw [e0, e1, wrap_id (n := ((y * D : Nat) : Int)) ⟨by omega, by omega⟩]
  have b1 : (BitVec.ofInt 64 (x : Int)).toNat = x := by rw [BitVec.toNat_ofInt]; omega
  have b2 : (BitVec.ofInt 64 ((y * D : Nat) : Int)).toNat = y * D := by rw [BitVec.toNat_ofInt]; omega
  rw [BitVec.toNat_or, b1, b2]
  have ho : x ||| y * D = y * D + x := by
    rw [Nat.or_comm, ← hD, Nat.mul_comm]
    exact (Nat.two_pow_add_eq_or_of_lt (by rw [hD]; exact hx') y).symm
  rw [ho, wrap_id ⟨by omega, by omega⟩]
  omega
theorem or_row (g : Nat → Int) (i : Nat) (h0 : 0 ≤ g i ∧ g i < 256) (h1 : 0 ≤ g (i - 1) ∧ g (i - 1) < 256) (h2 : 0 ≤ g (i - 2) ∧ g (i - 2) < 256) (h3 : 0 ≤ g (i - 3) ∧ g (i - 3) < 256)
    (h4 : 0 ≤ g (i - 4) ∧ g (i - 4) < 256) (h5 : 0 ≤ g (i - 5) ∧ g (i - 5) < 256) (h6 : 0 ≤ g (i - 6) ∧ g (i - 6) < 256) (h7 : 0 ≤ g (i - 7) ∧ g (i - 7) < 256) (r : Int)
    (hr : r = IntKind.u64.wrap ((BitVec.ofInt 64 (IntKind.u64.wrap ((BitVec.ofInt 64 (IntKind.u64.wrap ((BitVec.ofInt 64 (IntKind.u64.wrap ((BitVec.ofInt 64 (IntKind.u64.wrap ((BitVec.ofInt 64 (IntKind.u64.wrap ((BitVec.ofInt 64 (IntKind.u64.wrap ((BitVec.ofInt 64 (IntKind.u64.wrap ((BitVec.ofInt 64 (0 : Int) |||
      BitVec.ofInt 64 (IntKind.u64.wrap (IntKind.u64.wrap (g i) * 1))).toNat : Int)) |||
      BitVec.ofInt 64 (IntKind.u64.wrap (IntKind.u64.wrap (g (i - 1)) * 256))).toNat : Int)) |||
      BitVec.ofInt 64 (IntKind.u64.wrap (IntKind.u64.wrap (g (i - 2)) * 65536))).toNat : Int)) |||
      BitVec.ofInt 64 (IntKind.u64.wrap (IntKind.u64.wrap (g (i - 3)) * 16777216))).toNat : Int)) |||
      BitVec.ofInt 64 (IntKind.u64.wrap (IntKind.u64.wrap (g (i - 4)) * 4294967296))).toNat : Int)) |||
      BitVec.ofInt 64 (IntKind.u64.wrap (IntKind.u64.wrap (g (i - 5)) * 1099511627776))).toNat : Int)) |||
      BitVec.ofInt 64 (IntKind.u64.wrap (IntKind.u64.wrap (g (i - 6)) * 281474976710656))).toNat : Int)) |||
      BitVec.ofInt 64 (IntKind.u64.wrap (IntKind.u64.wrap (g (i - 7)) * 72057594037927936))).toNat : Int)) :
    r = g i + 256 * g (i - 1) + 65536 * g (i - 2) + 16777216 * g (i - 3) + 4294967296 * g (i - 4) + 1099511627776 * g (i - 5) + 281474976710656 * g (i - 6) + 72057594037927936 * g (i - 7) := by
  obtain ⟨e0, a0, b0⟩ := or_step 0 (g i) 0 1 (by decide) h0 (by decide) rfl
  rw [e0] at hr
  obtain ⟨e1, a1, b1⟩ := or_step _ (g (i - 1)) 1 256 ⟨a0, b0⟩ h1 (by decide) rfl
  rw [e1] at hr
  obtain ⟨e2, a2, b2⟩ := or_step _ (g (i - 2)) 2 65536 ⟨a1, b1⟩ h2 (by decide) rfl
  rw [e2] at hr
  obtain ⟨e3, a3, b3⟩ := or_step _ (g (i - 3)) 3 16777216 ⟨a2, b2⟩ h3 (by decide) rfl
  rw [e3] at hr
  obtain ⟨e4, a4, b4⟩ := or_step _ (g (i - 4)) 4 4294967296 ⟨a3, b3⟩ h4 (by decide) rfl
  rw [e4] at hr
  obtain ⟨e5, a5, b5⟩ := or_step _ (g (i - 5)) 5 1099511627776 ⟨a4, b4⟩ h5 (by decide) rfl
  rw [e5] at hr
  obtain ⟨e6, a6, b6⟩ := or_step _ (g (i - 6)) 6 281474976710656 ⟨a5, b5⟩ h6 (by decide) rfl
  rw [e6] at hr
  obtain ⟨e7, a7, b7⟩ := or_step _ (g (i - 7)) 7 72057594037927936 ⟨a6, b6⟩ h7 (by decide) rfl
  rw [e7] at hr
  rw [hr]
  omega
theorem fromN_join (g : Nat → Int) (h : byteOK 32 g) (r0 r1 r2 r3 : Int)
    (h0 : r0 = g 31 + 256 * g 30 + 65536 * g 29 + 16777216 * g 28 + 4294967296 * g 27 + 1099511627776 * g 26 + 281474976710656 * g 25 + 72057594037927936 * g 24)
    (h1 : r1 = g 23 + 256 * g 22 + 65536 * g 21 + 16777216 * g 20 + 4294967296 * g 19 + 1099511627776 * g 18 + 281474976710656 * g 17 + 72057594037927936 * g 16)
    (h2 : r2 = g 15 + 256 * g 14 + 65536 * g 13 + 16777216 * g 12 + 4294967296 * g 11 + 1099511627776 * g 10 + 281474976710656 * g 9 + 72057594037927936 * g 8)
    (h3 : r3 = g 7 + 256 * g 6 + 65536 * g 5 + 16777216 * g 4 + 4294967296 * g 3 + 1099511627776 * g 2 + 281474976710656 * g 1 + 72057594037927936 * g 0) :
    (0 ≤ r0 ∧ r0 < 18446744073709551616) ∧ (0 ≤ r1 ∧ r1 < 18446744073709551616) ∧ (0 ≤ r2 ∧ r2 < 18446744073709551616) ∧ (0 ≤ r3 ∧ r3 < 18446744073709551616) ∧ join r0 r1 r2 r3 = fromN g 32 := by
  have hb : ∀ j, j < 32 → ∃ b : Nat, g j = b ∧ b < 256 := fun j hj => ⟨(g j).toNat, by have := h j hj; omega, by have := h j hj; omega⟩
  obtain ⟨b0, e0, l0⟩ := hb 0 (by decide)
  obtain ⟨b1, e1, l1⟩ := hb 1 (by decide)
  obtain ⟨b2, e2, l2⟩ := hb 2 (by decide)
  obtain ⟨b3, e3, l3⟩ := hb 3 (by decide)
  obtain ⟨b4, e4, l4⟩ := hb 4 (by decide)
  obtain ⟨b5, e5, l5⟩ := hb 5 (by decide)
  obtain ⟨b6, e6, l6⟩ := hb 6 (by decide)
  obtain ⟨b7, e7, l7⟩ := hb 7 (by decide)
  obtain ⟨b8, e8, l8⟩ := hb 8 (by decide)
  obtain ⟨b9, e9, l9⟩ := hb 9 (by decide)
  obtain ⟨b10, e10, l10⟩ := hb 10 (by decide)
  obtain ⟨b11, e11, l11⟩ := hb 11 (by decide)
  obtain ⟨b12, e12, l12⟩ := hb 12 (by decide)
  obtain ⟨b13, e13, l13⟩ := hb 13 (by decide)
  obtain ⟨b14, e14, l14⟩ := hb 14 (by decide)
  obtain ⟨b15, e15, l15⟩ := hb 15 (by decide)
  obtain ⟨b16, e16, l16⟩ := hb 16 (by decide)
  obtain ⟨b17, e17, l17⟩ := hb 17 (by decide)
  obtain ⟨b18, e18, l18⟩ := hb 18 (by decide)
  obtain ⟨b19, e19, l19⟩ := hb 19 (by decide)
  obtain ⟨b20, e20, l20⟩ := hb 20 (by decide)
  obtain ⟨b21, e21, l21⟩ := hb 21 (by decide)
  obtain ⟨b22, e22, l22⟩ := hb 22 (by decide)
  obtain ⟨b23, e23, l23⟩ := hb 23 (by decide)
  obtain ⟨b24, e24, l24⟩ := hb 24 (by decide)
  obtain ⟨b25, e25, l25⟩ := hb 25 (by decide)
  obtain ⟨b26, e26, l26⟩ := hb 26 (by decide)
  obtain ⟨b27, e27, l27⟩ := hb 27 (by decide)
  obtain ⟨b28, e28, l28⟩ := hb 28 (by decide)
  obtain ⟨b29, e29, l29⟩ := hb 29 (by decide)
  obtain ⟨b30, e30, l30⟩ := hb 30 (by decide)
  obtain ⟨b31, e31, l31⟩ := hb 31 (by decide)
  simp only [fromN, Nat.sub_zero, Nat.reduceSub, e0, e1, e2, e3, e4, e5, e6, e7, e8, e9, e10, e11, e12, e13, e14, e15, e16, e17, e18, e19, e20, e21, e22, e23, e24, e25, e26, e27, e28, e29, e30, e31] at *
  clear h hb e0 e1 e2 e3 e4 e5 e6 e7 e8 e9 e10 e11 e12 e13 e14 e15 e16 e17 e18 e19 e20 e21 e22 e23 e24 e25 e26 e27 e28 e29 e30 e31
  have k0 : r0.toNat = b31 + 256 * b30 + 65536 * b29 + 16777216 * b28 + 4294967296 * b27 + 1099511627776 * b26 + 281474976710656 * b25 + 72057594037927936 * b24 := by omega
  have k1 : r1.toNat = b23 + 256 * b22 + 65536 * b21 + 16777216 * b20 + 4294967296 * b19 + 1099511627776 * b18 + 281474976710656 * b17 + 72057594037927936 * b16 := by omega
  have k2 : r2.toNat = b15 + 256 * b14 + 65536 * b13 + 16777216 * b12 + 4294967296 * b11 + 1099511627776 * b10 + 281474976710656 * b9 + 72057594037927936 * b8 := by omega
  have k3 : r3.toNat = b7 + 256 * b6 + 65536 * b5 + 16777216 * b4 + 4294967296 * b3 + 1099511627776 * b2 + 281474976710656 * b1 + 72057594037927936 * b0 := by omega
  refine ⟨by omega, by omega, by omega, by omega, ?_⟩
  unfold join
  rw [k0, k1, k2, k3]
  simp only [Nat.reducePow, Int.toNat_natCast]
  omega
theorem ok_From : ∀ g, byteOK 32 g → Owes Try.prog Cx.none [] 400 Try.f88 [sBy 32 g] (fromG g) := by
  intro g hg
  rw [vc_From]
  intro x1 x2 x3 x4
  have hb : ∀ j, j < 32 → 0 ≤ g j ∧ g j < 256 := hg
  have e1 := or_row g 31 (hb _ (by decide)) (hb _ (by decide)) (hb _ (by decide)) (hb _ (by decide)) (hb _ (by decide)) (hb _ (by decide)) (hb _ (by decide)) (hb _ (by decide)) x1 rfl
  have e2 := or_row g 23 (hb _ (by decide)) (hb _ (by decide)) (hb _ (by decide)) (hb _ (by decide)) (hb _ (by decide)) (hb _ (by decide)) (hb _ (by decide)) (hb _ (by decide)) x2 rfl
  have e3 := or_row g 15 (hb _ (by decide)) (hb _ (by decide)) (hb _ (by decide)) (hb _ (by decide)) (hb _ (by decide)) (hb _ (by decide)) (hb _ (by decide)) (hb _ (by decide)) x3 rfl
  have e4 := or_row g 7 (hb _ (by decide)) (hb _ (by decide)) (hb _ (by decide)) (hb _ (by decide)) (hb _ (by decide)) (hb _ (by decide)) (hb _ (by decide)) (hb _ (by decide)) x4 rfl
  clear_value x1 x2 x3 x4
  obtain ⟨k0, k1, k2, k3, kj⟩ := fromN_join g hg x1 x2 x3 x4 e1 e2 e3 e4
  rw [kj]
  exact ⟨k0, k1, k2, k3, rfl, trivial⟩
theorem card_Bytes : FnOK Try.prog 86 (specU bytesG) :=
  FnOK_U CxOK_nil (iv := []) (N := 400) Try.func86 (by kernel_rfl) (by kernel_rfl) (fun a => by unfold bytesG; intro k hk; simp only [List.mem_singleton] at hk; subst hk; trivial) ok_Bytes
theorem card_From : FnOK Try.prog 88 (specB fromG) :=
  FnOK_B CxOK_nil (iv := []) (N := 400) Try.func88 (by kernel_rfl) (by kernel_rfl) (fun g => by unfold fromG; exact bnd_one (bnd_U _)) ok_From
end Go.Proofs.Ytamhchemnalfbaa
end

section
namespace Go.Sx
open Go.RowKit
def inlW (wl : List (Nat × WSpec)) (inner : Inl) : Inl := fun f args ob k =>
  match getW wl f with
  | none => inner f args ob k
  | some s => match wdo s args ob with
    | some (ps, sv, o, _, m) => ands ps (k sv (ob.set o (noteO s.e s.k m)))
    | none => StuckAt "cell"
theorem inlW_ok {P : Program} {gl : Globs} {wl : List (Nat × WSpec)} (hwl : ∀ p ∈ wl, FnOKw P gl p.1 p.2) {inner : Inl} (hin : InlOK P gl inner) : InlOK P gl (inlW wl inner) := by
  intro f args ob k h Z ρ tm a w hz H hargs
  unfold inlW at h
  split at h
  · exact hin f args ob k h hz H hargs
  rename_i s hs
  split at h
  case h_2 => exact h.no
  rename_i ps sv o n m hd
  obtain ⟨hp, h⟩ := ands_iff.1 h
  obtain ⟨r, hc⟩ := wdo_sound H (hz ▸ getW_ok hwl hs) hargs hd hp
  refine ⟨r, hc.mono ?_⟩
  rintro e w' ⟨v, rfl, hv, hb, H'⟩
  exact ⟨v, rfl, ρ, sv, _, h, hv, SV.bnd_mono none0_le hb, H'.scrubbed⟩
section
variable {P : Program}
def inlY (P : Program) (cx : Cx) (sl : List (Nat × SSpec)) (dr : Drawn) (iv : List (Nat × Hint)) (N : Nat) : Nat → Inl
  | 0 => inlW cx.wf (inlS sl noInl)
  | d + 1 => inlW cx.wf (inlS sl fun f args ob k =>
    match P.funcs[f]? with
    | some fn =>
      match fn.body, fn.name == "runtime.NumGoroutine" with
      | some c, false => sx P { cx with kn := ob.length } (inlY P cx sl dr iv N d) dr iv N ((f + 1) * 100000) ob.length c (slots0 args fn.ntmps) ob (ret P fn.results.toList k)
      | _, _ => StuckAt "no text"
    | none => StuckAt "no function")
def noteIs (ob : List SO) (e : TypeId) (k : IntKind) (m : Int) : Prop :=
  match ob with
  | .cells e' [.c x] 0 :: _ => match Nat.beq e' e with
    | true => isInt k m x
    | false => False
  | _ => False
def OwesW (P : Program) (cx : Cx) (sl : List (Nat × SSpec)) (iv : List (Nat × Hint)) (N : Nat) (fn : Func) (args : List SA) (e : TypeId) (k : IntKind) (n : Int) (out : SV) (m : Int) : Prop :=
  sx P { cx with kn := 1 } (inlY P cx sl drawOK iv N 8) drawOK iv N 0 1 (fn.body.getD .skip) (slots0 args fn.ntmps) [noteO e k n] (ret P fn.results.toList fun sv ob => same sv out ∧ noteIs ob e k m)
def OwesU (P : Program) (cx : Cx) (sl : List (Nat × SSpec)) (iv : List (Nat × Hint)) (N : Nat) (fn : Func) (args : List SA) (out : SV) : Prop :=
  sx P { cx with kn := 0 } (inlY P cx sl drawOK iv N 8) drawOK iv N 0 0 (fn.body.getD .skip) (slots0 args fn.ntmps) [] (ret P fn.results.toList fun sv _ => same sv out)
end
attribute [irreducible] OwesW OwesU
end Go.Sx
end
