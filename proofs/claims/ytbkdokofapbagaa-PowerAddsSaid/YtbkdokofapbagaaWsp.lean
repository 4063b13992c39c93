/-
  What the functions of package wide come to, as numbers (the cards that their proofs hold them to).
-/
import Derived.Test.YtbkdokofapbagaaSx13
namespace Go.Sx
open Go.RowKit

theorem asI_canon {x : SA} {k : IntKind} {n : Int} (h : asI x = some (k, n)) (ρ : Nat → Nat) : x.conc ρ = (sI k n).conc ρ := asI_sound h ρ

/-- A number of 256 bits, and a word. -/
def specUI (g : Nat → Int → SV) : FSpec := fun args =>
  match args with
  | [x, y] => match asU x, asI y with
    | some (p, a), some (.u64, n) => some (p ++ [0 ≤ n ∧ n < 18446744073709551616], g a n)
    | _, _ => none
  | _ => none
theorem FnOK_UI {P : Program} {cx : Cx} (hcx : CxOK P cx) {iv : List (Nat × Hint)} {N : Nat} {f : Nat} {fn : Func} (hf : P.funcs[f]? = some fn) (hb : fn.body.isSome = true) (hn : (fn.name == "runtime.NumGoroutine") = false) {g : Nat → Int → SV} (hg : ∀ a n, (g a n).bnd none0)
    (h : ∀ a n, 0 ≤ n ∧ n < 18446744073709551616 → Owes P cx iv N fn [sU a, sI .u64 n] (g a n)) : FnOK P f (specUI g) := by
  refine FnOK_owes (iv := iv) (N := N) hcx hf hb hn fun args ps sv hs hp => ?_
  unfold specUI at hs
  split at hs
  · rename_i x y
    split at hs
    · rename_i p a n ha hn'
      simp only [Option.some.injEq, Prod.mk.injEq] at hs
      obtain ⟨rfl, rfl⟩ := hs
      obtain ⟨o1, o2, _⟩ := Ok.append.1 hp
      refine ⟨[sU a, sI .u64 n], fun ρ => by simp only [List.map_cons, List.map_nil, asU_canon ha o1 ρ, asI_canon hn' ρ], ?_, hg a n, h a n o2⟩
      intro z hz
      simp only [List.mem_cons, List.not_mem_nil, or_false] at hz
      rcases hz with rfl | rfl
      · intro k hk; simp only [List.mem_singleton] at hk; subst hk; trivial
      · trivial
    · cases hs
  · cases hs
/-- No argument. -/
def spec0 (g : SV) : FSpec := fun args =>
  match args with
  | [] => some ([], g)
  | _ => none
theorem FnOK_0 {P : Program} {cx : Cx} (hcx : CxOK P cx) {iv : List (Nat × Hint)} {N : Nat} {f : Nat} {fn : Func} (hf : P.funcs[f]? = some fn) (hb : fn.body.isSome = true) (hn : (fn.name == "runtime.NumGoroutine") = false) {g : SV} (hg : g.bnd none0)
    (h : Owes P cx iv N fn [] g) : FnOK P f (spec0 g) := by
  refine FnOK_owes (iv := iv) (N := N) hcx hf hb hn fun args ps sv hs hp => ?_
  unfold spec0 at hs
  split at hs
  · simp only [Option.some.injEq, Prod.mk.injEq] at hs
    obtain ⟨rfl, rfl⟩ := hs
    exact ⟨[], fun ρ => rfl, by simp, hg, h⟩
  · cases hs
/-- One number of 256 bits. -/
def specU (g : Nat → SV) : FSpec := fun args =>
  match args with
  | [x] => match asU x with
    | some (p, a) => some (p, g a)
    | none => none
  | _ => none
theorem FnOK_U {P : Program} {cx : Cx} (hcx : CxOK P cx) {iv : List (Nat × Hint)} {N : Nat} {f : Nat} {fn : Func} (hf : P.funcs[f]? = some fn) (hb : fn.body.isSome = true) (hn : (fn.name == "runtime.NumGoroutine") = false) {g : Nat → SV} (hg : ∀ a, (g a).bnd none0)
    (h : ∀ a, Owes P cx iv N fn [sU a] (g a)) : FnOK P f (specU g) := by
  refine FnOK_owes (iv := iv) (N := N) hcx hf hb hn fun args ps sv hs hp => ?_
  unfold specU at hs
  split at hs
  · rename_i x
    split at hs
    · rename_i p a ha
      simp only [Option.some.injEq, Prod.mk.injEq] at hs
      obtain ⟨rfl, rfl⟩ := hs
      refine ⟨[sU a], fun ρ => by simp only [List.map_cons, List.map_nil, asU_canon ha hp ρ], ?_, hg a, h a⟩
      intro z hz
      simp only [List.mem_singleton] at hz
      subst hz
      intro k hk; simp only [List.mem_singleton] at hk; subst hk; trivial
    · cases hs
  · cases hs
/-- Two whole numbers of 64 bits with a sign. -/
def specII (c : Int → Int → List Prop) (g : Int → Int → SV) : FSpec := fun args =>
  match args with
  | [x, y] => match asI x, asI y with
    | some (.i64, a), some (.i64, b) => some (c a b, g a b)
    | _, _ => none
  | _ => none
theorem FnOK_II {P : Program} {cx : Cx} (hcx : CxOK P cx) {iv : List (Nat × Hint)} {N : Nat} {f : Nat} {fn : Func} (hf : P.funcs[f]? = some fn) (hb : fn.body.isSome = true) (hn : (fn.name == "runtime.NumGoroutine") = false) {c : Int → Int → List Prop} {g : Int → Int → SV} (hg : ∀ a b, (g a b).bnd none0)
    (h : ∀ a b, Ok (c a b) → Owes P cx iv N fn [sI .i64 a, sI .i64 b] (g a b)) : FnOK P f (specII c g) := by
  refine FnOK_owes (iv := iv) (N := N) hcx hf hb hn fun args ps sv hs hp => ?_
  unfold specII at hs
  split at hs
  · rename_i x y
    split at hs
    · rename_i a b ha hb'
      simp only [Option.some.injEq, Prod.mk.injEq] at hs
      obtain ⟨rfl, rfl⟩ := hs
      refine ⟨[sI .i64 a, sI .i64 b], fun ρ => by simp only [List.map_cons, List.map_nil, asI_canon ha ρ, asI_canon hb' ρ], ?_, hg a b, h a b hp⟩
      intro z hz
      simp only [List.mem_cons, List.not_mem_nil, or_false] at hz
      rcases hz with rfl | rfl <;> trivial
    · cases hs
  · cases hs

/-- A thing of which others are made: three numbers and a text. -/
abbrev sRaw (k a b : Int) (s : ByteArray) : SA := .agg [.c (.val (.int .i64 k)), .c (.val (.int .i64 a)), .c (.val (.int .i64 b)), .c (.val (.string s))]
def i64ok (n : Int) : Prop := -9223372036854775808 ≤ n ∧ n ≤ 9223372036854775807
def specRaw (g : Int → Int → Int → ByteArray → SV) : FSpec := fun args =>
  match args with
  | [.agg [.c (.val (.int .i64 k)), .c (.val (.int .i64 a)), .c (.val (.int .i64 b)), .c (.val (.string s))]] => some ([i64ok k, i64ok a, i64ok b], g k a b s)
  | _ => none
theorem FnOK_Raw {P : Program} {cx : Cx} (hcx : CxOK P cx) {iv : List (Nat × Hint)} {N : Nat} {f : Nat} {fn : Func} (hf : P.funcs[f]? = some fn) (hb : fn.body.isSome = true) (hn : (fn.name == "runtime.NumGoroutine") = false) {g : Int → Int → Int → ByteArray → SV} (hg : ∀ k a b s, (g k a b s).bnd none0)
    (h : ∀ k a b s, i64ok k → i64ok a → i64ok b → Owes P cx iv N fn [sRaw k a b s] (g k a b s)) : FnOK P f (specRaw g) := by
  refine FnOK_owes (iv := iv) (N := N) hcx hf hb hn fun args ps sv hs hp => ?_
  unfold specRaw at hs
  split at hs
  · rename_i k a b s
    simp only [Option.some.injEq, Prod.mk.injEq] at hs
    obtain ⟨rfl, rfl⟩ := hs
    obtain ⟨h1, h2, h3, _⟩ := hp
    refine ⟨_, fun ρ => rfl, ?_, hg k a b s, h k a b s h1 h2 h3⟩
    intro z hz
    simp only [List.mem_singleton] at hz
    subst hz
    intro q hq
    simp only [List.mem_cons, List.not_mem_nil, or_false] at hq
    rcases hq with rfl | rfl | rfl | rfl <;> trivial
  · cases hs

/-- Two words. -/
def w64ok (n : Int) : Prop := 0 ≤ n ∧ n < 18446744073709551616
def specWW (g : Int → Int → SV) : FSpec := fun args =>
  match args with
  | [x, y] => match asI x, asI y with
    | some (.u64, a), some (.u64, b) => some ([w64ok a, w64ok b], g a b)
    | _, _ => none
  | _ => none
theorem FnOK_WW {P : Program} {cx : Cx} (hcx : CxOK P cx) {iv : List (Nat × Hint)} {N : Nat} {f : Nat} {fn : Func} (hf : P.funcs[f]? = some fn) (hb : fn.body.isSome = true) (hn : (fn.name == "runtime.NumGoroutine") = false) {g : Int → Int → SV} (hg : ∀ a b, (g a b).bnd none0)
    (h : ∀ a b, w64ok a → w64ok b → Owes P cx iv N fn [sI .u64 a, sI .u64 b] (g a b)) : FnOK P f (specWW g) := by
  refine FnOK_owes (iv := iv) (N := N) hcx hf hb hn fun args ps sv hs hp => ?_
  unfold specWW at hs
  split at hs
  · rename_i x y
    split at hs
    · rename_i a b ha hb'
      simp only [Option.some.injEq, Prod.mk.injEq] at hs
      obtain ⟨rfl, rfl⟩ := hs
      obtain ⟨h1, h2, _⟩ := hp
      refine ⟨[sI .u64 a, sI .u64 b], fun ρ => by simp only [List.map_cons, List.map_nil, asI_canon ha ρ, asI_canon hb' ρ], ?_, hg a b, h a b h1 h2⟩
      intro z hz
      simp only [List.mem_cons, List.not_mem_nil, or_false] at hz
      rcases hz with rfl | rfl <;> trivial
    · cases hs
  · cases hs

/-! ## Slots at a loop's head -/
def lookS : List (Nat × SV) → Nat → SV
  | [], _ => .any
  | (k, v) :: r, t => match Nat.beq k t with
    | true => v
    | false => lookS r t
/-- So many slots, of which some are told. -/
def slotsAt (n : Nat) (l : List (Nat × SV)) : List SV := (List.range n).map (lookS l)
/-- A whole number of 64 bits with a sign. -/
def specI (c : Int → List Prop) (g : Int → SV) : FSpec := fun args =>
  match args with
  | [x] => match asI x with
    | some (.i64, a) => some (c a, g a)
    | _ => none
  | _ => none
theorem FnOK_I {P : Program} {cx : Cx} (hcx : CxOK P cx) {iv : Int → List (Nat × Hint)} {N : Nat} {f : Nat} {fn : Func} (hf : P.funcs[f]? = some fn) (hb : fn.body.isSome = true) (hn : (fn.name == "runtime.NumGoroutine") = false) {c : Int → List Prop} {g : Int → SV} (hg : ∀ a, (g a).bnd none0)
    (h : ∀ a, Ok (c a) → Owes P cx (iv a) N fn [sI .i64 a] (g a)) : FnOK P f (specI c g) := by
  refine FnOK_of hf hb hn fun args ps sv hs hp => ?_
  unfold specI at hs
  split at hs
  · rename_i x
    split at hs
    · rename_i a ha
      simp only [Option.some.injEq, Prod.mk.injEq] at hs
      obtain ⟨rfl, rfl⟩ := hs
      refine ⟨hg a, fun ρ w => ?_⟩
      rw [show [x].map (SA.conc ρ) = [sI .i64 a].map (SA.conc ρ) by simp only [List.map_cons, List.map_nil, asI_canon ha ρ]]
      refine (calls_of_owes hcx hf hb (args := [sI .i64 a]) (by intro z hz; simp only [List.mem_singleton] at hz; subst hz; trivial) (h a hp) ρ w).mono ?_
      rintro e w' ⟨v, rfl, ⟨ρ', hr⟩, hbl⟩
      exact ⟨v, rfl, rep_none0 (hg a) hr, hbl⟩
    · cases hs
  · cases hs

/-! ## Rows of bytes -/
abbrev sBy (n : Nat) (g : Nat → Int) : SA := .agg [.f .u8 n g]
def asBy (n : Nat) : SA → Option (Nat → Int)
  | .agg ks => if kindAll .u8 ks = true ∧ (flat ks).length = n then some (selG ks) else none
  | _ => none
theorem asBy_sound {n : Nat} {x : SA} {g : Nat → Int} (h : asBy n x = some g) (ρ : Nat → Nat) : x.conc ρ = (sBy n g).conc ρ := by
  unfold asBy at h
  split at h
  · rename_i ks
    split at h
    · rename_i hc
      obtain ⟨h1, h2⟩ := hc
      simp only [Option.some.injEq] at h
      subst h
      simp only [SA.conc, concs_f]
      congr 2
      apply List.ext_getElem?
      intro j
      rcases Nat.lt_or_ge j n with hj | hj
      · rw [selG_conc h1 ρ (by omega), List.getElem?_map, List.getElem?_range hj]; rfl
      · rw [List.getElem?_eq_none (by simp [concs]; omega), List.getElem?_eq_none (by simpa using hj)]
    · cases h
  · cases h
def byteOK (n : Nat) (g : Nat → Int) : Prop := ∀ j, j < n → 0 ≤ g j ∧ g j < 256
def specB (F : (Nat → Int) → SV) : FSpec := fun args =>
  match args with
  | [x] => match asBy 32 x with
    | some g => some ([byteOK 32 g], F g)
    | none => none
  | _ => none
theorem FnOK_B {P : Program} {cx : Cx} (hcx : CxOK P cx) {iv : List (Nat × Hint)} {N : Nat} {f : Nat} {fn : Func} (hf : P.funcs[f]? = some fn) (hb : fn.body.isSome = true) (hn : (fn.name == "runtime.NumGoroutine") = false) {F : (Nat → Int) → SV} (hg : ∀ g, (F g).bnd none0)
    (h : ∀ g, byteOK 32 g → Owes P cx iv N fn [sBy 32 g] (F g)) : FnOK P f (specB F) := by
  refine FnOK_owes (iv := iv) (N := N) hcx hf hb hn fun args ps sv hs hp => ?_
  unfold specB at hs
  split at hs
  · rename_i x
    split at hs
    · rename_i g hx
      simp only [Option.some.injEq, Prod.mk.injEq] at hs
      obtain ⟨rfl, rfl⟩ := hs
      refine ⟨[sBy 32 g], fun ρ => by simp only [List.map_cons, List.map_nil, asBy_sound hx ρ], ?_, hg g, h g hp.1⟩
      intro z hz
      simp only [List.mem_singleton] at hz
      subst hz
      intro k hk; simp only [List.mem_singleton] at hk; subst hk; trivial
    · cases hs
  · cases hs

/-- A word; three words. -/
def specW (g : Int → SV) : FSpec := fun args =>
  match args with
  | [x] => match asI x with
    | some (.u64, a) => some ([w64ok a], g a)
    | _ => none
  | _ => none
theorem FnOK_W {P : Program} {cx : Cx} (hcx : CxOK P cx) {iv : Int → List (Nat × Hint)} {N : Nat} {f : Nat} {fn : Func} (hf : P.funcs[f]? = some fn) (hb : fn.body.isSome = true) (hn : (fn.name == "runtime.NumGoroutine") = false) {g : Int → SV} (hg : ∀ a, (g a).bnd none0)
    (h : ∀ a, w64ok a → Owes P cx (iv a) N fn [sI .u64 a] (g a)) : FnOK P f (specW g) := by
  refine FnOK_of hf hb hn fun args ps sv hs hp => ?_
  unfold specW at hs
  split at hs
  · rename_i x
    split at hs
    · rename_i a ha
      simp only [Option.some.injEq, Prod.mk.injEq] at hs
      obtain ⟨rfl, rfl⟩ := hs
      refine ⟨hg a, fun ρ w => ?_⟩
      rw [show [x].map (SA.conc ρ) = [sI .u64 a].map (SA.conc ρ) by simp only [List.map_cons, List.map_nil, asI_canon ha ρ]]
      refine (calls_of_owes hcx hf hb (args := [sI .u64 a]) (by intro z hz; simp only [List.mem_singleton] at hz; subst hz; trivial) (h a hp.1) ρ w).mono ?_
      rintro e w' ⟨v, rfl, ⟨ρ', hr⟩, hbl⟩
      exact ⟨v, rfl, rep_none0 (hg a) hr, hbl⟩
    · cases hs
  · cases hs
def specWWW (c : Int → Int → Int → List Prop) (g : Int → Int → Int → SV) : FSpec := fun args =>
  match args with
  | [x, y, z] => match asI x, asI y, asI z with
    | some (.u64, a), some (.u64, b), some (.u64, d) => some (c a b d, g a b d)
    | _, _, _ => none
  | _ => none
theorem FnOK_WWW {P : Program} {cx : Cx} (hcx : CxOK P cx) {iv : Int → Int → Int → List (Nat × Hint)} {N : Nat} {f : Nat} {fn : Func} (hf : P.funcs[f]? = some fn) (hb : fn.body.isSome = true) (hn : (fn.name == "runtime.NumGoroutine") = false) {c : Int → Int → Int → List Prop} {g : Int → Int → Int → SV} (hg : ∀ a b d, (g a b d).bnd none0)
    (h : ∀ a b d, Ok (c a b d) → Owes P cx (iv a b d) N fn [sI .u64 a, sI .u64 b, sI .u64 d] (g a b d)) : FnOK P f (specWWW c g) := by
  refine FnOK_of hf hb hn fun args ps sv hs hp => ?_
  unfold specWWW at hs
  split at hs
  · rename_i x y z
    split at hs
    · rename_i a b d ha hb' hd
      simp only [Option.some.injEq, Prod.mk.injEq] at hs
      obtain ⟨rfl, rfl⟩ := hs
      refine ⟨hg a b d, fun ρ w => ?_⟩
      rw [show [x, y, z].map (SA.conc ρ) = [sI .u64 a, sI .u64 b, sI .u64 d].map (SA.conc ρ) by simp only [List.map_cons, List.map_nil, asI_canon ha ρ, asI_canon hb' ρ, asI_canon hd ρ]]
      refine (calls_of_owes hcx hf hb (args := [sI .u64 a, sI .u64 b, sI .u64 d]) (by
        intro z hz
        simp only [List.mem_cons, List.not_mem_nil, or_false] at hz
        rcases hz with rfl | rfl | rfl <;> trivial) (h a b d hp) ρ w).mono ?_
      rintro e w' ⟨v, rfl, ⟨ρ', hr⟩, hbl⟩
      exact ⟨v, rfl, rep_none0 (hg a b d) hr, hbl⟩
    · cases hs
  · cases hs

/-! ## Package wide -/

def plusG (a b : Nat) : SV := .tup [sU (a + b), sI .u64 ((a % M256 + b % M256) / M256 : Nat)]
def lessG (a b : Nat) : SV := .tup [sU (a % M256 + M256 - b % M256), sI .u64 (if a % M256 < b % M256 then 1 else 0)]
def addG (a b : Nat) : SV := .tup [sU (a + b), sB (decide (M256 ≤ a % M256 + b % M256))]
def subG (a b : Nat) : SV := .tup [sU (a % M256 + M256 - b % M256), sB (decide (a % M256 < b % M256))]
def timesG (a : Nat) (n : Int) : SV := .tup [sU (a * n.toNat), sI .u64 ((a % M256 * n.toNat) / M256 : Nat)]
def mulG (a b : Nat) : SV := .tup [sU (a * b), sU ((a % M256) * (b % M256) / M256)]
def mul64G (a b : Int) : SV := .tup [sI .u64 (a * b / 18446744073709551616), sI .u64 (a * b % 18446744073709551616)]
def cmpN (a b : Nat) : Int := if a % M256 < b % M256 then -1 else if b % M256 < a % M256 then 1 else 0
def cmpG (a b : Nat) : SV := .one (sI .i64 (cmpN a b))
def yes : SV := .one (sB true)
def pickedG (n m : Int) : SV := .one (sI .i64 (n % m))
/-- A number made of a raw thing. -/
def w64 (x : Int) : Int := IntKind.u64.wrap x
def not64 (x : Int) : Int := w64 (BitVec.ofInt 64 18446744073709551615 ^^^ BitVec.ofInt 64 (w64 x)).toNat
def rawN (k a b : Int) : Nat :=
  if k % 5 = 0 then join (w64 (a % 1000)) 0 0 0
  else if k % 5 = 1 then join (w64 a) 0 0 0
  else if k % 5 = 2 then join (w64 a) (w64 b) 0 0
  else if k % 5 = 3 then join (w64 (w64 a * 11400714819323198485)) (w64 b) (w64 (BitVec.ofInt 64 (w64 a) ^^^ BitVec.ofInt 64 (w64 b)).toNat) (w64 (w64 b * 14029467366897019727))
  else join (not64 a) (not64 b) 18446744073709551615 18446744073709551615
theorem w64_range (x : Int) : 0 ≤ w64 x ∧ w64 x < 18446744073709551616 := by
  unfold w64 IntKind.wrap
  simp [IntKind.signed, IntKind.bits]
  omega
def rawG (k a b : Int) (_ : ByteArray) : SV := .one (sU (rawN k a b))

/-- The bytes of a number, the highest one first; the number of bytes. -/
def by8 (a : Nat) (i : Nat) : Int := ((a / 2 ^ (8 * i) % 256 : Nat) : Int)
def bytesG (a : Nat) : SV := .one (sBy 32 fun j => by8 a (31 - j))
def fromN (g : Nat → Int) : Nat → Nat
  | 0 => 0
  | n + 1 => fromN g n + 256 ^ n * (g (31 - n)).toNat
def fromG (g : Nat → Int) : SV := .one (sU (fromN g 32))
/-- How many bits a word has; noughts ahead; two words by one. -/
def lenN (x : Int) : Int := if x.toNat = 0 then 0 else ((Nat.log2 x.toNat + 1 : Nat) : Int)
def lenG (x : Int) : SV := .one (sI .i64 (lenN x))
def lzG (x : Int) : SV := .one (sI .i64 (64 - lenN x))
def divC (h l y : Int) : List Prop := [w64ok h, w64ok l, w64ok y, h < y]
def divG (h l y : Int) : SV := .tup [sI .u64 ((h * 18446744073709551616 + l) / y), sI .u64 ((h * 18446744073709551616 + l) % y)]
/-- Powers of ten. -/
def tenG (n : Int) : SV := .tup [sU (if 0 ≤ n ∧ n ≤ 77 then 10 ^ n.toNat else 0), sI .i64 (if 0 ≤ n ∧ n ≤ 77 then 0 else 6)]

end Go.Sx
