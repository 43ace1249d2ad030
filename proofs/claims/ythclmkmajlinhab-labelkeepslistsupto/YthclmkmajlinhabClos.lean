/- Plain facts: the least set that has some labels and is closed under union and intersection; a map that stands for a set of labels. -/
import Derived.Test.YthclmkmajlinhabSort1
import Derived.Maps.OwnSet
import Derived.Maps.RangeWalk
import Derived.Maps.AppendAt
namespace Go.Proofs.Ythclmkmajlinhab
open Go.RowKit Go.Maps

/-- x is in every set that has all of B and is closed. -/
def InCl (B : List Nat) (x : Nat) : Prop := ∀ T : Nat → Prop, (∀ b ∈ B, T b) → (∀ x y, T x → T y → T (x ||| y) ∧ T (x &&& y)) → T x
/-- Closed under union and intersection. -/
def ClosedL (S : List Nat) : Prop := ∀ x ∈ S, ∀ y ∈ S, (x ||| y) ∈ S ∧ (x &&& y) ∈ S

theorem InCl.base {B : List Nat} {x : Nat} (h : x ∈ B) : InCl B x := fun _ hB _ => hB x h
theorem InCl.step {B : List Nat} {x y : Nat} (hx : InCl B x) (hy : InCl B y) : InCl B (x ||| y) ∧ InCl B (x &&& y) :=
  ⟨fun T h1 h2 => (h2 x y (hx T h1 h2) (hy T h1 h2)).1, fun T h1 h2 => (h2 x y (hx T h1 h2) (hy T h1 h2)).2⟩
theorem InCl.mono {B C : List Nat} {x : Nat} (h : InCl B x) (hs : ∀ b ∈ B, InCl C b) : InCl C x :=
  h (InCl C) hs (fun _ _ hx hy => hx.step hy)
theorem InCl.mem {B S : List Nat} {x : Nat} (h : InCl B x) (hs : ∀ b ∈ B, b ∈ S) (hc : ClosedL S) : x ∈ S := h (· ∈ S) hs (fun x y hx hy => hc x hx y hy)
theorem InCl.w64 {B : List Nat} {x : Nat} (h : InCl B x) (hB : All64 B) : W64 x := h W64 hB (fun _ y hx hy => ⟨hx.or hy, hx.and y⟩)

/-- The datum D stands for the set S. -/
structure SetIs (D : DataW Unit) (S : List Nat) : Prop where
  has : ∀ x : Nat, Maps.has D (.int .u64 (x : Int)) = decide (x ∈ S)
  keys : ∀ kl, Maps.has D kl = true → ∃ x ∈ S, kl = .int .u64 (x : Int)
  nodup : S.Nodup
  all : All64 S
  size : Maps.size D = S.length

theorem SetIs.empty : SetIs (.map []) [] :=
  ⟨fun _ => rfl, fun _ h => (by cases h), List.nodup_nil, fun _ h => (by cases h), rfl⟩

theorem lit_ne {x y : Nat} (h : x ≠ y) : (Lit.int .u64 (x : Int)) ≠ .int .u64 (y : Int) := fun e => by
  injection e with _ e; omega

theorem SetIs.put {D : DataW Unit} {S : List Nat} (h : SetIs D S) (ht : Maps.Tidy D) {x : Nat} (hx : x ∉ S) (h64 : W64 x) : SetIs (D.put (.int .u64 (x : Int)) (.agg [])) (x :: S) := by
  have hk : WideAt.IsKeyLit (.int .u64 (x : Int)) := trivial
  refine ⟨fun y => ?_, fun kl hkl => ?_, List.nodup_cons.2 ⟨hx, h.nodup⟩, fun z hz => ?_, ?_⟩
  · by_cases e : y = x
    · subst e; rw [has_put_same ht.isMap hk]; simp
    · rw [has_put_other (lit_ne e), h.has]; simp [e]
  · by_cases e : kl = .int .u64 (x : Int)
    · exact ⟨x, List.mem_cons_self, e⟩
    · rw [has_put_other e] at hkl
      obtain ⟨y, hy, e2⟩ := h.keys kl hkl
      exact ⟨y, List.mem_cons_of_mem _ hy, e2⟩
  · rcases List.mem_cons.1 hz with rfl | hz
    · exact h64
    · exact h.all z hz
  · rw [size_put ht, h.has, h.size]; simp [hx]

theorem tight {w : World} {P : Program} {k : TypeId} {R : Value → Option (DataW Unit × List MemPlace)} {b n : Nat} {D : DataW Unit} (h : w.ownsMap P k R b n D) : w.ownsMap P k R b (Maps.size D) D := by
  obtain ⟨es, clock, hb, F, _, rfl⟩ := h
  refine ⟨es, clock, hb, F, ?_, rfl⟩
  rw [Maps.size_eq, length_read]; exact Nat.le_refl _

/-- What a round of growing keeps: S is the set, Wl what is still wanted. -/
structure Growing (B : List Nat) (S Wl : List Nat) : Prop where
  len : S.length ≤ 16
  short : Wl.length ≤ 1 + 32 * S.length
  inS : ∀ x ∈ S, InCl B x
  inW : ∀ x ∈ Wl, InCl B x
  base : ∀ x ∈ B, x ∈ S ∨ x ∈ Wl
  closed : ∀ x ∈ S, ∀ y ∈ S, ((x ||| y) ∈ S ∨ (x ||| y) ∈ Wl) ∧ ((x &&& y) ∈ S ∨ (x &&& y) ∈ Wl)

theorem Growing.start {S : List Nat} (l : Nat) (hc : ClosedL S) (h16 : S.length ≤ 16) : Growing (l :: S) S [l] :=
  ⟨h16, by simp, fun x hx => .base (List.mem_cons_of_mem _ hx), fun x hx => .base (by simp at hx; simp [hx]), fun x hx => by
    rcases List.mem_cons.1 hx with rfl | hx
    · exact .inr (by simp)
    · exact .inl hx, fun x hx y hy => ⟨.inl (hc x hx y hy).1, .inl (hc x hx y hy).2⟩⟩

theorem Growing.drop {B S W : List Nat} {x : Nat} (h : Growing B S (W ++ [x])) (hx : x ∈ S) : Growing B S W := by
  have key : ∀ z, z ∈ S ∨ z ∈ W ++ [x] → z ∈ S ∨ z ∈ W := fun z hz => by
    rcases hz with hz | hz
    · exact .inl hz
    · rcases List.mem_append.1 hz with hz | hz
      · exact .inr hz
      · simp at hz; subst hz; exact .inl hx
  exact ⟨h.len, by have := h.short; simp at this; omega, h.inS, fun z hz => h.inW z (List.mem_append_left _ hz), fun z hz => key z (h.base z hz), fun p hp q hq => ⟨key _ (h.closed p hp q hq).1, key _ (h.closed p hp q hq).2⟩⟩

/-- What the pairs of x with those of S that have come make, behind W. -/
structure Paired (S W Wl : List Nat) (x : Nat) (left : Lit → Bool) (cnt : Nat) : Prop where
  len : Wl.length + 2 * cnt ≤ W.length + 2 * S.length
  old : ∀ z ∈ W, z ∈ Wl
  from_ : ∀ z ∈ Wl, z ∈ W ∨ ∃ y ∈ S, z = x ||| y ∨ z = x &&& y
  done : ∀ y ∈ S, left (.int .u64 (y : Int)) = false → (x ||| y) ∈ Wl ∧ (x &&& y) ∈ Wl

theorem Growing.add {B S W Wl : List Nat} {x : Nat} {left : Lit → Bool} (h : Growing B S (W ++ [x])) (hl : S.length < 16) (hp : Paired S W Wl x left 0) (hd : ∀ kl, left kl = false) : Growing B (x :: S) Wl := by
  have hx : InCl B x := h.inW x (by simp)
  have up : ∀ z, z ∈ S ∨ z ∈ W ++ [x] → z ∈ x :: S ∨ z ∈ Wl := fun z hz => by
    rcases hz with hz | hz
    · exact .inl (List.mem_cons_of_mem _ hz)
    · rcases List.mem_append.1 hz with hz | hz
      · exact .inr (hp.old z hz)
      · simp at hz; subst hz; exact .inl List.mem_cons_self
  refine ⟨by simp; omega, ?_, fun z hz => ?_, fun z hz => ?_, fun z hz => up z (h.base z hz), fun p hp' q hq' => ?_⟩
  · have h1 := hp.len
    have h2 := h.short
    simp at h2 ⊢
    omega
  · rcases List.mem_cons.1 hz with rfl | hz
    · exact hx
    · exact h.inS z hz
  · rcases hp.from_ z hz with hz | ⟨y, hy, e | e⟩
    · exact h.inW z (List.mem_append_left _ hz)
    · subst e; exact (hx.step (h.inS y hy)).1
    · subst e; exact (hx.step (h.inS y hy)).2
  · rcases List.mem_cons.1 hp' with e0 | hp2
    · subst e0
      rcases List.mem_cons.1 hq' with e1 | hq2
      · subst e1; rw [Nat.or_self, Nat.and_self]; exact ⟨.inl List.mem_cons_self, .inl List.mem_cons_self⟩
      · exact ⟨.inr (hp.done q hq2 (hd _)).1, .inr (hp.done q hq2 (hd _)).2⟩
    · rcases List.mem_cons.1 hq' with e1 | hq2
      · subst e1; rw [Nat.or_comm, Nat.and_comm]; exact ⟨.inr (hp.done p hp2 (hd _)).1, .inr (hp.done p hp2 (hd _)).2⟩
      · exact ⟨up _ (h.closed p hp2 q hq2).1, up _ (h.closed p hp2 q hq2).2⟩

/-- How many entries the map in block b has. -/
def mapLen (w : World) (b : Nat) : Nat := match w.heap[b]? with | some (.map es _) => es.size | _ => 0
/-- How long a slice is. -/
def lenOf : Value → Nat | .slice _ n _ => n | _ => 0

theorem mapLen_eq {w : World} {P : Program} {k : TypeId} {R : Value → Option (DataW Unit × List MemPlace)} {b n : Nat} {D : DataW Unit} (h : w.ownsMap P k R b n D) : mapLen w b = Maps.size D := by
  obtain ⟨es, clock, hb, F, _, rfl⟩ := h
  unfold mapLen
  rw [hb, Maps.size_eq, length_read]

theorem Paired.start {S W : List Nat} (x : Nat) {left : Lit → Bool} (hall : ∀ y ∈ S, left (.int .u64 (y : Int)) = true) : Paired S W W x left S.length :=
  ⟨Nat.le_refl _, fun _ h => h, fun _ h => .inl h, fun y hy h => by rw [hall y hy] at h; cases h⟩

theorem sameKey_u64 (x y : Nat) : (Lit.int .u64 (x : Int)).sameKey (.int .u64 (y : Int)) = decide (x = y) := by
  by_cases e : x = y
  · subst e; simp [Lit.sameKey]
  · rw [sameKey_ne (lit_ne e)]; simp [e]

theorem Paired.step {S W Wl : List Nat} {x y : Nat} {left : Lit → Bool} {cnt cnt' : Nat} (h : Paired S W Wl x left cnt) (hy : y ∈ S) (hc : cnt' < cnt) :
    Paired S W (Wl ++ [x ||| y, x &&& y]) x (fun z => left z && !z.sameKey (.int .u64 (y : Int))) cnt' := by
  refine ⟨by have := h.len; simp; omega, fun z hz => List.mem_append_left _ (h.old z hz), fun z hz => ?_, fun p hp hd => ?_⟩
  · rcases List.mem_append.1 hz with hz | hz
    · exact h.from_ z hz
    · simp at hz
      exact .inr ⟨y, hy, hz⟩
  · by_cases e : p = y
    · subst e; exact ⟨by simp, by simp⟩
    · rw [sameKey_u64] at hd
      simp [e] at hd
      exact ⟨List.mem_append_left _ (h.done p hp hd).1, List.mem_append_left _ (h.done p hp hd).2⟩

theorem Growing.end_ {B S : List Nat} (h : Growing B S []) : ClosedL S ∧ (∀ x ∈ B, x ∈ S) ∧ ∀ x ∈ S, InCl B x :=
  ⟨fun x hx y hy => by have := h.closed x hx y hy; simpa using this, fun x hx => by simpa using h.base x hx, h.inS⟩

end Go.Proofs.Ythclmkmajlinhab
