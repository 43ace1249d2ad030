/- A map from labels to rows of places, each row of the call's own and apart from the others. -/
import Derived.Test.YthclmkmajlinhabCov1
namespace Go.Proofs.Ythclmkmajlinhab
open Go.RowKit Go.Maps

/-- A place as a value. -/
def encI (z : Nat) : Value := .int .i64 (z : Int)

/-- How a slice's header reads. -/
def hdrElem : Value → Option (DataW Unit × List MemPlace)
  | .slice none 0 0 => some (.nil, [])
  | .slice (some ⟨g, 0, none⟩) n c => some (.agg [.lit (.int .u64 (g : Int)), .lit (.int .u64 (n : Int)), .lit (.int .u64 (c : Int))], [])
  | _ => none

theorem hdr_nil : hdrElem (.slice none 0 0) = some (.nil, []) := rfl
theorem hdr_some (g n c : Nat) : hdrElem (.slice (some ⟨g, 0, none⟩) n c) = some (.agg [.lit (.int .u64 (g : Int)), .lit (.int .u64 (n : Int)), .lit (.int .u64 (c : Int))], []) := rfl

theorem hdr_shape {v : Value} {y : DataW Unit × List MemPlace} (h : hdrElem v = some y) : v = .slice none 0 0 ∨ ∃ g n c, v = .slice (some ⟨g, 0, none⟩) n c := by
  unfold hdrElem at h
  split at h
  · exact .inl rfl
  · exact .inr ⟨_, _, _, rfl⟩
  · cases h

theorem hdr_inj {v v' : Value} {d : DataW Unit} {ps ps' : List MemPlace} (h : hdrElem v = some (d, ps)) (h' : hdrElem v' = some (d, ps')) : v = v' := by
  rcases hdr_shape h with rfl | ⟨g, n, c, rfl⟩
  · rcases hdr_shape h' with rfl | ⟨g', n', c', rfl⟩
    · rfl
    · rw [hdr_nil] at h; rw [hdr_some] at h'
      have e1 := congrArg Prod.fst (Option.some.inj h); have e2 := congrArg Prod.fst (Option.some.inj h')
      have e3 := e1.trans e2.symm
      cases e3
  · rcases hdr_shape h' with rfl | ⟨g', n', c', rfl⟩
    · rw [hdr_nil] at h'; rw [hdr_some] at h
      have e1 := congrArg Prod.fst (Option.some.inj h); have e2 := congrArg Prod.fst (Option.some.inj h')
      have e3 := e1.trans e2.symm
      cases e3
    · rw [hdr_some] at h h'
      have e1 := congrArg Prod.fst (Option.some.inj h); have e2 := congrArg Prod.fst (Option.some.inj h')
      have e3 := e1.trans e2.symm
      simp at e3
      obtain ⟨p1, p2, p3⟩ := e3
      rw [show g = g' from by omega, show n = n' from by omega, show c = c' from by omega]

theorem hdr_of_owns {w : World} {base e size n : Nat} {v : Value} {xs : List Value} (h : w.ownsRow base e size v n xs) : ∃ d, hdrElem v = some (d, []) := by
  rcases h.2 with ⟨rfl, _⟩ | ⟨g, cap, cur, rfl, _⟩
  · exact ⟨_, hdr_nil⟩
  · exact ⟨_, hdr_some _ _ _⟩

theorem zeroSl (w : World) : (zeroValue 41).run Try.prog w = .ok (.slice none 0 0) w := by kernel_rfl
theorem infoInt : (Try.prog.info? 3).map (fun i => (i.zero, i.size, i.bytes)) = some (some (.int .i64 0), 1, 8) := by kernel_rfl

/-- 'm[k]' at the operation: what is known to stand at the key. -/
theorem look_hdr (w : World) {ops : Array Oper} {rest : List Oper} {o : Oper} {a : Act} {Q : Exit → Act → World → Prop}
    (hg : o.guard = none) (m x : Operand) (hop : o.op = Op.lookup 51 m x false) (b n : Nat) (D : DataW Unit)
    (hm : a.eval m = .map (some b)) (hown : w.ownsMap Try.prog 36 hdrElem b n D) (key : Value) (kl : Lit) (hx : a.eval x = key) (hkey : keyOf Try.prog 36 key = some kl)
    (v0 : Value) (hv0 : hdrElem v0 = some (D.atKey kl .nil, [])) (hK : wpList Try.prog ops Q rest (a.put o.dst v0) w) :
    wpList Try.prog ops Q (o :: rest) a w := by
  refine wpList_plain hg fun K' hK' => ?_
  obtain ⟨v, ps, hrun, hv⟩ := hown.lookup keyedL Try.underlying51 (zeroSl w) hdr_nil hkey
  obtain rfl := hdr_inj hv hv0
  unfold Oper.wp
  simp [execOp, hop, hm, hx, hrun, Result.andThen]
  exact hK' _ _ hK

/-- Block b is a map that has, of each label x, a row of its own that holds the places f x. -/
structure One (w : World) (B b n : Nat) (D : DataW Unit) (h : Nat → Value) (f : Nat → List Nat) : Prop where
  m : w.ownsMap Try.prog 36 hdrElem b n D
  l : ∀ x : Nat, hdrElem (h x) = some (D.atKey (.int .u64 (x : Int)) .nil, [])
  rows : ∀ x, w.ownsRow B 3 1 (h x) (f x).length ((f x).map encI)
  apart : ∀ x y g, x ≠ y → (h x).ownBlock = some g → (h y).ownBlock ≠ some g

theorem own_block {w : World} {base e n j : Nat} {v : Value} {xs : List Value} (h : w.ownsRow base e 1 v n xs) (hj : v.ownBlock = some j) : base ≤ j ∧ j < w.heap.size ∧ ∃ cur, w.heap[j]? = some (.cells cur e (0, 0)) := by
  rcases h.2 with ⟨rfl, _⟩ | ⟨g, cap, cur, rfl, hb, hh, _⟩
  · cases hj
  · cases hj; exact ⟨hb, (Array.getElem?_eq_some_iff.1 hh).1, cur, hh⟩

theorem map_block {w : World} {b n : Nat} {D : DataW Unit} {R : Value → Option (DataW Unit × List MemPlace)} (h : w.ownsMap Try.prog 36 R b n D) : ∃ es c, w.heap[b]? = some (.map es c) := by
  obtain ⟨es, c, hb, _⟩ := h; exact ⟨es, c, hb⟩

theorem One.made (w : World) (B : Nat) : One (w.alloc (.map #[] 0)) B w.heap.size 0 (.map []) (fun _ => .slice none 0 0) (fun _ => []) :=
  ⟨World.ownsMap_made _ _ _ _, fun _ => rfl, fun _ => World.ownsRow_nil _ _ _ _, fun _ _ _ _ h => by cases h⟩

theorem One.kept {w w' : World} {B b n : Nat} {D : DataW Unit} {h : Nat → Value} {f : Nat → List Nat} {row : Option Nat} (H : One w B b n D h f) (hg : w.grownBy w' row) (hb : some b ≠ row) (hr : ∀ x g, (h x).ownBlock = some g → some g ≠ row) : One w' B b n D h f :=
  ⟨H.m.kept hg hb, H.l, fun x => (H.rows x).kept hg (by
    cases e : (h x).ownBlock with
    | none => exact .inl rfl
    | some g => exact .inr (hr x g e)), H.apart⟩

theorem One.alloc {w : World} {B b n : Nat} {D : DataW Unit} {h : Nat → Value} {f : Nat → List Nat} (H : One w B b n D h f) (o : Obj) : One (w.alloc o) B b n D h f :=
  H.kept (World.grownBy_alloc w o none) (by simp) (fun _ _ _ => by simp)
theorem One.mono {w : World} {B b n m : Nat} {D : DataW Unit} {h : Nat → Value} {f : Nat → List Nat} (H : One w B b n D h f) (hm : n ≤ m) : One w B b m D h f := ⟨H.m.mono hm, H.l, H.rows, H.apart⟩

/-- The row of x has grown, and its new header stands in the map. -/
theorem One.stored {w w1 w2 : World} {B b n : Nat} {D : DataW Unit} {h : Nat → Value} {f : Nat → List Nat} (H : One w B b n D h f) {x : Nat} {v : Value} {zs : List Nat} {d : DataW Unit}
    (hg1 : w.grownBy w1 (h x).ownBlock) (hrow : w1.ownsRow B 3 1 v zs.length (zs.map encI)) (hat : v.ownBlock = (h x).ownBlock ∨ ∃ g, v.ownBlock = some g ∧ w.heap.size ≤ g) (hd : hdrElem v = some (d, []))
    (hm2 : w2.ownsMap Try.prog 36 hdrElem b (n + 1) (D.put (.int .u64 (x : Int)) d)) (hg2 : w1.grownBy w2 (some b)) :
    One w2 B b (n + 1) (D.put (.int .u64 (x : Int)) d) (fun y => if y = x then v else h y) (fun y => if y = x then zs else f y) := by
  have hbx : some b ≠ (h x).ownBlock := fun e => by
    obtain ⟨_, _, cur, hc⟩ := own_block (H.rows x) e.symm
    obtain ⟨es, c, hm⟩ := map_block H.m
    rw [hm] at hc; cases hc
  have hm1 := H.m.kept hg1 hbx
  have keep1 : ∀ y, y ≠ x → w1.ownsRow B 3 1 (h y) (f y).length ((f y).map encI) := fun y hy => (H.rows y).kept hg1 (by
    cases e : (h y).ownBlock with
    | none => exact .inl rfl
    | some g => exact .inr (fun e2 => H.apart y x g hy e e2.symm))
  have keep2 : ∀ (u : Value) (k : Nat) (xs : List Value), w1.ownsRow B 3 1 u k xs → w2.ownsRow B 3 1 u k xs := fun u k xs hu => hu.kept hg2 (by
    cases e : u.ownBlock with
    | none => exact .inl rfl
    | some g =>
      refine .inr (fun e2 => ?_)
      obtain ⟨_, _, cur, hc⟩ := own_block hu e
      obtain ⟨es, c, hm⟩ := map_block hm1
      cases e2
      rw [hm] at hc; cases hc)
  refine ⟨hm2, fun y => ?_, fun y => ?_, fun y z g hyz hy => ?_⟩
  · by_cases e : y = x
    · subst e
      rw [if_pos rfl, atKey_put_same hm1.isMap (show WideAt.IsKeyLit (.int .u64 (y : Int)) from trivial), hd]
    · rw [if_neg e, atKey_put_other (lit_ne e)]; exact H.l y
  · by_cases e : y = x
    · rw [if_pos e, if_pos e]; exact keep2 _ _ _ hrow
    · rw [if_neg e, if_neg e]; exact keep2 _ _ _ (keep1 y e)
  · by_cases e1 : y = x
    · rw [if_pos e1] at hy
      have e2 : z ≠ x := fun e => hyz (e1.trans e.symm)
      rw [if_neg e2]
      intro hz
      rcases hat with ha | ⟨g', ha, hge⟩
      · rw [ha] at hy; exact H.apart x z g (fun e => e2 e.symm) hy hz
      · rw [ha] at hy; cases hy
        obtain ⟨_, hlt, _⟩ := own_block (H.rows z) hz
        omega
    · rw [if_neg e1] at hy
      by_cases e2 : z = x
      · rw [if_pos e2]
        intro hz
        rcases hat with ha | ⟨g', ha, hge⟩
        · rw [ha] at hz; exact H.apart y x g e1 hy hz
        · rw [ha] at hz; cases hz
          obtain ⟨_, hlt, _⟩ := own_block (H.rows y) hy
          omega
      · rw [if_neg e2]; exact H.apart y z g hyz hy

/-- The row of x has been written, its header stays. -/
theorem One.turned {w w1 : World} {B b n : Nat} {D : DataW Unit} {h : Nat → Value} {f : Nat → List Nat} (H : One w B b n D h f) {x : Nat} {zs : List Nat}
    (hg1 : w.grownBy w1 (h x).ownBlock) (hrow : w1.ownsRow B 3 1 (h x) zs.length (zs.map encI)) : One w1 B b n D h (fun y => if y = x then zs else f y) := by
  have hbx : some b ≠ (h x).ownBlock := fun e => by
    obtain ⟨_, _, cur, hc⟩ := own_block (H.rows x) e.symm
    obtain ⟨es, c, hm⟩ := map_block H.m
    rw [hm] at hc; cases hc
  refine ⟨H.m.kept hg1 hbx, H.l, fun y => ?_, H.apart⟩
  by_cases e : y = x
  · subst e; rw [if_pos rfl]; exact hrow
  · rw [if_neg e]
    refine (H.rows y).kept hg1 ?_
    cases e2 : (h y).ownBlock with
    | none => exact .inl rfl
    | some g => exact .inr (fun e3 => H.apart y x g e e2 e3.symm)

end Go.Proofs.Ythclmkmajlinhab
