/- What a walk is listened to by; a set that may not be there; its copy. -/
import Derived.Test.YtbafjkanbbcbgaaXv1
namespace Go.Proofs.Ytbafjkanbbcbgaa
open Go.RowKit Go.Maps Go.Shelf

attribute [local go_sem] Oper.semAt_some

/-- What is known of a pair of a walk that is handed over; when it is done; when it was left. -/
def GU (K0 : Nat → Prop) (A : Nat → World → Prop) (us : List Pn) (T : Nat → Prop) (pre : List Pn) (x : Pn) (_ W : World) : Prop := pre.length < us.length ∧ x = pn us pre.length ∧ A (pre.length + 1) W ∧ ∀ j, K0 j → T j
def SU (A : Nat → World → Prop) (us : List Pn) (xs : List Pn) (W : World) : Prop := xs = us ∧ A us.length W
def PU (A : Nat → World → Prop) (us : List Pn) (pre : List Pn) (W : World) : Prop := pre.length ≤ us.length ∧ pre = us.take pre.length ∧ A pre.length W
/-- A walk's function value: none; the method of a record. -/
inductive UndIs (w : World) (K0 Kr : Nat → Prop) : Value → (Nat → World → Prop) → List Pn → Prop
  | none : UndIs w K0 Kr .nilFunc (fun _ _ => True) []
  | some (ub : Nat) (a : Option Addr) (cap : Nat) (us : List Pn) (hu : Und w ub a cap us 0) (hl : us.length ≤ 4000000000000) (hk : K0 ub) (hg : ∀ g o, (us.length ≠ 0 ∧ a = some ⟨g, o, none⟩) → Kr g) :
      UndIs w K0 Kr (.func (.func 36) #[.pointer (some ⟨ub, 0, none⟩)] #[]) (fun k W => Und W ub a cap us k) us
theorem UndIs.below {w w' : World} {K0 Kr : Nat → Prop} {v : Value} {A : Nat → World → Prop} {us : List Pn} (h : UndIs w K0 Kr v A us) (hK : ∀ j, K0 j ∨ Kr j → j < w.heap.size) (hb : Below w.heap.size w w') : UndIs w' K0 Kr v A us := by
  cases h with
  | none => exact .none
  | some ub a cap us hu hl hk hg => exact .some ub a cap us (hu.keep hb.size (hb.block _ (hK _ (.inl hk))) fun g o e => hb.block _ (hK _ (.inr (hg g o e)))) hl hk hg
theorem UndIs.stays {w : World} {K0 Kr : Nat → Prop} {v : Value} {A : Nat → World → Prop} {us : List Pn} (h : UndIs w K0 Kr v A us) {W W' : World} {k : Nat} (hA : A k W) (hz : W.heap.size ≤ W'.heap.size) (hk : ∀ j, K0 j ∨ Kr j → W'.heap[j]? = W.heap[j]?) : A k W' := by
  cases h with
  | none => trivial
  | some ub a cap us hu hl hkb hg => exact Und.keep hA hz (hk _ (.inl hkb)) fun g o e => hk _ (.inr (hg g o e))
theorem UndIs.grow {w : World} {K0 Kr : Nat → Prop} {v : Value} {A : Nat → World → Prop} {us : List Pn} (h : UndIs w K0 Kr v A us) {W W' : World} {k : Nat} (hA : A k W) (hb : Below W.heap.size W W') : A k W' := by
  cases h with
  | none => trivial
  | some ub a cap us hu hl hkb hg => exact ⟨(hb.block _ (Array.getElem?_eq_some_iff.1 hA.blk).1).trans hA.blk, hA.row.below hb⟩
theorem UndIs.first {w : World} {K0 Kr : Nat → Prop} {v : Value} {A : Nat → World → Prop} {us : List Pn} (h : UndIs w K0 Kr v A us) : A 0 w := by
  cases h with
  | none => trivial
  | some ub a cap us hu hl hkb hg => exact hu
theorem UndIs.len {w : World} {K0 Kr : Nat → Prop} {v : Value} {A : Nat → World → Prop} {us : List Pn} (h : UndIs w K0 Kr v A us) : us.length ≤ 4000000000000 := by
  cases h with
  | none => simp
  | some ub a cap us hu hl hkb hg => exact hl

set_option maxRecDepth 100000 in
set_option maxHeartbeats 4000000 in
theorem tellsL (m Bu : Nat) {uv : Value} {A : Nat → World → Prop} {us : List Pn} {K0 Kr : Nat → Prop} {w : World} (hB : Boxed w Bu 74 uv) (hu : UndIs w K0 Kr uv A us) (hK : ∀ j, K0 j ∨ Kr j → j < w.heap.size) :
    TellsT Fence.wide m Try.prog 55 #[.pointer (some ⟨Bu, 0, none⟩)] (fun x : Pn => #[prV x]) K0 Kr (GU K0 A us) (SU A us) (PU A us) w := by
  intro l J Jx W hW hnl hlW hY h0
  have hB' : Boxed W Bu 74 uv := (hW.block _ hB.lt).trans hB
  have hc := hB'.cell
  have hu' := hu.below hK hW
  have hK' : ∀ j, K0 j ∨ Kr j → j < W.heap.size := fun j hj => Nat.lt_of_lt_of_le (hK j hj) hW.size
  have hBl := hB'.lt
  clear hB hB' hW hu hK
  have hmf : ∀ (fn : Fn) (first cap : Array Value) (w : World), (Instr.makeFunc fn first cap).run Try.prog w = .ok (.func fn first cap) w := fun _ _ _ _ => rfl
  have heq : ∀ (fn : Fn) (a b : Array Value) (w : World), (binOp .eql 74 (.func fn a b) .nilFunc).run Try.prog w = .ok (.bool false) w := fun _ _ _ _ => rfl
  have heq2 : ∀ (w : World), (binOp .eql 74 .nilFunc .nilFunc).run Try.prog w = .ok (.bool true) w := fun _ => rfl
  cases hu' with
  | none =>
    have HE : Hid (∀ W', Below W.heap.size W W' → (∃ T xs X, (∀ j, T j → j < X.heap.size) ∧ SU (fun _ _ => True) [] xs W' ∧ J T xs X ∧ Chg T X W')) := hide_it fun W' hb => ⟨K0, [], W, fun j hj => hK' j (.inl hj), ⟨rfl, trivial⟩, h0, Chg.new hb⟩
    have hb1 : Below W.heap.size W (W.alloc (.cells #[.func (.yield l) #[] #[]] 83)) := (Below.refl _ _).alloc (Nat.le_refl _) _
    have HB := hide_it hb1
    clear hY h0 hb1
    refine callsIn_of_wp Try.func55 rfl trivial ?_ rfl
    simp only [Try.ntmps55, List.size_toArray, List.length_cons, List.length_nil, Nat.reduceAdd, Nat.reduceSub, Array.replicate_succ, Array.replicate_zero, List.push_toArray, List.append_toArray, List.nil_append, List.cons_append]
    gi_wp2
    refine bodyPost_ret (results_none rfl _ _ _) rfl ?_
    exact ⟨⟨_, rfl⟩, .inl (HE.out _ HB.out)⟩
  | some ub a cap us hu hl hk hg =>
    obtain ⟨W1, hW1⟩ : ∃ W1, W1 = (W.alloc (.cells #[.func (.yield l) #[] #[]] 83)).alloc (.cells #[.bool false] 4) := ⟨_, rfl⟩
    have hb1 : Below W.heap.size W W1 := by rw [hW1]; exact ((Below.refl _ _).alloc (Nat.le_refl _) _).alloc (by simp) _
    have hz1 : W1.heap.size = W.heap.size + 2 := by rw [hW1]; simp
    have hyb : Boxed W1 W.heap.size 83 (.func (.yield l) #[] #[]) := by rw [hW1]; exact (Boxed.new W _ _).alloc _
    have hlb : Boxed W1 (W.heap.size + 1) 4 (.bool false) := by
      have := Boxed.new (W.alloc (.cells #[.func (.yield l) #[] #[]] 83)) 4 (.bool false)
      rw [hW1]; simpa using this
    have hS : LSt J K0 l (W.heap.size + 1) W.heap.size ub a cap us 0 W K0 W W1 :=
      ⟨Nat.le_refl _, h0, Chg.new hb1, fun j hj => hK' j (.inl hj), fun _ h => h, .inr ⟨by omega, by omega⟩, .inr ⟨by omega, by omega⟩, hlb, hyb, hu.keep hb1.size (hb1.block _ (hK' _ (.inl hk))) fun g o e => hb1.block _ (hK' _ (.inr (hg g o e)))⟩
    have hcl := walkU_any m l (W.heap.size + 1) W.heap.size ub a cap us K0 Kr J Jx W W1 hl (fun T T' pre x X W1 h1 h2 h3 h4 h5 h6 => yieldAt_wide _ (hY T T' pre x X W1 h1 h2 h3 h4 h5 h6)) hS hk hg (fun e => by have := hK' _ (.inl e); omega) (fun e => by have := hK' _ (.inr e); omega) (fun j hj => hK' j (.inr hj))
    clear hY h0 hb1 hyb hlb hS hu hK'
    refine callsIn_of_wp Try.func55 rfl trivial ?_ rfl
    simp only [Try.ntmps55, List.size_toArray, List.length_cons, List.length_nil, Nat.reduceAdd, Nat.reduceSub, Array.replicate_succ, Array.replicate_zero, List.push_toArray, List.append_toArray, List.nil_append, List.cons_append]
    gi_wp2_with fail
    rw [← hW1]
    clear hW1
    refine ⟨trivial, (fun h => by cases h), hcl.mono ?_⟩
    rintro e W' ⟨⟨v, rfl⟩, h⟩
    have H := hide_it h
    clear h hcl
    gi_wp2
    go_end0
    exact ⟨⟨_, rfl⟩, H.out⟩

/-! ### a set that may not be there -/
def Ost (w : World) (F : Nat → Prop) (p : Option Addr) (M : List Vn) : Prop := (p = none ∧ M = []) ∨ ∃ s mb, p = some ⟨s, 0, none⟩ ∧ Wst w F s mb M
theorem Ost.below {w w' : World} {F : Nat → Prop} {p : Option Addr} {M : List Vn} (h : Ost w F p M) (hb : Below w.heap.size w w') : Ost w' F p M := h.imp id fun ⟨s, mb, e, h⟩ => ⟨s, mb, e, h.below hb⟩
/-- The copy of a set's map. -/
def CopyW (w : World) (mc : Option Nat) (M : List Vn) : Prop := (mc = none → M = []) ∧ (∀ b, mc = some b → w.ownsMap Try.prog 9 verR b M.length (datW M)) ∧ ∀ e ∈ M, plainA e.a
theorem CopyW.keep {w w' : World} {mc : Option Nat} {M : List Vn} (h : CopyW w mc M) (hk : ∀ b, mc = some b → w'.heap[b]? = w.heap[b]?) : CopyW w' mc M := ⟨h.1, fun b e => ownsMap_hold (h.2.1 b e) (hk b e), h.2.2⟩
theorem CopyW.look {w : World} {mc : Option Nat} {M : List Vn} (h : CopyW w mc M) (key : ByteArray) (hk : key.size ≤ maxLen) : (Instr.lookup 30 (.map mc) (.string key) true).run Try.prog w = .ok (.tuple #[verV ((vnOf M key.data.toList).getD zeroVn), .bool (vnOf M key.data.toList).isSome]) w := by
  have hkey := WideMaps.keyOf_string_mk (P := Try.prog) Try.underlying9 hk
  cases mc with
  | none =>
    have hM := h.1 rfl
    subst hM
    exact Maps.look_nil true law_string Try.underlying30 (zeroVer w) hkey
  | some b =>
    have hown := h.2.1 b rfl
    obtain ⟨v, ps, hrun, hR⟩ := hown.look_ok law_string Try.underlying30 (zeroVer w) (verR_ok zeroVn (.inl rfl)) hkey
    rw [atKey_datW] at hR
    rw [has_datW] at hrun
    cases he : vnOf M key.data.toList with
    | none =>
      rw [he] at hR hrun
      obtain rfl := verR_inv (x := zeroVn) (.inl rfl) hR
      exact hrun
    | some e =>
      rw [he] at hR hrun
      obtain rfl := verR_inv (x := e) (h.2.2 e (vnOf_some he).1) hR
      exact hrun
theorem clone_any {w : World} (mb : Option Nat) {M : List Vn} (h : CopyW w mb M) : Calls Try.prog 46 #[.map mb] w fun e w' => ∃ mc, e = .returned (.map mc) ∧ CopyW w' mc M ∧ Below w.heap.size w w' ∧ ∀ b, mc = some b → w.heap.size ≤ b ∧ b < w'.heap.size := by
  cases mb with
  | none =>
    refine (AnyW.maps_Clone_nil laysClone w).mono ?_
    rintro e w' ⟨rfl, rfl⟩
    exact ⟨none, rfl, h, Below.refl _ _, fun b e => by cases e⟩
  | some b =>
    refine (AnyW.maps_Clone_owns laysClone 9 verR b M.length (datW M) w (h.2.1 b rfl)).mono ?_
    rintro e w' ⟨rfl, h1, _, hb⟩
    refine ⟨_, rfl, ⟨(fun e => by cases e), fun b e => by cases e; exact h1, h.2.2⟩, hb, fun b e => ?_⟩
    cases e
    exact ⟨Nat.le_refl _, h1.lt⟩
/-- What a set's parts answer, whether it is there or not. -/
theorem Ost.all {w : World} {F : Nat → Prop} {p : Option Addr} {M : List Vn} (h : Ost w F p M) : ∃ mb, CopyW w mb M ∧ (∀ b, mb = some b → F b) ∧ ∀ z, Below w.heap.size w z → Calls Try.prog 33 #[.pointer p] z fun e w' => e = .returned (.map mb) ∧ w' = z := by
  rcases h with ⟨rfl, rfl⟩ | ⟨s, mb, rfl, h⟩
  · exact ⟨none, ⟨fun _ => rfl, (fun b e => by cases e), (fun e h => by cases h)⟩, (fun b e => by cases e), fun z _ => all_none z⟩
  · exact ⟨mb, ⟨h.nomap, fun b e => (h.map b e).1, fun e he => (h.each e he).p⟩, fun b e => (h.map b e).2, fun z hz => all_any (h.below hz)⟩
theorem Ost.puts {w : World} {F : Nat → Prop} {p : Option Addr} {M : List Vn} (h : Ost w F p M) (fr to : ByteArray) : Calls Try.prog 47 #[.pointer p, .string fr, .string to] w fun e w' => (∃ v zs, e = .returned v ∧ OwV w' w.heap.size v zs ∧ (∀ y ∈ zs, ValF w F y ∧ y ∈ M) ∧ saysV zs = putsW (saysV M) fr.data.toList to.data.toList) ∧ Below w.heap.size w w' := by
  rcases h with ⟨rfl, rfl⟩ | ⟨s, mb, rfl, h⟩
  · refine (puts_nil none fr to w (all_none w)).mono ?_
    rintro e w' ⟨rfl, hb⟩
    exact ⟨⟨_, [], rfl, OwnS.nil _ _ _ _, (fun y hy => by cases hy), rfl⟩, hb⟩
  · exact puts_any h fr to
theorem Ost.small {w : World} {F : Nat → Prop} {p : Option Addr} {M : List Vn} (h : Ost w F p M) : M.length ≤ 4000000000000 ∧ (∀ e ∈ M, e.k.size ≤ 255 ∧ e.z.length ≤ 4096 ∧ e.n = 0) ∧ RiseW (saysV M) ∧ ∀ j, (∃ s, p = some ⟨s, 0, none⟩) → F j → j < w.heap.size := by
  rcases h with ⟨rfl, rfl⟩ | ⟨s, mb, rfl, h⟩
  · exact ⟨by simp, (fun e he => by cases he), List.Pairwise.nil, fun j ⟨s, e⟩ => by cases e⟩
  · exact ⟨h.len, fun e he => by have := h.kz he; exact ⟨by omega, by omega, this.2.2.2⟩, h.rise, fun j _ hj => h.lt j hj⟩

set_option maxRecDepth 100000 in
set_option maxHeartbeats 400000 in
/-- A put as a pair. -/
theorem pairOf_any (x : Vn) (w : World) (hr : RowB w x.a x.z) (hl : x.z.length ≤ 140737488355328) (hnil : x.a = none → x.z.length = 0 ∧ x.c = 0) :
    Calls Try.prog 49 #[verV x] w fun e w' => (∃ a c, e = .returned (prV ⟨x.k, a, x.z, c⟩) ∧ OwnB w' w.heap.size (.slice a x.z.length c) x.z) ∧ Below w.heap.size w w' := by
  obtain ⟨k, n, a, z, c, d⟩ := x
  simp only at hr hl hnil
  obtain ⟨W, hW⟩ : ∃ W, W = (w.alloc (.cells #[.string k, .int .i64 n, .slice a z.length c, .bool d] 41)).alloc (.cells #[.string ⟨#[]⟩, .slice none 0 0] 60) := ⟨_, rfl⟩
  have hb : Below w.heap.size w W := by rw [hW]; exact ((Below.refl _ _).alloc (Nat.le_refl _) _).alloc (by simp) _
  have hzW : W.heap.size = w.heap.size + 2 := by rw [hW]; simp
  have k0 : W.heap[w.heap.size]? = some (.cells #[.string k, .int .i64 n, .slice a z.length c, .bool d] 41 (0, 0)) := by rw [hW, Below.heap_alloc _ _ _ (by simp)]; exact heap_alloc_new w _
  have k1 : W.heap[w.heap.size + 1]? = some (.cells #[.string ⟨#[]⟩, .slice none 0 0] 60 (0, 0)) := by
    have := heap_alloc_new (w.alloc (.cells #[.string k, .int .i64 n, .slice a z.length c, .bool d] 41)) (.cells #[.string ⟨#[]⟩, .slice none 0 0] 60)
    rw [hW]; simpa using this
  have d0 := cell_of_row _ _ 0 _ _ _ k0
  have d1 := cell_of_row _ _ 1 _ _ _ k0
  have d2 := cell_of_row _ _ 2 _ _ _ k0
  have d3 := cell_of_row _ _ 3 _ _ _ k0
  have hbd : ∀ (a : Option Addr) (n c : Nat) (w : World), (Instr.build 60 #[(0, .string k), (1, .slice a n c)]).run Try.prog w = .ok (.agg #[.string k, .slice a n c]) w := fun a n c w => by kernel_rfl
  have hcl := anew_any ⟨k, n, a, z, c, d⟩ W (hr.below hb) hl hnil
  simp only [verV, movX, prV] at hcl ⊢
  go_enter Try.func49, Try.ntmps49
  go_wp2_with fail
  rw [← hW]
  clear hW
  go_wp2_with fail
  refine hcl.mono ?_
  rintro e w1 ⟨⟨a9, c9, rfl, hv⟩, hb1⟩
  have hz1 := hb1.size
  have q0 := (hb1.block _ (by omega)).trans k0
  have q1 := (hb1.block _ (by omega)).trans k1
  have f0 := fun j => frozen_of_row w1 _ j _ _ q0
  have f1 := fun j => frozen_of_row w1 _ j _ _ q1
  have e0 := cell_of_row _ _ 0 _ _ _ q0
  have e1 := cell_of_row _ _ 1 _ _ _ q0
  have e2 := cell_of_row _ _ 2 _ _ _ q0
  have e3 := cell_of_row _ _ 3 _ _ _ q0
  have g0 := cell_of_row _ _ 0 _ _ _ q1
  have g1 := cell_of_row _ _ 1 _ _ _ q1
  have HV : Hid (∀ w5, (∀ j, w.heap.size + 2 ≤ j → w5.heap[j]? = w1.heap[j]?) → OwnB w5 w.heap.size (.slice a9 z.length c9) z) := hide_it fun w5 h5 => (hv.hold fun j hj => h5 j (by have := hv.ge hj; omega)).mono (by omega)
  have HB := hide_it (hb.trans (hb1.mono hb.size))
  clear hcl hv hb1 q0 q1 k0 k1 hb d0 d1 d2 d3
  go_wp2_with fail
  refine bodyPost_ret (v := .agg #[.string k, .slice a9 z.length c9]) (by simp [results, Try.results49, g0, g1, go_sem]) rfl ⟨⟨a9, c9, rfl, HV.out _ fun j hj => ?_⟩, ?_⟩
  · repeat rw [Below.heap_setCell _ _ _ _ (by first | (show j ≠ w.heap.size + 1; omega) | (show j ≠ w.heap.size; omega))]
  · exact (((((HB.out.setCell (p := ⟨w.heap.size, 0, none⟩) (Nat.le_refl _) _).setCell (p := ⟨w.heap.size, 1, none⟩) (Nat.le_refl _) _).setCell (p := ⟨w.heap.size, 2, none⟩) (Nat.le_refl _) _).setCell (p := ⟨w.heap.size, 3, none⟩) (Nat.le_refl _) _).setCell (p := ⟨w.heap.size + 1, 0, none⟩) (by simp) _).setCell (p := ⟨w.heap.size + 1, 1, none⟩) (by simp) _

end Go.Proofs.Ytbafjkanbbcbgaa
