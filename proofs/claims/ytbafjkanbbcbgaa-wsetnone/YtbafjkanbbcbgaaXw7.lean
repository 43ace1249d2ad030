/- Versions sorted by their keys; going through the map in whatever order; Bytes. -/
import Derived.Test.YtbafjkanbbcbgaaXw6
import Derived.Test.YtbafjkanbbcbgaaLay16
import Derived.Lib.Bytealg
import Derived.Shelf.SlSortCmp.NoneTotal
namespace Go.Proofs.Ytbafjkanbbcbgaa
open Go.RowKit Go.Maps Go.Shelf Go.Sort
open Go.WideShapes (bytes_trans)
open Go.WideAt (bytes_irrefl bytes_total)

theorem cmp_neg : ∀ (a b : List UInt8), decide (Lib.compareBytes a b < 0) = bytesBefore a b
  | [], [] => rfl
  | [], _ :: _ => rfl
  | _ :: _, [] => rfl
  | x :: a, y :: b => by
    unfold Lib.compareBytes bytesBefore
    by_cases h : x < y
    · simp [h]
    · by_cases h2 : y < x
      · have hne : (x == y) = false := by rw [beq_eq_false_iff_ne]; rintro rfl; exact h h2
        simp [h, h2, hne]
      · have he : x = y := UInt8.le_antisymm (UInt8.not_lt.1 h2) (UInt8.not_lt.1 h)
        subst he
        rw [if_neg h, if_neg h, cmp_neg a b]
        simp

set_option maxHeartbeats 1000000 in
set_option maxRecDepth 100000 in
theorem cmpStr_any (a b : ByteArray) (w : World) : Calls Try.prog 68 #[.string a, .string b] w fun e w' => e = .returned (.int .i64 (Lib.compareBytes a.data.toList b.data.toList)) ∧ w' = w := by
  go_enter Try.func68, Try.ntmps68
  go_wp2
  rw [run_callFunc_extern Try.func74 (by kernel_rfl) (by kernel_rfl) (by kernel_rfl) (e := Extern.BytealgCompare.compare) (by kernel_rfl), Lib.run_compareString]
  simp only [Result.andThen]
  rw [Oper.upon_value]
  go_wp2
  go_ret
  exact ⟨rfl, rfl⟩
set_option maxHeartbeats 1000000 in
theorem strCmp_any (a b : ByteArray) (w : World) : Calls Try.prog 53 #[.string a, .string b] w fun e w' => e = .returned (.int .i64 (Lib.compareBytes a.data.toList b.data.toList)) ∧ w' = w := by
  have h := cmpStr_any a b w
  go_enter Try.func53, Try.ntmps53
  go_wp2_with fail
  refine h.mono ?_
  rintro e w' ⟨rfl, rfl⟩
  go_wp2
  go_ret
  exact ⟨rfl, rfl⟩
instance : Inhabited Vn := ⟨zeroVn⟩
def cfK (x y : Vn) : Int := Lib.compareBytes (ky x) (ky y)
set_option maxHeartbeats 1000000 in
/-- What the versions are compared by. -/
theorem byKey_any (x y : Vn) (W : World) : Calls Try.prog 40 #[.agg (quadV x).toArray, .agg (quadV y).toArray] W fun e w' => e = .returned (.int .i64 (cfK x y)) ∧ ∃ q os', w' = grow (W.drewN q) os' := by
  have hcon := fun W' => strCmp_any x.k y.k W'
  unfold cfK ky
  generalize Lib.compareBytes x.k.data.toList y.k.data.toList = r at hcon ⊢
  unfold quadV
  go_enter Try.func40, Try.ntmps40
  go_wp2_with fail
  refine (hcon _).mono ?_
  rintro e w' ⟨rfl, rfl⟩
  go_wp2
  go_ret
  exact ⟨rfl, 0, _, by rw [alloc_eq_grow, alloc_eq_grow, grow_grow]; rfl⟩
theorem cmpLays_any (blk off size : Nat) (w : World) : CmpLays Try.prog 40 #[] quadV 4 cfK blk off size w :=
  fun _ _ _ _ x y => byKey_any x y _
theorem lt_cfK (x y : Vn) : ltOf cfK x y = bytesBefore (ky x) (ky y) := by
  unfold ltOf cfK
  exact cmp_neg _ _
theorem swo_K : SWO (ltOf cfK) := by
  refine ⟨fun x => ?_, fun x y z h1 h2 => ?_, fun x y z h1 h2 => ?_⟩
  · rw [lt_cfK]; exact bytes_irrefl _
  · rw [lt_cfK] at *; exact bytes_trans _ _ _ h1 h2
  · rw [lt_cfK] at *
    cases h3 : bytesBefore (ky x) (ky z) with
    | false => rfl
    | true =>
      by_cases e : ky x = ky y
      · rw [e, h2] at h3; cases h3
      · rcases bytes_total _ _ e with h4 | h4
        · rw [h4] at h1; cases h1
        · rw [bytes_trans _ _ _ h4 h3] at h2; cases h2

theorem flat_celV (ys : List Vn) (t : Nat) (ht : t < ys.length * 4) : (celV ys)[t]? = some (flatK quadV 4 ys.toArray)[t]! := by
  rw [get_flatK _ _ _ _ (by simpa using ht)]
  have hi : t / 4 < ys.length := by omega
  have := celV_at hi (t % 4) (by omega)
  rw [show t / 4 * 4 + t % 4 = t by omega] at this
  rw [this]
  have e1 : (ys.toArray)[t / 4]! = vn ys (t / 4) := by
    rw [getElem!_pos _ _ (by simpa using hi)]
    simp [vn_get hi]
  rw [e1]
  have h2 : t % 4 = 0 ∨ t % 4 = 1 ∨ t % 4 = 2 ∨ t % 4 = 3 := by omega
  rcases h2 with h2 | h2 | h2 | h2 <;> rw [h2] <;> rfl

set_option maxHeartbeats 1000000 in
/-- slices.SortFunc over a list of versions of one's own. -/
theorem versSort_any {w : World} {B : Nat} {v : Value} {ys : List Vn} (h : OwV w B v ys) (hl : ys.length ≤ 4000000000000) :
    Calls Try.prog 39 #[v, .func (.func 40) #[] #[]] w fun e w' => e = .returned (.tuple #[]) ∧ ∃ zs, zs.Perm ys ∧ zs.Pairwise (fun x y => bytesBefore (ky y) (ky x) = false) ∧ OwV w' B v zs ∧ w.grownBy w' v.ownBlock := by
  rcases h.2 with ⟨rfl, h0⟩ | ⟨g, o, cap, cur, rfl, hB, hh, hn, hcap, hs, hc⟩
  · obtain rfl := List.length_eq_zero_iff.1 h0
    refine (AnyF.slices_SortFunc_none laysVers none 0 _ w).mono ?_
    rintro e w' ⟨rfl, rfl⟩
    exact ⟨rfl, [], List.Perm.refl _, List.Pairwise.nil, OwnS.nil _ _ _ _, ⟨rfl, rfl, rfl, Nat.le_refl _, fun _ _ _ => rfl⟩⟩
  · have hlen := celV_len ys
    have hH : HoldsK quadV 4 w g o ys.toArray := by
      intro j hj
      have hj2 : j < ys.length * 4 := by simpa using hj
      refine ⟨?_, frozen_of_row _ _ _ _ _ hh⟩
      rw [cell_of_row _ _ _ _ _ _ hh, hc j (by omega), flat_celV ys j hj2]
      rfl
    have hg : g < w.heap.size := (Array.getElem?_eq_some_iff.1 hh).1
    have hso := AnyQ.slices_SortFunc laysVers 4 Try.isAgg41 Try.sizeOf41 quadV (fun _ => rfl) (fun x v hv => by simp [quadV] at hv; rcases hv with rfl | rfl | rfl | rfl <;> rfl) cfK swo_K 40 #[] g o cap ys.toArray w
      (enters_of Try.func40 (by kernel_rfl) rfl) (cmpLays_any g o _ w) hH hg (by simp; omega)
    simp only [List.size_toArray] at hso
    refine hso.mono ?_
    rintro e w' ⟨rfl, d', n, os, ⟨hsz, _, hpm⟩, hsd, rfl⟩
    have hsz : d'.size = ys.length := by simpa using hsz
    obtain ⟨zs, rfl⟩ : ∃ zs : List Vn, d' = zs.toArray := ⟨d'.toList, by simp⟩
    have hzl : zs.length = ys.length := by simpa using hsz
    have hzc := celV_len zs
    have hgg : g < (putRowK quadV 4 (Sort.ahead w n) g o zs.toArray).heap.size := by simp [putRowK, putRow, mapBlock, Sort.ahead, hg]
    have hat : (sortWorldK quadV 4 w g o n zs.toArray os).heap[g]? = some (.cells (putCells id o (flatK quadV 4 zs.toArray) cur) 41 (0, 0)) := by
      unfold sortWorldK
      rw [Sort.heap_grow_old _ _ hgg]
      simp [putRowK, putRow, mapBlock, Sort.ahead, Array.getElem?_modify, hh, onCells]
    refine ⟨rfl, zs, ?_, ?_, ⟨by rw [hzc], .inr ⟨g, o, cap, _, by rw [hzl], hB, hat, by omega, hcap, by simp [putCells]; omega, fun i hi => ?_⟩⟩, ?_⟩
    · have e1 : (zs.toArray.extract 0 ys.length) = zs.toArray := by rw [← hzl]; simp
      have e2 : (ys.toArray.extract 0 ys.length) = ys.toArray := by simp
      rw [e1, e2] at hpm
      exact hpm
    · rw [List.pairwise_iff_getElem]
      intro i j hi hj hij
      have := hsd i j (Nat.zero_le _) hij (by omega)
      rw [lt_cfK, getElem!_pos _ _ (by simpa using hj), getElem!_pos _ _ (by simpa using hi)] at this
      simpa using this
    · have hi2 : i < zs.length * 4 := by omega
      rw [flat_celV zs i hi2]
      have h1 : o + i < cur.size := by omega
      have h2 : o + i < o + (flatK quadV 4 zs.toArray).size := by simp; omega
      simp only [putCells, Array.getElem?_mapIdx, Array.getElem?_eq_getElem h1, Option.map_some]
      rw [if_pos ⟨Nat.le_add_right _ _, h2⟩, Nat.add_sub_cancel_left]; rfl
    · refine ⟨rfl, rfl, rfl, ?_, fun k hk hne => ?_⟩
      · simp [sortWorldK, grow, putRowK, putRow, mapBlock, Sort.ahead]
      · have hne2 : g ≠ k := fun e => hne (by rw [e]; rfl)
        unfold sortWorldK
        rw [Sort.heap_grow_old _ _ (by simpa [putRowK, putRow, mapBlock, Sort.ahead] using hk)]
        simp [putRowK, putRow, mapBlock, Sort.ahead, Array.getElem?_modify, hne2]

/-! ### going through the map -/
theorem rise_ne {M : List Vn} (h : RiseW (saysV M)) : M.Pairwise fun e f => ky e ≠ ky f := by
  have h2 : M.Pairwise fun e f => bytesBefore (ky e) (ky f) = true := by
    unfold RiseW saysV at h; rwa [List.pairwise_map] at h
  exact h2.imp fun h => before_ne h
/-- vs were met, in this order; the others are still to come. -/
def Seen (M : List Vn) (left : Lit → Bool) (vs : List Vn) : Prop := ∃ rs, (vs ++ rs).Perm M ∧ (∀ e ∈ vs, left (.string (ky e)) = false) ∧ ∀ e ∈ rs, left (.string (ky e)) = true
theorem has_mem (M : List Vn) {e : Vn} (he : e ∈ M) : Maps.has (datW M) (.string (ky e)) = true := by
  unfold Maps.has datW
  simp only [List.any_map, List.any_eq_true]
  exact ⟨e, he, by simp [Lit.sameKey]⟩
theorem Seen.start (M : List Vn) : Seen M (Maps.has (datW M)) [] := ⟨M, List.Perm.refl _, (fun e he => by cases he), fun _ he => has_mem M he⟩
theorem Seen.done {M : List Vn} {left : Lit → Bool} {vs : List Vn} (h : Seen M left vs) (hl : ∀ kl, left kl = false) : vs.Perm M := by
  obtain ⟨rs, hp, _, h2⟩ := h
  cases rs with
  | nil => simpa using hp
  | cons e r => have := h2 e (List.mem_cons_self ..); rw [hl] at this; cases this
theorem Seen.sum {M : List Vn} {left : Lit → Bool} {vs : List Vn} (h : Seen M left vs) (f : Vn → Nat) : (vs.map f).sum ≤ (M.map f).sum := by
  obtain ⟨rs, hp, _⟩ := h
  rw [← (hp.map f).sum_nat, List.map_append, List.sum_append]
  exact Nat.le_add_right _ _
theorem Seen.len {M : List Vn} {left : Lit → Bool} {vs : List Vn} (h : Seen M left vs) : vs.length ≤ M.length := by
  obtain ⟨rs, hp, _⟩ := h
  rw [← hp.length_eq, List.length_append]; exact Nat.le_add_right _ _
/-- The next one: which it is. -/
theorem Seen.step {M : List Vn} (hr : RiseW (saysV M)) (hpl : ∀ e ∈ M, plainA e.a) {left : Lit → Bool} {vs : List Vn} (h : Seen M left vs) {x : List UInt8} {c : Vh} {kl : Lit} {y : DataW Unit × List MemPlace}
    (hkey : keyOf Try.prog 9 (encStr x) = some kl) (hlk : left kl = true) (hv : verR (mkVh c) = some y) (hat : ∀ zd, (datW M).atKey kl zd = y.1) :
    kl = .string x ∧ ∃ e, e ∈ M ∧ ky e = x ∧ mkVh c = verV e ∧ e ∉ vs ∧ Seen M (fun z => left z && !z.sameKey kl) (vs ++ [e]) := by
  obtain ⟨x', ex, rfl, _⟩ := Maps.keyOf_str Try.underlying9 hkey
  obtain rfl : x = x' := encStr_inj ex
  refine ⟨rfl, ?_⟩
  have h0 := hat .nil
  have h1 := hat (.slice [] [])
  rw [atKey_datW] at h0 h1
  cases hk : vnOf M x with
  | none => rw [hk] at h0 h1; rw [← h1] at h0; cases h0
  | some e =>
    rw [hk] at h0
    obtain ⟨he, rfl⟩ := vnOf_some hk
    have hy : y = (datX e, y.2) := Prod.ext h0.symm rfl
    have hc := verR_inv (hpl e he) (hv.trans (congrArg some hy))
    obtain ⟨rs, hp, h1', h2⟩ := h
    have hnv : e ∉ vs := fun hm => by rw [h1' e hm] at hlk; cases hlk
    refine ⟨e, he, rfl, hc, hnv, ?_⟩
    have hm : e ∈ rs := by
      rcases List.mem_append.1 (hp.mem_iff.2 he) with hm | hm
      · exact absurd hm hnv
      · exact hm
    obtain ⟨a, b', rfl⟩ := List.append_of_mem hm
    refine ⟨a ++ b', ?_, fun f hf => ?_, fun f hf => ?_⟩
    · refine List.Perm.trans ?_ hp
      rw [List.append_assoc]
      refine List.Perm.append_left vs ?_
      simpa using (List.perm_middle (a := e) (l₁ := a) (l₂ := b')).symm
    · rcases List.mem_append.1 hf with hf | hf
      · show (left _ && !_) = _
        rw [h1' f hf]; rfl
      · simp at hf; subst hf; simp [Lit.sameKey]
    · have hne : ky f ≠ ky e := by
        have hpw := (hp.pairwise_iff (R := fun e f : Vn => ky e ≠ ky f) (fun {_ _} hh => Ne.symm hh)).2 (rise_ne hr)
        have h3 := (List.pairwise_append.1 hpw).2.1
        have h4 := (List.pairwise_append.1 h3)
        have h5 := List.pairwise_cons.1 h4.2.1
        rcases List.mem_append.1 hf with hf | hf
        · exact h4.2.2 f hf e (List.mem_cons_self ..)
        · exact (h5.1 f hf).symm
      have := h2 f (by rcases List.mem_append.1 hf with hf | hf; exact List.mem_append_left _ hf; exact List.mem_append_right _ (List.mem_cons_of_mem _ hf))
      show (left _ && !_) = _
      rw [this]; simp [Lit.sameKey, hne]

theorem ranges_lt {w : World} {R : Value → Option (DataW Unit × List MemPlace)} {b r n : Nat} {D : DataW Unit} {left : Lit → Bool} {cnt : Nat} (h : w.ranges Try.prog 9 R b r n D left cnt) : b < w.heap.size ∧ r < w.heap.size := by
  obtain ⟨es, clock, since, seen, c0, h1, h2, h3, h4, h5, h6⟩ := h
  exact ⟨(Array.getElem?_eq_some_iff.1 h1).1, (Array.getElem?_eq_some_iff.1 h5).1⟩
/-- How many bytes all have. -/
def bytesA (C : Wc) : Nat := (C.map fun e => e.1.length + e.2.b.length).sum
def wgN (x : Vn) : Nat := x.k.size + x.z.length
theorem bytes_says (M : List Vn) : bytesA (saysV M) = (M.map wgN).sum := by
  unfold bytesA saysV
  rw [List.map_map]
  congr 1
theorem sum_le (f : Vn → Nat) (b : Nat) : ∀ (M : List Vn), (∀ e ∈ M, f e ≤ b) → (M.map f).sum ≤ M.length * b
  | [], _ => by simp
  | x :: r, h => by
    rw [List.map_cons, List.sum_cons, List.length_cons]
    have h1 := h x (List.mem_cons_self ..)
    have h2 := sum_le f b r fun e he => h e (List.mem_cons_of_mem _ he)
    rw [Nat.succ_mul]; omega

section
variable {w : World} {F : Nat → Prop} {s : Nat} {M : List Vn}
set_option maxRecDepth 100000 in
set_option maxHeartbeats 4000000 in
theorem bytes_some {b : Nat} (h : Wst w F s (some b) M) :
    Calls Try.prog 19 #[.pointer (some ⟨s, 0, none⟩)] w fun e w' => e = .returned (.int .i64 (bytesA (saysV M) : Int)) ∧ Below w.heap.size w w' := by
  have ha0 := all_any h
  obtain ⟨hown, hFb⟩ := h.map b rfl
  have hbl := h.lt b hFb
  have hrise := h.rise
  have hpl : ∀ e ∈ M, plainA e.a := fun e he => (h.each e he).p
  have hwg : ∀ e ∈ M, ∀ z, Calls Try.prog 38 #[verV e] z fun e' w' => e' = .returned (.int .i64 (wgN e : Int)) ∧ Below z.heap.size z w' := fun e he z => by
    obtain ⟨_, h1, h2, _⟩ := h.kz he
    have := weigh_any e z (by omega) (by omega)
    rwa [show wgt e = ((wgN e : Nat) : Int) by unfold wgt wgN; omega] at this
  have htot : ∀ vs : List Vn, (vs.map wgN).sum ≤ (M.map wgN).sum → (vs.map wgN).sum ≤ 18000000000000000 := fun vs hvs => Nat.le_trans hvs (Nat.le_trans (sum_le wgN 4351 M fun e he => by have := h.kz he; unfold wgN; omega) (by have := h.len; omega))
  have HL := hide_it hwg
  have HT := hide_it htot
  have HR := hide_it hrise
  have HP := hide_it hpl
  rw [bytes_says]
  clear h hwg htot hrise hpl
  go_enter Try.func19, Try.ntmps19
  go_wp2_with fail
  refine ha0.mono ?_
  rintro e w1 ⟨rfl, hw1⟩
  obtain rfl := hw1.symm
  clear ha0 hw1
  go_wp2_with (first | (at_range; refine wpList_range_own _ rfl _ 30 rfl 9 41 law_string Try.underlying30 _ b M.length _ rfl hown ?_; intro w0 hrg0 hg0 hs0) | go_in)
  go_frame
  go_loopw [3] (fun t3 wr => ∃ (left : Lit → Bool) (cnt : Nat) (vs : List Vn), wr.ranges Try.prog 9 verR b w.heap.size M.length (datW M) left cnt ∧ Hid (Seen M left vs) ∧ (∃ T3 : Nat, t3 = .int .i64 (T3 : Int) ∧ Hid (T3 = (vs.map wgN).sum)) ∧ Below w.heap.size w wr)
    (fun _ wr => wr.rangeLeft b w.heap.size)
  case atStart => exact ⟨_, _, [], hrg0, hide_it (Seen.start M), ⟨0, rfl, hide_it rfl⟩, (Below.refl _ w).grown hg0 (Nat.le_refl _) fun k e => by cases e⟩
  case round =>
    obtain ⟨left, cnt, vs, hrg, hS, ⟨T4, rfl, hT4⟩, hbw⟩ := hrel
    clear hrg0 hg0 hs0 hown
    go_wp2_with (first | (at_next; refine wpList_next_ranges _ rfl _ rfl 9 law_string verR encStr mkVh invK_str verR_shape b w.heap.size M.length _ _ _ rfl hrg ?_ ?_) | go_in)
    · intro hc0 hl0
      have hp := hS.out.done hl0
      have hres : Hid (T4 = (M.map wgN).sum) := by rw [hT4.out]; exact hide_it (hp.map _).sum_nat
      have HBW := hide_it hbw
      clear hp hT4 hS hbw hrg
      go_wp2
      go_ret
      exact ⟨by rw [hres.out]; rfl, HBW.out⟩
    · intro x c kl yd yp w1 cnt1 hkey hlk hv hat hrg1 hlt hg1 hs1 hen
      obtain ⟨_, e, he, rfl, hce, hnv, hS1⟩ := hS.out.step HR.out HP.out hkey hlk hv hat
      have hb1 : Below w.heap.size w w1 := hbw.trans (grown_below hg1 (Nat.le_refl _) hbw.size)
      rw [hce] at hen
      have hbd := HT.out _ (hS1.sum wgN)
      have hsum : ((vs ++ [e]).map wgN).sum = T4 + wgN e := by rw [hT4.out]; simp
      rw [hsum] at hbd
      have hw9 : IntKind.i64.wrap ((T4 : Int) + (wgN e : Int)) = ((T4 + wgN e : Nat) : Int) := by rw [i64_in (by omega) (by omega)]; omega
      have hcl := HL.out e he
      have HS1 := hide_it hS1
      have HB1 := hide_it hb1
      have HSM := hide_it hsum
      have HM : Hid (w1.rangeLeft b w.heap.size < wr.rangeLeft b w.heap.size) := by rw [hrg1.left_eq, hrg.left_eq]; exact hide_it hlt
      have HRG := hide_it hrg1
      unfold verV at hcl hen
      clear hS hS1 hT4 hbd hsum hkey hlk hv hat hnv hs1 hg1 hrg hrg1 hlt hb1 hbw hce
      go_wp2_with fail
      refine (hcl _).mono ?_
      rintro e' w2 ⟨rfl, hb2⟩
      have hb3 : Below w1.heap.size w1 w2 := ((Below.refl w1.heap.size w1).alloc (Nat.le_refl _) _).trans (hb2.mono (by simp))
      have HRG2 : Hid (w2.ranges Try.prog 9 verR b w.heap.size M.length (datW M) _ _) := hide_it (ranges_hold HRG.out (hb3.block _ (ranges_lt HRG.out).1) (hb3.block _ (ranges_lt HRG.out).2))
      have HB2 : Hid (Below w.heap.size w w2) := hide_it (HB1.out.trans (hb3.mono HB1.out.size))
      have HM2 : Hid (w2.rangeLeft b w.heap.size < wr.rangeLeft b w.heap.size) := by rw [HRG2.out.left_eq, ← HRG.out.left_eq]; exact HM
      clear hcl hb2 hb3 hen
      go_wp2
      go_roundw
      case rel => exact ⟨_, _, vs ++ [e], HRG2.out, HS1, ⟨T4 + wgN e, by first | rfl | (congr 1), hide_it HSM.out.symm⟩, HB2.out⟩
      case measure => exact HM2.out
end

end Go.Proofs.Ytbafjkanbbcbgaa
