/- Pairs sorted by their keys. -/
import Derived.Test.YthaknohnccmfoaaSo25
import Derived.Shelf.SlSortCmp.NoneTotal
namespace Go.Proofs.Ythaknohnccmfoaa
open Go.RowKit Go.Maps Go.Shelf Go.Sort
open Go.WideShapes (bytes_trans)
open Go.WideAt (bytes_irrefl bytes_total)

theorem bless_list : ∀ (a b : List UInt8), Op.bytesLess a b = bytesBefore a b
  | [], [] => rfl
  | [], _ :: _ => rfl
  | _ :: _, [] => rfl
  | x :: r, y :: s => by
    unfold Op.bytesLess bytesBefore
    rw [bless_list r s]
theorem bless (a b : ByteArray) : Op.bytesLess a.toList b.toList = bytesBefore a.data.toList b.data.toList := by
  rw [Lib.toList_data, Lib.toList_data, bless_list]

theorem nan_any (x : ByteArray) (w : World) : Calls Try.prog 90 #[.string x] w fun e w' => e = .returned (.bool false) ∧ w' = w := by
  go_enter Try.func90, Try.ntmps90
  go_wp2
  go_ret
  exact ⟨rfl, rfl⟩
def cfB (x y : ByteArray) : Int := if bytesBefore x.data.toList y.data.toList = true then -1 else if bytesBefore y.data.toList x.data.toList = true then 1 else 0
set_option maxHeartbeats 1000000 in
theorem cmpS_any (x y : ByteArray) (w : World) : Calls Try.prog 80 #[.string x, .string y] w fun e w' => e = .returned (.int .i64 (cfB x y)) ∧ w' = w := by
  have hn := fun x => nan_any x w
  unfold cfB
  rw [← bless, ← bless]
  cases h1 : Op.bytesLess x.toList y.toList with
  | true =>
    go_enter Try.func80, Try.ntmps80
    go_wp2_with (go_at_call 90; refine (hn _).mono ?_; rintro e w' ⟨rfl, rfl⟩)
    go_ret
    exact ⟨rfl, rfl⟩
  | false =>
    cases h2 : Op.bytesLess y.toList x.toList with
    | true =>
      have h3 : (x.toList == y.toList) = false := by
        rw [beq_eq_false_iff_ne]
        intro e
        rw [e] at h1 h2; rw [h1] at h2; cases h2
      go_enter Try.func80, Try.ntmps80
      go_wp2_with (go_at_call 90; refine (hn _).mono ?_; rintro e w' ⟨rfl, rfl⟩)
      go_ret
      exact ⟨rfl, rfl⟩
    | false =>
      have h3 : (x.toList == y.toList) = true := by
        rw [beq_iff_eq]
        rw [bless] at h1 h2
        rw [Lib.toList_data, Lib.toList_data]
        by_cases e : x.data.toList = y.data.toList
        · exact e
        · rcases bytes_total _ _ e with h4 | h4
          · rw [h4] at h1; cases h1
          · rw [h4] at h2; cases h2
      go_enter Try.func80, Try.ntmps80
      go_wp2_with (go_at_call 90; refine (hn _).mono ?_; rintro e w' ⟨rfl, rfl⟩)
      go_ret
      exact ⟨rfl, rfl⟩

instance : Inhabited Pn := ⟨zeroPn⟩
set_option maxHeartbeats 1000000 in
/-- What the pairs are compared by. -/
theorem closure_any (x y : Pn) (W : World) : Calls Try.prog 79 #[.agg (duoP x).toArray, .agg (duoP y).toArray] W fun e w' => e = .returned (.int .i64 (cfB x.k y.k)) ∧ ∃ q os', w' = grow (W.drewN q) os' := by
  have hcon := fun W' => cmpS_any x.k y.k W'
  generalize cfB x.k y.k = r at hcon ⊢
  unfold duoP
  go_enter Try.func79, Try.ntmps79
  go_wp2_with (go_at_call 80; refine (hcon _).mono ?_; rintro e w' ⟨rfl, rfl⟩)
  go_ret
  exact ⟨rfl, 0, _, by rw [alloc_eq_grow, alloc_eq_grow, grow_grow]; rfl⟩
theorem cmpLays_any (blk off size : Nat) (w : World) : CmpLays Try.prog 79 #[] duoP 2 (fun x y => cfB x.k y.k) blk off size w :=
  fun _ _ _ _ x y => closure_any x y _
theorem lt_cfB (x y : Pn) : ltOf (fun x y : Pn => cfB x.k y.k) x y = bytesBefore x.k.data.toList y.k.data.toList := by
  unfold ltOf cfB
  cases h : bytesBefore x.k.data.toList y.k.data.toList <;> cases h2 : bytesBefore y.k.data.toList x.k.data.toList <;> simp only [h, h2] <;> rfl
theorem swo_P : SWO (ltOf fun x y : Pn => cfB x.k y.k) := by
  refine ⟨fun x => ?_, fun x y z h1 h2 => ?_, fun x y z h1 h2 => ?_⟩
  · rw [lt_cfB]; exact bytes_irrefl _
  · rw [lt_cfB] at *; exact bytes_trans _ _ _ h1 h2
  · rw [lt_cfB] at *
    cases h3 : bytesBefore x.k.data.toList z.k.data.toList with
    | false => rfl
    | true =>
      by_cases e : x.k.data.toList = y.k.data.toList
      · rw [e, h2] at h3; cases h3
      · rcases bytes_total _ _ e with h4 | h4
        · rw [h4] at h1; cases h1
        · rw [bytes_trans _ _ _ h4 h3] at h2; cases h2

theorem flat_celP (ys : List Pn) (t : Nat) (ht : t < ys.length * 2) : (celP ys)[t]? = some (flatK duoP 2 ys.toArray)[t]! := by
  rw [get_flatK _ _ _ _ (by simpa using ht)]
  have hi : t / 2 < ys.length := by omega
  have := celP_at hi (t % 2) (by omega)
  rw [show t / 2 * 2 + t % 2 = t by omega] at this
  rw [this]
  have e1 : (ys.toArray)[t / 2]! = pn ys (t / 2) := by
    rw [getElem!_pos _ _ (by simpa using hi)]
    simp [pn_get hi]
  rw [e1]
  have h2 : t % 2 = 0 ∨ t % 2 = 1 := by omega
  rcases h2 with h2 | h2 <;> rw [h2] <;> rfl

set_option maxHeartbeats 1000000 in
/-- slices.SortFunc over a list of pairs of one's own. -/
theorem pairsSort_any {w : World} {B : Nat} {v : Value} {ys : List Pn} (h : OwP w B v ys) (hl : ys.length ≤ 4000000000000) :
    Calls Try.prog 78 #[v, .func (.func 79) #[] #[]] w fun e w' => e = .returned (.tuple #[]) ∧ ∃ zs, zs.Perm ys ∧ zs.Pairwise (fun x y => bytesBefore y.k.data.toList x.k.data.toList = false) ∧ OwP w' B v zs ∧ w.grownBy w' v.ownBlock := by
  rcases h.2 with ⟨rfl, h0⟩ | ⟨g, o, cap, cur, rfl, hB, hh, hn, hcap, hs, hc⟩
  · obtain rfl := List.length_eq_zero_iff.1 h0
    refine (AnyF.slices_SortFunc_none laysPairs none 0 _ w).mono ?_
    rintro e w' ⟨rfl, rfl⟩
    exact ⟨rfl, [], List.Perm.refl _, List.Pairwise.nil, OwnS.nil _ _ _ _, ⟨rfl, rfl, rfl, Nat.le_refl _, fun _ _ _ => rfl⟩⟩
  · have hlen := celP_len ys
    have hH : HoldsK duoP 2 w g o ys.toArray := by
      intro j hj
      have hj2 : j < ys.length * 2 := by simpa using hj
      refine ⟨?_, frozen_of_row _ _ _ _ _ hh⟩
      rw [cell_of_row _ _ _ _ _ _ hh, hc j (by omega), flat_celP ys j hj2]
      rfl
    have hg : g < w.heap.size := (Array.getElem?_eq_some_iff.1 hh).1
    have hso := AnyQ.slices_SortFunc laysPairs 2 Try.isAgg60 Try.sizeOf60 duoP (fun _ => rfl) (fun x v hv => by simp [duoP] at hv; rcases hv with rfl | rfl <;> rfl) (fun x y => cfB x.k y.k) swo_P 79 #[] g o cap ys.toArray w
      (enters_of Try.func79 (by kernel_rfl) rfl) (cmpLays_any g o _ w) hH hg (by simp; omega)
    simp only [List.size_toArray] at hso
    refine hso.mono ?_
    rintro e w' ⟨rfl, d', n, os, ⟨hsz, _, hpm⟩, hsd, rfl⟩
    have hsz : d'.size = ys.length := by simpa using hsz
    obtain ⟨zs, rfl⟩ : ∃ zs : List Pn, d' = zs.toArray := ⟨d'.toList, by simp⟩
    have hzl : zs.length = ys.length := by simpa using hsz
    have hzc := celP_len zs
    have hgg : g < (putRowK duoP 2 (Sort.ahead w n) g o zs.toArray).heap.size := by simp [putRowK, putRow, mapBlock, Sort.ahead, hg]
    have hat : (sortWorldK duoP 2 w g o n zs.toArray os).heap[g]? = some (.cells (putCells id o (flatK duoP 2 zs.toArray) cur) 60 (0, 0)) := by
      unfold sortWorldK
      rw [Sort.heap_grow_old _ _ hgg]
      simp [putRowK, putRow, mapBlock, Sort.ahead, Array.getElem?_modify, hh, onCells]
    refine ⟨rfl, zs, ?_, ?_, ⟨by rw [hzc], .inr ⟨g, o, cap, _, by rw [hzl], hB, hat, by omega, hcap, by simp [putCells]; omega, fun i hi => ?_⟩⟩, ?_⟩
    · have e1 : (zs.toArray.extract 0 ys.length) = zs.toArray := by rw [← hzl]; simp
      have e2 : (ys.toArray.extract 0 ys.length) = ys.toArray := by simp
      rw [e1, e2] at hpm
      exact hpm
    · rw [List.pairwise_iff_getElem]
      intro i j hi hj hij
      have := hsd i j (Nat.zero_le _) hij (by omega)
      rw [lt_cfB, getElem!_pos _ _ (by simpa using hj), getElem!_pos _ _ (by simpa using hi)] at this
      simpa using this
    · have hi2 : i < zs.length * 2 := by omega
      rw [flat_celP zs i hi2]
      have h1 : o + i < cur.size := by omega
      have h2 : o + i < o + (flatK duoP 2 zs.toArray).size := by simp; omega
      simp only [putCells, Array.getElem?_mapIdx, Array.getElem?_eq_getElem h1, Option.map_some]
      rw [if_pos ⟨Nat.le_add_right _ _, h2⟩, Nat.add_sub_cancel_left]; rfl
    · refine ⟨rfl, rfl, rfl, ?_, fun k hk hne => ?_⟩
      · simp [sortWorldK, grow, putRowK, putRow, mapBlock, Sort.ahead]
      · have hne2 : g ≠ k := fun e => hne (by rw [e]; rfl)
        unfold sortWorldK
        rw [Sort.heap_grow_old _ _ (by simpa [putRowK, putRow, mapBlock, Sort.ahead] using hk)]
        simp [putRowK, putRow, mapBlock, Sort.ahead, Array.getElem?_modify, hne2]

end Go.Proofs.Ythaknohnccmfoaa
