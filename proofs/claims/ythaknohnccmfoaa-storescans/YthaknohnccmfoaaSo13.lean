/- Versions: the list that is laid up. -/
import Derived.Test.YthaknohnccmfoaaSo12
import Derived.Test.YthaknohnccmfoaaRh1
namespace Go.Proofs.Ythaknohnccmfoaa
open Go.RowKit Go.Maps Go.Shelf

theorem infoV : (Try.prog.info? 30).map (fun i => (i.zero, i.size, i.bytes)) = some (some (.agg #[.string ⟨#[]⟩, .int .i64 0, .slice none 0 0, .bool false]), 4, 56) := by kernel_rfl
theorem srcV_one (w : World) (y : Vn) (t : TypeId) : Src Try.prog 4 23 (.slice (some ⟨w.heap.size, 0, none⟩) 1 1) 1 (quadV y) (w.alloc (.cells #[.string y.k, .int .i64 y.n, .slice y.a y.z.length y.c, .bool y.d] t)) := by
  refine Src.ofSlice _ Try.underlying23 ⟨w.heap.size, 0, none⟩ 1 1 _ rfl (fun j u hu => ?_) (fun u hu => by simp [quadV] at hu; rcases hu with rfl | rfl | rfl | rfl <;> rfl)
  rw [Addr.add_lit, cell_of_row _ _ _ _ _ _ (heap_alloc_new w _), Nat.zero_add]
  have : (#[.string y.k, .int .i64 y.n, .slice y.a y.z.length y.c, .bool y.d] : Array Value)[j]? = (quadV y)[j]? := by simp [quadV]
  rw [this]; exact hu

/-- All versions, by key and stamp; what a list of versions in memory says. -/
def versA (A : Cont) : List (List UInt8 × Ver) := A.flatMap fun e => e.2.map fun l => (e.1, l)
def saysV (ys : List Vn) : List (List UInt8 × Ver) := ys.map fun y => (y.k.data.toList, verOf y)
theorem versA_len (A : Cont) : (versA A).length = tot A := by
  unfold versA tot
  rw [List.length_flatMap]
  congr 1
  refine List.map_congr_left fun e _ => ?_
  simp
/-- Where a walk for Versions stands: the box of the pointer, the box of the list, the list. -/
structure LayV (w W : World) (B1 B3 : Nat) (p : Option Addr) (ys : List Vn) (v : Value) : Prop where
  src : Boxed W B1 25 (.pointer p)
  box : Boxed W B3 23 v
  own : OwV W w.heap.size v ys
  val : ValV W w.heap.size ys
  bel : Below w.heap.size w W
  low : w.heap.size ≤ B3
theorem ValV.hold {w w' : World} {B : Nat} {ys : List Vn} (h : ValV w B ys) (hk : ∀ (j : Nat) (cur : Array Value), w.heap[j]? = some (Obj.cells cur 5 (0, 0)) → w'.heap[j]? = w.heap[j]?) : ValV w' B ys := fun y hy => (h y hy).hold fun j hj => by
  obtain ⟨cur, h2⟩ := (h y hy).typed hj
  exact hk j cur h2
theorem LayV.grown {w W W' : World} {B1 B3 : Nat} {p : Option Addr} {ys : List Vn} {v : Value} {r : Option Nat} (h : LayV w W B1 B3 p ys v) (hg : W.grownBy W' r) (hr : ∀ j, r = some j → w.heap.size ≤ j ∧ ∃ o : Obj, W.heap[j]? = some o ∧ o.isCells = false) : LayV w W' B1 B3 p ys v := by
  have ne : ∀ {j cur t}, W.heap[j]? = some (.cells cur t (0, 0)) → some j ≠ r := fun {j cur t} hj e => by
    obtain ⟨_, o, h1, h2⟩ := hr j e.symm
    rw [hj] at h1; cases h1; cases h2
  refine ⟨h.src.kept hg (ne h.src), h.box.kept hg (ne h.box), OwnS.keep h.own fun j hj => ?_, ValV.hold h.val fun j cur hj => hg.block j (Array.getElem?_eq_some_iff.1 hj).1 (ne hj), h.bel.grown hg h.bel.size (fun j e => (hr j e).1), h.low⟩
  obtain ⟨cur, hc⟩ := OwnS.type h.own hj
  exact hg.block j (OwnS.inside h.own j hj).2 (ne hc)
theorem LayV.below {w W W' : World} {B1 B3 : Nat} {p : Option Addr} {ys : List Vn} {v : Value} (h : LayV w W B1 B3 p ys v) (hb : Below W.heap.size W W') : LayV w W' B1 B3 p ys v :=
  h.grown (grown_none hb) fun j e => by cases e

/-- One version laid behind the others. -/
theorem app_lay {w W z : World} {B1 B3 : Nat} {p : Option Addr} {ys : List Vn} {v : Value} (h : LayV w W B1 B3 p ys v) (hz : Below W.heap.size W z) (y : Vn) (hv : OwnB z W.heap.size (.slice y.a y.z.length y.c) y.z) (hl : ys.length ≤ 4000000000000) :
    ∃ v5 w5, (Builtin.append_ #[23, 23] 23 #[v, .slice (some ⟨z.heap.size, 0, none⟩) 1 1]).run Try.prog (z.alloc (.cells #[.string y.k, .int .i64 y.n, .slice y.a y.z.length y.c, .bool y.d] 30)) = .ok v5 w5 ∧
      LayV w (w5.setCell ⟨B3, 0, none⟩ v5) B1 B3 p (ys ++ [y]) v5 ∧ Chg (fun j => j = B3 ∨ v.ownBlock = some j) W (w5.setCell ⟨B3, 0, none⟩ v5) ∧ Boxed w5 B3 23 v ∧ (∀ j, j < W.heap.size → v.ownBlock ≠ some j → w5.heap[j]? = W.heap[j]?) ∧ W.heap.size ≤ w5.heap.size := by
  obtain ⟨z2, hz2⟩ : ∃ z2, z2 = z.alloc (.cells #[.string y.k, .int .i64 y.n, .slice y.a y.z.length y.c, .bool y.d] 30) := ⟨_, rfl⟩
  have hb2 : Below z.heap.size z z2 := by rw [hz2]; exact (Below.refl _ _).alloc (Nat.le_refl _) _
  have hb : Below W.heap.size W z2 := hz.trans (hb2.mono hz.size)
  have hL := h.below hb
  have ho := hL.own
  have hsrc : Src Try.prog 4 23 (.slice (some ⟨z.heap.size, 0, none⟩) 1 1) 1 (quadV y) z2 := by rw [hz2]; exact srcV_one z y _
  obtain ⟨v5, w5, hrun, ho5, hg5, hat5⟩ := run_append_S (P := Try.prog) 23 23 23 _ Try.underlying23 infoV rfl ho _ 1 _ hsrc (by unfold maxLen; omega) (by omega) (hL.bel.size)
  rw [hz2] at hrun
  have hsz := hg5.size
  have hne : ∀ {j t u}, Boxed z2 j t u → t ≠ 30 → v.ownBlock ≠ some j := fun {j t u} hB ht e => by
    obtain ⟨cur, h2⟩ := OwnS.type ho e
    rw [show z2.heap[j]? = _ from hB] at h2; cases h2; exact ht rfl
  have b3 := hL.box.kept hg5 (Ne.symm (hne hL.box (by decide)))
  have b1 := hL.src.kept hg5 (Ne.symm (hne hL.src (by decide)))
  have h13 : B1 ≠ B3 := fun e => by
    have h1 := hL.src
    rw [e] at h1
    have h3 : z2.heap[B3]? = _ := hL.box
    rw [show z2.heap[B3]? = _ from h1] at h3
    injection h3 with h3
    injection h3 with _ h4
    cases h4
  have ho6 : OwV w5 w.heap.size v5 (ys ++ [y]) := by
    unfold OwV; rw [List.length_append, celV_append, celV_one]; exact ho5
  have hn5 : v5.ownBlock ≠ some B3 := fun e => by
    obtain ⟨cur, h2⟩ := OwnS.type ho6 e
    rw [show w5.heap[B3]? = _ from b3] at h2; cases h2
  have hval5 : ValV w5 w.heap.size (ys ++ [y]) := by
    have hv2 : ValV z2 w.heap.size (ys ++ [y]) := fun x hx => by
      rcases List.mem_append.1 hx with hx | hx
      · exact hL.val x hx
      · obtain rfl : x = y := by simpa using hx
        exact (hv.below hb2).mono h.bel.size
    exact ValV.hold hv2 fun j cur hj => hg5.block j (Array.getElem?_eq_some_iff.1 hj).1 fun e => by
      obtain ⟨cur', h2⟩ := OwnS.type ho e.symm
      rw [hj] at h2; cases h2
  have keep5 : ∀ j, j < W.heap.size → v.ownBlock ≠ some j → w5.heap[j]? = W.heap[j]? := fun j hj hne => (hg5.block j (Nat.lt_of_lt_of_le hj hb.size) (Ne.symm hne)).trans (hb.block j hj)
  have hb3 := h.low
  refine ⟨v5, w5, hrun, ⟨b1.other h13 _, b3.set _, OwnS.keep ho6 fun j hj => Below.heap_setCell _ _ _ _ (fun e => hn5 (by rw [hj]; exact congrArg some e)), ValV.hold hval5 fun j cur hj => Below.heap_setCell _ _ _ _ (fun e => by
      rw [e, show w5.heap[B3]? = _ from b3] at hj; cases hj), ?_, hb3⟩, ?_, b3, keep5, Nat.le_trans hb.size hsz⟩
  · exact (hL.bel.grown hg5 hL.bel.size fun k e => (OwnS.inside hL.own k e).1).setCell (p := ⟨B3, 0, none⟩) hb3 _
  · exact ((Chg.new hb).trans (Chg.of_grown (S := fun j => v.ownBlock = some j) hg5 fun k _ e => e) fun j _ e => .inr e).setCell _ _ fun _ => .inl rfl

end Go.Proofs.Ythaknohnccmfoaa
