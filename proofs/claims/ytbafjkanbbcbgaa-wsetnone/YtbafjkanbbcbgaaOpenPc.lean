/- Opening a part of a law's argument that is a slice of bytes. -/
import Derived.Test.YtbafjkanbbcbgaaOpenB
import Derived.Test.YtbafjkanbbcbgaaOpenW
import Derived.Lib.SmallJoins
import Derived.Deep.Slices
namespace Go.Proofs.Ytbafjkanbbcbgaa
open Go.ChangeShapes Go.WideShapes Go.ChangeAt Go.RowKit Go.Joins Go.Deep

/-- A slice of bytes: where, how much room, which bytes. -/
structure Pc where
  a : Option Addr
  c : Nat
  p : List Nat
/-- What is known of one. -/
structure PcOk (w : World) (x : Pc) : Prop where
  row : RowB w x.a x.p
  all : All8 x.p
  size : x.p.length ≤ 140737488351232
  none : x.a = none → x.p.length = 0 ∧ x.c = 0
theorem PcOk.below {w w' : World} {x : Pc} (h : PcOk w x) (hb : Below w.heap.size w w') : PcOk w' x := ⟨h.row.below hb, h.all, h.size, h.none⟩

section
variable {H : Type} {enc : TypeId × Value → H} {W : World}

theorem one_cell {cs : List Value} {j : Nat} {v : Value} (h : (cs.drop j).take 1 = [v]) : cs[j]? = some v := by
  have h0 : ((cs.drop j).take 1)[0]? = some v := by rw [h]; rfl
  rw [List.getElem?_take_of_lt (by omega), List.getElem?_drop] at h0
  simpa using h0
theorem take_one_of {cs : List Value} {j : Nat} (h : j < cs.length) : ∃ v, (cs.drop j).take 1 = [v] := by
  refine ⟨cs[j], ?_⟩
  rw [List.drop_eq_getElem_cons h]
  rfl

set_option maxRecDepth 100000 in
theorem open_p {fuel : Nat} {v : Value} {x : DataW H × List MemPlace} (hf : DataW.trod enc Try.prog W 0 (fun _ => true) true fuel 34 [v] = some x) (hb : Fits Try.prog 34 x.1) :
    ∃ y : Pc, v = .slice y.a y.p.length y.c ∧ PcOk W y := by
  rcases open_ints Try.underlying34 Try.underlying5 (by kernel_rfl) hf with ⟨hcs, _⟩ | ⟨x', len, cap, zs, hcs, _, hl, hm, hz, rfl, hcell, hwz⟩
  · simp at hcs
    subst hcs
    exact ⟨⟨none, 0, []⟩, rfl, .inl rfl, fun z hz => (by cases hz), by simp, fun _ => ⟨rfl, rfl⟩⟩
  · simp at hcs
    subst hcs
    have hzc : zs.length = cap := by simpa using hz
    have hlen : ((zs.take len).map Int.toNat).length = len := by simp; omega
    have hl2 : len ≤ 140737488351232 := by
      have h1 := fits_len hb Try.underlying34
      rw [bytes8] at h1
      simp [lits] at h1
      unfold reachBytes at h1
      omega
    refine ⟨⟨some x', cap, (zs.take len).map Int.toNat⟩, by simp only [hlen], ?_, ?_, by simp only [hlen]; exact hl2, fun e => by cases e⟩
    · by_cases h0 : len = 0
      · exact .inl (by simp only [hlen]; exact h0)
      · obtain ⟨b, off, rfl, hc⟩ := ints_at hcell (by omega)
        refine .inr ⟨b, off, rfl, ?_, fun i hi => ?_⟩
        · have := hc 0 (by omega)
          exact World.block_lt_of_cell? W _ this
        · simp only [hlen] at hi
          rw [hc i (by omega)]
          have hmem : zs.getD i 0 ∈ zs := by rw [List.getD_eq_getElem?_getD, List.getElem?_eq_getElem (by omega)]; exact List.getElem_mem _
          have hbd := bounds_u8' (hwz _ hmem)
          have e : at0 ((zs.take len).map Int.toNat) i = (zs.getD i 0).toNat := by
            unfold at0
            rw [List.getD_eq_getElem?_getD, List.getElem?_map, List.getElem?_take_of_lt hi, List.getD_eq_getElem?_getD, List.getElem?_eq_getElem (by omega)]; rfl
          simp only [e]
          rw [Int.toNat_of_nonneg hbd.1]
    · intro z hz
      obtain ⟨y, hy, rfl⟩ := List.mem_map.1 hz
      have hbd := bounds_u8' (hwz y (List.mem_of_mem_take hy))
      omega

end
end Go.Proofs.Ytbafjkanbbcbgaa
