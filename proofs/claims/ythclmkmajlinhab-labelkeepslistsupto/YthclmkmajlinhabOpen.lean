/- Opening the arguments of a law: a label, and a slice of labels that came in. -/
import Derived.Test.YthclmkmajlinhabLists
import Derived.Test.YthclmkmajlinhabRows
import Derived.ProofKit
import Derived.OpenShut
import Derived.SizedLaws
import Derived.ShutString
import Derived.ChangeOld
import Derived.Below
namespace Go.Proofs.Ythclmkmajlinhab
open Go.ChangeShapes Go.WideShapes Go.ChangeAt Go.RowKit

theorem own : ownKnob Try.prog.godebug = none := by kernel_rfl
theorem laidOut : laidOutB Try.prog = true := by kernel_rfl

theorem nat_of_u64 {a : Int} (h : (Lit.int .u64 a).wf = true) : ∃ n : Nat, a = (n : Int) ∧ W64 n := by
  have hb := bounds_u64 h
  refine ⟨a.toNat, by omega, ?_⟩
  unfold W64; omega

/-- What a walk is told of a slice of labels that came in. -/
structure Came1 (w : World) (a : Option Addr) (cap : Nat) (zs : List Nat) : Prop where
  row : Row w a zs
  all : All64 zs
  size : 8 * zs.length ≤ 140737488351232
  fits : zs.length ≤ cap
  capm : cap ≤ maxLen
  none : a = none → zs.length = 0 ∧ cap = 0

theorem bytesL : Try.prog.bytesOf 36 = 8 := by kernel_rfl

set_option maxRecDepth 100000 in
theorem open_labels {H : Type} {enc : TypeId × Value → H} {W : World} {base : Nat} {v : Value} {d : DataW H} {p : List MemPlace}
    (hok : Value.okWide Try.prog W .any base 22 v) (h : DataW.Trod enc Try.prog W 0 (fun _ => true) true 22 v d p)
    (hsz : ∀ el sp, d = .slice el sp → (el.length + sp.length) * Try.prog.bytesOf 36 ≤ reachBytes) :
    ∃ (a : Option Addr) (zs : List Nat) (cap : Nat), v = .slice a zs.length cap ∧ Came1 W a cap zs := by
  obtain ⟨a0, len, cap, rfl⟩ := okWide_slice Try.underlying22 hok
  have hlt : ∀ x ∈ p, x.block < W.heap.size := by obtain ⟨m, hm⟩ := h; exact DataW.trod_lt m _ _ _ hm
  obtain ⟨fuel, hf⟩ := h
  rcases open_ints Try.underlying22 Try.underlying36 (by kernel_rfl) hf with ⟨hcs, hx⟩ | ⟨x, l, c, zs, hcs, _, hl, hm, hz, hx, hcell, hwz⟩
  · simp [Value.cells] at hcs
    obtain ⟨rfl, rfl, rfl⟩ := hcs
    exact ⟨none, [], 0, rfl, ⟨.inl rfl, fun z hz => (by cases hz), by simp, by simp, by simp [maxLen], fun _ => ⟨rfl, rfl⟩⟩⟩
  · simp [Value.cells] at hcs
    obtain ⟨rfl, rfl, rfl⟩ := hcs
    have hd : d = .slice (lits .u64 (zs.take len)) (lits .u64 (zs.drop len)) := (congrArg Prod.fst hx)
    have hp : p = MemPlace.row x zs.length := (congrArg Prod.snd hx)
    have hzc : zs.length = cap := by simpa using hz
    have hb := hsz _ _ hd
    rw [bytesL] at hb
    simp [lits] at hb
    have hb2 : zs.length * 8 ≤ 140737488351232 := by
      unfold reachBytes at hb
      have e : min len zs.length + (zs.length - len) = zs.length := by omega
      rw [e] at hb; omega
    have hlen : ((zs.take len).map Int.toNat).length = len := by simp; omega
    refine ⟨some x, (zs.take len).map Int.toNat, cap, by rw [hlen], ⟨?_, ?_, by rw [hlen]; omega, by rw [hlen]; exact hl, hm, fun e => by cases e⟩⟩
    · by_cases h0 : len = 0
      · exact .inl (by rw [hlen]; exact h0)
      · obtain ⟨b, off, rfl, hc⟩ := ints_at hcell (by omega)
        refine .inr ⟨b, off, rfl, ?_, fun i hi => ?_⟩
        · have := hc 0 (by omega)
          exact World.block_lt_of_cell? W _ this
        · rw [hlen] at hi
          rw [hc i (by omega)]
          have hmem : zs.getD i 0 ∈ zs := by rw [List.getD_eq_getElem?_getD, List.getElem?_eq_getElem (by omega)]; exact List.getElem_mem _
          have hbd := bounds_u64 (hwz _ hmem)
          have e : at0 ((zs.take len).map Int.toNat) i = (zs.getD i 0).toNat := by
            unfold at0
            rw [List.getD_eq_getElem?_getD, List.getElem?_map, List.getElem?_take_of_lt hi, List.getD_eq_getElem?_getD, List.getElem?_eq_getElem (by omega)]; rfl
          rw [e, Int.toNat_of_nonneg hbd.1]
    · intro z hz
      obtain ⟨y, hy, rfl⟩ := List.mem_map.1 hz
      have hbd := bounds_u64 (hwz y (List.mem_of_mem_take hy))
      unfold W64; omega

end Go.Proofs.Ythclmkmajlinhab
