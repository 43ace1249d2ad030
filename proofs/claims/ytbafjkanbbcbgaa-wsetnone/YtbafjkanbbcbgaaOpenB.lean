/- Opening a law's argument that is a slice of bytes. -/
import Derived.Test.YtbafjkanbbcbgaaBt1
import Derived.ProofKit
import Derived.OpenShut
import Derived.SizedLaws
import Derived.ShutString
import Derived.ChangeOld
namespace Go.Proofs.Ytbafjkanbbcbgaa
open Go.ChangeShapes Go.WideShapes Go.ChangeAt Go.RowKit

theorem own : ownKnob Try.prog.godebug = none := by kernel_rfl
theorem laidOut : laidOutB Try.prog = true := by kernel_rfl

theorem nat_of_u32 {a : Int} (h : (Lit.int .u32 a).wf = true) : ∃ n : Nat, a = (n : Int) ∧ n < 4294967296 := by
  simp [Lit.wf, IntKind.min, IntKind.max, IntKind.bits, IntKind.signed] at h
  exact ⟨a.toNat, by omega, by omega⟩
theorem nat_of_u64 {a : Int} (h : (Lit.int .u64 a).wf = true) : ∃ n : Nat, a = (n : Int) ∧ W64 n := by
  have hb := bounds_u64 h
  refine ⟨a.toNat, by omega, ?_⟩
  unfold W64; omega

/-- What a walk is told of a slice of bytes that came in. -/
structure Came8 (w : World) (a : Option Addr) (cap : Nat) (zs : List Nat) : Prop where
  row : RowB w a zs
  all : All8 zs
  size : zs.length ≤ 140737488351232
  fits : zs.length ≤ cap
  capm : cap ≤ maxLen
  none : a = none → zs.length = 0 ∧ cap = 0

theorem bytes8 : Try.prog.bytesOf 5 = 1 := by kernel_rfl
theorem bounds_u8' {a : Int} (h : (Lit.int .u8 a).wf = true) : 0 ≤ a ∧ a < 256 := by
  simp [Lit.wf, IntKind.min, IntKind.max, IntKind.bits, IntKind.signed] at h
  omega

set_option maxRecDepth 100000 in
theorem open_bytes {H : Type} {enc : TypeId × Value → H} {W : World} {base : Nat} {v : Value} {d : DataW H} {p : List MemPlace}
    (hok : Value.okWide Try.prog W .any base 34 v) (h : DataW.Trod enc Try.prog W 0 (fun _ => true) true 34 v d p)
    (hsz : ∀ el sp, d = .slice el sp → (el.length + sp.length) * Try.prog.bytesOf 5 ≤ reachBytes) :
    ∃ (a : Option Addr) (zs : List Nat) (cap : Nat), v = .slice a zs.length cap ∧ Came8 W a cap zs := by
  obtain ⟨a0, len, cap, rfl⟩ := okWide_slice Try.underlying34 hok
  obtain ⟨fuel, hf⟩ := h
  rcases open_ints Try.underlying34 Try.underlying5 (by kernel_rfl) hf with ⟨hcs, hx⟩ | ⟨x, l, c, zs, hcs, _, hl, hm, hz, hx, hcell, hwz⟩
  · simp [Value.cells] at hcs
    obtain ⟨rfl, rfl, rfl⟩ := hcs
    exact ⟨none, [], 0, rfl, ⟨.inl rfl, fun z hz => (by cases hz), by simp, by simp, by simp [maxLen], fun _ => ⟨rfl, rfl⟩⟩⟩
  · simp [Value.cells] at hcs
    obtain ⟨rfl, rfl, rfl⟩ := hcs
    have hd : d = .slice (lits .u8 (zs.take len)) (lits .u8 (zs.drop len)) := (congrArg Prod.fst hx)
    have hzc : zs.length = cap := by simpa using hz
    have hb := hsz _ _ hd
    rw [bytes8] at hb
    simp [lits] at hb
    have hb2 : zs.length ≤ 140737488351232 := by
      unfold reachBytes at hb
      have e : min len zs.length + (zs.length - len) = zs.length := by omega
      rw [e] at hb; omega
    have hlen : ((zs.take len).map Int.toNat).length = len := by simp; omega
    refine ⟨some x, (zs.take len).map Int.toNat, cap, by rw [hlen], ⟨?_, ?_, by rw [hlen]; omega, by rw [hlen]; exact hl, hm, fun e => by cases e⟩⟩
    · by_cases h0 : len = 0
      · exact .inl (by rw [hlen]; exact h0)
      · obtain ⟨b, off, rfl, hc⟩ := ints_at hcell (by omega)
        refine .inr ⟨b, off, rfl, ?_, fun i hi => ?_⟩
        · have := hc 0 (by omega)
          exact World.block_lt_of_cell? W _ this
        · rw [hlen] at hi
          rw [hc i (by omega)]
          have hmem : zs.getD i 0 ∈ zs := by rw [List.getD_eq_getElem?_getD, List.getElem?_eq_getElem (by omega)]; exact List.getElem_mem _
          have hbd := bounds_u8' (hwz _ hmem)
          have e : at0 ((zs.take len).map Int.toNat) i = (zs.getD i 0).toNat := by
            unfold at0
            rw [List.getD_eq_getElem?_getD, List.getElem?_map, List.getElem?_take_of_lt hi, List.getD_eq_getElem?_getD, List.getElem?_eq_getElem (by omega)]; rfl
          rw [e, Int.toNat_of_nonneg hbd.1]
    · intro z hz
      obtain ⟨y, hy, rfl⟩ := List.mem_map.1 hz
      have hbd := bounds_u8' (hwz y (List.mem_of_mem_take hy))
      omega

set_option maxRecDepth 100000 in
/-- As 'open_bytes', and what bounds the number of the reading's elements bounds the list. -/
theorem open_bytes2 {H : Type} {enc : TypeId × Value → H} {W : World} {base : Nat} {v : Value} {d : DataW H} {p : List MemPlace}
    (hok : Value.okWide Try.prog W .any base 34 v) (h : DataW.Trod enc Try.prog W 0 (fun _ => true) true 34 v d p)
    (hsz : ∀ el sp, d = .slice el sp → (el.length + sp.length) * Try.prog.bytesOf 5 ≤ reachBytes) :
    ∃ (a : Option Addr) (zs : List Nat) (cap : Nat), v = .slice a zs.length cap ∧ Came8 W a cap zs ∧ ∀ N : Nat, (∀ el sp, d = .slice el sp → el.length ≤ N) → zs.length ≤ N := by
  obtain ⟨a, zs, cap, rfl, hc⟩ := open_bytes hok h hsz
  refine ⟨a, zs, cap, rfl, hc, fun N hN => ?_⟩
  obtain ⟨fuel, hf⟩ := h
  rcases open_ints Try.underlying34 Try.underlying5 (by kernel_rfl) hf with ⟨hcs, hx⟩ | ⟨x, l, c, ws, hcs, _, hl, hm, hz, hx, hcell, hwz⟩
  · simp [Value.cells] at hcs
    rw [hcs.2.1]; simp
  · simp [Value.cells] at hcs
    obtain ⟨_, h2, h3⟩ := hcs
    have hzc : ws.length = c := by simpa using hz
    have hd : d = .slice (lits .u8 (ws.take l)) (lits .u8 (ws.drop l)) := (congrArg Prod.fst hx)
    have := hN _ _ hd
    simp [lits] at this
    omega

end Go.Proofs.Ytbafjkanbbcbgaa
