/- Opening a law's argument that is a slice of ints. -/
import Derived.Test.YtncmnhomloanaaaIn1
import Derived.Test.YtncmnhomloanaaaOpenB
namespace Go.Proofs.Ytncmnhomloanaaa
open Go.ChangeShapes Go.WideShapes Go.ChangeAt Go.RowKit

/-- What a walk is told of a slice of ints that came in. -/
structure CameI (w : World) (a : Option Addr) (cap : Nat) (zs : List Int) : Prop where
  row : RowI w a zs
  all : AllI zs
  size : zs.length ≤ 17592186043904
  fits : zs.length ≤ cap
  capm : cap ≤ maxLen
  none : a = none → zs.length = 0 ∧ cap = 0
theorem CameI.below {w w' : World} {a : Option Addr} {cap : Nat} {zs : List Int} (h : CameI w a cap zs) (hb : Below w.heap.size w w') : CameI w' a cap zs := ⟨h.row.below hb, h.all, h.size, h.fits, h.capm, h.none⟩

theorem bytesI : Try.prog.bytesOf 3 = 8 := by kernel_rfl

set_option maxRecDepth 100000 in
theorem open_intl {H : Type} {enc : TypeId × Value → H} {W : World} {base : Nat} {v : Value} {d : DataW H} {p : List MemPlace}
    (hok : Value.okWide Try.prog W .any base 50 v) (h : DataW.Trod enc Try.prog W 0 (fun _ => true) true 50 v d p)
    (hsz : ∀ el sp, d = .slice el sp → (el.length + sp.length) * Try.prog.bytesOf 3 ≤ reachBytes) :
    ∃ (a : Option Addr) (zs : List Int) (cap : Nat), v = .slice a zs.length cap ∧ CameI W a cap zs := by
  obtain ⟨a0, len, cap, rfl⟩ := okWide_slice Try.underlying50 hok
  obtain ⟨fuel, hf⟩ := h
  rcases open_ints Try.underlying50 Try.underlying3 (by kernel_rfl) hf with ⟨hcs, hx⟩ | ⟨x, l, c, zs, hcs, _, hl, hm, hz, hx, hcell, hwz⟩
  · simp [Value.cells] at hcs
    obtain ⟨rfl, rfl, rfl⟩ := hcs
    exact ⟨none, [], 0, rfl, ⟨.inl rfl, fun z hz => (by cases hz), by simp, by simp, by simp [maxLen], fun _ => ⟨rfl, rfl⟩⟩⟩
  · simp [Value.cells] at hcs
    obtain ⟨rfl, rfl, rfl⟩ := hcs
    have hd : d = .slice (lits .i64 (zs.take len)) (lits .i64 (zs.drop len)) := (congrArg Prod.fst hx)
    have hzc : zs.length = cap := by simpa using hz
    have hb := hsz _ _ hd
    rw [bytesI] at hb
    simp [lits] at hb
    have hb2 : zs.length ≤ 17592186043904 := by
      unfold reachBytes at hb
      have e : min len zs.length + (zs.length - len) = zs.length := by omega
      rw [e] at hb; omega
    have hlen : (zs.take len).length = len := by simp; omega
    refine ⟨some x, zs.take len, cap, by rw [hlen], ⟨?_, ?_, by rw [hlen]; omega, by rw [hlen]; exact hl, hm, fun e => by cases e⟩⟩
    · by_cases h0 : len = 0
      · exact .inl (by rw [hlen]; exact h0)
      · obtain ⟨b, off, rfl, hc⟩ := ints_at hcell (by omega)
        refine .inr ⟨b, off, rfl, ?_, fun i hi => ?_⟩
        · have := hc 0 (by omega)
          exact World.block_lt_of_cell? W _ this
        · rw [hlen] at hi
          rw [hc i (by omega)]
          have e : atI (zs.take len) i = zs.getD i 0 := by
            unfold atI
            rw [List.getD_eq_getElem?_getD, List.getElem?_take_of_lt hi, List.getD_eq_getElem?_getD]
          rw [e]
    · intro z hz
      exact bounds_i64 (hwz z (List.mem_of_mem_take hz))

end Go.Proofs.Ytncmnhomloanaaa
