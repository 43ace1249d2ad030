/- Opening a list of labels, with the bound of a second form. -/
import Derived.Test.YthclmkmajlinhabOpen
namespace Go.Proofs.Ythclmkmajlinhab
open Go.ChangeShapes Go.WideShapes Go.ChangeAt Go.RowKit

set_option maxRecDepth 100000 in
theorem open_labels2 {H : Type} {enc : TypeId × Value → H} {W : World} {base : Nat} {v : Value} {d : DataW H} {p : List MemPlace}
    (hok : Value.okWide Try.prog W .any base 22 v) (h : DataW.Trod enc Try.prog W 0 (fun _ => true) true 22 v d p)
    (hsz : ∀ el sp, d = .slice el sp → (el.length + sp.length) * Try.prog.bytesOf 36 ≤ reachBytes) :
    ∃ (a : Option Addr) (zs : List Nat) (cap : Nat), v = .slice a zs.length cap ∧ Came1 W a cap zs ∧ ∀ N : Nat, (∀ el sp, d = .slice el sp → el.length ≤ N) → zs.length ≤ N := by
  obtain ⟨a, zs, cap, rfl, hc⟩ := open_labels hok h hsz
  refine ⟨a, zs, cap, rfl, hc, fun N hN => ?_⟩
  obtain ⟨fuel, hf⟩ := h
  rcases open_ints Try.underlying22 Try.underlying36 (by kernel_rfl) hf with ⟨hcs, hx⟩ | ⟨x, l, c, ws, hcs, _, hl, hm, hz, hx, hcell, hwz⟩
  · simp [Value.cells] at hcs
    rw [hcs.2.1]; simp
  · simp [Value.cells] at hcs
    obtain ⟨_, h2, h3⟩ := hcs
    have hzc : ws.length = c := by simpa using hz
    have hd : d = .slice (lits .u64 (ws.take l)) (lits .u64 (ws.drop l)) := (congrArg Prod.fst hx)
    have := hN _ _ hd
    simp [lits] at this
    omega

end Go.Proofs.Ythclmkmajlinhab
