/- Opening a law's argument that is a list of entries of bulk at most 1048576. -/
import Derived.Test.YtkacfpmninmjkaaGreatOpenEnt
import Derived.Test.YtkacfpmninmjkaaGreatBulk
namespace Go.Proofs.YtkacfpmninmjkaaGreat
open Go.ChangeShapes Go.WideShapes Go.ChangeAt Go.RowKit Go.Joins Go.Deep

section
variable {H : Type} {enc : TypeId × Value → H} {W : World}
set_option maxRecDepth 100000 in
theorem open_EntsU {base : Nat} {v : Value} {d : DataW H} {p : List MemPlace} (hok : Value.okWide Tryz.prog W .any base 38 v) (h : DataW.Trod enc Tryz.prog W 0 (fun _ => true) true 38 v d p)
    (hb : Fits Tryz.prog 38 d) (hk : Rows.uptoBulk d ≤ 1048576) :
    ∃ (a : Option Addr) (n cap : Nat) (T : Nat → Ent), v = .slice a n cap ∧ CameEnt W a n T ∧ n ≤ 1048576 := by
  obtain ⟨a0, len0, cap0, rfl⟩ := okWide_slice Tryz.underlying38 hok
  obtain ⟨fuel, hf⟩ := h
  obtain ⟨a, n, cap, T, h1, h2, h3⟩ := open_Entc (x := (d, p)) hf hb
  refine ⟨a, n, cap, T, h1, h2, ?_⟩
  rcases h3 with h3 | ⟨el, sp, h3, h4⟩
  · omega
  · have e : d = .slice el sp := h3
    have h5 := bulk_len el
    rw [e] at hk
    simp only [Rows.uptoBulk] at hk
    omega
end
end Go.Proofs.YtkacfpmninmjkaaGreat
