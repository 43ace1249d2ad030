/- Opening a law's argument that is one thing. -/
import Derived.Test.YtfhinodieghklabOpenT
namespace Go.Proofs.Ytfhinodieghklab
open Go.ChangeShapes Go.WideShapes Go.ChangeAt Go.RowKit Go.Joins Go.Deep

theorem open_one {H : Type} {enc : TypeId × Value → H} {W : World} {base : Nat} {v : Value} {d : DataW H} {p : List MemPlace} (hok : Value.okWide Try.prog W .any base 26 v) (h : DataW.Trod enc Try.prog W 0 (fun _ => true) true 26 v d p)
    (hb : Rows.uptoBulk d ≤ 1048576) : ∃ t : Thing, v = thingV t ∧ t.Ok ∧ RowB W t.a t.p := by
  obtain ⟨cs, rfl, hsz⟩ := okWide_struct Try.underlying26 hok
  rw [cellsT] at hsz
  obtain ⟨fuel, hf⟩ := h
  obtain ⟨t, hok, hrow, h0, h1, h2, h3⟩ := open_thing hf hb
  refine ⟨t, ?_, hok, hrow⟩
  have e : (Value.agg cs).cells.toList = cs.toList := rfl
  rw [e] at h0 h1 h2 h3
  simp only [Array.getElem?_toList] at h0 h1 h2 h3
  show Value.agg cs = .agg _
  congr 1
  apply Array.ext'
  match hcs : cs.toList, (show cs.toList.length = 4 by simpa using hsz) with
  | [x0, x1, x2, x3], _ =>
    have q : ∀ i, cs[i]? = [x0, x1, x2, x3][i]? := fun i => by rw [← hcs, Array.getElem?_toList]
    rw [q] at h0 h1 h2 h3
    simp at h0 h1 h2 h3
    rw [h0, h1, h2, h3]
end Go.Proofs.Ytfhinodieghklab
