/- A call, as a step says it: what is answered, and what is left. -/
import Derived.Test.YtdodnegdpdhbiaaFx8
namespace Go.Proofs.Ytdodnegdpdhbiaa
open Go.RowKit

theorem Went.past {w W w1 w' : World} {F : Nat → Prop} {p : Nat} {am : Bool} {n : Nat} {s : Nat → Pt} (hb : Below w.heap.size w W) (hF : ∀ b, F b → b < w.heap.size) (h : Went W F p am n s w1) (hc : Chg (fun b => w.heap.size ≤ b ∧ b < W.heap.size) w1 w') : Went w F p am n s w' := by
  have h1 := hb.size
  have h2 := h.chg.size
  have h3 := hc.size
  refine ⟨(h.dsk.chg hc (fun b hb' hx => ?_)).mono (fun b hb' => ?_) (fun b hb' => ?_), ((Chg.new hb).trans h.chg (fun _ _ x => x)).trans hc (fun b hb' hx => by omega)⟩
  · rcases hb' with hb' | hb'
    · have := hF b hb'; omega
    · omega
  · rcases hb' with hb' | hb'
    · exact .inl hb'
    · exact .inr (by omega)
  · rcases hb' with hb' | hb'
    · have := hF b hb'; omega
    · exact hb'.2

/-- What a call as a step says it answers and leaves. -/
structure Cald (w : World) (F : Nat → Prop) (p : Nat) (am : Bool) (n : Nat) (s : Nat → Pt) (A : Ans) (e : Ending) (w' : World) : Prop where
  ex : ∃ v, e = .returned v ∧ TV w' w.heap.size v A
  went : Went w F p am n s w'

/-- The value of a step. -/
abbrev valC (x : Cal) : Value := .agg #[.int .i64 x.k, .int .i64 x.i, .int .i64 x.a, .int .i64 x.b, .slice x.p.a x.p.p.length x.p.c, .slice x.fa x.fn x.fc]
/-- The world in which the call is made. -/
abbrev callW (w : World) (x : Cal) : World := ((w.alloc (.cells #[.int .i64 x.k, .int .i64 x.i, .int .i64 x.a, .int .i64 x.b, .slice x.p.a x.p.p.length x.p.c, .slice x.fa x.fn x.fc] 61)).alloc (.cells #[.int .i64 0, .int .i64 0, .int .i64 0, .int .i64 0, .slice none 0 0, .slice none 0 0] 63)).alloc (.cells #[.int .i64 0, .int .i64 0, .int .i64 0, .int .i64 0, .slice none 0 0, .slice none 0 0] 63)

def ans0 (E : Int) : Ans := ⟨E, 0, 0, 0, [], 0, fun _ => (0, [])⟩

/-- An answer's box as it is made. -/
def BoxT (w : World) (b : Nat) : Prop := w.heap[b]? = some (.cells #[.int .i64 0, .int .i64 0, .int .i64 0, .int .i64 0, .slice none 0 0, .slice none 0 0] 63 (0, 0))
theorem BoxT.cells {w : World} {b : Nat} (h : BoxT w b) : w.cell? ⟨b, 0, none⟩ = some (.int .i64 0) ∧ w.cell? ⟨b, 1, none⟩ = some (.int .i64 0) ∧ w.cell? ⟨b, 2, none⟩ = some (.int .i64 0) ∧ w.cell? ⟨b, 3, none⟩ = some (.int .i64 0) ∧ w.cell? ⟨b, 4, none⟩ = some (.slice none 0 0) ∧ w.cell? ⟨b, 5, none⟩ = some (.slice none 0 0) ∧ ∀ o, w.frozen? ⟨b, o, none⟩ = false :=
  ⟨cell_of_row _ _ _ _ _ _ h, cell_of_row _ _ _ _ _ _ h, cell_of_row _ _ _ _ _ _ h, cell_of_row _ _ _ _ _ _ h, cell_of_row _ _ _ _ _ _ h, cell_of_row _ _ _ _ _ _ h, fun _ => frozen_of_row _ _ _ _ _ h⟩

end Go.Proofs.Ytdodnegdpdhbiaa
