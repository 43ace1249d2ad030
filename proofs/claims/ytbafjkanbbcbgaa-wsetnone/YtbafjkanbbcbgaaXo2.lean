/- The law's walk over a set. -/
import Derived.Test.YtbafjkanbbcbgaaXo1
namespace Go.Proofs.Ytbafjkanbbcbgaa
open Go.RowKit Go.Maps Go.Shelf

attribute [local go_sem] Oper.semAt_some

theorem Ov4.is {W : World} {B : Nat} {p : Option Addr} {fr to : ByteArray} {uv : Value} (h : Ov4 W B p fr to uv) : B + 3 < W.heap.size := h.b3.lt

/-- What Over tells, as a walk. -/
theorem tellsO (m B : Nat) (p : Option Addr) (fr to : ByteArray) {F KU Kg : Nat → Prop} {M : List Vn} {uv : Value} {A : Nat → World → Prop} {us : List Pn} {w : World} (hm : 1 ≤ m) (hO : Ov4 w B p fr to uv) (hS : Ost w F p M) (hU : UndIs w KU (K0v F B Kg) uv A us)
    (hF : ∀ j, F j → j < w.heap.size) (hKU : ∀ j, KU j → j < w.heap.size) (hKg : ∀ j, Kg j → j < w.heap.size) (hFK : ∀ j, KU j → ¬ F j ∧ ¬ (B ≤ j ∧ j < B + 4)) (hus : ∀ x ∈ us, x.k.size ≤ maxLen) :
    TellsT Fence.wide m Try.prog 45 #[.pointer (some ⟨B, 0, none⟩), .pointer (some ⟨B + 1, 0, none⟩), .pointer (some ⟨B + 2, 0, none⟩), .pointer (some ⟨B + 3, 0, none⟩)] (fun x : Pn => #[prV x]) KU (K0v F B Kg)
      (fun T pre x X W => GO KU A (ovA (saysV M) fr.data.toList to.data.toList (saysP us)) us T pre x X W ∧ w.heap.size ≤ X.heap.size) (SO A (ovA (saysV M) fr.data.toList to.data.toList (saysP us)) us) (PO A (ovA (saysV M) fr.data.toList to.data.toList (saysP us))) w := by
  intro l J Jx W hW hnl hlW hY h0
  have hz := hW.size
  have hUR : ∀ j, KU j ∨ K0v F B Kg j → j < w.heap.size := fun j hj => by
    rcases hj with hj | hj | hj | hj
    · exact hKU j hj
    · exact hF j hj
    · have := hO.is; omega
    · exact hKg j hj
  refine (over_any m l B p fr to W hm (hO.below hW) (hS.below hW) (hU.below hUR hW) (fun j hj => by have := hF j hj; omega) (fun j hj => by have := hKU j hj; omega) (fun j hj => by have := hKg j hj; omega) hFK hus (fun T pre X => J T pre X ∧ w.heap.size ≤ X.heap.size) Jx ?_ ⟨h0, hz⟩).mono ?_
  · rintro T T' pre x X W1 ⟨h1, hs⟩ h2 h3 h4 h5 h6
    refine (hY T T' pre x X W1 h1 h2 h3 h4 h5 ⟨h6, hs⟩).mono ?_
    rintro e W' ⟨hk, h⟩
    refine ⟨hk, h.imp (fun h => ⟨h.1, h.2, ?_⟩) id⟩
    have := hk.size
    have := h2.size
    omega
  · rintro e W' ⟨h1, h⟩
    refine ⟨h1, h.imp ?_ id⟩
    rintro ⟨T, xs, X, h2, h3, h4, h5⟩
    exact ⟨T, xs, X, h2, h3, h4.1, h5⟩

end Go.Proofs.Ytbafjkanbbcbgaa
