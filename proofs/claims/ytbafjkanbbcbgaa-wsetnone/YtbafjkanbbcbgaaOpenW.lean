/- What the bound on each part's size gives for parts of parts. -/
import Derived.SizedLaws
namespace Go.Proofs.Ytbafjkanbbcbgaa
open Go

section
variable {H : Type} {P : Program}

/-- No part of a reading is too large. -/
def Fits (P : Program) (t : TypeId) (d : DataW H) : Prop := ∀ n ∈ d.weights P t, n ≤ reachBytes

theorem fits_param {ts : List TypeId} {ds : List (DataW H)} (h : (DataW.weightsEach P ts ds).all (· ≤ reachBytes) = true) {j : Nat} {t : TypeId} {d : DataW H} (ht : ts[j]? = some t) (hd : ds[j]? = some d) : Fits P t d := fun n hn => by
  have := List.all_eq_true.1 h _ (DataW.weights_mem_each ht hd n hn)
  simpa using this
theorem fits_len {t e : TypeId} {el sp : List (DataW H)} (h : Fits P t (.slice el sp)) (hu : P.underlying t = some (.slice e)) : (el.length + sp.length) * P.bytesOf e ≤ reachBytes :=
  h _ (by simp [DataW.weights, hu])
theorem weightsAll_mem {e : TypeId} {d : DataW H} : ∀ {l : List (DataW H)}, d ∈ l → ∀ n ∈ d.weights P e, n ∈ DataW.weightsAll P e l
  | x :: r, hd, n, hn => by
    simp only [DataW.weightsAll, List.mem_append]
    rcases List.mem_cons.1 hd with rfl | h
    · exact .inl hn
    · exact .inr (weightsAll_mem h n hn)
theorem fits_elem {t e : TypeId} {el sp : List (DataW H)} (h : Fits P t (.slice el sp)) (hu : P.underlying t = some (.slice e)) {d : DataW H} (hd : d ∈ el) : Fits P e d := fun n hn =>
  h _ (by simp only [DataW.weights, hu, List.mem_cons, List.mem_append]; exact .inr (.inl (weightsAll_mem hd n hn)))
theorem fits_field {t tj : TypeId} {fs : Array Field} {parts : List (DataW H)} (h : Fits P t (.agg parts)) (hu : P.underlying t = some (.struct fs)) {j : Nat} {d : DataW H} (hf : (fs.toList.map (·.type))[j]? = some tj) (hd : parts[j]? = some d) : Fits P tj d := fun n hn =>
  h _ (by simp only [DataW.weights, hu]; exact DataW.weights_mem_each hf hd n hn)
end
end Go.Proofs.Ytbafjkanbbcbgaa
