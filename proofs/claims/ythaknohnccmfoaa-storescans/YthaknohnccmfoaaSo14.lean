/- Versions, walked. -/
import Derived.Test.YthaknohnccmfoaaSo13
namespace Go.Proofs.Ythaknohnccmfoaa
open Go.RowKit Go.Maps Go.Shelf

attribute [local go_sem] Oper.semAt_some

/-- The chains that Versions asks. -/
structure VSrc (w : World) (F : Nat → Prop) (p : Option Addr) (mb : Option Nat) (M : List Ky) : Prop where
  all : ∀ z, Below w.heap.size w z → Calls Try.prog 41 #[.pointer p] z fun e w' => e = .returned (.map mb) ∧ w' = z
  map : ∀ z, Below w.heap.size w z → MapIs z mb M
  rise : M.Pairwise fun e f => bytesBefore e.k f.k = true
  of_ : ∀ e ∈ M, ∀ z, Below w.heap.size w z → Calls Try.prog 42 #[.pointer p, .string ⟨e.k.toArray⟩] z fun e' w' => e' = .returned (.pointer (some ⟨e.c, 0, none⟩)) ∧ w' = z
  each : ∀ e ∈ M, ∀ z, Below w.heap.size w z → KyOk z F e
  low : ∀ e ∈ M, ∀ j, Fc e.c e.v j → j < w.heap.size
  fine : Fine (abs M)

theorem clone_link {w z : World} {F : Nat → Prop} {x : kY.Lk} {l : Ver} (h : LinkIs w F x l) (hz : Below w.heap.size w z) (hl : l.b.length ≤ 140737488355328) :
    Calls Try.prog 44 #[.slice x.v.1 x.v.2.1 x.v.2.2] z fun e w' => (∃ v, e = .returned v ∧ OwnB w' z.heap.size v l.b) ∧ Below z.heap.size z w' := by
  obtain ⟨a, c, ev, hrow, _, _, hnil⟩ := h.b.row
  injection ev with ev1 ev2 ev3
  rw [ev1, ev2, ev3]
  exact bclone_any a c l.b z (hrow.below hz) hl hnil
theorem chg_keeps {T : Nat → Prop} {W W' : World} (B : Nat) (hc : Chg T W W') (hT : ∀ j, T j → ∃ cur t, W.heap[j]? = some (.cells cur t (0, 0))) : KeepsFrom B W W' :=
  ⟨hc.size, fun k o _ hk ho => (hc.block k (Array.getElem?_eq_some_iff.1 hk).1 fun e => by
    obtain ⟨cur, t, h2⟩ := hT k e
    rw [hk] at h2; cases h2; cases ho).trans hk⟩
theorem chg_kpS {S T : Nat → Prop} {W W' : World} (hc : Chg T W W') (hS : ∀ j, S j → ¬ T j) : KpS S W W' := ⟨hc.size, fun j _ hs hj => (hc.block j (Array.getElem?_eq_some_iff.1 hj).1 (hS j hs)).trans hj⟩
theorem ownFrom_kpS {β : Type} {S : Nat → Prop} {B : Nat} {W0 : World} (hS : ∀ j, S j → j < B) : OwnFrom B (fun (_ : β) W => KpS S W0 W) := fun _ X Y row hs hg hr => ⟨Nat.le_trans hs.size hg.size, fun j o hSj hj => by
  have h1 := hs.block j o hSj hj
  exact (hg.block j (Array.getElem?_eq_some_iff.1 h1).1 fun e => by have := (hr j e.symm).1; have := hS j hSj; omega).trans h1⟩
/-- The box of the keys, and the keys. -/
def KB (Bq : Nat) (a : Option Addr) (cap : Nat) (ks : List (List UInt8)) (W : World) : Prop := W.heap[Bq]? = some (.cells #[.slice a ks.length cap] 57 (0, 0)) ∧ RowK W a ks
theorem KB.of {Bq : Nat} {a : Option Addr} {cap : Nat} {ks : List (List UInt8)} {W W' : World} (h : KB Bq a cap ks W) (k : KpS (SB Bq a) W W') : KB Bq a cap ks W' := ⟨k.block Bq _ (.inl rfl) h.1, h.2.keep fun g o e hh => k.block g o (.inr e) hh⟩
theorem ownFrom_KB {β : Type} (B Bq : Nat) (a : Option Addr) (cap : Nat) (ks : List (List UInt8)) : OwnFrom B (fun (_ : β) W => KB Bq a cap ks W) := fun _ X Y row hs hg hr => by
  have ne : ∀ {j cur t}, X.heap[j]? = some (.cells cur t (0, 0)) → some j ≠ row := fun {j cur t} hj e => by
    obtain ⟨_, o, h1, h2⟩ := hr j e.symm
    rw [hj] at h1; cases h1; cases h2
  refine ⟨(hg.block Bq (Array.getElem?_eq_some_iff.1 hs.1).1 (ne hs.1)).trans hs.1, ?_⟩
  rcases hs.2 with h0 | ⟨g, cur, e, hh, hc⟩
  · exact .inl h0
  · exact .inr ⟨g, cur, e, (hg.block g (Array.getElem?_eq_some_iff.1 hh).1 (ne hh)).trans hh, hc⟩
theorem LayV.from {w : World} {B1 B3 B : Nat} {p : Option Addr} {β : Type} (f : β → List (List UInt8 × Ver)) (hB : w.heap.size ≤ B) : OwnFrom B (fun (s : β) W => ∃ ys v, LayV w W B1 B3 p ys v ∧ saysV ys = f s) := fun _ _ _ _ ⟨ys, v, h, hs⟩ hg hr => ⟨ys, v, h.grown hg fun j e => ⟨Nat.le_trans hB (hr j e).1, (hr j e).2⟩, hs⟩

theorem versA_drop {M : List Ky} {j : Nat} (h : j < M.length) : versA ((abs M).drop j) = (M[j].ls.map fun l => (M[j].k, l)) ++ versA ((abs M).drop (j + 1)) := by
  have hl : j < (abs M).length := by simpa [abs] using h
  rw [List.drop_eq_getElem_cons hl]
  unfold versA
  rw [List.flatMap_cons]
  simp [abs]
theorem versA_drop_le (A : Cont) (j : Nat) : (versA (A.drop j)).length ≤ tot A := by
  rw [← versA_len]
  unfold versA
  conv => rhs; rw [← List.take_append_drop j A, List.flatMap_append, List.length_append]
  exact Nat.le_add_left _ _

theorem tellsY (n Bq p : Nat) (F : Nat → Prop) (a : Option Addr) (cap : Nat) (xs : List kY.Lk) (w : World) (hbox : Boxed w Bq 88 (.pointer (some ⟨p, 0, none⟩))) (h : kY.Hn w F p (.slice a xs.length cap) xs) (hn : 1 ≤ n) (hl : xs.length ≤ 4000000000000) :
    Tells Fence.wide n Try.prog 63 #[.pointer (some ⟨Bq, 0, none⟩)] (fun x : kY.Lk => #[kY.lkV x]) (kY.GL xs) (kY.KpL a xs) (fun ys => ys = xs.reverse) (fun pre => ∃ k, k ≤ xs.length ∧ pre = xs.reverse.take k) w := fun l J Jx W hW hY h0 =>
  kY.walkC_any n l Bq p F a cap xs W ((hW.cell (p := ⟨Bq, 0, none⟩) hbox.lt).trans hbox.cell) (h.below hW) hn hl J Jx hY h0

end Go.Proofs.Ythaknohnccmfoaa
