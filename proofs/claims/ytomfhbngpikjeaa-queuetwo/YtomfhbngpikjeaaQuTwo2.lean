/- Two queues: how they are made. -/
import Derived.Test.YtomfhbngpikjeaaQuTwo1
namespace Go.Proofs.Ytomfhbngpikjeaa
open Go.RowKit

theorem infoW2 : (Try.prog.info? 24).map (fun i => (i.zero, i.size, i.bytes)) = some (some (.agg #[.int .i64 0, .slice none 0 0]), 2, 32) := by kernel_rfl
theorem infoP2 : (Try.prog.info? 27).map (fun i => (i.zero, i.size, i.bytes)) = some (some (.pointer none), 1, 8) := by kernel_rfl

/-- Rows of two types lie in two blocks. -/
theorem rows_apart {w : World} {b1 b2 s1 s2 k1 k2 : Nat} {t1 t2 : TypeId} {v1 v2 : Value} {x1 x2 : List Value} (h1 : w.ownsRow b1 t1 s1 v1 k1 x1) (h2 : w.ownsRow b2 t2 s2 v2 k2 x2) (hne : t1 ≠ t2) : ∀ j, v1.ownBlock = some j → v2.ownBlock ≠ some j := by
  intro j hj e
  rcases h1.2 with ⟨rfl, _⟩ | ⟨g, cap, cur, rfl, _, hh, _⟩
  · cases hj
  · cases hj
    rcases h2.2 with ⟨rfl, _⟩ | ⟨g2, cap2, cur2, rfl, _, hh2, _⟩
    · cases e
    · cases e
      rw [hh] at hh2
      cases hh2
      exact hne rfl
theorem row_not {w : World} {b1 s1 k1 c : Nat} {t1 t2 : TypeId} {v1 : Value} {x1 : List Value} {C : Array Value} (h1 : w.ownsRow b1 t1 s1 v1 k1 x1) (hc : w.heap[c]? = some (.cells C t2 (0, 0))) (hne : t1 ≠ t2) : v1.ownBlock ≠ some c := by
  intro hj
  rcases h1.2 with ⟨rfl, _⟩ | ⟨g, cap, cur, rfl, _, hh, _⟩
  · cases hj
  · cases hj
    rw [hh] at hc
    cases hc
    exact hne rfl
theorem row_heap {w w' : World} {b s k : Nat} {t : TypeId} {v : Value} {x : List Value} (h : w.ownsRow b t s v k x) (hk : ∀ j, v.ownBlock = some j → w'.heap[j]? = w.heap[j]?) : w'.ownsRow b t s v k x := by
  refine ⟨h.1, ?_⟩
  rcases h.2 with h2 | ⟨g, cap, cur, rfl, h3, hh, h4⟩
  · exact .inl h2
  · exact .inr ⟨g, cap, cur, rfl, h3, (hk g rfl).trans hh, h4⟩
theorem row_in {w : World} {b s k : Nat} {t : TypeId} {v : Value} {x : List Value} (h : w.ownsRow b t s v k x) : ∀ j, v.ownBlock = some j → b ≤ j ∧ j < w.heap.size := by
  rcases h.2 with ⟨rfl, _⟩ | ⟨g, cap, cur, rfl, h3, hh, h4⟩
  · intro j e; cases e
  · intro j e; cases e; exact ⟨h3, (Array.getElem?_eq_some_iff.1 hh).1⟩

/-- The cells of the document's queues, the pointers to the program's. -/
def wantC (N : Nat → Nat) (k : Nat) : List Value := (List.range k).flatMap fun t => [.int .i64 (N t : Int), .slice none 0 0]
def quC (b : Nat → Nat) (k : Nat) : List Value := (List.range k).map fun t => .pointer (some ⟨b t, 0, none⟩)
theorem wantC_succ (N : Nat → Nat) (k : Nat) : wantC N (k + 1) = wantC N k ++ [.int .i64 (N k : Int), .slice none 0 0] := by simp [wantC, List.range_succ]
theorem quC_succ (b : Nat → Nat) (k c : Nat) : quC (upd b k c) (k + 1) = quC b k ++ [.pointer (some ⟨c, 0, none⟩)] := by
  unfold quC
  rw [List.range_succ, List.map_append]
  congr 1
  · apply List.map_congr_left
    intro t ht
    rw [upd_other _ _ (by have := List.mem_range.1 ht; omega)]
  · simp [upd_same]

/-- The first k of them are made. -/
structure Mk (w0 w : World) (k : Nat) (vw vq : Value) (N b : Nat → Nat) : Prop where
  rw_ : w.ownsRow w0.heap.size 24 2 vw k (wantC N k)
  rq_ : w.ownsRow w0.heap.size 27 1 vq k (quC b k)
  qu : ∀ t, t < k → QuS w (b t) (b t) (N t) []
  ap : ∀ t u, t < k → u < k → t ≠ u → b t ≠ b u
  ge : ∀ t, t < k → w0.heap.size ≤ b t
theorem Mk.below {w0 w w' : World} {k : Nat} {vw vq : Value} {N b : Nat → Nat} (h : Mk w0 w k vw vq N b) (hb : Below w.heap.size w w') : Mk w0 w' k vw vq N b :=
  ⟨row_heap h.rw_ fun j hj => hb.block j (row_in h.rw_ j hj).2, row_heap h.rq_ fun j hj => hb.block j (row_in h.rq_ j hj).2, fun t ht => (h.qu t ht).below hb, h.ap, h.ge⟩
theorem QuS.typ {w : World} {b g most : Nat} {xs : List ByteArray} (h : QuS w b g most xs) : ∃ C, w.heap[b]? = some (.cells C 50 (0, 0)) := by
  obtain ⟨R, f, h⟩ := h
  obtain ⟨v, hb, _⟩ := h.blk
  exact ⟨_, hb⟩

theorem Mk.between {w0 w w8 : World} {k : Nat} {vw vq : Value} {N b : Nat → Nat} {o1 : Obj} (h : Mk w0 w k vw vq N b) (g8 : (w.alloc o1).grownBy w8 vw.ownBlock) : w8.ownsRow w0.heap.size 27 1 vq k (quC b k) :=
  row_heap h.rq_ fun j hj => by
    have hin := row_in h.rq_ j hj
    rw [g8.block j (by simp; omega) (fun e => rows_apart h.rq_ h.rw_ (by decide) j hj e.symm), Below.heap_alloc _ _ _ hin.2]
theorem cells_new (w : World) (L : List Value) (t : TypeId) : ∀ j u, L[j]? = some u → (w.alloc (.cells L.toArray t)).cell? ((⟨w.heap.size, 0, none⟩ : Addr).add j) = some u := fun j u hu => by
  rw [Addr.add_lit, cell_of_row _ _ _ _ _ _ (heap_alloc_new w _), Nat.zero_add]
  rw [← hu]
  exact List.getElem?_toArray

/-- One more. -/
theorem Mk.more {w0 w w8 w9 : World} {k c : Nat} {vw vq v8 v9 : Value} {N b : Nat → Nat} {o1 o2 : Obj} (h : Mk w0 w k vw vq N b) (hw : w0.heap.size ≤ w.heap.size) (hq : QuS w c c (N k) []) (hc : ∀ t, t < k → b t ≠ c) (hcg : w0.heap.size ≤ c)
    (h8 : w8.ownsRow w0.heap.size 24 2 v8 (k + 1) (wantC N k ++ [.int .i64 (N k : Int), .slice none 0 0])) (g8 : (w.alloc o1).grownBy w8 vw.ownBlock)
    (h9 : w9.ownsRow w0.heap.size 27 1 v9 (k + 1) (quC b k ++ [.pointer (some ⟨c, 0, none⟩)])) (g9 : (w8.alloc o2).grownBy w9 vq.ownBlock) :
    Mk w0 w9 (k + 1) v8 v9 N (upd b k c) ∧ Below w0.heap.size w w9 ∧ ∀ (j : Nat) (C : Array Value) (t : TypeId), t ≠ 24 → t ≠ 27 → w.heap[j]? = some (.cells C t (0, 0)) → w9.heap[j]? = some (.cells C t (0, 0)) := by
  have s8 := g8.size
  have s9 := g9.size
  rw [World.size_alloc] at s8 s9
  have hq8 : w8.ownsRow w0.heap.size 27 1 vq k (quC b k) := row_heap h.rq_ fun j hj => by
    have hin := row_in h.rq_ j hj
    rw [g8.block j (by simp; omega) (fun e => rows_apart h.rq_ h.rw_ (by decide) j hj e.symm), Below.heap_alloc _ _ _ hin.2]
  have k8 : ∀ j, j < w.heap.size → vw.ownBlock ≠ some j → w8.heap[j]? = w.heap[j]? := fun j h1 h2 => by
    rw [g8.block j (by simp; omega) (fun e => h2 e.symm), Below.heap_alloc _ _ _ h1]
  have k9 : ∀ j, j < w8.heap.size → vq.ownBlock ≠ some j → w9.heap[j]? = w8.heap[j]? := fun j h1 h2 => by
    rw [g9.block j (by simp; omega) (fun e => h2 e.symm), Below.heap_alloc _ _ _ h1]
  have kq : ∀ {d : Nat} {m : Nat}, QuS w d d m [] → QuS w9 d d m [] := fun {d m} hd => by
    obtain ⟨C, hC⟩ := hd.typ
    have hl := hd.lt.1
    have e8 := k8 d hl (row_not h.rw_ hC (by decide))
    have e9 := k9 d (by omega) (row_not hq8 (e8.trans hC) (by decide))
    exact hd.keep (e9.trans e8) (e9.trans e8)
  refine ⟨⟨?_, ?_, fun t ht => ?_, fun t u ht hu hne => ?_, fun t ht => ?_⟩, ?_⟩
  · rw [wantC_succ]
    refine row_heap h8 fun j hj => ?_
    have hin := row_in h8 j hj
    exact k9 j hin.2 (fun e => rows_apart h8 hq8 (by decide) j hj e)
  · rw [quC_succ]
    exact h9
  · by_cases e : t = k
    · subst e; rw [upd_same]; exact kq hq
    · rw [upd_other _ _ e]; exact kq (h.qu t (by omega))
  · by_cases e : t = k
    · subst e
      rw [upd_same, upd_other _ _ (by omega)]
      exact fun e => hc u (by omega) e.symm
    · by_cases e2 : u = k
      · subst e2
        rw [upd_same, upd_other _ _ e]
        exact hc t (by omega)
      · rw [upd_other _ _ e, upd_other _ _ e2]
        exact h.ap t u (by omega) (by omega) hne
  · by_cases e : t = k
    · subst e; rw [upd_same]; exact hcg
    · rw [upd_other _ _ e]; exact h.ge t (by omega)
  · have z8 := ((Below.refl w0.heap.size w).alloc hw o1).grown g8 (by simp; omega) (fun j e => (row_in h.rw_ j e).1)
    exact ⟨(z8.alloc (by omega) o2).grown g9 (by simp; omega) (fun j e => (row_in h.rq_ j e).1), fun j C t h1 h2 hC => by
      have hl := (Array.getElem?_eq_some_iff.1 hC).1
      have e8 := k8 j hl (row_not h.rw_ hC (fun e => h1 e.symm))
      exact (k9 j (by omega) (row_not hq8 (e8.trans hC) (fun e => h2 e.symm))).trans (e8.trans hC)⟩

/-- Both are made. -/
theorem Mk.two {w0 w : World} {vw vq : Value} {N b : Nat → Nat} (h : Mk w0 w 2 vw vq N b) :
    ∃ p cp q cq, vw = .slice (some ⟨p, 0, none⟩) 2 cp ∧ vq = .slice (some ⟨q, 0, none⟩) 2 cq ∧ Two w0 w p q N b b (fun _ => .slice none 0 0) (fun _ => []) := by
  rcases h.rw_.2 with ⟨_, h0⟩ | ⟨p, cp, curp, e1, hp, hhp, hp1, _, hp2, hp3⟩
  · omega
  rcases h.rq_.2 with ⟨_, h0⟩ | ⟨q, cq, curq, e2, hq, hhq, hq1, _, hq2, hq3⟩
  · omega
  have hcp : ∀ i, i < 4 → curp[i]? = (wantC N 2)[i]? := fun i hi => by
    rw [← hp3, List.getElem?_take_of_lt (by omega), Array.getElem?_toList]
  have hcq : ∀ i, i < 2 → curq[i]? = (quC b 2)[i]? := fun i hi => by
    rw [← hq3, List.getElem?_take_of_lt (by omega), Array.getElem?_toList]
  have hw2 : wantC N 2 = [.int .i64 (N 0 : Int), .slice none 0 0, .int .i64 (N 1 : Int), .slice none 0 0] := rfl
  have hq4 : quC b 2 = [.pointer (some ⟨b 0, 0, none⟩), .pointer (some ⟨b 1, 0, none⟩)] := rfl
  rw [hw2] at hcp
  rw [hq4] at hcq
  refine ⟨p, cp, q, cq, e1, e2, ⟨fun t ht => ⟨h.qu t ht, OwS.nil _ _, fun j e => by cases e⟩, fun t u ht hu hne => ?_, ⟨curp, hhp, fun t ht => ?_⟩, ⟨curq, hhq, fun t ht => ?_⟩, fun t ht => ?_, fun t ht => ⟨h.ge t ht, h.ge t ht⟩, hp, hq⟩⟩
  · have := h.ap t u ht hu hne
    exact ⟨this, this, this, this, fun j e => by cases e⟩
  · match t, ht with
    | 0, _ => exact ⟨hcp 0 (by omega), hcp 1 (by omega)⟩
    | 1, _ => exact ⟨hcp 2 (by omega), hcp 3 (by omega)⟩
  · match t, ht with
    | 0, _ => exact hcq 0 (by omega)
    | 1, _ => exact hcq 1 (by omega)
  · obtain ⟨C, hC⟩ := (h.qu t ht).typ
    have n1 := row_not h.rw_ hC (by decide)
    have n2 := row_not h.rq_ hC (by decide)
    rw [e1] at n1
    rw [e2] at n2
    have m1 : p ≠ b t := fun e => n1 (by rw [e]; rfl)
    have m2 : q ≠ b t := fun e => n2 (by rw [e]; rfl)
    exact ⟨m1, m1, m2, m2⟩

end Go.Proofs.Ytomfhbngpikjeaa
