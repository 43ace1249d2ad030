/- The program's log, walked: Entries. -/
import Derived.Test.YtkacfpmninmjkaaGreatWl2
import Derived.Test.YtkacfpmninmjkaaGreatFi1
import Derived.Test.YtkacfpmninmjkaaGreatEe10
import Derived.Maps.OwnIn
namespace Go.Proofs.YtkacfpmninmjkaaGreat
open Go.RowKit Go.Shelf

attribute [local go_sem] Oper.semAt_some

theorem infoN : (Tryz.prog.info? 77).map (fun i => (i.zero, i.size, i.bytes)) = some (some (.agg #[.int .i64 0, .int .i64 0, .int .i64 0, .string ⟨#[]⟩, .slice none 0 0, .bool false]), 6, 72) := by kernel_rfl
theorem infoZ : (Tryz.prog.info? 3).map (fun i => (i.zero, i.size, i.bytes)) = some (some (.int .i64 0), 1, 8) := by kernel_rfl

/-- The six cells of an entry; those of a list of them. -/
def sixL (x : Ent) : List Value := [.int .i64 x.kind, .int .i64 x.stamp, .int .i64 x.count, .string x.key, .slice x.val.a x.val.p.length x.val.c, .bool x.dead]
def celN (xs : List Ent) : List Value := xs.flatMap sixL
theorem celN_snoc (xs : List Ent) (x : Ent) : celN (xs ++ [x]) = celN xs ++ sixL x := by simp [celN]
theorem celN_len (xs : List Ent) : (celN xs).length = xs.length * 6 := by
  induction xs with
  | nil => rfl
  | cons x r ih =>
    have e : celN (x :: r) = sixL x ++ celN r := rfl
    rw [e, List.length_append, ih, List.length_cons]; simp [sixL]; omega
theorem celN_at : ∀ (xs : List Ent) (i : Nat) (x : Ent) (j : Nat), xs[i]? = some x → j < 6 → (celN xs)[i * 6 + j]? = (sixL x)[j]? := by
  intro xs
  induction xs with
  | nil => intro i x j h; simp at h
  | cons y r ih =>
    intro i x j h hj
    have e : celN (y :: r) = sixL y ++ celN r := rfl
    have h6 : (sixL y).length = 6 := rfl
    cases i with
    | zero =>
      have : y = x := by simpa using h
      subst this
      rw [e, Nat.zero_mul, Nat.zero_add, List.getElem?_append_left (by omega)]
    | succ i =>
      rw [e, List.getElem?_append_right (by omega), show (i + 1) * 6 + j - (sixL y).length = i * 6 + j by omega]
      exact ih i x j (by simpa using h) hj
/-- Where an entry's value lies. -/
def ownN (x : Ent) : Option Nat := (Value.slice x.val.a x.val.p.length x.val.c).ownBlock
abbrev valP (x : Ent) : Value := .slice x.val.a x.val.p.length x.val.c

theorem ownsRow_sameN {w w' : World} {base : Nat} {e : TypeId} {sz : Nat} {v : Value} {n : Nat} {xs : List Value} (h : w.ownsRow base e sz v n xs) (hk : ∀ j, v.ownBlock = some j → w'.heap[j]? = w.heap[j]?) : w'.ownsRow base e sz v n xs := by
  refine ⟨h.1, ?_⟩
  rcases h.2 with h2 | ⟨g, cap, cur, rfl, h3, hh, h4⟩
  · exact .inl h2
  · exact .inr ⟨g, cap, cur, rfl, h3, (hk g rfl).trans hh, h4⟩
theorem ownsRow_inN {w : World} {base : Nat} {e : TypeId} {sz : Nat} {v : Value} {n : Nat} {xs : List Value} (h : w.ownsRow base e sz v n xs) {j : Nat} (hj : v.ownBlock = some j) : base ≤ j ∧ j < w.heap.size ∧ ∃ cur, w.heap[j]? = some (.cells cur e (0, 0)) := by
  rcases h.2 with ⟨rfl, _⟩ | ⟨g, cap, cur, rfl, h3, hh, h4⟩
  · cases hj
  · cases hj; exact ⟨h3, (Array.getElem?_eq_some_iff.1 hh).1, cur, hh⟩
theorem ownsRow_apartN {w : World} {b b' : Nat} {e e' : TypeId} {sz sz' : Nat} {v v' : Value} {n n' : Nat} {xs xs' : List Value} (h : w.ownsRow b e sz v n xs) (h' : w.ownsRow b' e' sz' v' n' xs') (he : e ≠ e') {j : Nat} (hj : v.ownBlock = some j) : v'.ownBlock ≠ some j := fun hj' => by
  obtain ⟨_, _, c1, h1⟩ := ownsRow_inN h hj
  obtain ⟨_, _, c2, h2⟩ := ownsRow_inN h' hj'
  rw [h1] at h2
  cases h2
  exact he rfl

/-- Entries that lie in memory of one's own, from block N on: the list and, each in a block of its own, the values. -/
structure DocN (W : World) (N : Nat) (v : Value) (ts : List Ent) : Prop where
  list : W.ownsRow N 77 6 v ts.length (celN ts)
  each : ∀ t ∈ ts, OwnB W N (valP t) t.val.p
  far : ts.Pairwise fun x y => ∀ b, ownN x = some b → ownN y ≠ some b
  all : ∀ t ∈ ts, All8 t.val.p ∧ t.val.p.length ≤ 140737488351232
theorem DocN.keep {W W' : World} {N : Nat} {v : Value} {ts : List Ent} (h : DocN W N v ts) (hk : ∀ j, N ≤ j → j < W.heap.size → W'.heap[j]? = W.heap[j]?) : DocN W' N v ts :=
  ⟨ownsRow_sameN h.list fun j hj => hk j (ownsRow_inN h.list hj).1 (ownsRow_inN h.list hj).2.1, fun t ht => OwnB.heap' (h.each t ht) fun j hj => hk j ((h.each t ht).ge hj) ((h.each t ht).inside j hj), h.far, h.all⟩
theorem DocN.below {W W' : World} {N : Nat} {v : Value} {ts : List Ent} (h : DocN W N v ts) (hb : Below W.heap.size W W') : DocN W' N v ts := h.keep fun j _ hl => hb.block j hl
theorem DocN.mono {W : World} {N N' : Nat} {v : Value} {ts : List Ent} (h : DocN W N v ts) (hn : N' ≤ N) : DocN W N' v ts := by
  refine ⟨⟨h.list.1, ?_⟩, fun t ht => (h.each t ht).mono hn, h.far, h.all⟩
  rcases h.list.2 with h2 | ⟨g, cap, cur, rfl, h3, hh, h4⟩
  · exact .inl h2
  · exact .inr ⟨g, cap, cur, rfl, Nat.le_trans hn h3, hh, h4⟩
theorem DocN.nil (W : World) (N : Nat) : DocN W N (.slice none 0 0) [] := ⟨World.ownsRow_nil _ _ _ _, (fun t ht => by cases ht), List.Pairwise.nil, (fun t ht => by cases ht)⟩
/-- A number as a value; numbers in memory of one's own. -/
def encZ (n : Nat) : Value := .int .i64 (n : Int)
def NumN (W : World) (N : Nat) (v : Value) (ns : List Nat) : Prop := W.ownsRow N 3 1 v ns.length (ns.map encZ)

/-- What a walk of Entries holds. -/
structure StW (w0 : World) (N bE bN bB : Nat) (ve vn : Value) (B : Nat) (ts : List Ent) (ns : List Nat) (W : World) : Prop where
  e : Boxed W bE 38 ve
  m : Boxed W bN 44 vn
  b : Boxed W bB 3 (.int .i64 (B : Int))
  doc : DocN W N ve ts
  nums : NumN W N vn ns
  bel : Below w0.heap.size w0 W
  low : N ≤ W.heap.size
/-- What lies where. -/
structure ApW (w0 : World) (N bE bN bB Bq : Nat) (vq : Value) : Prop where
  e : w0.heap.size ≤ bE ∧ bE < N
  m : w0.heap.size ≤ bN ∧ bN < N
  b : w0.heap.size ≤ bB ∧ bB < N
  q : Bq < N
  em : bE ≠ bN
  eb : bE ≠ bB
  mb : bN ≠ bB
  eq : bE ≠ Bq
  mq : bN ≠ Bq
  own : ∀ j, vq.ownBlock = some j → j < N ∧ j ≠ bE ∧ j ≠ bN
section
variable {w0 : World} {N bE bN bB Bq : Nat} {vq ve vn : Value} {B : Nat} {ts : List Ent} {ns : List Nat} {W W' : World}
theorem StW.grown {r : Option Nat} (h : StW w0 N bE bN bB ve vn B ts ns W) (hg : W.grownBy W' r) (hr : ∀ j, r = some j → w0.heap.size ≤ j ∧ ∃ o : Obj, W.heap[j]? = some o ∧ o.isCells = false) : StW w0 N bE bN bB ve vn B ts ns W' := by
  have hr2 : ∀ j, r = some j → ∃ o : Obj, W.heap[j]? = some o ∧ o.isCells = false := fun j e => (hr j e).2
  have bx : ∀ {B : Nat} {t : TypeId} {u : Value}, Boxed W B t u → Boxed W' B t u := fun {B t u} hb => boxed_own (β := Unit) B t (fun _ => u) () W W' r hb hg hr2
  have rw_ : ∀ {e : TypeId} {sz : Nat} {v : Value} {n : Nat} {xs : List Value}, W.ownsRow N e sz v n xs → W'.ownsRow N e sz v n xs := fun {e sz v n xs} h => ownsRow_sameN h fun j hj => by
    obtain ⟨_, _, cur, hh⟩ := ownsRow_inN h hj
    exact grownBy_keeps_cells hg hr2 hh rfl
  refine ⟨bx h.e, bx h.m, bx h.b, ⟨rw_ h.doc.list, fun t ht => rw_ (h.doc.each t ht), h.doc.far, h.doc.all⟩, rw_ h.nums, h.bel.grown hg h.bel.size (fun j e => (hr j e).1), Nat.le_trans h.low hg.size⟩
theorem StW.below (h : StW w0 N bE bN bB ve vn B ts ns W) (hb : Below W.heap.size W W') : StW w0 N bE bN bB ve vn B ts ns W' := h.grown (grown_none hb) fun j e => by cases e
/-- A box and a list of one's own behind an append. -/
theorem app_block {w1 : World} {tmp : Obj} {v u : Value} {b : Nat} (hg : (W.alloc tmp).grownBy w1 v.ownBlock) {j : Nat} (hj : j < W.heap.size) (h1 : v.ownBlock ≠ some j) (h2 : j ≠ b) : (w1.setCell ⟨b, 0, none⟩ u).heap[j]? = W.heap[j]? := by
  rw [Below.heap_setCell _ _ _ _ (by simpa using h2), hg.block j (by simp; omega) (fun e => h1 e.symm)]
  exact Below.heap_alloc _ _ _ hj
theorem StW.putE {w1 : World} {tmp : Obj} {x : Ent} {v' : Value} (h : StW w0 N bE bN bB ve vn B ts ns W) (ap : ApW w0 N bE bN bB Bq vq) (hx : OwnB W N (valP x) x.val.p) (hx8 : All8 x.val.p ∧ x.val.p.length ≤ 140737488351232) (hxf : ∀ t ∈ ts, ∀ b, ownN t = some b → ownN x ≠ some b)
    (ho : w1.ownsRow N 77 6 v' (ts.length + 1) (celN ts ++ sixL x)) (hg : (W.alloc tmp).grownBy w1 ve.ownBlock) :
    (Boxed w1 bE 38 ve ∧ Boxed w1 bN 44 vn ∧ Boxed w1 bB 3 (.int .i64 (B : Int))) ∧ StW w0 N bE bN bB v' vn B (ts ++ [x]) ns (w1.setCell ⟨bE, 0, none⟩ v') ∧ KeepsOthers W (w1.setCell ⟨bE, 0, none⟩ v') ∧ KpF Bq vq W (w1.setCell ⟨bE, 0, none⟩ v') := by
  have hrow := h.doc.list
  have hv1 : Boxed w1 bE 38 ve := (h.e.alloc tmp).kept hg (h.e.not_row (by decide) hrow)
  have hsz : W.heap.size ≤ w1.heap.size := by have := hg.size; simp at this; omega
  have hin : ∀ j, ve.ownBlock = some j → N ≤ j := fun j hj => (ownsRow_inN hrow hj).1
  have hlo : ∀ j, j < N → ve.ownBlock ≠ some j := fun j hj e => by have := hin j e; omega
  have hN := h.low
  obtain ⟨e1, e2⟩ := ap.e
  have bx : ∀ {b : Nat} {t : TypeId} {u : Value}, Boxed W b t u → b < N → b ≠ bE → Boxed (w1.setCell ⟨bE, 0, none⟩ v') b t u := fun {b t u} hb hbN hne => (app_block hg (by omega) (hlo _ hbN) hne).trans hb
  have rowk : ∀ {e : TypeId} {sz : Nat} {v : Value} {n : Nat} {xs : List Value}, W.ownsRow N e sz v n xs → e ≠ 77 → (w1.setCell ⟨bE, 0, none⟩ v').ownsRow N e sz v n xs := fun {e sz v n xs} hr hne => ownsRow_sameN hr fun j hj => by
    obtain ⟨r1, r2, _⟩ := ownsRow_inN hr hj
    exact app_block hg r2 (ownsRow_apartN hr hrow hne hj) (by omega)
  have b7 : ∀ {b : Nat} {t : TypeId} {u : Value}, Boxed W b t u → b < N → Boxed w1 b t u := fun {b t u} hb hbN => by
    have hlt := hb.lt
    exact ((hg.block b (by simp; omega) (fun e => hlo _ hbN e.symm)).trans (Below.heap_alloc _ _ _ hlt)).trans hb
  refine ⟨⟨hv1, b7 h.m ap.m.2, b7 h.b ap.b.2⟩, ⟨hv1.set v', bx h.m ap.m.2 ap.em.symm, bx h.b ap.b.2 ap.eb.symm, ⟨?_, ?_, ?_, ?_⟩, rowk h.nums (by decide), ?_, by simp; omega⟩, ?_, ?_⟩
  · rw [List.length_append, celN_snoc]
    exact ownsRow_sameN ho fun j hj => Below.heap_setCell _ _ _ _ (by have := (ownsRow_inN ho hj).1; simp; omega)
  · intro t ht
    rcases List.mem_append.1 ht with h1 | h1
    · exact rowk (h.doc.each t h1) (by decide)
    · have : t = x := by simpa using h1
      subst this
      exact rowk hx (by decide)
  · rw [List.pairwise_append]
    exact ⟨h.doc.far, List.pairwise_singleton _ _, fun a ha b hb => by have : b = x := by simpa using hb
                                                                       subst this; exact hxf a ha⟩
  · intro t ht
    rcases List.mem_append.1 ht with h1 | h1
    · exact h.doc.all t h1
    · have : t = x := by simpa using h1
      subst this
      exact hx8
  · have hw0 := h.bel.size
    exact ((h.bel.alloc hw0 tmp).grown hg (by simp; omega) (fun j e => by have := hin j e; omega)).setCell (p := ⟨bE, 0, none⟩) e1 _
  · refine ((KeepsOthers.alloc W tmp).trans (KeepsOthers.of_grownBy hg fun j o ej hj => ?_)).trans (KeepsOthers.setCell _ _ _)
    obtain ⟨_, hl, cur, hh⟩ := ownsRow_inN (hrow.alloc tmp) ej
    rw [hh] at hj; cases hj; rfl
  · exact ⟨by simp; omega, app_block hg (by have := ap.q; omega) (hlo _ ap.q) ap.eq.symm, fun j hj => app_block hg (by have := (ap.own j hj).1; omega) (hlo _ (ap.own j hj).1) (ap.own j hj).2.1⟩
theorem StW.putM {w1 : World} {tmp : Obj} {z : Nat} {v' : Value} (h : StW w0 N bE bN bB ve vn B ts ns W) (ap : ApW w0 N bE bN bB Bq vq)
    (ho : w1.ownsRow N 3 1 v' (ns.length + 1) (ns.map encZ ++ [encZ z])) (hg : (W.alloc tmp).grownBy w1 vn.ownBlock) :
    Boxed w1 bN 44 vn ∧ StW w0 N bE bN bB ve v' B ts (ns ++ [z]) (w1.setCell ⟨bN, 0, none⟩ v') ∧ KeepsOthers W (w1.setCell ⟨bN, 0, none⟩ v') ∧ KpF Bq vq W (w1.setCell ⟨bN, 0, none⟩ v') := by
  have hrow : W.ownsRow N 3 1 vn _ _ := h.nums
  have hv1 : Boxed w1 bN 44 vn := (h.m.alloc tmp).kept hg (h.m.not_row (by decide) hrow)
  have hsz : W.heap.size ≤ w1.heap.size := by have := hg.size; simp at this; omega
  have hin : ∀ j, vn.ownBlock = some j → N ≤ j := fun j hj => (ownsRow_inN hrow hj).1
  have hlo : ∀ j, j < N → vn.ownBlock ≠ some j := fun j hj e => by have := hin j e; omega
  have hN := h.low
  obtain ⟨e1, e2⟩ := ap.m
  have bx : ∀ {b : Nat} {t : TypeId} {u : Value}, Boxed W b t u → b < N → b ≠ bN → Boxed (w1.setCell ⟨bN, 0, none⟩ v') b t u := fun {b t u} hb hbN hne => (app_block hg (by omega) (hlo _ hbN) hne).trans hb
  have rowk : ∀ {e : TypeId} {sz : Nat} {v : Value} {n : Nat} {xs : List Value}, W.ownsRow N e sz v n xs → e ≠ 3 → (w1.setCell ⟨bN, 0, none⟩ v').ownsRow N e sz v n xs := fun {e sz v n xs} hr hne => ownsRow_sameN hr fun j hj => by
    obtain ⟨r1, r2, _⟩ := ownsRow_inN hr hj
    exact app_block hg r2 (ownsRow_apartN hr hrow hne hj) (by omega)
  refine ⟨hv1, ⟨bx h.e ap.e.2 ap.em, hv1.set v', bx h.b ap.b.2 ap.mb.symm, ⟨rowk h.doc.list (by decide), fun t ht => rowk (h.doc.each t ht) (by decide), h.doc.far, h.doc.all⟩, ?_, ?_, by simp; omega⟩, ?_, ?_⟩
  · unfold NumN
    rw [List.length_append, List.map_append]
    exact ownsRow_sameN ho fun j hj => Below.heap_setCell _ _ _ _ (by have := (ownsRow_inN ho hj).1; simp; omega)
  · have hw0 := h.bel.size
    exact ((h.bel.alloc hw0 tmp).grown hg (by simp; omega) (fun j e => by have := hin j e; omega)).setCell (p := ⟨bN, 0, none⟩) e1 _
  · refine ((KeepsOthers.alloc W tmp).trans (KeepsOthers.of_grownBy hg fun j o ej hj => ?_)).trans (KeepsOthers.setCell _ _ _)
    obtain ⟨_, hl, cur, hh⟩ := ownsRow_inN (hrow.alloc tmp) ej
    rw [hh] at hj; cases hj; rfl
  · exact ⟨by simp; omega, app_block hg (by have := ap.q; omega) (hlo _ ap.q) ap.mq.symm, fun j hj => app_block hg (by have := (ap.own j hj).1; omega) (hlo _ (ap.own j hj).1) (ap.own j hj).2.2⟩
theorem StW.from {β : Type} {D : Nat} (fe fn : β → Value) (ft : β → List Ent) (fs : β → List Nat) (hB : w0.heap.size ≤ D) : OwnFrom D (fun (s : β) W => StW w0 N bE bN bB (fe s) (fn s) B (ft s) (fs s) W) := fun _ _ _ _ hs hg hr =>
  hs.grown hg fun j e => ⟨Nat.le_trans hB (hr j e).1, (hr j e).2⟩
end

/-- Frames whose payloads are entries tell these. -/
theorem entF_good : ∀ (P : List (Nat × List Nat)) (l : List (En × Nat)), P.map (fun y => (decE y.2, y.1)) = l.map (fun z => (some z.1, z.2)) → ∀ R, entF (P ++ R) = l ++ entF R := by
  intro P
  induction P with
  | nil => intro l h R; cases l with
    | nil => rfl
    | cons z t => simp at h
  | cons y r ih =>
    intro l h R
    cases l with
    | nil => simp at h
    | cons z t =>
      simp only [List.map_cons, List.cons.injEq, Prod.mk.injEq] at h
      obtain ⟨⟨h1, h2⟩, h3⟩ := h
      have e : entF (y :: r ++ R) = match decE y.2 with
        | none => []
        | some x => (x, y.1) :: entF (r ++ R) := rfl
      rw [e, h1, ih t h3 R, h2]
      rfl

theorem stopHere {P : Prop} (h : Hid P) : P := h
/-- What came so far, as entries and ends. -/
def GdW (B : Nat) (pre : List Hand) (ts : List Ent) (ns : List Nat) : Prop := ∃ l : List (En × Nat), (pre.map tl).map (fun y => (decE y.2, y.1)) = l.map (fun z => (some z.1, z.2)) ∧ ts.map Ent.en = l.map Prod.fst ∧ ns = l.map (fun z => B + z.2)
/-- What Entries answers: the entries of the bytes and where each ends, in memory of its own. -/
structure TelE (w : World) (bs : List Nat) (B : Nat) (e : Ending) (w' : World) : Prop where
  ex : ∃ ve vn ts ns, e = .returned (.tuple #[ve, vn]) ∧ DocN w' w.heap.size ve ts ∧ NumN w' w.heap.size vn ns ∧ ts.map Ent.en = (lgF 0 bs).map Prod.fst ∧ ns = (lgF 0 bs).map (fun z => B + z.2)
  bel : Below w.heap.size w w'

theorem newSix (W : World) (x : Ent) : ∀ j u, (sixL x)[j]? = some u → (W.alloc (.cells #[.int .i64 x.kind, .int .i64 x.stamp, .int .i64 x.count, .string x.key, .slice x.val.a x.val.p.length x.val.c, .bool x.dead] 77)).cell? ((⟨W.heap.size, 0, none⟩ : Addr).add j) = some u := fun j u hu => by
  rw [Addr.add_lit, cell_of_row _ _ _ _ _ _ (heap_alloc_new W _), Nat.zero_add]
  have : (#[.int .i64 x.kind, .int .i64 x.stamp, .int .i64 x.count, .string x.key, .slice x.val.a x.val.p.length x.val.c, .bool x.dead] : Array Value)[j]? = (sixL x)[j]? := by simp [sixL]
  rw [this]; exact hu
theorem oneSix (x : Ent) : ∀ u ∈ sixL x, u.oneCell' = true := fun u hu => by
  simp [sixL] at hu
  rcases hu with rfl | rfl | rfl | rfl | rfl | rfl <;> rfl
theorem dec_all8 {bs : List Nat} {x : En} (h8 : All8 bs) (h : decE bs = some x) : All8 x.val := by
  have h1 := dec_form h8 h
  have M := may_parts (dec_some h).2
  cases hv1 : hv x.kind
  · rw [M.val0 hv1]; intro z hz; cases hz
  · intro z hz
    refine h8 z ?_
    rw [← h1]
    unfold encE eV
    rw [if_pos hv1]
    simp [hz]

section
set_option maxRecDepth 100000 in
set_option maxHeartbeats 2000000 in
theorem entries_core (pv : Value) (Bs : List Nat) (B : Nat) (w : World) (hlen : Bs.length ≤ 17592186044416) (hm2 : B + Bs.length ≤ 9223372036854775807) (hm3 : All8 Bs)
    (hby0 : ∀ U, Below w.heap.size w U → Calls Tryz.prog 53 #[pv] U fun e w' => (∃ v, e = .returned (.tuple #[.int .i64 (B : Int), v]) ∧ OwB w' U.heap.size v Bs) ∧ Below U.heap.size U w') :
    Calls Tryz.prog 23 #[pv] w fun e w' => TelE w Bs B e w' := by
  obtain ⟨U, hU⟩ : ∃ U, U = (w.alloc (.cells #[.slice none 0 0] 38)).alloc (.cells #[.slice none 0 0] 44) := ⟨_, rfl⟩
  have hzU : U.heap.size = w.heap.size + 1 + 1 := by rw [hU]; simp
  have hbU : Below w.heap.size w U := by rw [hU]; exact ((Below.refl _ w).alloc (Nat.le_refl _) _).alloc (by simp) _
  have b0 : Boxed U w.heap.size 38 (.slice none 0 0) := by rw [hU]; exact (Boxed.new w _ _).alloc _
  have b1 : Boxed U (w.heap.size + 1) 44 (.slice none 0 0) := by
    have := Boxed.new (w.alloc (.cells #[.slice none 0 0] 38)) 44 (.slice none 0 0)
    rw [hU]; simpa using this
  have hby := hby0 U hbU
  clear hby0
  refine (callsIn_wide (n := 3)).1 ?_
  refine callsIn_of_wp_marks Tryz.func23 rfl trivial ?_ rfl
  simp only [Tryz.ntmps23, List.size_toArray, List.length_cons, List.length_nil, Nat.reduceAdd, Nat.reduceSub, Array.replicate_succ, Array.replicate_zero, List.push_toArray, List.append_toArray, List.nil_append, List.cons_append]
  gi_wp2_with fail
  rw [← hU]
  clear hU
  refine ⟨trivial, (callsIn_wide.2 hby).mono ?_⟩
  rintro e w1 ⟨⟨v1, rfl, ho1⟩, hb1⟩
  obtain ⟨a1, c1, rfl, hr1, _, _, hn1⟩ := ho1.row
  obtain ⟨w2, hw2⟩ : ∃ w2, w2 = w1.alloc (.cells #[.int .i64 (B : Int)] 3) := ⟨_, rfl⟩
  have hb2 : Below w1.heap.size w1 w2 := by rw [hw2]; exact (Below.refl _ _).alloc (Nat.le_refl _) _
  have b2 : Boxed w2 w1.heap.size 3 (.int .i64 (B : Int)) := by rw [hw2]; exact Boxed.new w1 _ _
  have hz1 := hb1.size
  have hz2 : w1.heap.size < w2.heap.size := b2.lt
  have hall := all_any a1 c1 Bs w2 (hr1.below hb2) (by omega) hn1
  have hbU2 := hb1.trans (hb2.mono hz1)
  clear hby ho1 hr1
  gi_wp2_with fail
  rw [← hw2]
  clear hw2
  refine ⟨trivial, (callsIn_wide.2 hall).mono ?_⟩
  rintro e w3 ⟨v, Bq, rfl, hbx, hown, hBq, hb3⟩
  have hz3 := hb3.size
  have hBl := hbx.lt
  have hvl := hown.inside
  have hvg : ∀ j, v.ownBlock = some j → w2.heap.size ≤ j := fun j hj => hown.ge hj
  have hbU3 := hbU2.trans (hb3.mono (by omega))
  obtain ⟨bB, hbB⟩ : ∃ b, b = w1.heap.size := ⟨_, rfl⟩
  rw [← hbB] at b2 hz2 hz1
  have hS0 : StW w w3.heap.size w.heap.size (w.heap.size + 1) bB (.slice none 0 0) (.slice none 0 0) B [] [] w3 :=
    ⟨b0.kept (grown_none hbU3) (by simp), b1.kept (grown_none hbU3) (by simp), b2.kept (grown_none hb3) (by simp), DocN.nil _ _, World.ownsRow_nil _ _ _ _, hbU.trans (hbU3.mono (by omega)), Nat.le_refl _⟩
  have hap : ApW w w3.heap.size w.heap.size (w.heap.size + 1) bB Bq v := ⟨by omega, by omega, by omega, by omega, by omega, by omega, by omega, by omega, by omega, fun j hj => by have := hvg j hj; have := hvl j hj; omega⟩
  clear hall b0 b1 b2 hbU hbU2 hbU3 hb1 hb2 hb3
  gi_wp2_with fail
  rw [← hbB]
  clear hbB
  generalize hact : ({ tmps := _, defers := [] } : Act) = act0
  generalize hQ : Exit.inBlock 0 _ = QQ
  have hQe : ∀ a W, QQ .normal a W → QQ (.exit 0) a W := by subst hQ; exact fun a W h => h
  have hfl := frs_len Bs
  have hw3 : w.heap.size ≤ w3.heap.size := hS0.bel.size
  -- behind the loop
  have rest : ∀ (D : Nat) (W : World) (ve vn : Value) (ts : List Ent) (ns : List Nat), w3.heap.size ≤ D → StW w w3.heap.size w.heap.size (w.heap.size + 1) bB ve vn B ts ns W → ts.map Ent.en = (lgF 0 Bs).map Prod.fst → ns = (lgF 0 Bs).map (fun z => B + z.2) → W.heap[D]? = some (.deferred (some [])) →
      QQ .normal { act0 with defers := { target := .collected D, args := #[] } :: act0.defers } W := by
    subst hQ hact
    intro D W ve vn ts ns hD hS h1 h2 hK
    obtain ⟨ea, ec, he, _⟩ := (OwnS.of_row hS.doc.list).open
    obtain ⟨na, nc, hn, _⟩ := (OwnS.of_row (show W.ownsRow _ _ _ _ _ _ from hS.nums)).open
    subst he hn
    have q0 := hS.e.cell
    have q1 := hS.m.cell
    have hDl : D < W.heap.size := (Array.getElem?_eq_some_iff.1 hK).1
    have hfin : Hid (TelE w Bs B (.returned (.tuple #[.slice ea ts.length ec, .slice na ns.length nc])) (W.drew.putObj D (.deferred none))) := by
      have hKs : ∀ j, j < W.heap.size → j ≠ D → (W.drew.putObj D (.deferred none)).heap[j]? = W.heap[j]? := fun j _ hne => World.putObj_heap_other hne
      have hcd : ∀ {e : TypeId} {sz : Nat} {v : Value} {n : Nat} {xs : List Value}, W.ownsRow w3.heap.size e sz v n xs → (W.drew.putObj D (.deferred none)).ownsRow w3.heap.size e sz v n xs := fun {e sz v n xs} hr => ownsRow_sameN hr fun j hj => by
        obtain ⟨_, r2, cur, hh⟩ := ownsRow_inN hr hj
        exact hKs j r2 fun e => by subst e; rw [hK] at hh; cases hh
      have hd : DocN (W.drew.putObj D (.deferred none)) w3.heap.size (.slice ea ts.length ec) ts := ⟨hcd hS.doc.list, fun t ht => hcd (hS.doc.each t ht), hS.doc.far, hS.doc.all⟩
      have hnm : NumN (W.drew.putObj D (.deferred none)) w.heap.size (.slice na ns.length nc) ns := by
        have := hcd hS.nums
        refine ⟨this.1, ?_⟩
        rcases this.2 with h5 | ⟨g, cap, cur, e5, h3, hh, h4⟩
        · exact .inl h5
        · exact .inr ⟨g, cap, cur, e5, by omega, hh, h4⟩
      exact ⟨⟨_, _, ts, ns, rfl, hd.mono hw3, hnm, h1, h2⟩, hS.bel.drew.trans (belowK_b (w := w) (Nat.le_refl _) _ D _ _ (by omega) hK rfl rfl)⟩
    clear hS h1 h2
    gi_wp2
    gi_region
    all_goals gi_wp2
    all_goals refine ⟨by simp, .inl ⟨_, _, rfl, run_takeDeferred (w := W.drew) hK, ?_⟩⟩
    all_goals exact ⟨.tuple #[.slice ea ts.length ec, .slice na ns.length nc], by simp [results, Tryz.results23, go_sem], hfin.out⟩
  refine range_tells (F := Fence.wide) rfl (by omega) (gf := 80) (lb := #[.pointer (some ⟨Bq, 0, none⟩)]) (by rw [← hact]; rfl) trivial (enters_of Tryz.func80 (by kernel_rfl) rfl)
    (tellsF _ Bq w2.heap.size v Bs w3 hbx hown hm3 (by omega) (by omega)) (Below.refl _ _) kpF_t (kpF_b hBl hvl) (fun _ _ _ _ _ _ _ _ h1 h2 h3 => h3.put h1 h2) (fun _ => rfl)
    (fun pre W => ∃ ve vn ts ns, StW w w3.heap.size w.heap.size (w.heap.size + 1) bB ve vn B ts ns W ∧ GdW B pre ts ns)
    (fun c pre W => c = .exit 0 ∧ ∃ pre' x ve vn ts ns, pre = pre' ++ [x] ∧ decE x.2.2 = none ∧ StW w w3.heap.size w.heap.size (w.heap.size + 1) bB ve vn B ts ns W ∧ GdW B pre' ts ns) ?hI ?hIx ⟨_, _, [], [], hS0, [], rfl, rfl, rfl⟩
    (fun x => { tmps := (((act0.tmps.setIfInBounds 19 (.int .i64 (x.1 : Int))).setIfInBounds 20 x.2.1).setIfInBounds 8 (.int .i64 (x.1 : Int))).setIfInBounds 9 x.2.1, defers := [] }) ?assign ?body ?done ?stop
  case hI =>
    rintro pre W W' row ⟨ve, vn, ts, ns, hS, hG⟩ hg hr
    exact ⟨ve, vn, ts, ns, hS.grown hg fun j e => ⟨Nat.le_trans hw3 (hr j e).1, (hr j e).2⟩, hG⟩
  case hIx =>
    rintro c pre W W' row ⟨hc, pre', x, ve, vn, ts, ns, h1, h2, hS, hG⟩ hg hr
    exact ⟨hc, pre', x, ve, vn, ts, ns, h1, h2, hS.grown hg fun j e => ⟨Nat.le_trans hw3 (hr j e).1, (hr j e).2⟩, hG⟩
  case assign =>
    subst hact
    intro l x W K hK
    gi_wp2
    simp only [List.setIfInBounds_toArray, List.set_cons_zero, List.set_cons_succ] at hK
    exact hK
  case body =>
    subst hact
    clear rest hQe
    rintro l pre x X W hlw ⟨o, hlo, hoc⟩ ⟨ve, vn, ts, ns, hS, hGd⟩ hg hG
    have hpl : pre.length < (frs Bs).length := (List.getElem?_eq_some_iff.1 hG.1).1
    have hSW := hS.grown hg (fun j e => by cases e; exact ⟨by omega, o, hlo, hoc⟩)
    obtain ⟨px, cx, hvx, hpx, _, _, hnx⟩ := hG.2.row
    obtain ⟨hE1, hx8, hx6⟩ := frs_mem hm3 (List.mem_of_getElem? hG.1)
    have hdec := decode_any px cx x.2.2 W hpx hx8 (by have : x.2.2.length ≤ 65536 := hx6; omega) hnx
    rw [hvx]
    obtain ⟨E, u, Py⟩ := x
    simp only [tl] at hE1 hx8 hx6 hpx hnx hvx hdec ⊢
    have HGd := hide_it hGd
    have hEB : IntKind.i64.wrap ((B : Int) + (E : Int)) = ((B + E : Nat) : Int) := by rw [i64_in (by omega) (by omega)]; simp
    have htl : ts.length = pre.length ∧ ns.length = pre.length := by
      obtain ⟨l, g1, g2, g3⟩ := hGd
      have e1 := congrArg List.length g1
      have e2 := congrArg List.length g2
      have e3 := congrArg List.length g3
      simp at e1 e2 e3
      omega
    have HTL := hide_it htl
    clear hS hg hG hlo hGd hS0 hbx hown htl
    cases hD : decE Py with
    | none =>
      have hdec2 : Calls Tryz.prog 55 #[.slice px Py.length cx] W fun e w' => (∃ a c, e = .returned (.tuple #[valE zeroEn a c, .int .i64 100])) ∧ Below W.heap.size W w' := hdec.mono (fun e w' ⟨⟨a, c, h1, _⟩, h3⟩ => ⟨⟨a, c, by rw [hD] at h1; exact h1⟩, h3⟩)
      clear hdec
      gi_wp2_with (refine ⟨trivial, ?_⟩; gi_at_call 55; refine (CallsIn.inRound l (callsIn_wide.2 hdec2)).mono ?_; rintro e w9 ⟨⟨a9, c9, rfl⟩, hb9⟩)
      have hb10 := hb9.alloc hb9.size (.cells #[.int .i64 0, .int .i64 0, .int .i64 0, .string ⟨#[]⟩, .slice a9 0 c9, .bool false] 77)
      exact ⟨(KeepsOthers.of_grownBy (grown_none hb10) (fun j o e => by cases e)).from _, rfl, pre, _, ve, vn, ts, ns, rfl, hD, hSW.below hb10, HGd.out⟩
    | some y =>
      have hdec2 : Calls Tryz.prog 55 #[.slice px Py.length cx] W fun e w' => (∃ a c, e = .returned (.tuple #[valE y a c, .int .i64 0]) ∧ OwnB w' W.heap.size (.slice a y.val.length c) y.val) ∧ Below W.heap.size W w' := hdec.mono (fun e w' ⟨⟨a, c, h1, h2⟩, h3⟩ => ⟨⟨a, c, by rw [hD] at h1; exact h1, by rw [hD] at h2; exact h2⟩, h3⟩)
      clear hdec
      have hy8 : All8 y.val := dec_all8 hx8 hD
      obtain ⟨x9, hx9e⟩ : ∃ x9 : Option Addr → Nat → Ent, x9 = fun a c => ⟨y.kind, y.stamp, y.count, y.key, ⟨a, c, y.val⟩, y.dead⟩ := ⟨_, rfl⟩
      obtain ⟨i0, hi0, hz0, hz1', hz2'⟩ := info_parts infoN
      obtain ⟨i1, hi1, hy0, hy1, hy2⟩ := info_parts infoZ
      have hfr : ∀ t ∈ ts, ∀ b, ownN t = some b → b < W.heap.size := fun t ht b hb => (hSW.doc.each t ht).inside b hb
      have hafter : ∀ (w9 : World) (a9 : Option Addr) (c9 : Nat), OwnB w9 W.heap.size (.slice a9 y.val.length c9) y.val → Below W.heap.size W w9 → StW w w3.heap.size w.heap.size (w.heap.size + 1) bB ve vn B ts ns (boxE w9 y a9 c9) ∧ OwnB (boxE w9 y a9 c9) w3.heap.size (valP (x9 a9 c9)) (x9 a9 c9).val.p ∧ (∀ t ∈ ts, ∀ b, ownN t = some b → ownN (x9 a9 c9) ≠ some b) ∧ KeepsOthers W (boxE w9 y a9 c9) ∧ KpF Bq v W (boxE w9 y a9 c9) := fun w9 a9 c9 ho9 hb9 => by
        have hb10 := hb9.trans ((boxE_below w9 y a9 c9).mono hb9.size)
        have hlo := hSW.low
        refine ⟨hSW.below hb10, ?_, fun t ht b hb e => ?_, KeepsOthers.of_grownBy (grown_none hb10) (fun j o e => by cases e), hb10.size, hb10.block _ (by have := hap.q; omega), fun j hj => hb10.block _ (by have := (hap.own j hj).1; omega)⟩
        · rw [hx9e]; exact (ho9.mono hlo).below (boxE_below w9 y a9 c9)
        · have h1 := hfr t ht b hb
          rw [hx9e] at e
          have h2 := ho9.ge e
          omega
      have HA := hide_it hafter
      clear hafter
      have hx9p : ∀ a c, All8 (x9 a c).val.p ∧ (x9 a c).val.p.length ≤ 140737488351232 := fun a c => by rw [hx9e]; exact ⟨hy8, by have := (may_parts (dec_some hD).2).val; show y.val.length ≤ _; omega⟩
      have hnew : ∀ (w9 : World) (a9 : Option Addr) (c9 : Nat), ∀ j u, (sixL (x9 a9 c9))[j]? = some u → ((boxE w9 y a9 c9).alloc (.cells #[.int .i64 y.kind, .int .i64 y.stamp, .int .i64 y.count, .string y.key, .slice a9 y.val.length c9, .bool y.dead] 77)).cell? ((⟨w9.heap.size + 1, 0, none⟩ : Addr).add j) = some u := fun w9 a9 c9 => by
        have := newSix (boxE w9 y a9 c9) (x9 a9 c9)
        rw [World.size_alloc] at this
        rw [hx9e] at this ⊢
        exact this
      have HNW := hide_it hnew
      clear hnew
      gi_wp2_with (first
        | (refine ⟨trivial, ?_⟩; gi_at_call 55; refine (CallsIn.inRound l (callsIn_wide.2 hdec2)).mono ?_; rintro e w9 ⟨⟨a9, c9, rfl, ho9⟩, hb9⟩; obtain ⟨hS10, ho10, hne, hk10, hkp10⟩ := HA.out w9 a9 c9 ho9 hb9; have q0 := hS10.e.cell; have q1 := hS10.m.cell; have q2 := hS10.b.cell)
        | (gi_at_builtin; refine stopHere ?_))
      unfold Hid
      refine wpListIn_append_own_at _ rfl _ _ 38 rfl w3.heap.size 77 i0 _ 6 72 Tryz.underlying38 hi0 hz0 hz1' hz2' rfl (by decide) _ _ _ rfl (hS10.doc.list.alloc _) ⟨w9.heap.size + 1, 0, none⟩ 1 1 (sixL (x9 a9 c9)) rfl rfl (HNW.out w9 a9 c9) (oneSix _) (by have := HTL.out; unfold maxLen; omega) (by have := HTL.out; omega) (by have := hS10.low; simp at this ⊢; omega) ?_
      intro v7 w7 ho7 hg7 _ _
      obtain ⟨⟨bE7, bN7, bB7⟩, hS7, hk7, hkp7⟩ := hS10.putE hap ho10 (hx9p _ _) hne ho7 hg7
      obtain ⟨g7, c7, hv7⟩ := ownsRow_succ ho7
      subst hv7
      have cE7 := bE7.cell
      have fE7 := bE7.frozen
      have cN7 := bN7.cell
      have cB7 := bB7.cell
      gi_wp2_with (gi_at_builtin; refine stopHere ?_)
      unfold Hid
      have hsz7 : (w7.setCell ⟨w.heap.size, 0, none⟩ (.slice (some ⟨g7, 0, none⟩) (ts.length + 1) c7)).heap.size = w7.heap.size := by simp
      refine wpListIn_append_own_at _ rfl _ _ 44 rfl w3.heap.size 3 i1 (.int .i64 0) 1 8 Tryz.underlying44 hi1 hy0 hy1 hy2 rfl (by decide) _ _ _ rfl (World.ownsRow.alloc (show World.ownsRow _ _ _ _ _ _ _ from hS7.nums) _) ⟨w7.heap.size, 0, none⟩ 1 1 [encZ (B + E)] rfl rfl (by rw [← hsz7]; exact cell_one_new _ _ _) (by simp [Value.oneCell', encZ]) (by have := HTL.out; unfold maxLen; omega) (by have := HTL.out; omega) (by have := hS7.low; rw [World.size_alloc]; omega) ?_
      intro v8 w8 ho8 hg8 _ _
      obtain ⟨bN8, hS8, hk8, hkp8⟩ := hS7.putM hap ho8 hg8
      obtain ⟨g8, c8, hv8⟩ := ownsRow_succ ho8
      subst hv8
      have cN8 := bN8.cell
      have fN8 := bN8.frozen
      gi_wp2_with fail
      refine ⟨((hk10.trans hk7).trans hk8).from _, kpF_t (kpF_t hkp10 hkp7) hkp8, _, _, _, _, hS8, ?_⟩
      obtain ⟨l, g1, g2, g3⟩ := HGd.out
      refine ⟨l ++ [(y, E)], ?_, ?_, ?_⟩
      · rw [List.map_append, List.map_append, g1, List.map_append]
        show _ ++ [(decE Py, E)] = _
        rw [hD]; rfl
      · rw [List.map_append, g2, List.map_append, hx9e]; rfl
      · rw [g3, List.map_append]; rfl
  case done =>
    rintro D xs W hD hS ⟨ve, vn, ts, ns, hSt, l, g1, g2, g3⟩ hK
    have hl2 : lgF 0 Bs = l := by
      rw [lgF_frs, ← hS]
      have := entF_good (xs.map tl) l g1 []
      rwa [List.append_nil, show entF [] = [] from rfl, List.append_nil] at this
    exact rest D W ve vn ts ns hD hSt (by rw [hl2]; exact g2) (by rw [hl2]; exact g3) hK
  case stop =>
    rintro D c pre W hD hS ⟨rfl, pre', x, ve, vn, ts, ns, rfl, hx, hSt, l, g1, g2, g3⟩ hK
    have hl2 : lgF 0 Bs = l := by
      rw [lgF_frs]
      have e1 : frs Bs = pre'.map tl ++ (tl x :: (frs Bs).drop (pre' ++ [x]).length) := by
        have e2 : frs Bs = (pre' ++ [x]).map tl ++ (frs Bs).drop (pre' ++ [x]).length := by rw [hS]; exact (List.take_append_drop _ _).symm
        exact e2.trans (by rw [List.map_append, List.append_assoc]; rfl)
      rw [e1]
      have e3 := entF_good (pre'.map tl) l g1 (tl x :: (frs Bs).drop (pre' ++ [x]).length)
      rw [e3]
      have e4 : entF (tl x :: (frs Bs).drop (pre' ++ [x]).length) = [] := by
        unfold entF
        rw [show (tl x).2 = x.2.2 from rfl, hx]
      rw [e4, List.append_nil]
    exact wpIn_exit (hQe _ _ (rest D W ve vn ts ns hD hSt (by rw [hl2]; exact g2) (by rw [hl2]; exact g3) hK))
theorem entries_any {w : World} {F : Nat → Prop} {L p i : Nat} {am : Bool} {n : Nat} {s : Nat → Pt} (h : Dsk w F p am n s) (hi : i < n) (hL : Lg w L p i) (hlen : (s i).bs.length ≤ 17592186044416) :
    Calls Tryz.prog 23 #[.pointer (some ⟨L, 0, none⟩)] w fun e w' => TelE w (s i).bs (s i).B e w' := by
  obtain ⟨_, hm2, hm3⟩ := h.room i hi
  exact entries_core _ _ _ w hlen hm2 hm3 fun U hb => lbytes_any (h.below hb) hi (hL.below hb)
end

end Go.Proofs.YtkacfpmninmjkaaGreat
