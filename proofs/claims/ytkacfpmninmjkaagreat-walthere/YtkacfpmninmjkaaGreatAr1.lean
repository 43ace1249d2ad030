/- An area in memory: three cells, and the bytes in a block of their own; what a call may change. The program's area, walked: fresh, end, leave, New, Append, Sync. The program's area, walked: New, Append, Sync, Cut, Trim. The program's area, walked: Trim, Read, Bounds. The program's area, walked: Crash, Image, Load. The program's area, walked: Image, Load. -/
import Derived.Test.YtkacfpmninmjkaaGreatSb1
import Derived.RegionTactic
import Derived.Test.YtkacfpmninmjkaaGreatReg2
namespace Go.Proofs.YtkacfpmninmjkaaGreat
open Go.RowKit

/-- The cells of a block but for three from o on stay as they are. -/
def Rest (w w' : World) (p o : Nat) : Prop :=
  ∀ C t, w.heap[p]? = some (.cells C t (0, 0)) → ∃ C', w'.heap[p]? = some (.cells C' t (0, 0)) ∧ C'.size = C.size ∧ ∀ i, i < o ∨ o + 3 ≤ i → C'[i]? = C[i]?
theorem Rest.refl (w : World) (p o : Nat) : Rest w w p o := fun C _ h => ⟨C, h, rfl, fun _ _ => rfl⟩
theorem Rest.trans {w w1 w2 : World} {p o : Nat} (h : Rest w w1 p o) (k : Rest w1 w2 p o) : Rest w w2 p o := fun C t hC => by
  obtain ⟨C1, h1, s1, e1⟩ := h C t hC
  obtain ⟨C2, h2, s2, e2⟩ := k C1 t h1
  exact ⟨C2, h2, s2.trans s1, fun i hi => (e2 i hi).trans (e1 i hi)⟩
theorem Rest.of_block {w w' : World} {p o : Nat} (h : w'.heap[p]? = w.heap[p]?) : Rest w w' p o := fun C _ hC => ⟨C, h.trans hC, rfl, fun _ _ => rfl⟩
theorem Rest.set (w : World) (p o i : Nat) (u : Value) (hi : o ≤ i ∧ i < o + 3) : Rest w (w.setCell ⟨p, i, none⟩ u) p o := fun C t hC =>
  ⟨_, heap_setCell_same w p i _ _ u hC, by simp, fun j hj => by rw [Array.getElem?_setIfInBounds_ne (by omega)]⟩

/-- An area's own blocks. -/
def Ft (p : Nat) (v : Value) (j : Nat) : Prop := j = p ∨ v.ownBlock = some j

/-- At place o of block p lies an area with the base B and the bytes bs, k of them safe; v is its slice. -/
structure Ar (w : World) (p o : Nat) (v : Value) (B : Nat) (bs : List Nat) (k : Nat) : Prop where
  blk : ∃ C t, w.heap[p]? = some (.cells C t (0, 0)) ∧ C[o]? = some (.int .i64 (B : Int)) ∧ C[o + 1]? = some (.int .i64 (k : Int)) ∧ C[o + 2]? = some v
  own : OwB w 0 v bs
  far : v.ownBlock ≠ some p
  all : All8 bs
  len : bs.length ≤ 211106232532800
  room : B + bs.length ≤ 9223372036854775807

section
variable {w w' : World} {p o : Nat} {v : Value} {B : Nat} {bs : List Nat} {k : Nat}
theorem Ar.plt (h : Ar w p o v B bs k) : p < w.heap.size := by
  obtain ⟨C, t, hC, _⟩ := h.blk
  exact (Array.getElem?_eq_some_iff.1 hC).1
theorem Ar.cells (h : Ar w p o v B bs k) : w.cell? ⟨p, o, none⟩ = some (.int .i64 (B : Int)) ∧ w.cell? ⟨p, o + 1, none⟩ = some (.int .i64 (k : Int)) ∧ w.cell? ⟨p, o + 2, none⟩ = some v ∧
    w.frozen? ⟨p, o, none⟩ = false ∧ w.frozen? ⟨p, o + 1, none⟩ = false ∧ w.frozen? ⟨p, o + 2, none⟩ = false := by
  obtain ⟨C, t, hC, h0, h1, h2⟩ := h.blk
  exact ⟨(cell_of_row _ _ _ _ _ _ hC).trans h0, (cell_of_row _ _ _ _ _ _ hC).trans h1, (cell_of_row _ _ _ _ _ _ hC).trans h2, frozen_of_row _ _ _ _ _ hC, frozen_of_row _ _ _ _ _ hC, frozen_of_row _ _ _ _ _ hC⟩
theorem Ar.keep (h : Ar w p o v B bs k) (hp : w'.heap[p]? = w.heap[p]?) (hv : ∀ j, v.ownBlock = some j → w'.heap[j]? = w.heap[j]?) : Ar w' p o v B bs k := by
  obtain ⟨C, t, hC, h3⟩ := h.blk
  exact ⟨⟨C, t, hp.trans hC, h3⟩, h.own.keep hv, h.far, h.all, h.len, h.room⟩
theorem Ar.chg {S : Nat → Prop} (h : Ar w p o v B bs k) (hc : Chg S w w') (hs : ∀ j, Ft p v j → ¬ S j) : Ar w' p o v B bs k :=
  h.keep (hc.block p h.plt (hs p (.inl rfl))) fun j hj => hc.block j (h.own.inside j hj).2 (hs j (.inr hj))
theorem Ar.below (h : Ar w p o v B bs k) (hb : Below w.heap.size w w') : Ar w' p o v B bs k :=
  h.keep (hb.block p h.plt) fun j hj => hb.block j (h.own.inside j hj).2
theorem Ar.drew (h : Ar w p o v B bs k) : Ar w.drew p o v B bs k := h.keep rfl fun _ _ => rfl
theorem Ar.inside (h : Ar w p o v B bs k) : ∀ j, Ft p v j → j < w.heap.size := fun j hj => by
  rcases hj with rfl | hj
  · exact h.plt
  · exact (h.own.inside j hj).2
/-- Another number of safe bytes. -/
theorem Ar.put1 (h : Ar w p o v B bs k) (k' : Nat) : Ar (w.setCell ⟨p, o + 1, none⟩ (.int .i64 (k' : Int))) p o v B bs k' := by
  obtain ⟨C, t, hC, h0, h1, h2⟩ := h.blk
  have hl := (Array.getElem?_eq_some_iff.1 h1).1
  refine ⟨⟨_, t, heap_setCell_same w p (o + 1) _ _ _ hC, ?_, ?_, ?_⟩, h.own.keep fun j hj => Below.heap_setCell _ _ _ _ (fun e => h.far (by rw [hj, e])), h.far, h.all, h.len, h.room⟩
  · rw [Array.getElem?_setIfInBounds_ne (by omega)]; exact h0
  · rw [Array.getElem?_setIfInBounds_self_of_lt hl]
  · rw [Array.getElem?_setIfInBounds_ne (by omega)]; exact h2
/-- Another base. -/
theorem Ar.put0 (h : Ar w p o v B bs k) (B' : Nat) (hB : B' + bs.length ≤ 9223372036854775807) : Ar (w.setCell ⟨p, o, none⟩ (.int .i64 (B' : Int))) p o v B' bs k := by
  obtain ⟨C, t, hC, h0, h1, h2⟩ := h.blk
  have hl := (Array.getElem?_eq_some_iff.1 h0).1
  refine ⟨⟨_, t, heap_setCell_same w p o _ _ _ hC, ?_, ?_, ?_⟩, h.own.keep fun j hj => Below.heap_setCell _ _ _ _ (fun e => h.far (by rw [hj, e])), h.far, h.all, h.len, hB⟩
  · rw [Array.getElem?_setIfInBounds_self_of_lt hl]
  · rw [Array.getElem?_setIfInBounds_ne (by omega)]; exact h1
  · rw [Array.getElem?_setIfInBounds_ne (by omega)]; exact h2
/-- What a call of an area leaves: an area of other bytes, and all else as it was. -/
structure Moved (w : World) (p o : Nat) (v : Value) (B : Nat) (bs : List Nat) (k : Nat) (w' : World) : Prop where
  ex : ∃ v', Ar w' p o v' B bs k ∧ (v'.ownBlock = v.ownBlock ∨ ∀ j, v'.ownBlock = some j → w.heap.size ≤ j)
  chg : Chg (Ft p v) w w'
  rest : Rest w w' p o
end

/-- Three cells with other values. -/
theorem Ar.put2 {w w1 : World} {p o : Nat} {v v' : Value} {B k : Nat} {bs bs' : List Nat} (h : Ar w p o v B bs k) (hc : w1.heap[p]? = w.heap[p]?) (hown : OwB w1 0 v' bs') (hf : v'.ownBlock ≠ some p) (h8 : All8 bs') (hl : bs'.length ≤ 211106232532800) (hr : B + bs'.length ≤ 9223372036854775807) :
    Ar (w1.setCell ⟨p, o + 2, none⟩ v') p o v' B bs' k := by
  obtain ⟨C, t, hC, h0, h1, h2⟩ := h.blk
  have hlt := (Array.getElem?_eq_some_iff.1 h2).1
  refine ⟨⟨_, t, heap_setCell_same w1 p (o + 2) _ _ _ (hc.trans hC), ?_, ?_, ?_⟩, hown.keep fun j hj => Below.heap_setCell _ _ _ _ (fun e => hf (by rw [hj, e])), hf, h8, hl, hr⟩
  · rw [Array.getElem?_setIfInBounds_ne (by omega)]; exact h0
  · rw [Array.getElem?_setIfInBounds_ne (by omega)]; exact h1
  · rw [Array.getElem?_setIfInBounds_self_of_lt hlt]

end Go.Proofs.YtkacfpmninmjkaaGreat

namespace Go.Proofs.YtkacfpmninmjkaaGreat
open Go.RowKit

set_option maxRecDepth 100000 in
set_option maxHeartbeats 400000 in
theorem fresh_any (a : Option Addr) (cap : Nat) (zs : List Nat) (w : World) (hr : RowB w a zs) (hl : zs.length ≤ 211106232532800) (hnil : a = none → zs.length = 0 ∧ cap = 0) :
    Calls Tryz.prog 61 #[.slice a zs.length cap] w fun e w' => (∃ r, e = .returned r ∧ OwB w' w.heap.size r zs) ∧ Below w.heap.size w w' := by
  go_enter Tryz.func61, Tryz.ntmps61
  go_wp2_with (at_builtin; refine wpList_appendB _ rfl _ _ rfl w.heap.size _ [] rfl (OwB.nil _ _) a cap zs rfl hr hnil (by simp; omega) (Nat.le_refl _) ?_; intro v1 w1 hown1 hg1 hat1)
  have hb1 : Below w.heap.size w w1 := (Below.refl _ _).grown hg1 (Nat.le_refl _) (fun j e => by cases e)
  go_ret
  exact ⟨⟨_, rfl, hown1⟩, hb1⟩

set_option maxRecDepth 100000 in
set_option maxHeartbeats 400000 in
theorem endA_any {p o : Nat} {v : Value} {B : Nat} {bs : List Nat} {k : Nat} (w : World) (h : Ar w p o v B bs k) :
    Calls Tryz.prog 90 #[.pointer (some ⟨p, o, none⟩)] w fun e w' => e = .returned (.int .i64 ((B + bs.length : Nat) : Int)) ∧ Below w.heap.size w w' := by
  obtain ⟨c0, _, c2, _⟩ := h.cells
  obtain ⟨a, cap, rfl, _⟩ := h.own.row
  have hr := h.room
  have hw : IntKind.i64.wrap ((B : Int) + (bs.length : Int)) = ((B + bs.length : Nat) : Int) := by rw [IntKind.wrap_i64]; omega
  obtain ⟨E, hE⟩ : ∃ E, E = B + bs.length := ⟨_, rfl⟩
  rw [← hE] at hw
  rw [← hE]
  clear h hr hE
  go_enter Tryz.func90, Tryz.ntmps90
  go_wp2
  go_region
  all_goals go_wp2
  all_goals go_ret
  all_goals exact ⟨rfl, (Below.refl _ _).drew⟩

set_option maxRecDepth 100000 in
set_option maxHeartbeats 400000 in
theorem leave_any {p o : Nat} {v : Value} {B : Nat} {bs : List Nat} {k : Nat} (w : World) (h : Ar w p o v B bs k) (from_ to : Nat) (h1 : from_ ≤ to) (h2 : to ≤ bs.length) :
    Calls Tryz.prog 85 #[.pointer (some ⟨p, o, none⟩), .int .i64 (from_ : Int), .int .i64 (to : Int)] w fun e w' => e = .returned (.tuple #[]) ∧ Moved w p o v B ((bs.take to).drop from_) k w' := by
  obtain ⟨c0, c1, c2, f0, f1, f2⟩ := h.cells
  obtain ⟨a, cap, rfl, hrow, hcap, hcm, hnil⟩ := h.own.row
  have hl := h.len
  have hw : IntKind.i64.wrap ((to : Int) - (from_ : Int)) = ((to - from_ : Nat) : Int) := by rw [IntKind.wrap_i64]; omega
  have hcut := OwB.drop (m := from_) (zs := bs.take to) (by rw [List.length_take, Nat.min_eq_left h2]; exact OwB.take h.own h2) (by rw [List.length_take, Nat.min_eq_left h2]; exact h1)
  rw [List.length_take, Nat.min_eq_left h2] at hcut
  obtain ⟨A, hA⟩ : ∃ A, (if cap = from_ then a else a.map (·.add from_)) = A := ⟨_, rfl⟩
  rw [hA] at hcut
  have hlen : ((bs.take to).drop from_).length = to - from_ := by simp; omega
  have h8 : All8 ((bs.take to).drop from_) := fun z hz => h.all z (List.mem_of_mem_take (List.mem_of_mem_drop hz))
  obtain ⟨zs, hzs⟩ : ∃ zs, zs = (bs.take to).drop from_ := ⟨_, rfl⟩
  rw [← hzs] at hcut hlen h8
  have hH := hide_it h
  have hroom := h.room
  by_cases hlt : to - from_ < bs.length
  · obtain ⟨a2, c2', e2, hrow2, _, _, hnil2⟩ := hcut.row
    rw [hlen] at e2
    cases e2
    have hfr := fresh_any A (cap - from_) zs w hrow2 (by omega) hnil2
    rw [hlen] at hfr
    rw [← hzs]
    have hrm := hide_it hroom
    have hle := hide_it hlen
    have hlm := hide_it hl
    have h12 := hide_it (show to ≤ cap by omega)
    clear h hroom hcut hl hrow hnil hrow2 hnil2 hzs hlen
    go_enter Tryz.func85, Tryz.ntmps85
    go_wp2_with fail
    refine hfr.mono ?_
    rintro e w1 ⟨⟨r, rfl, hown1⟩, hb1⟩
    have hplt := hH.out.plt
    have hf : w1.frozen? ⟨p, o + 2, none⟩ = false := by rw [hb1.frozen (p := ⟨p, o + 2, none⟩) hplt]; exact f2
    have hc : w1.cell? ⟨p, o + 2, none⟩ = some (.slice a bs.length cap) := by rw [hb1.cell (p := ⟨p, o + 2, none⟩) hplt]; exact c2
    have har : Ar (w1.setCell ⟨p, o + 2, none⟩ r) p o r B zs k := by
      have := hle.out; have := hrm.out; have := hlm.out
      exact hH.out.put2 (hb1.block p hplt) (hown1.mono (Nat.zero_le _)) (fun e => by have := (hown1.inside p e).1; omega) h8 (by omega) (by omega)
    have hmv : Moved w p o (.slice a bs.length cap) B zs k (w1.setCell ⟨p, o + 2, none⟩ r) :=
      ⟨⟨r, har, .inr fun j hj => (hown1.inside j hj).1⟩, (Chg.new hb1).setCell _ _ (fun _ => .inl rfl), (Rest.of_block (hb1.block p hplt)).trans (Rest.set _ _ _ _ _ (by omega))⟩
    obtain ⟨a3, c3, e3, _⟩ := hown1.row
    subst e3
    clear hfr har hown1 hb1
    go_wp2_with fail
    go_end0
    exact ⟨rfl, hmv⟩
  · have hz : zs = bs := by
      have e1 : from_ = 0 := by omega
      have e2 : to = bs.length := by omega
      rw [hzs, e1, e2]; simp
    have hmv : Moved w p o (.slice a bs.length cap) B bs k w := ⟨⟨_, h, .inl rfl⟩, Chg.refl _ _, Rest.refl _ _ _⟩
    rw [← hzs, hz]
    obtain ⟨D, hD⟩ : ∃ D, D = to - from_ := ⟨_, rfl⟩
    rw [← hD] at hw hlt
    have hge : bs.length ≤ D := by omega
    clear h hroom hcut hl hrow hnil hzs hlen hz hD
    go_enter Tryz.func85, Tryz.ntmps85
    go_wp2
    go_end0
    exact ⟨rfl, hmv⟩

end Go.Proofs.YtkacfpmninmjkaaGreat

namespace Go.Proofs.YtkacfpmninmjkaaGreat
open Go.RowKit

section
variable {w w1 w2 : World} {p o : Nat} {v : Value} {B : Nat} {bs bs' : List Nat} {k k' B' : Nat}
theorem Moved.of_below (h : Ar w p o v B bs k) (hb : Below w.heap.size w w1) : Moved w p o v B bs k w1 :=
  ⟨⟨v, h.below hb, .inl rfl⟩, Chg.new hb, Rest.of_block (hb.block p h.plt)⟩
/-- A call behind what only reads. -/
theorem Moved.behind (h : Ar w p o v B bs k) (hb : Below w.heap.size w w1) (hm : Moved w1 p o v B' bs' k' w2) : Moved w p o v B' bs' k' w2 := by
  obtain ⟨⟨v', h1, h2⟩, h3, h4⟩ := hm
  refine ⟨⟨v', h1, ?_⟩, (Chg.new hb).trans h3 (fun _ _ h => h), (Rest.of_block (hb.block p h.plt)).trans h4⟩
  rcases h2 with h2 | h2
  · exact .inl h2
  · exact .inr fun j hj => Nat.le_trans hb.size (h2 j hj)
/-- .. ahead of what only reads, or draws. -/
theorem Moved.ahead (hm : Moved w p o v B bs k w1) (hb : Below w1.heap.size w1 w2) : Moved w p o v B bs k w2 := by
  obtain ⟨⟨v', h1, h2⟩, h3, h4⟩ := hm
  exact ⟨⟨v', h1.below hb, h2⟩, h3.trans (Chg.new (S := Ft p v) hb) (fun _ _ h => h), h4.trans (Rest.of_block (hb.block p h1.plt))⟩
theorem Moved.drew (hm : Moved w p o v B bs k w1) : Moved w p o v B bs k w1.drew := hm.ahead (Below.refl _ _).drew
/-- .. ahead of a write to one of the first two cells. -/
theorem Moved.put1 (hm : Moved w p o v B bs k w1) (k' : Nat) : Moved w p o v B bs k' (w1.setCell ⟨p, o + 1, none⟩ (.int .i64 (k' : Int))) := by
  obtain ⟨⟨v', h1, h2⟩, h3, h4⟩ := hm
  exact ⟨⟨v', h1.put1 k', h2⟩, h3.setCell _ _ (fun _ => .inl rfl), h4.trans (Rest.set _ _ _ _ _ (by omega))⟩
theorem Moved.put0 (hm : Moved w p o v B bs k w1) (B' : Nat) (hB : B' + bs.length ≤ 9223372036854775807) : Moved w p o v B' bs k (w1.setCell ⟨p, o, none⟩ (.int .i64 (B' : Int))) := by
  obtain ⟨⟨v', h1, h2⟩, h3, h4⟩ := hm
  exact ⟨⟨v', h1.put0 B' hB, h2⟩, h3.setCell _ _ (fun _ => .inl rfl), h4.trans (Rest.set _ _ _ _ _ (by omega))⟩
end

/-- A new area. -/
theorem ar_new (w : World) : Ar (w.alloc (.cells #[.int .i64 0, .int .i64 0, .slice none 0 0] 124)) w.heap.size 0 (.slice none 0 0) 0 [] 0 :=
  ⟨⟨_, _, heap_alloc_new w _, rfl, rfl, rfl⟩, OwB.nil _ _, (fun e => by cases e), (fun z hz => by cases hz), by simp, by simp⟩











/-- Behind an append to an area's bytes: what the store wants, and what it leaves. -/
theorem append_moved {w w1 : World} {p o : Nat} {v v1 : Value} {B : Nat} {bs zs : List Nat} {k : Nat} (h : Ar w p o v B bs k) (h8 : All8 zs) (hl : bs.length + zs.length ≤ 211106232532800) (hB : B + bs.length + zs.length ≤ 9223372036854775807)
    (hown1 : OwB w1 0 v1 (bs ++ zs)) (hg1 : w.grownBy w1 v.ownBlock) (hat1 : v1.ownBlock = v.ownBlock ∨ v1.ownBlock = some w.heap.size) :
    ∃ a3 c3, v1 = .slice a3 (bs.length + zs.length) c3 ∧ w1.frozen? ⟨p, o + 2, none⟩ = false ∧ w1.cell? ⟨p, o + 2, none⟩ = some v ∧ Moved w p o v B (bs ++ zs) k (w1.setCell ⟨p, o + 2, none⟩ v1) := by
  obtain ⟨c0, c1, c2, f0, f1, f2⟩ := h.cells
  have hplt := h.plt
  have hblk : w1.heap[p]? = w.heap[p]? := hg1.block p hplt (fun e => h.far e.symm)
  have hfar1 : v1.ownBlock ≠ some p := by
    rcases hat1 with e | e
    · rw [e]; exact h.far
    · rw [e]; intro e2; cases e2; omega
  have har : Ar (w1.setCell ⟨p, o + 2, none⟩ v1) p o v1 B (bs ++ zs) k := h.put2 hblk hown1 hfar1
    (fun z hz => by
      rcases List.mem_append.1 hz with h' | h'
      · exact h.all z h'
      · exact h8 z h') (by rw [List.length_append]; exact hl) (by rw [List.length_append]; omega)
  obtain ⟨a3, c3, e3, _⟩ := hown1.row
  rw [List.length_append] at e3
  refine ⟨a3, c3, e3, by rw [World.frozen?_of_block (a := ⟨p, o + 2, none⟩) hblk]; exact f2, by rw [World.cell?_of_block (a := ⟨p, o + 2, none⟩) hblk]; exact c2, ⟨v1, har, ?_⟩,
    (Chg.of_grown hg1 (fun j _ e => .inr e)).setCell _ _ (fun _ => .inl rfl), (Rest.of_block hblk).trans (Rest.set _ _ _ _ _ (by omega))⟩
  rcases hat1 with e | e
  · exact .inl e
  · exact .inr fun j hj => by rw [e] at hj; cases hj; exact Nat.le_refl _

set_option maxRecDepth 100000 in
set_option maxHeartbeats 400000 in
theorem append_any {p o : Nat} {v : Value} {B : Nat} {bs : List Nat} {k : Nat} (w : World) (h : Ar w p o v B bs k) (a : Option Addr) (cap : Nat) (zs : List Nat) (hr : RowB w a zs) (h8 : All8 zs) (hnil : a = none → zs.length = 0 ∧ cap = 0) (hl : bs.length + zs.length ≤ 211106232532800) (hB : B + bs.length + zs.length ≤ 9223372036854775807) :
    Calls Tryz.prog 70 #[.pointer (some ⟨p, o, none⟩), .slice a zs.length cap] w fun e w' => e = .returned (.int .i64 0) ∧ Moved w p o v B (bs ++ zs) k w' := by
  obtain ⟨c0, c1, c2, f0, f1, f2⟩ := h.cells
  obtain ⟨a1, cap1, hv, _⟩ := h.own.row
  have hown := h.own
  have hH := hide_it h
  have hBB := hide_it hB
  subst hv
  clear h hB
  go_enter Tryz.func70, Tryz.ntmps70
  go_wp2_with (at_builtin; refine wpList_appendB _ rfl _ _ rfl 0 _ bs rfl hown a cap zs rfl hr hnil hl (Nat.zero_le _) ?_; intro v1 w1 hown1 hg1 hat1; obtain ⟨a3, c3, e3, hf, hc, hmv⟩ := append_moved hH.out h8 hl hBB.out hown1 hg1 hat1; subst e3; clear hown1 hg1 hat1)
  go_ret
  exact ⟨rfl, hmv⟩

set_option maxRecDepth 100000 in
set_option maxHeartbeats 400000 in
theorem sync_any {p o : Nat} {v : Value} {B : Nat} {bs : List Nat} {k : Nat} (w : World) (h : Ar w p o v B bs k) :
    Calls Tryz.prog 96 #[.pointer (some ⟨p, o, none⟩)] w fun e w' => e = .returned (.int .i64 0) ∧ Moved w p o v B bs bs.length w' := by
  obtain ⟨c0, c1, c2, f0, f1, f2⟩ := h.cells
  have hmv := (Moved.of_below h (Below.refl _ _)).put1 bs.length
  obtain ⟨a1, cap1, rfl, _⟩ := h.own.row
  clear h
  go_enter Tryz.func96, Tryz.ntmps96
  go_wp2
  go_ret
  exact ⟨rfl, hmv⟩

set_option maxRecDepth 100000 in
set_option maxHeartbeats 400000 in
theorem cut_no {p o : Nat} {v : Value} {B : Nat} {bs : List Nat} {k : Nat} (w : World) (h : Ar w p o v B bs k) (E : Int) (hE : E < (B : Int) ∨ (B : Int) + (bs.length : Int) < E) :
    Calls Tryz.prog 89 #[.pointer (some ⟨p, o, none⟩), .int .i64 E] w fun e w' => e = .returned (.int .i64 70) ∧ Moved w p o v B bs k w' := by
  obtain ⟨c0, c1, c2, f0, f1, f2⟩ := h.cells
  have hH := hide_it h
  have hen := endA_any w h
  have hE2 : E < (B : Int) ∨ ((B + bs.length : Nat) : Int) < E := by omega
  obtain ⟨F, hF⟩ : ∃ F : Int, F = ((B + bs.length : Nat) : Int) := ⟨_, rfl⟩
  rw [← hF] at hen hE2
  generalize (B : Int) = Bi at *
  clear h hE hF
  by_cases h1 : E < Bi
  · have hd : decide (E < Bi) = true := by simpa using h1
    clear hE2
    go_enter Tryz.func89, Tryz.ntmps89
    go_wp2_with fail
    go_ret
    exact ⟨rfl, Moved.of_below hH.out (Below.refl _ _)⟩
  · have h2 : F < E := by omega
    have hd : decide (E < Bi) = false := by simp; omega
    clear hE2
    go_enter Tryz.func89, Tryz.ntmps89
    go_wp2_with fail
    refine hen.mono ?_
    rintro e w1 ⟨rfl, hb1⟩
    have hmv := Moved.of_below hH.out hb1
    go_wp2_with fail
    go_ret
    exact ⟨rfl, hmv⟩

set_option maxRecDepth 100000 in
set_option maxHeartbeats 800000 in
theorem cut_ok {p o : Nat} {v : Value} {B : Nat} {bs : List Nat} {k : Nat} (w : World) (h : Ar w p o v B bs k) (m : Nat) (hm : m ≤ bs.length) (E : Int) (hE : E = (B : Int) + (m : Int)) :
    Calls Tryz.prog 89 #[.pointer (some ⟨p, o, none⟩), .int .i64 E] w fun e w' => e = .returned (.int .i64 0) ∧ Moved w p o v B (bs.take m) (min k m) w' := by
  obtain ⟨c0, c1, c2, f0, f1, f2⟩ := h.cells
  have hH := hide_it h
  have hen := endA_any w h
  have hroom := h.room
  have hw : IntKind.i64.wrap (E - (B : Int)) = (m : Int) := by rw [IntKind.wrap_i64]; omega
  have h1 : ¬ E < (B : Int) := by omega
  have h2 : ¬ ((B + bs.length : Nat) : Int) < E := by omega
  obtain ⟨F, hF⟩ : ∃ F : Int, F = ((B + bs.length : Nat) : Int) := ⟨_, rfl⟩
  rw [← hF] at hen h2
  obtain ⟨Bi, hBi⟩ : ∃ Bi : Int, Bi = (B : Int) := ⟨_, rfl⟩
  rw [← hBi] at c0 h1 hw
  have hBi2 := hide_it hBi
  obtain ⟨r, hr⟩ : ∃ r, r = min k m := ⟨_, rfl⟩
  rw [← hr]
  have hr2 := hide_it hr
  clear h hE hF hroom hBi hr
  go_enter Tryz.func89, Tryz.ntmps89
  go_wp2_with fail
  refine hen.mono ?_
  rintro e w1 ⟨rfl, hb1⟩
  have hA1 := hH.out.below hb1
  have hlv := leave_any w1 hA1 0 m (Nat.zero_le _) hm
  obtain ⟨c0', c1', c2', f0', f1', f2'⟩ := hA1.cells
  rw [← hBi2.out] at c0'
  have hA1 := hide_it hA1
  have hb1 := hide_it hb1
  clear hen c0 c1 c2 f0 f1 f2
  go_wp2_with fail
  refine hlv.mono ?_
  rintro e w2 ⟨rfl, hmv⟩
  rw [List.drop_zero] at hmv
  have hm2 := hH.out |> fun h => Moved.behind h hb1.out hmv
  obtain ⟨v2, hA2, _⟩ := hmv.ex
  obtain ⟨d0, d1, d2, g0, g1, g2⟩ := hA2.cells
  obtain ⟨a2, cap2, rfl, _⟩ := hA2.own.row
  have hlen : (bs.take m).length = m := by simp; omega
  rw [hlen] at d2
  have hend := hm2.put1 r
  clear hmv hA2 c0' c1' c2' f0' f1' f2' hlen hm2 hlv
  by_cases hk : m < k
  · obtain rfl : r = m := by have := hr2.out; omega
    go_wp2_with fail
    go_region
    all_goals go_wp2_with fail
    all_goals go_ret
    all_goals exact ⟨rfl, hend.drew⟩
  · obtain rfl : r = k := by have := hr2.out; omega
    go_wp2_with fail
    go_region
    all_goals go_wp2_with fail
    all_goals go_ret
    all_goals exact ⟨rfl, hend.drew⟩

end Go.Proofs.YtkacfpmninmjkaaGreat

namespace Go.Proofs.YtkacfpmninmjkaaGreat
open Go.RowKit

set_option maxRecDepth 100000 in
set_option maxHeartbeats 400000 in
theorem trim_no {p o : Nat} {v : Value} {B : Nat} {bs : List Nat} {k : Nat} (w : World) (h : Ar w p o v B bs k) (hk : k ≤ bs.length) (E : Int) (hE : E < (B : Int) ∨ (B : Int) + (k : Int) < E) :
    Calls Tryz.prog 87 #[.pointer (some ⟨p, o, none⟩), .int .i64 E] w fun e w' => e = .returned (.int .i64 70) ∧ Moved w p o v B bs k w' := by
  obtain ⟨c0, c1, c2, f0, f1, f2⟩ := h.cells
  have hroom := h.room
  have hw : IntKind.i64.wrap ((B : Int) + (k : Int)) = (B : Int) + (k : Int) := by rw [IntKind.wrap_i64]; omega
  have hmv := (Moved.of_below h (Below.refl _ _)).drew
  have hplt := h.plt
  obtain ⟨F, hF⟩ : ∃ F : Int, F = (B : Int) + (k : Int) := ⟨_, rfl⟩
  rw [← hF] at hE
  rw [hw.trans hF.symm |> fun e => (show (B : Int) + (k : Int) = F from hF.symm)] at hw
  by_cases h1 : E < (B : Int)
  · have hd : decide (E < (B : Int)) = true := by simpa using h1
    clear hE h hroom hF hk hw
    generalize (B : Int) = Bi at *
    go_enter Tryz.func87, Tryz.ntmps87
    go_wp2_with fail
    refine wp_region_held_drew (S := (fun w' => Below w.heap.size w w')) (by kernel_rfl) ?_ (fun hHeld => ?_)
    · exact (Below.refl _ _).drew
    refine take_on (i := 0) (v := ?_) rfl rfl (by kernel_rfl) (by kernel_rfl) (by kernel_rfl) (fun _ _ _ h => h) rfl ?_ hHeld ?_
    rotate_left
    · (intro wq hSq; have q0 := (hSq.cell (p := ⟨p, o, none⟩) hplt).trans c0; have q1 := (hSq.cell (p := ⟨p, o + 1, none⟩) hplt).trans c1; go_simp <;> first | with_reducible rfl | rfl)
    simp only [Act.put, List.setIfInBounds_toArray, List.set_cons_zero, List.set_cons_succ]
    refine take_on (i := 1) (v := ?_) rfl rfl (by kernel_rfl) (by kernel_rfl) (by kernel_rfl) (fun _ _ _ h => h) rfl ?_ hHeld ?_
    rotate_left
    · (intro wq hSq; have q0 := (hSq.cell (p := ⟨p, o, none⟩) hplt).trans c0; have q1 := (hSq.cell (p := ⟨p, o + 1, none⟩) hplt).trans c1; go_simp <;> first | with_reducible rfl | rfl)
    simp only [Act.put, List.setIfInBounds_toArray, List.set_cons_zero, List.set_cons_succ]
    refine take_on (i := 2) (v := ?_) rfl rfl (by kernel_rfl) (by kernel_rfl) (by kernel_rfl) (fun _ _ _ h => h) rfl ?_ hHeld ?_
    rotate_left
    · (intro wq hSq; have q0 := (hSq.cell (p := ⟨p, o, none⟩) hplt).trans c0; have q1 := (hSq.cell (p := ⟨p, o + 1, none⟩) hplt).trans c1; go_simp <;> first | with_reducible rfl | rfl)
    simp only [Act.put, List.setIfInBounds_toArray, List.set_cons_zero, List.set_cons_succ]
    refine take_on (i := 3) (v := ?_) rfl rfl (by kernel_rfl) (by kernel_rfl) (by kernel_rfl) (fun _ _ _ h => h) rfl ?_ hHeld ?_
    rotate_left
    · (intro wq hSq; have q0 := (hSq.cell (p := ⟨p, o, none⟩) hplt).trans c0; have q1 := (hSq.cell (p := ⟨p, o + 1, none⟩) hplt).trans c1; go_simp <;> first | with_reducible rfl | rfl)
    simp only [Act.put, List.setIfInBounds_toArray, List.set_cons_zero, List.set_cons_succ]
    refine take_on (i := 4) (v := ?_) rfl rfl (by kernel_rfl) (by kernel_rfl) (by kernel_rfl) (fun _ _ _ h => h) rfl ?_ hHeld ?_
    rotate_left
    · (intro wq hSq; have q0 := (hSq.cell (p := ⟨p, o, none⟩) hplt).trans c0; have q1 := (hSq.cell (p := ⟨p, o + 1, none⟩) hplt).trans c1; go_simp <;> first | with_reducible rfl | rfl)
    simp only [Act.put, List.setIfInBounds_toArray, List.set_cons_zero, List.set_cons_succ]
    refine take_on (i := 5) (v := ?_) rfl rfl (by kernel_rfl) (by kernel_rfl) (by kernel_rfl) (fun _ _ _ h => h) rfl ?_ hHeld ?_
    rotate_left
    · (intro wq hSq; have q0 := (hSq.cell (p := ⟨p, o, none⟩) hplt).trans c0; have q1 := (hSq.cell (p := ⟨p, o + 1, none⟩) hplt).trans c1; go_simp <;> first | with_reducible rfl | rfl)
    simp only [Act.put, List.setIfInBounds_toArray, List.set_cons_zero, List.set_cons_succ]
    refine take_on (i := 6) (v := ?_) rfl rfl (by kernel_rfl) (by kernel_rfl) (by kernel_rfl) (fun _ _ _ h => h) rfl ?_ hHeld ?_
    rotate_left
    · (intro wq hSq; have q0 := (hSq.cell (p := ⟨p, o, none⟩) hplt).trans c0; have q1 := (hSq.cell (p := ⟨p, o + 1, none⟩) hplt).trans c1; go_simp <;> first | with_reducible rfl | rfl)
    simp only [Act.put, List.setIfInBounds_toArray, List.set_cons_zero, List.set_cons_succ]
    refine take_off (i := 7) rfl rfl (by kernel_rfl) (by kernel_rfl) (by kernel_rfl) (fun _ _ _ h => h) rfl hHeld ?_
    simp only [Act.put, List.setIfInBounds_toArray, List.set_cons_zero, List.set_cons_succ]
    refine take_off (i := 8) rfl rfl (by kernel_rfl) (by kernel_rfl) (by kernel_rfl) (fun _ _ _ h => h) rfl hHeld ?_
    simp only [Act.put, List.setIfInBounds_toArray, List.set_cons_zero, List.set_cons_succ]
    refine take_off (i := 9) rfl rfl (by kernel_rfl) (by kernel_rfl) (by kernel_rfl) (fun _ _ _ h => h) rfl hHeld ?_
    simp only [Act.put, List.setIfInBounds_toArray, List.set_cons_zero, List.set_cons_succ]
    refine take_off (i := 10) rfl rfl (by kernel_rfl) (by kernel_rfl) (by kernel_rfl) (fun _ _ _ h => h) rfl hHeld ?_
    simp only [Act.put, List.setIfInBounds_toArray, List.set_cons_zero, List.set_cons_succ]
    refine take_off (i := 11) rfl rfl (by kernel_rfl) (by kernel_rfl) (by kernel_rfl) (fun _ _ _ h => h) rfl hHeld ?_
    simp only [Act.put, List.setIfInBounds_toArray, List.set_cons_zero, List.set_cons_succ]
    refine take_off (i := 12) rfl rfl (by kernel_rfl) (by kernel_rfl) (by kernel_rfl) (fun _ _ _ h => h) rfl hHeld ?_
    simp only [Act.put, List.setIfInBounds_toArray, List.set_cons_zero, List.set_cons_succ]
    refine take_off (i := 13) rfl rfl (by kernel_rfl) (by kernel_rfl) (by kernel_rfl) (fun _ _ _ h => h) rfl hHeld ?_
    simp only [Act.put, List.setIfInBounds_toArray, List.set_cons_zero, List.set_cons_succ]
    refine take_off (i := 14) rfl rfl (by kernel_rfl) (by kernel_rfl) (by kernel_rfl) (fun _ _ _ h => h) rfl hHeld ?_
    simp only [Act.put, List.setIfInBounds_toArray, List.set_cons_zero, List.set_cons_succ]
    refine take_off (i := 15) rfl rfl (by kernel_rfl) (by kernel_rfl) (by kernel_rfl) (fun _ _ _ h => h) rfl hHeld ?_
    simp only [Act.put, List.setIfInBounds_toArray, List.set_cons_zero, List.set_cons_succ]
    refine take_off (i := 16) rfl rfl (by kernel_rfl) (by kernel_rfl) (by kernel_rfl) (fun _ _ _ h => h) rfl hHeld ?_
    simp only [Act.put, List.setIfInBounds_toArray, List.set_cons_zero, List.set_cons_succ]
    refine take_off (i := 17) rfl rfl (by kernel_rfl) (by kernel_rfl) (by kernel_rfl) (fun _ _ _ h => h) rfl hHeld ?_
    simp only [Act.put, List.setIfInBounds_toArray, List.set_cons_zero, List.set_cons_succ]
    refine take_on (i := 18) (v := ?_) rfl rfl (by kernel_rfl) (by kernel_rfl) (by kernel_rfl) (fun _ _ _ h => h) rfl ?_ hHeld ?_
    rotate_left
    · (intro wq hSq; have q0 := (hSq.cell (p := ⟨p, o, none⟩) hplt).trans c0; have q1 := (hSq.cell (p := ⟨p, o + 1, none⟩) hplt).trans c1; go_simp <;> first | with_reducible rfl | rfl)
    simp only [Act.put, List.setIfInBounds_toArray, List.set_cons_zero, List.set_cons_succ]
    refine wpAnyH_done (by kernel_rfl) ?_ _
    go_wp2_with fail
    go_ret
    exact ⟨rfl, hmv⟩
  · have h2 : F < E := by omega
    have hw2 : IntKind.i64.wrap ((B : Int) + (k : Int)) = F := by rw [hF, IntKind.wrap_i64]; omega
    have hd : decide (E < (B : Int)) = false := by simp; omega
    clear hE h hroom hF hk hw
    generalize (B : Int) = Bi at *
    go_enter Tryz.func87, Tryz.ntmps87
    go_wp2_with fail
    refine wp_region_held_drew (S := (fun w' => Below w.heap.size w w')) (by kernel_rfl) ?_ (fun hHeld => ?_)
    · exact (Below.refl _ _).drew
    refine take_on (i := 0) (v := ?_) rfl rfl (by kernel_rfl) (by kernel_rfl) (by kernel_rfl) (fun _ _ _ h => h) rfl ?_ hHeld ?_
    rotate_left
    · (intro wq hSq; have q0 := (hSq.cell (p := ⟨p, o, none⟩) hplt).trans c0; have q1 := (hSq.cell (p := ⟨p, o + 1, none⟩) hplt).trans c1; go_simp <;> first | with_reducible rfl | rfl)
    simp only [Act.put, List.setIfInBounds_toArray, List.set_cons_zero, List.set_cons_succ]
    refine take_on (i := 1) (v := ?_) rfl rfl (by kernel_rfl) (by kernel_rfl) (by kernel_rfl) (fun _ _ _ h => h) rfl ?_ hHeld ?_
    rotate_left
    · (intro wq hSq; have q0 := (hSq.cell (p := ⟨p, o, none⟩) hplt).trans c0; have q1 := (hSq.cell (p := ⟨p, o + 1, none⟩) hplt).trans c1; go_simp <;> first | with_reducible rfl | rfl)
    simp only [Act.put, List.setIfInBounds_toArray, List.set_cons_zero, List.set_cons_succ]
    refine take_on (i := 2) (v := ?_) rfl rfl (by kernel_rfl) (by kernel_rfl) (by kernel_rfl) (fun _ _ _ h => h) rfl ?_ hHeld ?_
    rotate_left
    · (intro wq hSq; have q0 := (hSq.cell (p := ⟨p, o, none⟩) hplt).trans c0; have q1 := (hSq.cell (p := ⟨p, o + 1, none⟩) hplt).trans c1; go_simp <;> first | with_reducible rfl | rfl)
    simp only [Act.put, List.setIfInBounds_toArray, List.set_cons_zero, List.set_cons_succ]
    refine take_on (i := 3) (v := ?_) rfl rfl (by kernel_rfl) (by kernel_rfl) (by kernel_rfl) (fun _ _ _ h => h) rfl ?_ hHeld ?_
    rotate_left
    · (intro wq hSq; have q0 := (hSq.cell (p := ⟨p, o, none⟩) hplt).trans c0; have q1 := (hSq.cell (p := ⟨p, o + 1, none⟩) hplt).trans c1; go_simp <;> first | with_reducible rfl | rfl)
    simp only [Act.put, List.setIfInBounds_toArray, List.set_cons_zero, List.set_cons_succ]
    refine take_on (i := 4) (v := ?_) rfl rfl (by kernel_rfl) (by kernel_rfl) (by kernel_rfl) (fun _ _ _ h => h) rfl ?_ hHeld ?_
    rotate_left
    · (intro wq hSq; have q0 := (hSq.cell (p := ⟨p, o, none⟩) hplt).trans c0; have q1 := (hSq.cell (p := ⟨p, o + 1, none⟩) hplt).trans c1; go_simp <;> first | with_reducible rfl | rfl)
    simp only [Act.put, List.setIfInBounds_toArray, List.set_cons_zero, List.set_cons_succ]
    refine take_on (i := 5) (v := ?_) rfl rfl (by kernel_rfl) (by kernel_rfl) (by kernel_rfl) (fun _ _ _ h => h) rfl ?_ hHeld ?_
    rotate_left
    · (intro wq hSq; have q0 := (hSq.cell (p := ⟨p, o, none⟩) hplt).trans c0; have q1 := (hSq.cell (p := ⟨p, o + 1, none⟩) hplt).trans c1; go_simp <;> first | with_reducible rfl | rfl)
    simp only [Act.put, List.setIfInBounds_toArray, List.set_cons_zero, List.set_cons_succ]
    refine take_on (i := 6) (v := ?_) rfl rfl (by kernel_rfl) (by kernel_rfl) (by kernel_rfl) (fun _ _ _ h => h) rfl ?_ hHeld ?_
    rotate_left
    · (intro wq hSq; have q0 := (hSq.cell (p := ⟨p, o, none⟩) hplt).trans c0; have q1 := (hSq.cell (p := ⟨p, o + 1, none⟩) hplt).trans c1; go_simp <;> first | with_reducible rfl | rfl)
    simp only [Act.put, List.setIfInBounds_toArray, List.set_cons_zero, List.set_cons_succ]
    refine take_on (i := 7) (v := ?_) rfl rfl (by kernel_rfl) (by kernel_rfl) (by kernel_rfl) (fun _ _ _ h => h) rfl ?_ hHeld ?_
    rotate_left
    · (intro wq hSq; have q0 := (hSq.cell (p := ⟨p, o, none⟩) hplt).trans c0; have q1 := (hSq.cell (p := ⟨p, o + 1, none⟩) hplt).trans c1; go_simp <;> first | with_reducible rfl | rfl)
    simp only [Act.put, List.setIfInBounds_toArray, List.set_cons_zero, List.set_cons_succ]
    refine take_on (i := 8) (v := ?_) rfl rfl (by kernel_rfl) (by kernel_rfl) (by kernel_rfl) (fun _ _ _ h => h) rfl ?_ hHeld ?_
    rotate_left
    · (intro wq hSq; have q0 := (hSq.cell (p := ⟨p, o, none⟩) hplt).trans c0; have q1 := (hSq.cell (p := ⟨p, o + 1, none⟩) hplt).trans c1; go_simp <;> first | with_reducible rfl | rfl)
    simp only [Act.put, List.setIfInBounds_toArray, List.set_cons_zero, List.set_cons_succ]
    refine take_on (i := 9) (v := ?_) rfl rfl (by kernel_rfl) (by kernel_rfl) (by kernel_rfl) (fun _ _ _ h => h) rfl ?_ hHeld ?_
    rotate_left
    · (intro wq hSq; have q0 := (hSq.cell (p := ⟨p, o, none⟩) hplt).trans c0; have q1 := (hSq.cell (p := ⟨p, o + 1, none⟩) hplt).trans c1; go_simp <;> first | with_reducible rfl | rfl)
    simp only [Act.put, List.setIfInBounds_toArray, List.set_cons_zero, List.set_cons_succ]
    refine take_on (i := 10) (v := ?_) rfl rfl (by kernel_rfl) (by kernel_rfl) (by kernel_rfl) (fun _ _ _ h => h) rfl ?_ hHeld ?_
    rotate_left
    · (intro wq hSq; have q0 := (hSq.cell (p := ⟨p, o, none⟩) hplt).trans c0; have q1 := (hSq.cell (p := ⟨p, o + 1, none⟩) hplt).trans c1; go_simp <;> first | with_reducible rfl | rfl)
    simp only [Act.put, List.setIfInBounds_toArray, List.set_cons_zero, List.set_cons_succ]
    refine take_on (i := 11) (v := ?_) rfl rfl (by kernel_rfl) (by kernel_rfl) (by kernel_rfl) (fun _ _ _ h => h) rfl ?_ hHeld ?_
    rotate_left
    · (intro wq hSq; have q0 := (hSq.cell (p := ⟨p, o, none⟩) hplt).trans c0; have q1 := (hSq.cell (p := ⟨p, o + 1, none⟩) hplt).trans c1; go_simp <;> first | with_reducible rfl | rfl)
    simp only [Act.put, List.setIfInBounds_toArray, List.set_cons_zero, List.set_cons_succ]
    refine take_on (i := 12) (v := ?_) rfl rfl (by kernel_rfl) (by kernel_rfl) (by kernel_rfl) (fun _ _ _ h => h) rfl ?_ hHeld ?_
    rotate_left
    · (intro wq hSq; have q0 := (hSq.cell (p := ⟨p, o, none⟩) hplt).trans c0; have q1 := (hSq.cell (p := ⟨p, o + 1, none⟩) hplt).trans c1; go_simp <;> first | with_reducible rfl | rfl)
    simp only [Act.put, List.setIfInBounds_toArray, List.set_cons_zero, List.set_cons_succ]
    refine take_on (i := 13) (v := ?_) rfl rfl (by kernel_rfl) (by kernel_rfl) (by kernel_rfl) (fun _ _ _ h => h) rfl ?_ hHeld ?_
    rotate_left
    · (intro wq hSq; have q0 := (hSq.cell (p := ⟨p, o, none⟩) hplt).trans c0; have q1 := (hSq.cell (p := ⟨p, o + 1, none⟩) hplt).trans c1; go_simp <;> first | with_reducible rfl | rfl)
    simp only [Act.put, List.setIfInBounds_toArray, List.set_cons_zero, List.set_cons_succ]
    refine take_on (i := 14) (v := ?_) rfl rfl (by kernel_rfl) (by kernel_rfl) (by kernel_rfl) (fun _ _ _ h => h) rfl ?_ hHeld ?_
    rotate_left
    · (intro wq hSq; have q0 := (hSq.cell (p := ⟨p, o, none⟩) hplt).trans c0; have q1 := (hSq.cell (p := ⟨p, o + 1, none⟩) hplt).trans c1; go_simp <;> first | with_reducible rfl | rfl)
    simp only [Act.put, List.setIfInBounds_toArray, List.set_cons_zero, List.set_cons_succ]
    refine take_on (i := 15) (v := ?_) rfl rfl (by kernel_rfl) (by kernel_rfl) (by kernel_rfl) (fun _ _ _ h => h) rfl ?_ hHeld ?_
    rotate_left
    · (intro wq hSq; have q0 := (hSq.cell (p := ⟨p, o, none⟩) hplt).trans c0; have q1 := (hSq.cell (p := ⟨p, o + 1, none⟩) hplt).trans c1; go_simp <;> first | with_reducible rfl | rfl)
    simp only [Act.put, List.setIfInBounds_toArray, List.set_cons_zero, List.set_cons_succ]
    refine take_on (i := 16) (v := ?_) rfl rfl (by kernel_rfl) (by kernel_rfl) (by kernel_rfl) (fun _ _ _ h => h) rfl ?_ hHeld ?_
    rotate_left
    · (intro wq hSq; have q0 := (hSq.cell (p := ⟨p, o, none⟩) hplt).trans c0; have q1 := (hSq.cell (p := ⟨p, o + 1, none⟩) hplt).trans c1; go_simp <;> first | with_reducible rfl | rfl)
    simp only [Act.put, List.setIfInBounds_toArray, List.set_cons_zero, List.set_cons_succ]
    refine take_on (i := 17) (v := ?_) rfl rfl (by kernel_rfl) (by kernel_rfl) (by kernel_rfl) (fun _ _ _ h => h) rfl ?_ hHeld ?_
    rotate_left
    · (intro wq hSq; have q0 := (hSq.cell (p := ⟨p, o, none⟩) hplt).trans c0; have q1 := (hSq.cell (p := ⟨p, o + 1, none⟩) hplt).trans c1; go_simp <;> first | with_reducible rfl | rfl)
    simp only [Act.put, List.setIfInBounds_toArray, List.set_cons_zero, List.set_cons_succ]
    refine take_on (i := 18) (v := ?_) rfl rfl (by kernel_rfl) (by kernel_rfl) (by kernel_rfl) (fun _ _ _ h => h) rfl ?_ hHeld ?_
    rotate_left
    · (intro wq hSq; have q0 := (hSq.cell (p := ⟨p, o, none⟩) hplt).trans c0; have q1 := (hSq.cell (p := ⟨p, o + 1, none⟩) hplt).trans c1; go_simp <;> first | with_reducible rfl | rfl)
    simp only [Act.put, List.setIfInBounds_toArray, List.set_cons_zero, List.set_cons_succ]
    refine wpAnyH_done (by kernel_rfl) ?_ _
    go_wp2_with fail
    go_ret
    exact ⟨rfl, hmv⟩

set_option maxRecDepth 100000 in
set_option maxHeartbeats 800000 in
theorem trim_ok {p o : Nat} {v : Value} {B : Nat} {bs : List Nat} {k : Nat} (w : World) (h : Ar w p o v B bs k) (hk : k ≤ bs.length) (m : Nat) (hm : m ≤ k) (E : Int) (hE : E = (B : Int) + (m : Int)) :
    Calls Tryz.prog 87 #[.pointer (some ⟨p, o, none⟩), .int .i64 E] w fun e w' => e = .returned (.int .i64 0) ∧ Moved w p o v (B + m) (bs.drop m) (k - m) w' := by
  have hroom := h.room
  have hA1 := h.drew
  have hplt := h.plt
  obtain ⟨c0, c1, c2, f0, f1, f2⟩ := h.cells
  obtain ⟨d0, d1, d2, _⟩ := hA1.cells
  have hlv := leave_any w.drew hA1 m bs.length (by omega) (Nat.le_refl _)
  rw [List.take_length] at hlv
  obtain ⟨a, cap, rfl, _⟩ := h.own.row
  have hH := hide_it h
  have hw : IntKind.i64.wrap (E - (B : Int)) = (m : Int) := by rw [IntKind.wrap_i64]; omega
  have hw2 : IntKind.i64.wrap ((k : Int) - (m : Int)) = ((k - m : Nat) : Int) := by rw [IntKind.wrap_i64]; omega
  obtain ⟨F, hF⟩ : ∃ F : Int, F = (B : Int) + (k : Int) := ⟨_, rfl⟩
  have hw3 : IntKind.i64.wrap ((B : Int) + (k : Int)) = F := by rw [hF, IntKind.wrap_i64]; omega
  have h1 : ¬ E < (B : Int) := by omega
  have hd : decide (E < (B : Int)) = false := by simpa using h1
  have h2 : ¬ F < E := by omega
  have hB2 : (B + m) + (bs.drop m).length ≤ 9223372036854775807 := by rw [List.length_drop]; omega
  have hEe : E = ((B + m : Nat) : Int) := by omega
  replace hB2 := hide_it hB2
  replace hEe := hide_it hEe
  obtain ⟨Bi, hBi⟩ : ∃ Bi : Int, Bi = (B : Int) := ⟨_, rfl⟩
  rw [← hBi] at c0 d0 h1 hw hw3 hd
  clear h hE hF hroom hBi hA1
  go_enter Tryz.func87, Tryz.ntmps87
  go_wp2_with fail
  refine wp_region_held_drew (S := (fun w' => Below w.heap.size w w')) (by kernel_rfl) ?_ (fun hHeld => ?_)
  · exact (Below.refl _ _).drew
  refine take_on (i := 0) (v := ?_) rfl rfl (by kernel_rfl) (by kernel_rfl) (by kernel_rfl) (fun _ _ _ h => h) rfl ?_ hHeld ?_
  rotate_left
  · (intro wq hSq; have q0 := (hSq.cell (p := ⟨p, o, none⟩) hplt).trans c0; have q1 := (hSq.cell (p := ⟨p, o + 1, none⟩) hplt).trans c1; go_simp <;> first | with_reducible rfl | rfl)
  simp only [Act.put, List.setIfInBounds_toArray, List.set_cons_zero, List.set_cons_succ]
  refine take_on (i := 1) (v := ?_) rfl rfl (by kernel_rfl) (by kernel_rfl) (by kernel_rfl) (fun _ _ _ h => h) rfl ?_ hHeld ?_
  rotate_left
  · (intro wq hSq; have q0 := (hSq.cell (p := ⟨p, o, none⟩) hplt).trans c0; have q1 := (hSq.cell (p := ⟨p, o + 1, none⟩) hplt).trans c1; go_simp <;> first | with_reducible rfl | rfl)
  simp only [Act.put, List.setIfInBounds_toArray, List.set_cons_zero, List.set_cons_succ]
  refine take_on (i := 2) (v := ?_) rfl rfl (by kernel_rfl) (by kernel_rfl) (by kernel_rfl) (fun _ _ _ h => h) rfl ?_ hHeld ?_
  rotate_left
  · (intro wq hSq; have q0 := (hSq.cell (p := ⟨p, o, none⟩) hplt).trans c0; have q1 := (hSq.cell (p := ⟨p, o + 1, none⟩) hplt).trans c1; go_simp <;> first | with_reducible rfl | rfl)
  simp only [Act.put, List.setIfInBounds_toArray, List.set_cons_zero, List.set_cons_succ]
  refine take_on (i := 3) (v := ?_) rfl rfl (by kernel_rfl) (by kernel_rfl) (by kernel_rfl) (fun _ _ _ h => h) rfl ?_ hHeld ?_
  rotate_left
  · (intro wq hSq; have q0 := (hSq.cell (p := ⟨p, o, none⟩) hplt).trans c0; have q1 := (hSq.cell (p := ⟨p, o + 1, none⟩) hplt).trans c1; go_simp <;> first | with_reducible rfl | rfl)
  simp only [Act.put, List.setIfInBounds_toArray, List.set_cons_zero, List.set_cons_succ]
  refine take_on (i := 4) (v := ?_) rfl rfl (by kernel_rfl) (by kernel_rfl) (by kernel_rfl) (fun _ _ _ h => h) rfl ?_ hHeld ?_
  rotate_left
  · (intro wq hSq; have q0 := (hSq.cell (p := ⟨p, o, none⟩) hplt).trans c0; have q1 := (hSq.cell (p := ⟨p, o + 1, none⟩) hplt).trans c1; go_simp <;> first | with_reducible rfl | rfl)
  simp only [Act.put, List.setIfInBounds_toArray, List.set_cons_zero, List.set_cons_succ]
  refine take_on (i := 5) (v := ?_) rfl rfl (by kernel_rfl) (by kernel_rfl) (by kernel_rfl) (fun _ _ _ h => h) rfl ?_ hHeld ?_
  rotate_left
  · (intro wq hSq; have q0 := (hSq.cell (p := ⟨p, o, none⟩) hplt).trans c0; have q1 := (hSq.cell (p := ⟨p, o + 1, none⟩) hplt).trans c1; go_simp <;> first | with_reducible rfl | rfl)
  simp only [Act.put, List.setIfInBounds_toArray, List.set_cons_zero, List.set_cons_succ]
  refine take_on (i := 6) (v := ?_) rfl rfl (by kernel_rfl) (by kernel_rfl) (by kernel_rfl) (fun _ _ _ h => h) rfl ?_ hHeld ?_
  rotate_left
  · (intro wq hSq; have q0 := (hSq.cell (p := ⟨p, o, none⟩) hplt).trans c0; have q1 := (hSq.cell (p := ⟨p, o + 1, none⟩) hplt).trans c1; go_simp <;> first | with_reducible rfl | rfl)
  simp only [Act.put, List.setIfInBounds_toArray, List.set_cons_zero, List.set_cons_succ]
  refine take_on (i := 7) (v := ?_) rfl rfl (by kernel_rfl) (by kernel_rfl) (by kernel_rfl) (fun _ _ _ h => h) rfl ?_ hHeld ?_
  rotate_left
  · (intro wq hSq; have q0 := (hSq.cell (p := ⟨p, o, none⟩) hplt).trans c0; have q1 := (hSq.cell (p := ⟨p, o + 1, none⟩) hplt).trans c1; go_simp <;> first | with_reducible rfl | rfl)
  simp only [Act.put, List.setIfInBounds_toArray, List.set_cons_zero, List.set_cons_succ]
  refine take_on (i := 8) (v := ?_) rfl rfl (by kernel_rfl) (by kernel_rfl) (by kernel_rfl) (fun _ _ _ h => h) rfl ?_ hHeld ?_
  rotate_left
  · (intro wq hSq; have q0 := (hSq.cell (p := ⟨p, o, none⟩) hplt).trans c0; have q1 := (hSq.cell (p := ⟨p, o + 1, none⟩) hplt).trans c1; go_simp <;> first | with_reducible rfl | rfl)
  simp only [Act.put, List.setIfInBounds_toArray, List.set_cons_zero, List.set_cons_succ]
  refine take_on (i := 9) (v := ?_) rfl rfl (by kernel_rfl) (by kernel_rfl) (by kernel_rfl) (fun _ _ _ h => h) rfl ?_ hHeld ?_
  rotate_left
  · (intro wq hSq; have q0 := (hSq.cell (p := ⟨p, o, none⟩) hplt).trans c0; have q1 := (hSq.cell (p := ⟨p, o + 1, none⟩) hplt).trans c1; go_simp <;> first | with_reducible rfl | rfl)
  simp only [Act.put, List.setIfInBounds_toArray, List.set_cons_zero, List.set_cons_succ]
  refine take_on (i := 10) (v := ?_) rfl rfl (by kernel_rfl) (by kernel_rfl) (by kernel_rfl) (fun _ _ _ h => h) rfl ?_ hHeld ?_
  rotate_left
  · (intro wq hSq; have q0 := (hSq.cell (p := ⟨p, o, none⟩) hplt).trans c0; have q1 := (hSq.cell (p := ⟨p, o + 1, none⟩) hplt).trans c1; go_simp <;> first | with_reducible rfl | rfl)
  simp only [Act.put, List.setIfInBounds_toArray, List.set_cons_zero, List.set_cons_succ]
  refine take_on (i := 11) (v := ?_) rfl rfl (by kernel_rfl) (by kernel_rfl) (by kernel_rfl) (fun _ _ _ h => h) rfl ?_ hHeld ?_
  rotate_left
  · (intro wq hSq; have q0 := (hSq.cell (p := ⟨p, o, none⟩) hplt).trans c0; have q1 := (hSq.cell (p := ⟨p, o + 1, none⟩) hplt).trans c1; go_simp <;> first | with_reducible rfl | rfl)
  simp only [Act.put, List.setIfInBounds_toArray, List.set_cons_zero, List.set_cons_succ]
  refine take_on (i := 12) (v := ?_) rfl rfl (by kernel_rfl) (by kernel_rfl) (by kernel_rfl) (fun _ _ _ h => h) rfl ?_ hHeld ?_
  rotate_left
  · (intro wq hSq; have q0 := (hSq.cell (p := ⟨p, o, none⟩) hplt).trans c0; have q1 := (hSq.cell (p := ⟨p, o + 1, none⟩) hplt).trans c1; go_simp <;> first | with_reducible rfl | rfl)
  simp only [Act.put, List.setIfInBounds_toArray, List.set_cons_zero, List.set_cons_succ]
  refine take_on (i := 13) (v := ?_) rfl rfl (by kernel_rfl) (by kernel_rfl) (by kernel_rfl) (fun _ _ _ h => h) rfl ?_ hHeld ?_
  rotate_left
  · (intro wq hSq; have q0 := (hSq.cell (p := ⟨p, o, none⟩) hplt).trans c0; have q1 := (hSq.cell (p := ⟨p, o + 1, none⟩) hplt).trans c1; go_simp <;> first | with_reducible rfl | rfl)
  simp only [Act.put, List.setIfInBounds_toArray, List.set_cons_zero, List.set_cons_succ]
  refine take_on (i := 14) (v := ?_) rfl rfl (by kernel_rfl) (by kernel_rfl) (by kernel_rfl) (fun _ _ _ h => h) rfl ?_ hHeld ?_
  rotate_left
  · (intro wq hSq; have q0 := (hSq.cell (p := ⟨p, o, none⟩) hplt).trans c0; have q1 := (hSq.cell (p := ⟨p, o + 1, none⟩) hplt).trans c1; go_simp <;> first | with_reducible rfl | rfl)
  simp only [Act.put, List.setIfInBounds_toArray, List.set_cons_zero, List.set_cons_succ]
  refine take_on (i := 15) (v := ?_) rfl rfl (by kernel_rfl) (by kernel_rfl) (by kernel_rfl) (fun _ _ _ h => h) rfl ?_ hHeld ?_
  rotate_left
  · (intro wq hSq; have q0 := (hSq.cell (p := ⟨p, o, none⟩) hplt).trans c0; have q1 := (hSq.cell (p := ⟨p, o + 1, none⟩) hplt).trans c1; go_simp <;> first | with_reducible rfl | rfl)
  simp only [Act.put, List.setIfInBounds_toArray, List.set_cons_zero, List.set_cons_succ]
  refine take_on (i := 16) (v := ?_) rfl rfl (by kernel_rfl) (by kernel_rfl) (by kernel_rfl) (fun _ _ _ h => h) rfl ?_ hHeld ?_
  rotate_left
  · (intro wq hSq; have q0 := (hSq.cell (p := ⟨p, o, none⟩) hplt).trans c0; have q1 := (hSq.cell (p := ⟨p, o + 1, none⟩) hplt).trans c1; go_simp <;> first | with_reducible rfl | rfl)
  simp only [Act.put, List.setIfInBounds_toArray, List.set_cons_zero, List.set_cons_succ]
  refine take_on (i := 17) (v := ?_) rfl rfl (by kernel_rfl) (by kernel_rfl) (by kernel_rfl) (fun _ _ _ h => h) rfl ?_ hHeld ?_
  rotate_left
  · (intro wq hSq; have q0 := (hSq.cell (p := ⟨p, o, none⟩) hplt).trans c0; have q1 := (hSq.cell (p := ⟨p, o + 1, none⟩) hplt).trans c1; go_simp <;> first | with_reducible rfl | rfl)
  simp only [Act.put, List.setIfInBounds_toArray, List.set_cons_zero, List.set_cons_succ]
  refine take_on (i := 18) (v := ?_) rfl rfl (by kernel_rfl) (by kernel_rfl) (by kernel_rfl) (fun _ _ _ h => h) rfl ?_ hHeld ?_
  rotate_left
  · (intro wq hSq; have q0 := (hSq.cell (p := ⟨p, o, none⟩) hplt).trans c0; have q1 := (hSq.cell (p := ⟨p, o + 1, none⟩) hplt).trans c1; go_simp <;> first | with_reducible rfl | rfl)
  simp only [Act.put, List.setIfInBounds_toArray, List.set_cons_zero, List.set_cons_succ]
  refine wpAnyH_done (by kernel_rfl) ?_ _
  go_wp2_with fail
  refine hlv.mono ?_
  rintro e w2 ⟨rfl, hmv⟩
  have hm2 := Moved.behind hH.out (Below.refl _ _).drew hmv
  obtain ⟨v2, hA2, _⟩ := hmv.ex
  obtain ⟨e0, e1, e2, g0, g1, g2⟩ := hA2.cells
  have hm3 := hm2.put1 (k - m)
  have hm4 := hm3.put0 (B + m) hB2.out
  rw [← hEe.out] at hm4
  have q0 : (w2.setCell ⟨p, o + 1, none⟩ (.int .i64 ((k - m : Nat) : Int))).frozen? ⟨p, o, none⟩ = false := by
    obtain ⟨v3, hA3, _⟩ := hm3.ex
    exact hA3.cells.2.2.2.1
  have q1 : ∃ u, (w2.setCell ⟨p, o + 1, none⟩ (.int .i64 ((k - m : Nat) : Int))).cell? ⟨p, o, none⟩ = some u := by
    obtain ⟨v3, hA3, _⟩ := hm3.ex
    exact ⟨_, hA3.cells.1⟩
  obtain ⟨u, q1⟩ := q1
  clear hmv hm2 hA2 hlv c0 c1 c2 d0 d1 d2 hm3
  go_wp2_with fail
  go_ret
  exact ⟨rfl, hm4⟩

set_option maxRecDepth 100000 in
set_option maxHeartbeats 400000 in
theorem bounds_any {p o : Nat} {v : Value} {B : Nat} {bs : List Nat} {k : Nat} (w : World) (h : Ar w p o v B bs k) (hk : k ≤ bs.length) :
    Calls Tryz.prog 62 #[.pointer (some ⟨p, o, none⟩)] w fun e w' => e = .returned (.tuple #[.int .i64 (B : Int), .int .i64 ((B + k : Nat) : Int), .int .i64 ((B + bs.length : Nat) : Int)]) ∧ Below w.heap.size w w' := by
  have hroom := h.room
  have hen := endA_any w.drew h.drew
  obtain ⟨c0, c1, c2, f0, f1, f2⟩ := h.cells
  have hw : IntKind.i64.wrap ((B : Int) + (k : Int)) = ((B + k : Nat) : Int) := by rw [IntKind.wrap_i64]; omega
  have hplt := h.plt
  obtain ⟨F, hF⟩ : ∃ F : Nat, F = B + k := ⟨_, rfl⟩
  obtain ⟨G, hG⟩ : ∃ G : Nat, G = B + bs.length := ⟨_, rfl⟩
  rw [← hF] at hw
  rw [← hG] at hen
  rw [← hF, ← hG]
  clear hF hG hroom h hk
  go_enter Tryz.func62, Tryz.ntmps62
  go_wp2_with fail
  refine wp_region_held_drew (S := (fun w' => Below w.heap.size w w')) (by kernel_rfl) ?_ (fun hHeld => ?_)
  · exact (Below.refl _ _).drew
  refine take_on (i := 0) (v := ?_) rfl rfl (by kernel_rfl) (by kernel_rfl) (by kernel_rfl) (fun _ _ _ h => h) rfl ?_ hHeld ?_
  rotate_left
  · (intro wq hSq; have q0 := (hSq.cell (p := ⟨p, o, none⟩) hplt).trans c0; have q1 := (hSq.cell (p := ⟨p, o + 1, none⟩) hplt).trans c1; have q2 := (hSq.cell (p := ⟨p, o + 2, none⟩) hplt).trans c2; go_simp <;> first | with_reducible rfl | rfl)
  simp only [Act.put, List.setIfInBounds_toArray, List.set_cons_zero, List.set_cons_succ]
  refine take_on (i := 1) (v := ?_) rfl rfl (by kernel_rfl) (by kernel_rfl) (by kernel_rfl) (fun _ _ _ h => h) rfl ?_ hHeld ?_
  rotate_left
  · (intro wq hSq; have q0 := (hSq.cell (p := ⟨p, o, none⟩) hplt).trans c0; have q1 := (hSq.cell (p := ⟨p, o + 1, none⟩) hplt).trans c1; have q2 := (hSq.cell (p := ⟨p, o + 2, none⟩) hplt).trans c2; go_simp <;> first | with_reducible rfl | rfl)
  simp only [Act.put, List.setIfInBounds_toArray, List.set_cons_zero, List.set_cons_succ]
  refine take_on (i := 2) (v := ?_) rfl rfl (by kernel_rfl) (by kernel_rfl) (by kernel_rfl) (fun _ _ _ h => h) rfl ?_ hHeld ?_
  rotate_left
  · (intro wq hSq; have q0 := (hSq.cell (p := ⟨p, o, none⟩) hplt).trans c0; have q1 := (hSq.cell (p := ⟨p, o + 1, none⟩) hplt).trans c1; have q2 := (hSq.cell (p := ⟨p, o + 2, none⟩) hplt).trans c2; go_simp <;> first | with_reducible rfl | rfl)
  simp only [Act.put, List.setIfInBounds_toArray, List.set_cons_zero, List.set_cons_succ]
  refine take_on (i := 3) (v := ?_) rfl rfl (by kernel_rfl) (by kernel_rfl) (by kernel_rfl) (fun _ _ _ h => h) rfl ?_ hHeld ?_
  rotate_left
  · (intro wq hSq; have q0 := (hSq.cell (p := ⟨p, o, none⟩) hplt).trans c0; have q1 := (hSq.cell (p := ⟨p, o + 1, none⟩) hplt).trans c1; have q2 := (hSq.cell (p := ⟨p, o + 2, none⟩) hplt).trans c2; go_simp <;> first | with_reducible rfl | rfl)
  simp only [Act.put, List.setIfInBounds_toArray, List.set_cons_zero, List.set_cons_succ]
  refine take_on (i := 4) (v := ?_) rfl rfl (by kernel_rfl) (by kernel_rfl) (by kernel_rfl) (fun _ _ _ h => h) rfl ?_ hHeld ?_
  rotate_left
  · (intro wq hSq; have q0 := (hSq.cell (p := ⟨p, o, none⟩) hplt).trans c0; have q1 := (hSq.cell (p := ⟨p, o + 1, none⟩) hplt).trans c1; have q2 := (hSq.cell (p := ⟨p, o + 2, none⟩) hplt).trans c2; go_simp <;> first | with_reducible rfl | rfl)
  simp only [Act.put, List.setIfInBounds_toArray, List.set_cons_zero, List.set_cons_succ]
  refine take_on (i := 5) (v := ?_) rfl rfl (by kernel_rfl) (by kernel_rfl) (by kernel_rfl) (fun _ _ _ h => h) rfl ?_ hHeld ?_
  rotate_left
  · (intro wq hSq; have q0 := (hSq.cell (p := ⟨p, o, none⟩) hplt).trans c0; have q1 := (hSq.cell (p := ⟨p, o + 1, none⟩) hplt).trans c1; have q2 := (hSq.cell (p := ⟨p, o + 2, none⟩) hplt).trans c2; go_simp <;> first | with_reducible rfl | rfl)
  simp only [Act.put, List.setIfInBounds_toArray, List.set_cons_zero, List.set_cons_succ]
  refine take_on (i := 6) (v := ?_) rfl rfl (by kernel_rfl) (by kernel_rfl) (by kernel_rfl) (fun _ _ _ h => h) rfl ?_ hHeld ?_
  rotate_left
  · (intro wq hSq; have q0 := (hSq.cell (p := ⟨p, o, none⟩) hplt).trans c0; have q1 := (hSq.cell (p := ⟨p, o + 1, none⟩) hplt).trans c1; have q2 := (hSq.cell (p := ⟨p, o + 2, none⟩) hplt).trans c2; go_simp <;> first | with_reducible rfl | rfl)
  simp only [Act.put, List.setIfInBounds_toArray, List.set_cons_zero, List.set_cons_succ]
  refine take_on (i := 7) (v := ?_) rfl rfl (by kernel_rfl) (by kernel_rfl) (by kernel_rfl) (fun _ _ _ h => h) rfl ?_ hHeld ?_
  rotate_left
  · (intro wq hSq; have q0 := (hSq.cell (p := ⟨p, o, none⟩) hplt).trans c0; have q1 := (hSq.cell (p := ⟨p, o + 1, none⟩) hplt).trans c1; have q2 := (hSq.cell (p := ⟨p, o + 2, none⟩) hplt).trans c2; go_simp <;> first | with_reducible rfl | rfl)
  simp only [Act.put, List.setIfInBounds_toArray, List.set_cons_zero, List.set_cons_succ]
  refine take_on (i := 8) (v := ?_) rfl rfl (by kernel_rfl) (by kernel_rfl) (by kernel_rfl) (fun _ _ _ h => h) rfl ?_ hHeld ?_
  rotate_left
  · (intro wq hSq; have q0 := (hSq.cell (p := ⟨p, o, none⟩) hplt).trans c0; have q1 := (hSq.cell (p := ⟨p, o + 1, none⟩) hplt).trans c1; have q2 := (hSq.cell (p := ⟨p, o + 2, none⟩) hplt).trans c2; go_simp <;> first | with_reducible rfl | rfl)
  simp only [Act.put, List.setIfInBounds_toArray, List.set_cons_zero, List.set_cons_succ]
  refine take_on (i := 9) (v := ?_) rfl rfl (by kernel_rfl) (by kernel_rfl) (by kernel_rfl) (fun _ _ _ h => h) rfl ?_ hHeld ?_
  rotate_left
  · (intro wq hSq; have q0 := (hSq.cell (p := ⟨p, o, none⟩) hplt).trans c0; have q1 := (hSq.cell (p := ⟨p, o + 1, none⟩) hplt).trans c1; have q2 := (hSq.cell (p := ⟨p, o + 2, none⟩) hplt).trans c2; go_simp <;> first | with_reducible rfl | rfl)
  simp only [Act.put, List.setIfInBounds_toArray, List.set_cons_zero, List.set_cons_succ]
  refine take_on (i := 10) (v := ?_) rfl rfl (by kernel_rfl) (by kernel_rfl) (by kernel_rfl) (fun _ _ _ h => h) rfl ?_ hHeld ?_
  rotate_left
  · (intro wq hSq; have q0 := (hSq.cell (p := ⟨p, o, none⟩) hplt).trans c0; have q1 := (hSq.cell (p := ⟨p, o + 1, none⟩) hplt).trans c1; have q2 := (hSq.cell (p := ⟨p, o + 2, none⟩) hplt).trans c2; go_simp <;> first | with_reducible rfl | rfl)
  simp only [Act.put, List.setIfInBounds_toArray, List.set_cons_zero, List.set_cons_succ]
  refine take_on (i := 11) (v := ?_) rfl rfl (by kernel_rfl) (by kernel_rfl) (by kernel_rfl) (fun _ _ _ h => h) rfl ?_ hHeld ?_
  rotate_left
  · (intro wq hSq; have q0 := (hSq.cell (p := ⟨p, o, none⟩) hplt).trans c0; have q1 := (hSq.cell (p := ⟨p, o + 1, none⟩) hplt).trans c1; have q2 := (hSq.cell (p := ⟨p, o + 2, none⟩) hplt).trans c2; go_simp <;> first | with_reducible rfl | rfl)
  simp only [Act.put, List.setIfInBounds_toArray, List.set_cons_zero, List.set_cons_succ]
  refine take_on (i := 12) (v := ?_) rfl rfl (by kernel_rfl) (by kernel_rfl) (by kernel_rfl) (fun _ _ _ h => h) rfl ?_ hHeld ?_
  rotate_left
  · (intro wq hSq; have q0 := (hSq.cell (p := ⟨p, o, none⟩) hplt).trans c0; have q1 := (hSq.cell (p := ⟨p, o + 1, none⟩) hplt).trans c1; have q2 := (hSq.cell (p := ⟨p, o + 2, none⟩) hplt).trans c2; go_simp <;> first | with_reducible rfl | rfl)
  simp only [Act.put, List.setIfInBounds_toArray, List.set_cons_zero, List.set_cons_succ]
  refine take_on (i := 13) (v := ?_) rfl rfl (by kernel_rfl) (by kernel_rfl) (by kernel_rfl) (fun _ _ _ h => h) rfl ?_ hHeld ?_
  rotate_left
  · (intro wq hSq; have q0 := (hSq.cell (p := ⟨p, o, none⟩) hplt).trans c0; have q1 := (hSq.cell (p := ⟨p, o + 1, none⟩) hplt).trans c1; have q2 := (hSq.cell (p := ⟨p, o + 2, none⟩) hplt).trans c2; go_simp <;> first | with_reducible rfl | rfl)
  simp only [Act.put, List.setIfInBounds_toArray, List.set_cons_zero, List.set_cons_succ]
  refine take_one (i := 14) rfl (by kernel_rfl) (fun K hK => ?_)
  go_simp
  refine hen.mono ?_; rintro e y1 ⟨rfl, hb1⟩
  try go_wp2_with fail
  refine hK.out _ _ ?_ (fun hHeld => ?_)
  · exact hHeld.trans hb1
  clear hK K
  try simp only [Act.put, List.setIfInBounds_toArray, List.set_cons_zero, List.set_cons_succ]
  refine take_on (i := 15) (v := ?_) rfl rfl (by kernel_rfl) (by kernel_rfl) (by kernel_rfl) (fun _ _ _ h => h) rfl ?_ hHeld ?_
  rotate_left
  · (intro wq hSq; have q0 := (hSq.cell (p := ⟨p, o, none⟩) hplt).trans c0; have q1 := (hSq.cell (p := ⟨p, o + 1, none⟩) hplt).trans c1; have q2 := (hSq.cell (p := ⟨p, o + 2, none⟩) hplt).trans c2; go_simp <;> first | with_reducible rfl | rfl)
  simp only [Act.put, List.setIfInBounds_toArray, List.set_cons_zero, List.set_cons_succ]
  refine take_on (i := 16) (v := ?_) rfl rfl (by kernel_rfl) (by kernel_rfl) (by kernel_rfl) (fun _ _ _ h => h) rfl ?_ hHeld ?_
  rotate_left
  · (intro wq hSq; have q0 := (hSq.cell (p := ⟨p, o, none⟩) hplt).trans c0; have q1 := (hSq.cell (p := ⟨p, o + 1, none⟩) hplt).trans c1; have q2 := (hSq.cell (p := ⟨p, o + 2, none⟩) hplt).trans c2; go_simp <;> first | with_reducible rfl | rfl)
  simp only [Act.put, List.setIfInBounds_toArray, List.set_cons_zero, List.set_cons_succ]
  refine take_on (i := 17) (v := ?_) rfl rfl (by kernel_rfl) (by kernel_rfl) (by kernel_rfl) (fun _ _ _ h => h) rfl ?_ hHeld ?_
  rotate_left
  · (intro wq hSq; have q0 := (hSq.cell (p := ⟨p, o, none⟩) hplt).trans c0; have q1 := (hSq.cell (p := ⟨p, o + 1, none⟩) hplt).trans c1; have q2 := (hSq.cell (p := ⟨p, o + 2, none⟩) hplt).trans c2; go_simp <;> first | with_reducible rfl | rfl)
  simp only [Act.put, List.setIfInBounds_toArray, List.set_cons_zero, List.set_cons_succ]
  refine wpAnyH_done (by kernel_rfl) ?_ _
  go_wp2_with fail
  refine bodyPost_ret (v := .tuple #[.int .i64 (B : Int), .int .i64 (F : Int), .int .i64 (G : Int)]) (by simp [results, Tryz.results62, go_sem]) rfl ?_
  exact ⟨rfl, hHeld⟩

set_option maxRecDepth 100000 in
set_option maxHeartbeats 400000 in
theorem read_no {p o : Nat} {v : Value} {B : Nat} {bs : List Nat} {k : Nat} (w : World) (h : Ar w p o v B bs k) (E N : Int) (hEb : E ≤ 9223372036854775807) (hE : N < 0 ∨ E < (B : Int) ∨ (B : Int) + (bs.length : Int) < E + N) :
    Calls Tryz.prog 71 #[.pointer (some ⟨p, o, none⟩), .int .i64 E, .int .i64 N] w fun e w' => e = .returned (.tuple #[.slice none 0 0, .int .i64 70]) ∧ Below w.heap.size w w' := by
  obtain ⟨c0, c1, c2, f0, f1, f2⟩ := h.cells
  have hen := endA_any w h
  have hroom := h.room
  by_cases h0 : N < 0
  · have hd : decide (N < 0) = true := by simpa using h0
    clear hE h hroom hen hEb
    go_enter Tryz.func71, Tryz.ntmps71
    go_wp2_with fail
    refine bodyPost_ret (v := .tuple #[.slice none 0 0, .int .i64 70]) (by simp [results, Tryz.results71, go_sem]) rfl ?_
    exact ⟨rfl, Below.refl _ _⟩
  · have hd : decide (N < 0) = false := by simp; omega
    by_cases h1 : E < (B : Int)
    · have hd1 : decide (E < (B : Int)) = true := by simpa using h1
      clear hE h hroom hen hEb
      generalize (B : Int) = Bi at *
      go_enter Tryz.func71, Tryz.ntmps71
      go_wp2_with fail
      refine bodyPost_ret (v := .tuple #[.slice none 0 0, .int .i64 70]) (by simp [results, Tryz.results71, go_sem]) rfl ?_
      exact ⟨rfl, Below.refl _ _⟩
    · have hd1 : decide (E < (B : Int)) = false := by simp; omega
      obtain ⟨F, hF⟩ : ∃ F : Int, F = ((B + bs.length : Nat) : Int) := ⟨_, rfl⟩
      obtain ⟨G, hG⟩ : ∃ G : Int, G = F - E := ⟨_, rfl⟩
      have hw : IntKind.i64.wrap (F - E) = G := by rw [IntKind.wrap_i64]; omega
      have h2 : G < N := by omega
      rw [← hF] at hen
      clear hE h hroom hF hG hEb
      generalize (B : Int) = Bi at *
      go_enter Tryz.func71, Tryz.ntmps71
      go_wp2_with fail
      refine hen.mono ?_
      rintro e w1 ⟨rfl, hb1⟩
      go_wp2_with fail
      refine bodyPost_ret (v := .tuple #[.slice none 0 0, .int .i64 70]) (by simp [results, Tryz.results71, go_sem]) rfl ?_
      exact ⟨rfl, hb1⟩

/-- What a call that tells bytes answers: new memory. -/
structure TellsA (w : World) (zs : List Nat) (c : Int) (e : Ending) (w' : World) : Prop where
  ex : ∃ r, e = .returned (.tuple #[r, .int .i64 c]) ∧ OwB w' w.heap.size r zs
  bel : Below w.heap.size w w'

set_option maxRecDepth 100000 in
set_option maxHeartbeats 400000 in
theorem read_ok {p o : Nat} {v : Value} {B : Nat} {bs : List Nat} {k : Nat} (w : World) (h : Ar w p o v B bs k) (i m : Nat) (him : i + m ≤ bs.length) (E : Int) (hE : E = (B : Int) + (i : Int)) :
    Calls Tryz.prog 71 #[.pointer (some ⟨p, o, none⟩), .int .i64 E, .int .i64 (m : Int)] w fun e w' => TellsA w ((bs.take (i + m)).drop i) 0 e w' := by
  obtain ⟨c0, c1, c2, f0, f1, f2⟩ := h.cells
  have hen := endA_any w h
  have hH := hide_it h
  have hroom := h.room
  have hl := h.len
  obtain ⟨a, cap, rfl, hrow, hcap, hcm, hnil⟩ := h.own.row
  have hcut := OwB.drop (m := i) (zs := bs.take (i + m)) (by rw [List.length_take, Nat.min_eq_left him]; exact OwB.take h.own him) (by rw [List.length_take, Nat.min_eq_left him]; omega)
  rw [List.length_take, Nat.min_eq_left him] at hcut
  obtain ⟨A, hA⟩ : ∃ A, (if cap = i then a else a.map (·.add i)) = A := ⟨_, rfl⟩
  rw [hA, Nat.add_sub_cancel_left] at hcut
  have hlen : ((bs.take (i + m)).drop i).length = m := by simp; omega
  obtain ⟨zs, hzs⟩ : ∃ zs, zs = (bs.take (i + m)).drop i := ⟨_, rfl⟩
  rw [← hzs] at hcut hlen
  rw [← hzs]
  obtain ⟨a2, c2', e2, hrow2, _, _, hnil2⟩ := hcut.row
  rw [hlen] at e2
  cases e2
  obtain ⟨F, hF⟩ : ∃ F : Int, F = ((B + bs.length : Nat) : Int) := ⟨_, rfl⟩
  obtain ⟨G, hG⟩ : ∃ G : Int, G = F - E := ⟨_, rfl⟩
  have hw : IntKind.i64.wrap (F - E) = G := by rw [IntKind.wrap_i64]; omega
  have h2 : ¬ G < (m : Int) := by omega
  have hw2 : IntKind.i64.wrap (E - (B : Int)) = (i : Int) := by rw [IntKind.wrap_i64]; omega
  have hw3 : IntKind.i64.wrap ((i : Int) + (m : Int)) = ((i + m : Nat) : Int) := by rw [IntKind.wrap_i64]; omega
  have hd1 : decide (E < (B : Int)) = false := by simp; omega
  have hd0 : decide ((m : Int) < 0) = false := by simp
  have hfr := fun w1 hb => fresh_any A (cap - i) zs w1 (RowB.below hrow2 hb) (by omega) hnil2
  rw [hlen] at hfr
  obtain ⟨J, hJ⟩ : ∃ J, J = i + m := ⟨_, rfl⟩
  have hJi : J - i = m := by omega
  have hJc : J ≤ cap := by omega
  have hJl : i ≤ J := by omega
  rw [← hJ] at hw3
  rw [← hF] at hen
  clear hE hF hG hroom h hl hcut hrow hrow2 hnil hnil2 hzs hJ hlen him hcap
  obtain ⟨Bi, hBi⟩ : ∃ Bi : Int, Bi = (B : Int) := ⟨_, rfl⟩
  rw [← hBi] at c0 hd1 hw2
  replace hBi := hide_it hBi
  go_enter Tryz.func71, Tryz.ntmps71
  go_wp2_with fail
  refine hen.mono ?_
  rintro e w1 ⟨rfl, hb1⟩
  have hA1 := hH.out.below hb1
  obtain ⟨d0, d1, d2, _⟩ := hA1.cells
  rw [← hBi.out] at d0
  have hfr1 := hfr w1 hb1
  clear hen hA1 c0 c1 c2 hfr
  go_wp2_with fail
  refine hfr1.mono ?_
  rintro e w2 ⟨⟨r, rfl, hown⟩, hb2⟩
  clear hfr1 d0 d1 d2
  go_wp2_with fail
  refine bodyPost_ret (v := .tuple #[r, .int .i64 0]) (by simp [results, Tryz.results71, go_sem]) rfl ?_
  exact ⟨⟨r, rfl, hown.mono hb1.size⟩, hb1.trans (hb2.mono hb1.size)⟩

end Go.Proofs.YtkacfpmninmjkaaGreat

namespace Go.Proofs.YtkacfpmninmjkaaGreat
open Go.RowKit

theorem OwB.set {w : World} {base g o2 cap : Nat} {zs : List Nat} (h : OwB w base (.slice (some ⟨g, o2, none⟩) zs.length cap) zs) {i : Nat} (hi : i < zs.length) (x : Nat) : OwB (w.setCell ⟨g, o2 + i, none⟩ (.int .u8 (x : Int))) base (.slice (some ⟨g, o2, none⟩) zs.length cap) (zs.set i x) := by
  have h2 := OwnS.set h i (by simpa using hi) (.int .u8 (x : Int))
  unfold OwB
  rw [List.length_set, List.map_set]
  exact h2

/-- .. ahead of a write to one of its bytes. -/
theorem Moved.poke {w w1 : World} {p o : Nat} {v : Value} {B : Nat} {bs : List Nat} {k g o2 cap : Nat} (hm : Moved w p o v B bs k w1) (h1 : Ar w1 p o (.slice (some ⟨g, o2, none⟩) bs.length cap) B bs k) (hn : v.ownBlock = some g ∨ w.heap.size ≤ g) {i : Nat} (hi : i < bs.length) (x : Nat) (hx : x < 256) :
    Moved w p o v B (bs.set i x) k (w1.setCell ⟨g, o2 + i, none⟩ (.int .u8 (x : Int))) := by
  have hne : p ≠ g := fun e => h1.far (by rw [e]; rfl)
  have hb : (w1.setCell ⟨g, o2 + i, none⟩ (.int .u8 (x : Int))).heap[p]? = w1.heap[p]? := Below.heap_setCell _ _ _ _ hne
  obtain ⟨C, t, hC, q⟩ := h1.blk
  refine ⟨⟨.slice (some ⟨g, o2, none⟩) bs.length cap, ⟨⟨C, t, hb.trans hC, q⟩, OwB.set h1.own hi x, h1.far, ?_, by rw [List.length_set]; exact h1.len, by rw [List.length_set]; exact h1.room⟩, ?_⟩, hm.chg.setCell _ _ ?_, hm.rest.trans (Rest.of_block hb)⟩
  · intro z hz
    rcases List.mem_or_eq_of_mem_set hz with h | h
    · exact h1.all z h
    · omega
  · rcases hn with h | h
    · exact .inl (by rw [h]; rfl)
    · exact .inr fun j hj => by cases hj; exact h
  · intro hlt
    rcases hn with h | h
    · exact .inr h
    · exact absurd hlt (by show ¬ g < w.heap.size; omega)

/-- The bytes, the last one torn. -/
def tear (l : List Nat) (t : Nat) : List Nat := l.set (l.length - 1) (at0 l (l.length - 1) ^^^ t)
/-- What a loss of power leaves of bytes, k of which are safe, where c more are kept. -/
def crashB (bs : List Nat) (k c t : Nat) : List Nat := if 0 < c then tear (bs.take (k + c)) t else bs.take (k + c)
theorem crashB_len (bs : List Nat) (k c t : Nat) (h : k + c ≤ bs.length) : (crashB bs k c t).length = k + c := by
  unfold crashB tear
  split <;> simp <;> omega

set_option maxRecDepth 100000 in
set_option maxHeartbeats 800000 in
/-- Behind the tearing of a byte: the number of safe ones. -/
theorem crash_any {p o : Nat} {v : Value} {B : Nat} {bs : List Nat} {k : Nat} (w : World) (h : Ar w p o v B bs k) (hk : k ≤ bs.length) (E : Int) (t : Nat) (ht : t < 256) (c : Nat) (hc : c = min E.toNat (bs.length - k)) :
    Calls Tryz.prog 58 #[.pointer (some ⟨p, o, none⟩), .int .i64 E, .int .u8 (t : Int)] w fun e w' => e = .returned (.int .i64 0) ∧ Moved w p o v B (crashB bs k c t) (k + c) w' := by
  have hplt := h.plt
  have hkc : k + c ≤ bs.length := by omega
  obtain ⟨c0, c1, c2, f0, f1, f2⟩ := h.cells
  have hroom := h.room
  have hlen := h.len
  have hlv := leave_any w.drew h.drew 0 (k + c) (Nat.zero_le _) hkc
  rw [List.drop_zero] at hlv
  have hH := hide_it h
  obtain ⟨a, cap, rfl, _⟩ := h.own.row
  obtain ⟨L, hL⟩ : ∃ L, L = bs.length - k := ⟨_, rfl⟩
  have hw : IntKind.i64.wrap ((bs.length : Int) - (k : Int)) = (L : Int) := by rw [IntKind.wrap_i64]; omega
  have hw2 : IntKind.i64.wrap ((k : Int) + (c : Int)) = ((k + c : Nat) : Int) := by rw [IntKind.wrap_i64]; omega
  obtain ⟨S, hS⟩ : ∃ S, S = k + c := ⟨_, rfl⟩
  obtain ⟨M, hM⟩ : ∃ M : Int, (if E < 0 then 0 else E) = M := ⟨_, rfl⟩
  have hif : (if (L : Int) < M then (L : Int) else M) = (c : Int) := by
    rw [hc, ← hL, ← hM]
    by_cases h0 : E < 0
    · rw [if_pos h0, if_neg (by omega)]; omega
    · rw [if_neg h0]; split <;> omega
  rw [← hS] at hlv hw2
  have hlS : (bs.take S).length = S := by simp; omega
  have hS2 := hide_it hS
  have hR : crashB bs k c t = if 0 < c then tear (bs.take S) t else bs.take S := by unfold crashB; rw [hS]
  rw [← hS]
  replace hR := hide_it hR
  clear h hroom hlen hS hc hL hk hkc
  go_enter Tryz.func58, Tryz.ntmps58
  go_wp2_with fail
  refine wp_region_held_drew (S := (fun w' => Below w.heap.size w w')) (by kernel_rfl) ?_ (fun hHeld => ?_)
  · exact (Below.refl _ _).drew
  refine take_on (i := 0) (v := ?_) rfl rfl (by kernel_rfl) (by kernel_rfl) (by kernel_rfl) (fun _ _ _ h => h) rfl ?_ hHeld ?_
  rotate_left
  · (intro wq hSq; have q1 := (hSq.cell (p := ⟨p, o + 1, none⟩) hplt).trans c1; have q2 := (hSq.cell (p := ⟨p, o + 2, none⟩) hplt).trans c2; go_simp <;> first | with_reducible rfl | rfl)
  simp only [Act.put, List.setIfInBounds_toArray, List.set_cons_zero, List.set_cons_succ]
  refine take_on (i := 1) (v := ?_) rfl rfl (by kernel_rfl) (by kernel_rfl) (by kernel_rfl) (fun _ _ _ h => h) rfl ?_ hHeld ?_
  rotate_left
  · (intro wq hSq; have q1 := (hSq.cell (p := ⟨p, o + 1, none⟩) hplt).trans c1; have q2 := (hSq.cell (p := ⟨p, o + 2, none⟩) hplt).trans c2; go_simp <;> first | with_reducible rfl | rfl)
  simp only [Act.put, List.setIfInBounds_toArray, List.set_cons_zero, List.set_cons_succ]
  refine take_on (i := 2) (v := ?_) rfl rfl (by kernel_rfl) (by kernel_rfl) (by kernel_rfl) (fun _ _ _ h => h) rfl ?_ hHeld ?_
  rotate_left
  · (intro wq hSq; have q1 := (hSq.cell (p := ⟨p, o + 1, none⟩) hplt).trans c1; have q2 := (hSq.cell (p := ⟨p, o + 2, none⟩) hplt).trans c2; go_simp <;> first | with_reducible rfl | rfl)
  simp only [Act.put, List.setIfInBounds_toArray, List.set_cons_zero, List.set_cons_succ]
  refine take_on (i := 3) (v := ?_) rfl rfl (by kernel_rfl) (by kernel_rfl) (by kernel_rfl) (fun _ _ _ h => h) rfl ?_ hHeld ?_
  rotate_left
  · (intro wq hSq; have q1 := (hSq.cell (p := ⟨p, o + 1, none⟩) hplt).trans c1; have q2 := (hSq.cell (p := ⟨p, o + 2, none⟩) hplt).trans c2; go_simp <;> first | with_reducible rfl | rfl)
  simp only [Act.put, List.setIfInBounds_toArray, List.set_cons_zero, List.set_cons_succ]
  refine take_on (i := 4) (v := ?_) rfl rfl (by kernel_rfl) (by kernel_rfl) (by kernel_rfl) (fun _ _ _ h => h) rfl ?_ hHeld ?_
  rotate_left
  · (intro wq hSq; have q1 := (hSq.cell (p := ⟨p, o + 1, none⟩) hplt).trans c1; have q2 := (hSq.cell (p := ⟨p, o + 2, none⟩) hplt).trans c2; go_simp <;> first | with_reducible rfl | rfl)
  simp only [Act.put, List.setIfInBounds_toArray, List.set_cons_zero, List.set_cons_succ]
  refine take_on (i := 5) (v := ?_) rfl rfl (by kernel_rfl) (by kernel_rfl) (by kernel_rfl) (fun _ _ _ h => h) rfl ?_ hHeld ?_
  rotate_left
  · (intro wq hSq; have q1 := (hSq.cell (p := ⟨p, o + 1, none⟩) hplt).trans c1; have q2 := (hSq.cell (p := ⟨p, o + 2, none⟩) hplt).trans c2; go_simp <;> first | with_reducible rfl | rfl)
  simp only [Act.put, List.setIfInBounds_toArray, List.set_cons_zero, List.set_cons_succ]
  refine take_on (i := 6) (v := ?_) rfl rfl (by kernel_rfl) (by kernel_rfl) (by kernel_rfl) (fun _ _ _ h => h) rfl ?_ hHeld ?_
  rotate_left
  · (intro wq hSq; have q1 := (hSq.cell (p := ⟨p, o + 1, none⟩) hplt).trans c1; have q2 := (hSq.cell (p := ⟨p, o + 2, none⟩) hplt).trans c2; go_simp <;> first | with_reducible rfl | rfl)
  simp only [Act.put, List.setIfInBounds_toArray, List.set_cons_zero, List.set_cons_succ]
  refine take_on (i := 7) (v := ?_) rfl rfl (by kernel_rfl) (by kernel_rfl) (by kernel_rfl) (fun _ _ _ h => h) rfl ?_ hHeld ?_
  rotate_left
  · (intro wq hSq; have q1 := (hSq.cell (p := ⟨p, o + 1, none⟩) hplt).trans c1; have q2 := (hSq.cell (p := ⟨p, o + 2, none⟩) hplt).trans c2; go_simp <;> first | with_reducible rfl | rfl)
  simp only [Act.put, List.setIfInBounds_toArray, List.set_cons_zero, List.set_cons_succ]
  refine take_on (i := 8) (v := ?_) rfl rfl (by kernel_rfl) (by kernel_rfl) (by kernel_rfl) (fun _ _ _ h => h) rfl ?_ hHeld ?_
  rotate_left
  · (intro wq hSq; have q1 := (hSq.cell (p := ⟨p, o + 1, none⟩) hplt).trans c1; have q2 := (hSq.cell (p := ⟨p, o + 2, none⟩) hplt).trans c2; go_simp <;> first | with_reducible rfl | rfl)
  simp only [Act.put, List.setIfInBounds_toArray, List.set_cons_zero, List.set_cons_succ]
  refine take_on (i := 9) (v := ?_) rfl rfl (by kernel_rfl) (by kernel_rfl) (by kernel_rfl) (fun _ _ _ h => h) rfl ?_ hHeld ?_
  rotate_left
  · (intro wq hSq; have q1 := (hSq.cell (p := ⟨p, o + 1, none⟩) hplt).trans c1; have q2 := (hSq.cell (p := ⟨p, o + 2, none⟩) hplt).trans c2; go_simp <;> first | with_reducible rfl | rfl)
  simp only [Act.put, List.setIfInBounds_toArray, List.set_cons_zero, List.set_cons_succ]
  refine take_on (i := 10) (v := ?_) rfl rfl (by kernel_rfl) (by kernel_rfl) (by kernel_rfl) (fun _ _ _ h => h) rfl ?_ hHeld ?_
  rotate_left
  · (intro wq hSq; have q1 := (hSq.cell (p := ⟨p, o + 1, none⟩) hplt).trans c1; have q2 := (hSq.cell (p := ⟨p, o + 2, none⟩) hplt).trans c2; go_simp <;> first | with_reducible rfl | rfl)
  simp only [Act.put, List.setIfInBounds_toArray, List.set_cons_zero, List.set_cons_succ]
  refine take_on (i := 11) (v := ?_) rfl rfl (by kernel_rfl) (by kernel_rfl) (by kernel_rfl) (fun _ _ _ h => h) rfl ?_ hHeld ?_
  rotate_left
  · (intro wq hSq; have q1 := (hSq.cell (p := ⟨p, o + 1, none⟩) hplt).trans c1; have q2 := (hSq.cell (p := ⟨p, o + 2, none⟩) hplt).trans c2; go_simp <;> first | with_reducible rfl | rfl)
  simp only [Act.put, List.setIfInBounds_toArray, List.set_cons_zero, List.set_cons_succ]
  refine take_on (i := 12) (v := ?_) rfl rfl (by kernel_rfl) (by kernel_rfl) (by kernel_rfl) (fun _ _ _ h => h) rfl ?_ hHeld ?_
  rotate_left
  · (intro wq hSq; have q1 := (hSq.cell (p := ⟨p, o + 1, none⟩) hplt).trans c1; have q2 := (hSq.cell (p := ⟨p, o + 2, none⟩) hplt).trans c2; go_simp <;> first | with_reducible rfl | rfl)
  simp only [Act.put, List.setIfInBounds_toArray, List.set_cons_zero, List.set_cons_succ]
  refine take_on (i := 13) (v := ?_) rfl rfl (by kernel_rfl) (by kernel_rfl) (by kernel_rfl) (fun _ _ _ h => h) rfl ?_ hHeld ?_
  rotate_left
  · (intro wq hSq; have q1 := (hSq.cell (p := ⟨p, o + 1, none⟩) hplt).trans c1; have q2 := (hSq.cell (p := ⟨p, o + 2, none⟩) hplt).trans c2; go_simp <;> first | with_reducible rfl | rfl)
  simp only [Act.put, List.setIfInBounds_toArray, List.set_cons_zero, List.set_cons_succ]
  refine wpAnyH_done (by kernel_rfl) ?_ _
  go_wp2_with fail
  refine hlv.mono ?_
  rintro e w2 ⟨rfl, hmv⟩
  have hm2 := Moved.behind hH.out (Below.refl _ _).drew hmv
  obtain ⟨v2, hA2, hn2⟩ := hm2.ex
  have hplt2 := hA2.plt
  obtain ⟨a2, cap2, rfl, hrow2, _, _, hnil2⟩ := hA2.own.row
  obtain ⟨d0, d1, d2, g0, g1, g2⟩ := hA2.cells
  rw [hlS] at d2
  clear hlv hmv c0 c1 c2 f0 f1 f2 hif hM hw hw2
  by_cases hc0 : 0 < c
  · have hS0 : 0 < S := by have := hS2.out; omega
    obtain ⟨g, o2, rfl, hglt, hcell⟩ := hrow2.here (i := 0) (by rw [hlS]; exact hS0)
    have hci := hcell (S - 1) (by rw [hlS]; omega)
    have hw3 : IntKind.i64.wrap ((S : Int) - 1) = ((S - 1 : Nat) : Int) := by have := hA2.len; rw [hlS] at this; rw [IntKind.wrap_i64]; omega
    have hb8 : at0 (bs.take S) (S - 1) < 256 := hA2.all _ (at0_mem (by rw [hlS]; omega))
    have hx := u8_xor_nat _ t hb8 ht
    have hx8 : at0 (bs.take S) (S - 1) ^^^ t < 256 := Nat.xor_lt_two_pow (n := 8) hb8 ht
    have hne : p ≠ g := fun e => hA2.far (by rw [e]; rfl)
    have hng : Value.ownBlock (.slice a bs.length cap) = some g ∨ w.heap.size ≤ g := by
      rcases hn2 with h | h
      · exact .inl h.symm
      · exact .inr (h g rfl)
    have hft : w2.frozen? ⟨g, o2 + (S - 1), none⟩ = false := OwnS.thaw hA2.own _
    have hm3 := hm2.poke hA2 hng (i := S - 1) (by rw [hlS]; omega) _ hx8
    have htr : tear (bs.take S) t = (bs.take S).set (S - 1) (at0 (bs.take S) (S - 1) ^^^ t) := by unfold tear; rw [hlS]
    have hRR : crashB bs k c t = (bs.take S).set (S - 1) (at0 (bs.take S) (S - 1) ^^^ t) := by rw [hR.out, if_pos hc0, htr]
    obtain ⟨X, hX⟩ : ∃ X, X = at0 (bs.take S) (S - 1) := ⟨_, rfl⟩
    rw [← hX] at hci hx hm3 hRR
    obtain ⟨J, hJ⟩ : ∃ J, J = S - 1 := ⟨_, rfl⟩
    rw [← hJ] at hci hw3 hft hm3 hRR
    replace hRR := hide_it hRR
    have hJS : J < S := by omega
    have hm4 := hm3.drew
    have hm5 := hm4.put1 S
    obtain ⟨v4, hA4, _⟩ := hm4.ex
    have e2 : (w2.setCell ⟨g, o2 + J, none⟩ (.int .u8 ((X ^^^ t : Nat) : Int))).cell? ⟨p, o + 2, none⟩ = some (.slice (some ⟨g, o2, none⟩) S cap2) := (World.cell?_of_block (a := ⟨p, o + 2, none⟩) (Below.heap_setCell _ _ _ _ hne)).trans d2
    have e1 : (w2.setCell ⟨g, o2 + J, none⟩ (.int .u8 ((X ^^^ t : Nat) : Int))).cell? ⟨p, o + 1, none⟩ = some (.int .i64 (k : Int)) := (World.cell?_of_block (a := ⟨p, o + 1, none⟩) (Below.heap_setCell _ _ _ _ hne)).trans d1
    have e3 : (w2.setCell ⟨g, o2 + J, none⟩ (.int .u8 ((X ^^^ t : Nat) : Int))).frozen? ⟨p, o + 1, none⟩ = false := (World.frozen?_of_block (a := ⟨p, o + 1, none⟩) (Below.heap_setCell _ _ _ _ hne)).trans g1
    clear hX hJ htr hA4 hm4 hm3 hm2 hcell hrow2 hA2 hnil2 hb8 hn2
    go_wp2_with fail
    refine wp_region_held_drew (S := (fun w' => w'.heap[p]? = w2.heap[p]?)) (by kernel_rfl) ?_ (fun hHeld => ?_)
    · rfl
    refine take_on (i := 0) (v := ?_) rfl rfl (by kernel_rfl) (by kernel_rfl) (by kernel_rfl) (fun _ _ _ h => h) rfl ?_ hHeld ?_
    rotate_left
    · (intro wq hSq; have q2 := (World.cell?_of_block (w := w2) (a := ⟨p, o + 2, none⟩) hSq).trans d2; go_simp <;> first | with_reducible rfl | rfl)
    simp only [Act.put, List.setIfInBounds_toArray, List.set_cons_zero, List.set_cons_succ]
    refine take_on (i := 1) (v := ?_) rfl rfl (by kernel_rfl) (by kernel_rfl) (by kernel_rfl) (fun _ _ _ h => h) rfl ?_ hHeld ?_
    rotate_left
    · (intro wq hSq; have q2 := (World.cell?_of_block (w := w2) (a := ⟨p, o + 2, none⟩) hSq).trans d2; go_simp <;> first | with_reducible rfl | rfl)
    simp only [Act.put, List.setIfInBounds_toArray, List.set_cons_zero, List.set_cons_succ]
    refine take_on (i := 2) (v := ?_) rfl rfl (by kernel_rfl) (by kernel_rfl) (by kernel_rfl) (fun _ _ _ h => h) rfl ?_ hHeld ?_
    rotate_left
    · (intro wq hSq; have q2 := (World.cell?_of_block (w := w2) (a := ⟨p, o + 2, none⟩) hSq).trans d2; go_simp <;> first | with_reducible rfl | rfl)
    simp only [Act.put, List.setIfInBounds_toArray, List.set_cons_zero, List.set_cons_succ]
    refine take_on (i := 3) (v := ?_) rfl rfl (by kernel_rfl) (by kernel_rfl) (by kernel_rfl) (fun _ _ _ h => h) rfl ?_ hHeld ?_
    rotate_left
    · (intro wq hSq; have q2 := (World.cell?_of_block (w := w2) (a := ⟨p, o + 2, none⟩) hSq).trans d2; go_simp <;> first | with_reducible rfl | rfl)
    simp only [Act.put, List.setIfInBounds_toArray, List.set_cons_zero, List.set_cons_succ]
    refine take_on (i := 4) (v := ?_) rfl rfl (by kernel_rfl) (by kernel_rfl) (by kernel_rfl) (fun _ _ _ h => h) rfl ?_ hHeld ?_
    rotate_left
    · (intro wq hSq; have q2 := (World.cell?_of_block (w := w2) (a := ⟨p, o + 2, none⟩) hSq).trans d2; go_simp <;> first | with_reducible rfl | rfl)
    simp only [Act.put, List.setIfInBounds_toArray, List.set_cons_zero, List.set_cons_succ]
    refine take_on (i := 5) (v := ?_) rfl rfl (by kernel_rfl) (by kernel_rfl) (by kernel_rfl) (fun _ _ _ h => h) rfl ?_ hHeld ?_
    rotate_left
    · (intro wq hSq; have q2 := (World.cell?_of_block (w := w2) (a := ⟨p, o + 2, none⟩) hSq).trans d2; go_simp <;> first | with_reducible rfl | rfl)
    simp only [Act.put, List.setIfInBounds_toArray, List.set_cons_zero, List.set_cons_succ]
    refine take_on (i := 6) (v := ?_) rfl rfl (by kernel_rfl) (by kernel_rfl) (by kernel_rfl) (fun _ _ _ h => h) rfl ?_ hHeld ?_
    rotate_left
    · (intro wq hSq; have q2 := (World.cell?_of_block (w := w2) (a := ⟨p, o + 2, none⟩) hSq).trans d2; go_simp <;> first | with_reducible rfl | rfl)
    simp only [Act.put, List.setIfInBounds_toArray, List.set_cons_zero, List.set_cons_succ]
    refine take_on (i := 7) (v := ?_) rfl rfl (by kernel_rfl) (by kernel_rfl) (by kernel_rfl) (fun _ _ _ h => h) rfl ?_ hHeld ?_
    rotate_left
    · (intro wq hSq; have q2 := (World.cell?_of_block (w := w2) (a := ⟨p, o + 2, none⟩) hSq).trans d2; go_simp <;> first | with_reducible rfl | rfl)
    simp only [Act.put, List.setIfInBounds_toArray, List.set_cons_zero, List.set_cons_succ]
    refine take_on (i := 8) (v := ?_) rfl rfl (by kernel_rfl) (by kernel_rfl) (by kernel_rfl) (fun _ _ _ h => h) rfl ?_ hHeld ?_
    rotate_left
    · (intro wq hSq; have q2 := (World.cell?_of_block (w := w2) (a := ⟨p, o + 2, none⟩) hSq).trans d2; go_simp <;> first | with_reducible rfl | rfl)
    simp only [Act.put, List.setIfInBounds_toArray, List.set_cons_zero, List.set_cons_succ]
    refine take_on (i := 9) (v := ?_) rfl rfl (by kernel_rfl) (by kernel_rfl) (by kernel_rfl) (fun _ _ _ h => h) rfl ?_ hHeld ?_
    rotate_left
    · (intro wq hSq; have q2 := (World.cell?_of_block (w := w2) (a := ⟨p, o + 2, none⟩) hSq).trans d2; go_simp <;> first | with_reducible rfl | rfl)
    simp only [Act.put, List.setIfInBounds_toArray, List.set_cons_zero, List.set_cons_succ]
    refine take_on (i := 10) (v := ?_) rfl rfl (by kernel_rfl) (by kernel_rfl) (by kernel_rfl) (fun _ _ _ h => h) rfl ?_ hHeld ?_
    rotate_left
    · (intro wq hSq; have q2 := (World.cell?_of_block (w := w2) (a := ⟨p, o + 2, none⟩) hSq).trans d2; go_simp <;> first | with_reducible rfl | rfl)
    simp only [Act.put, List.setIfInBounds_toArray, List.set_cons_zero, List.set_cons_succ]
    refine take_on (i := 12) (v := ?_) rfl rfl (by kernel_rfl) (by kernel_rfl) (by kernel_rfl) (fun _ _ _ h => h) rfl ?_ hHeld ?_
    rotate_left
    · (intro wq hSq; have q2 := (World.cell?_of_block (w := w2) (a := ⟨p, o + 2, none⟩) hSq).trans d2; go_simp <;> first | with_reducible rfl | rfl)
    simp only [Act.put, List.setIfInBounds_toArray, List.set_cons_zero, List.set_cons_succ]
    refine take_one (i := 11) rfl (by kernel_rfl) (fun K hK => ?_)
    go_simp
    skip
    try go_wp2_with fail
    refine hK.out _ _ ?_ (fun hHeld => ?_)
    · exact hHeld
    clear hK K
    try simp only [Act.put, List.setIfInBounds_toArray, List.set_cons_zero, List.set_cons_succ]
    refine take_on (i := 13) (v := ?_) rfl rfl (by kernel_rfl) (by kernel_rfl) (by kernel_rfl) (fun _ _ _ h => h) rfl ?_ hHeld ?_
    rotate_left
    · (intro wq hSq; have q2 := (World.cell?_of_block (w := w2) (a := ⟨p, o + 2, none⟩) hSq).trans d2; go_simp <;> first | with_reducible rfl | rfl)
    simp only [Act.put, List.setIfInBounds_toArray, List.set_cons_zero, List.set_cons_succ]
    refine take_on (i := 14) (v := ?_) rfl rfl (by kernel_rfl) (by kernel_rfl) (by kernel_rfl) (fun _ _ _ h => h) rfl ?_ hHeld ?_
    rotate_left
    · (intro wq hSq; have q2 := (World.cell?_of_block (w := w2) (a := ⟨p, o + 2, none⟩) hSq).trans d2; go_simp <;> first | with_reducible rfl | rfl)
    simp only [Act.put, List.setIfInBounds_toArray, List.set_cons_zero, List.set_cons_succ]
    refine take_one (i := 15) rfl (by kernel_rfl) (fun K hK => ?_)
    go_simp
    skip
    try go_wp2_with fail
    refine hK.out _ _ ?_ (fun hHeld => ?_)
    · exact (Below.heap_setCell _ _ _ _ hne)
    clear hK K
    try simp only [Act.put, List.setIfInBounds_toArray, List.set_cons_zero, List.set_cons_succ]
    refine wpAnyH_done (by kernel_rfl) ?_ _
    go_wp2_with fail
    go_ret
    exact ⟨rfl, by rw [hRR.out]; exact hm5⟩
  · have hRR : Hid (crashB bs k c t = bs.take S) := by
      unfold Hid; rw [hR.out, if_neg hc0]
    have hc1 : c = 0 := by omega
    have hm5 := hm2.put1 S
    clear hA2 hrow2 hnil2 hm2 hn2
    subst hc1
    go_wp2_with fail
    go_ret
    exact ⟨rfl, by rw [hRR.out]; exact hm5⟩

end Go.Proofs.YtkacfpmninmjkaaGreat

namespace Go.Proofs.YtkacfpmninmjkaaGreat
open Go.RowKit

/-- What Image answers: the base and new memory. -/
structure Imaged (w : World) (B : Nat) (zs : List Nat) (e : Ending) (w' : World) : Prop where
  ex : ∃ r, e = .returned (.agg #[.int .i64 (B : Int), r]) ∧ OwB w' w.heap.size r zs
  bel : Below w.heap.size w w'


























































































































set_option maxRecDepth 100000 in
set_option maxHeartbeats 400000 in
theorem load_no (w : World) (E : Int) (v : Value) (hE : E < 0 ∨ 4611686018427387904 < E) (a : Option Addr) (n c : Nat) (hv : v = .slice a n c) :
    Calls Tryz.prog 33 #[.agg #[.int .i64 E, v]] w fun e w' => e = .returned (.tuple #[.pointer none, .int .i64 2]) ∧ Below w.heap.size w w' := by
  subst hv
  have hb := (Below.refl w.heap.size w).alloc (Nat.le_refl _) (.cells #[.int .i64 E, .slice a n c] 80)
  by_cases h1 : E < 0
  · have hd : decide (E < 0) = true := by simpa using h1
    clear hE
    go_enter Tryz.func33, Tryz.ntmps33
    go_wp2_with fail
    refine bodyPost_ret (v := .tuple #[.pointer none, .int .i64 2]) (by simp [results, Tryz.results33, go_sem]) rfl ?_
    exact ⟨rfl, hb⟩
  · have hd : decide (E < 0) = false := by simp; omega
    have hd2 : decide (4611686018427387904 < E) = true := by simp; omega
    clear hE h1
    go_enter Tryz.func33, Tryz.ntmps33
    go_wp2_with fail
    refine bodyPost_ret (v := .tuple #[.pointer none, .int .i64 2]) (by simp [results, Tryz.results33, go_sem]) rfl ?_
    exact ⟨rfl, hb⟩

/-- What Load answers: an area in new memory. -/
structure Loaded (w : World) (B : Nat) (zs : List Nat) (e : Ending) (w' : World) : Prop where
  ex : ∃ q v, e = .returned (.tuple #[.pointer (some ⟨q, 0, none⟩), .int .i64 0]) ∧ Ar w' q 0 v B zs zs.length ∧ w.heap.size ≤ q ∧ ∀ j, v.ownBlock = some j → w.heap.size ≤ j
  bel : Below w.heap.size w w'

set_option maxRecDepth 100000 in
set_option maxHeartbeats 800000 in
theorem load_ok (w : World) (B : Nat) (hB : B ≤ 4611686018427387904) (a : Option Addr) (cap : Nat) (zs : List Nat) (hr : RowB w a zs) (h8 : All8 zs) (hl : zs.length ≤ 211106232532800) (hnil : a = none → zs.length = 0 ∧ cap = 0) :
    Calls Tryz.prog 33 #[.agg #[.int .i64 (B : Int), .slice a zs.length cap]] w fun e w' => Loaded w B zs e w' := by
  have hb0 : Below w.heap.size w (w.alloc (.cells #[.int .i64 (B : Int), .slice a zs.length cap] 80)) := (Below.refl _ _).alloc (Nat.le_refl _) _
  obtain ⟨W0, hW0⟩ : ∃ W0, W0 = w.alloc (.cells #[.int .i64 (B : Int), .slice a zs.length cap] 80) := ⟨_, rfl⟩
  have hnew : W0.heap[w.heap.size]? = some (.cells #[.int .i64 (B : Int), .slice a zs.length cap] 80 (0, 0)) := by rw [hW0]; exact heap_alloc_new w _
  rw [← hW0] at hb0
  have hs0 : w.heap.size < W0.heap.size := (Array.getElem?_eq_some_iff.1 hnew).1
  have c0 := cell_of_row _ _ 0 _ _ _ hnew
  have c1 := cell_of_row _ _ 1 _ _ _ hnew
  have hfr := fresh_any a cap zs W0.drew (hr.below (hb0.trans ((Below.refl _ _).drew))) hl hnil
  have hd : decide ((B : Int) < 0) = false := by simp
  have hd2 : decide (4611686018427387904 < (B : Int)) = false := by simp; omega
  have hroom : Hid (B + zs.length ≤ 9223372036854775807) := by unfold Hid; omega
  obtain ⟨Bi, hBi⟩ : ∃ Bi : Int, Bi = (B : Int) := ⟨_, rfl⟩
  rw [← hBi] at hW0 c0 hd hd2 hnew
  rw [← hBi]
  replace hBi := hide_it hBi
  clear hr hnil hB
  go_enter Tryz.func33, Tryz.ntmps33
  go_wp2_with fail
  rw [← hW0]
  clear hW0
  refine wp_region_held_drew (S := (fun w' => w'.heap[w.heap.size]? = W0.heap[w.heap.size]?)) (by kernel_rfl) ?_ (fun hHeld => ?_)
  · rfl
  refine take_on (i := 0) (v := ?_) rfl rfl (by kernel_rfl) (by kernel_rfl) (by kernel_rfl) (fun _ _ _ h => h) rfl ?_ hHeld ?_
  rotate_left
  · (intro wq hSq; have q0 := (World.cell?_of_block (w := W0) (a := ⟨w.heap.size, 0, none⟩) hSq).trans c0; have q1 := (World.cell?_of_block (w := W0) (a := ⟨w.heap.size, 1, none⟩) hSq).trans c1; go_simp <;> first | with_reducible rfl | rfl)
  simp only [Act.put, List.setIfInBounds_toArray, List.set_cons_zero, List.set_cons_succ]
  refine take_on (i := 1) (v := ?_) rfl rfl (by kernel_rfl) (by kernel_rfl) (by kernel_rfl) (fun _ _ _ h => h) rfl ?_ hHeld ?_
  rotate_left
  · (intro wq hSq; have q0 := (World.cell?_of_block (w := W0) (a := ⟨w.heap.size, 0, none⟩) hSq).trans c0; have q1 := (World.cell?_of_block (w := W0) (a := ⟨w.heap.size, 1, none⟩) hSq).trans c1; go_simp <;> first | with_reducible rfl | rfl)
  simp only [Act.put, List.setIfInBounds_toArray, List.set_cons_zero, List.set_cons_succ]
  refine take_on (i := 2) (v := ?_) rfl rfl (by kernel_rfl) (by kernel_rfl) (by kernel_rfl) (fun _ _ _ h => h) rfl ?_ hHeld ?_
  rotate_left
  · (intro wq hSq; have q0 := (World.cell?_of_block (w := W0) (a := ⟨w.heap.size, 0, none⟩) hSq).trans c0; have q1 := (World.cell?_of_block (w := W0) (a := ⟨w.heap.size, 1, none⟩) hSq).trans c1; go_simp <;> first | with_reducible rfl | rfl)
  simp only [Act.put, List.setIfInBounds_toArray, List.set_cons_zero, List.set_cons_succ]
  refine take_on (i := 3) (v := ?_) rfl rfl (by kernel_rfl) (by kernel_rfl) (by kernel_rfl) (fun _ _ _ h => h) rfl ?_ hHeld ?_
  rotate_left
  · (intro wq hSq; have q0 := (World.cell?_of_block (w := W0) (a := ⟨w.heap.size, 0, none⟩) hSq).trans c0; have q1 := (World.cell?_of_block (w := W0) (a := ⟨w.heap.size, 1, none⟩) hSq).trans c1; go_simp <;> first | with_reducible rfl | rfl)
  simp only [Act.put, List.setIfInBounds_toArray, List.set_cons_zero, List.set_cons_succ]
  refine take_on (i := 4) (v := ?_) rfl rfl (by kernel_rfl) (by kernel_rfl) (by kernel_rfl) (fun _ _ _ h => h) rfl ?_ hHeld ?_
  rotate_left
  · (intro wq hSq; have q0 := (World.cell?_of_block (w := W0) (a := ⟨w.heap.size, 0, none⟩) hSq).trans c0; have q1 := (World.cell?_of_block (w := W0) (a := ⟨w.heap.size, 1, none⟩) hSq).trans c1; go_simp <;> first | with_reducible rfl | rfl)
  simp only [Act.put, List.setIfInBounds_toArray, List.set_cons_zero, List.set_cons_succ]
  refine take_on (i := 5) (v := ?_) rfl rfl (by kernel_rfl) (by kernel_rfl) (by kernel_rfl) (fun _ _ _ h => h) rfl ?_ hHeld ?_
  rotate_left
  · (intro wq hSq; have q0 := (World.cell?_of_block (w := W0) (a := ⟨w.heap.size, 0, none⟩) hSq).trans c0; have q1 := (World.cell?_of_block (w := W0) (a := ⟨w.heap.size, 1, none⟩) hSq).trans c1; go_simp <;> first | with_reducible rfl | rfl)
  simp only [Act.put, List.setIfInBounds_toArray, List.set_cons_zero, List.set_cons_succ]
  refine take_on (i := 6) (v := ?_) rfl rfl (by kernel_rfl) (by kernel_rfl) (by kernel_rfl) (fun _ _ _ h => h) rfl ?_ hHeld ?_
  rotate_left
  · (intro wq hSq; have q0 := (World.cell?_of_block (w := W0) (a := ⟨w.heap.size, 0, none⟩) hSq).trans c0; have q1 := (World.cell?_of_block (w := W0) (a := ⟨w.heap.size, 1, none⟩) hSq).trans c1; go_simp <;> first | with_reducible rfl | rfl)
  simp only [Act.put, List.setIfInBounds_toArray, List.set_cons_zero, List.set_cons_succ]
  refine take_one (i := 7) rfl (by kernel_rfl) (fun K hK => ?_)
  go_simp
  refine hfr.mono ?_; rintro e y1 ⟨⟨r, rfl, hown⟩, hb1⟩; have hs1 := hb1.size; obtain ⟨a9, c9, e9, _⟩ := hown.row; subst e9
  try go_wp2_with fail
  refine hK.out _ _ ?_ (fun hHeld => ?_)
  · exact hb1.block w.heap.size hs0
  clear hK K
  try simp only [Act.put, List.setIfInBounds_toArray, List.set_cons_zero, List.set_cons_succ]
  refine take_on (i := 8) (v := ?_) rfl rfl (by kernel_rfl) (by kernel_rfl) (by kernel_rfl) (fun _ _ _ h => h) rfl ?_ hHeld ?_
  rotate_left
  · (intro wq hSq; have q0 := (World.cell?_of_block (w := W0) (a := ⟨w.heap.size, 0, none⟩) hSq).trans c0; have q1 := (World.cell?_of_block (w := W0) (a := ⟨w.heap.size, 1, none⟩) hSq).trans c1; go_simp <;> first | with_reducible rfl | rfl)
  simp only [Act.put, List.setIfInBounds_toArray, List.set_cons_zero, List.set_cons_succ]
  refine take_one (i := 9) rfl (by kernel_rfl) (fun K hK => ?_)
  go_simp
  skip
  try go_wp2_with fail
  refine hK.out _ _ ?_ (fun hHeld => ?_)
  · exact (Below.heap_alloc y1 _ _ (by simp at hs1; omega)).trans hHeld
  clear hK K
  try simp only [Act.put, List.setIfInBounds_toArray, List.set_cons_zero, List.set_cons_succ]
  refine take_on (i := 10) (v := ?_) rfl rfl (by kernel_rfl) (by kernel_rfl) (by kernel_rfl) (fun _ _ _ h => h) rfl ?_ hHeld ?_
  rotate_left
  · (intro wq hSq; have q0 := (World.cell?_of_block (w := W0) (a := ⟨w.heap.size, 0, none⟩) hSq).trans c0; have q1 := (World.cell?_of_block (w := W0) (a := ⟨w.heap.size, 1, none⟩) hSq).trans c1; go_simp <;> first | with_reducible rfl | rfl)
  simp only [Act.put, List.setIfInBounds_toArray, List.set_cons_zero, List.set_cons_succ]
  refine take_on (i := 11) (v := ?_) rfl rfl (by kernel_rfl) (by kernel_rfl) (by kernel_rfl) (fun _ _ _ h => h) rfl ?_ hHeld ?_
  rotate_left
  · (intro wq hSq; have q0 := (World.cell?_of_block (w := W0) (a := ⟨w.heap.size, 0, none⟩) hSq).trans c0; have q1 := (World.cell?_of_block (w := W0) (a := ⟨w.heap.size, 1, none⟩) hSq).trans c1; go_simp <;> first | with_reducible rfl | rfl)
  simp only [Act.put, List.setIfInBounds_toArray, List.set_cons_zero, List.set_cons_succ]
  refine wpAnyH_done (by kernel_rfl) ?_ _
  change W0.heap.size ≤ y1.heap.size at hs1
  change OwB y1 W0.heap.size _ zs at hown
  have hnb := heap_alloc_new y1 (.cells #[.int .i64 Bi, .int .i64 (zs.length : Int), .slice a9 zs.length c9] 124)
  have hAe : Ar (y1.alloc (.cells #[.int .i64 Bi, .int .i64 (zs.length : Int), .slice a9 zs.length c9] 124)) y1.heap.size 0 (.slice a9 zs.length c9) B zs zs.length :=
    ⟨⟨_, _, hnb, by rw [← hBi.out]; rfl, rfl, rfl⟩, OwnS.alloc (hown.mono (Nat.zero_le _)) _, (fun e => by have := (hown.inside _ e).2; omega), h8, hl, hroom.out⟩
  have hbe : Below w.heap.size w (y1.alloc (.cells #[.int .i64 Bi, .int .i64 (zs.length : Int), .slice a9 zs.length c9] 124)) :=
    (hb0.trans (((Below.refl _ _).drew.trans hb1).mono (Nat.le_of_lt hs0))).alloc (by omega) _
  have hld : Loaded w B zs (.returned (.tuple #[.pointer (some ⟨y1.heap.size, 0, none⟩), .int .i64 0])) (y1.alloc (.cells #[.int .i64 Bi, .int .i64 (zs.length : Int), .slice a9 zs.length c9] 124)) :=
    ⟨⟨_, _, rfl, hAe, by omega, fun j hj => by have := (hown.inside j hj).1; omega⟩, hbe⟩
  clear hAe hbe hnb hfr
  go_wp2_with fail
  refine bodyPost_ret (v := .tuple #[.pointer (some ⟨y1.heap.size, 0, none⟩), .int .i64 0]) (by simp [results, Tryz.results33, go_sem]) rfl ?_
  exact hld

end Go.Proofs.YtkacfpmninmjkaaGreat
