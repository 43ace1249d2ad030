/- The document's list of unlike labels; its Heights as plain mathematics. -/
import Derived.Test.YthclmkmajlinhabHg2
import Derived.Test.YthclmkmajlinhabRCl3
import Derived.Sort.Row
namespace Go.Proofs.Ythclmkmajlinhab
open Go.RowKit

theorem OwnU.set_old {w : World} {base p : Nat} {v : Value} {zs : List Nat} (h : OwnU w base v zs) (hp : p < base) (i : Nat) (u : Value) : OwnU (w.setCell ⟨p, i, none⟩ u) base v zs := by
  refine ⟨h.1, ?_⟩
  rcases h.2 with h2 | ⟨g, cap, cur, e, h3, hh, h4⟩
  · exact .inl h2
  · exact .inr ⟨g, cap, cur, e, h3, by rw [Below.heap_setCell _ _ _ _ (show g ≠ p by omega)]; exact hh, h4⟩

theorem setCell_two (w : World) (blk off : Nat) (v v' : Value) : (w.setCell ⟨blk, off, none⟩ v).setCell ⟨blk, off, none⟩ v' = w.setCell ⟨blk, off, none⟩ v' := by
  simp only [Go.Sort.setCell_eq, Go.Sort.mapBlock_mapBlock]
  congr 1
  funext c
  simp
/-- Where each of the first k labels stands among the unlike ones. -/
def Found (zs al : List Nat) (A : Nat → Nat) (k : Nat) : Prop := ∀ i, i < k → A i < al.length ∧ at0 al (A i) = at0 zs i
theorem Found.grow {zs al : List Nat} {A : Nat → Nat} {k x : Nat} (h : Found zs al A k) : Found zs (al ++ [x]) A k := fun i hi => by
  obtain ⟨h1, h2⟩ := h i hi
  refine ⟨by simp; omega, ?_⟩
  rw [← h2]
  unfold at0
  rw [List.getD_eq_getElem?_getD, List.getD_eq_getElem?_getD, List.getElem?_append_left h1]
def updN (h : Nat → Nat) (k x : Nat) (i : Nat) : Nat := if i = k then x else h i
theorem Found.put {zs al : List Nat} {A : Nat → Nat} {k p : Nat} (h : Found zs al A k) (hp : p < al.length) (he : at0 al p = at0 zs k) : Found zs al (updN A k p) (k + 1) := fun i hi => by
  unfold updN
  by_cases e : i = k
  · subst e; rw [if_pos rfl]; exact ⟨hp, he⟩
  · rw [if_neg e]; exact h i (by omega)
theorem at0_last (al : List Nat) (x : Nat) : at0 (al ++ [x]) al.length = x := by
  unfold at0
  rw [List.getD_eq_getElem?_getD, List.getElem?_append_right (Nat.le_refl _)]
  simp
theorem idx_at {al : List Nat} {x : Nat} (h : x ∈ al) : ∃ p : Nat, idx al x = (p : Int) ∧ p < al.length ∧ at0 al p = x := by
  refine ⟨al.idxOf x, by unfold idx; rw [if_pos h], List.idxOf_lt_length_of_mem h, ?_⟩
  unfold at0
  rw [List.getD_eq_getElem?_getD, List.getElem?_eq_getElem (List.idxOf_lt_length_of_mem h)]
  exact List.getElem_idxOf _

/-- What 'unlike' answers. -/
structure Unl (zs al : List Nat) (A : Nat → Nat) : Prop where
  nodup : al.Nodup
  mem : ∀ x, x ∈ al ↔ x ∈ zs
  found : Found zs al A zs.length
  len : al.length ≤ zs.length

set_option maxRecDepth 100000 in
set_option maxHeartbeats 4000000 in
theorem unlike_any (a : Option Addr) (cap : Nat) (zs : List Nat) (w : World) (hr : Row w a zs) (hl : 8 * zs.length ≤ 140737488355328) :
    Calls Try.prog 14 #[.slice a zs.length cap] w fun e w' => (∃ v g al A, e = .returned (.tuple #[v, .slice (some ⟨g, 0, none⟩) zs.length zs.length]) ∧ OwnU w' (g + 1) v al ∧ IRow w' g zs.length A ∧ w.heap.size ≤ g ∧ Unl zs al A) ∧ Below w.heap.size w w' := by
  have hmk := run_make_row' (P := Try.prog) 41 3 (.int .i64 0) 8 Try.underlying41 infoInt rfl .i64 .i64 zs.length (by omega) (by omega)
  go_enter Try.func14, Try.ntmps14
  go_wp2_with fail
  clear hmk
  have hr0 := IRow.made w zs.length
  have hb0 : Below w.heap.size w (w.alloc (.cells (madeCells #[.int .i64 0] zs.length) 3)) := (Below.refl _ _).alloc (Nat.le_refl _) _
  obtain ⟨W0, hW0⟩ : ∃ W0, W0 = w.alloc (.cells (madeCells #[.int .i64 0] zs.length) 3) := ⟨_, rfl⟩
  rw [← hW0] at hr0 hb0 ⊢
  obtain ⟨g, hg⟩ : ∃ g, g = w.heap.size := ⟨_, rfl⟩
  rw [← hg] at hr0 ⊢
  have hgb : w.heap.size ≤ g := by omega
  have hg0 : g < W0.heap.size := hr0.lt
  clear hW0 hg
  go_loopw [4, 6] (fun v i wr => ∃ (k : Nat) (al : List Nat) (A : Nat → Nat), k ≤ zs.length ∧ i = .int .i64 k ∧ OwnU wr (g + 1) v al ∧ IRow wr g zs.length A ∧ Hid (Ded zs al k ∧ Found zs al A k ∧ al.length ≤ k) ∧ Below w.heap.size w wr) (fun _ i _ => zs.length - (intOf i).toNat)
  case atStart => exact ⟨0, [], _, by omega, rfl, OwnU.nil _ _, hr0, ⟨⟨by simp, (fun x hx => by cases hx), (fun i hi => by omega)⟩, (fun i hi => by omega), by simp⟩, hb0⟩
  case round =>
    obtain ⟨k, al, A, hk, rfl, how, hrow, hst, hbl⟩ := hrel
    clear hr0 hb0
    by_cases hlt : k < zs.length
    · have hi1 : (k : Int) < (zs.length : Int) := by omega
      obtain ⟨b, o, rfl, hbb, hcz⟩ := (hr.below hbl).here hlt
      have c0 := hcz k hlt
      have hde := hst.out.1.step hlt
      have hfo := hst.out.2.1
      have hal := hst.out.2.2
      obtain ⟨z, hz⟩ : ∃ z, z = at0 zs k := ⟨_, rfl⟩
      rw [← hz] at c0 hde
      have HZ := hidden hz
      obtain ⟨pa, pc, hv, hrw, _, _⟩ := how.row
      subst hv
      have hpl := rplace_any pa pc al z wr hrw (by unfold maxLen; omega)
      have c1 := hrow.cell hlt
      have f1 := hrow.frozen k
      have hglt := hrow.lt
      clear hcz hz
      by_cases hm : z ∈ al
      · obtain ⟨p, hpe, hp1, hp2⟩ := idx_at hm
        rw [hpe] at hpl
        have hrow2 := hrow.set k p (h' := updN A k p) (fun i _ => rfl)
        have how2 := how.set_old (p := g) (by omega) k (.int .i64 (p : Int))
        have hbl2 : Below w.heap.size w (wr.setCell ⟨g, k, none⟩ (.int .i64 (p : Int))) := hbl.setCell hgb _
        rw [ins_yes hm] at hde
        have HNEW : Hid (Ded zs al (k + 1) ∧ Found zs al (updN A k p) (k + 1) ∧ al.length ≤ k + 1) := ⟨hde, hfo.put hp1 (by rw [hp2, HZ.out]), by omega⟩
        have c2 := hrow2.cell hlt
        simp only [updN, if_pos] at c2
        have hpn : ¬ (p : Int) < 0 := by omega
        clear hde hfo hm hpe hp2 hst hrow how
        go_wp2_with fail
        refine hpl.mono ?_
        rintro e w1 ⟨rfl, hq⟩
        have hq2 := hq.symm
        subst hq2
        clear hq hpl
        go_wp2_with fail
        go_roundw
        case rel => exact ⟨k + 1, al, updN A k p, by omega, by go_num, how2, hrow2, HNEW, hbl2⟩
        case measure => simp [intOf]; omega
      · have hpe : idx al z = -1 := by unfold idx; rw [if_neg hm]
        rw [hpe] at hpl
        have hrowm := World.rowIs.set hrow k (.int .i64 (-1))
        have c2 := World.rowIs.cell hrowm hlt
        have f2 := World.rowIs.frozen hrowm k
        rw [if_pos rfl] at c2
        have hrow2 := hrow.set k al.length (h' := updN A k al.length) (fun i _ => rfl)
        have hss : ∀ v v', (wr.setCell ⟨g, k, none⟩ v).setCell ⟨g, k, none⟩ v' = wr.setCell ⟨g, k, none⟩ v' := setCell_two wr g k
        obtain ⟨W2, hW2⟩ : ∃ W2, W2 = wr.setCell ⟨g, k, none⟩ (.int .i64 (al.length : Int)) := ⟨_, rfl⟩
        have how2 := how.set_old (p := g) (by omega) k (.int .i64 (al.length : Int))
        have hbl2 : Below w.heap.size w (wr.setCell ⟨g, k, none⟩ (.int .i64 (al.length : Int))) := hbl.setCell hgb _
        have c3 := (hr.below hbl2).here hlt
        rw [← hW2] at hrow2 how2 hbl2 c3
        obtain ⟨b', o', e', _, hcz'⟩ := c3
        cases e'
        have c4 := hcz' k hlt
        rw [← HZ.out] at c4
        rw [ins_no hm] at hde
        have HNEW : Hid (Ded zs (al ++ [z]) (k + 1) ∧ Found zs (al ++ [z]) (updN A k al.length) (k + 1) ∧ (al ++ [z]).length ≤ k + 1) := ⟨hde, hfo.grow.put (by simp) (by rw [at0_last, HZ.out]), by simp; omega⟩
        have hs2 : g + 1 ≤ W2.heap.size := hrow2.lt
        have HW2 := hidden hW2
        have hW2' : wr.setCell ⟨g, k, none⟩ (.int .i64 (al.length : Int)) = W2 := hW2.symm
        clear hde hfo hm hpe hst hrow how hW2 hcz'
        go_wp2_with fail
        refine hpl.mono ?_
        rintro e w1 ⟨rfl, hq⟩
        have hq2 := hq.symm
        subst hq2
        clear hq hpl
        go_wp2_with (at_builtin; refine wpList_append_u64 _ rfl _ _ rfl (g + 1) _ _ rfl how2 z rfl (by omega) hs2 ?_; intro v4 w4 hown4 hg4)
        have hbl4 : Below w.heap.size w w4 := (hbl2.alloc hbl2.size _).grown hg4 (by have := hbl2.size; simp; omega) (fun j e => by have := own_geU how2 e; omega)
        have hrow4 : IRow w4 g zs.length (updN A k al.length) := (hrow2.keep (Below.heap_alloc _ _ _ (by omega))).keep (hg4.block g (by simp; omega) (fun e => by have := own_geU how2 e.symm; omega))
        go_roundw
        case rel => exact ⟨k + 1, al ++ [z], updN A k al.length, by omega, by go_num, hown4, hrow4, HNEW, hbl4⟩
        case measure => simp [intOf]; omega
    · have hkn : k = zs.length := by omega
      subst hkn
      have hd := hst.out.1
      have hU : Unl zs al A := ⟨hd.nodup, fun x => ⟨hd.sub x, fun hx => by obtain ⟨i, hi, rfl⟩ := mem_at0 hx; exact hd.all i hi⟩, hst.out.2.1, hst.out.2.2⟩
      clear hd
      go_wp2_with fail
      go_ret2
      exact ⟨⟨_, g, al, A, rfl, how, hrow, hgb, hU⟩, hbl⟩

end Go.Proofs.Ythclmkmajlinhab
