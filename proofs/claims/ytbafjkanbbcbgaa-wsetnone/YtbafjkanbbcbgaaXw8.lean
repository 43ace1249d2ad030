/- Writes: all versions, by key. -/
import Derived.Test.YtbafjkanbbcbgaaXw7
import Derived.Laws.IdiomRangeMap
namespace Go.Proofs.Ytbafjkanbbcbgaa
open Go.RowKit Go.Maps Go.Shelf
open Go.WideAt (bytes_irrefl)

theorem rise_unique {α : Type} (f : α → List UInt8) : ∀ {l1 l2 : List α}, l1.Perm l2 → l1.Pairwise (fun p q => bytesBefore (f q) (f p) = false) → l2.Pairwise (fun p q => bytesBefore (f p) (f q) = true) → l1 = l2
  | l1, [], hp, _, _ => hp.eq_nil
  | [], _ :: _, hp, _, _ => absurd hp.length_eq (by simp)
  | b :: s, a :: r, hp, h1, h2 => by
    have h1' := List.pairwise_cons.1 h1
    have h2' := List.pairwise_cons.1 h2
    have hba : b = a := by
      rcases List.mem_cons.1 (hp.mem_iff.1 (List.mem_cons_self ..)) with h | h
      · exact h
      · rcases List.mem_cons.1 (hp.mem_iff.2 (List.mem_cons_self ..)) with h3 | h3
        · exact h3.symm
        · have := h2'.1 b h
          rw [h1'.1 a h3] at this; cases this
    subst hba
    rw [rise_unique f (List.perm_cons _ |>.1 hp) h1'.2 h2'.2]

theorem wpList_append_run {P : Program} {w : World} {ops : Array Oper} {rest : List Oper} {o : Oper} {a : Act} {Q : Exit → Act → World → Prop} (hgd : o.guard = none) (s x : Operand) (t : TypeId)
    (ho : o.op = .call { callee := .builtin .append, args := #[s, x], argTypes := #[t, t] }) (v y v' : Value) (w' : World) (hs : a.eval s = v) (hx : a.eval x = y)
    (hrun : (Builtin.append_ #[t, t] o.type #[v, y]).run P w = .ok v' w') (h : wpList P ops Q rest (a.put o.dst v') w') : wpList P ops Q (o :: rest) a w := by
  refine wpList_plain hgd fun K hK => ?_
  exact wp_append_run s x t ho v y v' w' hs hx hrun (hK _ _ h)
/-- One version laid behind the others. -/
theorem app_ver {z : World} {B : Nat} {ys : List Vn} {v : Value} (y : Vn) (ho : OwV z B v ys) (hl : ys.length ≤ 4000000000000) (hB : B ≤ z.heap.size) :
    ∃ a5 c5 w5, (Builtin.append_ #[27, 27] 27 #[v, .slice (some ⟨z.heap.size, 0, none⟩) 1 1]).run Try.prog (z.alloc (.cells #[.string y.k, .int .i64 y.n, .slice y.a y.z.length y.c, .bool y.d] 41)) = .ok (.slice a5 (ys.length + 1) c5) w5 ∧
      OwV w5 B (.slice a5 (ys.length + 1) c5) (ys ++ [y]) ∧ Below B z w5 ∧ ∀ j, j < z.heap.size → v.ownBlock ≠ some j → w5.heap[j]? = z.heap[j]? := by
  obtain ⟨z2, hz2⟩ : ∃ z2, z2 = z.alloc (.cells #[.string y.k, .int .i64 y.n, .slice y.a y.z.length y.c, .bool y.d] 41) := ⟨_, rfl⟩
  have hb2 : Below z.heap.size z z2 := by rw [hz2]; exact (Below.refl _ _).alloc (Nat.le_refl _) _
  have ho2 : OwV z2 B v ys := OwnS.below ho hb2
  have hsrc : Src Try.prog 4 27 (.slice (some ⟨z.heap.size, 0, none⟩) 1 1) 1 (quadV y) z2 := by rw [hz2]; exact srcV_one z y _
  obtain ⟨v5, w5, hrun, ho5, hg5, _⟩ := run_append_S (P := Try.prog) 27 27 27 _ Try.underlying27 infoV rfl ho2 _ 1 _ hsrc (by unfold maxLen; omega) (by omega) (Nat.le_trans hB hb2.size)
  rw [hz2] at hrun
  have ho6 : OwV w5 B v5 (ys ++ [y]) := by
    unfold OwV; rw [List.length_append, celV_append, celV_one]; exact ho5
  obtain ⟨a5, c5, ev, _⟩ := OwnS.open ho6
  rw [List.length_append] at ev
  subst ev
  exact ⟨a5, c5, w5, hrun, ho6, (hb2.mono hB).grown hg5 (Nat.le_trans hB hb2.size) fun j e => (OwnS.inside ho2 j e).1, fun j hj hne => (hg5.block j (by have := hb2.size; omega) fun e => hne e.symm).trans (hb2.block j hj)⟩

theorem OwnB.far {w w' : World} {B : Nat} {v : Value} {zs : List Nat} (h : OwnB w B v zs) (hk : ∀ (j : Nat) (cur : Array Value), w.heap[j]? = some (Obj.cells cur 5 (0, 0)) → w'.heap[j]? = w.heap[j]?) : OwnB w' B v zs := h.hold fun j hj => by
  obtain ⟨cur, h2⟩ := h.typed hj
  exact hk j cur h2

theorem sort_noneV (cap : Nat) (fv : Value) (w : World) : Calls Try.prog 39 #[.slice none 0 cap, fv] w fun e w' => e = .returned (.tuple #[]) ∧ w' = w :=
  AnyF.slices_SortFunc_none laysVers none cap fv w

/-- What Writes tells. -/
def GotV (B : Nat) (w' : World) (C : Wc) (e : Ending) : Prop := ∃ v ys, e = .returned v ∧ OwV w' B v ys ∧ ValV w' B ys ∧ saysV ys = C

set_option maxRecDepth 100000 in
set_option maxHeartbeats 1000000 in
theorem writes_nil (p : Option Addr) (w : World) (ha0 : Calls Try.prog 33 #[.pointer p] w fun e w' => e = .returned (.map none) ∧ w' = w) :
    Calls Try.prog 21 #[.pointer p] w fun e w' => e = .returned (.slice none 0 0) ∧ Below w.heap.size w w' := by
  have hb : Below w.heap.size w (w.alloc (.mapIter none 0 #[] 0)) := (Below.refl _ _).alloc (Nat.le_refl _) _
  have hrg := run_range_nilMap (P := Try.prog) w 30 9 41 Try.underlying30
  have hnx : ∀ ty, (Instr.next (.pointer (some ⟨w.heap.size, 0, none⟩)) false ty).run Try.prog (w.alloc (.mapIter none 0 #[] 0)) = _ := fun ty => run_next_nilMap w ty 0 0 #[]
  have hso := fun fv => sort_noneV 0 fv (w.alloc (.mapIter none 0 #[] 0))
  have HB := hide_it hb
  clear hb
  go_enter Try.func21, Try.ntmps21
  go_wp2_with fail
  refine ha0.mono ?_
  rintro e w1 ⟨rfl, hw1⟩
  obtain rfl := hw1.symm
  clear ha0 hw1
  go_wp2_with fail
  refine wp_loop_rounds 1 ?_
  rw [rounds_succ]
  go_wp2_with fail
  refine (hso _).mono ?_
  rintro e w2 ⟨rfl, hw2⟩
  obtain rfl := hw2.symm
  clear hso hw2
  go_wp2
  go_ret
  exact ⟨rfl, HB.out⟩
set_option maxRecDepth 100000 in
set_option maxHeartbeats 1000000 in
theorem bytes_nil (p : Option Addr) (w : World) (ha0 : Calls Try.prog 33 #[.pointer p] w fun e w' => e = .returned (.map none) ∧ w' = w) :
    Calls Try.prog 19 #[.pointer p] w fun e w' => e = .returned (.int .i64 0) ∧ Below w.heap.size w w' := by
  have hb : Below w.heap.size w (w.alloc (.mapIter none 0 #[] 0)) := (Below.refl _ _).alloc (Nat.le_refl _) _
  have hrg := run_range_nilMap (P := Try.prog) w 30 9 41 Try.underlying30
  have hnx : ∀ ty, (Instr.next (.pointer (some ⟨w.heap.size, 0, none⟩)) false ty).run Try.prog (w.alloc (.mapIter none 0 #[] 0)) = _ := fun ty => run_next_nilMap w ty 0 0 #[]
  have HB := hide_it hb
  clear hb
  go_enter Try.func19, Try.ntmps19
  go_wp2_with fail
  refine ha0.mono ?_
  rintro e w1 ⟨rfl, hw1⟩
  obtain rfl := hw1.symm
  clear ha0 hw1
  go_wp2_with fail
  refine wp_loop_rounds 1 ?_
  rw [rounds_succ]
  go_wp2
  go_ret
  exact ⟨rfl, HB.out⟩

section
variable {w : World} {F : Nat → Prop} {s : Nat} {mb : Option Nat} {M : List Vn}
theorem Wst.far (h : Wst w F s mb M) {z : World} (hb : Below w.heap.size w z) : ∀ e ∈ M, RowB z e.a e.z ∧ e.z.length ≤ 140737488355328 ∧ (e.a = none → e.z.length = 0 ∧ e.c = 0) := fun e he => by
  have h1 := (h.each e he).b.rowN
  have := h.kz he
  exact ⟨h1.1.below hb, by omega, h1.2⟩
set_option maxRecDepth 100000 in
set_option maxHeartbeats 4000000 in
theorem writes_some {b : Nat} (h : Wst w F s (some b) M) :
    Calls Try.prog 21 #[.pointer (some ⟨s, 0, none⟩)] w fun e w' => GotV w.heap.size w' (saysV M) e ∧ Below w.heap.size w w' := by
  have ha0 := all_any h
  obtain ⟨hown, hFb⟩ := h.map b rfl
  have hbl := h.lt b hFb
  have hrise := h.rise
  have hpl : ∀ e ∈ M, plainA e.a := fun e he => (h.each e he).p
  have hMl := h.len
  have hnw : ∀ e ∈ M, ∀ z, Below w.heap.size w z → Calls Try.prog 34 #[verV e] z fun e' w' => (∃ a c, e' = .returned (verV (movX e a c)) ∧ OwnB w' z.heap.size (.slice a e.z.length c) e.z) ∧ Below z.heap.size z w' := fun e he z hz => by
    obtain ⟨h1, h2, h3⟩ := h.far hz e he
    exact anew_any e z h1 h2 h3
  have HL := hide_it hnw
  have HR := hide_it hrise
  have HP := hide_it hpl
  have HML := hide_it hMl
  clear h hnw hrise hpl hMl
  go_enter Try.func21, Try.ntmps21
  go_wp2_with fail
  refine ha0.mono ?_
  rintro e w1 ⟨rfl, hw1⟩
  obtain rfl := hw1.symm
  clear ha0 hw1
  go_wp2_with (first | (at_range; refine wpList_range_own _ rfl _ 30 rfl 9 41 law_string Try.underlying30 _ b M.length _ rfl hown ?_; intro w0 hrg0 hg0 hs0) | go_in)
  go_frame
  go_loopw [3] (fun t3 wr => ∃ (left : Lit → Bool) (cnt : Nat) (vs : List Vn), wr.ranges Try.prog 9 verR b w.heap.size M.length (datW M) left cnt ∧ Hid (Seen M left vs) ∧ (∃ (a5 : Option Addr) (L c5 : Nat) (ps : List Vn), t3 = .slice a5 L c5 ∧ Hid (L = ps.length ∧ OwV wr (w.heap.size + 1) (.slice a5 L c5) ps ∧ ValV wr w.heap.size ps ∧ saysV ps = saysV vs)) ∧ Below w.heap.size w wr ∧ w.heap.size < wr.heap.size)
    (fun _ wr => wr.rangeLeft b w.heap.size)
  case atStart => exact ⟨_, _, [], hrg0, hide_it (Seen.start M), ⟨none, 0, 0, [], rfl, hide_it ⟨rfl, OwnS.nil _ _ _ _, (fun y hy => by cases hy), rfl⟩⟩, (Below.refl _ w).grown hg0 (Nat.le_refl _) (fun k e => by cases e), by omega⟩
  case round =>
    obtain ⟨left, cnt, vs, hrg, hS, ⟨a5, L, c5, ps, rfl, hO⟩, hbw, hwz⟩ := hrel
    clear hrg0 hg0 hs0 hown
    have hpsl : ps.length = vs.length := by
      have h1 := congrArg List.length hO.out.2.2.2
      unfold saysV at h1
      rwa [List.length_map, List.length_map] at h1
    have hvl := hS.out.len
    have hml := HML.out
    have HPL := hide_it hpsl
    clear hpsl
    go_wp2_with (first | (at_next; refine wpList_next_ranges _ rfl _ rfl 9 law_string verR encStr mkVh invK_str verR_shape b w.heap.size M.length _ _ _ rfl hrg ?_ ?_) | go_in)
    · intro hc0 hl0
      have hp := hS.out.done hl0
      have hso := versSort_any hO.out.2.1 (by have := HPL.out; omega)
      have HBW := hide_it hbw
      have HQ := hide_it hp
      clear hp hS hbw hrg hwz
      go_wp2_with fail
      refine hso.mono ?_
      rintro e w2 ⟨rfl, zs, hpm, hpw, hoz, hg⟩
      have hfin : GotV w.heap.size w2 (saysV M) (.returned (.slice a5 L c5)) := by
        refine ⟨_, zs, rfl, OwnS.mono hoz (Nat.le_succ _), fun y hy => ?_, ?_⟩
        · refine OwnB.far (hO.out.2.2.1 y (hpm.mem_iff.1 hy)) fun j cur hj => ?_
          exact hg.block j (Array.getElem?_eq_some_iff.1 hj).1 fun e => by
            obtain ⟨cur', h2⟩ := OwnS.type hO.out.2.1 e.symm
            rw [hj] at h2; cases h2
        · refine rise_unique (fun p : List UInt8 × Ver => p.1) ?_ ?_ HR.out
          · refine (List.Perm.map _ hpm).trans ?_
            show (saysV ps).Perm _
            rw [hO.out.2.2.2]
            exact HQ.out.map _
          · unfold saysV
            rw [List.pairwise_map]; exact hpw
      have hbel : Below w.heap.size w w2 := HBW.out.grown hg HBW.out.size fun j e => by have := (OwnS.inside hO.out.2.1 j e).1; omega
      have HFIN := hide_it hfin
      have HBEL := hide_it hbel
      clear hso hpm hpw hoz hg hfin hbel
      go_wp2
      go_ret
      exact ⟨HFIN.out, HBEL.out⟩
    · intro x c kl yd yp w1 cnt1 hkey hlk hv hat hrg1 hlt hg1 hs1 hen
      obtain ⟨_, e, he, rfl, hce, hnv, hS1⟩ := hS.out.step HR.out HP.out hkey hlk hv hat
      have hb1 : Below w.heap.size w w1 := hbw.trans (grown_below hg1 (Nat.le_refl _) hbw.size)
      rw [hce] at hen
      have ho1 : OwV w1 (w.heap.size + 1) (.slice a5 L c5) ps := OwnS.keep hO.out.2.1 fun j hj => hg1.block j (OwnS.inside hO.out.2.1 j hj).2 fun e1 => by
        have := (OwnS.inside hO.out.2.1 j hj).1; cases e1; omega
      have hval : ValV w1 w.heap.size ps := ValV.hold hO.out.2.2.1 fun j cur hj => hg1.block j (Array.getElem?_eq_some_iff.1 hj).1 fun e1 => by
        cases e1
        obtain ⟨es, clock, since, seen, c0, _, _, _, _, h5, _⟩ := hrg
        rw [hj] at h5; cases h5
      have hwz1 : w.heap.size < w1.heap.size := by have := hg1.size; omega
      obtain ⟨W3, hW3⟩ : ∃ W3, W3 = w1.alloc (.cells #[.string e.k, .int .i64 e.n, .slice e.a e.z.length e.c, .bool e.d] 41) := ⟨_, rfl⟩
      have hb3 : Below w1.heap.size w1 W3 := by rw [hW3]; exact (Below.refl _ _).alloc (Nat.le_refl _) _
      have k3 : W3.heap[w1.heap.size]? = some (.cells #[.string e.k, .int .i64 e.n, .slice e.a e.z.length e.c, .bool e.d] 41 (0, 0)) := by rw [hW3]; exact heap_alloc_new w1 _
      have m0 := cell_of_row _ _ 0 _ _ _ k3
      have m1 := cell_of_row _ _ 1 _ _ _ k3
      have m2 := cell_of_row _ _ 2 _ _ _ k3
      have m3 := cell_of_row _ _ 3 _ _ _ k3
      have hcl := HL.out e he W3 (hb1.trans (hb3.mono hb1.size))
      have hL : Hid (L = ps.length) := hide_it hO.out.1
      have hsay : saysV ps = saysV vs := hO.out.2.2.2
      have HS1 := hide_it hS1
      have HB1 := hide_it hb1
      have HB3 := hide_it hb3
      have HO1 := hide_it ho1
      have HV1 := hide_it hval
      have HSY := hide_it hsay
      have HM : Hid (w1.rangeLeft b w.heap.size < wr.rangeLeft b w.heap.size) := by rw [hrg1.left_eq, hrg.left_eq]; exact hide_it hlt
      have HRG := hide_it hrg1
      simp only [verV, movX] at hcl hen
      clear hS hS1 hO hkey hlk hv hat hnv hs1 hg1 hrg hrg1 hlt hb1 hbw hce ho1 hval hsay hb3 k3
      go_wp2_with fail
      rw [← hW3]
      clear hW3
      go_wp2_with fail
      refine hcl.mono ?_
      rintro e' w2 ⟨⟨a9, c9, rfl, hv9⟩, hb2⟩
      have hb23 := HB3.out.trans (hb2.mono HB3.out.size)
      obtain ⟨a6, c6, w6, hrun, ho6, hb6, hold6⟩ := app_ver (movX e a9 c9) (OwnS.below HO1.out hb23) (by have := HPL.out; omega) (by have := hb23.size; omega)
      simp only [movX] at hrun
      have hXX : Hid (ps.length + 1 = (ps ++ [movX e a9 c9]).length ∧ OwV w6 (w.heap.size + 1) (.slice a6 (ps.length + 1) c6) (ps ++ [movX e a9 c9]) ∧ ValV w6 w.heap.size (ps ++ [movX e a9 c9]) ∧ saysV (ps ++ [movX e a9 c9]) = saysV (vs ++ [e])) := by
        refine hide_it ⟨by simp, ho6, fun y hy => ?_, ?_⟩
        · have hun : ∀ j cur, w2.heap[j]? = some (Obj.cells cur 5 (0, 0)) → w6.heap[j]? = w2.heap[j]? := fun j cur hj => hold6 j (Array.getElem?_eq_some_iff.1 hj).1 fun e1 => by
            obtain ⟨cur', h2⟩ := OwnS.type (OwnS.below HO1.out hb23) e1
            rw [hj] at h2; cases h2
          rcases List.mem_append.1 hy with hy | hy
          · exact OwnB.far ((HV1.out y hy).below hb23) hun
          · obtain rfl := List.mem_singleton.1 hy
            exact (OwnB.far hv9 hun).mono (by have := HB3.out.size; omega)
        · have := HSY.out
          unfold saysV at this ⊢
          rw [List.map_append, List.map_append, this]; rfl
      have hb36 : Below (w.heap.size + 1) w1 w6 := (hb23.mono (by omega)).trans hb6
      have hlt0 := ranges_lt HRG.out
      have HRG2 : Hid (w6.ranges Try.prog 9 verR b w.heap.size M.length (datW M) _ _) := hide_it (ranges_hold HRG.out (hb36.block b (by omega)) (hb36.block w.heap.size (by omega)))
      have HM2 : Hid (w6.rangeLeft b w.heap.size < wr.rangeLeft b w.heap.size) := by rw [HRG2.out.left_eq, ← HRG.out.left_eq]; exact HM
      have HB6 : Hid (Below w.heap.size w w6) := hide_it (HB1.out.trans (hb36.mono (Nat.le_succ _)))
      have HZ6 : Hid (w.heap.size < w6.heap.size) := hide_it (by have := hb36.size; omega)
      rw [← hL.out] at hrun
      clear hcl hv9 hb2 hb23 ho6 hb6 hold6 hb36 hlt0 hen m0 m1 m2 m3
      go_wp2_with (at_builtin; refine wpList_append_run rfl _ _ _ rfl _ _ _ _ rfl rfl hrun ?_)
      go_roundw
      case rel => exact ⟨_, _, vs ++ [e], HRG2.out, HS1, ⟨a6, _, c6, _, rfl, by rw [hL.out]; exact hXX⟩, HB6.out, HZ6.out⟩
      case measure => exact HM2.out
theorem writes_any (h : Wst w F s mb M) : Calls Try.prog 21 #[.pointer (some ⟨s, 0, none⟩)] w fun e w' => GotV w.heap.size w' (saysV M) e ∧ Below w.heap.size w w' := by
  cases mb with
  | some b => exact writes_some h
  | none =>
    have hM := h.nomap rfl
    subst hM
    refine (writes_nil _ w (all_any h)).mono ?_
    rintro e w' ⟨rfl, hb⟩
    exact ⟨⟨_, [], rfl, OwnS.nil _ _ _ _, (fun y hy => by cases hy), rfl⟩, hb⟩
theorem bytes_any (h : Wst w F s mb M) : Calls Try.prog 19 #[.pointer (some ⟨s, 0, none⟩)] w fun e w' => e = .returned (.int .i64 (bytesA (saysV M) : Int)) ∧ Below w.heap.size w w' := by
  cases mb with
  | some b => exact bytes_some h
  | none =>
    have hM := h.nomap rfl
    subst hM
    refine (bytes_nil _ w (all_any h)).mono ?_
    rintro e w' ⟨rfl, hb⟩
    exact ⟨rfl, hb⟩
end

end Go.Proofs.Ytbafjkanbbcbgaa
