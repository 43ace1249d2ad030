/- A chain in memory: Add. -/
import Derived.Test.YthaknohnccmfoaaHn3Y
import Derived.Test.YthaknohnccmfoaaSl2
namespace Go.Proofs.Ythaknohnccmfoaa.kY
open Go.RowKit

/-- A row that lies where it lay. -/
def Stays (w w' : World) : Prop := ∀ a ys, RowL w a ys → RowL w' a ys
/-- What a call does to a chain: its own blocks alone change, and the links that lay lie where they lay. -/
structure HnTo (w : World) (F : Nat → Prop) (p : Nat) (v : Value) (xs ys : List Lk) (w' : World) : Prop where
  hn : ∃ v', Hn w' (upto F w w') p v' ys
  chg : Chg F w w'
  old : ∀ a c, v = .slice a xs.length c → RowL w' a xs
theorem upto_of {F : Nat → Prop} {w w' : World} {j : Nat} (h : F j) : upto F w w' j := .inl h
theorem HnTo.same {w w' : World} {F : Nat → Prop} {p : Nat} {v : Value} {xs : List Lk} (h : Hn w F p v xs) (hb : Below w.heap.size w w') : HnTo w F p v xs xs w' :=
  ⟨⟨v, (h.below hb).mono fun j hj => .inl hj⟩, .new hb, fun a c e => by
    obtain ⟨a', c', e', hr, _⟩ := h.row
    rw [e] at e'; cases e'
    exact hr.below hb⟩

theorem HnTo.trans_below {w w1 w' : World} {F : Nat → Prop} {p : Nat} {v : Value} {xs ys : List Lk} (k : HnTo w1 F p v xs ys w') (_h : Hn w F p v xs) (hb : Below w.heap.size w w1) : HnTo w F p v xs ys w' := by
  obtain ⟨v', hv⟩ := k.hn
  refine ⟨⟨v', hv.mono fun j hj => ?_⟩, (Chg.new hb).trans k.chg fun _ _ e => e, k.old⟩
  rcases hj with hj | ⟨h1, h2⟩
  · exact .inl hj
  · exact .inr ⟨Nat.le_trans hb.size h1, h2⟩

/-- What one link behind the others makes of memory. -/
theorem add_run {W : World} {F : Nat → Prop} {p : Nat} {v : Value} {xs : List Lk} (h : Hn W F p v xs) (x : Lk) (hl : xs.length ≤ 4000000000000) (ty : TypeId) :
    ∃ v' z, (Builtin.append_ #[112, 112] ty #[v, .slice (some ⟨W.heap.size, 0, none⟩) 1 1]).run Try.prog (W.alloc (.cells #[.int .i64 x.n, .slice x.v.1 x.v.2.1 x.v.2.2, .bool x.d] 95)) = .ok v' z ∧
      OwL z v' (xs ++ [x]) ∧ Chg (fun j => v.ownBlock = some j) W z ∧ (v'.ownBlock = v.ownBlock ∨ ∃ j, v'.ownBlock = some j ∧ W.heap.size ≤ j) ∧ (∀ a c, v = .slice a xs.length c → RowL z a xs) ∧ W.heap.size < z.heap.size := by
  have hb : Below W.heap.size W (W.alloc (.cells #[.int .i64 x.n, .slice x.v.1 x.v.2.1 x.v.2.2, .bool x.d] 95)) := (Below.refl _ _).alloc (Nat.le_refl _) _
  have ho := OwnS.below h.own hb
  obtain ⟨v', z, hr, ho', hg, hat, hlies⟩ := run_append_S2 (P := Try.prog) 112 112 ty (.agg #[.int .i64 0, .slice none 0 0, .bool false]) Try.underlying112 infoL rfl ho _ 1 _ (src_one Try.underlying112 W x _) (by unfold maxLen; omega) (by omega) (by omega)
  refine ⟨v', z, hr, ?_, ?_, ?_, fun a c e => ?_, ?_⟩
  · unfold OwL; rw [List.length_append, celL_append, celL_one]; exact ho'
  · exact (Chg.new hb).trans (.of_grown hg fun k _ e => e) fun j _ hj => hj
  · rcases hat with e | e
    · exact .inl e
    · exact .inr ⟨_, e, by simp⟩
  · obtain ⟨a', c', e', hrow, _, _, _, hob⟩ := own_row ho
    rw [e] at e'; cases e'
    rcases hrow with h0 | ⟨g, o, cur, t, rfl, hh, hc⟩
    · exact .inl h0
    · obtain ⟨cur1, hcur⟩ := OwnS.type ho ((hob g).2 ⟨o, rfl⟩)
      rw [hh] at hcur; cases hcur
      obtain ⟨cur', h1, h2⟩ := hlies g o _ c _ e hh hc
      exact .inr ⟨g, o, cur', _, rfl, h1, h2⟩
  · have := hg.size; simp at this; omega

/-- The chain behind it. -/
theorem add_to {W z : World} {F : Nat → Prop} {p : Nat} {v v' : Value} {xs : List Lk} (h : Hn W F p v xs) (x : Lk) (hx : x.n ≤ 9223372036854775807) (hr : ¬ refu xs x) (ho : OwL z v' (xs ++ [x])) (hc : Chg (fun j => v.ownBlock = some j) W z)
    (hat : v'.ownBlock = v.ownBlock ∨ ∃ j, v'.ownBlock = some j ∧ W.heap.size ≤ j) (hold : ∀ a c, v = .slice a xs.length c → RowL z a xs) : HnTo W F p v xs (addL xs x) (z.setCell ⟨p, 0, none⟩ v') := by
  have e : addL xs x = xs ++ [x] := if_neg hr
  have hpv : ¬ v.ownBlock = some p := fun e => by
    obtain ⟨cur, h2⟩ := OwnS.type h.own e
    rw [h.blk] at h2; cases h2
  have hp' := (hc.block p h.lt hpv).trans h.blk
  have hpl : p < z.heap.size := (Array.getElem?_eq_some_iff.1 hp').1
  have hpv' : ¬ v'.ownBlock = some p := fun e => by
    obtain ⟨cur, h2⟩ := OwnS.type ho e
    rw [hp'] at h2; cases h2
  have off : ∀ j, j ≠ p → (z.setCell ⟨p, 0, none⟩ v').heap[j]? = z.heap[j]? := fun j hj => Below.heap_setCell _ _ _ j hj
  refine ⟨⟨v', heap_setCell_same z p 0 _ _ v' hp', ?_, e ▸ h.good.add hx, .inl h.fp, fun j hj => ?_⟩, (hc.mono fun k hk e => h.fv k e).setCell _ _ fun _ => h.fp, fun a c ea => ?_⟩
  · rw [e]; exact OwnS.keep ho fun j hj => off j fun ej => hpv' (ej ▸ hj)
  · have hlt := (OwnS.inside ho j hj).2
    rcases hat with e2 | ⟨k, e2, hk⟩
    · exact .inl (h.fv j (e2 ▸ hj))
    · rw [hj] at e2; cases e2; exact .inr ⟨hk, by simpa using hlt⟩
  · obtain ⟨a', c', e', _, _, _, _, hob⟩ := h.row
    have hra := hold a c ea
    rw [ea] at e'; cases e'
    exact hra.keep fun b o eb => off b fun ej => hpv (ej ▸ (hob b).2 ⟨o, eb⟩)

set_option maxRecDepth 100000 in
theorem add_none (x : Lk) (w : World) : Calls Try.prog 57 #[.pointer none, lkV x] w fun e w' => e = .returned (.int .i64 1) ∧ Below w.heap.size w w' := by
  unfold lkV
  go_enter Try.func57, Try.ntmps57
  go_wp2
  go_ret
  exact ⟨rfl, (Below.refl _ _).alloc (Nat.le_refl _) _⟩

set_option maxRecDepth 100000 in
set_option maxHeartbeats 2000000 in
theorem add_any {w : World} {F : Nat → Prop} {p : Nat} {v : Value} {xs : List Lk} (h : Hn w F p v xs) (x : Lk) (hx : x.n ≤ 9223372036854775807) (hl : xs.length ≤ 4000000000000) :
    Calls Try.prog 57 #[.pointer (some ⟨p, 0, none⟩), lkV x] w fun e w' => e = .returned (.int .i64 (addE xs x)) ∧ HnTo w F p v xs (addL xs x) w' := by
  obtain ⟨W, hW⟩ : ∃ W, W = w.alloc (.cells #[.int .i64 x.n, .slice x.v.1 x.v.2.1 x.v.2.2, .bool x.d] 95) := ⟨_, rfl⟩
  have hb : Below w.heap.size w W := by rw [hW]; exact (Below.refl _ _).alloc (Nat.le_refl _) _
  have hz : W.heap.size = w.heap.size + 1 := by rw [hW]; simp
  have k0 : W.heap[w.heap.size]? = some (.cells #[.int .i64 x.n, .slice x.v.1 x.v.2.1 x.v.2.2, .bool x.d] 95 (0, 0)) := by rw [hW]; exact heap_alloc_new w _
  have hla := last_any (h.below hb) hl
  have hv : ∀ y bb, y = lastK xs xs.length → bb = decide (0 < xs.length) → (refu xs x ↔ (x.n < 0 ∨ (bb = true ∧ x.n ≤ y.n))) := by
    rintro y bb rfl rfl
    unfold refu lastK
    by_cases h0 : xs.length = 0
    · simp [h0]
    · simp [h0]
  obtain ⟨y, hy⟩ : ∃ y, y = lastK xs xs.length := ⟨_, rfl⟩
  obtain ⟨bb, hbb⟩ : ∃ bb, bb = decide (0 < xs.length) := ⟨_, rfl⟩
  have hv := hv y bb hy hbb
  rw [← hy, ← hbb] at hla
  clear hy hbb
  unfold lkV
  have HH := hide_it h
  have hplt := h.lt
  have HV := hide_it hv
  have HE1 : Hid (refu xs x → addE xs x = 130 ∧ addL xs x = xs) := fun hr => ⟨if_pos hr, if_pos hr⟩
  have HE2 : Hid (¬ refu xs x → addE xs x = 0) := fun hr => if_neg hr
  have HB0 := hide_it hb
  have HX := hide_it hx
  have HLn := hide_it hl
  clear h hl hx hv hb
  go_enter Try.func57, Try.ntmps57
  go_wp2_with fail
  rw [← hW]
  clear hW
  refine hla.mono ?_
  rintro e w1 ⟨rfl, hb1⟩
  unfold tellL lkV
  have hz1 := hb1.size
  have k1 := (hb1.block w.heap.size (by omega)).trans k0
  have x0 : w1.cell? ⟨w.heap.size, 0, none⟩ = some (.int .i64 x.n) := cell_of_row _ _ _ _ _ _ k1
  have hlt1 : w.heap.size < w1.heap.size := by omega
  have HB1 := hide_it (HB0.out.trans (hb1.mono (by omega)))
  have hb3 : Below w1.heap.size w1 (w1.alloc (.cells #[.int .i64 y.n, .slice y.v.1 y.v.2.1 y.v.2.2, .bool y.d] 95)) := (Below.refl _ _).alloc (Nat.le_refl _) _
  have HB3 := hide_it (HB1.out.trans (hb3.mono (by have := HB1.out.size; omega)))
  have K1 := hide_it k1
  clear hla hb1 hb3 k0 k1 hz HB0
  by_cases c1 : x.n < 0
  · have hr : refu xs x := HV.out.2 (.inl c1)
    have HR := hide_it (HE1.out hr)
    clear hr
    go_wp2
    go_ret
    exact ⟨by rw [HR.out.1]; rfl, by rw [HR.out.2]; exact HnTo.same HH.out HB3.out⟩
  · cases bb with
    | true =>
      by_cases c2 : x.n ≤ y.n
      · have hr : refu xs x := HV.out.2 (.inr ⟨rfl, c2⟩)
        have HR := hide_it (HE1.out hr)
        clear hr
        go_wp2
        go_ret
        exact ⟨by rw [HR.out.1]; rfl, by rw [HR.out.2]; exact HnTo.same HH.out HB3.out⟩
      · have hr : ¬ refu xs x := fun e => by rcases HV.out.1 e with e | e <;> omega
        have HR := hide_it hr
        clear hr
        go_wp2_with fail
        obtain ⟨W0, hW0⟩ : ∃ W0, W0 = w1.alloc (.cells #[.int .i64 y.n, .slice y.v.1 y.v.2.1 y.v.2.2, .bool y.d] 95) := ⟨_, rfl⟩
        have hH := HH.out.below (show Below w.heap.size w W0 by rw [hW0]; exact HB3.out)
        have HB5 := hide_it (show Below w.heap.size w W0 by rw [hW0]; exact HB3.out)
        have kx : W0.heap[w.heap.size]? = some (.cells #[.int .i64 x.n, .slice x.v.1 x.v.2.1 x.v.2.2, .bool x.d] 95 (0, 0)) := by rw [hW0, Below.heap_alloc _ _ _ hlt1]; exact K1.out
        rw [← hW0]
        clear hW0 HB3 x0 HV HE1
        have hlx := (Array.getElem?_eq_some_iff.1 kx).1
        have hlp := hH.lt
        have kp := hH.blk
        have cp : W0.cell? ⟨p, 0, none⟩ = some v := cell_of_row _ _ _ _ _ _ kp
        have hpw : ¬ p = w.heap.size := by omega
        have hpx : ¬ v.ownBlock = some w.heap.size := fun e => by have := (OwnS.inside HH.out.own _ e).2; omega
        have hpp : ¬ v.ownBlock = some p := fun e => by
          obtain ⟨cur, h2⟩ := OwnS.type HH.out.own e
          rw [HH.out.blk] at h2; cases h2
        have hH1 : Hn W0.drew F p v xs := hH.keep fun _ _ _ => rfl
        obtain ⟨v', z, hrun, ho2, hc2, hat2, hold2, hlt2⟩ := add_run hH1 x HLn.out 112
        obtain ⟨a2, cap2, hv2, _⟩ := own_row ho2
        subst hv2
        obtain ⟨Z1, hZ1⟩ : ∃ Z1, Z1 = W0.drew.alloc (.cells #[.int .i64 x.n, .slice x.v.1 x.v.2.1 x.v.2.2, .bool x.d] 95) := ⟨_, rfl⟩
        rw [← hZ1, show W0.drew.heap.size = W0.heap.size from rfl] at hrun
        have HT := add_to hH1 x HX.out HR.out ho2 hc2 hat2 hold2
        rw [show (xs ++ [x]).length = xs.length + 1 by simp] at hrun HT
        replace HT := hide_it HT
        have kx3 : z.heap[w.heap.size]? = W0.heap[w.heap.size]? := hc2.block _ hlx hpx
        have kp3 : z.heap[p]? = _ := (hc2.block p hlp hpp).trans kp
        have cz : z.cell? ⟨p, 0, none⟩ = some v := cell_of_row _ _ _ _ _ _ kp3
        have fz : z.frozen? ⟨p, 0, none⟩ = false := frozen_of_row _ _ _ _ _ kp3
        have HU : Hid (∀ z', HnTo W0.drew F p v xs (addL xs x) z' → HnTo w F p v xs (addL xs x) z') := hide_it fun z' h => h.trans_below HH.out HB5.out.drew
        clear hH hH1 ho2 hc2 hat2 hold2 kp3 kp
        refine wp_region_held_drew (S := (fun w' => w'.heap[w.heap.size]? = W0.heap[w.heap.size]?)) (by kernel_rfl) ?_ (fun hHeld => ?_)
        · rfl
        refine take_on (i := 0) (v := ?_) rfl rfl (by kernel_rfl) (by kernel_rfl) (by kernel_rfl) (fun _ _ _ h => h) rfl ?_ hHeld ?_
        rotate_left
        · (intro wq hSq; have xk := hSq.trans kx; have s0 := cell_of_row _ _ 0 _ _ _ xk; have s1 := cell_of_row _ _ 1 _ _ _ xk; have s2 := cell_of_row _ _ 2 _ _ _ xk; go_simp <;> first | with_reducible rfl | rfl)
        simp only [Act.put, List.setIfInBounds_toArray, List.set_cons_zero, List.set_cons_succ]
        refine take_on (i := 1) (v := ?_) rfl rfl (by kernel_rfl) (by kernel_rfl) (by kernel_rfl) (fun _ _ _ h => h) rfl ?_ hHeld ?_
        rotate_left
        · (intro wq hSq; have xk := hSq.trans kx; have s0 := cell_of_row _ _ 0 _ _ _ xk; have s1 := cell_of_row _ _ 1 _ _ _ xk; have s2 := cell_of_row _ _ 2 _ _ _ xk; go_simp <;> first | with_reducible rfl | rfl)
        simp only [Act.put, List.setIfInBounds_toArray, List.set_cons_zero, List.set_cons_succ]
        refine take_on (i := 2) (v := ?_) rfl rfl (by kernel_rfl) (by kernel_rfl) (by kernel_rfl) (fun _ _ _ h => h) rfl ?_ hHeld ?_
        rotate_left
        · (intro wq hSq; have xk := hSq.trans kx; have s0 := cell_of_row _ _ 0 _ _ _ xk; have s1 := cell_of_row _ _ 1 _ _ _ xk; have s2 := cell_of_row _ _ 2 _ _ _ xk; go_simp <;> first | with_reducible rfl | rfl)
        simp only [Act.put, List.setIfInBounds_toArray, List.set_cons_zero, List.set_cons_succ]
        refine take_on (i := 3) (v := ?_) rfl rfl (by kernel_rfl) (by kernel_rfl) (by kernel_rfl) (fun _ _ _ h => h) rfl ?_ hHeld ?_
        rotate_left
        · (intro wq hSq; have xk := hSq.trans kx; have s0 := cell_of_row _ _ 0 _ _ _ xk; have s1 := cell_of_row _ _ 1 _ _ _ xk; have s2 := cell_of_row _ _ 2 _ _ _ xk; go_simp <;> first | with_reducible rfl | rfl)
        simp only [Act.put, List.setIfInBounds_toArray, List.set_cons_zero, List.set_cons_succ]
        refine take_on (i := 5) (v := ?_) rfl rfl (by kernel_rfl) (by kernel_rfl) (by kernel_rfl) (fun _ _ _ h => h) rfl ?_ hHeld ?_
        rotate_left
        · (intro wq hSq; have xk := hSq.trans kx; have s0 := cell_of_row _ _ 0 _ _ _ xk; have s1 := cell_of_row _ _ 1 _ _ _ xk; have s2 := cell_of_row _ _ 2 _ _ _ xk; go_simp <;> first | with_reducible rfl | rfl)
        simp only [Act.put, List.setIfInBounds_toArray, List.set_cons_zero, List.set_cons_succ]
        refine take_two (i := 4) (j := 6) rfl rfl (by kernel_rfl) (fun K hK => ?_) (fun K hK => ?_)
        · go_simp
          skip
          try go_wp2_with fail
          refine hK.out _ _ ?_ (fun hHeld => ?_)
          · exact hHeld
          clear hK K
          try simp only [Act.put, List.setIfInBounds_toArray, List.set_cons_zero, List.set_cons_succ]
          refine take_one (i := 6) rfl (by kernel_rfl) (fun K hK => ?_)
          go_simp
          skip
          try go_wp2_with fail
          refine hK.out _ _ ?_ (fun hHeld => ?_)
          · exact (show (W0.alloc (.cells #[.int .i64 x.n, .slice x.v.1 x.v.2.1 x.v.2.2, .bool x.d] 95)).heap[w.heap.size]? = _ from Below.heap_alloc W0 _ _ hlx)
          clear hK K
          try simp only [Act.put, List.setIfInBounds_toArray, List.set_cons_zero, List.set_cons_succ]
          refine take_one (i := 7) rfl (by kernel_rfl) (fun K hK => ?_)
          rw [show (W0.alloc (.cells #[.int .i64 x.n, .slice x.v.1 x.v.2.1 x.v.2.2, .bool x.d] 95)).drew = Z1 from hZ1.symm]
          refine step_append_run rfl _ _ _ rfl _ _ _ _ rfl rfl hrun ?_
          refine hK.out _ _ ?_ (fun hHeld => ?_)
          · exact kx3
          clear hK K
          try simp only [Act.put, List.setIfInBounds_toArray, List.set_cons_zero, List.set_cons_succ]
          refine take_on (i := 8) (v := ?_) rfl rfl (by kernel_rfl) (by kernel_rfl) (by kernel_rfl) (fun _ _ _ h => h) rfl ?_ hHeld ?_
          rotate_left
          · (intro wq hSq; have xk := hSq.trans kx; have s0 := cell_of_row _ _ 0 _ _ _ xk; have s1 := cell_of_row _ _ 1 _ _ _ xk; have s2 := cell_of_row _ _ 2 _ _ _ xk; go_simp <;> first | with_reducible rfl | rfl)
          simp only [Act.put, List.setIfInBounds_toArray, List.set_cons_zero, List.set_cons_succ]
          refine take_on (i := 9) (v := ?_) rfl rfl (by kernel_rfl) (by kernel_rfl) (by kernel_rfl) (fun _ _ _ h => h) rfl ?_ hHeld ?_
          rotate_left
          · (intro wq hSq; have xk := hSq.trans kx; have s0 := cell_of_row _ _ 0 _ _ _ xk; have s1 := cell_of_row _ _ 1 _ _ _ xk; have s2 := cell_of_row _ _ 2 _ _ _ xk; go_simp <;> first | with_reducible rfl | rfl)
          simp only [Act.put, List.setIfInBounds_toArray, List.set_cons_zero, List.set_cons_succ]
          refine take_one (i := 10) rfl (by kernel_rfl) (fun K hK => ?_)
          go_simp
          skip
          try go_wp2_with fail
          refine hK.out _ _ ?_ (fun hHeld => ?_)
          · exact (Below.heap_setCell _ _ _ _ (by show w.heap.size ≠ p; omega)).trans kx3
          clear hK K
          try simp only [Act.put, List.setIfInBounds_toArray, List.set_cons_zero, List.set_cons_succ]
          refine wpAnyH_done (by kernel_rfl) ?_ _
          go_wp2
          go_ret
          exact ⟨by rw [HE2.out HR.out]; rfl, HU.out _ HT.out⟩
        · go_simp
          skip
          try go_wp2_with fail
          refine hK.out _ _ ?_ (fun hHeld => ?_)
          · exact (show (W0.alloc (.cells #[.int .i64 x.n, .slice x.v.1 x.v.2.1 x.v.2.2, .bool x.d] 95)).heap[w.heap.size]? = _ from Below.heap_alloc W0 _ _ hlx)
          clear hK K
          try simp only [Act.put, List.setIfInBounds_toArray, List.set_cons_zero, List.set_cons_succ]
          refine take_one (i := 4) rfl (by kernel_rfl) (fun K hK => ?_)
          go_simp
          skip
          try go_wp2_with fail
          refine hK.out _ _ ?_ (fun hHeld => ?_)
          · exact hHeld
          clear hK K
          try simp only [Act.put, List.setIfInBounds_toArray, List.set_cons_zero, List.set_cons_succ]
          refine take_one (i := 7) rfl (by kernel_rfl) (fun K hK => ?_)
          rw [show (W0.alloc (.cells #[.int .i64 x.n, .slice x.v.1 x.v.2.1 x.v.2.2, .bool x.d] 95)).drew = Z1 from hZ1.symm]
          refine step_append_run rfl _ _ _ rfl _ _ _ _ rfl rfl hrun ?_
          refine hK.out _ _ ?_ (fun hHeld => ?_)
          · exact kx3
          clear hK K
          try simp only [Act.put, List.setIfInBounds_toArray, List.set_cons_zero, List.set_cons_succ]
          refine take_on (i := 8) (v := ?_) rfl rfl (by kernel_rfl) (by kernel_rfl) (by kernel_rfl) (fun _ _ _ h => h) rfl ?_ hHeld ?_
          rotate_left
          · (intro wq hSq; have xk := hSq.trans kx; have s0 := cell_of_row _ _ 0 _ _ _ xk; have s1 := cell_of_row _ _ 1 _ _ _ xk; have s2 := cell_of_row _ _ 2 _ _ _ xk; go_simp <;> first | with_reducible rfl | rfl)
          simp only [Act.put, List.setIfInBounds_toArray, List.set_cons_zero, List.set_cons_succ]
          refine take_on (i := 9) (v := ?_) rfl rfl (by kernel_rfl) (by kernel_rfl) (by kernel_rfl) (fun _ _ _ h => h) rfl ?_ hHeld ?_
          rotate_left
          · (intro wq hSq; have xk := hSq.trans kx; have s0 := cell_of_row _ _ 0 _ _ _ xk; have s1 := cell_of_row _ _ 1 _ _ _ xk; have s2 := cell_of_row _ _ 2 _ _ _ xk; go_simp <;> first | with_reducible rfl | rfl)
          simp only [Act.put, List.setIfInBounds_toArray, List.set_cons_zero, List.set_cons_succ]
          refine take_one (i := 10) rfl (by kernel_rfl) (fun K hK => ?_)
          go_simp
          skip
          try go_wp2_with fail
          refine hK.out _ _ ?_ (fun hHeld => ?_)
          · exact (Below.heap_setCell _ _ _ _ (by show w.heap.size ≠ p; omega)).trans kx3
          clear hK K
          try simp only [Act.put, List.setIfInBounds_toArray, List.set_cons_zero, List.set_cons_succ]
          refine wpAnyH_done (by kernel_rfl) ?_ _
          go_wp2
          go_ret
          exact ⟨by rw [HE2.out HR.out]; rfl, HU.out _ HT.out⟩
    | false =>
      have hr : ¬ refu xs x := fun e => by
        rcases HV.out.1 e with e | e
        · omega
        · cases e.1
      have HR := hide_it hr
      clear hr
      go_wp2_with fail
      obtain ⟨W0, hW0⟩ : ∃ W0, W0 = w1.alloc (.cells #[.int .i64 y.n, .slice y.v.1 y.v.2.1 y.v.2.2, .bool y.d] 95) := ⟨_, rfl⟩
      have hH := HH.out.below (show Below w.heap.size w W0 by rw [hW0]; exact HB3.out)
      have HB5 := hide_it (show Below w.heap.size w W0 by rw [hW0]; exact HB3.out)
      have kx : W0.heap[w.heap.size]? = some (.cells #[.int .i64 x.n, .slice x.v.1 x.v.2.1 x.v.2.2, .bool x.d] 95 (0, 0)) := by rw [hW0, Below.heap_alloc _ _ _ hlt1]; exact K1.out
      rw [← hW0]
      clear hW0 HB3 x0 HV HE1
      have hlx := (Array.getElem?_eq_some_iff.1 kx).1
      have hlp := hH.lt
      have kp := hH.blk
      have cp : W0.cell? ⟨p, 0, none⟩ = some v := cell_of_row _ _ _ _ _ _ kp
      have hpw : ¬ p = w.heap.size := by omega
      have hpx : ¬ v.ownBlock = some w.heap.size := fun e => by have := (OwnS.inside HH.out.own _ e).2; omega
      have hpp : ¬ v.ownBlock = some p := fun e => by
        obtain ⟨cur, h2⟩ := OwnS.type HH.out.own e
        rw [HH.out.blk] at h2; cases h2
      have hH1 : Hn W0.drew F p v xs := hH.keep fun _ _ _ => rfl
      obtain ⟨v', z, hrun, ho2, hc2, hat2, hold2, hlt2⟩ := add_run hH1 x HLn.out 112
      obtain ⟨a2, cap2, hv2, _⟩ := own_row ho2
      subst hv2
      obtain ⟨Z1, hZ1⟩ : ∃ Z1, Z1 = W0.drew.alloc (.cells #[.int .i64 x.n, .slice x.v.1 x.v.2.1 x.v.2.2, .bool x.d] 95) := ⟨_, rfl⟩
      rw [← hZ1, show W0.drew.heap.size = W0.heap.size from rfl] at hrun
      have HT := add_to hH1 x HX.out HR.out ho2 hc2 hat2 hold2
      rw [show (xs ++ [x]).length = xs.length + 1 by simp] at hrun HT
      replace HT := hide_it HT
      have kx3 : z.heap[w.heap.size]? = W0.heap[w.heap.size]? := hc2.block _ hlx hpx
      have kp3 : z.heap[p]? = _ := (hc2.block p hlp hpp).trans kp
      have cz : z.cell? ⟨p, 0, none⟩ = some v := cell_of_row _ _ _ _ _ _ kp3
      have fz : z.frozen? ⟨p, 0, none⟩ = false := frozen_of_row _ _ _ _ _ kp3
      have HU : Hid (∀ z', HnTo W0.drew F p v xs (addL xs x) z' → HnTo w F p v xs (addL xs x) z') := hide_it fun z' h => h.trans_below HH.out HB5.out.drew
      clear hH hH1 ho2 hc2 hat2 hold2 kp3 kp
      refine wp_region_held_drew (S := (fun w' => w'.heap[w.heap.size]? = W0.heap[w.heap.size]?)) (by kernel_rfl) ?_ (fun hHeld => ?_)
      · rfl
      refine take_on (i := 0) (v := ?_) rfl rfl (by kernel_rfl) (by kernel_rfl) (by kernel_rfl) (fun _ _ _ h => h) rfl ?_ hHeld ?_
      rotate_left
      · (intro wq hSq; have xk := hSq.trans kx; have s0 := cell_of_row _ _ 0 _ _ _ xk; have s1 := cell_of_row _ _ 1 _ _ _ xk; have s2 := cell_of_row _ _ 2 _ _ _ xk; go_simp <;> first | with_reducible rfl | rfl)
      simp only [Act.put, List.setIfInBounds_toArray, List.set_cons_zero, List.set_cons_succ]
      refine take_on (i := 1) (v := ?_) rfl rfl (by kernel_rfl) (by kernel_rfl) (by kernel_rfl) (fun _ _ _ h => h) rfl ?_ hHeld ?_
      rotate_left
      · (intro wq hSq; have xk := hSq.trans kx; have s0 := cell_of_row _ _ 0 _ _ _ xk; have s1 := cell_of_row _ _ 1 _ _ _ xk; have s2 := cell_of_row _ _ 2 _ _ _ xk; go_simp <;> first | with_reducible rfl | rfl)
      simp only [Act.put, List.setIfInBounds_toArray, List.set_cons_zero, List.set_cons_succ]
      refine take_on (i := 2) (v := ?_) rfl rfl (by kernel_rfl) (by kernel_rfl) (by kernel_rfl) (fun _ _ _ h => h) rfl ?_ hHeld ?_
      rotate_left
      · (intro wq hSq; have xk := hSq.trans kx; have s0 := cell_of_row _ _ 0 _ _ _ xk; have s1 := cell_of_row _ _ 1 _ _ _ xk; have s2 := cell_of_row _ _ 2 _ _ _ xk; go_simp <;> first | with_reducible rfl | rfl)
      simp only [Act.put, List.setIfInBounds_toArray, List.set_cons_zero, List.set_cons_succ]
      refine take_on (i := 3) (v := ?_) rfl rfl (by kernel_rfl) (by kernel_rfl) (by kernel_rfl) (fun _ _ _ h => h) rfl ?_ hHeld ?_
      rotate_left
      · (intro wq hSq; have xk := hSq.trans kx; have s0 := cell_of_row _ _ 0 _ _ _ xk; have s1 := cell_of_row _ _ 1 _ _ _ xk; have s2 := cell_of_row _ _ 2 _ _ _ xk; go_simp <;> first | with_reducible rfl | rfl)
      simp only [Act.put, List.setIfInBounds_toArray, List.set_cons_zero, List.set_cons_succ]
      refine take_on (i := 5) (v := ?_) rfl rfl (by kernel_rfl) (by kernel_rfl) (by kernel_rfl) (fun _ _ _ h => h) rfl ?_ hHeld ?_
      rotate_left
      · (intro wq hSq; have xk := hSq.trans kx; have s0 := cell_of_row _ _ 0 _ _ _ xk; have s1 := cell_of_row _ _ 1 _ _ _ xk; have s2 := cell_of_row _ _ 2 _ _ _ xk; go_simp <;> first | with_reducible rfl | rfl)
      simp only [Act.put, List.setIfInBounds_toArray, List.set_cons_zero, List.set_cons_succ]
      refine take_two (i := 4) (j := 6) rfl rfl (by kernel_rfl) (fun K hK => ?_) (fun K hK => ?_)
      · go_simp
        skip
        try go_wp2_with fail
        refine hK.out _ _ ?_ (fun hHeld => ?_)
        · exact hHeld
        clear hK K
        try simp only [Act.put, List.setIfInBounds_toArray, List.set_cons_zero, List.set_cons_succ]
        refine take_one (i := 6) rfl (by kernel_rfl) (fun K hK => ?_)
        go_simp
        skip
        try go_wp2_with fail
        refine hK.out _ _ ?_ (fun hHeld => ?_)
        · exact (show (W0.alloc (.cells #[.int .i64 x.n, .slice x.v.1 x.v.2.1 x.v.2.2, .bool x.d] 95)).heap[w.heap.size]? = _ from Below.heap_alloc W0 _ _ hlx)
        clear hK K
        try simp only [Act.put, List.setIfInBounds_toArray, List.set_cons_zero, List.set_cons_succ]
        refine take_one (i := 7) rfl (by kernel_rfl) (fun K hK => ?_)
        rw [show (W0.alloc (.cells #[.int .i64 x.n, .slice x.v.1 x.v.2.1 x.v.2.2, .bool x.d] 95)).drew = Z1 from hZ1.symm]
        refine step_append_run rfl _ _ _ rfl _ _ _ _ rfl rfl hrun ?_
        refine hK.out _ _ ?_ (fun hHeld => ?_)
        · exact kx3
        clear hK K
        try simp only [Act.put, List.setIfInBounds_toArray, List.set_cons_zero, List.set_cons_succ]
        refine take_on (i := 8) (v := ?_) rfl rfl (by kernel_rfl) (by kernel_rfl) (by kernel_rfl) (fun _ _ _ h => h) rfl ?_ hHeld ?_
        rotate_left
        · (intro wq hSq; have xk := hSq.trans kx; have s0 := cell_of_row _ _ 0 _ _ _ xk; have s1 := cell_of_row _ _ 1 _ _ _ xk; have s2 := cell_of_row _ _ 2 _ _ _ xk; go_simp <;> first | with_reducible rfl | rfl)
        simp only [Act.put, List.setIfInBounds_toArray, List.set_cons_zero, List.set_cons_succ]
        refine take_on (i := 9) (v := ?_) rfl rfl (by kernel_rfl) (by kernel_rfl) (by kernel_rfl) (fun _ _ _ h => h) rfl ?_ hHeld ?_
        rotate_left
        · (intro wq hSq; have xk := hSq.trans kx; have s0 := cell_of_row _ _ 0 _ _ _ xk; have s1 := cell_of_row _ _ 1 _ _ _ xk; have s2 := cell_of_row _ _ 2 _ _ _ xk; go_simp <;> first | with_reducible rfl | rfl)
        simp only [Act.put, List.setIfInBounds_toArray, List.set_cons_zero, List.set_cons_succ]
        refine take_one (i := 10) rfl (by kernel_rfl) (fun K hK => ?_)
        go_simp
        skip
        try go_wp2_with fail
        refine hK.out _ _ ?_ (fun hHeld => ?_)
        · exact (Below.heap_setCell _ _ _ _ (by show w.heap.size ≠ p; omega)).trans kx3
        clear hK K
        try simp only [Act.put, List.setIfInBounds_toArray, List.set_cons_zero, List.set_cons_succ]
        refine wpAnyH_done (by kernel_rfl) ?_ _
        go_wp2
        go_ret
        exact ⟨by rw [HE2.out HR.out]; rfl, HU.out _ HT.out⟩
      · go_simp
        skip
        try go_wp2_with fail
        refine hK.out _ _ ?_ (fun hHeld => ?_)
        · exact (show (W0.alloc (.cells #[.int .i64 x.n, .slice x.v.1 x.v.2.1 x.v.2.2, .bool x.d] 95)).heap[w.heap.size]? = _ from Below.heap_alloc W0 _ _ hlx)
        clear hK K
        try simp only [Act.put, List.setIfInBounds_toArray, List.set_cons_zero, List.set_cons_succ]
        refine take_one (i := 4) rfl (by kernel_rfl) (fun K hK => ?_)
        go_simp
        skip
        try go_wp2_with fail
        refine hK.out _ _ ?_ (fun hHeld => ?_)
        · exact hHeld
        clear hK K
        try simp only [Act.put, List.setIfInBounds_toArray, List.set_cons_zero, List.set_cons_succ]
        refine take_one (i := 7) rfl (by kernel_rfl) (fun K hK => ?_)
        rw [show (W0.alloc (.cells #[.int .i64 x.n, .slice x.v.1 x.v.2.1 x.v.2.2, .bool x.d] 95)).drew = Z1 from hZ1.symm]
        refine step_append_run rfl _ _ _ rfl _ _ _ _ rfl rfl hrun ?_
        refine hK.out _ _ ?_ (fun hHeld => ?_)
        · exact kx3
        clear hK K
        try simp only [Act.put, List.setIfInBounds_toArray, List.set_cons_zero, List.set_cons_succ]
        refine take_on (i := 8) (v := ?_) rfl rfl (by kernel_rfl) (by kernel_rfl) (by kernel_rfl) (fun _ _ _ h => h) rfl ?_ hHeld ?_
        rotate_left
        · (intro wq hSq; have xk := hSq.trans kx; have s0 := cell_of_row _ _ 0 _ _ _ xk; have s1 := cell_of_row _ _ 1 _ _ _ xk; have s2 := cell_of_row _ _ 2 _ _ _ xk; go_simp <;> first | with_reducible rfl | rfl)
        simp only [Act.put, List.setIfInBounds_toArray, List.set_cons_zero, List.set_cons_succ]
        refine take_on (i := 9) (v := ?_) rfl rfl (by kernel_rfl) (by kernel_rfl) (by kernel_rfl) (fun _ _ _ h => h) rfl ?_ hHeld ?_
        rotate_left
        · (intro wq hSq; have xk := hSq.trans kx; have s0 := cell_of_row _ _ 0 _ _ _ xk; have s1 := cell_of_row _ _ 1 _ _ _ xk; have s2 := cell_of_row _ _ 2 _ _ _ xk; go_simp <;> first | with_reducible rfl | rfl)
        simp only [Act.put, List.setIfInBounds_toArray, List.set_cons_zero, List.set_cons_succ]
        refine take_one (i := 10) rfl (by kernel_rfl) (fun K hK => ?_)
        go_simp
        skip
        try go_wp2_with fail
        refine hK.out _ _ ?_ (fun hHeld => ?_)
        · exact (Below.heap_setCell _ _ _ _ (by show w.heap.size ≠ p; omega)).trans kx3
        clear hK K
        try simp only [Act.put, List.setIfInBounds_toArray, List.set_cons_zero, List.set_cons_succ]
        refine wpAnyH_done (by kernel_rfl) ?_ _
        go_wp2
        go_ret
        exact ⟨by rw [HE2.out HR.out]; rfl, HU.out _ HT.out⟩

end Go.Proofs.Ythaknohnccmfoaa.kY
