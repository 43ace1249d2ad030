/- The operations of a disk, Cut and Trim. -/
import Derived.Test.YtdodnegdpdhbiaaDk3
namespace Go.Proofs.Ytdodnegdpdhbiaa
open Go.RowKit

section
variable {w : World} {F : Nat → Prop} {p : Nat} {am : Bool} {n : Nat} {s : Nat → Pt} {g : Nat} {C : Array Value} {q : Nat → Nat} {v : Nat → Value}

set_option maxRecDepth 100000 in
set_option maxHeartbeats 1600000 in
theorem operate_cut (h : Dk w F p am n s g C q v) (i : Nat) (hi : i < n) (x : Value) (hd : down am (s i) = false) (hcb : (s i).c ≤ 4611686018427387904) (B' : Nat) (bs' : List Nat) (k' : Nat) (hk : k' ≤ bs'.length)
    (hf : ∀ w1, Below w.heap.size w w1 → Calls Try.prog 83 #[.pointer (some ⟨g, i * 5, none⟩), x] w1 fun e w2 => e = .returned (.int .i64 0) ∧ Moved w1 (q i) 0 (v i) B' bs' k' w2) :
    Calls Try.prog 63 #[.pointer (some ⟨p, 0, none⟩), .int .i64 (i : Int), .func (.func 83) #[] #[x]] w fun e w' => Opd w F p am n (upd s i { s i with B := B', bs := bs', k := k', c := (s i).c + 1 }) 0 e w' := by
  have hp := part_ok h i hi
  obtain ⟨c0, c1, c2, c3, c4, _⟩ := h.at_ hi
  obtain ⟨d0, d1, _⟩ := h.cells
  have hplt := h.plt
  have hglt := h.glt
  have hgF : F g := h.foot g (.inr (.inl rfl))
  have hfd : am = false ∨ ¬ (s i).fd ≤ ((s i).c : Int) := by
    unfold down at hd
    cases am with
    | false => exact .inl rfl
    | true => right; simpa using hd
  clear hd
  have hfin : ∀ w1 w2, Below w.heap.size w w1 → Moved w1 (q i) 0 (v i) B' bs' k' w2 → (w2.cell? ⟨g, i * 5 + 4, none⟩ = some (.int .i64 ((s i).c : Int)) ∧ w2.frozen? ⟨g, i * 5 + 4, none⟩ = false) ∧ Went w F p am n (upd s i { s i with B := B', bs := bs', k := k', c := (s i).c + 1 }) (w2.setCell ⟨g, i * 5 + 4, none⟩ (.int .i64 (((s i).c + 1 : Nat) : Int))) := by
    intro w1 w2 hb hm
    obtain ⟨⟨v', h2⟩, hc2⟩ := (h.below hb).moved hi hm hk
    obtain ⟨_, _, _, _, e4, ef⟩ := h2.at_ hi
    rw [upd_at] at e4
    obtain ⟨C', h3⟩ := h2.count hi ((s i).c + 1)
    rw [upd_upd, upd_at] at h3
    have hs1 := hb.size
    have hs2 := hc2.size
    refine ⟨⟨e4, ef _⟩, ⟨g, C', q, v', h3.mono (fun j hj => ?_) (fun j hj => ?_)⟩, ((Chg.new hb).trans hc2 (fun _ _ x => x)).setCell _ _ (fun _ => hgF)⟩
    · rcases hj with hj | hj
      · exact .inl hj
      · exact .inr (by simp; omega)
    · rcases hj with hj | hj
      · have := h.lt j hj; simp; omega
      · exact hj.2
  have hwc : IntKind.i64.wrap (((s i).c : Int) + 1) = (((s i).c + 1 : Nat) : Int) := by rw [IntKind.wrap_i64]; omega
  obtain ⟨S', hS'⟩ : ∃ S', S' = upd s i { s i with B := B', bs := bs', k := k', c := (s i).c + 1 } := ⟨_, rfl⟩
  rw [← hS'] at hfin ⊢
  obtain ⟨fd, hfd'⟩ : ∃ x, x = (s i).fd := ⟨_, rfl⟩
  rw [← hfd'] at c1 hfd
  obtain ⟨cc, hcc⟩ : ∃ x, x = (s i).c := ⟨_, rfl⟩
  rw [← hcc] at c4 hfd hfin hwc hcb
  clear hfd' hcc hS' hk
  have hH := hide_it h
  clear h
  replace hfin := hide_it hfin
  go_enter Try.func63, Try.ntmps63
  go_wp2_with fail
  refine hp.mono ?_
  rintro e w1 ⟨rfl, hw⟩
  have hw2 := hw.symm
  subst hw2
  clear hw hp
  by_cases ham : am = true
  · subst ham
    have hfd2 : (cc : Int) < fd := by simpa using hfd
    clear hfd
    go_wp2_with fail
    refine wp_region_held_drew (S := (fun w' => Below w.heap.size w w')) (by kernel_rfl) ?_ (fun hHeld => ?_)
    · exact (Below.refl _ _).drew
    refine take_on (i := 0) (v := ?_) rfl rfl (by kernel_rfl) (by kernel_rfl) (by kernel_rfl) (fun _ _ _ h => h) rfl ?_ hHeld ?_
    rotate_left
    · (intro wq hSq; have q0 := (hSq.cell (p := ⟨p, 0, none⟩) hplt).trans d0; have q1 := (hSq.cell (p := ⟨g, i * 5 + 1, none⟩) hglt).trans c1; have q4 := (hSq.cell (p := ⟨g, i * 5 + 4, none⟩) hglt).trans c4; go_simp <;> first | with_reducible rfl | rfl)
    simp only [Act.put, List.setIfInBounds_toArray, List.set_cons_zero, List.set_cons_succ]
    refine take_on (i := 1) (v := ?_) rfl rfl (by kernel_rfl) (by kernel_rfl) (by kernel_rfl) (fun _ _ _ h => h) rfl ?_ hHeld ?_
    rotate_left
    · (intro wq hSq; have q0 := (hSq.cell (p := ⟨p, 0, none⟩) hplt).trans d0; have q1 := (hSq.cell (p := ⟨g, i * 5 + 1, none⟩) hglt).trans c1; have q4 := (hSq.cell (p := ⟨g, i * 5 + 4, none⟩) hglt).trans c4; go_simp <;> first | with_reducible rfl | rfl)
    simp only [Act.put, List.setIfInBounds_toArray, List.set_cons_zero, List.set_cons_succ]
    refine take_on (i := 2) (v := ?_) rfl rfl (by kernel_rfl) (by kernel_rfl) (by kernel_rfl) (fun _ _ _ h => h) rfl ?_ hHeld ?_
    rotate_left
    · (intro wq hSq; have q0 := (hSq.cell (p := ⟨p, 0, none⟩) hplt).trans d0; have q1 := (hSq.cell (p := ⟨g, i * 5 + 1, none⟩) hglt).trans c1; have q4 := (hSq.cell (p := ⟨g, i * 5 + 4, none⟩) hglt).trans c4; go_simp <;> first | with_reducible rfl | rfl)
    simp only [Act.put, List.setIfInBounds_toArray, List.set_cons_zero, List.set_cons_succ]
    refine take_on (i := 3) (v := ?_) rfl rfl (by kernel_rfl) (by kernel_rfl) (by kernel_rfl) (fun _ _ _ h => h) rfl ?_ hHeld ?_
    rotate_left
    · (intro wq hSq; have q0 := (hSq.cell (p := ⟨p, 0, none⟩) hplt).trans d0; have q1 := (hSq.cell (p := ⟨g, i * 5 + 1, none⟩) hglt).trans c1; have q4 := (hSq.cell (p := ⟨g, i * 5 + 4, none⟩) hglt).trans c4; go_simp <;> first | with_reducible rfl | rfl)
    simp only [Act.put, List.setIfInBounds_toArray, List.set_cons_zero, List.set_cons_succ]
    refine take_on (i := 4) (v := ?_) rfl rfl (by kernel_rfl) (by kernel_rfl) (by kernel_rfl) (fun _ _ _ h => h) rfl ?_ hHeld ?_
    rotate_left
    · (intro wq hSq; have q0 := (hSq.cell (p := ⟨p, 0, none⟩) hplt).trans d0; have q1 := (hSq.cell (p := ⟨g, i * 5 + 1, none⟩) hglt).trans c1; have q4 := (hSq.cell (p := ⟨g, i * 5 + 4, none⟩) hglt).trans c4; go_simp <;> first | with_reducible rfl | rfl)
    simp only [Act.put, List.setIfInBounds_toArray, List.set_cons_zero, List.set_cons_succ]
    refine take_on (i := 5) (v := ?_) rfl rfl (by kernel_rfl) (by kernel_rfl) (by kernel_rfl) (fun _ _ _ h => h) rfl ?_ hHeld ?_
    rotate_left
    · (intro wq hSq; have q0 := (hSq.cell (p := ⟨p, 0, none⟩) hplt).trans d0; have q1 := (hSq.cell (p := ⟨g, i * 5 + 1, none⟩) hglt).trans c1; have q4 := (hSq.cell (p := ⟨g, i * 5 + 4, none⟩) hglt).trans c4; go_simp <;> first | with_reducible rfl | rfl)
    simp only [Act.put, List.setIfInBounds_toArray, List.set_cons_zero, List.set_cons_succ]
    refine take_on (i := 6) (v := ?_) rfl rfl (by kernel_rfl) (by kernel_rfl) (by kernel_rfl) (fun _ _ _ h => h) rfl ?_ hHeld ?_
    rotate_left
    · (intro wq hSq; have q0 := (hSq.cell (p := ⟨p, 0, none⟩) hplt).trans d0; have q1 := (hSq.cell (p := ⟨g, i * 5 + 1, none⟩) hglt).trans c1; have q4 := (hSq.cell (p := ⟨g, i * 5 + 4, none⟩) hglt).trans c4; go_simp <;> first | with_reducible rfl | rfl)
    simp only [Act.put, List.setIfInBounds_toArray, List.set_cons_zero, List.set_cons_succ]
    refine take_on (i := 7) (v := ?_) rfl rfl (by kernel_rfl) (by kernel_rfl) (by kernel_rfl) (fun _ _ _ h => h) rfl ?_ hHeld ?_
    rotate_left
    · (intro wq hSq; have q0 := (hSq.cell (p := ⟨p, 0, none⟩) hplt).trans d0; have q1 := (hSq.cell (p := ⟨g, i * 5 + 1, none⟩) hglt).trans c1; have q4 := (hSq.cell (p := ⟨g, i * 5 + 4, none⟩) hglt).trans c4; go_simp <;> first | with_reducible rfl | rfl)
    simp only [Act.put, List.setIfInBounds_toArray, List.set_cons_zero, List.set_cons_succ]
    refine take_on (i := 8) (v := ?_) rfl rfl (by kernel_rfl) (by kernel_rfl) (by kernel_rfl) (fun _ _ _ h => h) rfl ?_ hHeld ?_
    rotate_left
    · (intro wq hSq; have q0 := (hSq.cell (p := ⟨p, 0, none⟩) hplt).trans d0; have q1 := (hSq.cell (p := ⟨g, i * 5 + 1, none⟩) hglt).trans c1; have q4 := (hSq.cell (p := ⟨g, i * 5 + 4, none⟩) hglt).trans c4; go_simp <;> first | with_reducible rfl | rfl)
    simp only [Act.put, List.setIfInBounds_toArray, List.set_cons_zero, List.set_cons_succ]
    refine take_on (i := 9) (v := ?_) rfl rfl (by kernel_rfl) (by kernel_rfl) (by kernel_rfl) (fun _ _ _ h => h) rfl ?_ hHeld ?_
    rotate_left
    · (intro wq hSq; have q0 := (hSq.cell (p := ⟨p, 0, none⟩) hplt).trans d0; have q1 := (hSq.cell (p := ⟨g, i * 5 + 1, none⟩) hglt).trans c1; have q4 := (hSq.cell (p := ⟨g, i * 5 + 4, none⟩) hglt).trans c4; go_simp <;> first | with_reducible rfl | rfl)
    simp only [Act.put, List.setIfInBounds_toArray, List.set_cons_zero, List.set_cons_succ]
    refine take_on (i := 10) (v := ?_) rfl rfl (by kernel_rfl) (by kernel_rfl) (by kernel_rfl) (fun _ _ _ h => h) rfl ?_ hHeld ?_
    rotate_left
    · (intro wq hSq; have q0 := (hSq.cell (p := ⟨p, 0, none⟩) hplt).trans d0; have q1 := (hSq.cell (p := ⟨g, i * 5 + 1, none⟩) hglt).trans c1; have q4 := (hSq.cell (p := ⟨g, i * 5 + 4, none⟩) hglt).trans c4; go_simp <;> first | with_reducible rfl | rfl)
    simp only [Act.put, List.setIfInBounds_toArray, List.set_cons_zero, List.set_cons_succ]
    refine take_on (i := 11) (v := ?_) rfl rfl (by kernel_rfl) (by kernel_rfl) (by kernel_rfl) (fun _ _ _ h => h) rfl ?_ hHeld ?_
    rotate_left
    · (intro wq hSq; have q0 := (hSq.cell (p := ⟨p, 0, none⟩) hplt).trans d0; have q1 := (hSq.cell (p := ⟨g, i * 5 + 1, none⟩) hglt).trans c1; have q4 := (hSq.cell (p := ⟨g, i * 5 + 4, none⟩) hglt).trans c4; go_simp <;> first | with_reducible rfl | rfl)
    simp only [Act.put, List.setIfInBounds_toArray, List.set_cons_zero, List.set_cons_succ]
    refine take_on (i := 12) (v := ?_) rfl rfl (by kernel_rfl) (by kernel_rfl) (by kernel_rfl) (fun _ _ _ h => h) rfl ?_ hHeld ?_
    rotate_left
    · (intro wq hSq; have q0 := (hSq.cell (p := ⟨p, 0, none⟩) hplt).trans d0; have q1 := (hSq.cell (p := ⟨g, i * 5 + 1, none⟩) hglt).trans c1; have q4 := (hSq.cell (p := ⟨g, i * 5 + 4, none⟩) hglt).trans c4; go_simp <;> first | with_reducible rfl | rfl)
    simp only [Act.put, List.setIfInBounds_toArray, List.set_cons_zero, List.set_cons_succ]
    refine take_on (i := 13) (v := ?_) rfl rfl (by kernel_rfl) (by kernel_rfl) (by kernel_rfl) (fun _ _ _ h => h) rfl ?_ hHeld ?_
    rotate_left
    · (intro wq hSq; have q0 := (hSq.cell (p := ⟨p, 0, none⟩) hplt).trans d0; have q1 := (hSq.cell (p := ⟨g, i * 5 + 1, none⟩) hglt).trans c1; have q4 := (hSq.cell (p := ⟨g, i * 5 + 4, none⟩) hglt).trans c4; go_simp <;> first | with_reducible rfl | rfl)
    simp only [Act.put, List.setIfInBounds_toArray, List.set_cons_zero, List.set_cons_succ]
    refine take_on (i := 14) (v := ?_) rfl rfl (by kernel_rfl) (by kernel_rfl) (by kernel_rfl) (fun _ _ _ h => h) rfl ?_ hHeld ?_
    rotate_left
    · (intro wq hSq; have q0 := (hSq.cell (p := ⟨p, 0, none⟩) hplt).trans d0; have q1 := (hSq.cell (p := ⟨g, i * 5 + 1, none⟩) hglt).trans c1; have q4 := (hSq.cell (p := ⟨g, i * 5 + 4, none⟩) hglt).trans c4; go_simp <;> first | with_reducible rfl | rfl)
    simp only [Act.put, List.setIfInBounds_toArray, List.set_cons_zero, List.set_cons_succ]
    refine take_on (i := 15) (v := ?_) rfl rfl (by kernel_rfl) (by kernel_rfl) (by kernel_rfl) (fun _ _ _ h => h) rfl ?_ hHeld ?_
    rotate_left
    · (intro wq hSq; have q0 := (hSq.cell (p := ⟨p, 0, none⟩) hplt).trans d0; have q1 := (hSq.cell (p := ⟨g, i * 5 + 1, none⟩) hglt).trans c1; have q4 := (hSq.cell (p := ⟨g, i * 5 + 4, none⟩) hglt).trans c4; go_simp <;> first | with_reducible rfl | rfl)
    simp only [Act.put, List.setIfInBounds_toArray, List.set_cons_zero, List.set_cons_succ]
    refine wpAnyH_done (by kernel_rfl) ?_ _
    have hcall := hf _ hHeld
    go_wp2_with fail
    refine hcall.mono ?_
    rintro e w2 ⟨rfl, hm⟩
    obtain ⟨⟨e4, ef⟩, hW⟩ := hfin.out _ _ hHeld hm
    clear hcall
    go_wp2_with fail
    go_ret
    exact ⟨rfl, by simpa using hW⟩
  · have ham : am = false := by simpa using ham
    subst ham
    clear hfd
    go_wp2_with fail
    refine wp_region_held_drew (S := (fun w' => Below w.heap.size w w')) (by kernel_rfl) ?_ (fun hHeld => ?_)
    · exact (Below.refl _ _).drew
    refine take_on (i := 0) (v := ?_) rfl rfl (by kernel_rfl) (by kernel_rfl) (by kernel_rfl) (fun _ _ _ h => h) rfl ?_ hHeld ?_
    rotate_left
    · (intro wq hSq; have q0 := (hSq.cell (p := ⟨p, 0, none⟩) hplt).trans d0; go_simp <;> first | with_reducible rfl | rfl)
    simp only [Act.put, List.setIfInBounds_toArray, List.set_cons_zero, List.set_cons_succ]
    refine take_on (i := 1) (v := ?_) rfl rfl (by kernel_rfl) (by kernel_rfl) (by kernel_rfl) (fun _ _ _ h => h) rfl ?_ hHeld ?_
    rotate_left
    · (intro wq hSq; have q0 := (hSq.cell (p := ⟨p, 0, none⟩) hplt).trans d0; go_simp <;> first | with_reducible rfl | rfl)
    simp only [Act.put, List.setIfInBounds_toArray, List.set_cons_zero, List.set_cons_succ]
    refine take_on (i := 2) (v := ?_) rfl rfl (by kernel_rfl) (by kernel_rfl) (by kernel_rfl) (fun _ _ _ h => h) rfl ?_ hHeld ?_
    rotate_left
    · (intro wq hSq; have q0 := (hSq.cell (p := ⟨p, 0, none⟩) hplt).trans d0; go_simp <;> first | with_reducible rfl | rfl)
    simp only [Act.put, List.setIfInBounds_toArray, List.set_cons_zero, List.set_cons_succ]
    refine take_on (i := 3) (v := ?_) rfl rfl (by kernel_rfl) (by kernel_rfl) (by kernel_rfl) (fun _ _ _ h => h) rfl ?_ hHeld ?_
    rotate_left
    · (intro wq hSq; have q0 := (hSq.cell (p := ⟨p, 0, none⟩) hplt).trans d0; go_simp <;> first | with_reducible rfl | rfl)
    simp only [Act.put, List.setIfInBounds_toArray, List.set_cons_zero, List.set_cons_succ]
    refine take_on (i := 4) (v := ?_) rfl rfl (by kernel_rfl) (by kernel_rfl) (by kernel_rfl) (fun _ _ _ h => h) rfl ?_ hHeld ?_
    rotate_left
    · (intro wq hSq; have q0 := (hSq.cell (p := ⟨p, 0, none⟩) hplt).trans d0; go_simp <;> first | with_reducible rfl | rfl)
    simp only [Act.put, List.setIfInBounds_toArray, List.set_cons_zero, List.set_cons_succ]
    refine take_off (i := 5) rfl rfl (by kernel_rfl) (by kernel_rfl) (by kernel_rfl) (fun _ _ _ h => h) rfl hHeld ?_
    simp only [Act.put, List.setIfInBounds_toArray, List.set_cons_zero, List.set_cons_succ]
    refine take_off (i := 6) rfl rfl (by kernel_rfl) (by kernel_rfl) (by kernel_rfl) (fun _ _ _ h => h) rfl hHeld ?_
    simp only [Act.put, List.setIfInBounds_toArray, List.set_cons_zero, List.set_cons_succ]
    refine take_off (i := 7) rfl rfl (by kernel_rfl) (by kernel_rfl) (by kernel_rfl) (fun _ _ _ h => h) rfl hHeld ?_
    simp only [Act.put, List.setIfInBounds_toArray, List.set_cons_zero, List.set_cons_succ]
    refine take_off (i := 8) rfl rfl (by kernel_rfl) (by kernel_rfl) (by kernel_rfl) (fun _ _ _ h => h) rfl hHeld ?_
    simp only [Act.put, List.setIfInBounds_toArray, List.set_cons_zero, List.set_cons_succ]
    refine take_off (i := 9) rfl rfl (by kernel_rfl) (by kernel_rfl) (by kernel_rfl) (fun _ _ _ h => h) rfl hHeld ?_
    simp only [Act.put, List.setIfInBounds_toArray, List.set_cons_zero, List.set_cons_succ]
    refine take_off (i := 10) rfl rfl (by kernel_rfl) (by kernel_rfl) (by kernel_rfl) (fun _ _ _ h => h) rfl hHeld ?_
    simp only [Act.put, List.setIfInBounds_toArray, List.set_cons_zero, List.set_cons_succ]
    refine take_off (i := 11) rfl rfl (by kernel_rfl) (by kernel_rfl) (by kernel_rfl) (fun _ _ _ h => h) rfl hHeld ?_
    simp only [Act.put, List.setIfInBounds_toArray, List.set_cons_zero, List.set_cons_succ]
    refine take_off (i := 12) rfl rfl (by kernel_rfl) (by kernel_rfl) (by kernel_rfl) (fun _ _ _ h => h) rfl hHeld ?_
    simp only [Act.put, List.setIfInBounds_toArray, List.set_cons_zero, List.set_cons_succ]
    refine take_off (i := 13) rfl rfl (by kernel_rfl) (by kernel_rfl) (by kernel_rfl) (fun _ _ _ h => h) rfl hHeld ?_
    simp only [Act.put, List.setIfInBounds_toArray, List.set_cons_zero, List.set_cons_succ]
    refine take_off (i := 14) rfl rfl (by kernel_rfl) (by kernel_rfl) (by kernel_rfl) (fun _ _ _ h => h) rfl hHeld ?_
    simp only [Act.put, List.setIfInBounds_toArray, List.set_cons_zero, List.set_cons_succ]
    refine take_on (i := 15) (v := ?_) rfl rfl (by kernel_rfl) (by kernel_rfl) (by kernel_rfl) (fun _ _ _ h => h) rfl ?_ hHeld ?_
    rotate_left
    · (intro wq hSq; have q0 := (hSq.cell (p := ⟨p, 0, none⟩) hplt).trans d0; go_simp <;> first | with_reducible rfl | rfl)
    simp only [Act.put, List.setIfInBounds_toArray, List.set_cons_zero, List.set_cons_succ]
    refine wpAnyH_done (by kernel_rfl) ?_ _
    have hcall := hf _ hHeld
    go_wp2_with fail
    refine hcall.mono ?_
    rintro e w2 ⟨rfl, hm⟩
    obtain ⟨⟨e4, ef⟩, hW⟩ := hfin.out _ _ hHeld hm
    clear hcall
    go_wp2_with fail
    go_ret
    exact ⟨rfl, by simpa using hW⟩

set_option maxRecDepth 100000 in
set_option maxHeartbeats 1600000 in
theorem operate_trim (h : Dk w F p am n s g C q v) (i : Nat) (hi : i < n) (x : Value) (hd : down am (s i) = false) (hcb : (s i).c ≤ 4611686018427387904) (B' : Nat) (bs' : List Nat) (k' : Nat) (hk : k' ≤ bs'.length)
    (hf : ∀ w1, Below w.heap.size w w1 → Calls Try.prog 84 #[.pointer (some ⟨g, i * 5, none⟩), x] w1 fun e w2 => e = .returned (.int .i64 0) ∧ Moved w1 (q i) 0 (v i) B' bs' k' w2) :
    Calls Try.prog 63 #[.pointer (some ⟨p, 0, none⟩), .int .i64 (i : Int), .func (.func 84) #[] #[x]] w fun e w' => Opd w F p am n (upd s i { s i with B := B', bs := bs', k := k', c := (s i).c + 1 }) 0 e w' := by
  have hp := part_ok h i hi
  obtain ⟨c0, c1, c2, c3, c4, _⟩ := h.at_ hi
  obtain ⟨d0, d1, _⟩ := h.cells
  have hplt := h.plt
  have hglt := h.glt
  have hgF : F g := h.foot g (.inr (.inl rfl))
  have hfd : am = false ∨ ¬ (s i).fd ≤ ((s i).c : Int) := by
    unfold down at hd
    cases am with
    | false => exact .inl rfl
    | true => right; simpa using hd
  clear hd
  have hfin : ∀ w1 w2, Below w.heap.size w w1 → Moved w1 (q i) 0 (v i) B' bs' k' w2 → (w2.cell? ⟨g, i * 5 + 4, none⟩ = some (.int .i64 ((s i).c : Int)) ∧ w2.frozen? ⟨g, i * 5 + 4, none⟩ = false) ∧ Went w F p am n (upd s i { s i with B := B', bs := bs', k := k', c := (s i).c + 1 }) (w2.setCell ⟨g, i * 5 + 4, none⟩ (.int .i64 (((s i).c + 1 : Nat) : Int))) := by
    intro w1 w2 hb hm
    obtain ⟨⟨v', h2⟩, hc2⟩ := (h.below hb).moved hi hm hk
    obtain ⟨_, _, _, _, e4, ef⟩ := h2.at_ hi
    rw [upd_at] at e4
    obtain ⟨C', h3⟩ := h2.count hi ((s i).c + 1)
    rw [upd_upd, upd_at] at h3
    have hs1 := hb.size
    have hs2 := hc2.size
    refine ⟨⟨e4, ef _⟩, ⟨g, C', q, v', h3.mono (fun j hj => ?_) (fun j hj => ?_)⟩, ((Chg.new hb).trans hc2 (fun _ _ x => x)).setCell _ _ (fun _ => hgF)⟩
    · rcases hj with hj | hj
      · exact .inl hj
      · exact .inr (by simp; omega)
    · rcases hj with hj | hj
      · have := h.lt j hj; simp; omega
      · exact hj.2
  have hwc : IntKind.i64.wrap (((s i).c : Int) + 1) = (((s i).c + 1 : Nat) : Int) := by rw [IntKind.wrap_i64]; omega
  obtain ⟨S', hS'⟩ : ∃ S', S' = upd s i { s i with B := B', bs := bs', k := k', c := (s i).c + 1 } := ⟨_, rfl⟩
  rw [← hS'] at hfin ⊢
  obtain ⟨fd, hfd'⟩ : ∃ x, x = (s i).fd := ⟨_, rfl⟩
  rw [← hfd'] at c1 hfd
  obtain ⟨cc, hcc⟩ : ∃ x, x = (s i).c := ⟨_, rfl⟩
  rw [← hcc] at c4 hfd hfin hwc hcb
  clear hfd' hcc hS' hk
  have hH := hide_it h
  clear h
  replace hfin := hide_it hfin
  go_enter Try.func63, Try.ntmps63
  go_wp2_with fail
  refine hp.mono ?_
  rintro e w1 ⟨rfl, hw⟩
  have hw2 := hw.symm
  subst hw2
  clear hw hp
  by_cases ham : am = true
  · subst ham
    have hfd2 : (cc : Int) < fd := by simpa using hfd
    clear hfd
    go_wp2_with fail
    refine wp_region_held_drew (S := (fun w' => Below w.heap.size w w')) (by kernel_rfl) ?_ (fun hHeld => ?_)
    · exact (Below.refl _ _).drew
    refine take_on (i := 0) (v := ?_) rfl rfl (by kernel_rfl) (by kernel_rfl) (by kernel_rfl) (fun _ _ _ h => h) rfl ?_ hHeld ?_
    rotate_left
    · (intro wq hSq; have q0 := (hSq.cell (p := ⟨p, 0, none⟩) hplt).trans d0; have q1 := (hSq.cell (p := ⟨g, i * 5 + 1, none⟩) hglt).trans c1; have q4 := (hSq.cell (p := ⟨g, i * 5 + 4, none⟩) hglt).trans c4; go_simp <;> first | with_reducible rfl | rfl)
    simp only [Act.put, List.setIfInBounds_toArray, List.set_cons_zero, List.set_cons_succ]
    refine take_on (i := 1) (v := ?_) rfl rfl (by kernel_rfl) (by kernel_rfl) (by kernel_rfl) (fun _ _ _ h => h) rfl ?_ hHeld ?_
    rotate_left
    · (intro wq hSq; have q0 := (hSq.cell (p := ⟨p, 0, none⟩) hplt).trans d0; have q1 := (hSq.cell (p := ⟨g, i * 5 + 1, none⟩) hglt).trans c1; have q4 := (hSq.cell (p := ⟨g, i * 5 + 4, none⟩) hglt).trans c4; go_simp <;> first | with_reducible rfl | rfl)
    simp only [Act.put, List.setIfInBounds_toArray, List.set_cons_zero, List.set_cons_succ]
    refine take_on (i := 2) (v := ?_) rfl rfl (by kernel_rfl) (by kernel_rfl) (by kernel_rfl) (fun _ _ _ h => h) rfl ?_ hHeld ?_
    rotate_left
    · (intro wq hSq; have q0 := (hSq.cell (p := ⟨p, 0, none⟩) hplt).trans d0; have q1 := (hSq.cell (p := ⟨g, i * 5 + 1, none⟩) hglt).trans c1; have q4 := (hSq.cell (p := ⟨g, i * 5 + 4, none⟩) hglt).trans c4; go_simp <;> first | with_reducible rfl | rfl)
    simp only [Act.put, List.setIfInBounds_toArray, List.set_cons_zero, List.set_cons_succ]
    refine take_on (i := 3) (v := ?_) rfl rfl (by kernel_rfl) (by kernel_rfl) (by kernel_rfl) (fun _ _ _ h => h) rfl ?_ hHeld ?_
    rotate_left
    · (intro wq hSq; have q0 := (hSq.cell (p := ⟨p, 0, none⟩) hplt).trans d0; have q1 := (hSq.cell (p := ⟨g, i * 5 + 1, none⟩) hglt).trans c1; have q4 := (hSq.cell (p := ⟨g, i * 5 + 4, none⟩) hglt).trans c4; go_simp <;> first | with_reducible rfl | rfl)
    simp only [Act.put, List.setIfInBounds_toArray, List.set_cons_zero, List.set_cons_succ]
    refine take_on (i := 4) (v := ?_) rfl rfl (by kernel_rfl) (by kernel_rfl) (by kernel_rfl) (fun _ _ _ h => h) rfl ?_ hHeld ?_
    rotate_left
    · (intro wq hSq; have q0 := (hSq.cell (p := ⟨p, 0, none⟩) hplt).trans d0; have q1 := (hSq.cell (p := ⟨g, i * 5 + 1, none⟩) hglt).trans c1; have q4 := (hSq.cell (p := ⟨g, i * 5 + 4, none⟩) hglt).trans c4; go_simp <;> first | with_reducible rfl | rfl)
    simp only [Act.put, List.setIfInBounds_toArray, List.set_cons_zero, List.set_cons_succ]
    refine take_on (i := 5) (v := ?_) rfl rfl (by kernel_rfl) (by kernel_rfl) (by kernel_rfl) (fun _ _ _ h => h) rfl ?_ hHeld ?_
    rotate_left
    · (intro wq hSq; have q0 := (hSq.cell (p := ⟨p, 0, none⟩) hplt).trans d0; have q1 := (hSq.cell (p := ⟨g, i * 5 + 1, none⟩) hglt).trans c1; have q4 := (hSq.cell (p := ⟨g, i * 5 + 4, none⟩) hglt).trans c4; go_simp <;> first | with_reducible rfl | rfl)
    simp only [Act.put, List.setIfInBounds_toArray, List.set_cons_zero, List.set_cons_succ]
    refine take_on (i := 6) (v := ?_) rfl rfl (by kernel_rfl) (by kernel_rfl) (by kernel_rfl) (fun _ _ _ h => h) rfl ?_ hHeld ?_
    rotate_left
    · (intro wq hSq; have q0 := (hSq.cell (p := ⟨p, 0, none⟩) hplt).trans d0; have q1 := (hSq.cell (p := ⟨g, i * 5 + 1, none⟩) hglt).trans c1; have q4 := (hSq.cell (p := ⟨g, i * 5 + 4, none⟩) hglt).trans c4; go_simp <;> first | with_reducible rfl | rfl)
    simp only [Act.put, List.setIfInBounds_toArray, List.set_cons_zero, List.set_cons_succ]
    refine take_on (i := 7) (v := ?_) rfl rfl (by kernel_rfl) (by kernel_rfl) (by kernel_rfl) (fun _ _ _ h => h) rfl ?_ hHeld ?_
    rotate_left
    · (intro wq hSq; have q0 := (hSq.cell (p := ⟨p, 0, none⟩) hplt).trans d0; have q1 := (hSq.cell (p := ⟨g, i * 5 + 1, none⟩) hglt).trans c1; have q4 := (hSq.cell (p := ⟨g, i * 5 + 4, none⟩) hglt).trans c4; go_simp <;> first | with_reducible rfl | rfl)
    simp only [Act.put, List.setIfInBounds_toArray, List.set_cons_zero, List.set_cons_succ]
    refine take_on (i := 8) (v := ?_) rfl rfl (by kernel_rfl) (by kernel_rfl) (by kernel_rfl) (fun _ _ _ h => h) rfl ?_ hHeld ?_
    rotate_left
    · (intro wq hSq; have q0 := (hSq.cell (p := ⟨p, 0, none⟩) hplt).trans d0; have q1 := (hSq.cell (p := ⟨g, i * 5 + 1, none⟩) hglt).trans c1; have q4 := (hSq.cell (p := ⟨g, i * 5 + 4, none⟩) hglt).trans c4; go_simp <;> first | with_reducible rfl | rfl)
    simp only [Act.put, List.setIfInBounds_toArray, List.set_cons_zero, List.set_cons_succ]
    refine take_on (i := 9) (v := ?_) rfl rfl (by kernel_rfl) (by kernel_rfl) (by kernel_rfl) (fun _ _ _ h => h) rfl ?_ hHeld ?_
    rotate_left
    · (intro wq hSq; have q0 := (hSq.cell (p := ⟨p, 0, none⟩) hplt).trans d0; have q1 := (hSq.cell (p := ⟨g, i * 5 + 1, none⟩) hglt).trans c1; have q4 := (hSq.cell (p := ⟨g, i * 5 + 4, none⟩) hglt).trans c4; go_simp <;> first | with_reducible rfl | rfl)
    simp only [Act.put, List.setIfInBounds_toArray, List.set_cons_zero, List.set_cons_succ]
    refine take_on (i := 10) (v := ?_) rfl rfl (by kernel_rfl) (by kernel_rfl) (by kernel_rfl) (fun _ _ _ h => h) rfl ?_ hHeld ?_
    rotate_left
    · (intro wq hSq; have q0 := (hSq.cell (p := ⟨p, 0, none⟩) hplt).trans d0; have q1 := (hSq.cell (p := ⟨g, i * 5 + 1, none⟩) hglt).trans c1; have q4 := (hSq.cell (p := ⟨g, i * 5 + 4, none⟩) hglt).trans c4; go_simp <;> first | with_reducible rfl | rfl)
    simp only [Act.put, List.setIfInBounds_toArray, List.set_cons_zero, List.set_cons_succ]
    refine take_on (i := 11) (v := ?_) rfl rfl (by kernel_rfl) (by kernel_rfl) (by kernel_rfl) (fun _ _ _ h => h) rfl ?_ hHeld ?_
    rotate_left
    · (intro wq hSq; have q0 := (hSq.cell (p := ⟨p, 0, none⟩) hplt).trans d0; have q1 := (hSq.cell (p := ⟨g, i * 5 + 1, none⟩) hglt).trans c1; have q4 := (hSq.cell (p := ⟨g, i * 5 + 4, none⟩) hglt).trans c4; go_simp <;> first | with_reducible rfl | rfl)
    simp only [Act.put, List.setIfInBounds_toArray, List.set_cons_zero, List.set_cons_succ]
    refine take_on (i := 12) (v := ?_) rfl rfl (by kernel_rfl) (by kernel_rfl) (by kernel_rfl) (fun _ _ _ h => h) rfl ?_ hHeld ?_
    rotate_left
    · (intro wq hSq; have q0 := (hSq.cell (p := ⟨p, 0, none⟩) hplt).trans d0; have q1 := (hSq.cell (p := ⟨g, i * 5 + 1, none⟩) hglt).trans c1; have q4 := (hSq.cell (p := ⟨g, i * 5 + 4, none⟩) hglt).trans c4; go_simp <;> first | with_reducible rfl | rfl)
    simp only [Act.put, List.setIfInBounds_toArray, List.set_cons_zero, List.set_cons_succ]
    refine take_on (i := 13) (v := ?_) rfl rfl (by kernel_rfl) (by kernel_rfl) (by kernel_rfl) (fun _ _ _ h => h) rfl ?_ hHeld ?_
    rotate_left
    · (intro wq hSq; have q0 := (hSq.cell (p := ⟨p, 0, none⟩) hplt).trans d0; have q1 := (hSq.cell (p := ⟨g, i * 5 + 1, none⟩) hglt).trans c1; have q4 := (hSq.cell (p := ⟨g, i * 5 + 4, none⟩) hglt).trans c4; go_simp <;> first | with_reducible rfl | rfl)
    simp only [Act.put, List.setIfInBounds_toArray, List.set_cons_zero, List.set_cons_succ]
    refine take_on (i := 14) (v := ?_) rfl rfl (by kernel_rfl) (by kernel_rfl) (by kernel_rfl) (fun _ _ _ h => h) rfl ?_ hHeld ?_
    rotate_left
    · (intro wq hSq; have q0 := (hSq.cell (p := ⟨p, 0, none⟩) hplt).trans d0; have q1 := (hSq.cell (p := ⟨g, i * 5 + 1, none⟩) hglt).trans c1; have q4 := (hSq.cell (p := ⟨g, i * 5 + 4, none⟩) hglt).trans c4; go_simp <;> first | with_reducible rfl | rfl)
    simp only [Act.put, List.setIfInBounds_toArray, List.set_cons_zero, List.set_cons_succ]
    refine take_on (i := 15) (v := ?_) rfl rfl (by kernel_rfl) (by kernel_rfl) (by kernel_rfl) (fun _ _ _ h => h) rfl ?_ hHeld ?_
    rotate_left
    · (intro wq hSq; have q0 := (hSq.cell (p := ⟨p, 0, none⟩) hplt).trans d0; have q1 := (hSq.cell (p := ⟨g, i * 5 + 1, none⟩) hglt).trans c1; have q4 := (hSq.cell (p := ⟨g, i * 5 + 4, none⟩) hglt).trans c4; go_simp <;> first | with_reducible rfl | rfl)
    simp only [Act.put, List.setIfInBounds_toArray, List.set_cons_zero, List.set_cons_succ]
    refine wpAnyH_done (by kernel_rfl) ?_ _
    have hcall := hf _ hHeld
    go_wp2_with fail
    refine hcall.mono ?_
    rintro e w2 ⟨rfl, hm⟩
    obtain ⟨⟨e4, ef⟩, hW⟩ := hfin.out _ _ hHeld hm
    clear hcall
    go_wp2_with fail
    go_ret
    exact ⟨rfl, by simpa using hW⟩
  · have ham : am = false := by simpa using ham
    subst ham
    clear hfd
    go_wp2_with fail
    refine wp_region_held_drew (S := (fun w' => Below w.heap.size w w')) (by kernel_rfl) ?_ (fun hHeld => ?_)
    · exact (Below.refl _ _).drew
    refine take_on (i := 0) (v := ?_) rfl rfl (by kernel_rfl) (by kernel_rfl) (by kernel_rfl) (fun _ _ _ h => h) rfl ?_ hHeld ?_
    rotate_left
    · (intro wq hSq; have q0 := (hSq.cell (p := ⟨p, 0, none⟩) hplt).trans d0; go_simp <;> first | with_reducible rfl | rfl)
    simp only [Act.put, List.setIfInBounds_toArray, List.set_cons_zero, List.set_cons_succ]
    refine take_on (i := 1) (v := ?_) rfl rfl (by kernel_rfl) (by kernel_rfl) (by kernel_rfl) (fun _ _ _ h => h) rfl ?_ hHeld ?_
    rotate_left
    · (intro wq hSq; have q0 := (hSq.cell (p := ⟨p, 0, none⟩) hplt).trans d0; go_simp <;> first | with_reducible rfl | rfl)
    simp only [Act.put, List.setIfInBounds_toArray, List.set_cons_zero, List.set_cons_succ]
    refine take_on (i := 2) (v := ?_) rfl rfl (by kernel_rfl) (by kernel_rfl) (by kernel_rfl) (fun _ _ _ h => h) rfl ?_ hHeld ?_
    rotate_left
    · (intro wq hSq; have q0 := (hSq.cell (p := ⟨p, 0, none⟩) hplt).trans d0; go_simp <;> first | with_reducible rfl | rfl)
    simp only [Act.put, List.setIfInBounds_toArray, List.set_cons_zero, List.set_cons_succ]
    refine take_on (i := 3) (v := ?_) rfl rfl (by kernel_rfl) (by kernel_rfl) (by kernel_rfl) (fun _ _ _ h => h) rfl ?_ hHeld ?_
    rotate_left
    · (intro wq hSq; have q0 := (hSq.cell (p := ⟨p, 0, none⟩) hplt).trans d0; go_simp <;> first | with_reducible rfl | rfl)
    simp only [Act.put, List.setIfInBounds_toArray, List.set_cons_zero, List.set_cons_succ]
    refine take_on (i := 4) (v := ?_) rfl rfl (by kernel_rfl) (by kernel_rfl) (by kernel_rfl) (fun _ _ _ h => h) rfl ?_ hHeld ?_
    rotate_left
    · (intro wq hSq; have q0 := (hSq.cell (p := ⟨p, 0, none⟩) hplt).trans d0; go_simp <;> first | with_reducible rfl | rfl)
    simp only [Act.put, List.setIfInBounds_toArray, List.set_cons_zero, List.set_cons_succ]
    refine take_off (i := 5) rfl rfl (by kernel_rfl) (by kernel_rfl) (by kernel_rfl) (fun _ _ _ h => h) rfl hHeld ?_
    simp only [Act.put, List.setIfInBounds_toArray, List.set_cons_zero, List.set_cons_succ]
    refine take_off (i := 6) rfl rfl (by kernel_rfl) (by kernel_rfl) (by kernel_rfl) (fun _ _ _ h => h) rfl hHeld ?_
    simp only [Act.put, List.setIfInBounds_toArray, List.set_cons_zero, List.set_cons_succ]
    refine take_off (i := 7) rfl rfl (by kernel_rfl) (by kernel_rfl) (by kernel_rfl) (fun _ _ _ h => h) rfl hHeld ?_
    simp only [Act.put, List.setIfInBounds_toArray, List.set_cons_zero, List.set_cons_succ]
    refine take_off (i := 8) rfl rfl (by kernel_rfl) (by kernel_rfl) (by kernel_rfl) (fun _ _ _ h => h) rfl hHeld ?_
    simp only [Act.put, List.setIfInBounds_toArray, List.set_cons_zero, List.set_cons_succ]
    refine take_off (i := 9) rfl rfl (by kernel_rfl) (by kernel_rfl) (by kernel_rfl) (fun _ _ _ h => h) rfl hHeld ?_
    simp only [Act.put, List.setIfInBounds_toArray, List.set_cons_zero, List.set_cons_succ]
    refine take_off (i := 10) rfl rfl (by kernel_rfl) (by kernel_rfl) (by kernel_rfl) (fun _ _ _ h => h) rfl hHeld ?_
    simp only [Act.put, List.setIfInBounds_toArray, List.set_cons_zero, List.set_cons_succ]
    refine take_off (i := 11) rfl rfl (by kernel_rfl) (by kernel_rfl) (by kernel_rfl) (fun _ _ _ h => h) rfl hHeld ?_
    simp only [Act.put, List.setIfInBounds_toArray, List.set_cons_zero, List.set_cons_succ]
    refine take_off (i := 12) rfl rfl (by kernel_rfl) (by kernel_rfl) (by kernel_rfl) (fun _ _ _ h => h) rfl hHeld ?_
    simp only [Act.put, List.setIfInBounds_toArray, List.set_cons_zero, List.set_cons_succ]
    refine take_off (i := 13) rfl rfl (by kernel_rfl) (by kernel_rfl) (by kernel_rfl) (fun _ _ _ h => h) rfl hHeld ?_
    simp only [Act.put, List.setIfInBounds_toArray, List.set_cons_zero, List.set_cons_succ]
    refine take_off (i := 14) rfl rfl (by kernel_rfl) (by kernel_rfl) (by kernel_rfl) (fun _ _ _ h => h) rfl hHeld ?_
    simp only [Act.put, List.setIfInBounds_toArray, List.set_cons_zero, List.set_cons_succ]
    refine take_on (i := 15) (v := ?_) rfl rfl (by kernel_rfl) (by kernel_rfl) (by kernel_rfl) (fun _ _ _ h => h) rfl ?_ hHeld ?_
    rotate_left
    · (intro wq hSq; have q0 := (hSq.cell (p := ⟨p, 0, none⟩) hplt).trans d0; go_simp <;> first | with_reducible rfl | rfl)
    simp only [Act.put, List.setIfInBounds_toArray, List.set_cons_zero, List.set_cons_succ]
    refine wpAnyH_done (by kernel_rfl) ?_ _
    have hcall := hf _ hHeld
    go_wp2_with fail
    refine hcall.mono ?_
    rintro e w2 ⟨rfl, hm⟩
    obtain ⟨⟨e4, ef⟩, hW⟩ := hfin.out _ _ hHeld hm
    clear hcall
    go_wp2_with fail
    go_ret
    exact ⟨rfl, by simpa using hW⟩
end

end Go.Proofs.Ytdodnegdpdhbiaa
