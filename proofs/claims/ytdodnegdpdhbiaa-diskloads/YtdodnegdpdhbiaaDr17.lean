/- The document's disk: Image. -/
import Derived.Test.YtdodnegdpdhbiaaDr3
import Derived.Test.YtdodnegdpdhbiaaReg2
import Derived.Deep.CutRange
namespace Go.Proofs.Ytdodnegdpdhbiaa
open Go.RowKit

theorem infoSp : (Try.prog.info? 33).map (fun i => (i.zero, i.size, i.bytes)) = some (some (.agg #[.int .i64 0, .slice none 0 0]), 2, 32) := by kernel_rfl

/-- A span that is told: its base, its slice, its bytes. -/
abbrev Spt := Nat × (Value × List Nat)
def celT (xs : List Spt) : List Value := xs.flatMap fun x => [.int .i64 (x.1 : Int), x.2.1]
theorem celT_len (xs : List Spt) : (celT xs).length = xs.length * 2 := by
  induction xs with
  | nil => rfl
  | cons x r ih =>
    have e : celT (x :: r) = .int .i64 (x.1 : Int) :: x.2.1 :: celT r := rfl
    rw [e, List.length_cons, List.length_cons, ih, List.length_cons]; omega
theorem celT_snoc (xs : List Spt) (x : Spt) : celT (xs ++ [x]) = celT xs ++ [.int .i64 (x.1 : Int), x.2.1] := by simp [celT]
theorem celT_at : ∀ (xs : List Spt) (i : Nat) (x : Spt), xs[i]? = some x → (celT xs)[i * 2]? = some (.int .i64 (x.1 : Int)) ∧ (celT xs)[i * 2 + 1]? = some x.2.1 := by
  intro xs
  induction xs with
  | nil => intro i x h; simp at h
  | cons y r ih =>
    intro i x h
    have e : celT (y :: r) = .int .i64 (y.1 : Int) :: y.2.1 :: celT r := rfl
    cases i with
    | zero =>
      have : y = x := by simpa using h
      subst this
      exact ⟨rfl, rfl⟩
    | succ i =>
      have := ih i x (by simpa using h)
      rw [e, show (i + 1) * 2 = i * 2 + 2 by omega, show i * 2 + 2 + 1 = i * 2 + 1 + 2 by omega]
      exact this

/-- v is a list of spans of one's own. -/
structure DocT (w : World) (base : Nat) (v : Value) (xs : List Spt) : Prop where
  list : OwnS w base 33 2 v xs.length (celT xs)
  each : ∀ x ∈ xs, OwB w base x.2.1 x.2.2
theorem OwB.apartT {w : World} {base base' : Nat} {v u : Value} {zs : List Nat} {e : TypeId} {sz n : Nat} {cs : List Value} (h : OwB w base v zs) (k : OwnS w base' e sz u n cs) (he : e ≠ 5) : ∀ j, v.ownBlock = some j → u.ownBlock ≠ some j := by
  intro j hj hu
  obtain ⟨cur, hc⟩ := k.type hu
  obtain ⟨cur', hc'⟩ := OwnS.type h hj
  rw [hc] at hc'
  cases hc'
  exact he rfl
theorem DocT.below {w w' : World} {base : Nat} {v : Value} {xs : List Spt} (h : DocT w base v xs) (hb : Below w.heap.size w w') : DocT w' base v xs := ⟨h.list.below hb, fun x hx => OwnS.below (h.each x hx) hb⟩
theorem srcT (w : World) (E : Nat) (a : Option Addr) (n c : Nat) : Src Try.prog 2 53 (.slice (some ⟨w.heap.size, 0, none⟩) 1 1) 1 [.int .i64 (E : Int), .slice a n c] (w.alloc (.cells #[.int .i64 (E : Int), .slice a n c] 33)) := by
  refine Src.ofSlice _ Try.underlying53 ⟨w.heap.size, 0, none⟩ 1 1 _ rfl (fun j u hu => ?_) (fun u hu => ?_)
  · rw [Addr.add_lit, cell_of_row _ _ _ _ _ _ (heap_alloc_new w _), Nat.zero_add]
    have : (#[.int .i64 (E : Int), .slice a n c] : Array Value)[j]? = [.int .i64 (E : Int), Value.slice a n c][j]? := by simp
    rw [this]; exact hu
  · simp at hu
    rcases hu with rfl | rfl <;> rfl
theorem DocT.snoc {w w1 : World} {base : Nat} {v v1 : Value} {xs : List Spt} {x : Spt} {o : Obj} (h : DocT w base v xs) (hx : OwB w base x.2.1 x.2.2) (hs : OwnS w1 base 33 2 v1 (xs.length + 1) (celT xs ++ [.int .i64 (x.1 : Int), x.2.1])) (hg : (w.alloc o).grownBy w1 v.ownBlock) : DocT w1 base v1 (xs ++ [x]) := by
  have key : ∀ y : Spt, OwB w base y.2.1 y.2.2 → OwB w1 base y.2.1 y.2.2 := fun y hy => by
    refine OwnS.keep hy fun j hj => ?_
    have hlt := (OwnS.inside hy j hj).2
    rw [hg.block j (by simp; omega) (fun e => hy.apartT h.list (by decide) j hj e.symm)]
    exact Below.heap_alloc _ _ _ hlt
  refine ⟨by rw [List.length_append, celT_snoc]; exact hs, fun y hy => ?_⟩
  rcases List.mem_append.1 hy with h1 | h1
  · exact key y (h.each y h1)
  · have : y = x := by simpa using h1
    subst this
    exact key y hx
/-- .. is a row of spans. -/
theorem DocT.rowT {w : World} {base n : Nat} {v : Value} {xs : List Spt} {T : Nat → Nat × List Nat} (h : DocT w base v xs) (hn : xs.length = n) (hT : ∀ i x, xs[i]? = some x → T i = (x.1, x.2.2)) : ∃ a c, v = .slice a n c ∧ RowT w base a n T ∧ n ≤ c := by
  rcases h.list.2 with ⟨rfl, h0⟩ | ⟨g, o, cap, cur, rfl, hb, hh, hnc, _, _, hat⟩
  · rw [hn] at h0
    subst h0
    exact ⟨none, 0, rfl, .inl rfl, Nat.le_refl _⟩
  · rw [hn] at hnc ⊢
    refine ⟨_, cap, rfl, .inr ⟨g, o, rfl, (Array.getElem?_eq_some_iff.1 hh).1, hb, fun i hi => ?_⟩, hnc⟩
    have hil : i < xs.length := by omega
    obtain ⟨x, hx⟩ : ∃ x, xs[i]? = some x := ⟨_, List.getElem?_eq_getElem hil⟩
    obtain ⟨e1, e2⟩ := celT_at xs i x hx
    have hcl := celT_len xs
    obtain ⟨ra, rc, hv, hrw, _, _, _⟩ := (h.each x (List.mem_of_getElem? hx)).row
    rw [hT i x hx]
    refine ⟨ra, rc, ?_, ?_, hrw, fun ad hd => ?_⟩
    · rw [cell_of_row _ _ _ _ _ _ hh, hat _ (by omega)]; exact e1
    · rw [cell_of_row _ _ _ _ _ _ hh, Nat.add_assoc, hat _ (by omega), e2, hv]
    · subst hd
      exact (OwnS.inside (h.each x (List.mem_of_getElem? hx)) ad.block (by rw [hv]; rfl)).1

section
variable {w : World} {F : Nat → Prop} {a : Option Addr} {n c : Nat} {am : Bool} {s : Nat → Pt}
set_option maxRecDepth 100000 in
set_option maxHeartbeats 1600000 in
theorem imageR (h : Dd w F a n s) : Calls Try.prog 50 #[valD a n c am] w fun e w' => (∃ r cr, e = .returned (.slice r n cr) ∧ RowT w' w.heap.size r n (safeT s) ∧ n ≤ cr) ∧ Below w.heap.size w w' := by
  obtain ⟨hn1, hn16⟩ := h.few
  have hok := hide_it h.ok
  obtain ⟨W0, hW0⟩ : ∃ W, W = w.alloc (.cells #[.slice a n c, .bool am] 45) := ⟨_, rfl⟩
  have hb0 : Below w.heap.size w W0 := by rw [hW0]; exact (Below.refl _ _).alloc (Nat.le_refl _) _
  obtain ⟨b, o, rfl, hbl, hrr⟩ : ∃ b o, a = some ⟨b, o, none⟩ ∧ b < w.heap.size ∧ Hid (∀ i, i < n → ∃ ra rc, Sev w b (o + i * 7) (s i) ra rc ∧ RowB w ra (s i).bs ∧ (s i).bs.length ≤ rc ∧ (ra = none → (s i).bs.length = 0 ∧ rc = 0)) := by
    obtain ⟨b, o, e, h1, _, h2⟩ := h.row
    exact ⟨b, o, e, h1, fun i hi => by obtain ⟨ra, rc, x1, x2, _, x3, x4⟩ := h2 i hi; exact ⟨ra, rc, x1, x2, x3, x4⟩⟩
  clear h
  go_enter Try.func50, Try.ntmps50
  go_wp2_with fail
  rw [← hW0]
  clear hW0
  go_loopw [3, 9] (fun v i wr => ∃ (m : Nat) (xs : List Spt), m ≤ n ∧ i = .int .i64 (m : Int) ∧ xs.length = m ∧ Hid (∀ i x, xs[i]? = some x → safeT s i = (x.1, x.2.2)) ∧ DocT wr w.heap.size v xs ∧ Below w.heap.size w wr) (fun _ i _ => n - (intOf i).toNat)
  case atStart => exact ⟨0, [], Nat.zero_le _, rfl, rfl, (fun i x e => by simp at e), ⟨OwnS.nil _ _ _ _, fun x hx => by cases hx⟩, hb0⟩
  case round =>
    obtain ⟨m, xs, hm, rfl, hxl, hT, hD, hbw⟩ := hrel
    by_cases hlt : m < n
    · have hd : decide ((m : Int) < (n : Int)) = true := by simp; omega
      obtain ⟨ra, rc, hv, hrow, hrc, hrn⟩ := hrr.out m hlt
      have hp := hok.out m hlt
      obtain ⟨x, hx⟩ : ∃ x, x = s m := ⟨_, rfl⟩
      rw [← hx] at hv hrow hrc hrn hp
      have hk := hp.le
      have hlen := hp.len
      obtain ⟨zs, hzs⟩ : ∃ zs, zs = x.bs.take x.k := ⟨_, rfl⟩
      have hzl : x.k = zs.length := by rw [hzs, List.length_take]; omega
      have hrt : RowB wr ra zs := by
        rw [hzs]
        rcases hrow.below hbw with h | ⟨b2, o2, e2, h2, h3⟩
        · exact .inl (by rw [List.length_take]; omega)
        · refine .inr ⟨b2, o2, e2, h2, fun i hi => ?_⟩
          rw [List.length_take] at hi
          rw [h3 i (by omega)]
          have : at0 (x.bs.take x.k) i = at0 x.bs i := by
            unfold at0
            rw [List.getD_eq_getElem?_getD, List.getD_eq_getElem?_getD, List.getElem?_take_of_lt (by omega)]
          rw [this]
      have hTx : Hid (safeT s m = (x.B, zs)) := by unfold Hid safeT; rw [← hx, ← hzs]
      have hrn' : ra = none → zs.length = 0 ∧ rc = 0 := fun e => by have := hrn e; omega
      have hzc : zs.length ≤ rc := by omega
      have hzw : zs.length ≤ 211106232532800 := by omega
      obtain ⟨c0, c1, c2, c3, c4, c5, c6⟩ := hv.keep (hbw.block b hbl)
      rw [hzl] at c1
      obtain ⟨W1, hW1⟩ : ∃ W, W = wr.alloc (.cells #[.int .i64 (x.B : Int), .int .i64 (zs.length : Int), .int .i64 (x.c : Int), .slice ra x.bs.length rc, .int .i64 x.fd, .int .i64 x.fk, .int .u8 (x.ft : Int)] 108) := ⟨_, rfl⟩
      have hb1 : Below wr.heap.size wr W1 := by rw [hW1]; exact (Below.refl _ _).alloc (Nat.le_refl _) _
      have hbx : W1.heap[wr.heap.size]? = some (.cells #[.int .i64 (x.B : Int), .int .i64 (zs.length : Int), .int .i64 (x.c : Int), .slice ra x.bs.length rc, .int .i64 x.fd, .int .i64 x.fk, .int .u8 (x.ft : Int)] 108 (0, 0)) := by rw [hW1]; exact heap_alloc_new wr _
      have f0 : W1.cell? ⟨wr.heap.size, 0, none⟩ = some (.int .i64 (x.B : Int)) := cell_of_row _ _ _ _ _ _ hbx
      have f1 : W1.cell? ⟨wr.heap.size, 1, none⟩ = some (.int .i64 (zs.length : Int)) := cell_of_row _ _ _ _ _ _ hbx
      have f3 : W1.cell? ⟨wr.heap.size, 3, none⟩ = some (.slice ra x.bs.length rc) := cell_of_row _ _ _ _ _ _ hbx
      have hlw : wr.heap.size < W1.heap.size := (Array.getElem?_eq_some_iff.1 hbx).1
      have hws := hbw.size
      have hbw1 := hbw.trans (hb1.mono hws)
      have hD1 := hide_it (hD.below hb1)
      have hin := hide_it (fun j e => (hD.list.inside j e).2)
      have hrt1 := hide_it (hrt.below hb1)
      have hlz : zs.length ≤ x.bs.length := by omega
      clear hrow hrt hv hp hzs hzl hrn hk hlen hb1 hbx hD hrr hok hx
      go_wp2_with fail
      rw [← hW1]
      clear hW1 c0 c1 c2 c3 c4 c5 c6
      refine wp_region_held_drew (S := (fun w' => w'.heap[wr.heap.size]? = W1.heap[wr.heap.size]?)) (by kernel_rfl) ?_ (fun hHeld => ?_)
      · rfl
      refine take_on (i := 0) (v := ?_) rfl rfl (by kernel_rfl) (by kernel_rfl) (by kernel_rfl) (fun _ _ _ h => h) rfl ?_ hHeld ?_
      rotate_left
      · (intro wq hSq; have p0 := (World.cell?_of_block (w := W1) (a := ⟨wr.heap.size, 0, none⟩) hSq).trans f0; have p1 := (World.cell?_of_block (w := W1) (a := ⟨wr.heap.size, 1, none⟩) hSq).trans f1; have p3 := (World.cell?_of_block (w := W1) (a := ⟨wr.heap.size, 3, none⟩) hSq).trans f3; go_simp <;> first | with_reducible rfl | rfl)
      simp only [Act.put, List.setIfInBounds_toArray, List.set_cons_zero, List.set_cons_succ]
      refine take_on (i := 1) (v := ?_) rfl rfl (by kernel_rfl) (by kernel_rfl) (by kernel_rfl) (fun _ _ _ h => h) rfl ?_ hHeld ?_
      rotate_left
      · (intro wq hSq; have p0 := (World.cell?_of_block (w := W1) (a := ⟨wr.heap.size, 0, none⟩) hSq).trans f0; have p1 := (World.cell?_of_block (w := W1) (a := ⟨wr.heap.size, 1, none⟩) hSq).trans f1; have p3 := (World.cell?_of_block (w := W1) (a := ⟨wr.heap.size, 3, none⟩) hSq).trans f3; go_simp <;> first | with_reducible rfl | rfl)
      simp only [Act.put, List.setIfInBounds_toArray, List.set_cons_zero, List.set_cons_succ]
      refine take_on (i := 2) (v := ?_) rfl rfl (by kernel_rfl) (by kernel_rfl) (by kernel_rfl) (fun _ _ _ h => h) rfl ?_ hHeld ?_
      rotate_left
      · (intro wq hSq; have p0 := (World.cell?_of_block (w := W1) (a := ⟨wr.heap.size, 0, none⟩) hSq).trans f0; have p1 := (World.cell?_of_block (w := W1) (a := ⟨wr.heap.size, 1, none⟩) hSq).trans f1; have p3 := (World.cell?_of_block (w := W1) (a := ⟨wr.heap.size, 3, none⟩) hSq).trans f3; go_simp <;> first | with_reducible rfl | rfl)
      simp only [Act.put, List.setIfInBounds_toArray, List.set_cons_zero, List.set_cons_succ]
      refine take_on (i := 4) (v := ?_) rfl rfl (by kernel_rfl) (by kernel_rfl) (by kernel_rfl) (fun _ _ _ h => h) rfl ?_ hHeld ?_
      rotate_left
      · (intro wq hSq; have p0 := (World.cell?_of_block (w := W1) (a := ⟨wr.heap.size, 0, none⟩) hSq).trans f0; have p1 := (World.cell?_of_block (w := W1) (a := ⟨wr.heap.size, 1, none⟩) hSq).trans f1; have p3 := (World.cell?_of_block (w := W1) (a := ⟨wr.heap.size, 3, none⟩) hSq).trans f3; go_simp <;> first | with_reducible rfl | rfl)
      simp only [Act.put, List.setIfInBounds_toArray, List.set_cons_zero, List.set_cons_succ]
      refine take_on (i := 5) (v := ?_) rfl rfl (by kernel_rfl) (by kernel_rfl) (by kernel_rfl) (fun _ _ _ h => h) rfl ?_ hHeld ?_
      rotate_left
      · (intro wq hSq; have p0 := (World.cell?_of_block (w := W1) (a := ⟨wr.heap.size, 0, none⟩) hSq).trans f0; have p1 := (World.cell?_of_block (w := W1) (a := ⟨wr.heap.size, 1, none⟩) hSq).trans f1; have p3 := (World.cell?_of_block (w := W1) (a := ⟨wr.heap.size, 3, none⟩) hSq).trans f3; go_simp <;> first | with_reducible rfl | rfl)
      simp only [Act.put, List.setIfInBounds_toArray, List.set_cons_zero, List.set_cons_succ]
      refine take_on (i := 6) (v := ?_) rfl rfl (by kernel_rfl) (by kernel_rfl) (by kernel_rfl) (fun _ _ _ h => h) rfl ?_ hHeld ?_
      rotate_left
      · (intro wq hSq; have p0 := (World.cell?_of_block (w := W1) (a := ⟨wr.heap.size, 0, none⟩) hSq).trans f0; have p1 := (World.cell?_of_block (w := W1) (a := ⟨wr.heap.size, 1, none⟩) hSq).trans f1; have p3 := (World.cell?_of_block (w := W1) (a := ⟨wr.heap.size, 3, none⟩) hSq).trans f3; go_simp <;> first | with_reducible rfl | rfl)
      simp only [Act.put, List.setIfInBounds_toArray, List.set_cons_zero, List.set_cons_succ]
      refine take_on (i := 7) (v := ?_) rfl rfl (by kernel_rfl) (by kernel_rfl) (by kernel_rfl) (fun _ _ _ h => h) rfl ?_ hHeld ?_
      rotate_left
      · (intro wq hSq; have p0 := (World.cell?_of_block (w := W1) (a := ⟨wr.heap.size, 0, none⟩) hSq).trans f0; have p1 := (World.cell?_of_block (w := W1) (a := ⟨wr.heap.size, 1, none⟩) hSq).trans f1; have p3 := (World.cell?_of_block (w := W1) (a := ⟨wr.heap.size, 3, none⟩) hSq).trans f3; go_simp <;> first | with_reducible rfl | rfl)
      simp only [Act.put, List.setIfInBounds_toArray, List.set_cons_zero, List.set_cons_succ]
      refine take_on (i := 8) (v := ?_) rfl rfl (by kernel_rfl) (by kernel_rfl) (by kernel_rfl) (fun _ _ _ h => h) rfl ?_ hHeld ?_
      rotate_left
      · (intro wq hSq; have p0 := (World.cell?_of_block (w := W1) (a := ⟨wr.heap.size, 0, none⟩) hSq).trans f0; have p1 := (World.cell?_of_block (w := W1) (a := ⟨wr.heap.size, 1, none⟩) hSq).trans f1; have p3 := (World.cell?_of_block (w := W1) (a := ⟨wr.heap.size, 3, none⟩) hSq).trans f3; go_simp <;> first | with_reducible rfl | rfl)
      simp only [Act.put, List.setIfInBounds_toArray, List.set_cons_zero, List.set_cons_succ]
      refine take_one (i := 3) rfl (by kernel_rfl) (fun K hK => ?_)
      obtain ⟨z1, e1⟩ : ∃ z, z = W1.drew.alloc (.cells #[] 5) := ⟨_, rfl⟩
      go_simp
      first | rw [← e1] | rw [show (W1.alloc (.cells #[] 5)).drew = z1 from e1.symm]
      have hz1 : Below W1.heap.size W1 z1 := by rw [e1]; exact (Below.refl _ _).drew.alloc (Nat.le_refl _) _
      have ho1 : OwB z1 W1.heap.size (.slice (some ⟨W1.heap.size, 0, none⟩) 0 0) [] := by rw [e1]; exact owb_empty W1.drew
      clear e1
      refine hK.out _ _ ?_ (fun hHeld => ?_)
      · exact hz1.block _ hlw
      clear hK K
      try simp only [Act.put, List.setIfInBounds_toArray, List.set_cons_zero, List.set_cons_succ]
      refine take_one (i := 9) rfl (by kernel_rfl) (fun K hK => ?_)
      obtain ⟨vb, z2, hrun, hob, hgb, hab⟩ := run_appendB z1 23 W1.heap.size _ [] ho1 ra rc zs (hrt1.out.below hz1) hrn' (by simp; omega) hz1.size
      rw [List.nil_append] at hob
      obtain ⟨pa, pc, hvb, _⟩ := hob.row
      subst hvb
      refine step_append_run rfl _ _ _ rfl _ _ _ _ rfl rfl hrun ?_
      have hz2 : Below W1.heap.size W1 z2 := hz1.grown hgb hz1.size (fun j e => by cases e; exact Nat.le_refl _)
      clear hrun hab hgb
      refine hK.out _ _ ?_ (fun hHeld => ?_)
      · exact hz2.block _ hlw
      clear hK K
      try simp only [Act.put, List.setIfInBounds_toArray, List.set_cons_zero, List.set_cons_succ]
      refine take_on (i := 10) (v := ?_) rfl rfl (by kernel_rfl) (by kernel_rfl) (by kernel_rfl) (fun _ _ _ h => h) rfl ?_ hHeld ?_
      rotate_left
      · (intro wq hSq; have p0 := (World.cell?_of_block (w := W1) (a := ⟨wr.heap.size, 0, none⟩) hSq).trans f0; have p1 := (World.cell?_of_block (w := W1) (a := ⟨wr.heap.size, 1, none⟩) hSq).trans f1; have p3 := (World.cell?_of_block (w := W1) (a := ⟨wr.heap.size, 3, none⟩) hSq).trans f3; go_simp <;> first | with_reducible rfl | rfl)
      simp only [Act.put, List.setIfInBounds_toArray, List.set_cons_zero, List.set_cons_succ]
      refine take_one (i := 11) rfl (by kernel_rfl) (fun K hK => ?_)
      obtain ⟨z3, e3⟩ : ∃ z, z = z2.alloc (.cells #[.int .i64 (x.B : Int), .slice pa zs.length pc] 33) := ⟨_, rfl⟩
      go_simp
      rw [← e3]
      have hz3 : Below W1.heap.size W1 z3 := by rw [e3]; exact hz2.alloc hz2.size _
      refine hK.out _ _ ?_ (fun hHeld => ?_)
      · exact hz3.block _ hlw
      clear hK K
      try simp only [Act.put, List.setIfInBounds_toArray, List.set_cons_zero, List.set_cons_succ]
      refine take_one (i := 12) rfl (by kernel_rfl) (fun K hK => ?_)
      obtain ⟨vl, z4, hrun4, hol, hgl, hal⟩ := run_append_S (P := Try.prog) 53 53 53 (.agg #[.int .i64 0, .slice none 0 0]) Try.underlying53 infoSp rfl ((hD1.out.below hz3).list) _ 1 _ (by rw [e3]; exact srcT z2 x.B pa zs.length pc) (by unfold maxLen; omega) (by omega) (by have := hz3.size; have := hbw1.size; omega)
      refine step_append_run rfl _ _ _ rfl _ _ _ _ rfl rfl hrun4 ?_
      have hz4 : Hid (Below w.heap.size w z4) := hide_it ((hbw1.trans (hz3.mono hbw1.size)).grown hgl (by have := hz3.size; have := hbw1.size; omega) (fun j e => ((hD1.out.below hz3).list.inside j e).1))
      have hD4 := hide_it (DocT.snoc (x := (x.B, (.slice pa zs.length pc, zs))) (hD1.out.below hz2) (OwnS.mono hob hbw1.size) hol (by rw [e3] at hgl; exact hgl))
      have hS4 := hide_it ((hgl.block wr.heap.size (by have := hz3.size; omega) (fun e => by have := hin.out _ e.symm; omega)).trans (hz3.block _ hlw))
      clear hrun4 hol hgl hal e3
      refine hK.out _ _ ?_ (fun hHeld => ?_)
      · exact hS4.out
      clear hK K
      try simp only [Act.put, List.setIfInBounds_toArray, List.set_cons_zero, List.set_cons_succ]
      refine take_on (i := 13) (v := ?_) rfl rfl (by kernel_rfl) (by kernel_rfl) (by kernel_rfl) (fun _ _ _ h => h) rfl ?_ hHeld ?_
      rotate_left
      · (intro wq hSq; have p0 := (World.cell?_of_block (w := W1) (a := ⟨wr.heap.size, 0, none⟩) hSq).trans f0; have p1 := (World.cell?_of_block (w := W1) (a := ⟨wr.heap.size, 1, none⟩) hSq).trans f1; have p3 := (World.cell?_of_block (w := W1) (a := ⟨wr.heap.size, 3, none⟩) hSq).trans f3; go_simp <;> first | with_reducible rfl | rfl)
      simp only [Act.put, List.setIfInBounds_toArray, List.set_cons_zero, List.set_cons_succ]
      refine wpAnyH_done (by kernel_rfl) ?_ _
      have hlen2 : Hid ((xs ++ [((x.B, (.slice pa zs.length pc, zs)) : Spt)]).length = m + 1) := by unfold Hid; rw [List.length_append, hxl]; rfl
      have hT2 : Hid (∀ i y, (xs ++ [((x.B, (.slice pa zs.length pc, zs)) : Spt)])[i]? = some y → safeT s i = (y.1, y.2.2)) := fun i y e => by
        by_cases hi : i < xs.length
        · rw [List.getElem?_append_left hi] at e; exact hT.out i y e
        · rw [List.getElem?_append_right (by omega)] at e
          have h0 : i - xs.length = 0 := by
            have := (List.getElem?_eq_some_iff.1 e).1
            simp at this
            omega
          rw [h0] at e
          have e2 : y = (x.B, (.slice pa zs.length pc, zs)) := by simpa using e.symm
          rw [e2, show i = m by omega]
          exact hTx.out
      clear f0 f1 f3 hz1 hz2 hz3 ho1 hob hS4 hin hrt1 hD1 hT hTx
      go_wp2_with fail
      go_roundw
      case rel => exact ⟨m + 1, _, by omega, by go_num, hlen2.out, hT2, hD4.out, hz4.out⟩
      case measure => simp [intOf]; omega
    · have hd : decide ((m : Int) < (n : Int)) = false := by simp; omega
      have hmn : m = n := by omega
      subst hmn
      obtain ⟨r, cr, rfl, h1, h2⟩ := hD.rowT hxl hT.out
      clear hrr hok hD
      go_wp2_with fail
      go_ret
      exact ⟨⟨_, _, rfl, h1, h2⟩, hbw⟩
end
end Go.Proofs.Ytdodnegdpdhbiaa
