/- The program's log, walked: Open, add, Write, Sync, Group, Cut, Trim, Bounds. -/
import Derived.Test.YtkacfpmninmjkaaGreatWm1
import Derived.Test.YtkacfpmninmjkaaGreatFw1
import Derived.Test.YtkacfpmninmjkaaGreatEe6
import Derived.Test.YtkacfpmninmjkaaGreatOpenEnt
namespace Go.Proofs.YtkacfpmninmjkaaGreat
open Go.RowKit

/-- In block L lies the log of the area i of the disk in block p. -/
def Lg (w : World) (L p i : Nat) : Prop := w.heap[L]? = some (.cells #[.pointer (some ⟨p, 0, none⟩), .int .i64 (i : Int)] 92 (0, 0))
theorem Lg.lt {w : World} {L p i : Nat} (h : Lg w L p i) : L < w.heap.size := (Array.getElem?_eq_some_iff.1 h).1
theorem Lg.cells {w : World} {L p i : Nat} (h : Lg w L p i) : w.cell? ⟨L, 0, none⟩ = some (.pointer (some ⟨p, 0, none⟩)) ∧ w.cell? ⟨L, 1, none⟩ = some (.int .i64 (i : Int)) := ⟨cell_of_row _ _ _ _ _ _ h, cell_of_row _ _ _ _ _ _ h⟩
theorem Lg.below {w w' : World} {L p i : Nat} (h : Lg w L p i) (hb : Below w.heap.size w w') : Lg w' L p i := (hb.block L h.lt).trans h

/-- An entry that lies in memory, as mathematics. -/
def Ent.en (x : Ent) : En := ⟨x.kind, x.stamp, x.count, x.key, x.val.p, x.dead⟩
abbrev valN (x : Ent) : Value := valE x.en x.val.a x.val.c
/-- Its six cells. -/
structure Six (w : World) (b o : Nat) (x : Ent) : Prop where
  c0 : w.cell? ⟨b, o, none⟩ = some (.int .i64 x.kind)
  c1 : w.cell? ⟨b, o + 1, none⟩ = some (.int .i64 x.stamp)
  c2 : w.cell? ⟨b, o + 2, none⟩ = some (.int .i64 x.count)
  c3 : w.cell? ⟨b, o + 3, none⟩ = some (.string x.key)
  c4 : w.cell? ⟨b, o + 4, none⟩ = some (.slice x.val.a x.val.p.length x.val.c)
  c5 : w.cell? ⟨b, o + 5, none⟩ = some (.bool x.dead)
theorem Six.keep {w w' : World} {b o : Nat} {x : Ent} (h : Six w b o x) (hb : w'.heap[b]? = w.heap[b]?) : Six w' b o x :=
  ⟨(World.cell?_of_block (w := w) (a := ⟨b, o, none⟩) hb).trans h.c0, (World.cell?_of_block (w := w) (a := ⟨b, o + 1, none⟩) hb).trans h.c1, (World.cell?_of_block (w := w) (a := ⟨b, o + 2, none⟩) hb).trans h.c2, (World.cell?_of_block (w := w) (a := ⟨b, o + 3, none⟩) hb).trans h.c3, (World.cell?_of_block (w := w) (a := ⟨b, o + 4, none⟩) hb).trans h.c4, (World.cell?_of_block (w := w) (a := ⟨b, o + 5, none⟩) hb).trans h.c5⟩
/-- A list of entries in memory, in no block of F. -/
structure Ets (w : World) (F : Nat → Prop) (a : Option Addr) (xs : List Ent) : Prop where
  row : xs.length = 0 ∨ ∃ b o, a = some ⟨b, o, none⟩ ∧ b < w.heap.size ∧ ¬ F b ∧ ∀ i x, xs[i]? = some x → Six w b (o + i * 6) x
  each : ∀ x ∈ xs, PcOk w x.val ∧ (x.val.p.length = 0 ∨ farA F x.val.a)
theorem PcOk.keep {w w' : World} {x : Pc} (h : PcOk w x) (hs : w.heap.size ≤ w'.heap.size) (hk : ∀ ad : Addr, x.a = some ad → ad.block < w.heap.size → x.p.length ≠ 0 → w'.heap[ad.block]? = w.heap[ad.block]?) : PcOk w' x := by
  refine ⟨?_, h.all, h.size, h.none⟩
  by_cases h0 : x.p.length = 0
  · exact .inl h0
  · exact h.row.keep hs fun ad e hl => hk ad e hl h0
theorem Ets.chg {w w' : World} {F : Nat → Prop} {a : Option Addr} {xs : List Ent} (h : Ets w F a xs) (hc : Chg F w w') : Ets w' (upto F w w') a xs := by
  refine ⟨?_, fun x hx => ?_⟩
  · rcases h.row with h0 | ⟨b, o, e, hl, hF, hr⟩
    · exact .inl h0
    · refine .inr ⟨b, o, e, Nat.lt_of_lt_of_le hl hc.size, fun hx => ?_, fun i x hi => (hr i x hi).keep (hc.block b hl hF)⟩
      rcases hx with hx | hx
      · exact hF hx
      · omega
  · obtain ⟨h1, h2⟩ := h.each x hx
    refine ⟨h1.keep hc.size fun ad e hl h0 => hc.block _ hl ?_, ?_⟩
    · rcases h2 with h2 | h2
      · exact (h0 h2).elim
      · exact h2 ad e
    · by_cases h0 : x.val.p.length = 0
      · exact .inl h0
      · refine .inr fun ad e hx => ?_
        rcases h1.row with h3 | ⟨b, o, e3, h4, _⟩
        · exact h0 h3
        · rw [e3] at e; cases e
          rcases hx with hx | hx
          · rcases h2 with h2 | h2
            · exact h0 h2
            · exact h2 _ e3 hx
          · simp only at hx; omega
theorem Ets.below {w w' : World} {F : Nat → Prop} {a : Option Addr} {xs : List Ent} (h : Ets w F a xs) (hb : Below w.heap.size w w') : Ets w' F a xs := by
  refine ⟨?_, fun x hx => ⟨(h.each x hx).1.below hb, (h.each x hx).2⟩⟩
  rcases h.row with h0 | ⟨b, o, e, hl, hF, hr⟩
  · exact .inl h0
  · exact .inr ⟨b, o, e, Nat.lt_of_lt_of_le hl hb.size, hF, fun i x hi => (hr i x hi).keep (hb.block b hl)⟩

section
variable {w : World} {F : Nat → Prop} {L p i : Nat} {am : Bool} {n : Nat} {s : Nat → Pt}

set_option maxRecDepth 100000 in
set_option maxHeartbeats 400000 in
theorem open_log (h : Dsk w F p am n s) (hi : i < n) : Calls Tryz.prog 11 #[.pointer (some ⟨p, 0, none⟩), .int .i64 (i : Int)] w fun e w' => ∃ L, e = .returned (.tuple #[.pointer (some ⟨L, 0, none⟩), .int .i64 0]) ∧ w.heap.size ≤ L ∧ Lg w' L p i ∧ Below w.heap.size w w' := by
  have hbd := bounds_ok h i hi
  clear h
  go_enter Tryz.func11, Tryz.ntmps11
  go_wp2_with fail
  refine hbd.mono ?_
  rintro e w1 ⟨rfl, hb1⟩
  clear hbd
  go_wp2_with fail
  exact bodyPost_ret (v := .tuple #[.pointer (some ⟨w1.heap.size, 0, none⟩), .int .i64 0]) (by simp [results, Tryz.results11, go_sem]) rfl ⟨w1.heap.size, rfl, hb1.size, heap_alloc_new w1 _, hb1.alloc hb1.size _⟩

set_option maxRecDepth 100000 in
set_option maxHeartbeats 400000 in
theorem open_no (pv : Value) (E0 : Int) (hE0 : E0 ≠ 0) (I : Int) (w : World) (hp : Calls Tryz.prog 49 #[pv, .int .i64 I] w fun e w' => e = .returned (.tuple #[.pointer none, .int .i64 E0]) ∧ w' = w) :
    Calls Tryz.prog 11 #[pv, .int .i64 I] w fun e w' => e = .returned (.tuple #[.pointer none, .int .i64 E0]) ∧ w' = w := by
  have hbd := bounds_no pv E0 hE0 I w hp
  clear hp
  go_enter Tryz.func11, Tryz.ntmps11
  go_wp2_with fail
  refine hbd.mono ?_
  rintro e w1 ⟨rfl, hq⟩
  have hq2 := hq.symm
  subst hq2
  clear hq hbd
  go_wp2_with fail
  exact bodyPost_ret (v := .tuple #[.pointer none, .int .i64 E0]) (by simp [results, Tryz.results11, go_sem]) rfl ⟨rfl, rfl⟩

set_option maxRecDepth 100000 in
set_option maxHeartbeats 800000 in
theorem add_any (h : Dsk w F p am n s) (hi : i < n) (hL : Lg w L p i) (hFL : ¬ F L) (x : Ent) (hx : PcOk w x.val) (hl : (s i).bs.length + 4402 ≤ 211106232532800) (hB : (s i).B + (s i).bs.length + 4402 ≤ 9223372036854775807) (hcb : (s i).c ≤ 4611686018427387904) :
    Calls Tryz.prog 52 #[.pointer (some ⟨L, 0, none⟩), valN x] w fun e w' => Opd w F p am n (upd s i (wrX am (s i) [x.en]).2) (wrX am (s i) [x.en]).1 e w' := by
  have hb0 := boxE_below w x.en x.val.a x.val.c
  have hFl := h.lt
  have henc := encode_any x.en x.val.a x.val.c (boxE w x.en x.val.a x.val.c) (hx.below hb0).row hx.none
  obtain ⟨T, hT⟩ : ∃ T, T = wrX am (s i) [x.en] := ⟨_, rfl⟩
  rw [← hT]
  have hdef : T = if mayE x.en = true then (if down am (s i) = true then (80, s i) else (0, { s i with bs := (s i).bs ++ frE x.en, c := (s i).c + 1 })) else (100, s i) := hT
  clear hT
  have HX : Hid (All8 x.val.p) := hx.all
  cases hm : mayE x.en
  · rw [hm] at hdef
    have hdef2 : T = (100, s i) := hdef
    subst hdef2
    have hsame : upd s i (s i) = s := upd_self s i
    have hc : chkE x.en = 100 := by unfold chkE; rw [hm]; rfl
    have HF : ∀ w', Below w.heap.size w w' → Opd w F p am n (upd s i (s i)) 100 (.returned (.int .i64 100)) w' := fun w' hb => by rw [hsame]; exact Opd.of_below h rfl hb
    clear hx h hL hdef
    go_enter Tryz.func52, Tryz.ntmps52
    go_wp2_with fail
    refine henc.mono ?_
    rintro e w1 ⟨⟨v, rfl, ho⟩, hb1⟩
    rw [hc]
    clear henc ho
    go_wp2_with fail
    go_ret
    exact HF _ (hb0.trans (hb1.mono hb0.size))
  · rw [hm, if_pos rfl] at hdef
    have hc : chkE x.en = 0 := by unfold chkE; rw [hm]; rfl
    have hlen := encE_len hm
    have hfl := (frE_len hm).2
    have HA : Hid (All8 (frE x.en)) := frE_all ⟨hm, HX.out⟩
    have HE : Hid (All8 (encE x.en)) := encE_all hm HX.out
    have hop : opS am (s i) 0 0 (frE x.en) = T := by
      rw [hdef]
      unfold opS opX
      rw [if_pos rfl]
    replace hop := hide_it hop
    replace hdef := hide_it hdef
    have hD := hide_it h
    have hLL := hide_it hL
    clear hx h hL
    go_enter Tryz.func52, Tryz.ntmps52
    go_wp2_with fail
    refine henc.mono ?_
    rintro e w1 ⟨⟨v, rfl, ho⟩, hb1⟩
    rw [hc]
    rw [hm, if_pos rfl] at ho
    obtain ⟨a1, c1, rfl, hr1, _, _, hn1⟩ := ho.row
    have hmk := make_ok a1 c1 (encE x.en) w1 hr1 HE.out (by omega) hn1
    have hbw1 := hb0.trans (hb1.mono hb0.size)
    clear henc ho hr1
    generalize (encE x.en).length = le at *
    go_wp2_with fail
    refine hmk.mono ?_
    rintro e w2 ⟨⟨v, rfl, ho⟩, hb2⟩
    change OwnB w2 w1.heap.size v (frE x.en) at ho
    obtain ⟨a2, c2, rfl, hr2, _, _, hn2⟩ := ho.row
    have hbw2 := hbw1.trans (hb2.mono hbw1.size)
    have hD2 := hD.out.below (hbw2.trans ((Below.refl _ _).drew.mono hbw2.size))
    have hap := opAppend hD2 i hi 0 a2 c2 (frE x.en) (hr2.below (Below.refl _ _).drew) HA.out hn2 (by omega) (by omega) hcb
    rw [hop.out] at hap
    have hL2 := hLL.out.below hbw2
    obtain ⟨l0, l1⟩ := hL2.cells
    have hLt := hL2.lt
    clear hmk ho hr2 hD2
    generalize frE x.en = fr at *
    go_wp2_with fail
    refine wp_region_held_drew (S := (fun w' => w'.heap[L]? = w2.heap[L]?)) (by kernel_rfl) ?_ (fun hHeld => ?_)
    · rfl
    refine take_on (i := 0) (v := ?_) rfl rfl (by kernel_rfl) (by kernel_rfl) (by kernel_rfl) (fun _ _ _ h => h) rfl ?_ hHeld ?_
    rotate_left
    · (intro wq hSq; have q0 := (World.cell?_of_block (w := w2) (a := ⟨L, 0, none⟩) hSq).trans l0; have q1 := (World.cell?_of_block (w := w2) (a := ⟨L, 1, none⟩) hSq).trans l1; go_simp <;> first | with_reducible rfl | rfl)
    simp only [Act.put, List.setIfInBounds_toArray, List.set_cons_zero, List.set_cons_succ]
    refine take_on (i := 1) (v := ?_) rfl rfl (by kernel_rfl) (by kernel_rfl) (by kernel_rfl) (fun _ _ _ h => h) rfl ?_ hHeld ?_
    rotate_left
    · (intro wq hSq; have q0 := (World.cell?_of_block (w := w2) (a := ⟨L, 0, none⟩) hSq).trans l0; have q1 := (World.cell?_of_block (w := w2) (a := ⟨L, 1, none⟩) hSq).trans l1; go_simp <;> first | with_reducible rfl | rfl)
    simp only [Act.put, List.setIfInBounds_toArray, List.set_cons_zero, List.set_cons_succ]
    refine take_on (i := 2) (v := ?_) rfl rfl (by kernel_rfl) (by kernel_rfl) (by kernel_rfl) (fun _ _ _ h => h) rfl ?_ hHeld ?_
    rotate_left
    · (intro wq hSq; have q0 := (World.cell?_of_block (w := w2) (a := ⟨L, 0, none⟩) hSq).trans l0; have q1 := (World.cell?_of_block (w := w2) (a := ⟨L, 1, none⟩) hSq).trans l1; go_simp <;> first | with_reducible rfl | rfl)
    simp only [Act.put, List.setIfInBounds_toArray, List.set_cons_zero, List.set_cons_succ]
    refine take_on (i := 3) (v := ?_) rfl rfl (by kernel_rfl) (by kernel_rfl) (by kernel_rfl) (fun _ _ _ h => h) rfl ?_ hHeld ?_
    rotate_left
    · (intro wq hSq; have q0 := (World.cell?_of_block (w := w2) (a := ⟨L, 0, none⟩) hSq).trans l0; have q1 := (World.cell?_of_block (w := w2) (a := ⟨L, 1, none⟩) hSq).trans l1; go_simp <;> first | with_reducible rfl | rfl)
    simp only [Act.put, List.setIfInBounds_toArray, List.set_cons_zero, List.set_cons_succ]
    refine take_on (i := 4) (v := ?_) rfl rfl (by kernel_rfl) (by kernel_rfl) (by kernel_rfl) (fun _ _ _ h => h) rfl ?_ hHeld ?_
    rotate_left
    · (intro wq hSq; have q0 := (World.cell?_of_block (w := w2) (a := ⟨L, 0, none⟩) hSq).trans l0; have q1 := (World.cell?_of_block (w := w2) (a := ⟨L, 1, none⟩) hSq).trans l1; go_simp <;> first | with_reducible rfl | rfl)
    simp only [Act.put, List.setIfInBounds_toArray, List.set_cons_zero, List.set_cons_succ]
    refine take_on (i := 5) (v := ?_) rfl rfl (by kernel_rfl) (by kernel_rfl) (by kernel_rfl) (fun _ _ _ h => h) rfl ?_ hHeld ?_
    rotate_left
    · (intro wq hSq; have q0 := (World.cell?_of_block (w := w2) (a := ⟨L, 0, none⟩) hSq).trans l0; have q1 := (World.cell?_of_block (w := w2) (a := ⟨L, 1, none⟩) hSq).trans l1; go_simp <;> first | with_reducible rfl | rfl)
    simp only [Act.put, List.setIfInBounds_toArray, List.set_cons_zero, List.set_cons_succ]
    refine take_on (i := 6) (v := ?_) rfl rfl (by kernel_rfl) (by kernel_rfl) (by kernel_rfl) (fun _ _ _ h => h) rfl ?_ hHeld ?_
    rotate_left
    · (intro wq hSq; have q0 := (World.cell?_of_block (w := w2) (a := ⟨L, 0, none⟩) hSq).trans l0; have q1 := (World.cell?_of_block (w := w2) (a := ⟨L, 1, none⟩) hSq).trans l1; go_simp <;> first | with_reducible rfl | rfl)
    simp only [Act.put, List.setIfInBounds_toArray, List.set_cons_zero, List.set_cons_succ]
    refine take_on (i := 7) (v := ?_) rfl rfl (by kernel_rfl) (by kernel_rfl) (by kernel_rfl) (fun _ _ _ h => h) rfl ?_ hHeld ?_
    rotate_left
    · (intro wq hSq; have q0 := (World.cell?_of_block (w := w2) (a := ⟨L, 0, none⟩) hSq).trans l0; have q1 := (World.cell?_of_block (w := w2) (a := ⟨L, 1, none⟩) hSq).trans l1; go_simp <;> first | with_reducible rfl | rfl)
    simp only [Act.put, List.setIfInBounds_toArray, List.set_cons_zero, List.set_cons_succ]
    refine take_on (i := 8) (v := ?_) rfl rfl (by kernel_rfl) (by kernel_rfl) (by kernel_rfl) (fun _ _ _ h => h) rfl ?_ hHeld ?_
    rotate_left
    · (intro wq hSq; have q0 := (World.cell?_of_block (w := w2) (a := ⟨L, 0, none⟩) hSq).trans l0; have q1 := (World.cell?_of_block (w := w2) (a := ⟨L, 1, none⟩) hSq).trans l1; go_simp <;> first | with_reducible rfl | rfl)
    simp only [Act.put, List.setIfInBounds_toArray, List.set_cons_zero, List.set_cons_succ]
    refine take_one (i := 9) rfl (by kernel_rfl) (fun K hK => ?_)
    go_simp
    refine hap.mono ?_; rintro e4 w4 hq4; have he4 := hq4.ans; subst he4
    try go_wp2_with fail
    refine hK.out _ _ ?_ (fun hHeld => ?_)
    · exact hq4.went.chg.block L hLt hFL
    clear hK K
    try simp only [Act.put, List.setIfInBounds_toArray, List.set_cons_zero, List.set_cons_succ]
    refine take_on (i := 10) (v := ?_) rfl rfl (by kernel_rfl) (by kernel_rfl) (by kernel_rfl) (fun _ _ _ h => h) rfl ?_ hHeld ?_
    rotate_left
    · (intro wq hSq; have q0 := (World.cell?_of_block (w := w2) (a := ⟨L, 0, none⟩) hSq).trans l0; have q1 := (World.cell?_of_block (w := w2) (a := ⟨L, 1, none⟩) hSq).trans l1; go_simp <;> first | with_reducible rfl | rfl)
    simp only [Act.put, List.setIfInBounds_toArray, List.set_cons_zero, List.set_cons_succ]
    refine wpAnyH_done (by kernel_rfl) ?_ _
    go_wp2_with fail
    go_ret
    exact ⟨rfl, Went.behind (hbw2.trans ((Below.refl _ _).drew.mono hbw2.size)) hq4.went hFl⟩
end

/-- The cells of a box into which an entry was laid. -/
theorem boxN_cells (wr : World) (x : Ent) : Six (boxE wr x.en x.val.a x.val.c) wr.heap.size 0 x := by
  have h := heap_alloc_new wr (.cells #[.int .i64 x.en.kind, .int .i64 x.en.stamp, .int .i64 x.en.count, .string x.en.key, .slice x.val.a x.en.val.length x.val.c, .bool x.en.dead] 77)
  exact ⟨cell_of_row _ _ _ _ _ _ h, cell_of_row _ _ _ _ _ _ h, cell_of_row _ _ _ _ _ _ h, cell_of_row _ _ _ _ _ _ h, cell_of_row _ _ _ _ _ _ h, cell_of_row _ _ _ _ _ _ h⟩
theorem wrX_cons (am : Bool) (x : Pt) (e : En) (t : List En) : wrX am x (e :: t) = if (wrX am x [e]).1 = 0 then wrX am (wrX am x [e]).2 t else wrX am x [e] := by
  conv => lhs; unfold wrX
  have h1 : wrX am x [e] = if mayE e = true then (if down am x = true then (80, x) else (0, { x with bs := x.bs ++ frE e, c := x.c + 1 })) else (100, x) := rfl
  rw [h1]
  by_cases hm : mayE e = true
  · rw [if_pos hm, if_pos hm]
    by_cases hd : down am x = true
    · rw [if_pos hd, if_pos hd, if_neg (by simp)]
    · rw [if_neg hd, if_neg hd, if_pos rfl]
  · rw [if_neg hm, if_neg hm, if_neg (by simp)]
theorem wrX_small (am : Bool) : ∀ (es : List En) (x : Pt), (wrX am x es).2.bs.length ≤ x.bs.length + 4402 * es.length ∧ (wrX am x es).2.B = x.B ∧ (wrX am x es).2.c ≤ x.c + es.length ∧ (wrX am x es).2.k = x.k ∧ (wrX am x es).2.fd = x.fd ∧ (wrX am x es).2.fk = x.fk ∧ (wrX am x es).2.ft = x.ft := by
  intro es
  induction es with
  | nil => intro x; simp [wrX]
  | cons e t ih =>
    intro x
    unfold wrX
    split
    · next hm =>
      split
      · simp
      · have h1 := ih { x with bs := x.bs ++ frE e, c := x.c + 1 }
        have h2 := (frE_len hm).2
        simp only [List.length_append, List.length_cons] at h1 ⊢
        refine ⟨by omega, h1.2.1, by omega, h1.2.2.2⟩
    · simp

section
variable {w : World} {F : Nat → Prop} {L p i : Nat} {am : Bool} {n : Nat} {s : Nat → Pt}
theorem upto_not {w w' : World} (hF : ¬ F L) (hl : L < w.heap.size) : ¬ upto F w w' L := fun h => by
  rcases h with h | h
  · exact hF h
  · omega

set_option maxRecDepth 100000 in
set_option maxHeartbeats 1600000 in
theorem write_any (h : Dsk w F p am n s) (hi : i < n) (hL : Lg w L p i) (hFL : ¬ F L) (a : Option Addr) (cap : Nat) (xs : List Ent) (hx : Ets w F a xs) (hl : (s i).bs.length + 4402 * xs.length ≤ 211106232532800) (hB : (s i).B + (s i).bs.length + 4402 * xs.length ≤ 9223372036854775807) (hcb : (s i).c + xs.length ≤ 4611686018427387904) :
    Calls Tryz.prog 22 #[.pointer (some ⟨L, 0, none⟩), .slice a xs.length cap] w fun e w' => Opd w F p am n (upd s i (wrX am (s i) (xs.map Ent.en)).2) (wrX am (s i) (xs.map Ent.en)).1 e w' := by
  obtain ⟨T, hT⟩ : ∃ T, T = wrX am (s i) (xs.map Ent.en) := ⟨_, rfl⟩
  rw [← hT]
  have hW0 : Hid (Went w F p am n (upd s i (s i)) w) := by unfold Hid; rw [upd_self]; exact Went.of_below h (Below.refl _ _)
  have HS : Hid ((s i).bs.length + 4402 * (xs.length - 0) ≤ 211106232532800 ∧ (s i).B + (s i).bs.length + 4402 * (xs.length - 0) ≤ 9223372036854775807 ∧ (s i).c + (xs.length - 0) ≤ 4611686018427387904) := ⟨by omega, by omega, by omega⟩
  have HT : Hid (wrX am (s i) ((xs.drop 0).map Ent.en) = T) := by unfold Hid; rw [List.drop_zero]; exact hT.symm
  have HX := hide_it hx
  have HLG := hide_it hL
  have hLt := hL.lt
  have hxl : xs.length < 140737488355328 := by omega
  clear h hx hL hT hl hB hcb
  go_enter Tryz.func22, Tryz.ntmps22
  go_wp2_with fail
  go_loopw [12] (fun iv wr => ∃ (k : Nat) (y : Pt), k ≤ xs.length ∧ iv = .int .i64 (k : Int) ∧ Hid (wrX am y ((xs.drop k).map Ent.en) = T) ∧ Hid (y.bs.length + 4402 * (xs.length - k) ≤ 211106232532800 ∧ y.B + y.bs.length + 4402 * (xs.length - k) ≤ 9223372036854775807 ∧ y.c + (xs.length - k) ≤ 4611686018427387904) ∧ Hid (Went w F p am n (upd s i y) wr)) (fun iv _ => xs.length - (intOf iv).toNat)
  case atStart => exact ⟨0, s i, Nat.zero_le _, rfl, HT, HS, hW0⟩
  case round =>
    obtain ⟨k, y, hk, rfl, HTk, HSk, HW⟩ := hrel
    clear HT HS hW0
    by_cases hlt : k < xs.length
    · have hd : decide ((k : Int) < (xs.length : Int)) = true := by simp; omega
      obtain ⟨x, hxe⟩ : ∃ x, x = xs[k] := ⟨_, rfl⟩
      have hxg : xs[k]? = some x := by rw [List.getElem?_eq_getElem hlt, hxe]
      have hdrop : xs.drop k = x :: xs.drop (k + 1) := by rw [hxe]; exact List.drop_eq_getElem_cons hlt
      obtain ⟨h1, h2, h3⟩ := HSk.out
      have hEw := HX.out.chg HW.out.chg
      have hpc := (hEw.each x (List.mem_of_getElem? hxg)).1
      obtain ⟨b, o, rfl, hbl, hbF, hrow⟩ : ∃ b o, a = some ⟨b, o, none⟩ ∧ b < wr.heap.size ∧ ¬ upto F w wr b ∧ ∀ i x, xs[i]? = some x → Six wr b (o + i * 6) x := by
        rcases hEw.row with h0 | h0
        · omega
        · exact h0
      obtain ⟨d0, d1, d2, d3, d4, d5⟩ := hrow k x hxg
      have hbx := boxE_below wr x.en x.val.a x.val.c
      have hLw : Lg wr L p i := (HW.out.chg.block L hLt hFL).trans HLG.out
      have hFw : ¬ upto F w wr L := upto_not hFL hLt
      have hat : upd s i y i = y := upd_at s i y
      have hadd := add_any (i := i) (HW.out.dsk.below hbx) hi (hLw.below hbx) hFw x (hpc.below hbx) (by rw [hat]; omega) (by rw [hat]; omega) (by rw [hat]; omega)
      rw [hat, upd_upd] at hadd
      obtain ⟨f0, f1, f2, f3, f4, f5⟩ := boxN_cells wr x
      have hTk := HTk.out
      rw [hdrop, List.map_cons, wrX_cons] at hTk
      have hsm := wrX_small am [x.en] y
      obtain ⟨R, hR⟩ : ∃ R, R = wrX am y [x.en] := ⟨_, rfl⟩
      rw [← hR] at hadd hTk hsm
      have HSM := hide_it hsm
      have HTK := hide_it hTk
      clear hEw hpc hrow hR hdrop hxg hxe hLw hTk hsm HTk
      clear f0 f1 f2 f3 f4 f5
      go_wp2_with fail
      refine hadd.mono ?_
      rintro e w4 hq4
      have he4 := hq4.ans
      subst he4
      have HW4 := hide_it (HW.out.trans (Went.behind hbx hq4.went HW.out.dsk.lt))
      have hsk := HSM.out
      clear hadd hq4 d0 d1 d2 d3 d4 d5 hbx HW HSk HSM
      obtain ⟨r, y'⟩ := R
      simp only at hsk HTK HW4 ⊢
      by_cases hz : r = 0
      · subst hz
        have HT2 : Hid (wrX am y' (List.map Ent.en (List.drop (k + 1) xs)) = T) := HTK.out
        have HS2 : Hid (y'.bs.length + 4402 * (xs.length - (k + 1)) ≤ 211106232532800 ∧ y'.B + y'.bs.length + 4402 * (xs.length - (k + 1)) ≤ 9223372036854775807 ∧ y'.c + (xs.length - (k + 1)) ≤ 4611686018427387904) := by
          simp only [List.length_cons, List.length_nil] at hsk
          exact ⟨by omega, by omega, by omega⟩
        clear HTK hsk
        go_wp2_with fail
        go_roundw
        case rel => exact ⟨k + 1, y', by omega, by go_num, HT2, HS2, HW4⟩
        case measure => simp [intOf]; omega
      · have hT2 : (r, y') = T := by have := HTK.out; rwa [if_neg hz] at this
        have hz2 : (r != 0) = true := by simpa using hz
        subst hT2
        clear HTK hsk
        go_wp2_with fail
        go_ret
        exact ⟨rfl, HW4.out⟩
    · have hd : decide ((k : Int) < (xs.length : Int)) = false := by simp; omega
      have hT2 : (0, y) = T := by
        have := HTk.out
        rwa [List.drop_eq_nil_of_le (by omega)] at this
      subst hT2
      clear HTk HSk
      go_wp2_with fail
      go_ret
      exact ⟨rfl, HW.out⟩
end

end Go.Proofs.YtkacfpmninmjkaaGreat
