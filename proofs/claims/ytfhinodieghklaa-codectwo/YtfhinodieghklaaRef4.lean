/- The document's reader: bytes behind their number. -/
import Derived.Test.YtfhinodieghklaaRef3
namespace Go.Proofs.Ytfhinodieghklaa
open Go.RowKit

/-- What comes of reading bytes of the document's reader. -/
def RefBytes (a : Option Addr) (B : List Nat) (cap : Nat) (w : World) (r : List Nat × (List Nat × Nat)) (e : Ending) (w' : World) : Prop :=
  ∃ at_ a' c', e = .returned (.tuple #[.slice a' r.1.length c', refV a B.length cap at_ r.2.2]) ∧ RowB w' a' r.1 ∧ (a' = none → r.1.length = 0 ∧ c' = 0) ∧ RefIs w' a B cap at_ r.2 ∧ Below w.heap.size w w'

theorem short_err100 {low high : Int} {bs : List Nat} {c : Nat} (h : takeShort low high bs = .error c) : c ≤ 100 ∧ c ≠ 0 := by
  unfold takeShort at h
  split at h
  · cases h; decide
  · split at h
    · next e => cases h; exact groups_err100 _ _ _ _ e
    · split at h
      · cases h; decide
      · cases h

set_option maxRecDepth 100000 in
set_option maxHeartbeats 1000000 in
theorem rbytes_any (a : Option Addr) (B : List Nat) (cap at_ : Nat) (most : Int) (s : List Nat × Nat) (w : World) (h : RefIs w a B cap at_ s) (hm1 : -9223372036854775808 ≤ most) (hm2 : most ≤ 9223372036854775807) :
    Calls Try.prog 46 #[refV a B.length cap at_ s.2, .int .i64 most] w fun e w' => RefBytes a B cap w (rdOf [] (takeCounted most) s) e w' := by
  have hH := hide_it h
  have hl := h.le
  have hsz := h.size
  obtain ⟨bs, f⟩ := s
  by_cases hf : f = 0
  · subst hf
    by_cases hm0 : most < 0
    · have hR : Hid (rdOf [] (takeCounted most) (bs, 0) = ([], (bs, 2))) := by
        unfold Hid rdOf takeCounted takeShort
        rw [if_neg (by simp), if_pos hm0]
      have hd : decide (most < 0) = true := by simpa using hm0
      unfold refV
      clear h
      go_enter Try.func46, Try.ntmps46
      go_wp2_with fail
      go_region
      all_goals go_wp2_with fail
      refine bodyPost_ret (v := .tuple #[.slice none 0 0, .agg #[.slice a B.length cap, .int .i64 (at_ : Int), .int .i64 2]]) (by simp [results, Try.results46, go_sem]) rfl ?_
      rw [hR.out]
      exact ⟨at_, none, 0, rfl, .inl rfl, fun _ => ⟨rfl, rfl⟩, hH.out.faulty (two_below _ _ _) (by omega), two_below _ _ _⟩
    · have hd : decide (most < 0) = false := by simp; omega
      have hb2 : Below w.heap.size w ((w.alloc (.cells #[.slice a B.length cap, .int .i64 (at_ : Int), .int .i64 0] 42)).alloc (.cells #[.slice none 0 0, .int .i64 0, .int .i64 0] 42)) := ((Below.refl _ _).alloc (Nat.le_refl _) _).alloc (by simp) _
      have hin := rint_any a B cap at_ 0 most (bs, 0) _ (h.below hb2) (by omega) (by omega) hm1 hm2
      have g1 : ((w.alloc (.cells #[.slice a B.length cap, .int .i64 (at_ : Int), .int .i64 0] 42)).alloc (.cells #[.slice none 0 0, .int .i64 0, .int .i64 0] 42)).heap[w.heap.size]? = some (.cells #[.slice a B.length cap, .int .i64 (at_ : Int), .int .i64 0] 42 (0, 0)) := by
        rw [Below.heap_alloc _ _ _ (by simp)]; exact heap_alloc_new w _
      have g2 : ((w.alloc (.cells #[.slice a B.length cap, .int .i64 (at_ : Int), .int .i64 0] 42)).alloc (.cells #[.slice none 0 0, .int .i64 0, .int .i64 0] 42)).heap[w.heap.size + 1]? = some (.cells #[.slice none 0 0, .int .i64 0, .int .i64 0] 42 (0, 0)) := by
        have e := heap_alloc_new (w.alloc (.cells #[.slice a B.length cap, .int .i64 (at_ : Int), .int .i64 0] 42)) (.cells #[.slice none 0 0, .int .i64 0, .int .i64 0] 42)
        simp only [World.size_alloc] at e
        exact e
      have hsz2 : w.heap.size + 2 = ((w.alloc (.cells #[.slice a B.length cap, .int .i64 (at_ : Int), .int .i64 0] 42)).alloc (.cells #[.slice none 0 0, .int .i64 0, .int .i64 0] 42)).heap.size := by simp
      unfold refV at hin ⊢
      clear h
      cases hT : takeShort 0 most bs with
      | error c =>
        have hx : rdOf 0 (takeShort 0 most) (bs, 0) = (0, (bs, c)) := by unfold rdOf; rw [if_neg (by simp), hT]
        have hR : Hid (rdOf [] (takeCounted most) (bs, 0) = ([], (bs, c))) := by unfold Hid rdOf takeCounted; rw [if_neg (by simp), hT]
        rw [hx] at hin
        have hcc := (short_err100 hT).1
        have hcz : ((c : Int) == 0) = false := by have := short_err100 hT; simp; omega
        clear hx hT
        go_enter Try.func46, Try.ntmps46
        go_wp2_with fail
        refine hin.mono ?_
        rintro e w3 ⟨at1, rfl, hI, hb3⟩
        have hbw := hb2.trans (hb3.mono hb2.size)
        have k1 : w3.heap[w.heap.size]? = _ := (hb3.block _ (by omega)).trans g1
        have k2 : w3.heap[w.heap.size + 1]? = _ := (hb3.block _ (by omega)).trans g2
        have hs3 := hb3.size
        rw [← hsz2] at hs3
        have m1 : (w3.alloc (.cells #[.slice a B.length cap, .int .i64 (at1 : Int), .int .i64 (c : Int)] 42)).heap[w.heap.size]? = _ := (Below.heap_alloc _ _ _ (by omega)).trans k1
        have m2 : (w3.alloc (.cells #[.slice a B.length cap, .int .i64 (at1 : Int), .int .i64 (c : Int)] 42)).heap[w.heap.size + 1]? = _ := (Below.heap_alloc _ _ _ (by omega)).trans k2
        have n1 := heap_setCell_same _ w.heap.size 2 _ _ (.int .i64 (c : Int)) m1
        have n2 : ((w3.alloc (.cells #[.slice a B.length cap, .int .i64 (at1 : Int), .int .i64 (c : Int)] 42)).setCell ⟨w.heap.size, 2, none⟩ (.int .i64 (c : Int))).heap[w.heap.size + 1]? = _ := (Below.heap_setCell _ _ _ _ (show w.heap.size + 1 ≠ w.heap.size by omega)).trans m2
        obtain ⟨_, _, p2⟩ := three_cells m1
        obtain ⟨_, _, z2⟩ := three_soft m1
        obtain ⟨r0, r1, r2⟩ := three_cells n1
        obtain ⟨s0, s1, s2⟩ := three_cells n2
        obtain ⟨y0, y1, y2⟩ := three_soft n2
        have bw5 : Below w.heap.size w ((w3.alloc (.cells #[.slice a B.length cap, .int .i64 (at1 : Int), .int .i64 (c : Int)] 42)).setCell ⟨w.heap.size, 2, none⟩ (.int .i64 (c : Int))) := (hbw.alloc (by omega) _).setCell (Nat.le_refl _) _
        have HB5 := hide_it bw5
        have HN2 := hide_it n2
        have hc100 := hcc
        clear hin g1 g2 hb2 hb3 hI hsz2 k1 k2 m1 m2 n1 n2 hbw bw5
        unfold refV
        go_wp2_with fail
        go_region
        all_goals go_wp2_with fail
        have g5 := set3 HN2.out (.slice a B.length cap) (.int .i64 (at_ : Int)) (.int .i64 (c : Int))
        obtain ⟨v0, v1, v2⟩ := three_cells g5
        refine bodyPost_ret (v := .tuple #[.slice none 0 0, .agg #[.slice a B.length cap, .int .i64 (at_ : Int), .int .i64 (c : Int)]]) (by simp [results, Try.results46, go_sem, v0, v1, v2]) rfl ?_
        rw [hR.out]
        have b5 := (below3 HB5.out (show w.heap.size ≤ w.heap.size + 1 by omega) (.slice a B.length cap) (.int .i64 (at_ : Int)) (.int .i64 (c : Int))).drew
        exact ⟨at_, none, 0, rfl, .inl rfl, fun _ => ⟨rfl, rfl⟩, hH.out.faulty b5 hc100, b5⟩
      | ok x =>
        obtain ⟨n, t⟩ := x
        have hx : rdOf 0 (takeShort 0 most) (bs, 0) = (n, (t, 0)) := by unfold rdOf; rw [if_neg (by simp), hT]
        rw [hx] at hin
        obtain ⟨hn0, hnm⟩ := takeShort_nat hT
        obtain ⟨k, rfl⟩ : ∃ k : Nat, n = (k : Int) := ⟨n.toNat, by omega⟩
        go_enter Try.func46, Try.ntmps46
        go_wp2_with fail
        refine hin.mono ?_
        rintro e w3 ⟨at1, rfl, hI, hb3⟩
        have hbw := hb2.trans (hb3.mono hb2.size)
        have k1 : w3.heap[w.heap.size]? = _ := (hb3.block _ (by omega)).trans g1
        have k2 : w3.heap[w.heap.size + 1]? = _ := (hb3.block _ (by omega)).trans g2
        have hs3 := hb3.size
        rw [← hsz2] at hs3
        have hle1 := hI.le
        have htl : t.length = B.length - at1 := by have e : t = _ := hI.left; rw [e]; simp
        have hto : B.length ≤ cap := hI.fits
        have hcm := hI.capm
        unfold maxLen at hcm
        have HI := hide_it hI
        clear hin g1 g2 hb2 hb3 hI hsz2 hx
        unfold refV
        by_cases hlt : t.length < k
        · have hR : Hid (rdOf [] (takeCounted most) (bs, 0) = ([], (bs, 20))) := by
            unfold Hid rdOf takeCounted; rw [if_neg (by simp), hT]
            simp only [Int.toNat_natCast, if_pos hlt]
          have hd3 : decide ((B.length : Int) - (at1 : Int) < (k : Int)) = true := by simp; omega
          clear hT
          have m1 : ((w3.alloc (.cells #[.slice a B.length cap, .int .i64 (at1 : Int), .int .i64 20] 42)).alloc (.cells #[.slice a B.length cap, .int .i64 (at1 : Int), .int .i64 0] 42)).heap[w.heap.size]? = _ := ((Below.heap_alloc _ _ _ (by simp; omega)).trans (Below.heap_alloc _ _ _ (by omega))).trans k1
          have m2 : ((w3.alloc (.cells #[.slice a B.length cap, .int .i64 (at1 : Int), .int .i64 20] 42)).alloc (.cells #[.slice a B.length cap, .int .i64 (at1 : Int), .int .i64 0] 42)).heap[w.heap.size + 1]? = _ := ((Below.heap_alloc _ _ _ (by simp; omega)).trans (Below.heap_alloc _ _ _ (by omega))).trans k2
          have n1 := heap_setCell_same _ w.heap.size 2 _ _ (.int .i64 20) m1
          have n2 : (((w3.alloc (.cells #[.slice a B.length cap, .int .i64 (at1 : Int), .int .i64 20] 42)).alloc (.cells #[.slice a B.length cap, .int .i64 (at1 : Int), .int .i64 0] 42)).setCell ⟨w.heap.size, 2, none⟩ (.int .i64 20)).heap[w.heap.size + 1]? = _ := (Below.heap_setCell _ _ _ _ (show w.heap.size + 1 ≠ w.heap.size by omega)).trans m2
          obtain ⟨_, _, p2⟩ := three_cells m1
          obtain ⟨_, _, z2⟩ := three_soft m1
          obtain ⟨r0, r1, r2⟩ := three_cells n1
          obtain ⟨s0, s1, s2⟩ := three_cells n2
          obtain ⟨y0, y1, y2⟩ := three_soft n2
          have bw5 : Below w.heap.size w (((w3.alloc (.cells #[.slice a B.length cap, .int .i64 (at1 : Int), .int .i64 20] 42)).alloc (.cells #[.slice a B.length cap, .int .i64 (at1 : Int), .int .i64 0] 42)).setCell ⟨w.heap.size, 2, none⟩ (.int .i64 20)) := ((hbw.alloc (by omega) _).alloc (by simp; omega) _).setCell (Nat.le_refl _) _
          have HB5 := hide_it bw5
          have HN2 := hide_it n2
          clear k1 k2 m1 m2 n1 n2 hbw bw5
          go_wp2_with (go_at_call 28; go_in)
          go_region
          all_goals go_wp2_with fail
          have g5 := set3 HN2.out (.slice a B.length cap) (.int .i64 (at_ : Int)) (.int .i64 20)
          obtain ⟨v0, v1, v2⟩ := three_cells g5
          refine bodyPost_ret (v := .tuple #[.slice none 0 0, .agg #[.slice a B.length cap, .int .i64 (at_ : Int), .int .i64 20]]) (by simp [results, Try.results46, go_sem, v0, v1, v2]) rfl ?_
          rw [hR.out]
          have b5 := (below3 HB5.out (show w.heap.size ≤ w.heap.size + 1 by omega) (.slice a B.length cap) (.int .i64 (at_ : Int)) (.int .i64 20)).drew
          exact ⟨at_, none, 0, rfl, .inl rfl, fun _ => ⟨rfl, rfl⟩, hH.out.faulty b5 (by omega), b5⟩
        · have hR : Hid (rdOf [] (takeCounted most) (bs, 0) = (t.take k, (t.drop k, 0))) := by
            unfold Hid rdOf takeCounted; rw [if_neg (by simp), hT]
            simp only [Int.toNat_natCast, if_neg hlt]
          have hd3 : decide ((B.length : Int) - (at1 : Int) < (k : Int)) = false := by simp; omega
          have hi1 : (at1 : Int) + (k : Int) ≤ (cap : Int) := by omega
          clear hT
          by_cases hca : cap = at1
          · subst hca
            have hk0 : k = 0 := by omega
            subst hk0
            have hrow : RowB w3 a (t.take 0) := .inl (by simp)
            have hoe := own_empty ((w3.alloc (.cells #[.slice a B.length cap, .int .i64 (cap : Int), .int .i64 0] 42)).alloc (.cells #[.slice a B.length cap, .int .i64 (cap : Int), .int .i64 0] 42))
            simp only [World.size_alloc] at hoe
            have hb6 : Below w3.heap.size w3 (((w3.alloc (.cells #[.slice a B.length cap, .int .i64 (cap : Int), .int .i64 0] 42)).alloc (.cells #[.slice a B.length cap, .int .i64 (cap : Int), .int .i64 0] 42)).alloc (.cells #[] 5)) := (((Below.refl _ _).alloc (Nat.le_refl _) _).alloc (by simp) _).alloc (by simp; omega) _
            have hrow6 : RowB (((w3.alloc (.cells #[.slice a B.length cap, .int .i64 (cap : Int), .int .i64 0] 42)).alloc (.cells #[.slice a B.length cap, .int .i64 (cap : Int), .int .i64 0] 42)).alloc (.cells #[] 5)) (a) (t.take 0) := hrow.below hb6
            have hk1 : (((w3.alloc (.cells #[.slice a B.length cap, .int .i64 (cap : Int), .int .i64 0] 42)).alloc (.cells #[.slice a B.length cap, .int .i64 (cap : Int), .int .i64 0] 42)).alloc (.cells #[] 5)).heap[w3.heap.size]? = some (.cells #[.slice a B.length cap, .int .i64 (cap : Int), .int .i64 0] 42 (0, 0)) := by
              rw [Below.heap_alloc _ _ _ (by simp; omega), Below.heap_alloc _ _ _ (by simp)]; exact heap_alloc_new w3 _
            have hk2 : (((w3.alloc (.cells #[.slice a B.length cap, .int .i64 (cap : Int), .int .i64 0] 42)).alloc (.cells #[.slice a B.length cap, .int .i64 (cap : Int), .int .i64 0] 42)).alloc (.cells #[] 5)).heap[w.heap.size + 1]? = _ := (hb6.block _ (by omega)).trans k2
            have hkl : (t.take 0).length = 0 := by simp <;> omega
            clear hrow k1 k2
            go_wp2_with (first | (go_at_call 28; go_in) | (at_builtin; refine wpList_append_row _ rfl _ _ rfl (w3.heap.size + 1 + 1) _ [] rfl hoe (a) 0 (t.take 0) (by rw [hkl]; first | rfl | (show Value.slice _ (cap + 0 - cap) _ = _; rw [Nat.add_sub_cancel_left])) hrow6 (fun _ => ⟨hkl, rfl⟩) (by rw [hkl]; simp <;> omega) (by simp) ?_; intro v7 w7 hown7 hg7 hat7; have hg8 : (((w3.alloc (.cells #[.slice a B.length cap, .int .i64 (cap : Int), .int .i64 0] 42)).alloc (.cells #[.slice a B.length cap, .int .i64 (cap : Int), .int .i64 0] 42)).alloc (.cells #[] 5)).grownBy w7 (some (w3.heap.size + 1 + 1)) := hg7; have j1 : w7.heap[w3.heap.size]? = _ := (hg8.block _ (by simp; omega) (by simp; omega)).trans hk1; have j2 : w7.heap[w.heap.size + 1]? = _ := (hg8.block _ (by simp; omega) (by simp; omega)).trans hk2; obtain ⟨_, c1, _⟩ := three_cells j1; obtain ⟨_, z1, _⟩ := three_soft j1; have n1 := heap_setCell_same w7 w3.heap.size 1 _ _ (.int .i64 (cap : Int)) j1; have n2 : (w7.setCell ⟨w3.heap.size, 1, none⟩ (.int .i64 (cap : Int))).heap[w.heap.size + 1]? = _ := (Below.heap_setCell _ _ _ _ (show w.heap.size + 1 ≠ w3.heap.size by omega)).trans j2; obtain ⟨r0, r1, r2⟩ := three_cells n1; obtain ⟨s0, s1, s2⟩ := three_cells n2; obtain ⟨y0, y1, y2⟩ := three_soft n2; have HN2 := hide_it n2; have HOWN := hide_it hown7; have HG8 := hide_it hg8; clear hown7 hg7 hg8 hat7 j1 j2 n1 n2))
            go_region
            all_goals go_wp2_with fail
            have g5 := set3 HN2.out (.slice a B.length cap) (.int .i64 (cap : Int)) (.int .i64 0)
            obtain ⟨v0, v1, v2⟩ := three_cells g5
            have e5 : True := trivial
            refine bodyPost_ret (v := .tuple #[v7, .agg #[.slice a B.length cap, .int .i64 (cap : Int), .int .i64 0]]) (by simp [results, Try.results46, go_sem, v0, v1, v2]) rfl ?_
            rw [hR.out]
            have bw6 := hbw.trans (hb6.mono hbw.size)
            have bw7 : Below w.heap.size w w7 := bw6.grown HG8.out bw6.size (fun j e => by cases e; omega)
            have b5 := (below3 (bw7.setCell (p := ⟨w3.heap.size, 1, none⟩) (by show w.heap.size ≤ w3.heap.size; omega) (.int .i64 (cap : Int))) (show w.heap.size ≤ w.heap.size + 1 by omega) (.slice a B.length cap) (.int .i64 (cap : Int)) (.int .i64 0)).drew
            have ho := (((((HOWN.out.set_old (p := w3.heap.size) (by omega) 1 (.int .i64 (cap : Int))).set_old (p := w.heap.size + 1) (by omega) 0 (.slice a B.length cap)).set_old (p := w.heap.size + 1) (by omega) 1 (.int .i64 (cap : Int))).set_old (p := w.heap.size + 1) (by omega) 2 (.int .i64 0)).below (Below.refl _ _).drew)
            rw [List.nil_append] at ho
            obtain ⟨a7, c7, hv7, hr7, _, _, hn7⟩ := ho.row
            have hO := HI.out
            refine ⟨cap, a7, c7, by rw [hv7]; rfl, hr7, hn7, ⟨hH.out.row.below b5, hO.all, hO.size, hO.fits, hO.capm, hO.none, by omega, ?_, by show 0 ≤ 100; omega⟩, b5⟩
            show t.drop 0 = _
            have e9 : t = _ := hO.left
            rw [e9, List.drop_drop]
            rfl

          · have hrow : RowB w3 (a.map (fun x => x.add at1)) (t.take k) := by
              have h9 := (((RowLt.of_row HI.out.row).drop at1).take k).row
              have e9 : t = _ := HI.out.left
              rw [e9]; exact h9
            have hnn : a.map (fun x => x.add at1) = none → (t.take k).length = 0 ∧ cap - at1 = 0 := fun e => by
              have e2 : a = none := by cases a <;> simp_all
              have := HI.out.none e2
              simp; omega
            have hoe := own_empty ((w3.alloc (.cells #[.slice a B.length cap, .int .i64 (at1 : Int), .int .i64 0] 42)).alloc (.cells #[.slice a B.length cap, .int .i64 (at1 : Int), .int .i64 0] 42))
            simp only [World.size_alloc] at hoe
            have hb6 : Below w3.heap.size w3 (((w3.alloc (.cells #[.slice a B.length cap, .int .i64 (at1 : Int), .int .i64 0] 42)).alloc (.cells #[.slice a B.length cap, .int .i64 (at1 : Int), .int .i64 0] 42)).alloc (.cells #[] 5)) := (((Below.refl _ _).alloc (Nat.le_refl _) _).alloc (by simp) _).alloc (by simp; omega) _
            have hrow6 : RowB (((w3.alloc (.cells #[.slice a B.length cap, .int .i64 (at1 : Int), .int .i64 0] 42)).alloc (.cells #[.slice a B.length cap, .int .i64 (at1 : Int), .int .i64 0] 42)).alloc (.cells #[] 5)) (a.map (fun x => x.add at1)) (t.take k) := hrow.below hb6
            have hk1 : (((w3.alloc (.cells #[.slice a B.length cap, .int .i64 (at1 : Int), .int .i64 0] 42)).alloc (.cells #[.slice a B.length cap, .int .i64 (at1 : Int), .int .i64 0] 42)).alloc (.cells #[] 5)).heap[w3.heap.size]? = some (.cells #[.slice a B.length cap, .int .i64 (at1 : Int), .int .i64 0] 42 (0, 0)) := by
              rw [Below.heap_alloc _ _ _ (by simp; omega), Below.heap_alloc _ _ _ (by simp)]; exact heap_alloc_new w3 _
            have hk2 : (((w3.alloc (.cells #[.slice a B.length cap, .int .i64 (at1 : Int), .int .i64 0] 42)).alloc (.cells #[.slice a B.length cap, .int .i64 (at1 : Int), .int .i64 0] 42)).alloc (.cells #[] 5)).heap[w.heap.size + 1]? = _ := (hb6.block _ (by omega)).trans k2
            have hkl : (t.take k).length = k := by simp <;> omega
            clear hrow k1 k2
            go_wp2_with (first | (go_at_call 28; go_in) | (at_builtin; refine wpList_append_row _ rfl _ _ rfl (w3.heap.size + 1 + 1) _ [] rfl hoe (a.map (fun x => x.add at1)) (cap - at1) (t.take k) (by rw [hkl]; first | rfl | (show Value.slice _ (at1 + k - at1) _ = _; rw [Nat.add_sub_cancel_left])) hrow6 hnn (by rw [hkl]; simp <;> omega) (by simp) ?_; intro v7 w7 hown7 hg7 hat7; have hg8 : (((w3.alloc (.cells #[.slice a B.length cap, .int .i64 (at1 : Int), .int .i64 0] 42)).alloc (.cells #[.slice a B.length cap, .int .i64 (at1 : Int), .int .i64 0] 42)).alloc (.cells #[] 5)).grownBy w7 (some (w3.heap.size + 1 + 1)) := hg7; have j1 : w7.heap[w3.heap.size]? = _ := (hg8.block _ (by simp; omega) (by simp; omega)).trans hk1; have j2 : w7.heap[w.heap.size + 1]? = _ := (hg8.block _ (by simp; omega) (by simp; omega)).trans hk2; obtain ⟨_, c1, _⟩ := three_cells j1; obtain ⟨_, z1, _⟩ := three_soft j1; have n1 := heap_setCell_same w7 w3.heap.size 1 _ _ (.int .i64 ((at1 : Int) + (k : Int))) j1; have n2 : (w7.setCell ⟨w3.heap.size, 1, none⟩ (.int .i64 ((at1 : Int) + (k : Int)))).heap[w.heap.size + 1]? = _ := (Below.heap_setCell _ _ _ _ (show w.heap.size + 1 ≠ w3.heap.size by omega)).trans j2; obtain ⟨r0, r1, r2⟩ := three_cells n1; obtain ⟨s0, s1, s2⟩ := three_cells n2; obtain ⟨y0, y1, y2⟩ := three_soft n2; have HN2 := hide_it n2; have HOWN := hide_it hown7; have HG8 := hide_it hg8; clear hown7 hg7 hg8 hat7 j1 j2 n1 n2))
            go_region
            all_goals go_wp2_with fail
            have g5 := set3 HN2.out (.slice a B.length cap) (.int .i64 ((at1 : Int) + (k : Int))) (.int .i64 0)
            obtain ⟨v0, v1, v2⟩ := three_cells g5
            have e5 : (at1 : Int) + (k : Int) = ((at1 + k : Nat) : Int) := by simp
            refine bodyPost_ret (v := .tuple #[v7, .agg #[.slice a B.length cap, .int .i64 ((at1 : Int) + (k : Int)), .int .i64 0]]) (by simp [results, Try.results46, go_sem, v0, v1, v2]) rfl ?_
            rw [hR.out]
            have bw6 := hbw.trans (hb6.mono hbw.size)
            have bw7 : Below w.heap.size w w7 := bw6.grown HG8.out bw6.size (fun j e => by cases e; omega)
            have b5 := (below3 (bw7.setCell (p := ⟨w3.heap.size, 1, none⟩) (by show w.heap.size ≤ w3.heap.size; omega) (.int .i64 ((at1 : Int) + (k : Int)))) (show w.heap.size ≤ w.heap.size + 1 by omega) (.slice a B.length cap) (.int .i64 ((at1 : Int) + (k : Int))) (.int .i64 0)).drew
            have ho := (((((HOWN.out.set_old (p := w3.heap.size) (by omega) 1 (.int .i64 ((at1 : Int) + (k : Int)))).set_old (p := w.heap.size + 1) (by omega) 0 (.slice a B.length cap)).set_old (p := w.heap.size + 1) (by omega) 1 (.int .i64 ((at1 : Int) + (k : Int)))).set_old (p := w.heap.size + 1) (by omega) 2 (.int .i64 0)).below (Below.refl _ _).drew)
            rw [List.nil_append] at ho
            obtain ⟨a7, c7, hv7, hr7, _, _, hn7⟩ := ho.row
            have hO := HI.out
            refine ⟨at1 + k, a7, c7, by rw [hv7, e5]; rfl, hr7, hn7, ⟨hH.out.row.below b5, hO.all, hO.size, hO.fits, hO.capm, hO.none, by omega, ?_, by show 0 ≤ 100; omega⟩, b5⟩
            show t.drop k = _
            have e9 : t = _ := hO.left
            rw [e9, List.drop_drop]
  · have hd : ((f : Int) == 0) = false := by simp; omega
    have hR : Hid (rdOf [] (takeCounted most) (bs, f) = ([], (bs, f))) := if_pos hf
    unfold refV
    clear h
    go_enter Try.func46, Try.ntmps46
    go_wp2_with fail
    go_region
    all_goals go_wp2_with fail
    refine bodyPost_ret (v := .tuple #[.slice none 0 0, .agg #[.slice a B.length cap, .int .i64 (at_ : Int), .int .i64 (f : Int)]]) (by simp [results, Try.results46, go_sem]) rfl ?_
    rw [hR.out]
    exact ⟨at_, none, 0, rfl, .inl rfl, fun _ => ⟨rfl, rfl⟩, hH.out.below (two_below _ _ _), two_below _ _ _⟩
end Go.Proofs.Ytfhinodieghklaa
