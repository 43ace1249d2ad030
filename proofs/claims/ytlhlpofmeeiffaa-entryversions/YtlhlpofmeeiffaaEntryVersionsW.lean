/- The law on versions, walked. -/
import Derived.Test.YtlhlpofmeeiffaaEg4
import Derived.Test.YtlhlpofmeeiffaaOpenVer
namespace Go.Proofs.Ytlhlpofmeeiffaa.entryVersions
open Go.RowKit

theorem BoxW.under {w w' : World} {B E : Nat} {x : Vn} {a : Option Addr} {c : Nat} (h : BoxW w E x a c) (hb : Below B w w') (hE : E < B) : BoxW w' E x a c := (hb.block E hE).trans h
theorem BoxW.lt {w : World} {E : Nat} {x : Vn} {a : Option Addr} {c : Nat} (h : BoxW w E x a c) : E < w.heap.size := (Array.getElem?_eq_some_iff.1 h).1

set_option maxRecDepth 100000 in
set_option maxHeartbeats 1000000 in
theorem walk (t : Ver) (w : World) (ht : VerOk w t) :
    Calls Try.prog 8 #[.agg #[.string t.key, .int .i64 t.stamp, .slice t.val.a t.val.p.length t.val.c, .bool t.dead]] w fun e w' => e = .returned (.bool true) ∧ Below w.heap.size w w' := by
  obtain ⟨key, stamp, ⟨a, c, val⟩, dead⟩ := t
  have hrow := ht.val.row
  have hsz : val.length ≤ 140737488355328 := by have := ht.val.size; simp only at this; omega
  have hnil := ht.val.none
  simp only at hrow hnil
  clear ht
  obtain ⟨x, hx⟩ : ∃ x : Vn, x = ⟨key, stamp, val, dead⟩ := ⟨_, rfl⟩
  obtain ⟨W1, hW1⟩ : ∃ W, W = w.alloc (.cells #[.string key, .int .i64 stamp, .slice a val.length c, .bool dead] 42) := ⟨_, rfl⟩
  have hb1 : Below w.heap.size w W1 := by rw [hW1]; exact (Below.refl _ _).alloc (Nat.le_refl _) _
  have hbx1 : BoxW W1 w.heap.size ⟨key, stamp, val, dead⟩ a c := by rw [hW1]; exact heap_alloc_new w _
  have ha := awake_any W1
  go_enter Try.func8, Try.ntmps8
  go_wp2_with fail
  rw [← hW1]
  clear hW1
  refine ha.mono ?_
  rintro e w1 ⟨rfl, hb2⟩
  have hbw1 := hb1.trans (hb2.mono hb1.size)
  have hbx2 := BoxW.under hbx1 hb2 (BoxW.lt hbx1)
  clear ha hb1 hb2 hbx1
  obtain ⟨c0, c1, c2, c3⟩ := hbx2.cells
  simp only at c0 c1 c2 c3
  have hov := ofVersion_any ⟨key, stamp, val, dead⟩ a c w1 (hrow.below hbw1) hsz hnil
  go_wp2_with fail
  refine hov.mono ?_
  rintro e w2 ⟨⟨a2, c2', rfl, ho2⟩, hb3⟩
  obtain ⟨_, _, hv2, hrow2, _, _, hn2⟩ := ho2.row
  cases hv2
  have hve := version_any (ofVersionE ⟨key, stamp, val, dead⟩) a2 c2' w2 hrow2 hsz hn2
  have e1 : versionV (ofVersionE ⟨key, stamp, val, dead⟩) = ⟨key, stamp, val, dead⟩ := rfl
  have e2 : isV (ofVersionE ⟨key, stamp, val, dead⟩) = true := rfl
  rw [e1, e2] at hve
  have hbw2 := hbw1.trans (hb3.mono hbw1.size)
  have hbx3 := BoxW.under hbx2 hb3 (BoxW.lt hbx2)
  clear hov ho2 hrow2 hn2 hb3 hbw1 hbx2 e1 e2 c0 c1 c2 c3
  go_wp2_with fail
  refine hve.mono ?_
  rintro e w3 ⟨⟨a3, c3', rfl, ho3⟩, hb4⟩
  have hbw3 := hbw2.trans (hb4.mono hbw2.size)
  have hbx4 := BoxW.under hbx3 hb4 (BoxW.lt hbx3)
  clear hve hb4 hbw2 hbx3
  obtain ⟨W4, hW4⟩ : ∃ W, W = w3.alloc (.cells #[.string key, .int .i64 stamp, .slice a3 val.length c3', .bool dead] 42) := ⟨_, rfl⟩
  have hb5 : Below w3.heap.size w3 W4 := by rw [hW4]; exact (Below.refl _ _).alloc (Nat.le_refl _) _
  have hby4 : BoxW W4 w3.heap.size ⟨key, stamp, val, dead⟩ a3 c3' := by rw [hW4]; exact heap_alloc_new w3 _
  have hbx5 := BoxW.under hbx4 hb5 (BoxW.lt hbx4)
  have hlt5 := BoxW.lt hbx4
  have hbw5 := hbw3.trans (hb5.mono hbw3.size)
  obtain ⟨_, _, hv3, hrow3, _, _, hn3⟩ := (ho3.below hb5).row
  cases hv3
  obtain ⟨c0, c1, c2, c3⟩ := hbx4.cells
  simp only at c0 c1 c2 c3
  have how := ofWrite_any ⟨key, stamp, val, dead⟩ a c W4 (hrow.below hbw5) hsz hnil
  have HROW3 := hide_it hrow3
  clear ho3 hb5 hbw3 hbx4 hrow3
  go_wp2_with fail
  rw [← hW4]
  clear hW4
  refine how.mono ?_
  rintro e w4 ⟨⟨a4, c4', rfl, ho4⟩, hb6⟩
  obtain ⟨y, hy⟩ : ∃ y, y = ofWriteE ⟨key, stamp, val, dead⟩ := ⟨_, rfl⟩
  rw [← hy] at ho4 ⊢
  have hyl : y.val.length ≤ 140737488355328 := by rw [hy]; unfold ofWriteE; split; simp; exact hsz
  obtain ⟨_, _, hv4, hrow4, _, _, hn4⟩ := ho4.row
  cases hv4
  have hve := version_any y a4 c4' w4 hrow4 hyl hn4
  have e1 : versionV y = ⟨key, 0, if dead then [] else val, dead⟩ := by rw [hy]; cases dead <;> rfl
  have e2 : isV y = true := by rw [hy]; cases dead <;> rfl
  rw [e1, e2] at hve
  have hbx6 := BoxW.under hbx5 hb6 (BoxW.lt hbx5)
  have hby6 := BoxW.under hby4 hb6 (BoxW.lt hby4)
  have hbw6 := hbw5.trans (hb6.mono hbw5.size)
  have HROW4 := hide_it (HROW3.out.below hb6)
  obtain ⟨yk, ys, yc, yy, yv, yd⟩ := y
  clear how hy ho4 hrow4 hn4 hyl e1 e2 hb6 hbx5 hby4 hbw5 HROW3 c0 c1 c2 c3 hlt5
  go_wp2_with fail
  refine hve.mono ?_
  rintro e w5 ⟨⟨a5, c5', rfl, ho5⟩, hb7⟩
  have hbx7 := BoxW.under hbx6 hb7 (BoxW.lt hbx6)
  have hby7 := BoxW.under hby6 hb7 (BoxW.lt hby6)
  have hbw7 := hbw6.trans (hb7.mono hbw6.size)
  have HROW5 := hide_it (HROW4.out.below hb7)
  clear hve hb7 hbx6 hby6 hbw6 HROW4 hx
  cases dead
  · obtain ⟨W9, hW9⟩ : ∃ W, W = (w5.alloc (.cells #[.string key, .int .i64 0, .slice a5 val.length c5', .bool false] 42)).alloc (.cells #[.string key, .int .i64 0, .slice a val.length c, .bool false] 42) := ⟨_, rfl⟩
    have ho5' : OwnB w5 w4.heap.size (.slice a5 val.length c5') val := ho5
    clear ho5
    have hb8 : Below w5.heap.size w5 W9 := by rw [hW9]; exact ((Below.refl _ _).alloc (Nat.le_refl _) _).alloc (by simp) _
    have hbz : BoxW W9 w5.heap.size ⟨key, 0, val, false⟩ a5 c5' := by rw [hW9]; exact (Below.heap_alloc _ _ _ (by simp)).trans (heap_alloc_new w5 _)
    have hbu : BoxW W9 (w5.heap.size + 1) ⟨key, 0, val, false⟩ a c := by
      rw [hW9]
      have e := heap_alloc_new (w5.alloc (.cells #[.string key, .int .i64 0, .slice a5 val.length c5', .bool false] 42)) (.cells #[.string key, .int .i64 0, .slice a val.length c, .bool false] 42)
      rw [World.size_alloc] at e
      exact e
    have hbw9 := hbw7.trans (hb8.mono hbw7.size)
    obtain ⟨_, _, hv5, hrow5, _, _, hn5⟩ := (ho5'.below hb8).row
    cases hv5
    have hs1 := sameV_eq ⟨key, stamp, val, false⟩ a3 a c3' c W9 (HROW5.out.below hb8) (hrow.below hbw9) hn3 hnil
    obtain ⟨c0, c1, c2, c3⟩ := hbx7.cells
    obtain ⟨d0, d1, d2, d3⟩ := hby7.cells
    simp only at c0 c1 c2 c3 d0 d1 d2 d3
    have hlx := BoxW.lt hbx7
    have hly := BoxW.lt hby7
    have hlx' : w.heap.size < w5.heap.size + 1 := by omega
    have hly' : w3.heap.size < w5.heap.size + 1 := by omega
    have HBZ := hide_it hbz
    have HBU := hide_it hbu
    have HROW9 := hide_it hrow5
    have HBW9 := hide_it hbw9
    clear hrow5 hbw9 hbw7 hb8 hbz hbu hbx7 hby7 ho5' HROW5
    go_wp2_with fail
    rw [← hW9]
    clear hW9 c0 c1 c2 c3 d0 d1 d2 d3 hlx hly hlx' hly'
    refine hs1.mono ?_
    rintro e w6 ⟨rfl, hb10⟩
    have hbw10 := HBW9.out.trans (hb10.mono HBW9.out.size)
    have HROWZ := hide_it (HROW9.out.below hb10)
    obtain ⟨c0, c1, c2, c3⟩ := (BoxW.under HBZ.out hb10 (BoxW.lt HBZ.out)).cells
    obtain ⟨d0, d1, d2, d3⟩ := (BoxW.under HBU.out hb10 (BoxW.lt HBU.out)).cells
    simp only at c0 c1 c2 c3 d0 d1 d2 d3
    have hs2 := sameV_eq ⟨key, 0, val, false⟩ a5 a c5' c w6 (HROWZ.out) (hrow.below hbw10) hn5 hnil
    clear hs1 hb10 HBZ HBU HROW9 HBW9
    go_wp2_with fail
    refine hs2.mono ?_
    rintro e w7 ⟨rfl, hb11⟩
    have hbw11 := hbw10.trans (hb11.mono hbw10.size)
    clear hs2 hb11 hbw10 c0 c1 c2 c3 d0 d1 d2 d3
    go_wp2_with fail
    go_ret
    exact ⟨rfl, hbw11⟩
  · obtain ⟨W9, hW9⟩ : ∃ W, W = (w5.alloc (.cells #[.string key, .int .i64 0, .slice a5 0 c5', .bool true] 42)).alloc (.cells #[.string key, .int .i64 0, .slice none 0 0, .bool true] 42) := ⟨_, rfl⟩
    have ho5' : OwnB w5 w4.heap.size (.slice a5 0 c5') [] := ho5
    clear ho5
    have hb8 : Below w5.heap.size w5 W9 := by rw [hW9]; exact ((Below.refl _ _).alloc (Nat.le_refl _) _).alloc (by simp) _
    have hbz : BoxW W9 w5.heap.size ⟨key, 0, [], true⟩ a5 c5' := by rw [hW9]; exact (Below.heap_alloc _ _ _ (by simp)).trans (heap_alloc_new w5 _)
    have hbu : BoxW W9 (w5.heap.size + 1) ⟨key, 0, [], true⟩ none 0 := by
      rw [hW9]
      have e := heap_alloc_new (w5.alloc (.cells #[.string key, .int .i64 0, .slice a5 0 c5', .bool true] 42)) (.cells #[.string key, .int .i64 0, .slice none 0 0, .bool true] 42)
      rw [World.size_alloc] at e
      exact e
    have hbw9 := hbw7.trans (hb8.mono hbw7.size)
    obtain ⟨_, _, hv5, hrow5, _, _, hn5⟩ := (ho5'.below hb8).row
    cases hv5
    have hs1 := sameV_eq ⟨key, stamp, val, true⟩ a3 a c3' c W9 (HROW5.out.below hb8) (hrow.below hbw9) hn3 hnil
    obtain ⟨c0, c1, c2, c3⟩ := hbx7.cells
    obtain ⟨d0, d1, d2, d3⟩ := hby7.cells
    simp only at c0 c1 c2 c3 d0 d1 d2 d3
    have hlx := BoxW.lt hbx7
    have hly := BoxW.lt hby7
    have hlx' : w.heap.size < w5.heap.size + 1 := by omega
    have hly' : w3.heap.size < w5.heap.size + 1 := by omega
    have HBZ := hide_it hbz
    have HBU := hide_it hbu
    have HROW9 := hide_it hrow5
    have HBW9 := hide_it hbw9
    clear hrow5 hbw9 hbw7 hb8 hbz hbu hbx7 hby7 ho5' HROW5
    go_wp2_with fail
    rw [← hW9]
    clear hW9 c0 c1 c2 c3 d0 d1 d2 d3 hlx hly hlx' hly'
    refine hs1.mono ?_
    rintro e w6 ⟨rfl, hb10⟩
    have hbw10 := HBW9.out.trans (hb10.mono HBW9.out.size)
    have HROWZ := hide_it (HROW9.out.below hb10)
    obtain ⟨c0, c1, c2, c3⟩ := (BoxW.under HBZ.out hb10 (BoxW.lt HBZ.out)).cells
    obtain ⟨d0, d1, d2, d3⟩ := (BoxW.under HBU.out hb10 (BoxW.lt HBU.out)).cells
    simp only at c0 c1 c2 c3 d0 d1 d2 d3
    have hs2 := sameV_eq ⟨key, 0, [], true⟩ a5 none c5' 0 w6 (.inl rfl) (.inl rfl) hn5 (fun _ => ⟨rfl, rfl⟩)
    clear hs1 hb10 HBZ HBU HROW9 HBW9
    go_wp2_with fail
    refine hs2.mono ?_
    rintro e w7 ⟨rfl, hb11⟩
    have hbw11 := hbw10.trans (hb11.mono hbw10.size)
    clear hs2 hb11 hbw10 c0 c1 c2 c3 d0 d1 d2 d3
    go_wp2_with fail
    go_ret
    exact ⟨rfl, hbw11⟩
end Go.Proofs.Ytlhlpofmeeiffaa.entryVersions
