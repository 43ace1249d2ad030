/- The program's area, walked: New, Append, Sync, Cut, Trim. -/
import Derived.Test.YtdodnegdpdhbiaaAr2
namespace Go.Proofs.Ytdodnegdpdhbiaa
open Go.RowKit

section
variable {w w1 w2 : World} {p o : Nat} {v : Value} {B : Nat} {bs bs' : List Nat} {k k' B' : Nat}
theorem Moved.of_below (h : Ar w p o v B bs k) (hb : Below w.heap.size w w1) : Moved w p o v B bs k w1 :=
  ⟨⟨v, h.below hb, .inl rfl⟩, Chg.new hb, Rest.of_block (hb.block p h.plt)⟩
/-- A call behind what only reads. -/
theorem Moved.behind (h : Ar w p o v B bs k) (hb : Below w.heap.size w w1) (hm : Moved w1 p o v B' bs' k' w2) : Moved w p o v B' bs' k' w2 := by
  obtain ⟨⟨v', h1, h2⟩, h3, h4⟩ := hm
  refine ⟨⟨v', h1, ?_⟩, (Chg.new hb).trans h3 (fun _ _ h => h), (Rest.of_block (hb.block p h.plt)).trans h4⟩
  rcases h2 with h2 | h2
  · exact .inl h2
  · exact .inr fun j hj => Nat.le_trans hb.size (h2 j hj)
/-- .. ahead of what only reads, or draws. -/
theorem Moved.ahead (hm : Moved w p o v B bs k w1) (hb : Below w1.heap.size w1 w2) : Moved w p o v B bs k w2 := by
  obtain ⟨⟨v', h1, h2⟩, h3, h4⟩ := hm
  exact ⟨⟨v', h1.below hb, h2⟩, h3.trans (Chg.new (S := Ft p v) hb) (fun _ _ h => h), h4.trans (Rest.of_block (hb.block p h1.plt))⟩
theorem Moved.drew (hm : Moved w p o v B bs k w1) : Moved w p o v B bs k w1.drew := hm.ahead (Below.refl _ _).drew
/-- .. ahead of a write to one of the first two cells. -/
theorem Moved.put1 (hm : Moved w p o v B bs k w1) (k' : Nat) : Moved w p o v B bs k' (w1.setCell ⟨p, o + 1, none⟩ (.int .i64 (k' : Int))) := by
  obtain ⟨⟨v', h1, h2⟩, h3, h4⟩ := hm
  exact ⟨⟨v', h1.put1 k', h2⟩, h3.setCell _ _ (fun _ => .inl rfl), h4.trans (Rest.set _ _ _ _ _ (by omega))⟩
theorem Moved.put0 (hm : Moved w p o v B bs k w1) (B' : Nat) (hB : B' + bs.length ≤ 9223372036854775807) : Moved w p o v B' bs k (w1.setCell ⟨p, o, none⟩ (.int .i64 (B' : Int))) := by
  obtain ⟨⟨v', h1, h2⟩, h3, h4⟩ := hm
  exact ⟨⟨v', h1.put0 B' hB, h2⟩, h3.setCell _ _ (fun _ => .inl rfl), h4.trans (Rest.set _ _ _ _ _ (by omega))⟩
end

/-- A new area. -/
theorem ar_new (w : World) : Ar (w.alloc (.cells #[.int .i64 0, .int .i64 0, .slice none 0 0] 100)) w.heap.size 0 (.slice none 0 0) 0 [] 0 :=
  ⟨⟨_, _, heap_alloc_new w _, rfl, rfl, rfl⟩, OwB.nil _ _, (fun e => by cases e), (fun z hz => by cases hz), by simp, by simp⟩

set_option maxRecDepth 100000 in
set_option maxHeartbeats 400000 in
theorem new_any (w : World) : Calls Try.prog 38 #[] w fun e w' => e = .returned (.pointer (some ⟨w.heap.size, 0, none⟩)) ∧ w' = w.alloc (.cells #[.int .i64 0, .int .i64 0, .slice none 0 0] 100) := by
  go_enter Try.func38, Try.ntmps38
  go_wp2
  go_ret
  exact ⟨rfl, rfl⟩

/-- Behind an append to an area's bytes: what the store wants, and what it leaves. -/
theorem append_moved {w w1 : World} {p o : Nat} {v v1 : Value} {B : Nat} {bs zs : List Nat} {k : Nat} (h : Ar w p o v B bs k) (h8 : All8 zs) (hl : bs.length + zs.length ≤ 211106232532800) (hB : B + bs.length + zs.length ≤ 9223372036854775807)
    (hown1 : OwB w1 0 v1 (bs ++ zs)) (hg1 : w.grownBy w1 v.ownBlock) (hat1 : v1.ownBlock = v.ownBlock ∨ v1.ownBlock = some w.heap.size) :
    ∃ a3 c3, v1 = .slice a3 (bs.length + zs.length) c3 ∧ w1.frozen? ⟨p, o + 2, none⟩ = false ∧ w1.cell? ⟨p, o + 2, none⟩ = some v ∧ Moved w p o v B (bs ++ zs) k (w1.setCell ⟨p, o + 2, none⟩ v1) := by
  obtain ⟨c0, c1, c2, f0, f1, f2⟩ := h.cells
  have hplt := h.plt
  have hblk : w1.heap[p]? = w.heap[p]? := hg1.block p hplt (fun e => h.far e.symm)
  have hfar1 : v1.ownBlock ≠ some p := by
    rcases hat1 with e | e
    · rw [e]; exact h.far
    · rw [e]; intro e2; cases e2; omega
  have har : Ar (w1.setCell ⟨p, o + 2, none⟩ v1) p o v1 B (bs ++ zs) k := h.put2 hblk hown1 hfar1
    (fun z hz => by
      rcases List.mem_append.1 hz with h' | h'
      · exact h.all z h'
      · exact h8 z h') (by rw [List.length_append]; exact hl) (by rw [List.length_append]; omega)
  obtain ⟨a3, c3, e3, _⟩ := hown1.row
  rw [List.length_append] at e3
  refine ⟨a3, c3, e3, by rw [World.frozen?_of_block (a := ⟨p, o + 2, none⟩) hblk]; exact f2, by rw [World.cell?_of_block (a := ⟨p, o + 2, none⟩) hblk]; exact c2, ⟨v1, har, ?_⟩,
    (Chg.of_grown hg1 (fun j _ e => .inr e)).setCell _ _ (fun _ => .inl rfl), (Rest.of_block hblk).trans (Rest.set _ _ _ _ _ (by omega))⟩
  rcases hat1 with e | e
  · exact .inl e
  · exact .inr fun j hj => by rw [e] at hj; cases hj; exact Nat.le_refl _

set_option maxRecDepth 100000 in
set_option maxHeartbeats 400000 in
theorem append_any {p o : Nat} {v : Value} {B : Nat} {bs : List Nat} {k : Nat} (w : World) (h : Ar w p o v B bs k) (a : Option Addr) (cap : Nat) (zs : List Nat) (hr : RowB w a zs) (h8 : All8 zs) (hnil : a = none → zs.length = 0 ∧ cap = 0) (hl : bs.length + zs.length ≤ 211106232532800) (hB : B + bs.length + zs.length ≤ 9223372036854775807) :
    Calls Try.prog 11 #[.pointer (some ⟨p, o, none⟩), .slice a zs.length cap] w fun e w' => e = .returned (.int .i64 0) ∧ Moved w p o v B (bs ++ zs) k w' := by
  obtain ⟨c0, c1, c2, f0, f1, f2⟩ := h.cells
  obtain ⟨a1, cap1, hv, _⟩ := h.own.row
  have hown := h.own
  have hH := hide_it h
  have hBB := hide_it hB
  subst hv
  clear h hB
  go_enter Try.func11, Try.ntmps11
  go_wp2_with (at_builtin; refine wpList_appendB _ rfl _ _ rfl 0 _ bs rfl hown a cap zs rfl hr hnil hl (Nat.zero_le _) ?_; intro v1 w1 hown1 hg1 hat1; obtain ⟨a3, c3, e3, hf, hc, hmv⟩ := append_moved hH.out h8 hl hBB.out hown1 hg1 hat1; subst e3; clear hown1 hg1 hat1)
  go_ret
  exact ⟨rfl, hmv⟩

set_option maxRecDepth 100000 in
set_option maxHeartbeats 400000 in
theorem sync_any {p o : Nat} {v : Value} {B : Nat} {bs : List Nat} {k : Nat} (w : World) (h : Ar w p o v B bs k) :
    Calls Try.prog 40 #[.pointer (some ⟨p, o, none⟩)] w fun e w' => e = .returned (.int .i64 0) ∧ Moved w p o v B bs bs.length w' := by
  obtain ⟨c0, c1, c2, f0, f1, f2⟩ := h.cells
  have hmv := (Moved.of_below h (Below.refl _ _)).put1 bs.length
  obtain ⟨a1, cap1, rfl, _⟩ := h.own.row
  clear h
  go_enter Try.func40, Try.ntmps40
  go_wp2
  go_ret
  exact ⟨rfl, hmv⟩

set_option maxRecDepth 100000 in
set_option maxHeartbeats 400000 in
theorem cut_no {p o : Nat} {v : Value} {B : Nat} {bs : List Nat} {k : Nat} (w : World) (h : Ar w p o v B bs k) (E : Int) (hE : E < (B : Int) ∨ (B : Int) + (bs.length : Int) < E) :
    Calls Try.prog 70 #[.pointer (some ⟨p, o, none⟩), .int .i64 E] w fun e w' => e = .returned (.int .i64 70) ∧ Moved w p o v B bs k w' := by
  obtain ⟨c0, c1, c2, f0, f1, f2⟩ := h.cells
  have hH := hide_it h
  have hen := end_any w h
  have hE2 : E < (B : Int) ∨ ((B + bs.length : Nat) : Int) < E := by omega
  obtain ⟨F, hF⟩ : ∃ F : Int, F = ((B + bs.length : Nat) : Int) := ⟨_, rfl⟩
  rw [← hF] at hen hE2
  generalize (B : Int) = Bi at *
  clear h hE hF
  by_cases h1 : E < Bi
  · have hd : decide (E < Bi) = true := by simpa using h1
    clear hE2
    go_enter Try.func70, Try.ntmps70
    go_wp2_with fail
    go_ret
    exact ⟨rfl, Moved.of_below hH.out (Below.refl _ _)⟩
  · have h2 : F < E := by omega
    have hd : decide (E < Bi) = false := by simp; omega
    clear hE2
    go_enter Try.func70, Try.ntmps70
    go_wp2_with fail
    refine hen.mono ?_
    rintro e w1 ⟨rfl, hb1⟩
    have hmv := Moved.of_below hH.out hb1
    go_wp2_with fail
    go_ret
    exact ⟨rfl, hmv⟩

set_option maxRecDepth 100000 in
set_option maxHeartbeats 800000 in
theorem cut_ok {p o : Nat} {v : Value} {B : Nat} {bs : List Nat} {k : Nat} (w : World) (h : Ar w p o v B bs k) (m : Nat) (hm : m ≤ bs.length) (E : Int) (hE : E = (B : Int) + (m : Int)) :
    Calls Try.prog 70 #[.pointer (some ⟨p, o, none⟩), .int .i64 E] w fun e w' => e = .returned (.int .i64 0) ∧ Moved w p o v B (bs.take m) (min k m) w' := by
  obtain ⟨c0, c1, c2, f0, f1, f2⟩ := h.cells
  have hH := hide_it h
  have hen := end_any w h
  have hroom := h.room
  have hw : IntKind.i64.wrap (E - (B : Int)) = (m : Int) := by rw [IntKind.wrap_i64]; omega
  have h1 : ¬ E < (B : Int) := by omega
  have h2 : ¬ ((B + bs.length : Nat) : Int) < E := by omega
  obtain ⟨F, hF⟩ : ∃ F : Int, F = ((B + bs.length : Nat) : Int) := ⟨_, rfl⟩
  rw [← hF] at hen h2
  obtain ⟨Bi, hBi⟩ : ∃ Bi : Int, Bi = (B : Int) := ⟨_, rfl⟩
  rw [← hBi] at c0 h1 hw
  have hBi2 := hide_it hBi
  obtain ⟨r, hr⟩ : ∃ r, r = min k m := ⟨_, rfl⟩
  rw [← hr]
  have hr2 := hide_it hr
  clear h hE hF hroom hBi hr
  go_enter Try.func70, Try.ntmps70
  go_wp2_with fail
  refine hen.mono ?_
  rintro e w1 ⟨rfl, hb1⟩
  have hA1 := hH.out.below hb1
  have hlv := leave_any w1 hA1 0 m (Nat.zero_le _) hm
  obtain ⟨c0', c1', c2', f0', f1', f2'⟩ := hA1.cells
  rw [← hBi2.out] at c0'
  have hA1 := hide_it hA1
  have hb1 := hide_it hb1
  clear hen c0 c1 c2 f0 f1 f2
  go_wp2_with fail
  refine hlv.mono ?_
  rintro e w2 ⟨rfl, hmv⟩
  rw [List.drop_zero] at hmv
  have hm2 := hH.out |> fun h => Moved.behind h hb1.out hmv
  obtain ⟨v2, hA2, _⟩ := hmv.ex
  obtain ⟨d0, d1, d2, g0, g1, g2⟩ := hA2.cells
  obtain ⟨a2, cap2, rfl, _⟩ := hA2.own.row
  have hlen : (bs.take m).length = m := by simp; omega
  rw [hlen] at d2
  have hend := hm2.put1 r
  clear hmv hA2 c0' c1' c2' f0' f1' f2' hlen hm2 hlv
  by_cases hk : m < k
  · obtain rfl : r = m := by have := hr2.out; omega
    go_wp2_with fail
    go_region
    all_goals go_wp2_with fail
    all_goals go_ret
    all_goals exact ⟨rfl, hend.drew⟩
  · obtain rfl : r = k := by have := hr2.out; omega
    go_wp2_with fail
    go_region
    all_goals go_wp2_with fail
    all_goals go_ret
    all_goals exact ⟨rfl, hend.drew⟩

end Go.Proofs.Ytdodnegdpdhbiaa
