/- WalOpens, walked. -/
import Derived.Test.YtkacfpmninmjkaaGreatWo1
namespace Go.Proofs.YtkacfpmninmjkaaGreat
open Go.RowKit

theorem box_belowU {w w1 : World} (x : Ste) (hb : Below (callV w x).heap.size (callV w x) w1) : BoxU w1 (w.heap.size + 1) ∧ BoxU w1 (w.heap.size + 1 + 1) := by
  obtain ⟨h1, h2⟩ := callV_box w x
  have hz := callV_size w x
  exact ⟨(hb.block _ (by omega)).trans h1, (hb.block _ (by omega)).trans h2⟩
theorem call_past {w w1 w' : World} (x : Ste) (hb : Below (callV w x).heap.size (callV w x) w1) (hc : Chg (fun b => b = w.heap.size + 1 ∨ b = w.heap.size + 1 + 1) w1 w') : Below w.heap.size w w' := by
  have h0 := callV_below w x
  have h1 := h0.trans (hb.mono h0.size)
  exact h1.trans (hc.below (fun k hk => by omega) h1.size)
/-- What a call of a log that is not there answers. -/
def oneK (k : Int) : Int := if k ≤ 4 then 1 else 0
theorem AnsW.zero (w : World) (E : Int) : AnsW w (.agg #[.int .i64 E, .int .i64 0, .int .i64 0, .int .i64 0, .slice none 0 0, .slice none 0 0]) E 0 0 0 [] [] :=
  ⟨none, 0, none, 0, rfl, ⟨.inl rfl, fun x hx => by cases hx⟩, .inl rfl⟩
theorem call_gone (pv : Value) (x : Ste) (w : World) (h0 : 0 ≤ x.k) (h6 : x.k ≤ 6) :
    Calls Tryz.prog 15 #[pv, .pointer none, valS x] w fun e w' => (∃ v, e = .returned v ∧ AnsW w' v (oneK x.k) 0 0 0 [] []) ∧ Below w.heap.size w w' := by
  have hk : x.k = 0 ∨ x.k = 1 ∨ x.k = 2 ∨ x.k = 3 ∨ x.k = 4 ∨ x.k = 5 ∨ x.k = 6 := by omega
  have KB : ∀ w1, Below (callV w x).heap.size (callV w x) w1 → BoxU w1 (w.heap.size + 1) ∧ BoxU w1 (w.heap.size + 1 + 1) := fun w1 h => box_belowU x h
  have fin : ∀ {E : Int} {e : Ending} {w' : World}, oneK x.k = E → (e = .returned (.agg #[.int .i64 E, .int .i64 0, .int .i64 0, .int .i64 0, .slice none 0 0, .slice none 0 0]) ∧ ∃ w1, Below (callV w x).heap.size (callV w x) w1 ∧ Chg (fun b => b = w.heap.size + 1 ∨ b = w.heap.size + 1 + 1) w1 w') → (∃ v, e = .returned v ∧ AnsW w' v (oneK x.k) 0 0 0 [] []) ∧ Below w.heap.size w w' := fun {E e w'} hE ⟨he, w1, hb, hc⟩ => ⟨⟨_, he, by rw [hE]; exact AnsW.zero _ _⟩, call_past x hb hc⟩
  rcases hk with hk | hk | hk | hk | hk | hk | hk
  · exact (wcall_write pv _ x hk w _ 1 KB ((write_nil _ _).mono fun e w1 ⟨h1, h2⟩ => ⟨h1, by rw [h2]; exact Below.refl _ _⟩)).mono fun e w' h => fin (by rw [hk]; rfl) h
  · exact (wcall_group pv _ x hk w _ 1 KB ((group_nil _ _).mono fun e w1 ⟨h1, h2⟩ => ⟨h1, by rw [h2]; exact Below.refl _ _⟩)).mono fun e w' h => fin (by rw [hk]; rfl) h
  · exact (wcall_sync pv _ x hk w _ 1 KB ((lsync_nil _).mono fun e w1 ⟨h1, h2⟩ => ⟨h1, by rw [h2]; exact Below.refl _ _⟩)).mono fun e w' h => fin (by rw [hk]; rfl) h
  · exact (wcall_cut pv _ x hk w _ 1 KB ((lcut_nil _ _).mono fun e w1 ⟨h1, h2⟩ => ⟨h1, by rw [h2]; exact Below.refl _ _⟩)).mono fun e w' h => fin (by rw [hk]; rfl) h
  · exact (wcall_trim pv _ x hk w _ 1 KB ((ltrim_nil _ _).mono fun e w1 ⟨h1, h2⟩ => ⟨h1, by rw [h2]; exact Below.refl _ _⟩)).mono fun e w' h => fin (by rw [hk]; rfl) h
  · refine (wcall_entries pv _ x hk w _ (fun _ ln _ _ nn _ _ => ln = 0 ∧ nn = 0) KB ((entries_nil _).mono fun e w1 h => ?_)).mono fun e w' h => ?_
    · obtain ⟨ve, vn, ts, ns, he, hd, hn, h1, h2⟩ := h.ex
      have ht0 : ts = [] := by have := congrArg List.length h1; simpa [lgF_nil] using this
      have hn0 : ns = [] := by rw [h2, lgF_nil]; rfl
      subst ht0 hn0
      obtain ⟨ea, ec, rfl, _⟩ := (OwnS.of_row hd.list).open
      obtain ⟨na, nc, rfl, _⟩ := hn.row
      exact ⟨ea, _, ec, na, _, nc, he, ⟨rfl, rfl⟩, h.bel⟩
    · obtain ⟨la, ln, lc, na, nn, nc, he, w1, ⟨rfl, rfl⟩, hb, hc⟩ := h
      exact ⟨⟨_, he, by rw [hk]; exact ⟨la, lc, na, nc, rfl, ⟨.inl rfl, fun x hx => by cases hx⟩, .inl rfl⟩⟩, call_past x hb hc⟩
  · exact (wcall_bounds pv _ x hk w _ 0 0 0 KB ((lbounds_nil _).mono fun e w1 ⟨h1, h2⟩ => ⟨h1, by rw [h2]; exact Below.refl _ _⟩)).mono fun e w' h => fin (by rw [hk]; rfl) h
theorem and15 (x : Int) : ∃ m : Nat, m ≤ 15 ∧ bits BinOp.and IntKind.i64 x 15 = (m : Int) := by
  have h : (BitVec.ofInt 64 x &&& BitVec.ofInt 64 15).toNat ≤ 15 := by
    rw [BitVec.toNat_and]
    exact Nat.le_trans Nat.and_le_right (by decide)
  refine ⟨_, h, ?_⟩
  show IntKind.i64.wrap (((BitVec.ofInt 64 x &&& BitVec.ofInt 64 15).toNat : Nat) : Int) = _
  rw [IntKind.wrap_i64]
  omega

end Go.Proofs.YtkacfpmninmjkaaGreat

namespace Go.Proofs.YtkacfpmninmjkaaGreat.walOpens
open Go.RowKit

set_option maxRecDepth 100000 in
set_option maxHeartbeats 4000000 in
theorem walk (x0 : Int) (_b0 : -9223372036854775808 ≤ x0 ∧ x0 ≤ 9223372036854775807) (x1 : Int) (b1 : -9223372036854775808 ≤ x1 ∧ x1 ≤ 9223372036854775807) (a2 : Option Addr) (n2 c2 : Nat) (A2 : Nat → Ste) (w : World) (s2 : CameSte w a2 n2 A2) :
    Calls Tryz.prog 4 #[.int .i64 x0, .int .i64 x1, .slice a2 n2 c2] w fun e w' => e = .returned (.bool true) ∧ Below w.heap.size w w' := by
  have hon := open_no (.pointer none) 1 (by omega) x1 w (part_nil x1 w)
  have HC := hide_it s2
  have hn2 := s2.size
  clear s2
  go_enter Tryz.func4, Tryz.ntmps4
  go_wp2_with fail
  refine hon.mono ?_
  rintro e w1 ⟨rfl, hq⟩
  have hq2 := hq.symm
  subst hq2
  clear hq hon
  have hfx := walFixed_any w
  go_wp2_with fail
  refine hfx.mono ?_
  rintro e w2 ⟨rfl, hb2⟩
  clear hfx
  obtain ⟨m0, hm0, e0⟩ := and15 x0
  obtain ⟨N, hN⟩ : ∃ N, N = 1 + m0 := ⟨_, rfl⟩
  have hw0 : IntKind.i64.wrap (1 + (m0 : Int)) = (N : Int) := by rw [hN]; simp only [IntKind.wrap, IntKind.bits, IntKind.signed]; simp; omega
  have hN1 : 1 ≤ N ∧ N ≤ 16 := by omega
  replace hN := hide_it hN
  have hnew := newD_any (N : Int) w2
  go_wp2_with fail
  refine hnew.mono ?_
  rintro e w3 (⟨n, hn, h1, hM⟩ | ⟨hno, _, _⟩)
  · obtain rfl : N = n := by omega
    obtain ⟨p, hep, hdp⟩ := hM.ex
    subst hep
    have hbw3 := hb2.trans (hM.bel.mono hb2.size)
    clear hnew hM hn h1 e0 hw0
    by_cases hin : 0 ≤ x1 ∧ x1 < (N : Int)
    · obtain ⟨i, rfl⟩ : ∃ i : Nat, x1 = (i : Int) := ⟨x1.toNat, by omega⟩
      have hi : i < N := by omega
      have hop := open_log hdp hi
      go_wp2_with fail
      refine hop.mono ?_
      rintro e w4 ⟨L, rfl, hL4, hlg, hb4⟩
      have hdn := done_ok (hdp.below hb4) i hi
      have hd1 : decide ((i : Int) < 0) = false := by simp
      have hd2 : decide ((N : Int) ≤ (i : Int)) = false := by simp; omega
      have hbw4 := hbw3.trans (hb4.mono hbw3.size)
      clear hop hdp
      go_wp2_with fail
      refine hdn.mono ?_
      rintro e w5 ⟨rfl, hq⟩
      have hq2 := hq.symm
      subst hq2
      clear hq hdn
      go_wp2_with fail
      go_loopw [76] (fun iv wr => ∃ k : Nat, k ≤ n2 ∧ iv = .int .i64 (k : Int) ∧ Below w.heap.size w wr) (fun iv _ => n2 - (intOf iv).toNat)
      case atStart => exact ⟨0, Nat.zero_le _, rfl, hbw4⟩
      case round =>
        obtain ⟨k, hk, rfl, hbw⟩ := hrel
        by_cases hlt : k < n2
        · have hd : decide ((k : Int) < (n2 : Int)) = true := by simp; omega
          obtain ⟨b, o, rfl, hbl, c0, c1, c2, c3, c4, c5⟩ := HC.out.row.here hlt
          generalize A2 k = x at *
          have d0 := (hbw.cell (p := ⟨b, o + k * 6, none⟩) hbl).trans c0
          have d1 := (hbw.cell (p := ⟨b, o + k * 6 + 1, none⟩) hbl).trans c1
          have d2 := (hbw.cell (p := ⟨b, o + k * 6 + 2, none⟩) hbl).trans c2
          have d3 := (hbw.cell (p := ⟨b, o + k * 6 + 3, none⟩) hbl).trans c3
          have d4 := (hbw.cell (p := ⟨b, o + k * 6 + 4, none⟩) hbl).trans c4
          have d5 := (hbw.cell (p := ⟨b, o + k * 6 + 5, none⟩) hbl).trans c5
          have hs := hbw.size
          clear c0 c1 c2 c3 c4 c5
          obtain ⟨W1, hW1⟩ : ∃ W, W = wr.alloc (.cells #[.int .i64 x.k, .int .i64 x.i, .int .i64 x.a, .slice x.esa x.esn x.esc, .slice x.p.a x.p.p.length x.p.c, .slice x.fa x.fn x.fc] 42) := ⟨_, rfl⟩
          have hb1 : Below wr.heap.size wr W1 := by rw [hW1]; exact (Below.refl _ _).alloc (Nat.le_refl _) _
          have g1 : W1.heap[wr.heap.size]? = some (.cells #[.int .i64 x.k, .int .i64 x.i, .int .i64 x.a, .slice x.esa x.esn x.esc, .slice x.p.a x.p.p.length x.p.c, .slice x.fa x.fn x.fc] 42 (0, 0)) := by rw [hW1]; exact heap_alloc_new wr _
          have hbW1 := hbw.trans (hb1.mono hs)
          have f0 : W1.cell? ⟨wr.heap.size, 0, none⟩ = some (.int .i64 x.k) := cell_of_row _ _ _ _ _ _ g1
          have hz1 : W1.heap.size = wr.heap.size + 1 := by rw [hW1]; simp
          by_cases hkb : x.k < 0 ∨ 6 < x.k
          · rcases hkb with hkb | hkb
            · have hd3 : decide (x.k < 0) = true := by simpa using hkb
              go_wp2_with fail
              rw [← hW1]
              clear hW1 d0 d1 d2 d3 d4 d5
              go_wp2_with fail
              go_roundw
              case rel => exact ⟨k + 1, by omega, by go_num, hbW1⟩
              case measure => simp [intOf]; omega
            · have hd3 : decide (x.k < 0) = false := by simp; omega
              have hd4 : decide (6 < x.k) = true := by simpa using hkb
              go_wp2_with fail
              rw [← hW1]
              clear hW1 d0 d1 d2 d3 d4 d5
              go_wp2_with fail
              go_roundw
              case rel => exact ⟨k + 1, by omega, by go_num, hbW1⟩
              case measure => simp [intOf]; omega
          · have hd3 : decide (x.k < 0) = false := by simp; omega
            have hd4 : decide (6 < x.k) = false := by simp; omega
            have hcg := fun w => call_gone (.pointer (some ⟨p, 0, none⟩)) x w (by omega) (by omega)
            by_cases h4 : x.k ≤ 4
            · have hone : oneK x.k = 1 := if_pos h4
              have hd5 : decide (x.k ≤ 4) = true := by simpa using h4
              rw [hone] at hcg
              obtain ⟨W2, hW2⟩ : ∃ W, W = W1.alloc (.cells #[.int .i64 1, .int .i64 0, .int .i64 0, .int .i64 0, .slice none 0 0, .slice none 0 0] 46) := ⟨_, rfl⟩
              have hb2 : Below W1.heap.size W1 W2 := by rw [hW2]; exact (Below.refl _ _).alloc (Nat.le_refl _) _
              have g2 : W2.heap[wr.heap.size + 1]? = some (.cells #[.int .i64 1, .int .i64 0, .int .i64 0, .int .i64 0, .slice none 0 0, .slice none 0 0] 46 (0, 0)) := by
                rw [hW2, ← hz1]; exact heap_alloc_new W1 _
              have p1 := (hb2.block wr.heap.size (by omega)).trans g1
              have hz2 : wr.heap.size + 1 < W2.heap.size := (Array.getElem?_eq_some_iff.1 g2).1
              have hz3 : wr.heap.size < W2.heap.size := (Array.getElem?_eq_some_iff.1 p1).1
              have hbW2 := hbW1.trans (hb2.mono hbW1.size)
              go_wp2_with fail
              rw [← hW1]
              clear hW1 d0 d1 d2 d3 d4 d5
              go_wp2_with fail
              rw [← hW2]
              clear hW2
              refine wp_calm ?_
              refine wp_region_held_drew (S := (fun w' => Below W2.heap.size W2 w')) (by kernel_rfl) ?_ (fun hHeld => ?_)
              · exact (Below.refl _ _).drew
              refine take_on (i := 0) (v := ?_) rfl rfl (by kernel_rfl) (by kernel_rfl) (by kernel_rfl) (fun _ _ _ h => h) rfl ?_ hHeld ?_
              rotate_left
              · (intro wq hSq; have q0 : wq.cell? ⟨wr.heap.size, 0, none⟩ = _ := cell_of_row _ _ _ _ _ _ ((hSq.block wr.heap.size hz3).trans p1); have q1 : wq.cell? ⟨wr.heap.size, 1, none⟩ = _ := cell_of_row _ _ _ _ _ _ ((hSq.block wr.heap.size hz3).trans p1); have q2 : wq.cell? ⟨wr.heap.size, 2, none⟩ = _ := cell_of_row _ _ _ _ _ _ ((hSq.block wr.heap.size hz3).trans p1); have q3 : wq.cell? ⟨wr.heap.size, 3, none⟩ = _ := cell_of_row _ _ _ _ _ _ ((hSq.block wr.heap.size hz3).trans p1); have q4 : wq.cell? ⟨wr.heap.size, 4, none⟩ = _ := cell_of_row _ _ _ _ _ _ ((hSq.block wr.heap.size hz3).trans p1); have q5 : wq.cell? ⟨wr.heap.size, 5, none⟩ = _ := cell_of_row _ _ _ _ _ _ ((hSq.block wr.heap.size hz3).trans p1); have r0 : wq.cell? ⟨wr.heap.size + 1, 0, none⟩ = _ := cell_of_row _ _ _ _ _ _ ((hSq.block (wr.heap.size + 1) hz2).trans g2); have r1 : wq.cell? ⟨wr.heap.size + 1, 1, none⟩ = _ := cell_of_row _ _ _ _ _ _ ((hSq.block (wr.heap.size + 1) hz2).trans g2); have r2 : wq.cell? ⟨wr.heap.size + 1, 2, none⟩ = _ := cell_of_row _ _ _ _ _ _ ((hSq.block (wr.heap.size + 1) hz2).trans g2); have r3 : wq.cell? ⟨wr.heap.size + 1, 3, none⟩ = _ := cell_of_row _ _ _ _ _ _ ((hSq.block (wr.heap.size + 1) hz2).trans g2); have r4 : wq.cell? ⟨wr.heap.size + 1, 4, none⟩ = _ := cell_of_row _ _ _ _ _ _ ((hSq.block (wr.heap.size + 1) hz2).trans g2); have r5 : wq.cell? ⟨wr.heap.size + 1, 5, none⟩ = _ := cell_of_row _ _ _ _ _ _ ((hSq.block (wr.heap.size + 1) hz2).trans g2); go_simp <;> first | with_reducible rfl | rfl)
              simp only [Act.put, List.setIfInBounds_toArray, List.set_cons_zero, List.set_cons_succ]
              refine take_on (i := 1) (v := ?_) rfl rfl (by kernel_rfl) (by kernel_rfl) (by kernel_rfl) (fun _ _ _ h => h) rfl ?_ hHeld ?_
              rotate_left
              · (intro wq hSq; have q0 : wq.cell? ⟨wr.heap.size, 0, none⟩ = _ := cell_of_row _ _ _ _ _ _ ((hSq.block wr.heap.size hz3).trans p1); have q1 : wq.cell? ⟨wr.heap.size, 1, none⟩ = _ := cell_of_row _ _ _ _ _ _ ((hSq.block wr.heap.size hz3).trans p1); have q2 : wq.cell? ⟨wr.heap.size, 2, none⟩ = _ := cell_of_row _ _ _ _ _ _ ((hSq.block wr.heap.size hz3).trans p1); have q3 : wq.cell? ⟨wr.heap.size, 3, none⟩ = _ := cell_of_row _ _ _ _ _ _ ((hSq.block wr.heap.size hz3).trans p1); have q4 : wq.cell? ⟨wr.heap.size, 4, none⟩ = _ := cell_of_row _ _ _ _ _ _ ((hSq.block wr.heap.size hz3).trans p1); have q5 : wq.cell? ⟨wr.heap.size, 5, none⟩ = _ := cell_of_row _ _ _ _ _ _ ((hSq.block wr.heap.size hz3).trans p1); have r0 : wq.cell? ⟨wr.heap.size + 1, 0, none⟩ = _ := cell_of_row _ _ _ _ _ _ ((hSq.block (wr.heap.size + 1) hz2).trans g2); have r1 : wq.cell? ⟨wr.heap.size + 1, 1, none⟩ = _ := cell_of_row _ _ _ _ _ _ ((hSq.block (wr.heap.size + 1) hz2).trans g2); have r2 : wq.cell? ⟨wr.heap.size + 1, 2, none⟩ = _ := cell_of_row _ _ _ _ _ _ ((hSq.block (wr.heap.size + 1) hz2).trans g2); have r3 : wq.cell? ⟨wr.heap.size + 1, 3, none⟩ = _ := cell_of_row _ _ _ _ _ _ ((hSq.block (wr.heap.size + 1) hz2).trans g2); have r4 : wq.cell? ⟨wr.heap.size + 1, 4, none⟩ = _ := cell_of_row _ _ _ _ _ _ ((hSq.block (wr.heap.size + 1) hz2).trans g2); have r5 : wq.cell? ⟨wr.heap.size + 1, 5, none⟩ = _ := cell_of_row _ _ _ _ _ _ ((hSq.block (wr.heap.size + 1) hz2).trans g2); go_simp <;> first | with_reducible rfl | rfl)
              simp only [Act.put, List.setIfInBounds_toArray, List.set_cons_zero, List.set_cons_succ]
              refine take_on (i := 2) (v := ?_) rfl rfl (by kernel_rfl) (by kernel_rfl) (by kernel_rfl) (fun _ _ _ h => h) rfl ?_ hHeld ?_
              rotate_left
              · (intro wq hSq; have q0 : wq.cell? ⟨wr.heap.size, 0, none⟩ = _ := cell_of_row _ _ _ _ _ _ ((hSq.block wr.heap.size hz3).trans p1); have q1 : wq.cell? ⟨wr.heap.size, 1, none⟩ = _ := cell_of_row _ _ _ _ _ _ ((hSq.block wr.heap.size hz3).trans p1); have q2 : wq.cell? ⟨wr.heap.size, 2, none⟩ = _ := cell_of_row _ _ _ _ _ _ ((hSq.block wr.heap.size hz3).trans p1); have q3 : wq.cell? ⟨wr.heap.size, 3, none⟩ = _ := cell_of_row _ _ _ _ _ _ ((hSq.block wr.heap.size hz3).trans p1); have q4 : wq.cell? ⟨wr.heap.size, 4, none⟩ = _ := cell_of_row _ _ _ _ _ _ ((hSq.block wr.heap.size hz3).trans p1); have q5 : wq.cell? ⟨wr.heap.size, 5, none⟩ = _ := cell_of_row _ _ _ _ _ _ ((hSq.block wr.heap.size hz3).trans p1); have r0 : wq.cell? ⟨wr.heap.size + 1, 0, none⟩ = _ := cell_of_row _ _ _ _ _ _ ((hSq.block (wr.heap.size + 1) hz2).trans g2); have r1 : wq.cell? ⟨wr.heap.size + 1, 1, none⟩ = _ := cell_of_row _ _ _ _ _ _ ((hSq.block (wr.heap.size + 1) hz2).trans g2); have r2 : wq.cell? ⟨wr.heap.size + 1, 2, none⟩ = _ := cell_of_row _ _ _ _ _ _ ((hSq.block (wr.heap.size + 1) hz2).trans g2); have r3 : wq.cell? ⟨wr.heap.size + 1, 3, none⟩ = _ := cell_of_row _ _ _ _ _ _ ((hSq.block (wr.heap.size + 1) hz2).trans g2); have r4 : wq.cell? ⟨wr.heap.size + 1, 4, none⟩ = _ := cell_of_row _ _ _ _ _ _ ((hSq.block (wr.heap.size + 1) hz2).trans g2); have r5 : wq.cell? ⟨wr.heap.size + 1, 5, none⟩ = _ := cell_of_row _ _ _ _ _ _ ((hSq.block (wr.heap.size + 1) hz2).trans g2); go_simp <;> first | with_reducible rfl | rfl)
              simp only [Act.put, List.setIfInBounds_toArray, List.set_cons_zero, List.set_cons_succ]
              refine take_on (i := 4) (v := ?_) rfl rfl (by kernel_rfl) (by kernel_rfl) (by kernel_rfl) (fun _ _ _ h => h) rfl ?_ hHeld ?_
              rotate_left
              · (intro wq hSq; have q0 : wq.cell? ⟨wr.heap.size, 0, none⟩ = _ := cell_of_row _ _ _ _ _ _ ((hSq.block wr.heap.size hz3).trans p1); have q1 : wq.cell? ⟨wr.heap.size, 1, none⟩ = _ := cell_of_row _ _ _ _ _ _ ((hSq.block wr.heap.size hz3).trans p1); have q2 : wq.cell? ⟨wr.heap.size, 2, none⟩ = _ := cell_of_row _ _ _ _ _ _ ((hSq.block wr.heap.size hz3).trans p1); have q3 : wq.cell? ⟨wr.heap.size, 3, none⟩ = _ := cell_of_row _ _ _ _ _ _ ((hSq.block wr.heap.size hz3).trans p1); have q4 : wq.cell? ⟨wr.heap.size, 4, none⟩ = _ := cell_of_row _ _ _ _ _ _ ((hSq.block wr.heap.size hz3).trans p1); have q5 : wq.cell? ⟨wr.heap.size, 5, none⟩ = _ := cell_of_row _ _ _ _ _ _ ((hSq.block wr.heap.size hz3).trans p1); have r0 : wq.cell? ⟨wr.heap.size + 1, 0, none⟩ = _ := cell_of_row _ _ _ _ _ _ ((hSq.block (wr.heap.size + 1) hz2).trans g2); have r1 : wq.cell? ⟨wr.heap.size + 1, 1, none⟩ = _ := cell_of_row _ _ _ _ _ _ ((hSq.block (wr.heap.size + 1) hz2).trans g2); have r2 : wq.cell? ⟨wr.heap.size + 1, 2, none⟩ = _ := cell_of_row _ _ _ _ _ _ ((hSq.block (wr.heap.size + 1) hz2).trans g2); have r3 : wq.cell? ⟨wr.heap.size + 1, 3, none⟩ = _ := cell_of_row _ _ _ _ _ _ ((hSq.block (wr.heap.size + 1) hz2).trans g2); have r4 : wq.cell? ⟨wr.heap.size + 1, 4, none⟩ = _ := cell_of_row _ _ _ _ _ _ ((hSq.block (wr.heap.size + 1) hz2).trans g2); have r5 : wq.cell? ⟨wr.heap.size + 1, 5, none⟩ = _ := cell_of_row _ _ _ _ _ _ ((hSq.block (wr.heap.size + 1) hz2).trans g2); go_simp <;> first | with_reducible rfl | rfl)
              simp only [Act.put, List.setIfInBounds_toArray, List.set_cons_zero, List.set_cons_succ]
              refine take_one (i := 3) rfl (by kernel_rfl) (fun K hK => ?_)
              go_simp
              refine (hcg _).mono ?_; rintro e y1 ⟨⟨v, rfl, hA⟩, hbA⟩
              try go_wp2_with fail
              refine hK.out _ _ ?_ (fun hHeld => ?_)
              · exact hHeld.trans hbA
              clear hK K
              try simp only [Act.put, List.setIfInBounds_toArray, List.set_cons_zero, List.set_cons_succ]
              refine take_one (i := 5) rfl (by kernel_rfl) (fun K hK => ?_)
              go_simp
              refine (alikeW_same v _ _ 0 0 0 [] [] [] _ hA (AnsW.zero _ _) rfl (by simp) (by simp)).mono ?_; rintro e y2 ⟨rfl, hbB⟩
              try go_wp2_with fail
              refine hK.out _ _ ?_ (fun hHeld => ?_)
              · exact hHeld.trans (hbB.mono hHeld.size)
              clear hK K
              try simp only [Act.put, List.setIfInBounds_toArray, List.set_cons_zero, List.set_cons_succ]
              refine take_on (i := 6) (v := ?_) rfl rfl (by kernel_rfl) (by kernel_rfl) (by kernel_rfl) (fun _ _ _ h => h) rfl ?_ hHeld ?_
              rotate_left
              · (intro wq hSq; have q0 : wq.cell? ⟨wr.heap.size, 0, none⟩ = _ := cell_of_row _ _ _ _ _ _ ((hSq.block wr.heap.size hz3).trans p1); have q1 : wq.cell? ⟨wr.heap.size, 1, none⟩ = _ := cell_of_row _ _ _ _ _ _ ((hSq.block wr.heap.size hz3).trans p1); have q2 : wq.cell? ⟨wr.heap.size, 2, none⟩ = _ := cell_of_row _ _ _ _ _ _ ((hSq.block wr.heap.size hz3).trans p1); have q3 : wq.cell? ⟨wr.heap.size, 3, none⟩ = _ := cell_of_row _ _ _ _ _ _ ((hSq.block wr.heap.size hz3).trans p1); have q4 : wq.cell? ⟨wr.heap.size, 4, none⟩ = _ := cell_of_row _ _ _ _ _ _ ((hSq.block wr.heap.size hz3).trans p1); have q5 : wq.cell? ⟨wr.heap.size, 5, none⟩ = _ := cell_of_row _ _ _ _ _ _ ((hSq.block wr.heap.size hz3).trans p1); have r0 : wq.cell? ⟨wr.heap.size + 1, 0, none⟩ = _ := cell_of_row _ _ _ _ _ _ ((hSq.block (wr.heap.size + 1) hz2).trans g2); have r1 : wq.cell? ⟨wr.heap.size + 1, 1, none⟩ = _ := cell_of_row _ _ _ _ _ _ ((hSq.block (wr.heap.size + 1) hz2).trans g2); have r2 : wq.cell? ⟨wr.heap.size + 1, 2, none⟩ = _ := cell_of_row _ _ _ _ _ _ ((hSq.block (wr.heap.size + 1) hz2).trans g2); have r3 : wq.cell? ⟨wr.heap.size + 1, 3, none⟩ = _ := cell_of_row _ _ _ _ _ _ ((hSq.block (wr.heap.size + 1) hz2).trans g2); have r4 : wq.cell? ⟨wr.heap.size + 1, 4, none⟩ = _ := cell_of_row _ _ _ _ _ _ ((hSq.block (wr.heap.size + 1) hz2).trans g2); have r5 : wq.cell? ⟨wr.heap.size + 1, 5, none⟩ = _ := cell_of_row _ _ _ _ _ _ ((hSq.block (wr.heap.size + 1) hz2).trans g2); go_simp <;> first | with_reducible rfl | rfl)
              simp only [Act.put, List.setIfInBounds_toArray, List.set_cons_zero, List.set_cons_succ]
              refine wpAnyH_done (by kernel_rfl) ?_ _
              have hbF := hbW2.trans (hHeld.mono hbW2.size)
              go_wp2_with fail
              go_roundw
              case rel => exact ⟨k + 1, by omega, by go_num, hbF⟩
              case measure => simp [intOf]; omega
            · have hone : oneK x.k = 0 := if_neg h4
              have hd5 : decide (x.k ≤ 4) = false := by simpa using h4
              rw [hone] at hcg
              obtain ⟨W2, hW2⟩ : ∃ W, W = W1.alloc (.cells #[.int .i64 0, .int .i64 0, .int .i64 0, .int .i64 0, .slice none 0 0, .slice none 0 0] 46) := ⟨_, rfl⟩
              have hb2 : Below W1.heap.size W1 W2 := by rw [hW2]; exact (Below.refl _ _).alloc (Nat.le_refl _) _
              have g2 : W2.heap[wr.heap.size + 1]? = some (.cells #[.int .i64 0, .int .i64 0, .int .i64 0, .int .i64 0, .slice none 0 0, .slice none 0 0] 46 (0, 0)) := by rw [hW2, ← hz1]; exact heap_alloc_new W1 _
              have p1 := (hb2.block wr.heap.size (by omega)).trans g1
              have hz2 : wr.heap.size + 1 < W2.heap.size := (Array.getElem?_eq_some_iff.1 g2).1
              have hz3 : wr.heap.size < W2.heap.size := (Array.getElem?_eq_some_iff.1 p1).1
              have hbW2 := hbW1.trans (hb2.mono hbW1.size)
              go_wp2_with fail
              rw [← hW1]
              clear hW1 d0 d1 d2 d3 d4 d5
              go_wp2_with fail
              rw [← hW2]
              clear hW2
              refine wp_calm ?_
              refine wp_region_held_drew (S := (fun w' => Below W2.heap.size W2 w')) (by kernel_rfl) ?_ (fun hHeld => ?_)
              · exact (Below.refl _ _).drew
              refine take_on (i := 0) (v := ?_) rfl rfl (by kernel_rfl) (by kernel_rfl) (by kernel_rfl) (fun _ _ _ h => h) rfl ?_ hHeld ?_
              rotate_left
              · (intro wq hSq; have q0 : wq.cell? ⟨wr.heap.size, 0, none⟩ = _ := cell_of_row _ _ _ _ _ _ ((hSq.block wr.heap.size hz3).trans p1); have q1 : wq.cell? ⟨wr.heap.size, 1, none⟩ = _ := cell_of_row _ _ _ _ _ _ ((hSq.block wr.heap.size hz3).trans p1); have q2 : wq.cell? ⟨wr.heap.size, 2, none⟩ = _ := cell_of_row _ _ _ _ _ _ ((hSq.block wr.heap.size hz3).trans p1); have q3 : wq.cell? ⟨wr.heap.size, 3, none⟩ = _ := cell_of_row _ _ _ _ _ _ ((hSq.block wr.heap.size hz3).trans p1); have q4 : wq.cell? ⟨wr.heap.size, 4, none⟩ = _ := cell_of_row _ _ _ _ _ _ ((hSq.block wr.heap.size hz3).trans p1); have q5 : wq.cell? ⟨wr.heap.size, 5, none⟩ = _ := cell_of_row _ _ _ _ _ _ ((hSq.block wr.heap.size hz3).trans p1); have r0 : wq.cell? ⟨wr.heap.size + 1, 0, none⟩ = _ := cell_of_row _ _ _ _ _ _ ((hSq.block (wr.heap.size + 1) hz2).trans g2); have r1 : wq.cell? ⟨wr.heap.size + 1, 1, none⟩ = _ := cell_of_row _ _ _ _ _ _ ((hSq.block (wr.heap.size + 1) hz2).trans g2); have r2 : wq.cell? ⟨wr.heap.size + 1, 2, none⟩ = _ := cell_of_row _ _ _ _ _ _ ((hSq.block (wr.heap.size + 1) hz2).trans g2); have r3 : wq.cell? ⟨wr.heap.size + 1, 3, none⟩ = _ := cell_of_row _ _ _ _ _ _ ((hSq.block (wr.heap.size + 1) hz2).trans g2); have r4 : wq.cell? ⟨wr.heap.size + 1, 4, none⟩ = _ := cell_of_row _ _ _ _ _ _ ((hSq.block (wr.heap.size + 1) hz2).trans g2); have r5 : wq.cell? ⟨wr.heap.size + 1, 5, none⟩ = _ := cell_of_row _ _ _ _ _ _ ((hSq.block (wr.heap.size + 1) hz2).trans g2); go_simp <;> first | with_reducible rfl | rfl)
              simp only [Act.put, List.setIfInBounds_toArray, List.set_cons_zero, List.set_cons_succ]
              refine take_on (i := 1) (v := ?_) rfl rfl (by kernel_rfl) (by kernel_rfl) (by kernel_rfl) (fun _ _ _ h => h) rfl ?_ hHeld ?_
              rotate_left
              · (intro wq hSq; have q0 : wq.cell? ⟨wr.heap.size, 0, none⟩ = _ := cell_of_row _ _ _ _ _ _ ((hSq.block wr.heap.size hz3).trans p1); have q1 : wq.cell? ⟨wr.heap.size, 1, none⟩ = _ := cell_of_row _ _ _ _ _ _ ((hSq.block wr.heap.size hz3).trans p1); have q2 : wq.cell? ⟨wr.heap.size, 2, none⟩ = _ := cell_of_row _ _ _ _ _ _ ((hSq.block wr.heap.size hz3).trans p1); have q3 : wq.cell? ⟨wr.heap.size, 3, none⟩ = _ := cell_of_row _ _ _ _ _ _ ((hSq.block wr.heap.size hz3).trans p1); have q4 : wq.cell? ⟨wr.heap.size, 4, none⟩ = _ := cell_of_row _ _ _ _ _ _ ((hSq.block wr.heap.size hz3).trans p1); have q5 : wq.cell? ⟨wr.heap.size, 5, none⟩ = _ := cell_of_row _ _ _ _ _ _ ((hSq.block wr.heap.size hz3).trans p1); have r0 : wq.cell? ⟨wr.heap.size + 1, 0, none⟩ = _ := cell_of_row _ _ _ _ _ _ ((hSq.block (wr.heap.size + 1) hz2).trans g2); have r1 : wq.cell? ⟨wr.heap.size + 1, 1, none⟩ = _ := cell_of_row _ _ _ _ _ _ ((hSq.block (wr.heap.size + 1) hz2).trans g2); have r2 : wq.cell? ⟨wr.heap.size + 1, 2, none⟩ = _ := cell_of_row _ _ _ _ _ _ ((hSq.block (wr.heap.size + 1) hz2).trans g2); have r3 : wq.cell? ⟨wr.heap.size + 1, 3, none⟩ = _ := cell_of_row _ _ _ _ _ _ ((hSq.block (wr.heap.size + 1) hz2).trans g2); have r4 : wq.cell? ⟨wr.heap.size + 1, 4, none⟩ = _ := cell_of_row _ _ _ _ _ _ ((hSq.block (wr.heap.size + 1) hz2).trans g2); have r5 : wq.cell? ⟨wr.heap.size + 1, 5, none⟩ = _ := cell_of_row _ _ _ _ _ _ ((hSq.block (wr.heap.size + 1) hz2).trans g2); go_simp <;> first | with_reducible rfl | rfl)
              simp only [Act.put, List.setIfInBounds_toArray, List.set_cons_zero, List.set_cons_succ]
              refine take_on (i := 2) (v := ?_) rfl rfl (by kernel_rfl) (by kernel_rfl) (by kernel_rfl) (fun _ _ _ h => h) rfl ?_ hHeld ?_
              rotate_left
              · (intro wq hSq; have q0 : wq.cell? ⟨wr.heap.size, 0, none⟩ = _ := cell_of_row _ _ _ _ _ _ ((hSq.block wr.heap.size hz3).trans p1); have q1 : wq.cell? ⟨wr.heap.size, 1, none⟩ = _ := cell_of_row _ _ _ _ _ _ ((hSq.block wr.heap.size hz3).trans p1); have q2 : wq.cell? ⟨wr.heap.size, 2, none⟩ = _ := cell_of_row _ _ _ _ _ _ ((hSq.block wr.heap.size hz3).trans p1); have q3 : wq.cell? ⟨wr.heap.size, 3, none⟩ = _ := cell_of_row _ _ _ _ _ _ ((hSq.block wr.heap.size hz3).trans p1); have q4 : wq.cell? ⟨wr.heap.size, 4, none⟩ = _ := cell_of_row _ _ _ _ _ _ ((hSq.block wr.heap.size hz3).trans p1); have q5 : wq.cell? ⟨wr.heap.size, 5, none⟩ = _ := cell_of_row _ _ _ _ _ _ ((hSq.block wr.heap.size hz3).trans p1); have r0 : wq.cell? ⟨wr.heap.size + 1, 0, none⟩ = _ := cell_of_row _ _ _ _ _ _ ((hSq.block (wr.heap.size + 1) hz2).trans g2); have r1 : wq.cell? ⟨wr.heap.size + 1, 1, none⟩ = _ := cell_of_row _ _ _ _ _ _ ((hSq.block (wr.heap.size + 1) hz2).trans g2); have r2 : wq.cell? ⟨wr.heap.size + 1, 2, none⟩ = _ := cell_of_row _ _ _ _ _ _ ((hSq.block (wr.heap.size + 1) hz2).trans g2); have r3 : wq.cell? ⟨wr.heap.size + 1, 3, none⟩ = _ := cell_of_row _ _ _ _ _ _ ((hSq.block (wr.heap.size + 1) hz2).trans g2); have r4 : wq.cell? ⟨wr.heap.size + 1, 4, none⟩ = _ := cell_of_row _ _ _ _ _ _ ((hSq.block (wr.heap.size + 1) hz2).trans g2); have r5 : wq.cell? ⟨wr.heap.size + 1, 5, none⟩ = _ := cell_of_row _ _ _ _ _ _ ((hSq.block (wr.heap.size + 1) hz2).trans g2); go_simp <;> first | with_reducible rfl | rfl)
              simp only [Act.put, List.setIfInBounds_toArray, List.set_cons_zero, List.set_cons_succ]
              refine take_on (i := 4) (v := ?_) rfl rfl (by kernel_rfl) (by kernel_rfl) (by kernel_rfl) (fun _ _ _ h => h) rfl ?_ hHeld ?_
              rotate_left
              · (intro wq hSq; have q0 : wq.cell? ⟨wr.heap.size, 0, none⟩ = _ := cell_of_row _ _ _ _ _ _ ((hSq.block wr.heap.size hz3).trans p1); have q1 : wq.cell? ⟨wr.heap.size, 1, none⟩ = _ := cell_of_row _ _ _ _ _ _ ((hSq.block wr.heap.size hz3).trans p1); have q2 : wq.cell? ⟨wr.heap.size, 2, none⟩ = _ := cell_of_row _ _ _ _ _ _ ((hSq.block wr.heap.size hz3).trans p1); have q3 : wq.cell? ⟨wr.heap.size, 3, none⟩ = _ := cell_of_row _ _ _ _ _ _ ((hSq.block wr.heap.size hz3).trans p1); have q4 : wq.cell? ⟨wr.heap.size, 4, none⟩ = _ := cell_of_row _ _ _ _ _ _ ((hSq.block wr.heap.size hz3).trans p1); have q5 : wq.cell? ⟨wr.heap.size, 5, none⟩ = _ := cell_of_row _ _ _ _ _ _ ((hSq.block wr.heap.size hz3).trans p1); have r0 : wq.cell? ⟨wr.heap.size + 1, 0, none⟩ = _ := cell_of_row _ _ _ _ _ _ ((hSq.block (wr.heap.size + 1) hz2).trans g2); have r1 : wq.cell? ⟨wr.heap.size + 1, 1, none⟩ = _ := cell_of_row _ _ _ _ _ _ ((hSq.block (wr.heap.size + 1) hz2).trans g2); have r2 : wq.cell? ⟨wr.heap.size + 1, 2, none⟩ = _ := cell_of_row _ _ _ _ _ _ ((hSq.block (wr.heap.size + 1) hz2).trans g2); have r3 : wq.cell? ⟨wr.heap.size + 1, 3, none⟩ = _ := cell_of_row _ _ _ _ _ _ ((hSq.block (wr.heap.size + 1) hz2).trans g2); have r4 : wq.cell? ⟨wr.heap.size + 1, 4, none⟩ = _ := cell_of_row _ _ _ _ _ _ ((hSq.block (wr.heap.size + 1) hz2).trans g2); have r5 : wq.cell? ⟨wr.heap.size + 1, 5, none⟩ = _ := cell_of_row _ _ _ _ _ _ ((hSq.block (wr.heap.size + 1) hz2).trans g2); go_simp <;> first | with_reducible rfl | rfl)
              simp only [Act.put, List.setIfInBounds_toArray, List.set_cons_zero, List.set_cons_succ]
              refine take_one (i := 3) rfl (by kernel_rfl) (fun K hK => ?_)
              go_simp
              refine (hcg _).mono ?_; rintro e y1 ⟨⟨v, rfl, hA⟩, hbA⟩
              try go_wp2_with fail
              refine hK.out _ _ ?_ (fun hHeld => ?_)
              · exact hHeld.trans hbA
              clear hK K
              try simp only [Act.put, List.setIfInBounds_toArray, List.set_cons_zero, List.set_cons_succ]
              refine take_one (i := 5) rfl (by kernel_rfl) (fun K hK => ?_)
              go_simp
              refine (alikeW_same v _ _ 0 0 0 [] [] [] _ hA (AnsW.zero _ _) rfl (by simp) (by simp)).mono ?_; rintro e y2 ⟨rfl, hbB⟩
              try go_wp2_with fail
              refine hK.out _ _ ?_ (fun hHeld => ?_)
              · exact hHeld.trans (hbB.mono hHeld.size)
              clear hK K
              try simp only [Act.put, List.setIfInBounds_toArray, List.set_cons_zero, List.set_cons_succ]
              refine take_on (i := 6) (v := ?_) rfl rfl (by kernel_rfl) (by kernel_rfl) (by kernel_rfl) (fun _ _ _ h => h) rfl ?_ hHeld ?_
              rotate_left
              · (intro wq hSq; have q0 : wq.cell? ⟨wr.heap.size, 0, none⟩ = _ := cell_of_row _ _ _ _ _ _ ((hSq.block wr.heap.size hz3).trans p1); have q1 : wq.cell? ⟨wr.heap.size, 1, none⟩ = _ := cell_of_row _ _ _ _ _ _ ((hSq.block wr.heap.size hz3).trans p1); have q2 : wq.cell? ⟨wr.heap.size, 2, none⟩ = _ := cell_of_row _ _ _ _ _ _ ((hSq.block wr.heap.size hz3).trans p1); have q3 : wq.cell? ⟨wr.heap.size, 3, none⟩ = _ := cell_of_row _ _ _ _ _ _ ((hSq.block wr.heap.size hz3).trans p1); have q4 : wq.cell? ⟨wr.heap.size, 4, none⟩ = _ := cell_of_row _ _ _ _ _ _ ((hSq.block wr.heap.size hz3).trans p1); have q5 : wq.cell? ⟨wr.heap.size, 5, none⟩ = _ := cell_of_row _ _ _ _ _ _ ((hSq.block wr.heap.size hz3).trans p1); have r0 : wq.cell? ⟨wr.heap.size + 1, 0, none⟩ = _ := cell_of_row _ _ _ _ _ _ ((hSq.block (wr.heap.size + 1) hz2).trans g2); have r1 : wq.cell? ⟨wr.heap.size + 1, 1, none⟩ = _ := cell_of_row _ _ _ _ _ _ ((hSq.block (wr.heap.size + 1) hz2).trans g2); have r2 : wq.cell? ⟨wr.heap.size + 1, 2, none⟩ = _ := cell_of_row _ _ _ _ _ _ ((hSq.block (wr.heap.size + 1) hz2).trans g2); have r3 : wq.cell? ⟨wr.heap.size + 1, 3, none⟩ = _ := cell_of_row _ _ _ _ _ _ ((hSq.block (wr.heap.size + 1) hz2).trans g2); have r4 : wq.cell? ⟨wr.heap.size + 1, 4, none⟩ = _ := cell_of_row _ _ _ _ _ _ ((hSq.block (wr.heap.size + 1) hz2).trans g2); have r5 : wq.cell? ⟨wr.heap.size + 1, 5, none⟩ = _ := cell_of_row _ _ _ _ _ _ ((hSq.block (wr.heap.size + 1) hz2).trans g2); go_simp <;> first | with_reducible rfl | rfl)
              simp only [Act.put, List.setIfInBounds_toArray, List.set_cons_zero, List.set_cons_succ]
              refine wpAnyH_done (by kernel_rfl) ?_ _
              have hbF := hbW2.trans (hHeld.mono hbW2.size)
              go_wp2_with fail
              go_roundw
              case rel => exact ⟨k + 1, by omega, by go_num, hbF⟩
              case measure => simp [intOf]; omega
        · have hd : decide ((k : Int) < (n2 : Int)) = false := by simp; omega
          go_wp2_with fail
          go_ret
          exact ⟨rfl, hbw⟩
    · obtain ⟨g, C, q, v, hdk⟩ := hdp
      have hno := open_no (.pointer (some ⟨p, 0, none⟩)) 81 (by omega) x1 w3 (part_no hdk x1 (by omega))
      clear hdk
      go_wp2_with fail
      refine hno.mono ?_
      rintro e w4 ⟨rfl, hq⟩
      have hq2 := hq.symm
      subst hq2
      clear hq hno
      have hbw4 := hbw3
      by_cases hx0 : x1 < 0
      · have hd1 : decide (x1 < 0) = true := by simpa using hx0
        go_wp2_with fail
        go_loopw [76] (fun iv wr => ∃ k : Nat, k ≤ n2 ∧ iv = .int .i64 (k : Int) ∧ Below w.heap.size w wr) (fun iv _ => n2 - (intOf iv).toNat)
        case atStart => exact ⟨0, Nat.zero_le _, rfl, hbw4⟩
        case round =>
          obtain ⟨k, hk, rfl, hbw⟩ := hrel
          by_cases hlt : k < n2
          · have hd : decide ((k : Int) < (n2 : Int)) = true := by simp; omega
            obtain ⟨b, o, rfl, hbl, c0, c1, c2, c3, c4, c5⟩ := HC.out.row.here hlt
            generalize A2 k = x at *
            have d0 := (hbw.cell (p := ⟨b, o + k * 6, none⟩) hbl).trans c0
            have d1 := (hbw.cell (p := ⟨b, o + k * 6 + 1, none⟩) hbl).trans c1
            have d2 := (hbw.cell (p := ⟨b, o + k * 6 + 2, none⟩) hbl).trans c2
            have d3 := (hbw.cell (p := ⟨b, o + k * 6 + 3, none⟩) hbl).trans c3
            have d4 := (hbw.cell (p := ⟨b, o + k * 6 + 4, none⟩) hbl).trans c4
            have d5 := (hbw.cell (p := ⟨b, o + k * 6 + 5, none⟩) hbl).trans c5
            have hs := hbw.size
            clear c0 c1 c2 c3 c4 c5
            obtain ⟨W1, hW1⟩ : ∃ W, W = wr.alloc (.cells #[.int .i64 x.k, .int .i64 x.i, .int .i64 x.a, .slice x.esa x.esn x.esc, .slice x.p.a x.p.p.length x.p.c, .slice x.fa x.fn x.fc] 42) := ⟨_, rfl⟩
            have hb1 : Below wr.heap.size wr W1 := by rw [hW1]; exact (Below.refl _ _).alloc (Nat.le_refl _) _
            have g1 : W1.heap[wr.heap.size]? = some (.cells #[.int .i64 x.k, .int .i64 x.i, .int .i64 x.a, .slice x.esa x.esn x.esc, .slice x.p.a x.p.p.length x.p.c, .slice x.fa x.fn x.fc] 42 (0, 0)) := by rw [hW1]; exact heap_alloc_new wr _
            have hbW1 := hbw.trans (hb1.mono hs)
            have f0 : W1.cell? ⟨wr.heap.size, 0, none⟩ = some (.int .i64 x.k) := cell_of_row _ _ _ _ _ _ g1
            have hz1 : W1.heap.size = wr.heap.size + 1 := by rw [hW1]; simp
            by_cases hkb : x.k < 0 ∨ 6 < x.k
            · rcases hkb with hkb | hkb
              · have hd3 : decide (x.k < 0) = true := by simpa using hkb
                go_wp2_with fail
                rw [← hW1]
                clear hW1 d0 d1 d2 d3 d4 d5
                go_wp2_with fail
                go_roundw
                case rel => exact ⟨k + 1, by omega, by go_num, hbW1⟩
                case measure => simp [intOf]; omega
              · have hd3 : decide (x.k < 0) = false := by simp; omega
                have hd4 : decide (6 < x.k) = true := by simpa using hkb
                go_wp2_with fail
                rw [← hW1]
                clear hW1 d0 d1 d2 d3 d4 d5
                go_wp2_with fail
                go_roundw
                case rel => exact ⟨k + 1, by omega, by go_num, hbW1⟩
                case measure => simp [intOf]; omega
            · have hd3 : decide (x.k < 0) = false := by simp; omega
              have hd4 : decide (6 < x.k) = false := by simp; omega
              have hcg := fun w => call_gone (.pointer (some ⟨p, 0, none⟩)) x w (by omega) (by omega)
              by_cases h4 : x.k ≤ 4
              · have hone : oneK x.k = 1 := if_pos h4
                have hd5 : decide (x.k ≤ 4) = true := by simpa using h4
                rw [hone] at hcg
                obtain ⟨W2, hW2⟩ : ∃ W, W = W1.alloc (.cells #[.int .i64 1, .int .i64 0, .int .i64 0, .int .i64 0, .slice none 0 0, .slice none 0 0] 46) := ⟨_, rfl⟩
                have hb2 : Below W1.heap.size W1 W2 := by rw [hW2]; exact (Below.refl _ _).alloc (Nat.le_refl _) _
                have g2 : W2.heap[wr.heap.size + 1]? = some (.cells #[.int .i64 1, .int .i64 0, .int .i64 0, .int .i64 0, .slice none 0 0, .slice none 0 0] 46 (0, 0)) := by
                  rw [hW2, ← hz1]; exact heap_alloc_new W1 _
                have p1 := (hb2.block wr.heap.size (by omega)).trans g1
                have hz2 : wr.heap.size + 1 < W2.heap.size := (Array.getElem?_eq_some_iff.1 g2).1
                have hz3 : wr.heap.size < W2.heap.size := (Array.getElem?_eq_some_iff.1 p1).1
                have hbW2 := hbW1.trans (hb2.mono hbW1.size)
                go_wp2_with fail
                rw [← hW1]
                clear hW1 d0 d1 d2 d3 d4 d5
                go_wp2_with fail
                rw [← hW2]
                clear hW2
                refine wp_calm ?_
                refine wp_region_held_drew (S := (fun w' => Below W2.heap.size W2 w')) (by kernel_rfl) ?_ (fun hHeld => ?_)
                · exact (Below.refl _ _).drew
                refine take_on (i := 0) (v := ?_) rfl rfl (by kernel_rfl) (by kernel_rfl) (by kernel_rfl) (fun _ _ _ h => h) rfl ?_ hHeld ?_
                rotate_left
                · (intro wq hSq; have q0 : wq.cell? ⟨wr.heap.size, 0, none⟩ = _ := cell_of_row _ _ _ _ _ _ ((hSq.block wr.heap.size hz3).trans p1); have q1 : wq.cell? ⟨wr.heap.size, 1, none⟩ = _ := cell_of_row _ _ _ _ _ _ ((hSq.block wr.heap.size hz3).trans p1); have q2 : wq.cell? ⟨wr.heap.size, 2, none⟩ = _ := cell_of_row _ _ _ _ _ _ ((hSq.block wr.heap.size hz3).trans p1); have q3 : wq.cell? ⟨wr.heap.size, 3, none⟩ = _ := cell_of_row _ _ _ _ _ _ ((hSq.block wr.heap.size hz3).trans p1); have q4 : wq.cell? ⟨wr.heap.size, 4, none⟩ = _ := cell_of_row _ _ _ _ _ _ ((hSq.block wr.heap.size hz3).trans p1); have q5 : wq.cell? ⟨wr.heap.size, 5, none⟩ = _ := cell_of_row _ _ _ _ _ _ ((hSq.block wr.heap.size hz3).trans p1); have r0 : wq.cell? ⟨wr.heap.size + 1, 0, none⟩ = _ := cell_of_row _ _ _ _ _ _ ((hSq.block (wr.heap.size + 1) hz2).trans g2); have r1 : wq.cell? ⟨wr.heap.size + 1, 1, none⟩ = _ := cell_of_row _ _ _ _ _ _ ((hSq.block (wr.heap.size + 1) hz2).trans g2); have r2 : wq.cell? ⟨wr.heap.size + 1, 2, none⟩ = _ := cell_of_row _ _ _ _ _ _ ((hSq.block (wr.heap.size + 1) hz2).trans g2); have r3 : wq.cell? ⟨wr.heap.size + 1, 3, none⟩ = _ := cell_of_row _ _ _ _ _ _ ((hSq.block (wr.heap.size + 1) hz2).trans g2); have r4 : wq.cell? ⟨wr.heap.size + 1, 4, none⟩ = _ := cell_of_row _ _ _ _ _ _ ((hSq.block (wr.heap.size + 1) hz2).trans g2); have r5 : wq.cell? ⟨wr.heap.size + 1, 5, none⟩ = _ := cell_of_row _ _ _ _ _ _ ((hSq.block (wr.heap.size + 1) hz2).trans g2); go_simp <;> first | with_reducible rfl | rfl)
                simp only [Act.put, List.setIfInBounds_toArray, List.set_cons_zero, List.set_cons_succ]
                refine take_on (i := 1) (v := ?_) rfl rfl (by kernel_rfl) (by kernel_rfl) (by kernel_rfl) (fun _ _ _ h => h) rfl ?_ hHeld ?_
                rotate_left
                · (intro wq hSq; have q0 : wq.cell? ⟨wr.heap.size, 0, none⟩ = _ := cell_of_row _ _ _ _ _ _ ((hSq.block wr.heap.size hz3).trans p1); have q1 : wq.cell? ⟨wr.heap.size, 1, none⟩ = _ := cell_of_row _ _ _ _ _ _ ((hSq.block wr.heap.size hz3).trans p1); have q2 : wq.cell? ⟨wr.heap.size, 2, none⟩ = _ := cell_of_row _ _ _ _ _ _ ((hSq.block wr.heap.size hz3).trans p1); have q3 : wq.cell? ⟨wr.heap.size, 3, none⟩ = _ := cell_of_row _ _ _ _ _ _ ((hSq.block wr.heap.size hz3).trans p1); have q4 : wq.cell? ⟨wr.heap.size, 4, none⟩ = _ := cell_of_row _ _ _ _ _ _ ((hSq.block wr.heap.size hz3).trans p1); have q5 : wq.cell? ⟨wr.heap.size, 5, none⟩ = _ := cell_of_row _ _ _ _ _ _ ((hSq.block wr.heap.size hz3).trans p1); have r0 : wq.cell? ⟨wr.heap.size + 1, 0, none⟩ = _ := cell_of_row _ _ _ _ _ _ ((hSq.block (wr.heap.size + 1) hz2).trans g2); have r1 : wq.cell? ⟨wr.heap.size + 1, 1, none⟩ = _ := cell_of_row _ _ _ _ _ _ ((hSq.block (wr.heap.size + 1) hz2).trans g2); have r2 : wq.cell? ⟨wr.heap.size + 1, 2, none⟩ = _ := cell_of_row _ _ _ _ _ _ ((hSq.block (wr.heap.size + 1) hz2).trans g2); have r3 : wq.cell? ⟨wr.heap.size + 1, 3, none⟩ = _ := cell_of_row _ _ _ _ _ _ ((hSq.block (wr.heap.size + 1) hz2).trans g2); have r4 : wq.cell? ⟨wr.heap.size + 1, 4, none⟩ = _ := cell_of_row _ _ _ _ _ _ ((hSq.block (wr.heap.size + 1) hz2).trans g2); have r5 : wq.cell? ⟨wr.heap.size + 1, 5, none⟩ = _ := cell_of_row _ _ _ _ _ _ ((hSq.block (wr.heap.size + 1) hz2).trans g2); go_simp <;> first | with_reducible rfl | rfl)
                simp only [Act.put, List.setIfInBounds_toArray, List.set_cons_zero, List.set_cons_succ]
                refine take_on (i := 2) (v := ?_) rfl rfl (by kernel_rfl) (by kernel_rfl) (by kernel_rfl) (fun _ _ _ h => h) rfl ?_ hHeld ?_
                rotate_left
                · (intro wq hSq; have q0 : wq.cell? ⟨wr.heap.size, 0, none⟩ = _ := cell_of_row _ _ _ _ _ _ ((hSq.block wr.heap.size hz3).trans p1); have q1 : wq.cell? ⟨wr.heap.size, 1, none⟩ = _ := cell_of_row _ _ _ _ _ _ ((hSq.block wr.heap.size hz3).trans p1); have q2 : wq.cell? ⟨wr.heap.size, 2, none⟩ = _ := cell_of_row _ _ _ _ _ _ ((hSq.block wr.heap.size hz3).trans p1); have q3 : wq.cell? ⟨wr.heap.size, 3, none⟩ = _ := cell_of_row _ _ _ _ _ _ ((hSq.block wr.heap.size hz3).trans p1); have q4 : wq.cell? ⟨wr.heap.size, 4, none⟩ = _ := cell_of_row _ _ _ _ _ _ ((hSq.block wr.heap.size hz3).trans p1); have q5 : wq.cell? ⟨wr.heap.size, 5, none⟩ = _ := cell_of_row _ _ _ _ _ _ ((hSq.block wr.heap.size hz3).trans p1); have r0 : wq.cell? ⟨wr.heap.size + 1, 0, none⟩ = _ := cell_of_row _ _ _ _ _ _ ((hSq.block (wr.heap.size + 1) hz2).trans g2); have r1 : wq.cell? ⟨wr.heap.size + 1, 1, none⟩ = _ := cell_of_row _ _ _ _ _ _ ((hSq.block (wr.heap.size + 1) hz2).trans g2); have r2 : wq.cell? ⟨wr.heap.size + 1, 2, none⟩ = _ := cell_of_row _ _ _ _ _ _ ((hSq.block (wr.heap.size + 1) hz2).trans g2); have r3 : wq.cell? ⟨wr.heap.size + 1, 3, none⟩ = _ := cell_of_row _ _ _ _ _ _ ((hSq.block (wr.heap.size + 1) hz2).trans g2); have r4 : wq.cell? ⟨wr.heap.size + 1, 4, none⟩ = _ := cell_of_row _ _ _ _ _ _ ((hSq.block (wr.heap.size + 1) hz2).trans g2); have r5 : wq.cell? ⟨wr.heap.size + 1, 5, none⟩ = _ := cell_of_row _ _ _ _ _ _ ((hSq.block (wr.heap.size + 1) hz2).trans g2); go_simp <;> first | with_reducible rfl | rfl)
                simp only [Act.put, List.setIfInBounds_toArray, List.set_cons_zero, List.set_cons_succ]
                refine take_on (i := 4) (v := ?_) rfl rfl (by kernel_rfl) (by kernel_rfl) (by kernel_rfl) (fun _ _ _ h => h) rfl ?_ hHeld ?_
                rotate_left
                · (intro wq hSq; have q0 : wq.cell? ⟨wr.heap.size, 0, none⟩ = _ := cell_of_row _ _ _ _ _ _ ((hSq.block wr.heap.size hz3).trans p1); have q1 : wq.cell? ⟨wr.heap.size, 1, none⟩ = _ := cell_of_row _ _ _ _ _ _ ((hSq.block wr.heap.size hz3).trans p1); have q2 : wq.cell? ⟨wr.heap.size, 2, none⟩ = _ := cell_of_row _ _ _ _ _ _ ((hSq.block wr.heap.size hz3).trans p1); have q3 : wq.cell? ⟨wr.heap.size, 3, none⟩ = _ := cell_of_row _ _ _ _ _ _ ((hSq.block wr.heap.size hz3).trans p1); have q4 : wq.cell? ⟨wr.heap.size, 4, none⟩ = _ := cell_of_row _ _ _ _ _ _ ((hSq.block wr.heap.size hz3).trans p1); have q5 : wq.cell? ⟨wr.heap.size, 5, none⟩ = _ := cell_of_row _ _ _ _ _ _ ((hSq.block wr.heap.size hz3).trans p1); have r0 : wq.cell? ⟨wr.heap.size + 1, 0, none⟩ = _ := cell_of_row _ _ _ _ _ _ ((hSq.block (wr.heap.size + 1) hz2).trans g2); have r1 : wq.cell? ⟨wr.heap.size + 1, 1, none⟩ = _ := cell_of_row _ _ _ _ _ _ ((hSq.block (wr.heap.size + 1) hz2).trans g2); have r2 : wq.cell? ⟨wr.heap.size + 1, 2, none⟩ = _ := cell_of_row _ _ _ _ _ _ ((hSq.block (wr.heap.size + 1) hz2).trans g2); have r3 : wq.cell? ⟨wr.heap.size + 1, 3, none⟩ = _ := cell_of_row _ _ _ _ _ _ ((hSq.block (wr.heap.size + 1) hz2).trans g2); have r4 : wq.cell? ⟨wr.heap.size + 1, 4, none⟩ = _ := cell_of_row _ _ _ _ _ _ ((hSq.block (wr.heap.size + 1) hz2).trans g2); have r5 : wq.cell? ⟨wr.heap.size + 1, 5, none⟩ = _ := cell_of_row _ _ _ _ _ _ ((hSq.block (wr.heap.size + 1) hz2).trans g2); go_simp <;> first | with_reducible rfl | rfl)
                simp only [Act.put, List.setIfInBounds_toArray, List.set_cons_zero, List.set_cons_succ]
                refine take_one (i := 3) rfl (by kernel_rfl) (fun K hK => ?_)
                go_simp
                refine (hcg _).mono ?_; rintro e y1 ⟨⟨v, rfl, hA⟩, hbA⟩
                try go_wp2_with fail
                refine hK.out _ _ ?_ (fun hHeld => ?_)
                · exact hHeld.trans hbA
                clear hK K
                try simp only [Act.put, List.setIfInBounds_toArray, List.set_cons_zero, List.set_cons_succ]
                refine take_one (i := 5) rfl (by kernel_rfl) (fun K hK => ?_)
                go_simp
                refine (alikeW_same v _ _ 0 0 0 [] [] [] _ hA (AnsW.zero _ _) rfl (by simp) (by simp)).mono ?_; rintro e y2 ⟨rfl, hbB⟩
                try go_wp2_with fail
                refine hK.out _ _ ?_ (fun hHeld => ?_)
                · exact hHeld.trans (hbB.mono hHeld.size)
                clear hK K
                try simp only [Act.put, List.setIfInBounds_toArray, List.set_cons_zero, List.set_cons_succ]
                refine take_on (i := 6) (v := ?_) rfl rfl (by kernel_rfl) (by kernel_rfl) (by kernel_rfl) (fun _ _ _ h => h) rfl ?_ hHeld ?_
                rotate_left
                · (intro wq hSq; have q0 : wq.cell? ⟨wr.heap.size, 0, none⟩ = _ := cell_of_row _ _ _ _ _ _ ((hSq.block wr.heap.size hz3).trans p1); have q1 : wq.cell? ⟨wr.heap.size, 1, none⟩ = _ := cell_of_row _ _ _ _ _ _ ((hSq.block wr.heap.size hz3).trans p1); have q2 : wq.cell? ⟨wr.heap.size, 2, none⟩ = _ := cell_of_row _ _ _ _ _ _ ((hSq.block wr.heap.size hz3).trans p1); have q3 : wq.cell? ⟨wr.heap.size, 3, none⟩ = _ := cell_of_row _ _ _ _ _ _ ((hSq.block wr.heap.size hz3).trans p1); have q4 : wq.cell? ⟨wr.heap.size, 4, none⟩ = _ := cell_of_row _ _ _ _ _ _ ((hSq.block wr.heap.size hz3).trans p1); have q5 : wq.cell? ⟨wr.heap.size, 5, none⟩ = _ := cell_of_row _ _ _ _ _ _ ((hSq.block wr.heap.size hz3).trans p1); have r0 : wq.cell? ⟨wr.heap.size + 1, 0, none⟩ = _ := cell_of_row _ _ _ _ _ _ ((hSq.block (wr.heap.size + 1) hz2).trans g2); have r1 : wq.cell? ⟨wr.heap.size + 1, 1, none⟩ = _ := cell_of_row _ _ _ _ _ _ ((hSq.block (wr.heap.size + 1) hz2).trans g2); have r2 : wq.cell? ⟨wr.heap.size + 1, 2, none⟩ = _ := cell_of_row _ _ _ _ _ _ ((hSq.block (wr.heap.size + 1) hz2).trans g2); have r3 : wq.cell? ⟨wr.heap.size + 1, 3, none⟩ = _ := cell_of_row _ _ _ _ _ _ ((hSq.block (wr.heap.size + 1) hz2).trans g2); have r4 : wq.cell? ⟨wr.heap.size + 1, 4, none⟩ = _ := cell_of_row _ _ _ _ _ _ ((hSq.block (wr.heap.size + 1) hz2).trans g2); have r5 : wq.cell? ⟨wr.heap.size + 1, 5, none⟩ = _ := cell_of_row _ _ _ _ _ _ ((hSq.block (wr.heap.size + 1) hz2).trans g2); go_simp <;> first | with_reducible rfl | rfl)
                simp only [Act.put, List.setIfInBounds_toArray, List.set_cons_zero, List.set_cons_succ]
                refine wpAnyH_done (by kernel_rfl) ?_ _
                have hbF := hbW2.trans (hHeld.mono hbW2.size)
                go_wp2_with fail
                go_roundw
                case rel => exact ⟨k + 1, by omega, by go_num, hbF⟩
                case measure => simp [intOf]; omega
              · have hone : oneK x.k = 0 := if_neg h4
                have hd5 : decide (x.k ≤ 4) = false := by simpa using h4
                rw [hone] at hcg
                obtain ⟨W2, hW2⟩ : ∃ W, W = W1.alloc (.cells #[.int .i64 0, .int .i64 0, .int .i64 0, .int .i64 0, .slice none 0 0, .slice none 0 0] 46) := ⟨_, rfl⟩
                have hb2 : Below W1.heap.size W1 W2 := by rw [hW2]; exact (Below.refl _ _).alloc (Nat.le_refl _) _
                have g2 : W2.heap[wr.heap.size + 1]? = some (.cells #[.int .i64 0, .int .i64 0, .int .i64 0, .int .i64 0, .slice none 0 0, .slice none 0 0] 46 (0, 0)) := by rw [hW2, ← hz1]; exact heap_alloc_new W1 _
                have p1 := (hb2.block wr.heap.size (by omega)).trans g1
                have hz2 : wr.heap.size + 1 < W2.heap.size := (Array.getElem?_eq_some_iff.1 g2).1
                have hz3 : wr.heap.size < W2.heap.size := (Array.getElem?_eq_some_iff.1 p1).1
                have hbW2 := hbW1.trans (hb2.mono hbW1.size)
                go_wp2_with fail
                rw [← hW1]
                clear hW1 d0 d1 d2 d3 d4 d5
                go_wp2_with fail
                rw [← hW2]
                clear hW2
                refine wp_calm ?_
                refine wp_region_held_drew (S := (fun w' => Below W2.heap.size W2 w')) (by kernel_rfl) ?_ (fun hHeld => ?_)
                · exact (Below.refl _ _).drew
                refine take_on (i := 0) (v := ?_) rfl rfl (by kernel_rfl) (by kernel_rfl) (by kernel_rfl) (fun _ _ _ h => h) rfl ?_ hHeld ?_
                rotate_left
                · (intro wq hSq; have q0 : wq.cell? ⟨wr.heap.size, 0, none⟩ = _ := cell_of_row _ _ _ _ _ _ ((hSq.block wr.heap.size hz3).trans p1); have q1 : wq.cell? ⟨wr.heap.size, 1, none⟩ = _ := cell_of_row _ _ _ _ _ _ ((hSq.block wr.heap.size hz3).trans p1); have q2 : wq.cell? ⟨wr.heap.size, 2, none⟩ = _ := cell_of_row _ _ _ _ _ _ ((hSq.block wr.heap.size hz3).trans p1); have q3 : wq.cell? ⟨wr.heap.size, 3, none⟩ = _ := cell_of_row _ _ _ _ _ _ ((hSq.block wr.heap.size hz3).trans p1); have q4 : wq.cell? ⟨wr.heap.size, 4, none⟩ = _ := cell_of_row _ _ _ _ _ _ ((hSq.block wr.heap.size hz3).trans p1); have q5 : wq.cell? ⟨wr.heap.size, 5, none⟩ = _ := cell_of_row _ _ _ _ _ _ ((hSq.block wr.heap.size hz3).trans p1); have r0 : wq.cell? ⟨wr.heap.size + 1, 0, none⟩ = _ := cell_of_row _ _ _ _ _ _ ((hSq.block (wr.heap.size + 1) hz2).trans g2); have r1 : wq.cell? ⟨wr.heap.size + 1, 1, none⟩ = _ := cell_of_row _ _ _ _ _ _ ((hSq.block (wr.heap.size + 1) hz2).trans g2); have r2 : wq.cell? ⟨wr.heap.size + 1, 2, none⟩ = _ := cell_of_row _ _ _ _ _ _ ((hSq.block (wr.heap.size + 1) hz2).trans g2); have r3 : wq.cell? ⟨wr.heap.size + 1, 3, none⟩ = _ := cell_of_row _ _ _ _ _ _ ((hSq.block (wr.heap.size + 1) hz2).trans g2); have r4 : wq.cell? ⟨wr.heap.size + 1, 4, none⟩ = _ := cell_of_row _ _ _ _ _ _ ((hSq.block (wr.heap.size + 1) hz2).trans g2); have r5 : wq.cell? ⟨wr.heap.size + 1, 5, none⟩ = _ := cell_of_row _ _ _ _ _ _ ((hSq.block (wr.heap.size + 1) hz2).trans g2); go_simp <;> first | with_reducible rfl | rfl)
                simp only [Act.put, List.setIfInBounds_toArray, List.set_cons_zero, List.set_cons_succ]
                refine take_on (i := 1) (v := ?_) rfl rfl (by kernel_rfl) (by kernel_rfl) (by kernel_rfl) (fun _ _ _ h => h) rfl ?_ hHeld ?_
                rotate_left
                · (intro wq hSq; have q0 : wq.cell? ⟨wr.heap.size, 0, none⟩ = _ := cell_of_row _ _ _ _ _ _ ((hSq.block wr.heap.size hz3).trans p1); have q1 : wq.cell? ⟨wr.heap.size, 1, none⟩ = _ := cell_of_row _ _ _ _ _ _ ((hSq.block wr.heap.size hz3).trans p1); have q2 : wq.cell? ⟨wr.heap.size, 2, none⟩ = _ := cell_of_row _ _ _ _ _ _ ((hSq.block wr.heap.size hz3).trans p1); have q3 : wq.cell? ⟨wr.heap.size, 3, none⟩ = _ := cell_of_row _ _ _ _ _ _ ((hSq.block wr.heap.size hz3).trans p1); have q4 : wq.cell? ⟨wr.heap.size, 4, none⟩ = _ := cell_of_row _ _ _ _ _ _ ((hSq.block wr.heap.size hz3).trans p1); have q5 : wq.cell? ⟨wr.heap.size, 5, none⟩ = _ := cell_of_row _ _ _ _ _ _ ((hSq.block wr.heap.size hz3).trans p1); have r0 : wq.cell? ⟨wr.heap.size + 1, 0, none⟩ = _ := cell_of_row _ _ _ _ _ _ ((hSq.block (wr.heap.size + 1) hz2).trans g2); have r1 : wq.cell? ⟨wr.heap.size + 1, 1, none⟩ = _ := cell_of_row _ _ _ _ _ _ ((hSq.block (wr.heap.size + 1) hz2).trans g2); have r2 : wq.cell? ⟨wr.heap.size + 1, 2, none⟩ = _ := cell_of_row _ _ _ _ _ _ ((hSq.block (wr.heap.size + 1) hz2).trans g2); have r3 : wq.cell? ⟨wr.heap.size + 1, 3, none⟩ = _ := cell_of_row _ _ _ _ _ _ ((hSq.block (wr.heap.size + 1) hz2).trans g2); have r4 : wq.cell? ⟨wr.heap.size + 1, 4, none⟩ = _ := cell_of_row _ _ _ _ _ _ ((hSq.block (wr.heap.size + 1) hz2).trans g2); have r5 : wq.cell? ⟨wr.heap.size + 1, 5, none⟩ = _ := cell_of_row _ _ _ _ _ _ ((hSq.block (wr.heap.size + 1) hz2).trans g2); go_simp <;> first | with_reducible rfl | rfl)
                simp only [Act.put, List.setIfInBounds_toArray, List.set_cons_zero, List.set_cons_succ]
                refine take_on (i := 2) (v := ?_) rfl rfl (by kernel_rfl) (by kernel_rfl) (by kernel_rfl) (fun _ _ _ h => h) rfl ?_ hHeld ?_
                rotate_left
                · (intro wq hSq; have q0 : wq.cell? ⟨wr.heap.size, 0, none⟩ = _ := cell_of_row _ _ _ _ _ _ ((hSq.block wr.heap.size hz3).trans p1); have q1 : wq.cell? ⟨wr.heap.size, 1, none⟩ = _ := cell_of_row _ _ _ _ _ _ ((hSq.block wr.heap.size hz3).trans p1); have q2 : wq.cell? ⟨wr.heap.size, 2, none⟩ = _ := cell_of_row _ _ _ _ _ _ ((hSq.block wr.heap.size hz3).trans p1); have q3 : wq.cell? ⟨wr.heap.size, 3, none⟩ = _ := cell_of_row _ _ _ _ _ _ ((hSq.block wr.heap.size hz3).trans p1); have q4 : wq.cell? ⟨wr.heap.size, 4, none⟩ = _ := cell_of_row _ _ _ _ _ _ ((hSq.block wr.heap.size hz3).trans p1); have q5 : wq.cell? ⟨wr.heap.size, 5, none⟩ = _ := cell_of_row _ _ _ _ _ _ ((hSq.block wr.heap.size hz3).trans p1); have r0 : wq.cell? ⟨wr.heap.size + 1, 0, none⟩ = _ := cell_of_row _ _ _ _ _ _ ((hSq.block (wr.heap.size + 1) hz2).trans g2); have r1 : wq.cell? ⟨wr.heap.size + 1, 1, none⟩ = _ := cell_of_row _ _ _ _ _ _ ((hSq.block (wr.heap.size + 1) hz2).trans g2); have r2 : wq.cell? ⟨wr.heap.size + 1, 2, none⟩ = _ := cell_of_row _ _ _ _ _ _ ((hSq.block (wr.heap.size + 1) hz2).trans g2); have r3 : wq.cell? ⟨wr.heap.size + 1, 3, none⟩ = _ := cell_of_row _ _ _ _ _ _ ((hSq.block (wr.heap.size + 1) hz2).trans g2); have r4 : wq.cell? ⟨wr.heap.size + 1, 4, none⟩ = _ := cell_of_row _ _ _ _ _ _ ((hSq.block (wr.heap.size + 1) hz2).trans g2); have r5 : wq.cell? ⟨wr.heap.size + 1, 5, none⟩ = _ := cell_of_row _ _ _ _ _ _ ((hSq.block (wr.heap.size + 1) hz2).trans g2); go_simp <;> first | with_reducible rfl | rfl)
                simp only [Act.put, List.setIfInBounds_toArray, List.set_cons_zero, List.set_cons_succ]
                refine take_on (i := 4) (v := ?_) rfl rfl (by kernel_rfl) (by kernel_rfl) (by kernel_rfl) (fun _ _ _ h => h) rfl ?_ hHeld ?_
                rotate_left
                · (intro wq hSq; have q0 : wq.cell? ⟨wr.heap.size, 0, none⟩ = _ := cell_of_row _ _ _ _ _ _ ((hSq.block wr.heap.size hz3).trans p1); have q1 : wq.cell? ⟨wr.heap.size, 1, none⟩ = _ := cell_of_row _ _ _ _ _ _ ((hSq.block wr.heap.size hz3).trans p1); have q2 : wq.cell? ⟨wr.heap.size, 2, none⟩ = _ := cell_of_row _ _ _ _ _ _ ((hSq.block wr.heap.size hz3).trans p1); have q3 : wq.cell? ⟨wr.heap.size, 3, none⟩ = _ := cell_of_row _ _ _ _ _ _ ((hSq.block wr.heap.size hz3).trans p1); have q4 : wq.cell? ⟨wr.heap.size, 4, none⟩ = _ := cell_of_row _ _ _ _ _ _ ((hSq.block wr.heap.size hz3).trans p1); have q5 : wq.cell? ⟨wr.heap.size, 5, none⟩ = _ := cell_of_row _ _ _ _ _ _ ((hSq.block wr.heap.size hz3).trans p1); have r0 : wq.cell? ⟨wr.heap.size + 1, 0, none⟩ = _ := cell_of_row _ _ _ _ _ _ ((hSq.block (wr.heap.size + 1) hz2).trans g2); have r1 : wq.cell? ⟨wr.heap.size + 1, 1, none⟩ = _ := cell_of_row _ _ _ _ _ _ ((hSq.block (wr.heap.size + 1) hz2).trans g2); have r2 : wq.cell? ⟨wr.heap.size + 1, 2, none⟩ = _ := cell_of_row _ _ _ _ _ _ ((hSq.block (wr.heap.size + 1) hz2).trans g2); have r3 : wq.cell? ⟨wr.heap.size + 1, 3, none⟩ = _ := cell_of_row _ _ _ _ _ _ ((hSq.block (wr.heap.size + 1) hz2).trans g2); have r4 : wq.cell? ⟨wr.heap.size + 1, 4, none⟩ = _ := cell_of_row _ _ _ _ _ _ ((hSq.block (wr.heap.size + 1) hz2).trans g2); have r5 : wq.cell? ⟨wr.heap.size + 1, 5, none⟩ = _ := cell_of_row _ _ _ _ _ _ ((hSq.block (wr.heap.size + 1) hz2).trans g2); go_simp <;> first | with_reducible rfl | rfl)
                simp only [Act.put, List.setIfInBounds_toArray, List.set_cons_zero, List.set_cons_succ]
                refine take_one (i := 3) rfl (by kernel_rfl) (fun K hK => ?_)
                go_simp
                refine (hcg _).mono ?_; rintro e y1 ⟨⟨v, rfl, hA⟩, hbA⟩
                try go_wp2_with fail
                refine hK.out _ _ ?_ (fun hHeld => ?_)
                · exact hHeld.trans hbA
                clear hK K
                try simp only [Act.put, List.setIfInBounds_toArray, List.set_cons_zero, List.set_cons_succ]
                refine take_one (i := 5) rfl (by kernel_rfl) (fun K hK => ?_)
                go_simp
                refine (alikeW_same v _ _ 0 0 0 [] [] [] _ hA (AnsW.zero _ _) rfl (by simp) (by simp)).mono ?_; rintro e y2 ⟨rfl, hbB⟩
                try go_wp2_with fail
                refine hK.out _ _ ?_ (fun hHeld => ?_)
                · exact hHeld.trans (hbB.mono hHeld.size)
                clear hK K
                try simp only [Act.put, List.setIfInBounds_toArray, List.set_cons_zero, List.set_cons_succ]
                refine take_on (i := 6) (v := ?_) rfl rfl (by kernel_rfl) (by kernel_rfl) (by kernel_rfl) (fun _ _ _ h => h) rfl ?_ hHeld ?_
                rotate_left
                · (intro wq hSq; have q0 : wq.cell? ⟨wr.heap.size, 0, none⟩ = _ := cell_of_row _ _ _ _ _ _ ((hSq.block wr.heap.size hz3).trans p1); have q1 : wq.cell? ⟨wr.heap.size, 1, none⟩ = _ := cell_of_row _ _ _ _ _ _ ((hSq.block wr.heap.size hz3).trans p1); have q2 : wq.cell? ⟨wr.heap.size, 2, none⟩ = _ := cell_of_row _ _ _ _ _ _ ((hSq.block wr.heap.size hz3).trans p1); have q3 : wq.cell? ⟨wr.heap.size, 3, none⟩ = _ := cell_of_row _ _ _ _ _ _ ((hSq.block wr.heap.size hz3).trans p1); have q4 : wq.cell? ⟨wr.heap.size, 4, none⟩ = _ := cell_of_row _ _ _ _ _ _ ((hSq.block wr.heap.size hz3).trans p1); have q5 : wq.cell? ⟨wr.heap.size, 5, none⟩ = _ := cell_of_row _ _ _ _ _ _ ((hSq.block wr.heap.size hz3).trans p1); have r0 : wq.cell? ⟨wr.heap.size + 1, 0, none⟩ = _ := cell_of_row _ _ _ _ _ _ ((hSq.block (wr.heap.size + 1) hz2).trans g2); have r1 : wq.cell? ⟨wr.heap.size + 1, 1, none⟩ = _ := cell_of_row _ _ _ _ _ _ ((hSq.block (wr.heap.size + 1) hz2).trans g2); have r2 : wq.cell? ⟨wr.heap.size + 1, 2, none⟩ = _ := cell_of_row _ _ _ _ _ _ ((hSq.block (wr.heap.size + 1) hz2).trans g2); have r3 : wq.cell? ⟨wr.heap.size + 1, 3, none⟩ = _ := cell_of_row _ _ _ _ _ _ ((hSq.block (wr.heap.size + 1) hz2).trans g2); have r4 : wq.cell? ⟨wr.heap.size + 1, 4, none⟩ = _ := cell_of_row _ _ _ _ _ _ ((hSq.block (wr.heap.size + 1) hz2).trans g2); have r5 : wq.cell? ⟨wr.heap.size + 1, 5, none⟩ = _ := cell_of_row _ _ _ _ _ _ ((hSq.block (wr.heap.size + 1) hz2).trans g2); go_simp <;> first | with_reducible rfl | rfl)
                simp only [Act.put, List.setIfInBounds_toArray, List.set_cons_zero, List.set_cons_succ]
                refine wpAnyH_done (by kernel_rfl) ?_ _
                have hbF := hbW2.trans (hHeld.mono hbW2.size)
                go_wp2_with fail
                go_roundw
                case rel => exact ⟨k + 1, by omega, by go_num, hbF⟩
                case measure => simp [intOf]; omega
          · have hd : decide ((k : Int) < (n2 : Int)) = false := by simp; omega
            go_wp2_with fail
            go_ret
            exact ⟨rfl, hbw⟩
      · have hd1 : decide (x1 < 0) = false := by simp; omega
        have hd2 : decide ((N : Int) ≤ x1) = true := by simp; omega
        go_wp2_with fail
        go_loopw [76] (fun iv wr => ∃ k : Nat, k ≤ n2 ∧ iv = .int .i64 (k : Int) ∧ Below w.heap.size w wr) (fun iv _ => n2 - (intOf iv).toNat)
        case atStart => exact ⟨0, Nat.zero_le _, rfl, hbw4⟩
        case round =>
          obtain ⟨k, hk, rfl, hbw⟩ := hrel
          by_cases hlt : k < n2
          · have hd : decide ((k : Int) < (n2 : Int)) = true := by simp; omega
            obtain ⟨b, o, rfl, hbl, c0, c1, c2, c3, c4, c5⟩ := HC.out.row.here hlt
            generalize A2 k = x at *
            have d0 := (hbw.cell (p := ⟨b, o + k * 6, none⟩) hbl).trans c0
            have d1 := (hbw.cell (p := ⟨b, o + k * 6 + 1, none⟩) hbl).trans c1
            have d2 := (hbw.cell (p := ⟨b, o + k * 6 + 2, none⟩) hbl).trans c2
            have d3 := (hbw.cell (p := ⟨b, o + k * 6 + 3, none⟩) hbl).trans c3
            have d4 := (hbw.cell (p := ⟨b, o + k * 6 + 4, none⟩) hbl).trans c4
            have d5 := (hbw.cell (p := ⟨b, o + k * 6 + 5, none⟩) hbl).trans c5
            have hs := hbw.size
            clear c0 c1 c2 c3 c4 c5
            obtain ⟨W1, hW1⟩ : ∃ W, W = wr.alloc (.cells #[.int .i64 x.k, .int .i64 x.i, .int .i64 x.a, .slice x.esa x.esn x.esc, .slice x.p.a x.p.p.length x.p.c, .slice x.fa x.fn x.fc] 42) := ⟨_, rfl⟩
            have hb1 : Below wr.heap.size wr W1 := by rw [hW1]; exact (Below.refl _ _).alloc (Nat.le_refl _) _
            have g1 : W1.heap[wr.heap.size]? = some (.cells #[.int .i64 x.k, .int .i64 x.i, .int .i64 x.a, .slice x.esa x.esn x.esc, .slice x.p.a x.p.p.length x.p.c, .slice x.fa x.fn x.fc] 42 (0, 0)) := by rw [hW1]; exact heap_alloc_new wr _
            have hbW1 := hbw.trans (hb1.mono hs)
            have f0 : W1.cell? ⟨wr.heap.size, 0, none⟩ = some (.int .i64 x.k) := cell_of_row _ _ _ _ _ _ g1
            have hz1 : W1.heap.size = wr.heap.size + 1 := by rw [hW1]; simp
            by_cases hkb : x.k < 0 ∨ 6 < x.k
            · rcases hkb with hkb | hkb
              · have hd3 : decide (x.k < 0) = true := by simpa using hkb
                go_wp2_with fail
                rw [← hW1]
                clear hW1 d0 d1 d2 d3 d4 d5
                go_wp2_with fail
                go_roundw
                case rel => exact ⟨k + 1, by omega, by go_num, hbW1⟩
                case measure => simp [intOf]; omega
              · have hd3 : decide (x.k < 0) = false := by simp; omega
                have hd4 : decide (6 < x.k) = true := by simpa using hkb
                go_wp2_with fail
                rw [← hW1]
                clear hW1 d0 d1 d2 d3 d4 d5
                go_wp2_with fail
                go_roundw
                case rel => exact ⟨k + 1, by omega, by go_num, hbW1⟩
                case measure => simp [intOf]; omega
            · have hd3 : decide (x.k < 0) = false := by simp; omega
              have hd4 : decide (6 < x.k) = false := by simp; omega
              have hcg := fun w => call_gone (.pointer (some ⟨p, 0, none⟩)) x w (by omega) (by omega)
              by_cases h4 : x.k ≤ 4
              · have hone : oneK x.k = 1 := if_pos h4
                have hd5 : decide (x.k ≤ 4) = true := by simpa using h4
                rw [hone] at hcg
                obtain ⟨W2, hW2⟩ : ∃ W, W = W1.alloc (.cells #[.int .i64 1, .int .i64 0, .int .i64 0, .int .i64 0, .slice none 0 0, .slice none 0 0] 46) := ⟨_, rfl⟩
                have hb2 : Below W1.heap.size W1 W2 := by rw [hW2]; exact (Below.refl _ _).alloc (Nat.le_refl _) _
                have g2 : W2.heap[wr.heap.size + 1]? = some (.cells #[.int .i64 1, .int .i64 0, .int .i64 0, .int .i64 0, .slice none 0 0, .slice none 0 0] 46 (0, 0)) := by
                  rw [hW2, ← hz1]; exact heap_alloc_new W1 _
                have p1 := (hb2.block wr.heap.size (by omega)).trans g1
                have hz2 : wr.heap.size + 1 < W2.heap.size := (Array.getElem?_eq_some_iff.1 g2).1
                have hz3 : wr.heap.size < W2.heap.size := (Array.getElem?_eq_some_iff.1 p1).1
                have hbW2 := hbW1.trans (hb2.mono hbW1.size)
                go_wp2_with fail
                rw [← hW1]
                clear hW1 d0 d1 d2 d3 d4 d5
                go_wp2_with fail
                rw [← hW2]
                clear hW2
                refine wp_calm ?_
                refine wp_region_held_drew (S := (fun w' => Below W2.heap.size W2 w')) (by kernel_rfl) ?_ (fun hHeld => ?_)
                · exact (Below.refl _ _).drew
                refine take_on (i := 0) (v := ?_) rfl rfl (by kernel_rfl) (by kernel_rfl) (by kernel_rfl) (fun _ _ _ h => h) rfl ?_ hHeld ?_
                rotate_left
                · (intro wq hSq; have q0 : wq.cell? ⟨wr.heap.size, 0, none⟩ = _ := cell_of_row _ _ _ _ _ _ ((hSq.block wr.heap.size hz3).trans p1); have q1 : wq.cell? ⟨wr.heap.size, 1, none⟩ = _ := cell_of_row _ _ _ _ _ _ ((hSq.block wr.heap.size hz3).trans p1); have q2 : wq.cell? ⟨wr.heap.size, 2, none⟩ = _ := cell_of_row _ _ _ _ _ _ ((hSq.block wr.heap.size hz3).trans p1); have q3 : wq.cell? ⟨wr.heap.size, 3, none⟩ = _ := cell_of_row _ _ _ _ _ _ ((hSq.block wr.heap.size hz3).trans p1); have q4 : wq.cell? ⟨wr.heap.size, 4, none⟩ = _ := cell_of_row _ _ _ _ _ _ ((hSq.block wr.heap.size hz3).trans p1); have q5 : wq.cell? ⟨wr.heap.size, 5, none⟩ = _ := cell_of_row _ _ _ _ _ _ ((hSq.block wr.heap.size hz3).trans p1); have r0 : wq.cell? ⟨wr.heap.size + 1, 0, none⟩ = _ := cell_of_row _ _ _ _ _ _ ((hSq.block (wr.heap.size + 1) hz2).trans g2); have r1 : wq.cell? ⟨wr.heap.size + 1, 1, none⟩ = _ := cell_of_row _ _ _ _ _ _ ((hSq.block (wr.heap.size + 1) hz2).trans g2); have r2 : wq.cell? ⟨wr.heap.size + 1, 2, none⟩ = _ := cell_of_row _ _ _ _ _ _ ((hSq.block (wr.heap.size + 1) hz2).trans g2); have r3 : wq.cell? ⟨wr.heap.size + 1, 3, none⟩ = _ := cell_of_row _ _ _ _ _ _ ((hSq.block (wr.heap.size + 1) hz2).trans g2); have r4 : wq.cell? ⟨wr.heap.size + 1, 4, none⟩ = _ := cell_of_row _ _ _ _ _ _ ((hSq.block (wr.heap.size + 1) hz2).trans g2); have r5 : wq.cell? ⟨wr.heap.size + 1, 5, none⟩ = _ := cell_of_row _ _ _ _ _ _ ((hSq.block (wr.heap.size + 1) hz2).trans g2); go_simp <;> first | with_reducible rfl | rfl)
                simp only [Act.put, List.setIfInBounds_toArray, List.set_cons_zero, List.set_cons_succ]
                refine take_on (i := 1) (v := ?_) rfl rfl (by kernel_rfl) (by kernel_rfl) (by kernel_rfl) (fun _ _ _ h => h) rfl ?_ hHeld ?_
                rotate_left
                · (intro wq hSq; have q0 : wq.cell? ⟨wr.heap.size, 0, none⟩ = _ := cell_of_row _ _ _ _ _ _ ((hSq.block wr.heap.size hz3).trans p1); have q1 : wq.cell? ⟨wr.heap.size, 1, none⟩ = _ := cell_of_row _ _ _ _ _ _ ((hSq.block wr.heap.size hz3).trans p1); have q2 : wq.cell? ⟨wr.heap.size, 2, none⟩ = _ := cell_of_row _ _ _ _ _ _ ((hSq.block wr.heap.size hz3).trans p1); have q3 : wq.cell? ⟨wr.heap.size, 3, none⟩ = _ := cell_of_row _ _ _ _ _ _ ((hSq.block wr.heap.size hz3).trans p1); have q4 : wq.cell? ⟨wr.heap.size, 4, none⟩ = _ := cell_of_row _ _ _ _ _ _ ((hSq.block wr.heap.size hz3).trans p1); have q5 : wq.cell? ⟨wr.heap.size, 5, none⟩ = _ := cell_of_row _ _ _ _ _ _ ((hSq.block wr.heap.size hz3).trans p1); have r0 : wq.cell? ⟨wr.heap.size + 1, 0, none⟩ = _ := cell_of_row _ _ _ _ _ _ ((hSq.block (wr.heap.size + 1) hz2).trans g2); have r1 : wq.cell? ⟨wr.heap.size + 1, 1, none⟩ = _ := cell_of_row _ _ _ _ _ _ ((hSq.block (wr.heap.size + 1) hz2).trans g2); have r2 : wq.cell? ⟨wr.heap.size + 1, 2, none⟩ = _ := cell_of_row _ _ _ _ _ _ ((hSq.block (wr.heap.size + 1) hz2).trans g2); have r3 : wq.cell? ⟨wr.heap.size + 1, 3, none⟩ = _ := cell_of_row _ _ _ _ _ _ ((hSq.block (wr.heap.size + 1) hz2).trans g2); have r4 : wq.cell? ⟨wr.heap.size + 1, 4, none⟩ = _ := cell_of_row _ _ _ _ _ _ ((hSq.block (wr.heap.size + 1) hz2).trans g2); have r5 : wq.cell? ⟨wr.heap.size + 1, 5, none⟩ = _ := cell_of_row _ _ _ _ _ _ ((hSq.block (wr.heap.size + 1) hz2).trans g2); go_simp <;> first | with_reducible rfl | rfl)
                simp only [Act.put, List.setIfInBounds_toArray, List.set_cons_zero, List.set_cons_succ]
                refine take_on (i := 2) (v := ?_) rfl rfl (by kernel_rfl) (by kernel_rfl) (by kernel_rfl) (fun _ _ _ h => h) rfl ?_ hHeld ?_
                rotate_left
                · (intro wq hSq; have q0 : wq.cell? ⟨wr.heap.size, 0, none⟩ = _ := cell_of_row _ _ _ _ _ _ ((hSq.block wr.heap.size hz3).trans p1); have q1 : wq.cell? ⟨wr.heap.size, 1, none⟩ = _ := cell_of_row _ _ _ _ _ _ ((hSq.block wr.heap.size hz3).trans p1); have q2 : wq.cell? ⟨wr.heap.size, 2, none⟩ = _ := cell_of_row _ _ _ _ _ _ ((hSq.block wr.heap.size hz3).trans p1); have q3 : wq.cell? ⟨wr.heap.size, 3, none⟩ = _ := cell_of_row _ _ _ _ _ _ ((hSq.block wr.heap.size hz3).trans p1); have q4 : wq.cell? ⟨wr.heap.size, 4, none⟩ = _ := cell_of_row _ _ _ _ _ _ ((hSq.block wr.heap.size hz3).trans p1); have q5 : wq.cell? ⟨wr.heap.size, 5, none⟩ = _ := cell_of_row _ _ _ _ _ _ ((hSq.block wr.heap.size hz3).trans p1); have r0 : wq.cell? ⟨wr.heap.size + 1, 0, none⟩ = _ := cell_of_row _ _ _ _ _ _ ((hSq.block (wr.heap.size + 1) hz2).trans g2); have r1 : wq.cell? ⟨wr.heap.size + 1, 1, none⟩ = _ := cell_of_row _ _ _ _ _ _ ((hSq.block (wr.heap.size + 1) hz2).trans g2); have r2 : wq.cell? ⟨wr.heap.size + 1, 2, none⟩ = _ := cell_of_row _ _ _ _ _ _ ((hSq.block (wr.heap.size + 1) hz2).trans g2); have r3 : wq.cell? ⟨wr.heap.size + 1, 3, none⟩ = _ := cell_of_row _ _ _ _ _ _ ((hSq.block (wr.heap.size + 1) hz2).trans g2); have r4 : wq.cell? ⟨wr.heap.size + 1, 4, none⟩ = _ := cell_of_row _ _ _ _ _ _ ((hSq.block (wr.heap.size + 1) hz2).trans g2); have r5 : wq.cell? ⟨wr.heap.size + 1, 5, none⟩ = _ := cell_of_row _ _ _ _ _ _ ((hSq.block (wr.heap.size + 1) hz2).trans g2); go_simp <;> first | with_reducible rfl | rfl)
                simp only [Act.put, List.setIfInBounds_toArray, List.set_cons_zero, List.set_cons_succ]
                refine take_on (i := 4) (v := ?_) rfl rfl (by kernel_rfl) (by kernel_rfl) (by kernel_rfl) (fun _ _ _ h => h) rfl ?_ hHeld ?_
                rotate_left
                · (intro wq hSq; have q0 : wq.cell? ⟨wr.heap.size, 0, none⟩ = _ := cell_of_row _ _ _ _ _ _ ((hSq.block wr.heap.size hz3).trans p1); have q1 : wq.cell? ⟨wr.heap.size, 1, none⟩ = _ := cell_of_row _ _ _ _ _ _ ((hSq.block wr.heap.size hz3).trans p1); have q2 : wq.cell? ⟨wr.heap.size, 2, none⟩ = _ := cell_of_row _ _ _ _ _ _ ((hSq.block wr.heap.size hz3).trans p1); have q3 : wq.cell? ⟨wr.heap.size, 3, none⟩ = _ := cell_of_row _ _ _ _ _ _ ((hSq.block wr.heap.size hz3).trans p1); have q4 : wq.cell? ⟨wr.heap.size, 4, none⟩ = _ := cell_of_row _ _ _ _ _ _ ((hSq.block wr.heap.size hz3).trans p1); have q5 : wq.cell? ⟨wr.heap.size, 5, none⟩ = _ := cell_of_row _ _ _ _ _ _ ((hSq.block wr.heap.size hz3).trans p1); have r0 : wq.cell? ⟨wr.heap.size + 1, 0, none⟩ = _ := cell_of_row _ _ _ _ _ _ ((hSq.block (wr.heap.size + 1) hz2).trans g2); have r1 : wq.cell? ⟨wr.heap.size + 1, 1, none⟩ = _ := cell_of_row _ _ _ _ _ _ ((hSq.block (wr.heap.size + 1) hz2).trans g2); have r2 : wq.cell? ⟨wr.heap.size + 1, 2, none⟩ = _ := cell_of_row _ _ _ _ _ _ ((hSq.block (wr.heap.size + 1) hz2).trans g2); have r3 : wq.cell? ⟨wr.heap.size + 1, 3, none⟩ = _ := cell_of_row _ _ _ _ _ _ ((hSq.block (wr.heap.size + 1) hz2).trans g2); have r4 : wq.cell? ⟨wr.heap.size + 1, 4, none⟩ = _ := cell_of_row _ _ _ _ _ _ ((hSq.block (wr.heap.size + 1) hz2).trans g2); have r5 : wq.cell? ⟨wr.heap.size + 1, 5, none⟩ = _ := cell_of_row _ _ _ _ _ _ ((hSq.block (wr.heap.size + 1) hz2).trans g2); go_simp <;> first | with_reducible rfl | rfl)
                simp only [Act.put, List.setIfInBounds_toArray, List.set_cons_zero, List.set_cons_succ]
                refine take_one (i := 3) rfl (by kernel_rfl) (fun K hK => ?_)
                go_simp
                refine (hcg _).mono ?_; rintro e y1 ⟨⟨v, rfl, hA⟩, hbA⟩
                try go_wp2_with fail
                refine hK.out _ _ ?_ (fun hHeld => ?_)
                · exact hHeld.trans hbA
                clear hK K
                try simp only [Act.put, List.setIfInBounds_toArray, List.set_cons_zero, List.set_cons_succ]
                refine take_one (i := 5) rfl (by kernel_rfl) (fun K hK => ?_)
                go_simp
                refine (alikeW_same v _ _ 0 0 0 [] [] [] _ hA (AnsW.zero _ _) rfl (by simp) (by simp)).mono ?_; rintro e y2 ⟨rfl, hbB⟩
                try go_wp2_with fail
                refine hK.out _ _ ?_ (fun hHeld => ?_)
                · exact hHeld.trans (hbB.mono hHeld.size)
                clear hK K
                try simp only [Act.put, List.setIfInBounds_toArray, List.set_cons_zero, List.set_cons_succ]
                refine take_on (i := 6) (v := ?_) rfl rfl (by kernel_rfl) (by kernel_rfl) (by kernel_rfl) (fun _ _ _ h => h) rfl ?_ hHeld ?_
                rotate_left
                · (intro wq hSq; have q0 : wq.cell? ⟨wr.heap.size, 0, none⟩ = _ := cell_of_row _ _ _ _ _ _ ((hSq.block wr.heap.size hz3).trans p1); have q1 : wq.cell? ⟨wr.heap.size, 1, none⟩ = _ := cell_of_row _ _ _ _ _ _ ((hSq.block wr.heap.size hz3).trans p1); have q2 : wq.cell? ⟨wr.heap.size, 2, none⟩ = _ := cell_of_row _ _ _ _ _ _ ((hSq.block wr.heap.size hz3).trans p1); have q3 : wq.cell? ⟨wr.heap.size, 3, none⟩ = _ := cell_of_row _ _ _ _ _ _ ((hSq.block wr.heap.size hz3).trans p1); have q4 : wq.cell? ⟨wr.heap.size, 4, none⟩ = _ := cell_of_row _ _ _ _ _ _ ((hSq.block wr.heap.size hz3).trans p1); have q5 : wq.cell? ⟨wr.heap.size, 5, none⟩ = _ := cell_of_row _ _ _ _ _ _ ((hSq.block wr.heap.size hz3).trans p1); have r0 : wq.cell? ⟨wr.heap.size + 1, 0, none⟩ = _ := cell_of_row _ _ _ _ _ _ ((hSq.block (wr.heap.size + 1) hz2).trans g2); have r1 : wq.cell? ⟨wr.heap.size + 1, 1, none⟩ = _ := cell_of_row _ _ _ _ _ _ ((hSq.block (wr.heap.size + 1) hz2).trans g2); have r2 : wq.cell? ⟨wr.heap.size + 1, 2, none⟩ = _ := cell_of_row _ _ _ _ _ _ ((hSq.block (wr.heap.size + 1) hz2).trans g2); have r3 : wq.cell? ⟨wr.heap.size + 1, 3, none⟩ = _ := cell_of_row _ _ _ _ _ _ ((hSq.block (wr.heap.size + 1) hz2).trans g2); have r4 : wq.cell? ⟨wr.heap.size + 1, 4, none⟩ = _ := cell_of_row _ _ _ _ _ _ ((hSq.block (wr.heap.size + 1) hz2).trans g2); have r5 : wq.cell? ⟨wr.heap.size + 1, 5, none⟩ = _ := cell_of_row _ _ _ _ _ _ ((hSq.block (wr.heap.size + 1) hz2).trans g2); go_simp <;> first | with_reducible rfl | rfl)
                simp only [Act.put, List.setIfInBounds_toArray, List.set_cons_zero, List.set_cons_succ]
                refine wpAnyH_done (by kernel_rfl) ?_ _
                have hbF := hbW2.trans (hHeld.mono hbW2.size)
                go_wp2_with fail
                go_roundw
                case rel => exact ⟨k + 1, by omega, by go_num, hbF⟩
                case measure => simp [intOf]; omega
              · have hone : oneK x.k = 0 := if_neg h4
                have hd5 : decide (x.k ≤ 4) = false := by simpa using h4
                rw [hone] at hcg
                obtain ⟨W2, hW2⟩ : ∃ W, W = W1.alloc (.cells #[.int .i64 0, .int .i64 0, .int .i64 0, .int .i64 0, .slice none 0 0, .slice none 0 0] 46) := ⟨_, rfl⟩
                have hb2 : Below W1.heap.size W1 W2 := by rw [hW2]; exact (Below.refl _ _).alloc (Nat.le_refl _) _
                have g2 : W2.heap[wr.heap.size + 1]? = some (.cells #[.int .i64 0, .int .i64 0, .int .i64 0, .int .i64 0, .slice none 0 0, .slice none 0 0] 46 (0, 0)) := by rw [hW2, ← hz1]; exact heap_alloc_new W1 _
                have p1 := (hb2.block wr.heap.size (by omega)).trans g1
                have hz2 : wr.heap.size + 1 < W2.heap.size := (Array.getElem?_eq_some_iff.1 g2).1
                have hz3 : wr.heap.size < W2.heap.size := (Array.getElem?_eq_some_iff.1 p1).1
                have hbW2 := hbW1.trans (hb2.mono hbW1.size)
                go_wp2_with fail
                rw [← hW1]
                clear hW1 d0 d1 d2 d3 d4 d5
                go_wp2_with fail
                rw [← hW2]
                clear hW2
                refine wp_calm ?_
                refine wp_region_held_drew (S := (fun w' => Below W2.heap.size W2 w')) (by kernel_rfl) ?_ (fun hHeld => ?_)
                · exact (Below.refl _ _).drew
                refine take_on (i := 0) (v := ?_) rfl rfl (by kernel_rfl) (by kernel_rfl) (by kernel_rfl) (fun _ _ _ h => h) rfl ?_ hHeld ?_
                rotate_left
                · (intro wq hSq; have q0 : wq.cell? ⟨wr.heap.size, 0, none⟩ = _ := cell_of_row _ _ _ _ _ _ ((hSq.block wr.heap.size hz3).trans p1); have q1 : wq.cell? ⟨wr.heap.size, 1, none⟩ = _ := cell_of_row _ _ _ _ _ _ ((hSq.block wr.heap.size hz3).trans p1); have q2 : wq.cell? ⟨wr.heap.size, 2, none⟩ = _ := cell_of_row _ _ _ _ _ _ ((hSq.block wr.heap.size hz3).trans p1); have q3 : wq.cell? ⟨wr.heap.size, 3, none⟩ = _ := cell_of_row _ _ _ _ _ _ ((hSq.block wr.heap.size hz3).trans p1); have q4 : wq.cell? ⟨wr.heap.size, 4, none⟩ = _ := cell_of_row _ _ _ _ _ _ ((hSq.block wr.heap.size hz3).trans p1); have q5 : wq.cell? ⟨wr.heap.size, 5, none⟩ = _ := cell_of_row _ _ _ _ _ _ ((hSq.block wr.heap.size hz3).trans p1); have r0 : wq.cell? ⟨wr.heap.size + 1, 0, none⟩ = _ := cell_of_row _ _ _ _ _ _ ((hSq.block (wr.heap.size + 1) hz2).trans g2); have r1 : wq.cell? ⟨wr.heap.size + 1, 1, none⟩ = _ := cell_of_row _ _ _ _ _ _ ((hSq.block (wr.heap.size + 1) hz2).trans g2); have r2 : wq.cell? ⟨wr.heap.size + 1, 2, none⟩ = _ := cell_of_row _ _ _ _ _ _ ((hSq.block (wr.heap.size + 1) hz2).trans g2); have r3 : wq.cell? ⟨wr.heap.size + 1, 3, none⟩ = _ := cell_of_row _ _ _ _ _ _ ((hSq.block (wr.heap.size + 1) hz2).trans g2); have r4 : wq.cell? ⟨wr.heap.size + 1, 4, none⟩ = _ := cell_of_row _ _ _ _ _ _ ((hSq.block (wr.heap.size + 1) hz2).trans g2); have r5 : wq.cell? ⟨wr.heap.size + 1, 5, none⟩ = _ := cell_of_row _ _ _ _ _ _ ((hSq.block (wr.heap.size + 1) hz2).trans g2); go_simp <;> first | with_reducible rfl | rfl)
                simp only [Act.put, List.setIfInBounds_toArray, List.set_cons_zero, List.set_cons_succ]
                refine take_on (i := 1) (v := ?_) rfl rfl (by kernel_rfl) (by kernel_rfl) (by kernel_rfl) (fun _ _ _ h => h) rfl ?_ hHeld ?_
                rotate_left
                · (intro wq hSq; have q0 : wq.cell? ⟨wr.heap.size, 0, none⟩ = _ := cell_of_row _ _ _ _ _ _ ((hSq.block wr.heap.size hz3).trans p1); have q1 : wq.cell? ⟨wr.heap.size, 1, none⟩ = _ := cell_of_row _ _ _ _ _ _ ((hSq.block wr.heap.size hz3).trans p1); have q2 : wq.cell? ⟨wr.heap.size, 2, none⟩ = _ := cell_of_row _ _ _ _ _ _ ((hSq.block wr.heap.size hz3).trans p1); have q3 : wq.cell? ⟨wr.heap.size, 3, none⟩ = _ := cell_of_row _ _ _ _ _ _ ((hSq.block wr.heap.size hz3).trans p1); have q4 : wq.cell? ⟨wr.heap.size, 4, none⟩ = _ := cell_of_row _ _ _ _ _ _ ((hSq.block wr.heap.size hz3).trans p1); have q5 : wq.cell? ⟨wr.heap.size, 5, none⟩ = _ := cell_of_row _ _ _ _ _ _ ((hSq.block wr.heap.size hz3).trans p1); have r0 : wq.cell? ⟨wr.heap.size + 1, 0, none⟩ = _ := cell_of_row _ _ _ _ _ _ ((hSq.block (wr.heap.size + 1) hz2).trans g2); have r1 : wq.cell? ⟨wr.heap.size + 1, 1, none⟩ = _ := cell_of_row _ _ _ _ _ _ ((hSq.block (wr.heap.size + 1) hz2).trans g2); have r2 : wq.cell? ⟨wr.heap.size + 1, 2, none⟩ = _ := cell_of_row _ _ _ _ _ _ ((hSq.block (wr.heap.size + 1) hz2).trans g2); have r3 : wq.cell? ⟨wr.heap.size + 1, 3, none⟩ = _ := cell_of_row _ _ _ _ _ _ ((hSq.block (wr.heap.size + 1) hz2).trans g2); have r4 : wq.cell? ⟨wr.heap.size + 1, 4, none⟩ = _ := cell_of_row _ _ _ _ _ _ ((hSq.block (wr.heap.size + 1) hz2).trans g2); have r5 : wq.cell? ⟨wr.heap.size + 1, 5, none⟩ = _ := cell_of_row _ _ _ _ _ _ ((hSq.block (wr.heap.size + 1) hz2).trans g2); go_simp <;> first | with_reducible rfl | rfl)
                simp only [Act.put, List.setIfInBounds_toArray, List.set_cons_zero, List.set_cons_succ]
                refine take_on (i := 2) (v := ?_) rfl rfl (by kernel_rfl) (by kernel_rfl) (by kernel_rfl) (fun _ _ _ h => h) rfl ?_ hHeld ?_
                rotate_left
                · (intro wq hSq; have q0 : wq.cell? ⟨wr.heap.size, 0, none⟩ = _ := cell_of_row _ _ _ _ _ _ ((hSq.block wr.heap.size hz3).trans p1); have q1 : wq.cell? ⟨wr.heap.size, 1, none⟩ = _ := cell_of_row _ _ _ _ _ _ ((hSq.block wr.heap.size hz3).trans p1); have q2 : wq.cell? ⟨wr.heap.size, 2, none⟩ = _ := cell_of_row _ _ _ _ _ _ ((hSq.block wr.heap.size hz3).trans p1); have q3 : wq.cell? ⟨wr.heap.size, 3, none⟩ = _ := cell_of_row _ _ _ _ _ _ ((hSq.block wr.heap.size hz3).trans p1); have q4 : wq.cell? ⟨wr.heap.size, 4, none⟩ = _ := cell_of_row _ _ _ _ _ _ ((hSq.block wr.heap.size hz3).trans p1); have q5 : wq.cell? ⟨wr.heap.size, 5, none⟩ = _ := cell_of_row _ _ _ _ _ _ ((hSq.block wr.heap.size hz3).trans p1); have r0 : wq.cell? ⟨wr.heap.size + 1, 0, none⟩ = _ := cell_of_row _ _ _ _ _ _ ((hSq.block (wr.heap.size + 1) hz2).trans g2); have r1 : wq.cell? ⟨wr.heap.size + 1, 1, none⟩ = _ := cell_of_row _ _ _ _ _ _ ((hSq.block (wr.heap.size + 1) hz2).trans g2); have r2 : wq.cell? ⟨wr.heap.size + 1, 2, none⟩ = _ := cell_of_row _ _ _ _ _ _ ((hSq.block (wr.heap.size + 1) hz2).trans g2); have r3 : wq.cell? ⟨wr.heap.size + 1, 3, none⟩ = _ := cell_of_row _ _ _ _ _ _ ((hSq.block (wr.heap.size + 1) hz2).trans g2); have r4 : wq.cell? ⟨wr.heap.size + 1, 4, none⟩ = _ := cell_of_row _ _ _ _ _ _ ((hSq.block (wr.heap.size + 1) hz2).trans g2); have r5 : wq.cell? ⟨wr.heap.size + 1, 5, none⟩ = _ := cell_of_row _ _ _ _ _ _ ((hSq.block (wr.heap.size + 1) hz2).trans g2); go_simp <;> first | with_reducible rfl | rfl)
                simp only [Act.put, List.setIfInBounds_toArray, List.set_cons_zero, List.set_cons_succ]
                refine take_on (i := 4) (v := ?_) rfl rfl (by kernel_rfl) (by kernel_rfl) (by kernel_rfl) (fun _ _ _ h => h) rfl ?_ hHeld ?_
                rotate_left
                · (intro wq hSq; have q0 : wq.cell? ⟨wr.heap.size, 0, none⟩ = _ := cell_of_row _ _ _ _ _ _ ((hSq.block wr.heap.size hz3).trans p1); have q1 : wq.cell? ⟨wr.heap.size, 1, none⟩ = _ := cell_of_row _ _ _ _ _ _ ((hSq.block wr.heap.size hz3).trans p1); have q2 : wq.cell? ⟨wr.heap.size, 2, none⟩ = _ := cell_of_row _ _ _ _ _ _ ((hSq.block wr.heap.size hz3).trans p1); have q3 : wq.cell? ⟨wr.heap.size, 3, none⟩ = _ := cell_of_row _ _ _ _ _ _ ((hSq.block wr.heap.size hz3).trans p1); have q4 : wq.cell? ⟨wr.heap.size, 4, none⟩ = _ := cell_of_row _ _ _ _ _ _ ((hSq.block wr.heap.size hz3).trans p1); have q5 : wq.cell? ⟨wr.heap.size, 5, none⟩ = _ := cell_of_row _ _ _ _ _ _ ((hSq.block wr.heap.size hz3).trans p1); have r0 : wq.cell? ⟨wr.heap.size + 1, 0, none⟩ = _ := cell_of_row _ _ _ _ _ _ ((hSq.block (wr.heap.size + 1) hz2).trans g2); have r1 : wq.cell? ⟨wr.heap.size + 1, 1, none⟩ = _ := cell_of_row _ _ _ _ _ _ ((hSq.block (wr.heap.size + 1) hz2).trans g2); have r2 : wq.cell? ⟨wr.heap.size + 1, 2, none⟩ = _ := cell_of_row _ _ _ _ _ _ ((hSq.block (wr.heap.size + 1) hz2).trans g2); have r3 : wq.cell? ⟨wr.heap.size + 1, 3, none⟩ = _ := cell_of_row _ _ _ _ _ _ ((hSq.block (wr.heap.size + 1) hz2).trans g2); have r4 : wq.cell? ⟨wr.heap.size + 1, 4, none⟩ = _ := cell_of_row _ _ _ _ _ _ ((hSq.block (wr.heap.size + 1) hz2).trans g2); have r5 : wq.cell? ⟨wr.heap.size + 1, 5, none⟩ = _ := cell_of_row _ _ _ _ _ _ ((hSq.block (wr.heap.size + 1) hz2).trans g2); go_simp <;> first | with_reducible rfl | rfl)
                simp only [Act.put, List.setIfInBounds_toArray, List.set_cons_zero, List.set_cons_succ]
                refine take_one (i := 3) rfl (by kernel_rfl) (fun K hK => ?_)
                go_simp
                refine (hcg _).mono ?_; rintro e y1 ⟨⟨v, rfl, hA⟩, hbA⟩
                try go_wp2_with fail
                refine hK.out _ _ ?_ (fun hHeld => ?_)
                · exact hHeld.trans hbA
                clear hK K
                try simp only [Act.put, List.setIfInBounds_toArray, List.set_cons_zero, List.set_cons_succ]
                refine take_one (i := 5) rfl (by kernel_rfl) (fun K hK => ?_)
                go_simp
                refine (alikeW_same v _ _ 0 0 0 [] [] [] _ hA (AnsW.zero _ _) rfl (by simp) (by simp)).mono ?_; rintro e y2 ⟨rfl, hbB⟩
                try go_wp2_with fail
                refine hK.out _ _ ?_ (fun hHeld => ?_)
                · exact hHeld.trans (hbB.mono hHeld.size)
                clear hK K
                try simp only [Act.put, List.setIfInBounds_toArray, List.set_cons_zero, List.set_cons_succ]
                refine take_on (i := 6) (v := ?_) rfl rfl (by kernel_rfl) (by kernel_rfl) (by kernel_rfl) (fun _ _ _ h => h) rfl ?_ hHeld ?_
                rotate_left
                · (intro wq hSq; have q0 : wq.cell? ⟨wr.heap.size, 0, none⟩ = _ := cell_of_row _ _ _ _ _ _ ((hSq.block wr.heap.size hz3).trans p1); have q1 : wq.cell? ⟨wr.heap.size, 1, none⟩ = _ := cell_of_row _ _ _ _ _ _ ((hSq.block wr.heap.size hz3).trans p1); have q2 : wq.cell? ⟨wr.heap.size, 2, none⟩ = _ := cell_of_row _ _ _ _ _ _ ((hSq.block wr.heap.size hz3).trans p1); have q3 : wq.cell? ⟨wr.heap.size, 3, none⟩ = _ := cell_of_row _ _ _ _ _ _ ((hSq.block wr.heap.size hz3).trans p1); have q4 : wq.cell? ⟨wr.heap.size, 4, none⟩ = _ := cell_of_row _ _ _ _ _ _ ((hSq.block wr.heap.size hz3).trans p1); have q5 : wq.cell? ⟨wr.heap.size, 5, none⟩ = _ := cell_of_row _ _ _ _ _ _ ((hSq.block wr.heap.size hz3).trans p1); have r0 : wq.cell? ⟨wr.heap.size + 1, 0, none⟩ = _ := cell_of_row _ _ _ _ _ _ ((hSq.block (wr.heap.size + 1) hz2).trans g2); have r1 : wq.cell? ⟨wr.heap.size + 1, 1, none⟩ = _ := cell_of_row _ _ _ _ _ _ ((hSq.block (wr.heap.size + 1) hz2).trans g2); have r2 : wq.cell? ⟨wr.heap.size + 1, 2, none⟩ = _ := cell_of_row _ _ _ _ _ _ ((hSq.block (wr.heap.size + 1) hz2).trans g2); have r3 : wq.cell? ⟨wr.heap.size + 1, 3, none⟩ = _ := cell_of_row _ _ _ _ _ _ ((hSq.block (wr.heap.size + 1) hz2).trans g2); have r4 : wq.cell? ⟨wr.heap.size + 1, 4, none⟩ = _ := cell_of_row _ _ _ _ _ _ ((hSq.block (wr.heap.size + 1) hz2).trans g2); have r5 : wq.cell? ⟨wr.heap.size + 1, 5, none⟩ = _ := cell_of_row _ _ _ _ _ _ ((hSq.block (wr.heap.size + 1) hz2).trans g2); go_simp <;> first | with_reducible rfl | rfl)
                simp only [Act.put, List.setIfInBounds_toArray, List.set_cons_zero, List.set_cons_succ]
                refine wpAnyH_done (by kernel_rfl) ?_ _
                have hbF := hbW2.trans (hHeld.mono hbW2.size)
                go_wp2_with fail
                go_roundw
                case rel => exact ⟨k + 1, by omega, by go_num, hbF⟩
                case measure => simp [intOf]; omega
          · have hd : decide ((k : Int) < (n2 : Int)) = false := by simp; omega
            go_wp2_with fail
            go_ret
            exact ⟨rfl, hbw⟩
  · omega
end Go.Proofs.YtkacfpmninmjkaaGreat.walOpens
