/- What the law on the entries' memory does with slices: marked room, looked at, spoilt. -/
import Derived.Test.YtlhlpofmeeiffabEe1
import Derived.Test.YtlhlpofmeeiffabFs1
import Derived.Test.YtlhlpofmeeiffabReg
import Derived.Test.YtlhlpofmeeiffabReg2
import Derived.Laws.BitsAllLaws
namespace Go.Proofs.Ytlhlpofmeeiffab
open Go.RowKit

/-- k marks. -/
def marks (k : Nat) : List Nat := (List.range k).map (· ^^^ 165)
theorem marks_len (k : Nat) : (marks k).length = k := by simp [marks]
theorem marks_succ (k : Nat) : marks (k + 1) = marks k ++ [k ^^^ 165] := by simp [marks, List.range_succ]
theorem xor_lt {k : Nat} (h : k < 256) : k ^^^ 165 < 256 := Nat.xor_lt_two_pow (n := 8) h (by decide)
theorem marks_8 {k : Nat} (h : k ≤ 70) : All8 (marks k) := by
  intro z hz
  obtain ⟨i, hi, rfl⟩ := List.mem_map.1 hz
  have := List.mem_range.1 hi
  exact xor_lt (by omega)
theorem marks_at {k i : Nat} (h : i < k) : at0 (marks k) i = i ^^^ 165 := by
  unfold at0 marks
  rw [List.getD_eq_getElem?_getD, List.getElem?_map, List.getElem?_range h]; rfl

set_option maxRecDepth 100000 in
set_option maxHeartbeats 400000 in
theorem withRoom10_any (a : Option Addr) (cap : Nat) (zs : List Nat) (w : World) (hr : RowB w a zs) (hl : zs.length + 70 ≤ 140737488355328) (hnil : a = none → zs.length = 0 ∧ cap = 0) :
    Calls Try.prog 6 #[.slice a zs.length cap] w fun e w' => (∃ r, e = .returned r ∧ OwnB w' w.heap.size r (zs ++ marks 70)) ∧ Below w.heap.size w w' := by
  go_enter Try.func6, Try.ntmps6
  go_wp2_with (at_builtin; refine wpList_append_row _ rfl _ _ rfl w.heap.size _ [] rfl (World.ownsRow_nil _ _ _ _) a cap zs rfl hr hnil (by simp; omega) (Nat.le_refl _) ?_; intro r1 w1 ho1 hg1 hat1)
  have hb1 : Below w.heap.size w w1 := (Below.refl _ _).grown hg1 (Nat.le_refl _) (fun j e => by cases e)
  rw [List.nil_append] at ho1
  clear hg1 hat1 hr
  go_loopw [3, 4] (fun r i wr => ∃ k : Nat, k ≤ 70 ∧ i = .int .i64 (k : Int) ∧ OwnB wr w.heap.size r (zs ++ marks k) ∧ Below w.heap.size w wr) (fun _ i _ => 70 - (intOf i).toNat)
  case atStart => exact ⟨0, by omega, rfl, by simpa [marks] using ho1, hb1⟩
  case round =>
    obtain ⟨k, hk, rfl, hown, hbl⟩ := hrel
    clear ho1 hb1
    by_cases hlt : k < 70
    · have hbs := hbl.size
      have hd : decide ((k : Int) < 70) = true := by simp; omega
      have hlen : (zs ++ marks k).length ≤ zs.length + 69 := by simp [marks_len]; omega
      have hw : IntKind.u8.wrap (k : Int) = (k : Int) := by rw [IntKind.wrap_u8']; omega
      have hx : bits .xor .u8 (k : Int) 165 = ((k ^^^ 165 : Nat) : Int) := u8_xor_nat k 165 (by omega) (by decide)
      have hxl := xor_lt (k := k) (by omega)
      have HS := hide_it (marks_succ k)
      obtain ⟨M, hM⟩ : ∃ M, M = k ^^^ 165 := ⟨_, rfl⟩
      rw [← hM] at hx hxl HS
      clear hM
      go_wp2_with (at_builtin; refine wpList_append_byte _ rfl _ _ rfl w.heap.size _ _ rfl hown M rfl (by omega) hbs ?_; intro v4 w4 hown4 hg4 hat4)
      go_roundw
      case rel => exact ⟨k + 1, by omega, by go_num, by rw [HS.out, ← List.append_assoc]; exact hown4, (hbl.alloc hbs _).grown hg4 (by simp; omega) (fun j e => hown.ge e)⟩
      case measure => simp [intOf]; omega
    · have hk8 : k = 70 := by omega
      subst hk8
      go_wp2_with fail
      go_ret
      exact ⟨⟨_, rfl, hown⟩, hbl⟩

theorem fill_step {zs : List Nat} {k x : Nat} (hk : k < zs.length) : (List.replicate k x ++ zs.drop k).set k x = List.replicate (k + 1) x ++ zs.drop (k + 1) := by
  rw [List.set_append_right _ _ (by simp)]
  rw [List.length_replicate, Nat.sub_self, List.drop_eq_getElem_cons hk, List.set_cons_zero, List.replicate_succ', List.append_assoc]
  rfl
theorem fill_len {zs : List Nat} {k x : Nat} (hk : k ≤ zs.length) : (List.replicate k x ++ zs.drop k).length = zs.length := by simp; omega

set_option maxRecDepth 100000 in
set_option maxHeartbeats 800000 in
theorem spoil_any (a : Option Addr) (cap : Nat) (zs : List Nat) (c base : Nat) (w : World) (ho : OwnB w base (.slice a zs.length cap) zs) (hb : base ≤ w.heap.size) (hl : zs.length + 70 ≤ 140737488355328) :
    Calls Try.prog 16 #[.slice a zs.length cap, .int .u8 (c : Int)] w fun e w' => e = .returned (.tuple #[]) ∧ w.grownBy w' (Value.slice a zs.length cap).ownBlock := by
  obtain ⟨N, hN⟩ : ∃ N, N = zs.length := ⟨_, rfl⟩
  obtain ⟨m, hm⟩ : ∃ m : Nat, IntKind.u8.wrap ((c : Int) + 1) = (m : Int) := ⟨(IntKind.u8.wrap ((c : Int) + 1)).toNat, by rw [IntKind.wrap_u8']; omega⟩
  rw [← hN]
  replace hN := hide_it hN
  have hl' : N + 70 ≤ 140737488355328 := by have := hN.out; omega
  have ho' : Hid (OwnB w base (.slice a N cap) zs) := by unfold Hid; rw [hN.out]; exact ho
  clear ho hl
  go_enter Try.func16, Try.ntmps16
  go_wp2
  go_loopw [4] (fun i wr => ∃ k : Nat, k ≤ N ∧ i = .int .i64 (k : Int) ∧ Hid (OwnB wr base (.slice a N cap) (List.replicate k c ++ zs.drop k)) ∧ Hid (w.grownBy wr (Value.slice a N cap).ownBlock)) (fun i _ => N - (intOf i).toNat)
  case atStart => exact ⟨0, by omega, rfl, (by show OwnB _ _ _ _; simpa using ho'.out), World.grownBy.refl _ _⟩
  case round =>
    obtain ⟨k, hk, rfl, hO, hG⟩ := hrel
    by_cases hlt : k < N
    · have hki : (k : Int) < (N : Int) := by omega
      have hfl : (List.replicate k c ++ zs.drop k).length = N := by rw [fill_len (by rw [← hN.out]; exact hk), hN.out]
      obtain ⟨g', cur, e', hnn, _, hhc, hcc⟩ := hO.out.at (by rw [hfl]; omega)
      cases e'
      clear hnn
      have hcell : wr.cell? ⟨g', k, none⟩ = some (.int .u8 ((at0 (List.replicate k c ++ zs.drop k) k : Nat) : Int)) := by
        rw [cell_of_row _ _ _ _ _ _ hhc]; exact hcc k (by rw [hfl]; exact hlt)
      have hfz := frozen_of_row wr g' k _ _ hhc
      have hset := hO.out.set (i := k) (by rw [hfl]; exact hlt) c
      rw [fill_step (by rw [← hN.out]; exact hlt)] at hset
      have hgr := grown_setCell (g := g') hG.out k (.int .u8 (c : Int))
      have HS := hide_it hset
      have HGR := hide_it hgr
      clear hhc hcc hO hG hset hgr hfl
      generalize at0 (List.replicate k c ++ zs.drop k) k = y at *
      go_wp2
      go_roundw
      case rel => exact ⟨k + 1, by omega, by go_num, HS.out, HGR.out⟩
      case measure => simp [intOf]; omega
    · have hkn : ¬ (k : Int) < (N : Int) := by omega
      have hO2 : OwnB wr base (.slice a N cap) (List.replicate zs.length c) := by
        have h := hO.out
        rwa [show k = zs.length by have := hN.out; omega, List.drop_length, List.append_nil] at h
      clear hO
      have hlr : (List.replicate zs.length c).length = N := by rw [List.length_replicate, hN.out]
      obtain ⟨ys, hys⟩ : ∃ ys, ys = List.replicate zs.length c := ⟨_, rfl⟩
      rw [← hys] at hO2 hlr
      clear hys
      replace hlr := hide_it hlr
      have hwr := hG.out.size
      obtain ⟨wo, rfl⟩ : ∃ x, x = wr := ⟨_, rfl⟩
      clear hkn
      go_wp2
      go_loopw [0, 5] (fun r i wq => ∃ j : Nat, j ≤ 70 ∧ i = .int .i64 (j : Int) ∧ OwnB wq base r (ys ++ List.replicate j m) ∧ Hid (r.ownBlock = (Value.slice a N cap).ownBlock ∨ ∃ b, r.ownBlock = some b ∧ w.heap.size ≤ b) ∧ Hid (w.grownBy wq (Value.slice a N cap).ownBlock)) (fun _ i _ => 70 - (intOf i).toNat)
      case atStart => exact ⟨0, by omega, rfl, by simpa using hO2, .inl rfl, hG.out⟩
      case round =>
        obtain ⟨j, hj, rfl, hown, hat, hg⟩ := hrel
        clear hO2 hG
        by_cases hjt : j < 70
        · have hd : decide ((j : Int) < 70) = true := by simp; omega
          have hlen : (ys ++ List.replicate j m).length ≤ N + 69 := by rw [List.length_append, List.length_replicate, hlr.out]; omega
          have hsz := hg.out.size
          have HS : Hid (ys ++ List.replicate (j + 1) m = ys ++ List.replicate j m ++ [m]) := by show _ = _; rw [List.replicate_succ', List.append_assoc]
          go_wp2_with (at_builtin; refine wpList_append_byte _ rfl _ _ rfl base _ _ rfl hown m (by try rfl) (by omega) (by omega) ?_; intro v4 w4 hown4 hg4 hat4)
          go_roundw
          case rel =>
            refine ⟨j + 1, by omega, by go_num, by rw [HS.out]; exact hown4, ?_, ?_⟩
            · show _ ∨ _
              rcases hat4 with e | e
              · rw [e]; exact hat.out
              · exact .inr ⟨_, e, by first | omega | (simp; omega)⟩
            · refine ⟨hg4.os.trans hg.out.os, hg4.tape.trans hg.out.tape, hg4.output.trans hg.out.output, Nat.le_trans hsz (by have := hg4.size; simp at this; omega), fun b hbl hne => ?_⟩
              have h1 : some b ≠ u0.ownBlock := fun e => by
                rcases hat.out with h2 | ⟨b', h2, h3⟩
                · exact hne (e.trans h2)
                · rw [h2] at e; cases e; omega
              rw [hg4.block b (by simp; omega) h1, Below.heap_alloc _ _ _ (by omega)]
              exact hg.out.block b hbl hne
          case measure => simp [intOf]; omega
        · have hj7 : j = 70 := by omega
          subst hj7
          go_wp2_with fail
          first | exact ⟨rfl, hg.out⟩ | (go_end0; exact ⟨rfl, hg.out⟩)

set_option maxRecDepth 100000 in
set_option maxHeartbeats 800000 in
theorem stays_any (a b : Option Addr) (ca cb : Nat) (zs : List Nat) (w : World) (hra : RowB w a (zs ++ marks 70)) (hrb : RowB w b zs) (_h8 : All8 zs) (hl : zs.length + 70 ≤ 140737488355328) :
    Calls Try.prog 12 #[.slice a (zs.length + 70) ca, .slice b zs.length cb] w fun e w' => e = .returned (.bool true) ∧ Below w.heap.size w w' := by
  obtain ⟨N, hN⟩ : ∃ N, N = zs.length := ⟨_, rfl⟩
  have hlen : (zs ++ marks 70).length = N + 70 := by rw [List.length_append, marks_len, hN]
  obtain ⟨ga, oa, rfl, hgb, hca⟩ := hra.here (i := N) (by rw [hlen]; omega)
  rw [hlen] at hca
  rw [← hN] at hl ⊢
  replace hN := hide_it hN
  obtain ⟨M, hM⟩ : ∃ M, M = N + 70 := ⟨_, rfl⟩
  have hwM : IntKind.i64.wrap ((N : Int) + 70) = (M : Int) := by rw [IntKind.wrap_i64]; omega
  rw [← hM] at hca ⊢
  have hMl : M ≤ 140737488355328 := by omega
  have hNM : N ≤ M := by omega
  have hMN : M ≤ N + 70 := by omega
  replace hM := hide_it hM
  clear hra hl hlen
  go_enter Try.func12, Try.ntmps12
  go_wp2
  go_loopw [5] (fun i wr => ∃ k : Nat, k ≤ M ∧ i = .int .i64 (k : Int) ∧ Below w.heap.size w wr) (fun i _ => M - (intOf i).toNat)
  case atStart => exact ⟨0, by omega, rfl, Below.refl _ _⟩
  case round =>
    obtain ⟨k, hk, rfl, hbl⟩ := hrel
    by_cases hlt : k < M
    · have hki : decide ((k : Int) < (M : Int)) = true := by simp; omega
      have hcell := hca k hlt
      by_cases hkN : k < N
      · have hd1 : decide ((k : Int) < (N : Int)) = true := by simp; omega
        have hd2 : decide ((N : Int) ≤ (k : Int)) = false := by simp; omega
        have hd3 : ¬ N ≤ k := by omega
        obtain ⟨gb, ob, rfl, hgb2, hcb⟩ := hrb.here (i := k) (by rw [← hN.out]; exact hkN)
        have hcell2 := hcb k (by rw [← hN.out]; exact hkN)
        have hat : at0 (zs ++ marks 70) k = at0 zs k := by
          unfold at0
          rw [List.getD_eq_getElem?_getD, List.getD_eq_getElem?_getD, List.getElem?_append_left (by rw [← hN.out]; exact hkN)]
        rw [hat] at hcell
        generalize at0 zs k = y at *
        have HCA := hide_it hcell
        have HCB := hide_it hcell2
        clear hcell hcell2 hcb hca hrb hat
        go_wp2_with fail
        refine wp_region_held_drew (S := (fun w' => Below w.heap.size w w')) (by kernel_rfl) ?_ (fun hHeld => ?_)
        · exact hbl.drew
        refine take_on (i := 0) (v := ?_) rfl rfl (by kernel_rfl) (by kernel_rfl) (by kernel_rfl) (fun _ _ _ h => h) rfl ?_ hHeld ?_
        rotate_left
        · (intro wq hSq; have p0 := (hSq.cell (p := ⟨ga, oa + k, none⟩) hgb).trans HCA.out; have p1 := (hSq.cell (p := ⟨gb, ob + k, none⟩) hgb2).trans HCB.out; go_simp <;> first | with_reducible rfl | rfl)
        simp only [Act.put, List.setIfInBounds_toArray, List.set_cons_zero, List.set_cons_succ]
        refine take_on (i := 1) (v := ?_) rfl rfl (by kernel_rfl) (by kernel_rfl) (by kernel_rfl) (fun _ _ _ h => h) rfl ?_ hHeld ?_
        rotate_left
        · (intro wq hSq; have p0 := (hSq.cell (p := ⟨ga, oa + k, none⟩) hgb).trans HCA.out; have p1 := (hSq.cell (p := ⟨gb, ob + k, none⟩) hgb2).trans HCB.out; go_simp <;> first | with_reducible rfl | rfl)
        simp only [Act.put, List.setIfInBounds_toArray, List.set_cons_zero, List.set_cons_succ]
        refine take_on (i := 2) (v := ?_) rfl rfl (by kernel_rfl) (by kernel_rfl) (by kernel_rfl) (fun _ _ _ h => h) rfl ?_ hHeld ?_
        rotate_left
        · (intro wq hSq; have p0 := (hSq.cell (p := ⟨ga, oa + k, none⟩) hgb).trans HCA.out; have p1 := (hSq.cell (p := ⟨gb, ob + k, none⟩) hgb2).trans HCB.out; go_simp <;> first | with_reducible rfl | rfl)
        simp only [Act.put, List.setIfInBounds_toArray, List.set_cons_zero, List.set_cons_succ]
        refine take_on (i := 3) (v := ?_) rfl rfl (by kernel_rfl) (by kernel_rfl) (by kernel_rfl) (fun _ _ _ h => h) rfl ?_ hHeld ?_
        rotate_left
        · (intro wq hSq; have p0 := (hSq.cell (p := ⟨ga, oa + k, none⟩) hgb).trans HCA.out; have p1 := (hSq.cell (p := ⟨gb, ob + k, none⟩) hgb2).trans HCB.out; go_simp <;> first | with_reducible rfl | rfl)
        simp only [Act.put, List.setIfInBounds_toArray, List.set_cons_zero, List.set_cons_succ]
        refine take_on (i := 4) (v := ?_) rfl rfl (by kernel_rfl) (by kernel_rfl) (by kernel_rfl) (fun _ _ _ h => h) rfl ?_ hHeld ?_
        rotate_left
        · (intro wq hSq; have p0 := (hSq.cell (p := ⟨ga, oa + k, none⟩) hgb).trans HCA.out; have p1 := (hSq.cell (p := ⟨gb, ob + k, none⟩) hgb2).trans HCB.out; go_simp <;> first | with_reducible rfl | rfl)
        simp only [Act.put, List.setIfInBounds_toArray, List.set_cons_zero, List.set_cons_succ]
        refine take_on (i := 5) (v := ?_) rfl rfl (by kernel_rfl) (by kernel_rfl) (by kernel_rfl) (fun _ _ _ h => h) rfl ?_ hHeld ?_
        rotate_left
        · (intro wq hSq; have p0 := (hSq.cell (p := ⟨ga, oa + k, none⟩) hgb).trans HCA.out; have p1 := (hSq.cell (p := ⟨gb, ob + k, none⟩) hgb2).trans HCB.out; go_simp <;> first | with_reducible rfl | rfl)
        simp only [Act.put, List.setIfInBounds_toArray, List.set_cons_zero, List.set_cons_succ]
        refine take_on (i := 6) (v := ?_) rfl rfl (by kernel_rfl) (by kernel_rfl) (by kernel_rfl) (fun _ _ _ h => h) rfl ?_ hHeld ?_
        rotate_left
        · (intro wq hSq; have p0 := (hSq.cell (p := ⟨ga, oa + k, none⟩) hgb).trans HCA.out; have p1 := (hSq.cell (p := ⟨gb, ob + k, none⟩) hgb2).trans HCB.out; go_simp <;> first | with_reducible rfl | rfl)
        simp only [Act.put, List.setIfInBounds_toArray, List.set_cons_zero, List.set_cons_succ]
        refine take_on (i := 7) (v := ?_) rfl rfl (by kernel_rfl) (by kernel_rfl) (by kernel_rfl) (fun _ _ _ h => h) rfl ?_ hHeld ?_
        rotate_left
        · (intro wq hSq; have p0 := (hSq.cell (p := ⟨ga, oa + k, none⟩) hgb).trans HCA.out; have p1 := (hSq.cell (p := ⟨gb, ob + k, none⟩) hgb2).trans HCB.out; go_simp <;> first | with_reducible rfl | rfl)
        simp only [Act.put, List.setIfInBounds_toArray, List.set_cons_zero, List.set_cons_succ]
        refine take_on (i := 8) (v := ?_) rfl rfl (by kernel_rfl) (by kernel_rfl) (by kernel_rfl) (fun _ _ _ h => h) rfl ?_ hHeld ?_
        rotate_left
        · (intro wq hSq; have p0 := (hSq.cell (p := ⟨ga, oa + k, none⟩) hgb).trans HCA.out; have p1 := (hSq.cell (p := ⟨gb, ob + k, none⟩) hgb2).trans HCB.out; go_simp <;> first | with_reducible rfl | rfl)
        simp only [Act.put, List.setIfInBounds_toArray, List.set_cons_zero, List.set_cons_succ]
        refine take_on (i := 9) (v := ?_) rfl rfl (by kernel_rfl) (by kernel_rfl) (by kernel_rfl) (fun _ _ _ h => h) rfl ?_ hHeld ?_
        rotate_left
        · (intro wq hSq; have p0 := (hSq.cell (p := ⟨ga, oa + k, none⟩) hgb).trans HCA.out; have p1 := (hSq.cell (p := ⟨gb, ob + k, none⟩) hgb2).trans HCB.out; go_simp <;> first | with_reducible rfl | rfl)
        simp only [Act.put, List.setIfInBounds_toArray, List.set_cons_zero, List.set_cons_succ]
        refine take_on (i := 10) (v := ?_) rfl rfl (by kernel_rfl) (by kernel_rfl) (by kernel_rfl) (fun _ _ _ h => h) rfl ?_ hHeld ?_
        rotate_left
        · (intro wq hSq; have p0 := (hSq.cell (p := ⟨ga, oa + k, none⟩) hgb).trans HCA.out; have p1 := (hSq.cell (p := ⟨gb, ob + k, none⟩) hgb2).trans HCB.out; go_simp <;> first | with_reducible rfl | rfl)
        simp only [Act.put, List.setIfInBounds_toArray, List.set_cons_zero, List.set_cons_succ]
        refine take_on (i := 11) (v := ?_) rfl rfl (by kernel_rfl) (by kernel_rfl) (by kernel_rfl) (fun _ _ _ h => h) rfl ?_ hHeld ?_
        rotate_left
        · (intro wq hSq; have p0 := (hSq.cell (p := ⟨ga, oa + k, none⟩) hgb).trans HCA.out; have p1 := (hSq.cell (p := ⟨gb, ob + k, none⟩) hgb2).trans HCB.out; go_simp <;> first | with_reducible rfl | rfl)
        simp only [Act.put, List.setIfInBounds_toArray, List.set_cons_zero, List.set_cons_succ]
        refine take_on (i := 12) (v := ?_) rfl rfl (by kernel_rfl) (by kernel_rfl) (by kernel_rfl) (fun _ _ _ h => h) rfl ?_ hHeld ?_
        rotate_left
        · (intro wq hSq; have p0 := (hSq.cell (p := ⟨ga, oa + k, none⟩) hgb).trans HCA.out; have p1 := (hSq.cell (p := ⟨gb, ob + k, none⟩) hgb2).trans HCB.out; go_simp <;> first | with_reducible rfl | rfl)
        simp only [Act.put, List.setIfInBounds_toArray, List.set_cons_zero, List.set_cons_succ]
        refine take_on (i := 13) (v := ?_) rfl rfl (by kernel_rfl) (by kernel_rfl) (by kernel_rfl) (fun _ _ _ h => h) rfl ?_ hHeld ?_
        rotate_left
        · (intro wq hSq; have p0 := (hSq.cell (p := ⟨ga, oa + k, none⟩) hgb).trans HCA.out; have p1 := (hSq.cell (p := ⟨gb, ob + k, none⟩) hgb2).trans HCB.out; go_simp <;> first | with_reducible rfl | rfl)
        simp only [Act.put, List.setIfInBounds_toArray, List.set_cons_zero, List.set_cons_succ]
        refine take_on (i := 14) (v := ?_) rfl rfl (by kernel_rfl) (by kernel_rfl) (by kernel_rfl) (fun _ _ _ h => h) rfl ?_ hHeld ?_
        rotate_left
        · (intro wq hSq; have p0 := (hSq.cell (p := ⟨ga, oa + k, none⟩) hgb).trans HCA.out; have p1 := (hSq.cell (p := ⟨gb, ob + k, none⟩) hgb2).trans HCB.out; go_simp <;> first | with_reducible rfl | rfl)
        simp only [Act.put, List.setIfInBounds_toArray, List.set_cons_zero, List.set_cons_succ]
        refine take_on (i := 15) (v := ?_) rfl rfl (by kernel_rfl) (by kernel_rfl) (by kernel_rfl) (fun _ _ _ h => h) rfl ?_ hHeld ?_
        rotate_left
        · (intro wq hSq; have p0 := (hSq.cell (p := ⟨ga, oa + k, none⟩) hgb).trans HCA.out; have p1 := (hSq.cell (p := ⟨gb, ob + k, none⟩) hgb2).trans HCB.out; go_simp <;> first | with_reducible rfl | rfl)
        simp only [Act.put, List.setIfInBounds_toArray, List.set_cons_zero, List.set_cons_succ]
        refine take_on (i := 16) (v := ?_) rfl rfl (by kernel_rfl) (by kernel_rfl) (by kernel_rfl) (fun _ _ _ h => h) rfl ?_ hHeld ?_
        rotate_left
        · (intro wq hSq; have p0 := (hSq.cell (p := ⟨ga, oa + k, none⟩) hgb).trans HCA.out; have p1 := (hSq.cell (p := ⟨gb, ob + k, none⟩) hgb2).trans HCB.out; go_simp <;> first | with_reducible rfl | rfl)
        simp only [Act.put, List.setIfInBounds_toArray, List.set_cons_zero, List.set_cons_succ]
        refine take_on (i := 17) (v := ?_) rfl rfl (by kernel_rfl) (by kernel_rfl) (by kernel_rfl) (fun _ _ _ h => h) rfl ?_ hHeld ?_
        rotate_left
        · (intro wq hSq; have p0 := (hSq.cell (p := ⟨ga, oa + k, none⟩) hgb).trans HCA.out; have p1 := (hSq.cell (p := ⟨gb, ob + k, none⟩) hgb2).trans HCB.out; go_simp <;> first | with_reducible rfl | rfl)
        simp only [Act.put, List.setIfInBounds_toArray, List.set_cons_zero, List.set_cons_succ]
        refine take_on (i := 18) (v := ?_) rfl rfl (by kernel_rfl) (by kernel_rfl) (by kernel_rfl) (fun _ _ _ h => h) rfl ?_ hHeld ?_
        rotate_left
        · (intro wq hSq; have p0 := (hSq.cell (p := ⟨ga, oa + k, none⟩) hgb).trans HCA.out; have p1 := (hSq.cell (p := ⟨gb, ob + k, none⟩) hgb2).trans HCB.out; go_simp <;> first | with_reducible rfl | rfl)
        simp only [Act.put, List.setIfInBounds_toArray, List.set_cons_zero, List.set_cons_succ]
        refine take_on (i := 19) (v := ?_) rfl rfl (by kernel_rfl) (by kernel_rfl) (by kernel_rfl) (fun _ _ _ h => h) rfl ?_ hHeld ?_
        rotate_left
        · (intro wq hSq; have p0 := (hSq.cell (p := ⟨ga, oa + k, none⟩) hgb).trans HCA.out; have p1 := (hSq.cell (p := ⟨gb, ob + k, none⟩) hgb2).trans HCB.out; go_simp <;> first | with_reducible rfl | rfl)
        simp only [Act.put, List.setIfInBounds_toArray, List.set_cons_zero, List.set_cons_succ]
        refine take_on (i := 20) (v := ?_) rfl rfl (by kernel_rfl) (by kernel_rfl) (by kernel_rfl) (fun _ _ _ h => h) rfl ?_ hHeld ?_
        rotate_left
        · (intro wq hSq; have p0 := (hSq.cell (p := ⟨ga, oa + k, none⟩) hgb).trans HCA.out; have p1 := (hSq.cell (p := ⟨gb, ob + k, none⟩) hgb2).trans HCB.out; go_simp <;> first | with_reducible rfl | rfl)
        simp only [Act.put, List.setIfInBounds_toArray, List.set_cons_zero, List.set_cons_succ]
        refine take_off (i := 21) rfl rfl (by kernel_rfl) (by kernel_rfl) (by kernel_rfl) (fun _ _ _ h => h) rfl hHeld ?_
        simp only [Act.put, List.setIfInBounds_toArray, List.set_cons_zero, List.set_cons_succ]
        refine take_off (i := 22) rfl rfl (by kernel_rfl) (by kernel_rfl) (by kernel_rfl) (fun _ _ _ h => h) rfl hHeld ?_
        simp only [Act.put, List.setIfInBounds_toArray, List.set_cons_zero, List.set_cons_succ]
        refine take_off (i := 23) rfl rfl (by kernel_rfl) (by kernel_rfl) (by kernel_rfl) (fun _ _ _ h => h) rfl hHeld ?_
        simp only [Act.put, List.setIfInBounds_toArray, List.set_cons_zero, List.set_cons_succ]
        refine take_off (i := 24) rfl rfl (by kernel_rfl) (by kernel_rfl) (by kernel_rfl) (fun _ _ _ h => h) rfl hHeld ?_
        simp only [Act.put, List.setIfInBounds_toArray, List.set_cons_zero, List.set_cons_succ]
        refine take_off (i := 25) rfl rfl (by kernel_rfl) (by kernel_rfl) (by kernel_rfl) (fun _ _ _ h => h) rfl hHeld ?_
        simp only [Act.put, List.setIfInBounds_toArray, List.set_cons_zero, List.set_cons_succ]
        refine take_off (i := 26) rfl rfl (by kernel_rfl) (by kernel_rfl) (by kernel_rfl) (fun _ _ _ h => h) rfl hHeld ?_
        simp only [Act.put, List.setIfInBounds_toArray, List.set_cons_zero, List.set_cons_succ]
        refine take_off (i := 27) rfl rfl (by kernel_rfl) (by kernel_rfl) (by kernel_rfl) (fun _ _ _ h => h) rfl hHeld ?_
        simp only [Act.put, List.setIfInBounds_toArray, List.set_cons_zero, List.set_cons_succ]
        refine take_off (i := 28) rfl rfl (by kernel_rfl) (by kernel_rfl) (by kernel_rfl) (fun _ _ _ h => h) rfl hHeld ?_
        simp only [Act.put, List.setIfInBounds_toArray, List.set_cons_zero, List.set_cons_succ]
        refine take_off (i := 29) rfl rfl (by kernel_rfl) (by kernel_rfl) (by kernel_rfl) (fun _ _ _ h => h) rfl hHeld ?_
        simp only [Act.put, List.setIfInBounds_toArray, List.set_cons_zero, List.set_cons_succ]
        refine take_off (i := 30) rfl rfl (by kernel_rfl) (by kernel_rfl) (by kernel_rfl) (fun _ _ _ h => h) rfl hHeld ?_
        simp only [Act.put, List.setIfInBounds_toArray, List.set_cons_zero, List.set_cons_succ]
        refine take_off (i := 31) rfl rfl (by kernel_rfl) (by kernel_rfl) (by kernel_rfl) (fun _ _ _ h => h) rfl hHeld ?_
        simp only [Act.put, List.setIfInBounds_toArray, List.set_cons_zero, List.set_cons_succ]
        refine take_on (i := 32) (v := ?_) rfl rfl (by kernel_rfl) (by kernel_rfl) (by kernel_rfl) (fun _ _ _ h => h) rfl ?_ hHeld ?_
        rotate_left
        · (intro wq hSq; have p0 := (hSq.cell (p := ⟨ga, oa + k, none⟩) hgb).trans HCA.out; have p1 := (hSq.cell (p := ⟨gb, ob + k, none⟩) hgb2).trans HCB.out; go_simp <;> first | with_reducible rfl | rfl)
        simp only [Act.put, List.setIfInBounds_toArray, List.set_cons_zero, List.set_cons_succ]
        refine take_on (i := 33) (v := ?_) rfl rfl (by kernel_rfl) (by kernel_rfl) (by kernel_rfl) (fun _ _ _ h => h) rfl ?_ hHeld ?_
        rotate_left
        · (intro wq hSq; have p0 := (hSq.cell (p := ⟨ga, oa + k, none⟩) hgb).trans HCA.out; have p1 := (hSq.cell (p := ⟨gb, ob + k, none⟩) hgb2).trans HCB.out; go_simp <;> first | with_reducible rfl | rfl)
        simp only [Act.put, List.setIfInBounds_toArray, List.set_cons_zero, List.set_cons_succ]
        refine wpAnyH_done (by kernel_rfl) ?_ _
        go_wp2_with fail
        go_roundw
        case rel => exact ⟨k + 1, by omega, by go_num, hHeld⟩
        case measure => simp [intOf]; omega
      · have hd1 : decide ((k : Int) < (N : Int)) = false := by simp; omega
        have hd2 : decide ((N : Int) ≤ (k : Int)) = true := by simp; omega
        have hd3 : N ≤ k := by omega
        obtain ⟨d, hd⟩ : ∃ d, d = k - N := ⟨_, rfl⟩
        have hd7 : d < 70 := by omega
        have hwd : IntKind.i64.wrap ((k : Int) - (N : Int)) = (d : Int) := by rw [IntKind.wrap_i64]; omega
        have hw8 : IntKind.u8.wrap (d : Int) = (d : Int) := by rw [IntKind.wrap_u8']; omega
        have hx : bits .xor .u8 (d : Int) 165 = ((d ^^^ 165 : Nat) : Int) := u8_xor_nat d 165 (by omega) (by decide)
        have hat : at0 (zs ++ marks 70) k = d ^^^ 165 := by
          rw [← marks_at hd7]
          unfold at0
          rw [List.getD_eq_getElem?_getD, List.getD_eq_getElem?_getD, List.getElem?_append_right (by rw [← hN.out]; exact hd3), ← hN.out, hd]
        rw [hat] at hcell
        obtain ⟨y, hy⟩ : ∃ y, y = d ^^^ 165 := ⟨_, rfl⟩
        rw [← hy] at hx hcell
        have HCA := hide_it hcell
        clear hcell hca hrb hat hd hy
        go_wp2_with fail
        refine wp_region_held_drew (S := (fun w' => Below w.heap.size w w')) (by kernel_rfl) ?_ (fun hHeld => ?_)
        · exact hbl.drew
        refine take_on (i := 0) (v := ?_) rfl rfl (by kernel_rfl) (by kernel_rfl) (by kernel_rfl) (fun _ _ _ h => h) rfl ?_ hHeld ?_
        rotate_left
        · (intro wq hSq; have p0 := (hSq.cell (p := ⟨ga, oa + k, none⟩) hgb).trans HCA.out; go_simp <;> first | with_reducible rfl | rfl)
        simp only [Act.put, List.setIfInBounds_toArray, List.set_cons_zero, List.set_cons_succ]
        refine take_on (i := 1) (v := ?_) rfl rfl (by kernel_rfl) (by kernel_rfl) (by kernel_rfl) (fun _ _ _ h => h) rfl ?_ hHeld ?_
        rotate_left
        · (intro wq hSq; have p0 := (hSq.cell (p := ⟨ga, oa + k, none⟩) hgb).trans HCA.out; go_simp <;> first | with_reducible rfl | rfl)
        simp only [Act.put, List.setIfInBounds_toArray, List.set_cons_zero, List.set_cons_succ]
        refine take_on (i := 2) (v := ?_) rfl rfl (by kernel_rfl) (by kernel_rfl) (by kernel_rfl) (fun _ _ _ h => h) rfl ?_ hHeld ?_
        rotate_left
        · (intro wq hSq; have p0 := (hSq.cell (p := ⟨ga, oa + k, none⟩) hgb).trans HCA.out; go_simp <;> first | with_reducible rfl | rfl)
        simp only [Act.put, List.setIfInBounds_toArray, List.set_cons_zero, List.set_cons_succ]
        refine take_on (i := 3) (v := ?_) rfl rfl (by kernel_rfl) (by kernel_rfl) (by kernel_rfl) (fun _ _ _ h => h) rfl ?_ hHeld ?_
        rotate_left
        · (intro wq hSq; have p0 := (hSq.cell (p := ⟨ga, oa + k, none⟩) hgb).trans HCA.out; go_simp <;> first | with_reducible rfl | rfl)
        simp only [Act.put, List.setIfInBounds_toArray, List.set_cons_zero, List.set_cons_succ]
        refine take_on (i := 4) (v := ?_) rfl rfl (by kernel_rfl) (by kernel_rfl) (by kernel_rfl) (fun _ _ _ h => h) rfl ?_ hHeld ?_
        rotate_left
        · (intro wq hSq; have p0 := (hSq.cell (p := ⟨ga, oa + k, none⟩) hgb).trans HCA.out; go_simp <;> first | with_reducible rfl | rfl)
        simp only [Act.put, List.setIfInBounds_toArray, List.set_cons_zero, List.set_cons_succ]
        refine take_off (i := 5) rfl rfl (by kernel_rfl) (by kernel_rfl) (by kernel_rfl) (fun _ _ _ h => h) rfl hHeld ?_
        simp only [Act.put, List.setIfInBounds_toArray, List.set_cons_zero, List.set_cons_succ]
        refine take_off (i := 6) rfl rfl (by kernel_rfl) (by kernel_rfl) (by kernel_rfl) (fun _ _ _ h => h) rfl hHeld ?_
        simp only [Act.put, List.setIfInBounds_toArray, List.set_cons_zero, List.set_cons_succ]
        refine take_off (i := 7) rfl rfl (by kernel_rfl) (by kernel_rfl) (by kernel_rfl) (fun _ _ _ h => h) rfl hHeld ?_
        simp only [Act.put, List.setIfInBounds_toArray, List.set_cons_zero, List.set_cons_succ]
        refine take_off (i := 8) rfl rfl (by kernel_rfl) (by kernel_rfl) (by kernel_rfl) (fun _ _ _ h => h) rfl hHeld ?_
        simp only [Act.put, List.setIfInBounds_toArray, List.set_cons_zero, List.set_cons_succ]
        refine take_off (i := 9) rfl rfl (by kernel_rfl) (by kernel_rfl) (by kernel_rfl) (fun _ _ _ h => h) rfl hHeld ?_
        simp only [Act.put, List.setIfInBounds_toArray, List.set_cons_zero, List.set_cons_succ]
        refine take_off (i := 10) rfl rfl (by kernel_rfl) (by kernel_rfl) (by kernel_rfl) (fun _ _ _ h => h) rfl hHeld ?_
        simp only [Act.put, List.setIfInBounds_toArray, List.set_cons_zero, List.set_cons_succ]
        refine take_off (i := 11) rfl rfl (by kernel_rfl) (by kernel_rfl) (by kernel_rfl) (fun _ _ _ h => h) rfl hHeld ?_
        simp only [Act.put, List.setIfInBounds_toArray, List.set_cons_zero, List.set_cons_succ]
        refine take_off (i := 12) rfl rfl (by kernel_rfl) (by kernel_rfl) (by kernel_rfl) (fun _ _ _ h => h) rfl hHeld ?_
        simp only [Act.put, List.setIfInBounds_toArray, List.set_cons_zero, List.set_cons_succ]
        refine take_off (i := 13) rfl rfl (by kernel_rfl) (by kernel_rfl) (by kernel_rfl) (fun _ _ _ h => h) rfl hHeld ?_
        simp only [Act.put, List.setIfInBounds_toArray, List.set_cons_zero, List.set_cons_succ]
        refine take_on (i := 14) (v := ?_) rfl rfl (by kernel_rfl) (by kernel_rfl) (by kernel_rfl) (fun _ _ _ h => h) rfl ?_ hHeld ?_
        rotate_left
        · (intro wq hSq; have p0 := (hSq.cell (p := ⟨ga, oa + k, none⟩) hgb).trans HCA.out; go_simp <;> first | with_reducible rfl | rfl)
        simp only [Act.put, List.setIfInBounds_toArray, List.set_cons_zero, List.set_cons_succ]
        refine take_on (i := 15) (v := ?_) rfl rfl (by kernel_rfl) (by kernel_rfl) (by kernel_rfl) (fun _ _ _ h => h) rfl ?_ hHeld ?_
        rotate_left
        · (intro wq hSq; have p0 := (hSq.cell (p := ⟨ga, oa + k, none⟩) hgb).trans HCA.out; go_simp <;> first | with_reducible rfl | rfl)
        simp only [Act.put, List.setIfInBounds_toArray, List.set_cons_zero, List.set_cons_succ]
        refine take_on (i := 16) (v := ?_) rfl rfl (by kernel_rfl) (by kernel_rfl) (by kernel_rfl) (fun _ _ _ h => h) rfl ?_ hHeld ?_
        rotate_left
        · (intro wq hSq; have p0 := (hSq.cell (p := ⟨ga, oa + k, none⟩) hgb).trans HCA.out; go_simp <;> first | with_reducible rfl | rfl)
        simp only [Act.put, List.setIfInBounds_toArray, List.set_cons_zero, List.set_cons_succ]
        refine take_on (i := 17) (v := ?_) rfl rfl (by kernel_rfl) (by kernel_rfl) (by kernel_rfl) (fun _ _ _ h => h) rfl ?_ hHeld ?_
        rotate_left
        · (intro wq hSq; have p0 := (hSq.cell (p := ⟨ga, oa + k, none⟩) hgb).trans HCA.out; go_simp <;> first | with_reducible rfl | rfl)
        simp only [Act.put, List.setIfInBounds_toArray, List.set_cons_zero, List.set_cons_succ]
        refine take_on (i := 18) (v := ?_) rfl rfl (by kernel_rfl) (by kernel_rfl) (by kernel_rfl) (fun _ _ _ h => h) rfl ?_ hHeld ?_
        rotate_left
        · (intro wq hSq; have p0 := (hSq.cell (p := ⟨ga, oa + k, none⟩) hgb).trans HCA.out; go_simp <;> first | with_reducible rfl | rfl)
        simp only [Act.put, List.setIfInBounds_toArray, List.set_cons_zero, List.set_cons_succ]
        refine take_on (i := 19) (v := ?_) rfl rfl (by kernel_rfl) (by kernel_rfl) (by kernel_rfl) (fun _ _ _ h => h) rfl ?_ hHeld ?_
        rotate_left
        · (intro wq hSq; have p0 := (hSq.cell (p := ⟨ga, oa + k, none⟩) hgb).trans HCA.out; go_simp <;> first | with_reducible rfl | rfl)
        simp only [Act.put, List.setIfInBounds_toArray, List.set_cons_zero, List.set_cons_succ]
        refine take_on (i := 20) (v := ?_) rfl rfl (by kernel_rfl) (by kernel_rfl) (by kernel_rfl) (fun _ _ _ h => h) rfl ?_ hHeld ?_
        rotate_left
        · (intro wq hSq; have p0 := (hSq.cell (p := ⟨ga, oa + k, none⟩) hgb).trans HCA.out; go_simp <;> first | with_reducible rfl | rfl)
        simp only [Act.put, List.setIfInBounds_toArray, List.set_cons_zero, List.set_cons_succ]
        refine take_on (i := 21) (v := ?_) rfl rfl (by kernel_rfl) (by kernel_rfl) (by kernel_rfl) (fun _ _ _ h => h) rfl ?_ hHeld ?_
        rotate_left
        · (intro wq hSq; have p0 := (hSq.cell (p := ⟨ga, oa + k, none⟩) hgb).trans HCA.out; go_simp <;> first | with_reducible rfl | rfl)
        simp only [Act.put, List.setIfInBounds_toArray, List.set_cons_zero, List.set_cons_succ]
        refine take_on (i := 22) (v := ?_) rfl rfl (by kernel_rfl) (by kernel_rfl) (by kernel_rfl) (fun _ _ _ h => h) rfl ?_ hHeld ?_
        rotate_left
        · (intro wq hSq; have p0 := (hSq.cell (p := ⟨ga, oa + k, none⟩) hgb).trans HCA.out; go_simp <;> first | with_reducible rfl | rfl)
        simp only [Act.put, List.setIfInBounds_toArray, List.set_cons_zero, List.set_cons_succ]
        refine take_on (i := 23) (v := ?_) rfl rfl (by kernel_rfl) (by kernel_rfl) (by kernel_rfl) (fun _ _ _ h => h) rfl ?_ hHeld ?_
        rotate_left
        · (intro wq hSq; have p0 := (hSq.cell (p := ⟨ga, oa + k, none⟩) hgb).trans HCA.out; go_simp <;> first | with_reducible rfl | rfl)
        simp only [Act.put, List.setIfInBounds_toArray, List.set_cons_zero, List.set_cons_succ]
        refine take_on (i := 24) (v := ?_) rfl rfl (by kernel_rfl) (by kernel_rfl) (by kernel_rfl) (fun _ _ _ h => h) rfl ?_ hHeld ?_
        rotate_left
        · (intro wq hSq; have p0 := (hSq.cell (p := ⟨ga, oa + k, none⟩) hgb).trans HCA.out; go_simp <;> first | with_reducible rfl | rfl)
        simp only [Act.put, List.setIfInBounds_toArray, List.set_cons_zero, List.set_cons_succ]
        refine take_on (i := 25) (v := ?_) rfl rfl (by kernel_rfl) (by kernel_rfl) (by kernel_rfl) (fun _ _ _ h => h) rfl ?_ hHeld ?_
        rotate_left
        · (intro wq hSq; have p0 := (hSq.cell (p := ⟨ga, oa + k, none⟩) hgb).trans HCA.out; go_simp <;> first | with_reducible rfl | rfl)
        simp only [Act.put, List.setIfInBounds_toArray, List.set_cons_zero, List.set_cons_succ]
        refine take_on (i := 26) (v := ?_) rfl rfl (by kernel_rfl) (by kernel_rfl) (by kernel_rfl) (fun _ _ _ h => h) rfl ?_ hHeld ?_
        rotate_left
        · (intro wq hSq; have p0 := (hSq.cell (p := ⟨ga, oa + k, none⟩) hgb).trans HCA.out; go_simp <;> first | with_reducible rfl | rfl)
        simp only [Act.put, List.setIfInBounds_toArray, List.set_cons_zero, List.set_cons_succ]
        refine take_on (i := 27) (v := ?_) rfl rfl (by kernel_rfl) (by kernel_rfl) (by kernel_rfl) (fun _ _ _ h => h) rfl ?_ hHeld ?_
        rotate_left
        · (intro wq hSq; have p0 := (hSq.cell (p := ⟨ga, oa + k, none⟩) hgb).trans HCA.out; go_simp <;> first | with_reducible rfl | rfl)
        simp only [Act.put, List.setIfInBounds_toArray, List.set_cons_zero, List.set_cons_succ]
        refine take_on (i := 28) (v := ?_) rfl rfl (by kernel_rfl) (by kernel_rfl) (by kernel_rfl) (fun _ _ _ h => h) rfl ?_ hHeld ?_
        rotate_left
        · (intro wq hSq; have p0 := (hSq.cell (p := ⟨ga, oa + k, none⟩) hgb).trans HCA.out; go_simp <;> first | with_reducible rfl | rfl)
        simp only [Act.put, List.setIfInBounds_toArray, List.set_cons_zero, List.set_cons_succ]
        refine take_on (i := 29) (v := ?_) rfl rfl (by kernel_rfl) (by kernel_rfl) (by kernel_rfl) (fun _ _ _ h => h) rfl ?_ hHeld ?_
        rotate_left
        · (intro wq hSq; have p0 := (hSq.cell (p := ⟨ga, oa + k, none⟩) hgb).trans HCA.out; go_simp <;> first | with_reducible rfl | rfl)
        simp only [Act.put, List.setIfInBounds_toArray, List.set_cons_zero, List.set_cons_succ]
        refine take_on (i := 30) (v := ?_) rfl rfl (by kernel_rfl) (by kernel_rfl) (by kernel_rfl) (fun _ _ _ h => h) rfl ?_ hHeld ?_
        rotate_left
        · (intro wq hSq; have p0 := (hSq.cell (p := ⟨ga, oa + k, none⟩) hgb).trans HCA.out; go_simp <;> first | with_reducible rfl | rfl)
        simp only [Act.put, List.setIfInBounds_toArray, List.set_cons_zero, List.set_cons_succ]
        refine take_on (i := 31) (v := ?_) rfl rfl (by kernel_rfl) (by kernel_rfl) (by kernel_rfl) (fun _ _ _ h => h) rfl ?_ hHeld ?_
        rotate_left
        · (intro wq hSq; have p0 := (hSq.cell (p := ⟨ga, oa + k, none⟩) hgb).trans HCA.out; go_simp <;> first | with_reducible rfl | rfl)
        simp only [Act.put, List.setIfInBounds_toArray, List.set_cons_zero, List.set_cons_succ]
        refine take_on (i := 32) (v := ?_) rfl rfl (by kernel_rfl) (by kernel_rfl) (by kernel_rfl) (fun _ _ _ h => h) rfl ?_ hHeld ?_
        rotate_left
        · (intro wq hSq; have p0 := (hSq.cell (p := ⟨ga, oa + k, none⟩) hgb).trans HCA.out; go_simp <;> first | with_reducible rfl | rfl)
        simp only [Act.put, List.setIfInBounds_toArray, List.set_cons_zero, List.set_cons_succ]
        refine take_on (i := 33) (v := ?_) rfl rfl (by kernel_rfl) (by kernel_rfl) (by kernel_rfl) (fun _ _ _ h => h) rfl ?_ hHeld ?_
        rotate_left
        · (intro wq hSq; have p0 := (hSq.cell (p := ⟨ga, oa + k, none⟩) hgb).trans HCA.out; go_simp <;> first | with_reducible rfl | rfl)
        simp only [Act.put, List.setIfInBounds_toArray, List.set_cons_zero, List.set_cons_succ]
        refine wpAnyH_done (by kernel_rfl) ?_ _
        go_wp2_with fail
        go_roundw
        case rel => exact ⟨k + 1, by omega, by go_num, hHeld⟩
        case measure => simp [intOf]; omega
    · have hkM : decide ((k : Int) < (M : Int)) = false := by simp; omega
      have hkM2 : ¬ k < M := hlt
      clear hca hrb
      go_wp2_with fail
      go_ret
      exact ⟨by simp, hbl⟩
end Go.Proofs.Ytlhlpofmeeiffab
