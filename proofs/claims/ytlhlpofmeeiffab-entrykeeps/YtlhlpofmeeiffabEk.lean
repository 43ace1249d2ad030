/- What the law on the entries' memory does with slices: marked room, looked at, spoilt. Slices of bytes apart from one another, and boxes of entries and versions beside them. Two entries made in one line, in whatever order. -/
import Derived.Test.YtlhlpofmeeiffabEe1
import Derived.Test.YtlhlpofmeeiffabFs1
import Derived.Test.YtlhlpofmeeiffabReg
import Derived.Test.YtlhlpofmeeiffabReg2
import Derived.Laws.BitsAllLaws
import Derived.Test.YtlhlpofmeeiffabEg3
namespace Go.Proofs.Ytlhlpofmeeiffab
open Go.RowKit

/-- k marks. -/
def marks (k : Nat) : List Nat := (List.range k).map (· ^^^ 165)
theorem marks_len (k : Nat) : (marks k).length = k := by simp [marks]
theorem marks_succ (k : Nat) : marks (k + 1) = marks k ++ [k ^^^ 165] := by simp [marks, List.range_succ]
theorem xor_lt {k : Nat} (h : k < 256) : k ^^^ 165 < 256 := Nat.xor_lt_two_pow (n := 8) h (by decide)
theorem marks_8 {k : Nat} (h : k ≤ 70) : All8 (marks k) := by
  intro z hz
  obtain ⟨i, hi, rfl⟩ := List.mem_map.1 hz
  have := List.mem_range.1 hi
  exact xor_lt (by omega)
theorem marks_at {k i : Nat} (h : i < k) : at0 (marks k) i = i ^^^ 165 := by
  unfold at0 marks
  rw [List.getD_eq_getElem?_getD, List.getElem?_map, List.getElem?_range h]; rfl

set_option maxRecDepth 100000 in
set_option maxHeartbeats 400000 in
theorem withRoom10_any (a : Option Addr) (cap : Nat) (zs : List Nat) (w : World) (hr : RowB w a zs) (hl : zs.length + 70 ≤ 140737488355328) (hnil : a = none → zs.length = 0 ∧ cap = 0) :
    Calls Try.prog 6 #[.slice a zs.length cap] w fun e w' => (∃ r, e = .returned r ∧ OwnB w' w.heap.size r (zs ++ marks 70)) ∧ Below w.heap.size w w' := by
  go_enter Try.func6, Try.ntmps6
  go_wp2_with (at_builtin; refine wpList_append_row _ rfl _ _ rfl w.heap.size _ [] rfl (World.ownsRow_nil _ _ _ _) a cap zs rfl hr hnil (by simp; omega) (Nat.le_refl _) ?_; intro r1 w1 ho1 hg1 hat1)
  have hb1 : Below w.heap.size w w1 := (Below.refl _ _).grown hg1 (Nat.le_refl _) (fun j e => by cases e)
  rw [List.nil_append] at ho1
  clear hg1 hat1 hr
  go_loopw [3, 4] (fun r i wr => ∃ k : Nat, k ≤ 70 ∧ i = .int .i64 (k : Int) ∧ OwnB wr w.heap.size r (zs ++ marks k) ∧ Below w.heap.size w wr) (fun _ i _ => 70 - (intOf i).toNat)
  case atStart => exact ⟨0, by omega, rfl, by simpa [marks] using ho1, hb1⟩
  case round =>
    obtain ⟨k, hk, rfl, hown, hbl⟩ := hrel
    clear ho1 hb1
    by_cases hlt : k < 70
    · have hbs := hbl.size
      have hd : decide ((k : Int) < 70) = true := by simp; omega
      have hlen : (zs ++ marks k).length ≤ zs.length + 69 := by simp [marks_len]; omega
      have hw : IntKind.u8.wrap (k : Int) = (k : Int) := by rw [IntKind.wrap_u8']; omega
      have hx : bits .xor .u8 (k : Int) 165 = ((k ^^^ 165 : Nat) : Int) := u8_xor_nat k 165 (by omega) (by decide)
      have hxl := xor_lt (k := k) (by omega)
      have HS := hide_it (marks_succ k)
      obtain ⟨M, hM⟩ : ∃ M, M = k ^^^ 165 := ⟨_, rfl⟩
      rw [← hM] at hx hxl HS
      clear hM
      go_wp2_with (at_builtin; refine wpList_append_byte _ rfl _ _ rfl w.heap.size _ _ rfl hown M rfl (by omega) hbs ?_; intro v4 w4 hown4 hg4 hat4)
      go_roundw
      case rel => exact ⟨k + 1, by omega, by go_num, by rw [HS.out, ← List.append_assoc]; exact hown4, (hbl.alloc hbs _).grown hg4 (by simp; omega) (fun j e => hown.ge e)⟩
      case measure => simp [intOf]; omega
    · have hk8 : k = 70 := by omega
      subst hk8
      go_wp2_with fail
      go_ret
      exact ⟨⟨_, rfl, hown⟩, hbl⟩

theorem fill_step {zs : List Nat} {k x : Nat} (hk : k < zs.length) : (List.replicate k x ++ zs.drop k).set k x = List.replicate (k + 1) x ++ zs.drop (k + 1) := by
  rw [List.set_append_right _ _ (by simp)]
  rw [List.length_replicate, Nat.sub_self, List.drop_eq_getElem_cons hk, List.set_cons_zero, List.replicate_succ', List.append_assoc]
  rfl
theorem fill_len {zs : List Nat} {k x : Nat} (hk : k ≤ zs.length) : (List.replicate k x ++ zs.drop k).length = zs.length := by simp; omega

set_option maxRecDepth 100000 in
set_option maxHeartbeats 800000 in
theorem spoil_any (a : Option Addr) (cap : Nat) (zs : List Nat) (c base : Nat) (w : World) (ho : OwnB w base (.slice a zs.length cap) zs) (hb : base ≤ w.heap.size) (hl : zs.length + 70 ≤ 140737488355328) :
    Calls Try.prog 16 #[.slice a zs.length cap, .int .u8 (c : Int)] w fun e w' => e = .returned (.tuple #[]) ∧ w.grownBy w' (Value.slice a zs.length cap).ownBlock := by
  obtain ⟨N, hN⟩ : ∃ N, N = zs.length := ⟨_, rfl⟩
  obtain ⟨m, hm⟩ : ∃ m : Nat, IntKind.u8.wrap ((c : Int) + 1) = (m : Int) := ⟨(IntKind.u8.wrap ((c : Int) + 1)).toNat, by rw [IntKind.wrap_u8']; omega⟩
  rw [← hN]
  replace hN := hide_it hN
  have hl' : N + 70 ≤ 140737488355328 := by have := hN.out; omega
  have ho' : Hid (OwnB w base (.slice a N cap) zs) := by unfold Hid; rw [hN.out]; exact ho
  clear ho hl
  go_enter Try.func16, Try.ntmps16
  go_wp2
  go_loopw [4] (fun i wr => ∃ k : Nat, k ≤ N ∧ i = .int .i64 (k : Int) ∧ Hid (OwnB wr base (.slice a N cap) (List.replicate k c ++ zs.drop k)) ∧ Hid (w.grownBy wr (Value.slice a N cap).ownBlock)) (fun i _ => N - (intOf i).toNat)
  case atStart => exact ⟨0, by omega, rfl, (by show OwnB _ _ _ _; simpa using ho'.out), World.grownBy.refl _ _⟩
  case round =>
    obtain ⟨k, hk, rfl, hO, hG⟩ := hrel
    by_cases hlt : k < N
    · have hki : (k : Int) < (N : Int) := by omega
      have hfl : (List.replicate k c ++ zs.drop k).length = N := by rw [fill_len (by rw [← hN.out]; exact hk), hN.out]
      obtain ⟨g', cur, e', hnn, _, hhc, hcc⟩ := hO.out.at (by rw [hfl]; omega)
      cases e'
      clear hnn
      have hcell : wr.cell? ⟨g', k, none⟩ = some (.int .u8 ((at0 (List.replicate k c ++ zs.drop k) k : Nat) : Int)) := by
        rw [cell_of_row _ _ _ _ _ _ hhc]; exact hcc k (by rw [hfl]; exact hlt)
      have hfz := frozen_of_row wr g' k _ _ hhc
      have hset := hO.out.set (i := k) (by rw [hfl]; exact hlt) c
      rw [fill_step (by rw [← hN.out]; exact hlt)] at hset
      have hgr := grown_setCell (g := g') hG.out k (.int .u8 (c : Int))
      have HS := hide_it hset
      have HGR := hide_it hgr
      clear hhc hcc hO hG hset hgr hfl
      generalize at0 (List.replicate k c ++ zs.drop k) k = y at *
      go_wp2
      go_roundw
      case rel => exact ⟨k + 1, by omega, by go_num, HS.out, HGR.out⟩
      case measure => simp [intOf]; omega
    · have hkn : ¬ (k : Int) < (N : Int) := by omega
      have hO2 : OwnB wr base (.slice a N cap) (List.replicate zs.length c) := by
        have h := hO.out
        rwa [show k = zs.length by have := hN.out; omega, List.drop_length, List.append_nil] at h
      clear hO
      have hlr : (List.replicate zs.length c).length = N := by rw [List.length_replicate, hN.out]
      obtain ⟨ys, hys⟩ : ∃ ys, ys = List.replicate zs.length c := ⟨_, rfl⟩
      rw [← hys] at hO2 hlr
      clear hys
      replace hlr := hide_it hlr
      have hwr := hG.out.size
      obtain ⟨wo, rfl⟩ : ∃ x, x = wr := ⟨_, rfl⟩
      clear hkn
      go_wp2
      go_loopw [0, 5] (fun r i wq => ∃ j : Nat, j ≤ 70 ∧ i = .int .i64 (j : Int) ∧ OwnB wq base r (ys ++ List.replicate j m) ∧ Hid (r.ownBlock = (Value.slice a N cap).ownBlock ∨ ∃ b, r.ownBlock = some b ∧ w.heap.size ≤ b) ∧ Hid (w.grownBy wq (Value.slice a N cap).ownBlock)) (fun _ i _ => 70 - (intOf i).toNat)
      case atStart => exact ⟨0, by omega, rfl, by simpa using hO2, .inl rfl, hG.out⟩
      case round =>
        obtain ⟨j, hj, rfl, hown, hat, hg⟩ := hrel
        clear hO2 hG
        by_cases hjt : j < 70
        · have hd : decide ((j : Int) < 70) = true := by simp; omega
          have hlen : (ys ++ List.replicate j m).length ≤ N + 69 := by rw [List.length_append, List.length_replicate, hlr.out]; omega
          have hsz := hg.out.size
          have HS : Hid (ys ++ List.replicate (j + 1) m = ys ++ List.replicate j m ++ [m]) := by show _ = _; rw [List.replicate_succ', List.append_assoc]
          go_wp2_with (at_builtin; refine wpList_append_byte _ rfl _ _ rfl base _ _ rfl hown m (by try rfl) (by omega) (by omega) ?_; intro v4 w4 hown4 hg4 hat4)
          go_roundw
          case rel =>
            refine ⟨j + 1, by omega, by go_num, by rw [HS.out]; exact hown4, ?_, ?_⟩
            · show _ ∨ _
              rcases hat4 with e | e
              · rw [e]; exact hat.out
              · exact .inr ⟨_, e, by first | omega | (simp; omega)⟩
            · refine ⟨hg4.os.trans hg.out.os, hg4.tape.trans hg.out.tape, hg4.output.trans hg.out.output, Nat.le_trans hsz (by have := hg4.size; simp at this; omega), fun b hbl hne => ?_⟩
              have h1 : some b ≠ u0.ownBlock := fun e => by
                rcases hat.out with h2 | ⟨b', h2, h3⟩
                · exact hne (e.trans h2)
                · rw [h2] at e; cases e; omega
              rw [hg4.block b (by simp; omega) h1, Below.heap_alloc _ _ _ (by omega)]
              exact hg.out.block b hbl hne
          case measure => simp [intOf]; omega
        · have hj7 : j = 70 := by omega
          subst hj7
          go_wp2_with fail
          first | exact ⟨rfl, hg.out⟩ | (go_end0; exact ⟨rfl, hg.out⟩)

set_option maxRecDepth 100000 in
set_option maxHeartbeats 800000 in
theorem stays_any (a b : Option Addr) (ca cb : Nat) (zs : List Nat) (w : World) (hra : RowB w a (zs ++ marks 70)) (hrb : RowB w b zs) (_h8 : All8 zs) (hl : zs.length + 70 ≤ 140737488355328) :
    Calls Try.prog 12 #[.slice a (zs.length + 70) ca, .slice b zs.length cb] w fun e w' => e = .returned (.bool true) ∧ Below w.heap.size w w' := by
  obtain ⟨N, hN⟩ : ∃ N, N = zs.length := ⟨_, rfl⟩
  have hlen : (zs ++ marks 70).length = N + 70 := by rw [List.length_append, marks_len, hN]
  obtain ⟨ga, oa, rfl, hgb, hca⟩ := hra.here (i := N) (by rw [hlen]; omega)
  rw [hlen] at hca
  rw [← hN] at hl ⊢
  replace hN := hide_it hN
  obtain ⟨M, hM⟩ : ∃ M, M = N + 70 := ⟨_, rfl⟩
  have hwM : IntKind.i64.wrap ((N : Int) + 70) = (M : Int) := by rw [IntKind.wrap_i64]; omega
  rw [← hM] at hca ⊢
  have hMl : M ≤ 140737488355328 := by omega
  have hNM : N ≤ M := by omega
  have hMN : M ≤ N + 70 := by omega
  replace hM := hide_it hM
  clear hra hl hlen
  go_enter Try.func12, Try.ntmps12
  go_wp2
  go_loopw [5] (fun i wr => ∃ k : Nat, k ≤ M ∧ i = .int .i64 (k : Int) ∧ Below w.heap.size w wr) (fun i _ => M - (intOf i).toNat)
  case atStart => exact ⟨0, by omega, rfl, Below.refl _ _⟩
  case round =>
    obtain ⟨k, hk, rfl, hbl⟩ := hrel
    by_cases hlt : k < M
    · have hki : decide ((k : Int) < (M : Int)) = true := by simp; omega
      have hcell := hca k hlt
      by_cases hkN : k < N
      · have hd1 : decide ((k : Int) < (N : Int)) = true := by simp; omega
        have hd2 : decide ((N : Int) ≤ (k : Int)) = false := by simp; omega
        have hd3 : ¬ N ≤ k := by omega
        obtain ⟨gb, ob, rfl, hgb2, hcb⟩ := hrb.here (i := k) (by rw [← hN.out]; exact hkN)
        have hcell2 := hcb k (by rw [← hN.out]; exact hkN)
        have hat : at0 (zs ++ marks 70) k = at0 zs k := by
          unfold at0
          rw [List.getD_eq_getElem?_getD, List.getD_eq_getElem?_getD, List.getElem?_append_left (by rw [← hN.out]; exact hkN)]
        rw [hat] at hcell
        generalize at0 zs k = y at *
        have HCA := hide_it hcell
        have HCB := hide_it hcell2
        clear hcell hcell2 hcb hca hrb hat
        go_wp2_with fail
        refine wp_region_held_drew (S := (fun w' => Below w.heap.size w w')) (by kernel_rfl) ?_ (fun hHeld => ?_)
        · exact hbl.drew
        refine take_on (i := 0) (v := ?_) rfl rfl (by kernel_rfl) (by kernel_rfl) (by kernel_rfl) (fun _ _ _ h => h) rfl ?_ hHeld ?_
        rotate_left
        · (intro wq hSq; have p0 := (hSq.cell (p := ⟨ga, oa + k, none⟩) hgb).trans HCA.out; have p1 := (hSq.cell (p := ⟨gb, ob + k, none⟩) hgb2).trans HCB.out; go_simp <;> first | with_reducible rfl | rfl)
        simp only [Act.put, List.setIfInBounds_toArray, List.set_cons_zero, List.set_cons_succ]
        refine take_on (i := 1) (v := ?_) rfl rfl (by kernel_rfl) (by kernel_rfl) (by kernel_rfl) (fun _ _ _ h => h) rfl ?_ hHeld ?_
        rotate_left
        · (intro wq hSq; have p0 := (hSq.cell (p := ⟨ga, oa + k, none⟩) hgb).trans HCA.out; have p1 := (hSq.cell (p := ⟨gb, ob + k, none⟩) hgb2).trans HCB.out; go_simp <;> first | with_reducible rfl | rfl)
        simp only [Act.put, List.setIfInBounds_toArray, List.set_cons_zero, List.set_cons_succ]
        refine take_on (i := 2) (v := ?_) rfl rfl (by kernel_rfl) (by kernel_rfl) (by kernel_rfl) (fun _ _ _ h => h) rfl ?_ hHeld ?_
        rotate_left
        · (intro wq hSq; have p0 := (hSq.cell (p := ⟨ga, oa + k, none⟩) hgb).trans HCA.out; have p1 := (hSq.cell (p := ⟨gb, ob + k, none⟩) hgb2).trans HCB.out; go_simp <;> first | with_reducible rfl | rfl)
        simp only [Act.put, List.setIfInBounds_toArray, List.set_cons_zero, List.set_cons_succ]
        refine take_on (i := 3) (v := ?_) rfl rfl (by kernel_rfl) (by kernel_rfl) (by kernel_rfl) (fun _ _ _ h => h) rfl ?_ hHeld ?_
        rotate_left
        · (intro wq hSq; have p0 := (hSq.cell (p := ⟨ga, oa + k, none⟩) hgb).trans HCA.out; have p1 := (hSq.cell (p := ⟨gb, ob + k, none⟩) hgb2).trans HCB.out; go_simp <;> first | with_reducible rfl | rfl)
        simp only [Act.put, List.setIfInBounds_toArray, List.set_cons_zero, List.set_cons_succ]
        refine take_on (i := 4) (v := ?_) rfl rfl (by kernel_rfl) (by kernel_rfl) (by kernel_rfl) (fun _ _ _ h => h) rfl ?_ hHeld ?_
        rotate_left
        · (intro wq hSq; have p0 := (hSq.cell (p := ⟨ga, oa + k, none⟩) hgb).trans HCA.out; have p1 := (hSq.cell (p := ⟨gb, ob + k, none⟩) hgb2).trans HCB.out; go_simp <;> first | with_reducible rfl | rfl)
        simp only [Act.put, List.setIfInBounds_toArray, List.set_cons_zero, List.set_cons_succ]
        refine take_on (i := 5) (v := ?_) rfl rfl (by kernel_rfl) (by kernel_rfl) (by kernel_rfl) (fun _ _ _ h => h) rfl ?_ hHeld ?_
        rotate_left
        · (intro wq hSq; have p0 := (hSq.cell (p := ⟨ga, oa + k, none⟩) hgb).trans HCA.out; have p1 := (hSq.cell (p := ⟨gb, ob + k, none⟩) hgb2).trans HCB.out; go_simp <;> first | with_reducible rfl | rfl)
        simp only [Act.put, List.setIfInBounds_toArray, List.set_cons_zero, List.set_cons_succ]
        refine take_on (i := 6) (v := ?_) rfl rfl (by kernel_rfl) (by kernel_rfl) (by kernel_rfl) (fun _ _ _ h => h) rfl ?_ hHeld ?_
        rotate_left
        · (intro wq hSq; have p0 := (hSq.cell (p := ⟨ga, oa + k, none⟩) hgb).trans HCA.out; have p1 := (hSq.cell (p := ⟨gb, ob + k, none⟩) hgb2).trans HCB.out; go_simp <;> first | with_reducible rfl | rfl)
        simp only [Act.put, List.setIfInBounds_toArray, List.set_cons_zero, List.set_cons_succ]
        refine take_on (i := 7) (v := ?_) rfl rfl (by kernel_rfl) (by kernel_rfl) (by kernel_rfl) (fun _ _ _ h => h) rfl ?_ hHeld ?_
        rotate_left
        · (intro wq hSq; have p0 := (hSq.cell (p := ⟨ga, oa + k, none⟩) hgb).trans HCA.out; have p1 := (hSq.cell (p := ⟨gb, ob + k, none⟩) hgb2).trans HCB.out; go_simp <;> first | with_reducible rfl | rfl)
        simp only [Act.put, List.setIfInBounds_toArray, List.set_cons_zero, List.set_cons_succ]
        refine take_on (i := 8) (v := ?_) rfl rfl (by kernel_rfl) (by kernel_rfl) (by kernel_rfl) (fun _ _ _ h => h) rfl ?_ hHeld ?_
        rotate_left
        · (intro wq hSq; have p0 := (hSq.cell (p := ⟨ga, oa + k, none⟩) hgb).trans HCA.out; have p1 := (hSq.cell (p := ⟨gb, ob + k, none⟩) hgb2).trans HCB.out; go_simp <;> first | with_reducible rfl | rfl)
        simp only [Act.put, List.setIfInBounds_toArray, List.set_cons_zero, List.set_cons_succ]
        refine take_on (i := 9) (v := ?_) rfl rfl (by kernel_rfl) (by kernel_rfl) (by kernel_rfl) (fun _ _ _ h => h) rfl ?_ hHeld ?_
        rotate_left
        · (intro wq hSq; have p0 := (hSq.cell (p := ⟨ga, oa + k, none⟩) hgb).trans HCA.out; have p1 := (hSq.cell (p := ⟨gb, ob + k, none⟩) hgb2).trans HCB.out; go_simp <;> first | with_reducible rfl | rfl)
        simp only [Act.put, List.setIfInBounds_toArray, List.set_cons_zero, List.set_cons_succ]
        refine take_on (i := 10) (v := ?_) rfl rfl (by kernel_rfl) (by kernel_rfl) (by kernel_rfl) (fun _ _ _ h => h) rfl ?_ hHeld ?_
        rotate_left
        · (intro wq hSq; have p0 := (hSq.cell (p := ⟨ga, oa + k, none⟩) hgb).trans HCA.out; have p1 := (hSq.cell (p := ⟨gb, ob + k, none⟩) hgb2).trans HCB.out; go_simp <;> first | with_reducible rfl | rfl)
        simp only [Act.put, List.setIfInBounds_toArray, List.set_cons_zero, List.set_cons_succ]
        refine take_on (i := 11) (v := ?_) rfl rfl (by kernel_rfl) (by kernel_rfl) (by kernel_rfl) (fun _ _ _ h => h) rfl ?_ hHeld ?_
        rotate_left
        · (intro wq hSq; have p0 := (hSq.cell (p := ⟨ga, oa + k, none⟩) hgb).trans HCA.out; have p1 := (hSq.cell (p := ⟨gb, ob + k, none⟩) hgb2).trans HCB.out; go_simp <;> first | with_reducible rfl | rfl)
        simp only [Act.put, List.setIfInBounds_toArray, List.set_cons_zero, List.set_cons_succ]
        refine take_on (i := 12) (v := ?_) rfl rfl (by kernel_rfl) (by kernel_rfl) (by kernel_rfl) (fun _ _ _ h => h) rfl ?_ hHeld ?_
        rotate_left
        · (intro wq hSq; have p0 := (hSq.cell (p := ⟨ga, oa + k, none⟩) hgb).trans HCA.out; have p1 := (hSq.cell (p := ⟨gb, ob + k, none⟩) hgb2).trans HCB.out; go_simp <;> first | with_reducible rfl | rfl)
        simp only [Act.put, List.setIfInBounds_toArray, List.set_cons_zero, List.set_cons_succ]
        refine take_on (i := 13) (v := ?_) rfl rfl (by kernel_rfl) (by kernel_rfl) (by kernel_rfl) (fun _ _ _ h => h) rfl ?_ hHeld ?_
        rotate_left
        · (intro wq hSq; have p0 := (hSq.cell (p := ⟨ga, oa + k, none⟩) hgb).trans HCA.out; have p1 := (hSq.cell (p := ⟨gb, ob + k, none⟩) hgb2).trans HCB.out; go_simp <;> first | with_reducible rfl | rfl)
        simp only [Act.put, List.setIfInBounds_toArray, List.set_cons_zero, List.set_cons_succ]
        refine take_on (i := 14) (v := ?_) rfl rfl (by kernel_rfl) (by kernel_rfl) (by kernel_rfl) (fun _ _ _ h => h) rfl ?_ hHeld ?_
        rotate_left
        · (intro wq hSq; have p0 := (hSq.cell (p := ⟨ga, oa + k, none⟩) hgb).trans HCA.out; have p1 := (hSq.cell (p := ⟨gb, ob + k, none⟩) hgb2).trans HCB.out; go_simp <;> first | with_reducible rfl | rfl)
        simp only [Act.put, List.setIfInBounds_toArray, List.set_cons_zero, List.set_cons_succ]
        refine take_on (i := 15) (v := ?_) rfl rfl (by kernel_rfl) (by kernel_rfl) (by kernel_rfl) (fun _ _ _ h => h) rfl ?_ hHeld ?_
        rotate_left
        · (intro wq hSq; have p0 := (hSq.cell (p := ⟨ga, oa + k, none⟩) hgb).trans HCA.out; have p1 := (hSq.cell (p := ⟨gb, ob + k, none⟩) hgb2).trans HCB.out; go_simp <;> first | with_reducible rfl | rfl)
        simp only [Act.put, List.setIfInBounds_toArray, List.set_cons_zero, List.set_cons_succ]
        refine take_on (i := 16) (v := ?_) rfl rfl (by kernel_rfl) (by kernel_rfl) (by kernel_rfl) (fun _ _ _ h => h) rfl ?_ hHeld ?_
        rotate_left
        · (intro wq hSq; have p0 := (hSq.cell (p := ⟨ga, oa + k, none⟩) hgb).trans HCA.out; have p1 := (hSq.cell (p := ⟨gb, ob + k, none⟩) hgb2).trans HCB.out; go_simp <;> first | with_reducible rfl | rfl)
        simp only [Act.put, List.setIfInBounds_toArray, List.set_cons_zero, List.set_cons_succ]
        refine take_on (i := 17) (v := ?_) rfl rfl (by kernel_rfl) (by kernel_rfl) (by kernel_rfl) (fun _ _ _ h => h) rfl ?_ hHeld ?_
        rotate_left
        · (intro wq hSq; have p0 := (hSq.cell (p := ⟨ga, oa + k, none⟩) hgb).trans HCA.out; have p1 := (hSq.cell (p := ⟨gb, ob + k, none⟩) hgb2).trans HCB.out; go_simp <;> first | with_reducible rfl | rfl)
        simp only [Act.put, List.setIfInBounds_toArray, List.set_cons_zero, List.set_cons_succ]
        refine take_on (i := 18) (v := ?_) rfl rfl (by kernel_rfl) (by kernel_rfl) (by kernel_rfl) (fun _ _ _ h => h) rfl ?_ hHeld ?_
        rotate_left
        · (intro wq hSq; have p0 := (hSq.cell (p := ⟨ga, oa + k, none⟩) hgb).trans HCA.out; have p1 := (hSq.cell (p := ⟨gb, ob + k, none⟩) hgb2).trans HCB.out; go_simp <;> first | with_reducible rfl | rfl)
        simp only [Act.put, List.setIfInBounds_toArray, List.set_cons_zero, List.set_cons_succ]
        refine take_on (i := 19) (v := ?_) rfl rfl (by kernel_rfl) (by kernel_rfl) (by kernel_rfl) (fun _ _ _ h => h) rfl ?_ hHeld ?_
        rotate_left
        · (intro wq hSq; have p0 := (hSq.cell (p := ⟨ga, oa + k, none⟩) hgb).trans HCA.out; have p1 := (hSq.cell (p := ⟨gb, ob + k, none⟩) hgb2).trans HCB.out; go_simp <;> first | with_reducible rfl | rfl)
        simp only [Act.put, List.setIfInBounds_toArray, List.set_cons_zero, List.set_cons_succ]
        refine take_on (i := 20) (v := ?_) rfl rfl (by kernel_rfl) (by kernel_rfl) (by kernel_rfl) (fun _ _ _ h => h) rfl ?_ hHeld ?_
        rotate_left
        · (intro wq hSq; have p0 := (hSq.cell (p := ⟨ga, oa + k, none⟩) hgb).trans HCA.out; have p1 := (hSq.cell (p := ⟨gb, ob + k, none⟩) hgb2).trans HCB.out; go_simp <;> first | with_reducible rfl | rfl)
        simp only [Act.put, List.setIfInBounds_toArray, List.set_cons_zero, List.set_cons_succ]
        refine take_off (i := 21) rfl rfl (by kernel_rfl) (by kernel_rfl) (by kernel_rfl) (fun _ _ _ h => h) rfl hHeld ?_
        simp only [Act.put, List.setIfInBounds_toArray, List.set_cons_zero, List.set_cons_succ]
        refine take_off (i := 22) rfl rfl (by kernel_rfl) (by kernel_rfl) (by kernel_rfl) (fun _ _ _ h => h) rfl hHeld ?_
        simp only [Act.put, List.setIfInBounds_toArray, List.set_cons_zero, List.set_cons_succ]
        refine take_off (i := 23) rfl rfl (by kernel_rfl) (by kernel_rfl) (by kernel_rfl) (fun _ _ _ h => h) rfl hHeld ?_
        simp only [Act.put, List.setIfInBounds_toArray, List.set_cons_zero, List.set_cons_succ]
        refine take_off (i := 24) rfl rfl (by kernel_rfl) (by kernel_rfl) (by kernel_rfl) (fun _ _ _ h => h) rfl hHeld ?_
        simp only [Act.put, List.setIfInBounds_toArray, List.set_cons_zero, List.set_cons_succ]
        refine take_off (i := 25) rfl rfl (by kernel_rfl) (by kernel_rfl) (by kernel_rfl) (fun _ _ _ h => h) rfl hHeld ?_
        simp only [Act.put, List.setIfInBounds_toArray, List.set_cons_zero, List.set_cons_succ]
        refine take_off (i := 26) rfl rfl (by kernel_rfl) (by kernel_rfl) (by kernel_rfl) (fun _ _ _ h => h) rfl hHeld ?_
        simp only [Act.put, List.setIfInBounds_toArray, List.set_cons_zero, List.set_cons_succ]
        refine take_off (i := 27) rfl rfl (by kernel_rfl) (by kernel_rfl) (by kernel_rfl) (fun _ _ _ h => h) rfl hHeld ?_
        simp only [Act.put, List.setIfInBounds_toArray, List.set_cons_zero, List.set_cons_succ]
        refine take_off (i := 28) rfl rfl (by kernel_rfl) (by kernel_rfl) (by kernel_rfl) (fun _ _ _ h => h) rfl hHeld ?_
        simp only [Act.put, List.setIfInBounds_toArray, List.set_cons_zero, List.set_cons_succ]
        refine take_off (i := 29) rfl rfl (by kernel_rfl) (by kernel_rfl) (by kernel_rfl) (fun _ _ _ h => h) rfl hHeld ?_
        simp only [Act.put, List.setIfInBounds_toArray, List.set_cons_zero, List.set_cons_succ]
        refine take_off (i := 30) rfl rfl (by kernel_rfl) (by kernel_rfl) (by kernel_rfl) (fun _ _ _ h => h) rfl hHeld ?_
        simp only [Act.put, List.setIfInBounds_toArray, List.set_cons_zero, List.set_cons_succ]
        refine take_off (i := 31) rfl rfl (by kernel_rfl) (by kernel_rfl) (by kernel_rfl) (fun _ _ _ h => h) rfl hHeld ?_
        simp only [Act.put, List.setIfInBounds_toArray, List.set_cons_zero, List.set_cons_succ]
        refine take_on (i := 32) (v := ?_) rfl rfl (by kernel_rfl) (by kernel_rfl) (by kernel_rfl) (fun _ _ _ h => h) rfl ?_ hHeld ?_
        rotate_left
        · (intro wq hSq; have p0 := (hSq.cell (p := ⟨ga, oa + k, none⟩) hgb).trans HCA.out; have p1 := (hSq.cell (p := ⟨gb, ob + k, none⟩) hgb2).trans HCB.out; go_simp <;> first | with_reducible rfl | rfl)
        simp only [Act.put, List.setIfInBounds_toArray, List.set_cons_zero, List.set_cons_succ]
        refine take_on (i := 33) (v := ?_) rfl rfl (by kernel_rfl) (by kernel_rfl) (by kernel_rfl) (fun _ _ _ h => h) rfl ?_ hHeld ?_
        rotate_left
        · (intro wq hSq; have p0 := (hSq.cell (p := ⟨ga, oa + k, none⟩) hgb).trans HCA.out; have p1 := (hSq.cell (p := ⟨gb, ob + k, none⟩) hgb2).trans HCB.out; go_simp <;> first | with_reducible rfl | rfl)
        simp only [Act.put, List.setIfInBounds_toArray, List.set_cons_zero, List.set_cons_succ]
        refine wpAnyH_done (by kernel_rfl) ?_ _
        go_wp2_with fail
        go_roundw
        case rel => exact ⟨k + 1, by omega, by go_num, hHeld⟩
        case measure => simp [intOf]; omega
      · have hd1 : decide ((k : Int) < (N : Int)) = false := by simp; omega
        have hd2 : decide ((N : Int) ≤ (k : Int)) = true := by simp; omega
        have hd3 : N ≤ k := by omega
        obtain ⟨d, hd⟩ : ∃ d, d = k - N := ⟨_, rfl⟩
        have hd7 : d < 70 := by omega
        have hwd : IntKind.i64.wrap ((k : Int) - (N : Int)) = (d : Int) := by rw [IntKind.wrap_i64]; omega
        have hw8 : IntKind.u8.wrap (d : Int) = (d : Int) := by rw [IntKind.wrap_u8']; omega
        have hx : bits .xor .u8 (d : Int) 165 = ((d ^^^ 165 : Nat) : Int) := u8_xor_nat d 165 (by omega) (by decide)
        have hat : at0 (zs ++ marks 70) k = d ^^^ 165 := by
          rw [← marks_at hd7]
          unfold at0
          rw [List.getD_eq_getElem?_getD, List.getD_eq_getElem?_getD, List.getElem?_append_right (by rw [← hN.out]; exact hd3), ← hN.out, hd]
        rw [hat] at hcell
        obtain ⟨y, hy⟩ : ∃ y, y = d ^^^ 165 := ⟨_, rfl⟩
        rw [← hy] at hx hcell
        have HCA := hide_it hcell
        clear hcell hca hrb hat hd hy
        go_wp2_with fail
        refine wp_region_held_drew (S := (fun w' => Below w.heap.size w w')) (by kernel_rfl) ?_ (fun hHeld => ?_)
        · exact hbl.drew
        refine take_on (i := 0) (v := ?_) rfl rfl (by kernel_rfl) (by kernel_rfl) (by kernel_rfl) (fun _ _ _ h => h) rfl ?_ hHeld ?_
        rotate_left
        · (intro wq hSq; have p0 := (hSq.cell (p := ⟨ga, oa + k, none⟩) hgb).trans HCA.out; go_simp <;> first | with_reducible rfl | rfl)
        simp only [Act.put, List.setIfInBounds_toArray, List.set_cons_zero, List.set_cons_succ]
        refine take_on (i := 1) (v := ?_) rfl rfl (by kernel_rfl) (by kernel_rfl) (by kernel_rfl) (fun _ _ _ h => h) rfl ?_ hHeld ?_
        rotate_left
        · (intro wq hSq; have p0 := (hSq.cell (p := ⟨ga, oa + k, none⟩) hgb).trans HCA.out; go_simp <;> first | with_reducible rfl | rfl)
        simp only [Act.put, List.setIfInBounds_toArray, List.set_cons_zero, List.set_cons_succ]
        refine take_on (i := 2) (v := ?_) rfl rfl (by kernel_rfl) (by kernel_rfl) (by kernel_rfl) (fun _ _ _ h => h) rfl ?_ hHeld ?_
        rotate_left
        · (intro wq hSq; have p0 := (hSq.cell (p := ⟨ga, oa + k, none⟩) hgb).trans HCA.out; go_simp <;> first | with_reducible rfl | rfl)
        simp only [Act.put, List.setIfInBounds_toArray, List.set_cons_zero, List.set_cons_succ]
        refine take_on (i := 3) (v := ?_) rfl rfl (by kernel_rfl) (by kernel_rfl) (by kernel_rfl) (fun _ _ _ h => h) rfl ?_ hHeld ?_
        rotate_left
        · (intro wq hSq; have p0 := (hSq.cell (p := ⟨ga, oa + k, none⟩) hgb).trans HCA.out; go_simp <;> first | with_reducible rfl | rfl)
        simp only [Act.put, List.setIfInBounds_toArray, List.set_cons_zero, List.set_cons_succ]
        refine take_on (i := 4) (v := ?_) rfl rfl (by kernel_rfl) (by kernel_rfl) (by kernel_rfl) (fun _ _ _ h => h) rfl ?_ hHeld ?_
        rotate_left
        · (intro wq hSq; have p0 := (hSq.cell (p := ⟨ga, oa + k, none⟩) hgb).trans HCA.out; go_simp <;> first | with_reducible rfl | rfl)
        simp only [Act.put, List.setIfInBounds_toArray, List.set_cons_zero, List.set_cons_succ]
        refine take_off (i := 5) rfl rfl (by kernel_rfl) (by kernel_rfl) (by kernel_rfl) (fun _ _ _ h => h) rfl hHeld ?_
        simp only [Act.put, List.setIfInBounds_toArray, List.set_cons_zero, List.set_cons_succ]
        refine take_off (i := 6) rfl rfl (by kernel_rfl) (by kernel_rfl) (by kernel_rfl) (fun _ _ _ h => h) rfl hHeld ?_
        simp only [Act.put, List.setIfInBounds_toArray, List.set_cons_zero, List.set_cons_succ]
        refine take_off (i := 7) rfl rfl (by kernel_rfl) (by kernel_rfl) (by kernel_rfl) (fun _ _ _ h => h) rfl hHeld ?_
        simp only [Act.put, List.setIfInBounds_toArray, List.set_cons_zero, List.set_cons_succ]
        refine take_off (i := 8) rfl rfl (by kernel_rfl) (by kernel_rfl) (by kernel_rfl) (fun _ _ _ h => h) rfl hHeld ?_
        simp only [Act.put, List.setIfInBounds_toArray, List.set_cons_zero, List.set_cons_succ]
        refine take_off (i := 9) rfl rfl (by kernel_rfl) (by kernel_rfl) (by kernel_rfl) (fun _ _ _ h => h) rfl hHeld ?_
        simp only [Act.put, List.setIfInBounds_toArray, List.set_cons_zero, List.set_cons_succ]
        refine take_off (i := 10) rfl rfl (by kernel_rfl) (by kernel_rfl) (by kernel_rfl) (fun _ _ _ h => h) rfl hHeld ?_
        simp only [Act.put, List.setIfInBounds_toArray, List.set_cons_zero, List.set_cons_succ]
        refine take_off (i := 11) rfl rfl (by kernel_rfl) (by kernel_rfl) (by kernel_rfl) (fun _ _ _ h => h) rfl hHeld ?_
        simp only [Act.put, List.setIfInBounds_toArray, List.set_cons_zero, List.set_cons_succ]
        refine take_off (i := 12) rfl rfl (by kernel_rfl) (by kernel_rfl) (by kernel_rfl) (fun _ _ _ h => h) rfl hHeld ?_
        simp only [Act.put, List.setIfInBounds_toArray, List.set_cons_zero, List.set_cons_succ]
        refine take_off (i := 13) rfl rfl (by kernel_rfl) (by kernel_rfl) (by kernel_rfl) (fun _ _ _ h => h) rfl hHeld ?_
        simp only [Act.put, List.setIfInBounds_toArray, List.set_cons_zero, List.set_cons_succ]
        refine take_on (i := 14) (v := ?_) rfl rfl (by kernel_rfl) (by kernel_rfl) (by kernel_rfl) (fun _ _ _ h => h) rfl ?_ hHeld ?_
        rotate_left
        · (intro wq hSq; have p0 := (hSq.cell (p := ⟨ga, oa + k, none⟩) hgb).trans HCA.out; go_simp <;> first | with_reducible rfl | rfl)
        simp only [Act.put, List.setIfInBounds_toArray, List.set_cons_zero, List.set_cons_succ]
        refine take_on (i := 15) (v := ?_) rfl rfl (by kernel_rfl) (by kernel_rfl) (by kernel_rfl) (fun _ _ _ h => h) rfl ?_ hHeld ?_
        rotate_left
        · (intro wq hSq; have p0 := (hSq.cell (p := ⟨ga, oa + k, none⟩) hgb).trans HCA.out; go_simp <;> first | with_reducible rfl | rfl)
        simp only [Act.put, List.setIfInBounds_toArray, List.set_cons_zero, List.set_cons_succ]
        refine take_on (i := 16) (v := ?_) rfl rfl (by kernel_rfl) (by kernel_rfl) (by kernel_rfl) (fun _ _ _ h => h) rfl ?_ hHeld ?_
        rotate_left
        · (intro wq hSq; have p0 := (hSq.cell (p := ⟨ga, oa + k, none⟩) hgb).trans HCA.out; go_simp <;> first | with_reducible rfl | rfl)
        simp only [Act.put, List.setIfInBounds_toArray, List.set_cons_zero, List.set_cons_succ]
        refine take_on (i := 17) (v := ?_) rfl rfl (by kernel_rfl) (by kernel_rfl) (by kernel_rfl) (fun _ _ _ h => h) rfl ?_ hHeld ?_
        rotate_left
        · (intro wq hSq; have p0 := (hSq.cell (p := ⟨ga, oa + k, none⟩) hgb).trans HCA.out; go_simp <;> first | with_reducible rfl | rfl)
        simp only [Act.put, List.setIfInBounds_toArray, List.set_cons_zero, List.set_cons_succ]
        refine take_on (i := 18) (v := ?_) rfl rfl (by kernel_rfl) (by kernel_rfl) (by kernel_rfl) (fun _ _ _ h => h) rfl ?_ hHeld ?_
        rotate_left
        · (intro wq hSq; have p0 := (hSq.cell (p := ⟨ga, oa + k, none⟩) hgb).trans HCA.out; go_simp <;> first | with_reducible rfl | rfl)
        simp only [Act.put, List.setIfInBounds_toArray, List.set_cons_zero, List.set_cons_succ]
        refine take_on (i := 19) (v := ?_) rfl rfl (by kernel_rfl) (by kernel_rfl) (by kernel_rfl) (fun _ _ _ h => h) rfl ?_ hHeld ?_
        rotate_left
        · (intro wq hSq; have p0 := (hSq.cell (p := ⟨ga, oa + k, none⟩) hgb).trans HCA.out; go_simp <;> first | with_reducible rfl | rfl)
        simp only [Act.put, List.setIfInBounds_toArray, List.set_cons_zero, List.set_cons_succ]
        refine take_on (i := 20) (v := ?_) rfl rfl (by kernel_rfl) (by kernel_rfl) (by kernel_rfl) (fun _ _ _ h => h) rfl ?_ hHeld ?_
        rotate_left
        · (intro wq hSq; have p0 := (hSq.cell (p := ⟨ga, oa + k, none⟩) hgb).trans HCA.out; go_simp <;> first | with_reducible rfl | rfl)
        simp only [Act.put, List.setIfInBounds_toArray, List.set_cons_zero, List.set_cons_succ]
        refine take_on (i := 21) (v := ?_) rfl rfl (by kernel_rfl) (by kernel_rfl) (by kernel_rfl) (fun _ _ _ h => h) rfl ?_ hHeld ?_
        rotate_left
        · (intro wq hSq; have p0 := (hSq.cell (p := ⟨ga, oa + k, none⟩) hgb).trans HCA.out; go_simp <;> first | with_reducible rfl | rfl)
        simp only [Act.put, List.setIfInBounds_toArray, List.set_cons_zero, List.set_cons_succ]
        refine take_on (i := 22) (v := ?_) rfl rfl (by kernel_rfl) (by kernel_rfl) (by kernel_rfl) (fun _ _ _ h => h) rfl ?_ hHeld ?_
        rotate_left
        · (intro wq hSq; have p0 := (hSq.cell (p := ⟨ga, oa + k, none⟩) hgb).trans HCA.out; go_simp <;> first | with_reducible rfl | rfl)
        simp only [Act.put, List.setIfInBounds_toArray, List.set_cons_zero, List.set_cons_succ]
        refine take_on (i := 23) (v := ?_) rfl rfl (by kernel_rfl) (by kernel_rfl) (by kernel_rfl) (fun _ _ _ h => h) rfl ?_ hHeld ?_
        rotate_left
        · (intro wq hSq; have p0 := (hSq.cell (p := ⟨ga, oa + k, none⟩) hgb).trans HCA.out; go_simp <;> first | with_reducible rfl | rfl)
        simp only [Act.put, List.setIfInBounds_toArray, List.set_cons_zero, List.set_cons_succ]
        refine take_on (i := 24) (v := ?_) rfl rfl (by kernel_rfl) (by kernel_rfl) (by kernel_rfl) (fun _ _ _ h => h) rfl ?_ hHeld ?_
        rotate_left
        · (intro wq hSq; have p0 := (hSq.cell (p := ⟨ga, oa + k, none⟩) hgb).trans HCA.out; go_simp <;> first | with_reducible rfl | rfl)
        simp only [Act.put, List.setIfInBounds_toArray, List.set_cons_zero, List.set_cons_succ]
        refine take_on (i := 25) (v := ?_) rfl rfl (by kernel_rfl) (by kernel_rfl) (by kernel_rfl) (fun _ _ _ h => h) rfl ?_ hHeld ?_
        rotate_left
        · (intro wq hSq; have p0 := (hSq.cell (p := ⟨ga, oa + k, none⟩) hgb).trans HCA.out; go_simp <;> first | with_reducible rfl | rfl)
        simp only [Act.put, List.setIfInBounds_toArray, List.set_cons_zero, List.set_cons_succ]
        refine take_on (i := 26) (v := ?_) rfl rfl (by kernel_rfl) (by kernel_rfl) (by kernel_rfl) (fun _ _ _ h => h) rfl ?_ hHeld ?_
        rotate_left
        · (intro wq hSq; have p0 := (hSq.cell (p := ⟨ga, oa + k, none⟩) hgb).trans HCA.out; go_simp <;> first | with_reducible rfl | rfl)
        simp only [Act.put, List.setIfInBounds_toArray, List.set_cons_zero, List.set_cons_succ]
        refine take_on (i := 27) (v := ?_) rfl rfl (by kernel_rfl) (by kernel_rfl) (by kernel_rfl) (fun _ _ _ h => h) rfl ?_ hHeld ?_
        rotate_left
        · (intro wq hSq; have p0 := (hSq.cell (p := ⟨ga, oa + k, none⟩) hgb).trans HCA.out; go_simp <;> first | with_reducible rfl | rfl)
        simp only [Act.put, List.setIfInBounds_toArray, List.set_cons_zero, List.set_cons_succ]
        refine take_on (i := 28) (v := ?_) rfl rfl (by kernel_rfl) (by kernel_rfl) (by kernel_rfl) (fun _ _ _ h => h) rfl ?_ hHeld ?_
        rotate_left
        · (intro wq hSq; have p0 := (hSq.cell (p := ⟨ga, oa + k, none⟩) hgb).trans HCA.out; go_simp <;> first | with_reducible rfl | rfl)
        simp only [Act.put, List.setIfInBounds_toArray, List.set_cons_zero, List.set_cons_succ]
        refine take_on (i := 29) (v := ?_) rfl rfl (by kernel_rfl) (by kernel_rfl) (by kernel_rfl) (fun _ _ _ h => h) rfl ?_ hHeld ?_
        rotate_left
        · (intro wq hSq; have p0 := (hSq.cell (p := ⟨ga, oa + k, none⟩) hgb).trans HCA.out; go_simp <;> first | with_reducible rfl | rfl)
        simp only [Act.put, List.setIfInBounds_toArray, List.set_cons_zero, List.set_cons_succ]
        refine take_on (i := 30) (v := ?_) rfl rfl (by kernel_rfl) (by kernel_rfl) (by kernel_rfl) (fun _ _ _ h => h) rfl ?_ hHeld ?_
        rotate_left
        · (intro wq hSq; have p0 := (hSq.cell (p := ⟨ga, oa + k, none⟩) hgb).trans HCA.out; go_simp <;> first | with_reducible rfl | rfl)
        simp only [Act.put, List.setIfInBounds_toArray, List.set_cons_zero, List.set_cons_succ]
        refine take_on (i := 31) (v := ?_) rfl rfl (by kernel_rfl) (by kernel_rfl) (by kernel_rfl) (fun _ _ _ h => h) rfl ?_ hHeld ?_
        rotate_left
        · (intro wq hSq; have p0 := (hSq.cell (p := ⟨ga, oa + k, none⟩) hgb).trans HCA.out; go_simp <;> first | with_reducible rfl | rfl)
        simp only [Act.put, List.setIfInBounds_toArray, List.set_cons_zero, List.set_cons_succ]
        refine take_on (i := 32) (v := ?_) rfl rfl (by kernel_rfl) (by kernel_rfl) (by kernel_rfl) (fun _ _ _ h => h) rfl ?_ hHeld ?_
        rotate_left
        · (intro wq hSq; have p0 := (hSq.cell (p := ⟨ga, oa + k, none⟩) hgb).trans HCA.out; go_simp <;> first | with_reducible rfl | rfl)
        simp only [Act.put, List.setIfInBounds_toArray, List.set_cons_zero, List.set_cons_succ]
        refine take_on (i := 33) (v := ?_) rfl rfl (by kernel_rfl) (by kernel_rfl) (by kernel_rfl) (fun _ _ _ h => h) rfl ?_ hHeld ?_
        rotate_left
        · (intro wq hSq; have p0 := (hSq.cell (p := ⟨ga, oa + k, none⟩) hgb).trans HCA.out; go_simp <;> first | with_reducible rfl | rfl)
        simp only [Act.put, List.setIfInBounds_toArray, List.set_cons_zero, List.set_cons_succ]
        refine wpAnyH_done (by kernel_rfl) ?_ _
        go_wp2_with fail
        go_roundw
        case rel => exact ⟨k + 1, by omega, by go_num, hHeld⟩
        case measure => simp [intOf]; omega
    · have hkM : decide ((k : Int) < (M : Int)) = false := by simp; omega
      have hkM2 : ¬ k < M := hlt
      clear hca hrb
      go_wp2_with fail
      go_ret
      exact ⟨by simp, hbl⟩
end Go.Proofs.Ytlhlpofmeeiffab

namespace Go.Proofs.Ytlhlpofmeeiffab
open Go.RowKit

/-- Slices of bytes of one's own from block B on, no two of which meet. -/
structure Apt (w : World) (B : Nat) (ss : List (Value × List Nat)) : Prop where
  own : ∀ (i : Nat) (x : Value × List Nat), ss[i]? = some x → OwnB w B x.1 x.2
  apart : ∀ (i j : Nat) (x y : Value × List Nat), ss[i]? = some x → ss[j]? = some y → i ≠ j → ∀ b, x.1.ownBlock = some b → y.1.ownBlock ≠ some b

theorem Apt.nil (w : World) (B : Nat) : Apt w B [] := ⟨fun i x h => by simp at h, fun i j x y h => by simp at h⟩
theorem Apt.below {w w' : World} {B : Nat} {ss : List (Value × List Nat)} (h : Apt w B ss) (hb : Below w.heap.size w w') : Apt w' B ss := ⟨fun i x hx => (h.own i x hx).below hb, h.apart⟩
/-- One more, in new memory. -/
theorem Apt.push {w w' : World} {B : Nat} {ss : List (Value × List Nat)} {v : Value} {zs : List Nat} (h : Apt w B ss) (hb : Below w.heap.size w w') (hB : B ≤ w.heap.size) (ho : OwnB w' w.heap.size v zs) : Apt w' B (ss ++ [(v, zs)]) := by
  have key : ∀ i x, (ss ++ [(v, zs)])[i]? = some x → (i < ss.length ∧ ss[i]? = some x) ∨ (i = ss.length ∧ x = (v, zs)) := fun i x hx => by
    by_cases hi : i < ss.length
    · rw [List.getElem?_append_left hi] at hx; exact .inl ⟨hi, hx⟩
    · rw [List.getElem?_append_right (by omega)] at hx
      have h0 : i - ss.length = 0 := by
        have := (List.getElem?_eq_some_iff.1 hx).1
        simp at this
        omega
      rw [h0] at hx
      exact .inr ⟨by omega, by simpa using hx.symm⟩
  refine ⟨fun i x hx => ?_, fun i j x y hx hy hij b hb1 hb2 => ?_⟩
  · rcases key i x hx with ⟨_, h1⟩ | ⟨_, rfl⟩
    · exact (h.own i x h1).below hb
    · exact ho.mono hB
  · rcases key i x hx with ⟨_, h1⟩ | ⟨h1, rfl⟩ <;> rcases key j y hy with ⟨_, h2⟩ | ⟨h2, rfl⟩
    · exact h.apart i j x y h1 h2 hij b hb1 hb2
    · have := (h.own i x h1).inside b hb1
      have := ho.ge hb2
      omega
    · have := (h.own j y h2).inside b hb2
      have := ho.ge hb1
      omega
    · omega
theorem ownsRow_blk {w : World} {base : Nat} {e : TypeId} {sz : Nat} {v : Value} {n : Nat} {xs : List Value} (h : w.ownsRow base e sz v n xs) {j : Nat} (hj : v.ownBlock = some j) : base ≤ j ∧ j < w.heap.size ∧ ∃ cur, w.heap[j]? = some (.cells cur e (0, 0)) := by
  rcases h.2 with ⟨rfl, _⟩ | ⟨g, cap, cur, rfl, h3, hh, h4⟩
  · cases hj
  · cases hj; exact ⟨h3, (Array.getElem?_eq_some_iff.1 hh).1, cur, hh⟩
theorem ownsRow_still {w w' : World} {base : Nat} {e : TypeId} {sz : Nat} {v : Value} {n : Nat} {xs : List Value} (h : w.ownsRow base e sz v n xs) (hk : ∀ j, v.ownBlock = some j → w'.heap[j]? = w.heap[j]?) : w'.ownsRow base e sz v n xs := by
  refine ⟨h.1, ?_⟩
  rcases h.2 with h2 | ⟨g, cap, cur, rfl, h3, hh, h4⟩
  · exact .inl h2
  · exact .inr ⟨g, cap, cur, rfl, h3, (hk g rfl).trans hh, h4⟩
/-- What changes no row of bytes. -/
theorem Apt.keep {w w' : World} {B : Nat} {ss : List (Value × List Nat)} (h : Apt w B ss) (hk : ∀ (j : Nat) (cur : Array Value), w.heap[j]? = some (Obj.cells cur 5 (0, 0)) → w'.heap[j]? = w.heap[j]?) : Apt w' B ss :=
  ⟨fun i x hx => ownsRow_still (h.own i x hx) fun j hj => by
    obtain ⟨_, _, cur, hc⟩ := ownsRow_blk (h.own i x hx) hj
    exact hk j cur hc, h.apart⟩

/-- One of them is no longer told. -/
theorem Apt.gone {w w' : World} {B : Nat} {ss : List (Value × List Nat)} {k : Nat} {v : Value} {zs : List Nat} (h : Apt w B ss) (hk : ss[k]? = some (v, zs)) (hg : w.grownBy w' v.ownBlock) : Apt w' B (ss.set k (.slice none 0 0, [])) := by
  have hkl := (List.getElem?_eq_some_iff.1 hk).1
  have key : ∀ i x, (ss.set k (.slice none 0 0, []))[i]? = some x → (i ≠ k ∧ ss[i]? = some x) ∨ (i = k ∧ x = (.slice none 0 0, [])) := fun i x hx => by
    by_cases hi : i = k
    · subst hi
      rw [List.getElem?_set_self hkl] at hx
      exact .inr ⟨rfl, by simpa using hx.symm⟩
    · rw [List.getElem?_set_ne (fun e => hi e.symm)] at hx
      exact .inl ⟨hi, hx⟩
  refine ⟨fun i x hx => ?_, fun i j x y hx hy hij b hb1 hb2 => ?_⟩
  · rcases key i x hx with ⟨h1, h2⟩ | ⟨_, rfl⟩
    · exact (h.own i x h2).keep hg (fun b hb e => h.apart i k x (v, zs) h2 hk h1 b hb e)
    · exact World.ownsRow_nil _ _ _ _
  · rcases key i x hx with ⟨h1, h2⟩ | ⟨h1, rfl⟩
    · rcases key j y hy with ⟨h3, h4⟩ | ⟨h3, rfl⟩
      · exact h.apart i j x y h2 h4 hij b hb1 hb2
      · cases hb2
    · cases hb1

abbrev EB := Nat × En × Option Addr × Nat
abbrev VB := Nat × Vn × Option Addr × Nat
/-- What a walk of the law knows: slices apart, boxes of entries, boxes of versions, all made since w0. -/
structure Ks (w0 W : World) (ss : List (Value × List Nat)) (es : List EB) (vs : List VB) : Prop where
  apt : Apt W w0.heap.size ss
  ens : ∀ (i : Nat) (p : EB), es[i]? = some p → BoxN W p.1 p.2.1 p.2.2.1 p.2.2.2 ∧ w0.heap.size ≤ p.1
  vns : ∀ (i : Nat) (p : VB), vs[i]? = some p → BoxW W p.1 p.2.1 p.2.2.1 p.2.2.2
  nd : ∀ (i j : Nat) (p q : EB), es[i]? = some p → es[j]? = some q → i ≠ j → p.1 ≠ q.1
  bel : Below w0.heap.size w0 W

theorem BoxW.lt {w : World} {E : Nat} {x : Vn} {a : Option Addr} {c : Nat} (h : BoxW w E x a c) : E < w.heap.size := (Array.getElem?_eq_some_iff.1 h).1
theorem snoc_get {A : Type} {l : List A} {y x : A} {i : Nat} (h : (l ++ [y])[i]? = some x) : (i < l.length ∧ l[i]? = some x) ∨ (i = l.length ∧ x = y) := by
  by_cases hi : i < l.length
  · rw [List.getElem?_append_left hi] at h; exact .inl ⟨hi, h⟩
  · rw [List.getElem?_append_right (by omega)] at h
    have h0 : i - l.length = 0 := by
      have := (List.getElem?_eq_some_iff.1 h).1
      simp at this
      omega
    rw [h0] at h
    exact .inr ⟨by omega, by simpa using h.symm⟩

section
variable {w0 W W' : World} {ss : List (Value × List Nat)} {es : List EB} {vs : List VB}
theorem Ks.below (h : Ks w0 W ss es vs) (hb : Below W.heap.size W W') : Ks w0 W' ss es vs :=
  ⟨h.apt.below hb, fun i p e => ⟨(hb.block p.1 (h.ens i p e).1.lt).trans (h.ens i p e).1, (h.ens i p e).2⟩, fun i p e => (hb.block p.1 (h.vns i p e).lt).trans (h.vns i p e), h.nd, h.bel.trans (hb.mono h.bel.size)⟩
theorem Ks.push (h : Ks w0 W ss es vs) (hb : Below W.heap.size W W') {v : Value} {zs : List Nat} (ho : OwnB W' W.heap.size v zs) : Ks w0 W' (ss ++ [(v, zs)]) es vs :=
  have h' := h.below hb
  ⟨h.apt.push hb h.bel.size ho, h'.ens, h'.vns, h'.nd, h'.bel⟩
theorem Ks.newE (h : Ks w0 W ss es vs) (x : En) (a : Option Addr) (c : Nat) : Ks w0 (boxE W x a c) ss (es ++ [(W.heap.size, x, a, c)]) vs := by
  have h' := h.below (boxE_below W x a c)
  refine ⟨h'.apt, fun i p e => ?_, h'.vns, fun i j p q hp hq hij => ?_, h'.bel⟩
  · rcases snoc_get e with ⟨_, e⟩ | ⟨_, rfl⟩
    · exact h'.ens i p e
    · exact ⟨heap_alloc_new W _, h.bel.size⟩
  · rcases snoc_get hp with ⟨_, hp⟩ | ⟨h1, rfl⟩ <;> rcases snoc_get hq with ⟨_, hq⟩ | ⟨h2, rfl⟩
    · exact h.nd i j p q hp hq hij
    · have := (h.ens i p hp).1.lt
      simp only
      omega
    · have := (h.ens j q hq).1.lt
      simp only
      omega
    · omega
theorem Ks.newV (h : Ks w0 W ss es vs) (x : Vn) (a : Option Addr) (c : Nat) : Ks w0 (boxV W x a c) ss es (vs ++ [(W.heap.size, x, a, c)]) := by
  have h' := h.below (boxV_below W x a c)
  refine ⟨h'.apt, h'.ens, fun i p e => ?_, h'.nd, h'.bel⟩
  rcases snoc_get e with ⟨_, e⟩ | ⟨_, rfl⟩
  · exact h'.vns i p e
  · exact heap_alloc_new W _
theorem Ks.gone (h : Ks w0 W ss es vs) {k : Nat} {v : Value} {zs : List Nat} (hk : ss[k]? = some (v, zs)) (hg : W.grownBy W' v.ownBlock) : Ks w0 W' (ss.set k (.slice none 0 0, [])) es vs := by
  have hv := h.apt.own k _ hk
  have hne : ∀ (j : Nat) (cur : Array Value) (t : TypeId), W.heap[j]? = some (Obj.cells cur t (0, 0)) → t ≠ 5 → some j ≠ v.ownBlock := fun j cur t hc ht e => by
    obtain ⟨_, _, cur', hc'⟩ := ownsRow_blk hv e.symm
    rw [hc] at hc'
    cases hc'
    exact ht rfl
  refine ⟨h.apt.gone hk hg, fun i p e => ⟨?_, (h.ens i p e).2⟩, fun i p e => ?_, h.nd, h.bel.grown hg h.bel.size (fun j e => hv.ge e)⟩
  · have hb := (h.ens i p e).1
    exact (hg.block p.1 hb.lt (hne p.1 _ _ hb (by decide))).trans hb
  · have hb := h.vns i p e
    exact (hg.block p.1 hb.lt (hne p.1 _ _ hb (by decide))).trans hb
theorem Ks.fill (h : Ks w0 W ss es vs) {k g : Nat} {x0 : En} {a0 : Option Addr} {c0 : Nat} (hk : es[k]? = some (g, x0, a0, c0)) (y : En) (a : Option Addr) (c : Nat) : Ks w0 (fillE W g y a c) ss (es.set k (g, y, a, c)) vs := by
  have hkl := (List.getElem?_eq_some_iff.1 hk).1
  obtain ⟨hbk, hgk⟩ := h.ens k _ hk
  simp only at hbk hgk
  have key : ∀ i x, (es.set k (g, y, a, c))[i]? = some x → (i ≠ k ∧ es[i]? = some x) ∨ (i = k ∧ x = (g, y, a, c)) := fun i x hx => by
    by_cases hi : i = k
    · subst hi
      rw [List.getElem?_set_self hkl] at hx
      exact .inr ⟨rfl, by simpa using hx.symm⟩
    · rw [List.getElem?_set_ne (fun e => hi e.symm)] at hx
      exact .inl ⟨hi, hx⟩
  have hne : ∀ (j : Nat) (cur : Array Value) (t : TypeId), W.heap[j]? = some (Obj.cells cur t (0, 0)) → t ≠ 24 → j ≠ g := fun j cur t hc ht e => by
    subst e
    have hb : W.heap[j]? = _ := hbk
    rw [hc] at hb
    cases hb
    exact ht rfl
  refine ⟨h.apt.keep fun j cur hc => fill_keep (hne j cur _ hc (by decide)) y a c, fun i p e => ?_, fun i p e => ?_, fun i j p q hp hq hij => ?_, fill_below h.bel hgk y a c⟩
  · rcases key i p e with ⟨h1, h2⟩ | ⟨_, rfl⟩
    · exact ⟨(fill_keep (h.nd i k p _ h2 hk h1) y a c).trans (h.ens i p h2).1, (h.ens i p h2).2⟩
    · exact ⟨hbk.fill y a c, hgk⟩
  · have hb := h.vns i p e
    exact (fill_keep (hne p.1 _ _ hb (by decide)) y a c).trans hb
  · rcases key i p hp with ⟨h1, h2⟩ | ⟨h1, rfl⟩ <;> rcases key j q hq with ⟨h3, h4⟩ | ⟨h3, rfl⟩
    · exact h.nd i j p q h2 h4 hij
    · have hn := h.nd i k p _ h2 hk h1
      exact hn
    · exact fun e => h.nd j k q _ h4 hk h3 e.symm
    · omega
theorem Ks.swap {p q : EB} (h : Ks w0 W ss (es ++ [p] ++ [q]) vs) : Ks w0 W ss (es ++ [q] ++ [p]) vs := by
  have key : ∀ i r, (es ++ [q] ++ [p])[i]? = some r → ∃ i', (es ++ [p] ++ [q])[i']? = some r ∧ ((i < es.length ∧ i' = i) ∨ (i = es.length ∧ i' = es.length + 1) ∨ (i = es.length + 1 ∧ i' = es.length)) := fun i r hr => by
    rcases snoc_get hr with ⟨_, hr⟩ | ⟨h1, rfl⟩
    · rcases snoc_get hr with ⟨h2, hr⟩ | ⟨h2, rfl⟩
      · exact ⟨i, by rw [List.append_assoc, List.getElem?_append_left h2]; exact hr, .inl ⟨h2, rfl⟩⟩
      · exact ⟨es.length + 1, by rw [List.getElem?_append_right (by simp)]; simp, .inr (.inl ⟨h2, rfl⟩)⟩
    · refine ⟨es.length, by rw [List.append_assoc, List.getElem?_append_right (Nat.le_refl _)]; simp, .inr (.inr ⟨?_, rfl⟩)⟩
      rw [h1]; simp
  refine ⟨h.apt, fun i r hr => ?_, h.vns, fun i j r s hr hs hij => ?_, h.bel⟩
  · obtain ⟨i', e, _⟩ := key i r hr
    exact h.ens i' r e
  · obtain ⟨i', e1, c1⟩ := key i r hr
    obtain ⟨j', e2, c2⟩ := key j s hs
    exact h.nd i' j' r s e1 e2 (by omega)
end
end Go.Proofs.Ytlhlpofmeeiffab

namespace Go.Proofs.Ytlhlpofmeeiffab
open Go.RowKit

section
variable {w0 W0 W W' : World} {ss : List (Value × List Nat)} {es : List EB} {vs : List VB}
theorem Ks.drew (h : Ks w0 W ss es vs) : Ks w0 W.drew ss es vs := ⟨⟨fun i x hx => h.apt.own i x hx, h.apt.apart⟩, fun i p e => h.ens i p e, fun i p e => h.vns i p e, h.nd, h.bel.drew⟩
theorem Ks.addE (h : Ks w0 W ss es vs) {g : Nat} {x : En} {a : Option Addr} {c : Nat} (hb : BoxN W g x a c) (hg : w0.heap.size ≤ g) (hn : ∀ (i : Nat) (p : EB), es[i]? = some p → p.1 ≠ g) : Ks w0 W ss (es ++ [(g, x, a, c)]) vs := by
  refine ⟨h.apt, fun i p e => ?_, h.vns, fun i j p q hp hq hij => ?_, h.bel⟩
  · rcases snoc_get e with ⟨_, e⟩ | ⟨_, rfl⟩
    · exact h.ens i p e
    · exact ⟨hb, hg⟩
  · rcases snoc_get hp with ⟨_, hp⟩ | ⟨h1, rfl⟩ <;> rcases snoc_get hq with ⟨_, hq⟩ | ⟨h2, rfl⟩
    · exact h.nd i j p q hp hq hij
    · exact hn i p hp
    · exact fun e => hn j q hq e.symm
    · omega
/-- What is made so far: what two calls answered, two places. -/
structure Mk (w0 W0 W : World) (ss : List (Value × List Nat)) (es : List EB) (vs : List VB) (r1 r2 : Option (Value × List Nat)) (o1 o2 : Option Nat) : Prop where
  ks : Ks w0 W (ss ++ r1.toList ++ r2.toList) es vs
  bel : Below W0.heap.size W0 W
  low : w0.heap.size ≤ W0.heap.size
  old : ∀ (i : Nat) (p : EB), es[i]? = some p → p.1 < W0.heap.size
  b1 : ∀ g, o1 = some g → BoxN W g zeroEn none 0 ∧ W0.heap.size ≤ g
  b2 : ∀ g, o2 = some g → BoxN W g zeroEn none 0 ∧ W0.heap.size ≤ g
  ne : ∀ g, o1 = some g → o2 ≠ some g
theorem Mk.start (h : Ks w0 W0 ss es vs) : Mk w0 W0 W0.drew ss es vs none none none none :=
  ⟨by simpa using h.drew, (Below.refl _ _).drew, h.bel.size, fun i p e => (h.ens i p e).1.lt, (fun g e => by cases e), (fun g e => by cases e), fun g e => by cases e⟩
variable {r1 r2 : Option (Value × List Nat)} {o1 o2 : Option Nat}
theorem Mk.call1 (h : Mk w0 W0 W ss es vs none none o1 o2) (hb : Below W.heap.size W W') {v : Value} {zs : List Nat} (ho : OwnB W' W.heap.size v zs) : Mk w0 W0 W' ss es vs (some (v, zs)) none o1 o2 :=
  ⟨by have := h.ks.push hb ho; simpa using this, h.bel.trans (hb.mono h.bel.size), h.low, h.old, fun g e => ⟨(h.b1 g e).1.under hb (h.b1 g e).1.lt, (h.b1 g e).2⟩, fun g e => ⟨(h.b2 g e).1.under hb (h.b2 g e).1.lt, (h.b2 g e).2⟩, h.ne⟩
theorem Mk.call2 (h : Mk w0 W0 W ss es vs r1 none o1 o2) (hb : Below W.heap.size W W') {v : Value} {zs : List Nat} (ho : OwnB W' W.heap.size v zs) : Mk w0 W0 W' ss es vs r1 (some (v, zs)) o1 o2 :=
  ⟨by have := h.ks.push hb ho; simpa using this, h.bel.trans (hb.mono h.bel.size), h.low, h.old, fun g e => ⟨(h.b1 g e).1.under hb (h.b1 g e).1.lt, (h.b1 g e).2⟩, fun g e => ⟨(h.b2 g e).1.under hb (h.b2 g e).1.lt, (h.b2 g e).2⟩, h.ne⟩
theorem Mk.box1 (h : Mk w0 W0 W ss es vs r1 r2 none o2) : ∃ z, z = W.alloc (.cells #[.int .i64 0, .int .i64 0, .int .i64 0, .string ⟨#[]⟩, .slice none 0 0, .bool false] 24) ∧ Mk w0 W0 z ss es vs r1 r2 (some W.heap.size) o2 := by
  have hb := boxE_below W zeroEn none 0
  refine ⟨_, rfl, h.ks.below hb, h.bel.trans (hb.mono h.bel.size), h.low, h.old, fun g e => ?_, fun g e => ⟨(h.b2 g e).1.under hb (h.b2 g e).1.lt, (h.b2 g e).2⟩, fun g e e2 => ?_⟩
  · cases e; exact ⟨heap_alloc_new W _, h.bel.size⟩
  · cases e
    have := (h.b2 _ e2).1.lt
    omega
theorem Mk.box2 (h : Mk w0 W0 W ss es vs r1 r2 o1 none) : ∃ z, z = W.alloc (.cells #[.int .i64 0, .int .i64 0, .int .i64 0, .string ⟨#[]⟩, .slice none 0 0, .bool false] 24) ∧ Mk w0 W0 z ss es vs r1 r2 o1 (some W.heap.size) := by
  have hb := boxE_below W zeroEn none 0
  refine ⟨_, rfl, h.ks.below hb, h.bel.trans (hb.mono h.bel.size), h.low, h.old, fun g e => ⟨(h.b1 g e).1.under hb (h.b1 g e).1.lt, (h.b1 g e).2⟩, fun g e => ?_, fun g e e2 => ?_⟩
  · cases e; exact ⟨heap_alloc_new W _, h.bel.size⟩
  · cases e2
    have := (h.b1 _ e).1.lt
    omega
theorem Mk.other {g1 g2 : Nat} (h : Mk w0 W0 W ss es vs r1 r2 (some g1) (some g2)) (y : En) (a : Option Addr) (c : Nat) : BoxN (fillE W g1 y a c) g2 zeroEn none 0 :=
  (fill_keep (fun e => h.ne _ rfl (by rw [e])) y a c).trans (h.b2 _ rfl).1
theorem Mk.bel1 {g1 : Nat} (h : Mk w0 W0 W ss es vs r1 r2 (some g1) o2) (y : En) (a : Option Addr) (c : Nat) : Below W0.heap.size W0 (fillE W g1 y a c) := fill_below h.bel (h.b1 _ rfl).2 y a c
theorem Mk.bel2 {g1 g2 : Nat} (h : Mk w0 W0 W ss es vs r1 r2 (some g1) (some g2)) (y z : En) (a b : Option Addr) (c d : Nat) : Below W0.heap.size W0 (fillE (fillE W g1 y a c) g2 z b d) := fill_below (h.bel1 y a c) (h.b2 _ rfl).2 z b d
/-- Both are laid down. -/
theorem Mk.fin {x1 x2 : Value × List Nat} {g1 g2 : Nat} (h : Mk w0 W0 W ss es vs (some x1) (some x2) (some g1) (some g2)) (y1 y2 : En) (a1 a2 : Option Addr) (c1 c2 : Nat) :
    Ks w0 (fillE (fillE W g1 y1 a1 c1) g2 y2 a2 c2) (ss ++ [x1] ++ [x2]) (es ++ [(g1, y1, a1, c1)] ++ [(g2, y2, a2, c2)]) vs := by
  obtain ⟨hb1, hl1⟩ := h.b1 g1 rfl
  obtain ⟨hb2, hl2⟩ := h.b2 g2 rfl
  have hne := h.ne g1 rfl
  have hw0 : w0.heap.size ≤ g1 ∧ w0.heap.size ≤ g2 := by
    have := h.low
    omega
  have k1 := (h.ks.addE hb1 hw0.1 (fun i p e => by have := h.old i p e; omega)).addE hb2 hw0.2 (fun i p e => by
    rcases snoc_get e with ⟨_, e⟩ | ⟨_, rfl⟩
    · have := h.old i p e; omega
    · exact fun e => hne (by rw [← e]))
  have i1 : (es ++ [(g1, zeroEn, none, 0)] ++ [(g2, zeroEn, none, 0)] : List EB)[es.length]? = some (g1, zeroEn, none, 0) := by
    rw [List.append_assoc, List.getElem?_append_right (Nat.le_refl _)]; simp
  have k2 := k1.fill i1 y1 a1 c1
  have s1 : (es ++ [(g1, zeroEn, none, 0)] ++ [(g2, zeroEn, none, 0)] : List EB).set es.length (g1, y1, a1, c1) = es ++ [(g1, y1, a1, c1)] ++ [(g2, zeroEn, none, 0)] := by
    rw [List.append_assoc, List.set_append_right _ _ (Nat.le_refl _)]; simp
  rw [s1] at k2
  have i2 : (es ++ [(g1, y1, a1, c1)] ++ [(g2, zeroEn, none, 0)] : List EB)[es.length + 1]? = some (g2, zeroEn, none, 0) := by
    rw [List.getElem?_append_right (by simp)]; simp
  have k3 := k2.fill i2 y2 a2 c2
  have s2 : (es ++ [(g1, y1, a1, c1)] ++ [(g2, zeroEn, none, 0)] : List EB).set (es.length + 1) (g2, y2, a2, c2) = es ++ [(g1, y1, a1, c1)] ++ [(g2, y2, a2, c2)] := by
    rw [List.set_append_right _ _ (by simp)]; simp
  rw [s2] at k3
  exact k3
/-- One behind the other, each world by a name. -/
theorem Mk.put {x1 x2 : Value × List Nat} {g1 g2 : Nat} (h : Mk w0 W0 W ss es vs (some x1) (some x2) (some g1) (some g2)) (y1 : En) (a1 : Option Addr) (c1 : Nat) :
    ∃ z, z = ((((((W.setCell ⟨g1, 0, none⟩ (.int .i64 y1.kind)).setCell ⟨g1, 1, none⟩ (.int .i64 y1.stamp)).setCell ⟨g1, 2, none⟩ (.int .i64 y1.count)).setCell ⟨g1, 3, none⟩ (.string y1.key)).setCell ⟨g1, 4, none⟩ (.slice a1 y1.val.length c1)).setCell ⟨g1, 5, none⟩ (.bool y1.dead)) ∧ BoxN z g2 zeroEn none 0 ∧ Below W0.heap.size W0 z ∧
      ∀ (y2 : En) (a2 : Option Addr) (c2 : Nat), ∃ z2, z2 = ((((((z.setCell ⟨g2, 0, none⟩ (.int .i64 y2.kind)).setCell ⟨g2, 1, none⟩ (.int .i64 y2.stamp)).setCell ⟨g2, 2, none⟩ (.int .i64 y2.count)).setCell ⟨g2, 3, none⟩ (.string y2.key)).setCell ⟨g2, 4, none⟩ (.slice a2 y2.val.length c2)).setCell ⟨g2, 5, none⟩ (.bool y2.dead)) ∧ Below W0.heap.size W0 z2 ∧ Ks w0 z2 (ss ++ [x1] ++ [x2]) (es ++ [(g1, y1, a1, c1)] ++ [(g2, y2, a2, c2)]) vs :=
  ⟨_, rfl, h.other y1 a1 c1, h.bel1 y1 a1 c1, fun y2 a2 c2 => ⟨_, rfl, h.bel2 y1 y2 a1 a2 c1 c2, h.fin y1 y2 a1 a2 c1 c2⟩⟩
end
end Go.Proofs.Ytlhlpofmeeiffab
