/- What the law on the frames' memory does with slices: marked room, filled, grown. -/
import Derived.Test.YtadceolgekbgmabFh1
import Derived.Test.YtadceolgekbgmabFk1
import Derived.Test.YtadceolgekbgmabFi2
namespace Go.Proofs.Ytadceolgekbgmab
open Go.RowKit

/-- k marks. -/
def marks (k : Nat) : List Nat := (List.range k).map (11 + ·)
theorem marks_len (k : Nat) : (marks k).length = k := by simp [marks]
theorem marks_succ (k : Nat) : marks (k + 1) = marks k ++ [11 + k] := by simp [marks, List.range_succ]
theorem marks_8 {k : Nat} (h : k ≤ 70) : All8 (marks k) := by
  intro z hz
  obtain ⟨i, hi, rfl⟩ := List.mem_map.1 hz
  have := List.mem_range.1 hi
  omega

set_option maxRecDepth 100000 in
set_option maxHeartbeats 400000 in
theorem lent_any (a : Option Addr) (cap : Nat) (zs : List Nat) (w : World) (hr : RowB w a zs) (hl : zs.length + 70 ≤ 140737488355328) (hnil : a = none → zs.length = 0 ∧ cap = 0) :
    Calls Try.prog 18 #[.slice a zs.length cap] w fun e w' => (∃ r, e = .returned r ∧ OwnB w' w.heap.size r (zs ++ marks 70)) ∧ Below w.heap.size w w' := by
  have hcp := copied_any a cap zs w hr (by omega) hnil
  go_enter Try.func18, Try.ntmps18
  go_wp2_with fail
  refine hcp.mono ?_
  rintro e w1 ⟨⟨r1, rfl, ho1⟩, hb1⟩
  clear hcp
  go_wp2_with fail
  go_loopw [3, 4] (fun r i wr => ∃ k : Nat, k ≤ 70 ∧ i = .int .i64 (k : Int) ∧ OwnB wr w.heap.size r (zs ++ marks k) ∧ Below w.heap.size w wr) (fun _ i _ => 70 - (intOf i).toNat)
  case atStart => exact ⟨0, by omega, rfl, by simpa [marks] using ho1, hb1⟩
  case round =>
    obtain ⟨k, hk, rfl, hown, hbl⟩ := hrel
    clear ho1 hb1
    by_cases hlt : k < 70
    · have hbs := hbl.size
      have hd : decide ((k : Int) < 70) = true := by simp; omega
      have hlen : (zs ++ marks k).length ≤ zs.length + 69 := by simp [marks_len]; omega
      have hw : IntKind.u8.wrap (11 + (k : Int)) = ((11 + k : Nat) : Int) := by rw [IntKind.wrap_u8']; omega
      have hw2 : (11 + (k : Int)) % 256 = ((11 + k : Nat) : Int) := by omega
      obtain ⟨M, hM⟩ : ∃ M, M = 11 + k := ⟨_, rfl⟩
      rw [← hM] at hw hw2
      have HM := hide_it hM
      have HS := hide_it (marks_succ k)
      clear hM
      go_wp2_with (at_builtin; refine wpList_append_byte _ rfl _ _ rfl w.heap.size _ _ rfl hown M rfl (by omega) hbs ?_; intro v4 w4 hown4 hg4 hat4)
      go_roundw
      case rel => exact ⟨k + 1, by omega, by go_num, by rw [HS.out, ← List.append_assoc, ← HM.out]; exact hown4, (hbl.alloc hbs _).grown hg4 (by simp; omega) (fun j e => hown.ge e)⟩
      case measure => simp [intOf]; omega
    · have hk8 : k = 70 := by omega
      subst hk8
      go_wp2_with fail
      go_ret
      exact ⟨⟨_, rfl, hown⟩, hbl⟩

theorem fill_step {zs : List Nat} {k x : Nat} (hk : k < zs.length) : (List.replicate k x ++ zs.drop k).set k x = List.replicate (k + 1) x ++ zs.drop (k + 1) := by
  rw [List.set_append_right _ _ (by simp)]
  rw [List.length_replicate, Nat.sub_self, List.drop_eq_getElem_cons hk, List.set_cons_zero, List.replicate_succ', List.append_assoc]
  rfl
theorem fill_len {zs : List Nat} {k x : Nat} (hk : k ≤ zs.length) : (List.replicate k x ++ zs.drop k).length = zs.length := by simp; omega
theorem grown_refl (w : World) (r : Option Nat) : w.grownBy w r := World.grownBy.refl w r

set_option maxRecDepth 100000 in
set_option maxHeartbeats 800000 in
theorem fillB_any (a : Option Addr) (cap : Nat) (zs : List Nat) (c base : Nat) (w : World) (ho : OwnB w base (.slice a zs.length cap) zs) (hl : zs.length ≤ 140737488355328) :
    Calls Try.prog 21 #[.slice a zs.length cap, .int .u8 (c : Int)] w fun e w' => e = .returned (.tuple #[]) ∧ OwnB w' base (.slice a zs.length cap) (List.replicate zs.length c) ∧ w.grownBy w' (Value.slice a zs.length cap).ownBlock := by
  go_enter Try.func21, Try.ntmps21
  go_wp2
  go_loopw [7, 4] (fun i _ wr => ∃ k : Nat, k ≤ zs.length ∧ i = .int .i64 (k : Int) ∧ Hid (OwnB wr base (.slice a zs.length cap) (List.replicate k c ++ zs.drop k)) ∧ Hid (w.grownBy wr (Value.slice a zs.length cap).ownBlock)) (fun i _ _ => zs.length - (intOf i).toNat)
  case atStart => exact ⟨0, by omega, rfl, (by show OwnB _ _ _ _; simpa using ho), grown_refl _ _⟩
  case round =>
    obtain ⟨k, hk, rfl, hO, hG⟩ := hrel
    clear ho
    by_cases hlt : k < zs.length
    · have hki : (k : Int) < (zs.length : Int) := by omega
      have hfl := fill_len (zs := zs) (x := c) hk
      obtain ⟨g', cur, e', hnn, _, hhc, hcc⟩ := hO.out.at (by rw [hfl]; omega)
      cases e'
      clear hnn
      have hcell : wr.cell? ⟨g', k, none⟩ = some (.int .u8 ((at0 (List.replicate k c ++ zs.drop k) k : Nat) : Int)) := by
        rw [cell_of_row _ _ _ _ _ _ hhc]; exact hcc k (by rw [hfl]; exact hlt)
      have hfz := frozen_of_row wr g' k _ _ hhc
      have hset := hO.out.set (i := k) (by rw [hfl]; exact hlt) c
      rw [fill_step hlt] at hset
      have hgr := grown_setCell (g := g') hG.out k (.int .u8 (c : Int))
      have HS := hide_it hset
      have HGR := hide_it hgr
      clear hhc hcc hO hG hset hgr hfl
      generalize at0 (List.replicate k c ++ zs.drop k) k = y at *
      go_wp2
      go_roundw
      case rel => exact ⟨k + 1, by omega, by go_num, HS.out, HGR.out⟩
      case measure => simp [intOf]; omega
    · have hkn : ¬ (k : Int) < (zs.length : Int) := by omega
      have hO2 : OwnB wr base (.slice a zs.length cap) (List.replicate zs.length c) := by
        have h := hO.out
        rwa [show k = zs.length by omega, List.drop_length, List.append_nil] at h
      clear hO
      go_wp2
      go_end0
      exact ⟨rfl, hO2, hG.out⟩

set_option maxRecDepth 100000 in
set_option maxHeartbeats 800000 in
theorem grown_any (v : Value) (zs : List Nat) (c base : Nat) (w : World) (ho : OwnB w base v zs) (hl : zs.length ≤ 1048576) (hb : base ≤ w.heap.size) :
    Calls Try.prog 22 #[v, .int .u8 (c : Int)] w fun e w' => (∃ r, e = .returned r ∧ OwnB w' base r (zs ++ List.replicate 80 c) ∧ (r.ownBlock = v.ownBlock ∨ ∃ j, r.ownBlock = some j ∧ w.heap.size ≤ j)) ∧ w.grownBy w' v.ownBlock := by
  go_enter Try.func22, Try.ntmps22
  go_wp2
  go_loopw [0, 5] (fun r i wr => ∃ k : Nat, k ≤ 80 ∧ i = .int .i64 (k : Int) ∧ OwnB wr base r (zs ++ List.replicate k c) ∧ Hid (r.ownBlock = v.ownBlock ∨ ∃ j, r.ownBlock = some j ∧ w.heap.size ≤ j) ∧ Hid (w.grownBy wr v.ownBlock)) (fun _ i _ => 80 - (intOf i).toNat)
  case atStart => exact ⟨0, by omega, rfl, by simpa using ho, .inl rfl, grown_refl _ _⟩
  case round =>
    obtain ⟨k, hk, rfl, hown, hat, hg⟩ := hrel
    clear ho
    by_cases hlt : k < 80
    · have hd : decide ((k : Int) < 80) = true := by simp; omega
      have hlen : (zs ++ List.replicate k c).length ≤ 1048656 := by simp; omega
      have hsz := hg.out.size
      have HS : Hid (zs ++ List.replicate (k + 1) c = zs ++ List.replicate k c ++ [c]) := by show _ = _; rw [List.replicate_succ', List.append_assoc]
      go_wp2_with (at_builtin; refine wpList_append_byte _ rfl _ _ rfl base _ _ rfl hown c rfl (by omega) (by omega) ?_; intro v4 w4 hown4 hg4 hat4)
      go_roundw
      case rel =>
        refine ⟨k + 1, by omega, by go_num, by rw [HS.out]; exact hown4, ?_, ?_⟩
        · show _ ∨ _
          rcases hat4 with e | e
          · rw [e]; exact hat.out
          · exact .inr ⟨_, e, by omega⟩
        · refine ⟨hg4.os.trans hg.out.os, hg4.tape.trans hg.out.tape, hg4.output.trans hg.out.output, Nat.le_trans hsz (by have := hg4.size; simp at this; omega), fun j hj hne => ?_⟩
          have h1 : some j ≠ u0.ownBlock := fun e => by
            rcases hat.out with h2 | ⟨j', h2, h3⟩
            · exact hne (e.trans h2)
            · rw [h2] at e; cases e; omega
          rw [hg4.block j (by simp; omega) h1, Below.heap_alloc _ _ _ (by omega)]
          exact hg.out.block j hj hne
      case measure => simp [intOf]; omega
    · have hk8 : k = 80 := by omega
      subst hk8
      go_wp2_with fail
      go_ret
      exact ⟨⟨_, rfl, hown, hat.out⟩, hg.out⟩

set_option maxRecDepth 100000 in
set_option maxHeartbeats 800000 in
theorem filled_any (n c : Nat) (w : World) (hn : n ≤ 1048576) :
    Calls Try.prog 33 #[.int .i64 (n : Int), .int .u8 (c : Int)] w fun e w' => (∃ r, e = .returned r ∧ OwnB w' w.heap.size r (List.replicate n c)) ∧ Below w.heap.size w w' := by
  have hmk := mk8_any n (by omega) w
  have hown0 := own_made n (by omega) w
  have hb0 : Below w.heap.size w (w.alloc (.cells (madeCells #[.int .u8 0] n) 5)) := (Below.refl _ _).alloc (Nat.le_refl _) _
  obtain ⟨g, hg⟩ : ∃ g, g = w.heap.size := ⟨_, rfl⟩
  obtain ⟨W0, hW0⟩ : ∃ W0, W0 = w.alloc (.cells (madeCells #[.int .u8 0] n) 5) := ⟨_, rfl⟩
  rw [← hg, ← hW0] at hmk hown0
  rw [← hW0] at hb0
  have hgw : w.heap.size ≤ g := by omega
  replace hg := hide_it hg
  clear hW0
  go_enter Try.func33, Try.ntmps33
  go_wp2
  go_loopw [11, 6] (fun i _ wr => ∃ k : Nat, k ≤ n ∧ i = .int .i64 (k : Int) ∧ Hid (OwnB wr g (.slice (some ⟨g, 0, none⟩) n n) (List.replicate k c ++ List.replicate (n - k) 0)) ∧ Below w.heap.size w wr) (fun i _ _ => n - (intOf i).toNat)
  case atStart => exact ⟨0, by omega, rfl, (by show OwnB _ _ _ _; simpa using hown0), hb0⟩
  case round =>
    obtain ⟨k, hk, rfl, hown, hbl⟩ := hrel
    clear hown0 hb0 hmk
    by_cases hlt : k < n
    · have hki : (k : Int) < (n : Int) := by omega
      have hfl : (List.replicate k c ++ List.replicate (n - k) 0).length = n := by simp; omega
      obtain ⟨g', cur, e', hnn, _, hh, hc⟩ := hown.out.at (by rw [hfl]; omega)
      cases e'
      clear hnn
      have hcell : wr.cell? ⟨g, k, none⟩ = some (.int .u8 ((at0 (List.replicate k c ++ List.replicate (n - k) 0) k : Nat) : Int)) := by
        rw [cell_of_row _ _ _ _ _ _ hh]; exact hc k (by rw [hfl]; exact hlt)
      have hfz := frozen_of_row wr g k _ _ hh
      have hset := hown.out.set (i := k) (by rw [hfl]; exact hlt) c
      have hst : (List.replicate k c ++ List.replicate (n - k) 0).set k c = List.replicate (k + 1) c ++ List.replicate (n - (k + 1)) 0 := by
        have := fill_step (zs := List.replicate n 0) (k := k) (x := c) (by simpa using hlt)
        simpa using this
      rw [hst] at hset
      have hb2 : Below w.heap.size w (wr.setCell ⟨g, k, none⟩ (.int .u8 (c : Int))) := hbl.setCell hgw _
      generalize at0 (List.replicate k c ++ List.replicate (n - k) 0) k = y at *
      have HS := hide_it hset
      have HB := hide_it hb2
      clear hh hc hown hbl hset hb2 hfl hst
      go_wp2
      go_roundw
      case rel => exact ⟨k + 1, by omega, by go_num, HS.out, HB.out⟩
      case measure => simp [intOf]; omega
    · have hkn : k = n := by omega
      subst hkn
      have h := hown.out
      rw [Nat.sub_self, List.replicate_zero, List.append_nil] at h
      have H := hide_it (h.mono hgw)
      clear h hown
      go_wp2
      go_ret
      exact ⟨⟨_, rfl, H.out⟩, hbl⟩

set_option maxRecDepth 100000 in
set_option maxHeartbeats 800000 in
theorem marked_any (a : Option Addr) (cap : Nat) (n c d : Nat) (w : World) (hr : RowB w a (List.replicate n c ++ List.replicate 80 d)) (hn : n ≤ 1048576) (hc : c < 256) (hd : d < 256) (hnil : a = none → (List.replicate n c ++ List.replicate 80 d).length = 0 ∧ cap = 0) :
    Calls Try.prog 23 #[.slice a (List.replicate n c ++ List.replicate 80 d).length cap, .int .i64 (n : Int), .int .u8 (c : Int), .int .u8 (d : Int)] w fun e w' => e = .returned (.bool true) ∧ Below w.heap.size w w' := by
  have h8 : All8 (List.replicate n c ++ List.replicate 80 d) := by
    intro z hz
    rcases List.mem_append.1 hz with h | h
    · have := List.eq_of_mem_replicate h; omega
    · have := List.eq_of_mem_replicate h; omega
  have hf1 := filled_any n c w hn
  have hl : (List.replicate n c).length ≤ 1048576 := by simpa using hn
  have hl8 : (List.replicate 80 d).length ≤ 80 := by simp
  obtain ⟨Es, hEs⟩ : ∃ Es, Es = List.replicate n c ++ List.replicate 80 d := ⟨_, rfl⟩
  rw [← hEs] at hr h8 hnil ⊢
  replace hEs := hide_it hEs
  generalize List.replicate n c = Cs at *
  go_enter Try.func23, Try.ntmps23
  go_wp2_with fail
  refine hf1.mono ?_
  rintro e w1 ⟨⟨r1, rfl, ho1⟩, hb1⟩
  have hf2 := filled_any 80 d w1 (by omega)
  have hz1 := hb1.size
  generalize List.replicate 80 d = Ds at *
  clear hf1
  go_wp2_with fail
  refine hf2.mono ?_
  rintro e w2 ⟨⟨r2, rfl, ho2⟩, hb2⟩
  obtain ⟨p2, q2, hv2, hp2, _, _, hn2⟩ := ho2.row
  subst hv2
  have ho12 := ho1.below hb2
  have hbw2 := hb1.trans (hb2.mono hz1)
  have hz2 := hbw2.size
  clear hf2 ho1 ho2
  go_wp2_with (at_builtin; refine wpList_append_row _ rfl _ _ rfl w.heap.size _ _ rfl ho12 p2 q2 Ds rfl hp2 hn2 (by omega) hz2 ?_; intro v3 w3 ho3 hg3 hat3)
  have hbw3 : Below w.heap.size w w3 := hbw2.grown hg3 hz2 (fun j e => ho12.ge e)
  rw [← hEs.out] at ho3
  obtain ⟨p3, q3, hv3, hp3, _, _, hn3⟩ := ho3.row
  subst hv3
  have hsm := same_any a p3 cap q3 _ _ w3 (hr.below hbw3) hp3 h8 h8 hnil hn3
  clear ho3 hg3 hat3 hp3 hp2 ho12
  refine hsm.mono ?_
  rintro e w4 ⟨rfl, rfl⟩
  go_wp2_with fail
  go_ret
  exact ⟨by simp, hbw3⟩

end Go.Proofs.Ytadceolgekbgmab
