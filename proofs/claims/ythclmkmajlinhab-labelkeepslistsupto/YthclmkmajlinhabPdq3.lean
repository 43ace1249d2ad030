/- The partition into what equals the pivot and what is greater, of the library's sort at labels. -/
import Derived.Test.YthclmkmajlinhabPdq2
namespace Go.Proofs.Ythclmkmajlinhab
open Go.RowKit

/-- While a row is parted: the pivot stands at a; not above it ahead of i, above it behind j. -/
structure EqInv (zk : List Nat) (a b i j pv : Nat) : Prop where
  at_ : at0 zk a = pv
  lo : ∀ x, a < x → x < i → at0 zk x ≤ pv
  hi : ∀ y, j < y → y < b → pv < at0 zk y

theorem EqInv.up {zk : List Nat} {a b i j pv : Nat} (h : EqInv zk a b i j pv) (hx : at0 zk i ≤ pv) : EqInv zk a b (i + 1) j pv :=
  ⟨h.at_, fun x h1 h2 => by
    by_cases e : x = i
    · subst e; exact hx
    · exact h.lo x h1 (by omega), h.hi⟩
theorem EqInv.down {zk : List Nat} {a b i j pv : Nat} (h : EqInv zk a b i j pv) (hx : pv < at0 zk j) (hj : 0 < j) : EqInv zk a b i (j - 1) pv :=
  ⟨h.at_, h.lo, fun y h1 h2 => by
    by_cases e : y = j
    · subst e; exact hx
    · exact h.hi y (by omega) h2⟩
theorem EqInv.swap {zk : List Nat} {a b i j pv : Nat} (h : EqInv zk a b i j pv) (hai : a < i) (hij : i ≤ j) (hjb : j < b) (hb : b ≤ zk.length) (hx : pv < at0 zk i) (hy : at0 zk j ≤ pv) : EqInv (swapL zk i j) a b (i + 1) (j - 1) pv := by
  have hne : i ≠ j := fun e => by subst e; omega
  refine ⟨?_, fun x h1 h2 => ?_, fun y h1 h2 => ?_⟩
  · rw [swapL_at (by omega) (by omega), if_neg (by omega), if_neg (by omega)]; exact h.at_
  · rw [swapL_at (by omega) (by omega), if_neg (by omega)]
    by_cases e : x = i
    · rw [if_pos e]; exact hy
    · rw [if_neg e]; exact h.lo x h1 (by omega)
  · rw [swapL_at (by omega) (by omega)]
    by_cases e : y = j
    · rw [if_pos e]; exact hx
    · rw [if_neg e, if_neg (by omega)]; exact h.hi y (by omega) h2

/-- A state of the parting. -/
structure EState (g a b n : Nat) (zs : List Nat) (rest : List Value) (pv : Nat) (w wr : World) (zk : List Nat) (i j : Nat) : Prop where
  len : zk.length = n
  wit : within a b zs zk
  inv : EqInv zk a b i j pv
  blk : Blk .u64 36 wr g zk rest
  gr : w.grownBy wr (some g)
theorem EState.drewN {g a b n : Nat} {zs : List Nat} {rest : List Value} {pv : Nat} {w wr : World} {zk : List Nat} {i j : Nat} (h : EState g a b n zs rest pv w wr zk i j) (q : Nat) : EState g a b n zs rest pv w (wr.drewN q) zk i j :=
  ⟨h.len, h.wit, h.inv, h.blk.drewN q, grown_drewN h.gr q⟩

set_option maxRecDepth 100000 in
set_option maxHeartbeats 2000000 in
theorem partitionEqual_lab (g n cap a b p : Nat) (zs : List Nat) (rest : List Value) (w : World) (hB : Blk .u64 36 w g zs rest) (hn : zs.length = n) (hap : a ≤ p) (hpb : p < b) (hb : b ≤ n) (hl : n ≤ 4611686018427387904) :
    Calls Try.prog 66 #[.slice (some ⟨g, 0, none⟩) n cap, .int .i64 (a : Int), .int .i64 (b : Int), .int .i64 (p : Int)] w fun e w' => ∃ (mid : Nat) (zs' : List Nat), e = .returned (.int .i64 (mid : Int)) ∧ a < mid ∧ mid ≤ b ∧ (∀ x, a ≤ x → x < mid → at0 zs' x ≤ at0 zs p) ∧ (∀ y, mid ≤ y → y < b → at0 zs p < at0 zs' y) ∧ Moved g a b n zs rest w w' zs' := by
  have hc1 := hB.cell (i := a) (by omega)
  have hc2 := hB.cell (i := p) (by omega)
  have hf1 := hB.frozen a
  have hf2 := hB.frozen p
  obtain ⟨x, hx⟩ : ∃ x, x = at0 zs a := ⟨_, rfl⟩
  obtain ⟨y, hy⟩ : ∃ y, y = at0 zs p := ⟨_, rfl⟩
  have HX : Hid (x = at0 zs a) := hx
  have HY : Hid (y = at0 zs p) := hy
  rw [← hx] at hc1
  rw [← hy] at hc2
  clear hx hy
  have hB1 := hB.set (i := a) (by omega) y
  have hc3 := hB1.cell (i := p) (by simp; omega)
  have hf3 := hB1.frozen p
  have HB1 : Hid (Blk .u64 36 (w.setCell ⟨g, a, none⟩ (.int .u64 (y : Int))) g (zs.set a y) rest) := hB1
  clear hB1
  generalize at0 (zs.set a y) p = z at hc3
  have hi1 : (a : Int) < (n : Int) := by omega
  have hi2 : (p : Int) < (n : Int) := by omega
  go_enter Try.func66, Try.ntmps66
  go_wp2
  go_region
  all_goals (go_upto_block 0 with fail)
  have hst : EState g a b n zs rest y w (((w.drewN 1).setCell ⟨g, a, none⟩ (.int .u64 (y : Int))).setCell ⟨g, p, none⟩ (.int .u64 (x : Int))) (swapL zs a p) (a + 1) (b - 1) := by
    have hb2 := (((hB.drewN 1).set (i := a) (by omega) y).set (i := p) (by simp; omega) x)
    have hb3 : Blk .u64 36 (((w.drewN 1).setCell ⟨g, a, none⟩ (.int .u64 (y : Int))).setCell ⟨g, p, none⟩ (.int .u64 (x : Int))) g (swapL zs a p) rest := by
      unfold swapL; rw [← HX.out, ← HY.out]; exact hb2
    refine ⟨(swapL_length _ _).trans hn, within.swap (by omega) hap (by omega) hpb (by omega), ⟨?_, fun x h1 h2 => by omega, fun y h1 h2 => by omega⟩, hb3, grown_set (grown_set (grown_drewN (World.grownBy.refl _ _) _) _ _) _ _⟩
    rw [swapL_at (by omega) (by omega)]
    by_cases e : a = p
    · rw [if_pos e, HY.out, e]
    · rw [if_neg e, if_pos rfl, HY.out]
  have HST := hide_it hst
  clear hst hc1 hc2 hc3 hf1 hf2 hf3 HB1 HX hB
  have e1 : Value.int .i64 ((a : Int) + 1) = .int .i64 ((a + 1 : Nat) : Int) := by congr 1
  have e2 : Value.int .i64 ((b : Int) - 1) = .int .i64 ((b - 1 : Nat) : Int) := by congr 1; omega
  have E1 := hide_it e1
  have E2 := hide_it e2
  clear e1 e2
  go_wp2_with fail
  go_loopw [9, 10] (fun i j wr => ∃ (k q : Nat) (zk : List Nat), i = .int .i64 k ∧ j = .int .i64 q ∧ a < k ∧ k ≤ q + 1 ∧ q < b ∧ EState g a b n zs rest y w wr zk k q) (fun i j _ => (intOf j).toNat + 1 - (intOf i).toNat)
  case atStart => exact ⟨a + 1, b - 1, _, E1.out, E2.out, by omega, by omega, by omega, HST.out⟩
  case round =>
    clear HST
    obtain ⟨k1, q1, zk, rfl, rfl, hak1, hkq1, hqb1, hps⟩ := hrel
    have HPS1 := hide_it hps
    clear hps
    go_upto_block 2 with fail
    go_cut [9] (fun i wc => ∃ (k' : Nat), i = .int .i64 k' ∧ k1 ≤ k' ∧ k' ≤ q1 + 1 ∧ EState g a b n zs rest y w wc zk k' q1 ∧ (k' ≤ q1 → y < at0 zk k'))
    case first =>
      go_wp2_with fail
      go_loopw [9] (fun i wr => ∃ (k' : Nat), i = .int .i64 k' ∧ k1 ≤ k' ∧ k' ≤ q1 + 1 ∧ EState g a b n zs rest y w wr zk k' q1) (fun i _ => q1 + 1 - (intOf i).toNat)
      case atStart => exact ⟨k1, rfl, Nat.le_refl _, by omega, HPS1.out⟩
      case round =>
        obtain ⟨k', rfl, hak', hkb', hps'⟩ := hrel
        by_cases hlt : k' ≤ q1
        · have hc1 := hps'.blk.cell (i := k') (by have := hps'.len; omega)
          have hc2 := hps'.blk.cell (i := a) (by have := hps'.len; omega)
          rw [hps'.inv.at_] at hc2
          obtain ⟨u, hu⟩ : ∃ u, u = at0 zk k' := ⟨_, rfl⟩
          have HU := hide_it hu
          rw [← hu] at hc1
          clear hu
          have hd : decide ((k' : Int) ≤ (q1 : Int)) = true := by simp; omega
          have hi3 : (k' : Int) < (n : Int) := by omega
          have HPS := hide_it hps'
          clear hps'
          by_cases huy : ¬ y < u
          · have hdx : decide (y < u) = false := by simpa using huy
            go_wp2
            go_quiet ((go_at_call 65; exact Calls.quiet_of_same (less_lab _ _ _)))
            go_wp2
            go_roundw
            case rel =>
              have hp := HPS.out.drewN nq
              exact ⟨k' + 1, by go_num, by omega, by omega, hp.len, hp.wit, hp.inv.up (by rw [← HU.out]; omega), hp.blk, hp.gr⟩
            case measure => simp [intOf]; omega
          · have hdx : decide (y < u) = true := by simpa using huy
            go_wp2
            go_quiet ((go_at_call 65; exact Calls.quiet_of_same (less_lab _ _ _)))
            go_wp2
            go_meet
            case rel => exact ⟨k', rfl, hak', hkb', HPS.out.drewN _, fun _ => by rw [← HU.out]; omega⟩
        · have hd : decide ((k' : Int) ≤ (q1 : Int)) = false := by simp; omega
          have HPS := hide_it hps'
          clear hps'
          go_wp2
          go_quiet ((go_at_call 65; exact Calls.quiet_of_same (less_lab _ _ _)))
          go_wp2
          go_meet
          case rel => exact ⟨k', rfl, hak', hkb', HPS.out.drewN _, fun h => absurd h hlt⟩
    case rest =>
      obtain ⟨k, rfl, hk1, hkq0, hps, hge⟩ := hcut
      have hak : a < k := by omega
      have HPS2 := hide_it hps
      have HGE := hide_it hge
      clear hps hge HPS1
      go_upto_block 4 with fail
      go_cut [10] (fun j wc => ∃ (q' : Nat), j = .int .i64 q' ∧ k ≤ q' + 1 ∧ q' ≤ q1 ∧ EState g a b n zs rest y w wc zk k q' ∧ (k ≤ q' → at0 zk q' ≤ y))
      case first =>
        go_wp2_with fail
        go_loopw [10] (fun j wr => ∃ (q' : Nat), j = .int .i64 q' ∧ k ≤ q' + 1 ∧ q' ≤ q1 ∧ EState g a b n zs rest y w wr zk k q') (fun j _ => (intOf j).toNat)
        case atStart => exact ⟨q1, rfl, by omega, Nat.le_refl _, HPS2.out⟩
        case round =>
          obtain ⟨q', rfl, hkq, hqb', hps'⟩ := hrel
          by_cases hlt : k ≤ q'
          · have hc1 := hps'.blk.cell (i := q') (by have := hps'.len; omega)
            have hc2 := hps'.blk.cell (i := a) (by have := hps'.len; omega)
            rw [hps'.inv.at_] at hc2
            obtain ⟨u, hu⟩ : ∃ u, u = at0 zk q' := ⟨_, rfl⟩
            have HU := hide_it hu
            rw [← hu] at hc1
            clear hu
            have hd : decide ((k : Int) ≤ (q' : Int)) = true := by simp; omega
            have hi3 : (q' : Int) < (n : Int) := by omega
            have HPS := hide_it hps'
            clear hps'
            by_cases huy : ¬ y < u
            · have hdx : decide (y < u) = false := by simpa using huy
              go_wp2
              go_quiet ((go_at_call 65; exact Calls.quiet_of_same (less_lab _ _ _)))
              go_wp2
              go_meet
              case rel => exact ⟨q', rfl, hkq, hqb', HPS.out.drewN _, fun _ => by rw [← HU.out]; omega⟩
            · have hdx : decide (y < u) = true := by simpa using huy
              go_wp2
              go_quiet ((go_at_call 65; exact Calls.quiet_of_same (less_lab _ _ _)))
              go_wp2
              go_roundw
              case rel =>
                have hp := HPS.out.drewN nq
                exact ⟨q' - 1, by congr 1; omega, by omega, by omega, hp.len, hp.wit, hp.inv.down (by rw [← HU.out]; omega) (by omega), hp.blk, hp.gr⟩
              case measure => simp [intOf]; omega
          · have hd : decide ((k : Int) ≤ (q' : Int)) = false := by simp; omega
            have HPS := hide_it hps'
            clear hps'
            go_wp2
            go_quiet ((go_at_call 65; exact Calls.quiet_of_same (less_lab _ _ _)))
            go_wp2
            go_meet
            case rel => exact ⟨q', rfl, hkq, hqb', HPS.out.drewN _, fun h => absurd h hlt⟩
      case rest =>
        obtain ⟨q, rfl, hkq, hqb, hps, hlt⟩ := hcut
        have HLT := hide_it hlt
        clear hlt HPS2
        by_cases hqk : q < k
        · have hgt : decide ((q : Int) < (k : Int)) = true := by simp; omega
          have HPS := hide_it hps
          clear hps
          go_wp2
          go_ret
          have hp := HPS.out
          have he : q + 1 = k := by omega
          refine ⟨k, zk, rfl, hak, by omega, fun x h1 h2 => ?_, fun y2 h1 h2 => ?_, hp.len, hp.wit, hp.blk, hp.gr⟩
          · rw [← HY.out]
            by_cases e : x = a
            · rw [e, hp.inv.at_]; exact Nat.le_refl _
            · exact hp.inv.lo x (by omega) h2
          · rw [← HY.out]; exact hp.inv.hi y2 (by omega) h2
        · skip
          have hc1 := hps.blk.cell (i := k) (by have := hps.len; omega)
          have hc2 := hps.blk.cell (i := q) (by have := hps.len; omega)
          obtain ⟨u, hu⟩ : ∃ u, u = at0 zk k := ⟨_, rfl⟩
          obtain ⟨v, hv⟩ : ∃ v, v = at0 zk q := ⟨_, rfl⟩
          have HU := hide_it hu
          have HV := hide_it hv
          rw [← hu] at hc1
          rw [← hv] at hc2
          clear hu hv
          have hf1 := hps.blk.frozen k
          have hf2 := hps.blk.frozen q
          have hgt : decide ((q : Int) < (k : Int)) = false := by simp; omega
          have hi3 : (k : Int) < (n : Int) := by omega
          have hi4 : (q : Int) < (n : Int) := by omega
          have hkq2 : k < q := by
            rcases Nat.lt_or_ge k q with h | h
            · exact h
            · have e : k = q := by omega
              have h1 := HGE.out (by omega)
              have h2 := HLT.out (by omega)
              rw [e] at h1; omega
          have HPS := hide_it hps
          clear hps
          go_wp2
          go_region
          all_goals go_wp2
          have hp := HPS.out
          have hb2 := (((hp.blk.drewN 1).set (i := k) (by have := hp.len; omega) v).set (i := q) (by have := hp.len; simp; omega) u)
          have hb3 := hb2
          rw [show (zk.set k v).set q u = swapL zk k q by unfold swapL; rw [← HU.out, ← HV.out]] at hb3
          have hp2 := EState.mk (g := g) (a := a) (b := b) (n := n) (zs := zs) (rest := rest) (pv := y) (w := w) (i := k + 1) (j := q - 1) ((swapL_length _ _).trans hp.len) (hp.wit.trans (within.swap (by omega) (by omega) (by omega) (by omega) (by have := hp.len; omega))) (hp.inv.swap hak (by omega) (by omega) (by have := hp.len; omega) (HGE.out (by omega)) (HLT.out (by omega))) hb3 (grown_set (grown_set (grown_drewN hp.gr _) _ _) _ _)
          have HP2 := hide_it hp2
          clear hp hp2 hb2 hb3
          go_roundw
          case rel => exact ⟨k + 1, q - 1, _, by go_num, by congr 1; omega, by omega, by omega, by omega, HP2.out⟩
          case measure => simp [intOf]; omega

end Go.Proofs.Ythclmkmajlinhab
