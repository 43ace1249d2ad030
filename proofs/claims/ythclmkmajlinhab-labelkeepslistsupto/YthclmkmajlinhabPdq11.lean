/- The library's sort at labels: pdqsort. -/
import Derived.Test.YthclmkmajlinhabPdq10
namespace Go.Proofs.Ythclmkmajlinhab
open Go.RowKit

/-- A row under the sort: what is still to be sorted lies in a' .. b'. -/
structure QState (g a b n : Nat) (zs : List Nat) (rest : List Value) (w wr : World) (zk : List Nat) (a' b' : Nat) : Prop where
  len : zk.length = n
  wit : within a b zs zk
  out : Outer zk a b a' b'
  blk : Blk .u64 36 wr g zk rest
  gr : w.grownBy wr (some g)

theorem QState.drewN {g a b n : Nat} {zs : List Nat} {rest : List Value} {w wr : World} {zk : List Nat} {a' b' : Nat} (h : QState g a b n zs rest w wr zk a' b') (q : Nat) : QState g a b n zs rest w (wr.drewN q) zk a' b' :=
  ⟨h.len, h.wit, h.out, h.blk.drewN q, grown_drewN h.gr q⟩
theorem QState.move {g a b n : Nat} {zs : List Nat} {rest : List Value} {w wr w1 : World} {zk z1 : List Nat} {a' b' : Nat} (h : QState g a b n zs rest w wr zk a' b') (m : Moved g a' b' n zk rest wr w1 z1) (h1 : a ≤ a') (h2 : b' ≤ b) (hb : b ≤ n) : QState g a b n zs rest w w1 z1 a' b' :=
  ⟨m.1, h.wit.trans (m.2.1.wide h1 h2), h.out.kept m.2.1 h1 h2 (by rw [h.len]; exact hb), m.2.2.1, h.gr.trans m.2.2.2⟩
theorem QState.below {g a b n : Nat} {zs : List Nat} {rest : List Value} {w wr w1 : World} {zk : List Nat} {a' b' : Nat} (h : QState g a b n zs rest w wr zk a' b') (hb : Below wr.heap.size wr w1) : QState g a b n zs rest w w1 zk a' b' :=
  ⟨h.len, h.wit, h.out, (hb.block g h.blk.lt).trans h.blk, h.gr.trans ⟨hb.os, hb.tape, hb.output, hb.size, fun k hk _ => hb.block k hk⟩⟩
theorem QState.equal {g a b n : Nat} {zs : List Nat} {rest : List Value} {w wr w1 : World} {zk z1 : List Nat} {a' b' c mid : Nat} (h : QState g a b n zs rest w wr zk a' b') (hlo : ∀ x, a' ≤ x → x < mid → at0 z1 x ≤ at0 zk c) (hhi : ∀ y, mid ≤ y → y < b' → at0 zk c < at0 z1 y) (m : Moved g a' b' n zk rest wr w1 z1) (h1 : a ≤ a') (h2 : b' ≤ b) (hb : b ≤ n) (h0 : 0 < a') (hc : at0 zk c ≤ at0 zk (a' - 1)) (hm : mid ≤ b') : QState g a b n zs rest w w1 z1 mid b' :=
  ⟨m.1, h.wit.trans (m.2.1.wide h1 h2), h.out.equal m.2.1 h1 h2 (by rw [h.len]; exact hb) h0 hc hm hlo hhi, m.2.2.1, h.gr.trans m.2.2.2⟩
theorem QState.left {g a b n : Nat} {zs : List Nat} {rest : List Value} {w wr w1 : World} {zk z1 : List Nat} {a' b' mid : Nat} (h : QState g a b n zs rest w wr zk a' b') (hp : parted zk a' b' mid) (hs : sortedR z1 a' mid) (m : Moved g a' mid n zk rest wr w1 z1) (h1 : a ≤ a') (h2 : b' ≤ b) (hb : b ≤ n) (hm : a' ≤ mid) (hm2 : mid < b') : QState g a b n zs rest w w1 z1 (mid + 1) b' :=
  ⟨m.1, h.wit.trans (m.2.1.wide h1 (by omega)), h.out.left hp m.2.1 hs h1 h2 (by rw [h.len]; exact hb) hm hm2, m.2.2.1, h.gr.trans m.2.2.2⟩
theorem QState.right {g a b n : Nat} {zs : List Nat} {rest : List Value} {w wr w1 : World} {zk z1 : List Nat} {a' b' mid : Nat} (h : QState g a b n zs rest w wr zk a' b') (hp : parted zk a' b' mid) (hs : sortedR z1 (mid + 1) b') (m : Moved g (mid + 1) b' n zk rest wr w1 z1) (h1 : a ≤ a') (h2 : b' ≤ b) (hb : b ≤ n) (hm : a' ≤ mid) (hm2 : mid < b') : QState g a b n zs rest w w1 z1 a' mid :=
  ⟨m.1, h.wit.trans (m.2.1.wide (by omega) h2), h.out.right hp m.2.1 hs h1 h2 (by rw [h.len]; exact hb) hm hm2, m.2.2.1, h.gr.trans m.2.2.2⟩

set_option maxRecDepth 100000 in
set_option maxHeartbeats 20000000 in
theorem pdq_lab (g n cap : Nat) (rest : List Value) (hl : n ≤ 2305843009213693952) (d : Nat) : ∀ (a b m : Nat) (zs : List Nat) (w : World), Blk .u64 36 w g zs rest → zs.length = n → a ≤ b → b ≤ n → b - a = d → m ≤ 100 → Wall zs a b →
    Calls Try.prog 44 #[.slice (some ⟨g, 0, none⟩) n cap, .int .i64 (a : Int), .int .i64 (b : Int), .int .i64 (m : Int)] w fun e w' => e = .returned (.tuple #[]) ∧ ∃ zs', sortedR zs' a b ∧ Moved g a b n zs rest w w' zs' := by
  induction d using Nat.strongRecOn with
  | _ d ih =>
  intro a b m zs w hB hn hab hb hd0 hm100 hwall
  have IH := hide_it ih
  have HW := hide_it hwall
  have HB0 := hide_it hB
  clear ih hwall hB
  go_enter Try.func44, Try.ntmps44
  go_wp2
  go_loopw [1, 2, 3, 8, 9] (fun va vb vl v1 v2 wr => ∃ (a1 b1 m1 : Nat) (B1 B2 : Bool) (zk : List Nat), va = .int .i64 a1 ∧ vb = .int .i64 b1 ∧ vl = .int .i64 m1 ∧ v1 = .bool B1 ∧ v2 = .bool B2 ∧ a ≤ a1 ∧ a1 ≤ b1 ∧ b1 ≤ b ∧ m1 ≤ 100 ∧ QState g a b n zs rest w wr zk a1 b1) (fun va vb _ _ _ _ => (intOf vb).toNat - (intOf va).toNat)
  case atStart => exact ⟨a, b, m, true, true, zs, rfl, rfl, rfl, rfl, rfl, Nat.le_refl _, hab, Nat.le_refl _, hm100, hn, within.refl _ _ _, Outer.start HW.out, HB0.out, World.grownBy.refl _ _⟩
  case round =>
    obtain ⟨a1, b1, m0, B1, B2, zk, rfl, rfl, rfl, rfl, rfl, haa, hab1, hbb, hm0, hq⟩ := hrel
    have HQ := hide_it hq
    clear hq
    by_cases h12 : b1 - a1 ≤ 12
    · have h13 : (b1 : Int) - (a1 : Int) ≤ 12 := by omega
      go_wp2_with fail
      refine (insertion_lab g n cap a1 b1 zk rest _ HQ.out.blk HQ.out.len hab1 (by omega) (by omega)).mono ?_
      rintro e w2 ⟨rfl, z2, hw2, hs2, hb2, hg2⟩
      have hq2 := HQ.out.move ⟨hw2.1.length_eq.trans HQ.out.len, hw2, hb2, hg2⟩ haa hbb hb
      have HQ2 := hide_it hq2
      clear hq2
      go_wp2_with fail
      exact bodyPost_ret (results_none rfl _ _ _) rfl ⟨rfl, z2, HQ2.out.out.done hs2, HQ2.out.len, HQ2.out.wit, HQ2.out.blk, HQ2.out.gr⟩
    · have h13 : (12 : Int) < (b1 : Int) - (a1 : Int) := by omega
      by_cases hz : m0 = 0
      · subst hz
        go_wp2_with fail
        refine (heapSort_lab g n cap a1 b1 zk rest _ HQ.out.blk HQ.out.len (by omega) (by omega) hl).mono ?_
        rintro e w2 ⟨rfl, z2, hs2, hmv⟩
        have HQ2 := hide_it (HQ.out.move hmv haa hbb hb)
        go_wp2_with fail
        exact bodyPost_ret (results_none rfl _ _ _) rfl ⟨rfl, z2, HQ2.out.out.done hs2, HQ2.out.len, HQ2.out.wit, HQ2.out.blk, HQ2.out.gr⟩
      · rcases B1 with _ | _
        · obtain ⟨m1, hm1e⟩ : ∃ m1, m1 = m0 - 1 := ⟨_, rfl⟩
          have hm1c : (m0 : Int) - 1 = (m1 : Int) := by omega
          have hm1b : m1 ≤ 100 := by omega
          clear hm1e
          go_wp2_with fail
          refine (breakPatterns_lab g n cap a1 b1 (b1 - a1) zk rest _ HQ.out.blk HQ.out.len (by omega) (by omega) (by omega) hl).mono ?_
          rintro e w2 ⟨rfl, z2, hmv⟩
          have HQ2 := hide_it (HQ.out.move hmv haa hbb hb)
          clear HQ hmv
          have HQ := HQ2
          clear HQ2
          clear zk
          revert z2
          intro zk HQ
          go_wp2_with fail
          refine (choosePivot_lab g n cap a1 b1 zk rest _ HQ.out.blk HQ.out.len (by omega) (by omega) (by omega)).mono ?_
          rintro e w3 ⟨p0, t, rfl, hp01, hp02, ht, hbel⟩
          have HQ3 := hide_it (HQ.out.below hbel)
          clear HQ hbel
          have HQ := HQ3
          clear HQ3
          rcases ht with rfl | rfl | rfl
          · as_aux_lemma =>
            have hp1 := hp01
            have hp2 := hp02
            by_cases ha0 : 0 < a1
            · have hd : decide ((0 : Int) < (a1 : Int)) = true := by simpa using ha0
              have hln := HQ.out.len
              have hc1 := HQ.out.blk.cell (i := a1 - 1) (by omega)
              have hc2 := HQ.out.blk.cell (i := p0) (by omega)
              obtain ⟨x, hx⟩ : ∃ x, x = at0 zk (a1 - 1) := ⟨_, rfl⟩
              obtain ⟨y, hy⟩ : ∃ y, y = at0 zk p0 := ⟨_, rfl⟩
              have HX := hide_it hx
              have HY := hide_it hy
              rw [← hx] at hc1
              rw [← hy] at hc2
              have hi1 : (p0 : Int) < (n : Int) := by omega
              have hi2 : (a1 : Int) - 1 < (n : Int) := by omega
              have hi3 : (0 : Int) ≤ (a1 : Int) - 1 := by omega
              clear hx hy hln
              by_cases hxy : x < y
              · have hdx : decide (x < y) = true := by simpa using hxy
                go_wp2
                go_quiet ((go_at_call 65; exact Calls.quiet_of_same (less_lab _ _ _)))
                clear hc1 hc2 HX HY hi1 hi2 hi3 hdx
                go_wp2_with fail
                refine (partition_lab g n cap a1 b1 p0 zk rest _ (HQ.out.blk.drewN nq) HQ.out.len hp1 hp2 (by omega) (by omega)).mono ?_
                rintro e w4 ⟨mid, al, z4, rfl, hm1, hm2, hpa, hmv⟩
                have HQ4 := hide_it ((HQ.out.drewN nq).move hmv (by omega) (by omega) (by omega))
                have HP := hide_it hpa
                clear HQ hpa hmv
                by_cases hlr : mid - a1 < b1 - mid
                · have hlr1 : (mid : Int) - (a1 : Int) < (b1 : Int) - (mid : Int) := by omega
                  go_wp2_with fail
                  refine (IH.out (mid - a1) (by omega) a1 mid m1 z4 w4 HQ4.out.blk HQ4.out.len (by omega) (by omega) rfl (by omega) (HQ4.out.out.wallL (by omega) (by omega) (by omega))).mono ?_
                  rintro e w5 ⟨rfl, z5, hs5, hmv5⟩
                  have HQ5 := hide_it (HQ4.out.left HP.out hs5 hmv5 (by omega) (by omega) (by omega) (by omega) (by omega))
                  clear HQ4 HP hs5 hmv5
                  go_wp2
                  go_roundw
                  case rel => exact ⟨mid + 1, b1, m1, _, al, z5, by go_num, rfl, rfl, rfl, rfl, by omega, by omega, by omega, by omega, HQ5.out⟩
                  case measure => simp [intOf] <;> omega
                · have hlr1 : (b1 : Int) - (mid : Int) ≤ (mid : Int) - (a1 : Int) := by omega
                  go_wp2_with fail
                  have hih := IH.out (b1 - (mid + 1)) (by omega) (mid + 1) b1 m1 z4 w4 HQ4.out.blk HQ4.out.len (by omega) (by omega) rfl (by omega) (HQ4.out.out.wallR HP.out (by omega) (by omega) (by omega))
                  rw [show ((mid + 1 : Nat) : Int) = (mid : Int) + 1 from rfl] at hih
                  refine hih.mono ?_
                  clear hih
                  rintro e w5 ⟨rfl, z5, hs5, hmv5⟩
                  have HQ5 := hide_it (HQ4.out.right HP.out hs5 hmv5 (by omega) (by omega) (by omega) (by omega) (by omega))
                  clear HQ4 HP hs5 hmv5
                  go_wp2
                  go_roundw
                  case rel => exact ⟨a1, mid, m1, _, al, z5, rfl, rfl, rfl, rfl, rfl, by omega, by omega, by omega, by omega, HQ5.out⟩
                  case measure => simp [intOf] <;> omega
              · have hdx : decide (x < y) = false := by simpa using hxy
                go_wp2
                go_quiet ((go_at_call 65; exact Calls.quiet_of_same (less_lab _ _ _)))
                go_wp2_with fail
                refine (partitionEqual_lab g n cap a1 b1 p0 zk rest _ (HQ.out.blk.drewN nq) HQ.out.len hp1 hp2 (by omega) (by omega)).mono ?_
                rintro e w4 ⟨mid, z4, rfl, hm1, hm2, hlo, hhi, hmv⟩
                have HQ4 := hide_it ((HQ.out.drewN nq).equal hlo hhi hmv (by omega) (by omega) (by omega) ha0 (by rw [← HX.out, ← HY.out]; omega) hm2)
                clear HQ hlo hhi hmv hc1 hc2
                go_wp2
                go_roundw
                case rel => exact ⟨mid, b1, m1, _, _, z4, rfl, rfl, rfl, rfl, rfl, by omega, by omega, by omega, by omega, HQ4.out⟩
                case measure => simp [intOf] <;> omega
            · have hd : decide ((0 : Int) < (a1 : Int)) = false := by simp; omega
              go_wp2
              go_quiet ((go_at_call 65; exact Calls.quiet_of_same (less_lab _ _ _)))
              go_wp2_with fail
              refine (partition_lab g n cap a1 b1 p0 zk rest _ (HQ.out.blk.drewN nq) HQ.out.len hp1 hp2 (by omega) (by omega)).mono ?_
              rintro e w4 ⟨mid, al, z4, rfl, hm1, hm2, hpa, hmv⟩
              have HQ4 := hide_it ((HQ.out.drewN nq).move hmv (by omega) (by omega) (by omega))
              have HP := hide_it hpa
              clear HQ hpa hmv
              by_cases hlr : mid - a1 < b1 - mid
              · have hlr1 : (mid : Int) - (a1 : Int) < (b1 : Int) - (mid : Int) := by omega
                go_wp2_with fail
                refine (IH.out (mid - a1) (by omega) a1 mid m1 z4 w4 HQ4.out.blk HQ4.out.len (by omega) (by omega) rfl (by omega) (HQ4.out.out.wallL (by omega) (by omega) (by omega))).mono ?_
                rintro e w5 ⟨rfl, z5, hs5, hmv5⟩
                have HQ5 := hide_it (HQ4.out.left HP.out hs5 hmv5 (by omega) (by omega) (by omega) (by omega) (by omega))
                clear HQ4 HP hs5 hmv5
                go_wp2
                go_roundw
                case rel => exact ⟨mid + 1, b1, m1, _, al, z5, by go_num, rfl, rfl, rfl, rfl, by omega, by omega, by omega, by omega, HQ5.out⟩
                case measure => simp [intOf] <;> omega
              · have hlr1 : (b1 : Int) - (mid : Int) ≤ (mid : Int) - (a1 : Int) := by omega
                go_wp2_with fail
                have hih := IH.out (b1 - (mid + 1)) (by omega) (mid + 1) b1 m1 z4 w4 HQ4.out.blk HQ4.out.len (by omega) (by omega) rfl (by omega) (HQ4.out.out.wallR HP.out (by omega) (by omega) (by omega))
                rw [show ((mid + 1 : Nat) : Int) = (mid : Int) + 1 from rfl] at hih
                refine hih.mono ?_
                clear hih
                rintro e w5 ⟨rfl, z5, hs5, hmv5⟩
                have HQ5 := hide_it (HQ4.out.right HP.out hs5 hmv5 (by omega) (by omega) (by omega) (by omega) (by omega))
                clear HQ4 HP hs5 hmv5
                go_wp2
                go_roundw
                case rel => exact ⟨a1, mid, m1, _, al, z5, rfl, rfl, rfl, rfl, rfl, by omega, by omega, by omega, by omega, HQ5.out⟩
                case measure => simp [intOf] <;> omega
          · as_aux_lemma =>
            have hp1 := hp01
            have hp2 := hp02
            by_cases ha0 : 0 < a1
            · have hd : decide ((0 : Int) < (a1 : Int)) = true := by simpa using ha0
              have hln := HQ.out.len
              have hc1 := HQ.out.blk.cell (i := a1 - 1) (by omega)
              have hc2 := HQ.out.blk.cell (i := p0) (by omega)
              obtain ⟨x, hx⟩ : ∃ x, x = at0 zk (a1 - 1) := ⟨_, rfl⟩
              obtain ⟨y, hy⟩ : ∃ y, y = at0 zk p0 := ⟨_, rfl⟩
              have HX := hide_it hx
              have HY := hide_it hy
              rw [← hx] at hc1
              rw [← hy] at hc2
              have hi1 : (p0 : Int) < (n : Int) := by omega
              have hi2 : (a1 : Int) - 1 < (n : Int) := by omega
              have hi3 : (0 : Int) ≤ (a1 : Int) - 1 := by omega
              clear hx hy hln
              by_cases hxy : x < y
              · have hdx : decide (x < y) = true := by simpa using hxy
                go_wp2
                go_quiet ((go_at_call 65; exact Calls.quiet_of_same (less_lab _ _ _)))
                clear hc1 hc2 HX HY hi1 hi2 hi3 hdx
                go_wp2_with fail
                refine (partition_lab g n cap a1 b1 p0 zk rest _ (HQ.out.blk.drewN nq) HQ.out.len hp1 hp2 (by omega) (by omega)).mono ?_
                rintro e w4 ⟨mid, al, z4, rfl, hm1, hm2, hpa, hmv⟩
                have HQ4 := hide_it ((HQ.out.drewN nq).move hmv (by omega) (by omega) (by omega))
                have HP := hide_it hpa
                clear HQ hpa hmv
                by_cases hlr : mid - a1 < b1 - mid
                · have hlr1 : (mid : Int) - (a1 : Int) < (b1 : Int) - (mid : Int) := by omega
                  go_wp2_with fail
                  refine (IH.out (mid - a1) (by omega) a1 mid m1 z4 w4 HQ4.out.blk HQ4.out.len (by omega) (by omega) rfl (by omega) (HQ4.out.out.wallL (by omega) (by omega) (by omega))).mono ?_
                  rintro e w5 ⟨rfl, z5, hs5, hmv5⟩
                  have HQ5 := hide_it (HQ4.out.left HP.out hs5 hmv5 (by omega) (by omega) (by omega) (by omega) (by omega))
                  clear HQ4 HP hs5 hmv5
                  go_wp2
                  go_roundw
                  case rel => exact ⟨mid + 1, b1, m1, _, al, z5, by go_num, rfl, rfl, rfl, rfl, by omega, by omega, by omega, by omega, HQ5.out⟩
                  case measure => simp [intOf] <;> omega
                · have hlr1 : (b1 : Int) - (mid : Int) ≤ (mid : Int) - (a1 : Int) := by omega
                  go_wp2_with fail
                  have hih := IH.out (b1 - (mid + 1)) (by omega) (mid + 1) b1 m1 z4 w4 HQ4.out.blk HQ4.out.len (by omega) (by omega) rfl (by omega) (HQ4.out.out.wallR HP.out (by omega) (by omega) (by omega))
                  rw [show ((mid + 1 : Nat) : Int) = (mid : Int) + 1 from rfl] at hih
                  refine hih.mono ?_
                  clear hih
                  rintro e w5 ⟨rfl, z5, hs5, hmv5⟩
                  have HQ5 := hide_it (HQ4.out.right HP.out hs5 hmv5 (by omega) (by omega) (by omega) (by omega) (by omega))
                  clear HQ4 HP hs5 hmv5
                  go_wp2
                  go_roundw
                  case rel => exact ⟨a1, mid, m1, _, al, z5, rfl, rfl, rfl, rfl, rfl, by omega, by omega, by omega, by omega, HQ5.out⟩
                  case measure => simp [intOf] <;> omega
              · have hdx : decide (x < y) = false := by simpa using hxy
                go_wp2
                go_quiet ((go_at_call 65; exact Calls.quiet_of_same (less_lab _ _ _)))
                go_wp2_with fail
                refine (partitionEqual_lab g n cap a1 b1 p0 zk rest _ (HQ.out.blk.drewN nq) HQ.out.len hp1 hp2 (by omega) (by omega)).mono ?_
                rintro e w4 ⟨mid, z4, rfl, hm1, hm2, hlo, hhi, hmv⟩
                have HQ4 := hide_it ((HQ.out.drewN nq).equal hlo hhi hmv (by omega) (by omega) (by omega) ha0 (by rw [← HX.out, ← HY.out]; omega) hm2)
                clear HQ hlo hhi hmv hc1 hc2
                go_wp2
                go_roundw
                case rel => exact ⟨mid, b1, m1, _, _, z4, rfl, rfl, rfl, rfl, rfl, by omega, by omega, by omega, by omega, HQ4.out⟩
                case measure => simp [intOf] <;> omega
            · have hd : decide ((0 : Int) < (a1 : Int)) = false := by simp; omega
              go_wp2
              go_quiet ((go_at_call 65; exact Calls.quiet_of_same (less_lab _ _ _)))
              go_wp2_with fail
              refine (partition_lab g n cap a1 b1 p0 zk rest _ (HQ.out.blk.drewN nq) HQ.out.len hp1 hp2 (by omega) (by omega)).mono ?_
              rintro e w4 ⟨mid, al, z4, rfl, hm1, hm2, hpa, hmv⟩
              have HQ4 := hide_it ((HQ.out.drewN nq).move hmv (by omega) (by omega) (by omega))
              have HP := hide_it hpa
              clear HQ hpa hmv
              by_cases hlr : mid - a1 < b1 - mid
              · have hlr1 : (mid : Int) - (a1 : Int) < (b1 : Int) - (mid : Int) := by omega
                go_wp2_with fail
                refine (IH.out (mid - a1) (by omega) a1 mid m1 z4 w4 HQ4.out.blk HQ4.out.len (by omega) (by omega) rfl (by omega) (HQ4.out.out.wallL (by omega) (by omega) (by omega))).mono ?_
                rintro e w5 ⟨rfl, z5, hs5, hmv5⟩
                have HQ5 := hide_it (HQ4.out.left HP.out hs5 hmv5 (by omega) (by omega) (by omega) (by omega) (by omega))
                clear HQ4 HP hs5 hmv5
                go_wp2
                go_roundw
                case rel => exact ⟨mid + 1, b1, m1, _, al, z5, by go_num, rfl, rfl, rfl, rfl, by omega, by omega, by omega, by omega, HQ5.out⟩
                case measure => simp [intOf] <;> omega
              · have hlr1 : (b1 : Int) - (mid : Int) ≤ (mid : Int) - (a1 : Int) := by omega
                go_wp2_with fail
                have hih := IH.out (b1 - (mid + 1)) (by omega) (mid + 1) b1 m1 z4 w4 HQ4.out.blk HQ4.out.len (by omega) (by omega) rfl (by omega) (HQ4.out.out.wallR HP.out (by omega) (by omega) (by omega))
                rw [show ((mid + 1 : Nat) : Int) = (mid : Int) + 1 from rfl] at hih
                refine hih.mono ?_
                clear hih
                rintro e w5 ⟨rfl, z5, hs5, hmv5⟩
                have HQ5 := hide_it (HQ4.out.right HP.out hs5 hmv5 (by omega) (by omega) (by omega) (by omega) (by omega))
                clear HQ4 HP hs5 hmv5
                go_wp2
                go_roundw
                case rel => exact ⟨a1, mid, m1, _, al, z5, rfl, rfl, rfl, rfl, rfl, by omega, by omega, by omega, by omega, HQ5.out⟩
                case measure => simp [intOf] <;> omega
          · as_aux_lemma =>
            go_wp2_with fail
            refine (reverse_lab g n cap a1 b1 zk rest _ HQ.out.blk HQ.out.len (by omega) (by omega) (by omega)).mono ?_
            rintro e w7 ⟨rfl, z7, hmv⟩
            have HQ7 := hide_it (HQ.out.move hmv (by omega) (by omega) (by omega))
            clear HQ hmv
            have HQ := HQ7
            clear HQ7
            clear zk
            revert z7
            intro zk HQ
            obtain ⟨PV, hPV⟩ : ∃ PV, PV = b1 - 1 - (p0 - a1) := ⟨_, rfl⟩
            have hPV1 : (b1 : Int) - 1 - ((p0 : Int) - (a1 : Int)) = (PV : Int) := by omega
            have hp1 : a1 ≤ PV := by omega
            have hp2 : PV < b1 := by omega
            clear hPV
            by_cases ha0 : 0 < a1
            · have hd : decide ((0 : Int) < (a1 : Int)) = true := by simpa using ha0
              have hln := HQ.out.len
              have hc1 := HQ.out.blk.cell (i := a1 - 1) (by omega)
              have hc2 := HQ.out.blk.cell (i := PV) (by omega)
              obtain ⟨x, hx⟩ : ∃ x, x = at0 zk (a1 - 1) := ⟨_, rfl⟩
              obtain ⟨y, hy⟩ : ∃ y, y = at0 zk PV := ⟨_, rfl⟩
              have HX := hide_it hx
              have HY := hide_it hy
              rw [← hx] at hc1
              rw [← hy] at hc2
              have hi1 : (PV : Int) < (n : Int) := by omega
              have hi2 : (a1 : Int) - 1 < (n : Int) := by omega
              have hi3 : (0 : Int) ≤ (a1 : Int) - 1 := by omega
              clear hx hy hln
              by_cases hxy : x < y
              · have hdx : decide (x < y) = true := by simpa using hxy
                go_wp2
                go_quiet ((go_at_call 65; exact Calls.quiet_of_same (less_lab _ _ _)))
                clear hc1 hc2 HX HY hi1 hi2 hi3 hdx
                go_wp2_with fail
                refine (partition_lab g n cap a1 b1 PV zk rest _ (HQ.out.blk.drewN nq) HQ.out.len hp1 hp2 (by omega) (by omega)).mono ?_
                rintro e w4 ⟨mid, al, z4, rfl, hm1, hm2, hpa, hmv⟩
                have HQ4 := hide_it ((HQ.out.drewN nq).move hmv (by omega) (by omega) (by omega))
                have HP := hide_it hpa
                clear HQ hpa hmv
                by_cases hlr : mid - a1 < b1 - mid
                · have hlr1 : (mid : Int) - (a1 : Int) < (b1 : Int) - (mid : Int) := by omega
                  go_wp2_with fail
                  refine (IH.out (mid - a1) (by omega) a1 mid m1 z4 w4 HQ4.out.blk HQ4.out.len (by omega) (by omega) rfl (by omega) (HQ4.out.out.wallL (by omega) (by omega) (by omega))).mono ?_
                  rintro e w5 ⟨rfl, z5, hs5, hmv5⟩
                  have HQ5 := hide_it (HQ4.out.left HP.out hs5 hmv5 (by omega) (by omega) (by omega) (by omega) (by omega))
                  clear HQ4 HP hs5 hmv5
                  go_wp2
                  go_roundw
                  case rel => exact ⟨mid + 1, b1, m1, _, al, z5, by go_num, rfl, rfl, rfl, rfl, by omega, by omega, by omega, by omega, HQ5.out⟩
                  case measure => simp [intOf] <;> omega
                · have hlr1 : (b1 : Int) - (mid : Int) ≤ (mid : Int) - (a1 : Int) := by omega
                  go_wp2_with fail
                  have hih := IH.out (b1 - (mid + 1)) (by omega) (mid + 1) b1 m1 z4 w4 HQ4.out.blk HQ4.out.len (by omega) (by omega) rfl (by omega) (HQ4.out.out.wallR HP.out (by omega) (by omega) (by omega))
                  rw [show ((mid + 1 : Nat) : Int) = (mid : Int) + 1 from rfl] at hih
                  refine hih.mono ?_
                  clear hih
                  rintro e w5 ⟨rfl, z5, hs5, hmv5⟩
                  have HQ5 := hide_it (HQ4.out.right HP.out hs5 hmv5 (by omega) (by omega) (by omega) (by omega) (by omega))
                  clear HQ4 HP hs5 hmv5
                  go_wp2
                  go_roundw
                  case rel => exact ⟨a1, mid, m1, _, al, z5, rfl, rfl, rfl, rfl, rfl, by omega, by omega, by omega, by omega, HQ5.out⟩
                  case measure => simp [intOf] <;> omega
              · have hdx : decide (x < y) = false := by simpa using hxy
                go_wp2
                go_quiet ((go_at_call 65; exact Calls.quiet_of_same (less_lab _ _ _)))
                go_wp2_with fail
                refine (partitionEqual_lab g n cap a1 b1 PV zk rest _ (HQ.out.blk.drewN nq) HQ.out.len hp1 hp2 (by omega) (by omega)).mono ?_
                rintro e w4 ⟨mid, z4, rfl, hm1, hm2, hlo, hhi, hmv⟩
                have HQ4 := hide_it ((HQ.out.drewN nq).equal hlo hhi hmv (by omega) (by omega) (by omega) ha0 (by rw [← HX.out, ← HY.out]; omega) hm2)
                clear HQ hlo hhi hmv hc1 hc2
                go_wp2
                go_roundw
                case rel => exact ⟨mid, b1, m1, _, _, z4, rfl, rfl, rfl, rfl, rfl, by omega, by omega, by omega, by omega, HQ4.out⟩
                case measure => simp [intOf] <;> omega
            · have hd : decide ((0 : Int) < (a1 : Int)) = false := by simp; omega
              go_wp2
              go_quiet ((go_at_call 65; exact Calls.quiet_of_same (less_lab _ _ _)))
              go_wp2_with fail
              refine (partition_lab g n cap a1 b1 PV zk rest _ (HQ.out.blk.drewN nq) HQ.out.len hp1 hp2 (by omega) (by omega)).mono ?_
              rintro e w4 ⟨mid, al, z4, rfl, hm1, hm2, hpa, hmv⟩
              have HQ4 := hide_it ((HQ.out.drewN nq).move hmv (by omega) (by omega) (by omega))
              have HP := hide_it hpa
              clear HQ hpa hmv
              by_cases hlr : mid - a1 < b1 - mid
              · have hlr1 : (mid : Int) - (a1 : Int) < (b1 : Int) - (mid : Int) := by omega
                go_wp2_with fail
                refine (IH.out (mid - a1) (by omega) a1 mid m1 z4 w4 HQ4.out.blk HQ4.out.len (by omega) (by omega) rfl (by omega) (HQ4.out.out.wallL (by omega) (by omega) (by omega))).mono ?_
                rintro e w5 ⟨rfl, z5, hs5, hmv5⟩
                have HQ5 := hide_it (HQ4.out.left HP.out hs5 hmv5 (by omega) (by omega) (by omega) (by omega) (by omega))
                clear HQ4 HP hs5 hmv5
                go_wp2
                go_roundw
                case rel => exact ⟨mid + 1, b1, m1, _, al, z5, by go_num, rfl, rfl, rfl, rfl, by omega, by omega, by omega, by omega, HQ5.out⟩
                case measure => simp [intOf] <;> omega
              · have hlr1 : (b1 : Int) - (mid : Int) ≤ (mid : Int) - (a1 : Int) := by omega
                go_wp2_with fail
                have hih := IH.out (b1 - (mid + 1)) (by omega) (mid + 1) b1 m1 z4 w4 HQ4.out.blk HQ4.out.len (by omega) (by omega) rfl (by omega) (HQ4.out.out.wallR HP.out (by omega) (by omega) (by omega))
                rw [show ((mid + 1 : Nat) : Int) = (mid : Int) + 1 from rfl] at hih
                refine hih.mono ?_
                clear hih
                rintro e w5 ⟨rfl, z5, hs5, hmv5⟩
                have HQ5 := hide_it (HQ4.out.right HP.out hs5 hmv5 (by omega) (by omega) (by omega) (by omega) (by omega))
                clear HQ4 HP hs5 hmv5
                go_wp2
                go_roundw
                case rel => exact ⟨a1, mid, m1, _, al, z5, rfl, rfl, rfl, rfl, rfl, by omega, by omega, by omega, by omega, HQ5.out⟩
                case measure => simp [intOf] <;> omega
        · obtain ⟨m1, hm1e⟩ : ∃ m1, m1 = m0 := ⟨_, rfl⟩
          subst hm1e
          go_wp2_with fail
          rcases B2 with _ | _
          · refine (choosePivot_lab g n cap a1 b1 zk rest _ HQ.out.blk HQ.out.len (by omega) (by omega) (by omega)).mono ?_
            rintro e w3 ⟨p0, t, rfl, hp01, hp02, ht, hbel⟩
            have HQ3 := hide_it (HQ.out.below hbel)
            clear HQ hbel
            have HQ := HQ3
            clear HQ3
            rcases ht with rfl | rfl | rfl
            · as_aux_lemma =>
              have hp1 := hp01
              have hp2 := hp02
              by_cases ha0 : 0 < a1
              · have hd : decide ((0 : Int) < (a1 : Int)) = true := by simpa using ha0
                have hln := HQ.out.len
                have hc1 := HQ.out.blk.cell (i := a1 - 1) (by omega)
                have hc2 := HQ.out.blk.cell (i := p0) (by omega)
                obtain ⟨x, hx⟩ : ∃ x, x = at0 zk (a1 - 1) := ⟨_, rfl⟩
                obtain ⟨y, hy⟩ : ∃ y, y = at0 zk p0 := ⟨_, rfl⟩
                have HX := hide_it hx
                have HY := hide_it hy
                rw [← hx] at hc1
                rw [← hy] at hc2
                have hi1 : (p0 : Int) < (n : Int) := by omega
                have hi2 : (a1 : Int) - 1 < (n : Int) := by omega
                have hi3 : (0 : Int) ≤ (a1 : Int) - 1 := by omega
                clear hx hy hln
                by_cases hxy : x < y
                · have hdx : decide (x < y) = true := by simpa using hxy
                  go_wp2
                  go_quiet ((go_at_call 65; exact Calls.quiet_of_same (less_lab _ _ _)))
                  clear hc1 hc2 HX HY hi1 hi2 hi3 hdx
                  go_wp2_with fail
                  refine (partition_lab g n cap a1 b1 p0 zk rest _ (HQ.out.blk.drewN nq) HQ.out.len hp1 hp2 (by omega) (by omega)).mono ?_
                  rintro e w4 ⟨mid, al, z4, rfl, hm1, hm2, hpa, hmv⟩
                  have HQ4 := hide_it ((HQ.out.drewN nq).move hmv (by omega) (by omega) (by omega))
                  have HP := hide_it hpa
                  clear HQ hpa hmv
                  by_cases hlr : mid - a1 < b1 - mid
                  · have hlr1 : (mid : Int) - (a1 : Int) < (b1 : Int) - (mid : Int) := by omega
                    go_wp2_with fail
                    refine (IH.out (mid - a1) (by omega) a1 mid m1 z4 w4 HQ4.out.blk HQ4.out.len (by omega) (by omega) rfl (by omega) (HQ4.out.out.wallL (by omega) (by omega) (by omega))).mono ?_
                    rintro e w5 ⟨rfl, z5, hs5, hmv5⟩
                    have HQ5 := hide_it (HQ4.out.left HP.out hs5 hmv5 (by omega) (by omega) (by omega) (by omega) (by omega))
                    clear HQ4 HP hs5 hmv5
                    go_wp2
                    go_roundw
                    case rel => exact ⟨mid + 1, b1, m1, _, al, z5, by go_num, rfl, rfl, rfl, rfl, by omega, by omega, by omega, by omega, HQ5.out⟩
                    case measure => simp [intOf] <;> omega
                  · have hlr1 : (b1 : Int) - (mid : Int) ≤ (mid : Int) - (a1 : Int) := by omega
                    go_wp2_with fail
                    have hih := IH.out (b1 - (mid + 1)) (by omega) (mid + 1) b1 m1 z4 w4 HQ4.out.blk HQ4.out.len (by omega) (by omega) rfl (by omega) (HQ4.out.out.wallR HP.out (by omega) (by omega) (by omega))
                    rw [show ((mid + 1 : Nat) : Int) = (mid : Int) + 1 from rfl] at hih
                    refine hih.mono ?_
                    clear hih
                    rintro e w5 ⟨rfl, z5, hs5, hmv5⟩
                    have HQ5 := hide_it (HQ4.out.right HP.out hs5 hmv5 (by omega) (by omega) (by omega) (by omega) (by omega))
                    clear HQ4 HP hs5 hmv5
                    go_wp2
                    go_roundw
                    case rel => exact ⟨a1, mid, m1, _, al, z5, rfl, rfl, rfl, rfl, rfl, by omega, by omega, by omega, by omega, HQ5.out⟩
                    case measure => simp [intOf] <;> omega
                · have hdx : decide (x < y) = false := by simpa using hxy
                  go_wp2
                  go_quiet ((go_at_call 65; exact Calls.quiet_of_same (less_lab _ _ _)))
                  go_wp2_with fail
                  refine (partitionEqual_lab g n cap a1 b1 p0 zk rest _ (HQ.out.blk.drewN nq) HQ.out.len hp1 hp2 (by omega) (by omega)).mono ?_
                  rintro e w4 ⟨mid, z4, rfl, hm1, hm2, hlo, hhi, hmv⟩
                  have HQ4 := hide_it ((HQ.out.drewN nq).equal hlo hhi hmv (by omega) (by omega) (by omega) ha0 (by rw [← HX.out, ← HY.out]; omega) hm2)
                  clear HQ hlo hhi hmv hc1 hc2
                  go_wp2
                  go_roundw
                  case rel => exact ⟨mid, b1, m1, _, _, z4, rfl, rfl, rfl, rfl, rfl, by omega, by omega, by omega, by omega, HQ4.out⟩
                  case measure => simp [intOf] <;> omega
              · have hd : decide ((0 : Int) < (a1 : Int)) = false := by simp; omega
                go_wp2
                go_quiet ((go_at_call 65; exact Calls.quiet_of_same (less_lab _ _ _)))
                go_wp2_with fail
                refine (partition_lab g n cap a1 b1 p0 zk rest _ (HQ.out.blk.drewN nq) HQ.out.len hp1 hp2 (by omega) (by omega)).mono ?_
                rintro e w4 ⟨mid, al, z4, rfl, hm1, hm2, hpa, hmv⟩
                have HQ4 := hide_it ((HQ.out.drewN nq).move hmv (by omega) (by omega) (by omega))
                have HP := hide_it hpa
                clear HQ hpa hmv
                by_cases hlr : mid - a1 < b1 - mid
                · have hlr1 : (mid : Int) - (a1 : Int) < (b1 : Int) - (mid : Int) := by omega
                  go_wp2_with fail
                  refine (IH.out (mid - a1) (by omega) a1 mid m1 z4 w4 HQ4.out.blk HQ4.out.len (by omega) (by omega) rfl (by omega) (HQ4.out.out.wallL (by omega) (by omega) (by omega))).mono ?_
                  rintro e w5 ⟨rfl, z5, hs5, hmv5⟩
                  have HQ5 := hide_it (HQ4.out.left HP.out hs5 hmv5 (by omega) (by omega) (by omega) (by omega) (by omega))
                  clear HQ4 HP hs5 hmv5
                  go_wp2
                  go_roundw
                  case rel => exact ⟨mid + 1, b1, m1, _, al, z5, by go_num, rfl, rfl, rfl, rfl, by omega, by omega, by omega, by omega, HQ5.out⟩
                  case measure => simp [intOf] <;> omega
                · have hlr1 : (b1 : Int) - (mid : Int) ≤ (mid : Int) - (a1 : Int) := by omega
                  go_wp2_with fail
                  have hih := IH.out (b1 - (mid + 1)) (by omega) (mid + 1) b1 m1 z4 w4 HQ4.out.blk HQ4.out.len (by omega) (by omega) rfl (by omega) (HQ4.out.out.wallR HP.out (by omega) (by omega) (by omega))
                  rw [show ((mid + 1 : Nat) : Int) = (mid : Int) + 1 from rfl] at hih
                  refine hih.mono ?_
                  clear hih
                  rintro e w5 ⟨rfl, z5, hs5, hmv5⟩
                  have HQ5 := hide_it (HQ4.out.right HP.out hs5 hmv5 (by omega) (by omega) (by omega) (by omega) (by omega))
                  clear HQ4 HP hs5 hmv5
                  go_wp2
                  go_roundw
                  case rel => exact ⟨a1, mid, m1, _, al, z5, rfl, rfl, rfl, rfl, rfl, by omega, by omega, by omega, by omega, HQ5.out⟩
                  case measure => simp [intOf] <;> omega
            · as_aux_lemma =>
              have hp1 := hp01
              have hp2 := hp02
              by_cases ha0 : 0 < a1
              · have hd : decide ((0 : Int) < (a1 : Int)) = true := by simpa using ha0
                have hln := HQ.out.len
                have hc1 := HQ.out.blk.cell (i := a1 - 1) (by omega)
                have hc2 := HQ.out.blk.cell (i := p0) (by omega)
                obtain ⟨x, hx⟩ : ∃ x, x = at0 zk (a1 - 1) := ⟨_, rfl⟩
                obtain ⟨y, hy⟩ : ∃ y, y = at0 zk p0 := ⟨_, rfl⟩
                have HX := hide_it hx
                have HY := hide_it hy
                rw [← hx] at hc1
                rw [← hy] at hc2
                have hi1 : (p0 : Int) < (n : Int) := by omega
                have hi2 : (a1 : Int) - 1 < (n : Int) := by omega
                have hi3 : (0 : Int) ≤ (a1 : Int) - 1 := by omega
                clear hx hy hln
                by_cases hxy : x < y
                · have hdx : decide (x < y) = true := by simpa using hxy
                  go_wp2
                  go_quiet ((go_at_call 65; exact Calls.quiet_of_same (less_lab _ _ _)))
                  clear hc1 hc2 HX HY hi1 hi2 hi3 hdx
                  go_wp2_with fail
                  refine (partition_lab g n cap a1 b1 p0 zk rest _ (HQ.out.blk.drewN nq) HQ.out.len hp1 hp2 (by omega) (by omega)).mono ?_
                  rintro e w4 ⟨mid, al, z4, rfl, hm1, hm2, hpa, hmv⟩
                  have HQ4 := hide_it ((HQ.out.drewN nq).move hmv (by omega) (by omega) (by omega))
                  have HP := hide_it hpa
                  clear HQ hpa hmv
                  by_cases hlr : mid - a1 < b1 - mid
                  · have hlr1 : (mid : Int) - (a1 : Int) < (b1 : Int) - (mid : Int) := by omega
                    go_wp2_with fail
                    refine (IH.out (mid - a1) (by omega) a1 mid m1 z4 w4 HQ4.out.blk HQ4.out.len (by omega) (by omega) rfl (by omega) (HQ4.out.out.wallL (by omega) (by omega) (by omega))).mono ?_
                    rintro e w5 ⟨rfl, z5, hs5, hmv5⟩
                    have HQ5 := hide_it (HQ4.out.left HP.out hs5 hmv5 (by omega) (by omega) (by omega) (by omega) (by omega))
                    clear HQ4 HP hs5 hmv5
                    go_wp2
                    go_roundw
                    case rel => exact ⟨mid + 1, b1, m1, _, al, z5, by go_num, rfl, rfl, rfl, rfl, by omega, by omega, by omega, by omega, HQ5.out⟩
                    case measure => simp [intOf] <;> omega
                  · have hlr1 : (b1 : Int) - (mid : Int) ≤ (mid : Int) - (a1 : Int) := by omega
                    go_wp2_with fail
                    have hih := IH.out (b1 - (mid + 1)) (by omega) (mid + 1) b1 m1 z4 w4 HQ4.out.blk HQ4.out.len (by omega) (by omega) rfl (by omega) (HQ4.out.out.wallR HP.out (by omega) (by omega) (by omega))
                    rw [show ((mid + 1 : Nat) : Int) = (mid : Int) + 1 from rfl] at hih
                    refine hih.mono ?_
                    clear hih
                    rintro e w5 ⟨rfl, z5, hs5, hmv5⟩
                    have HQ5 := hide_it (HQ4.out.right HP.out hs5 hmv5 (by omega) (by omega) (by omega) (by omega) (by omega))
                    clear HQ4 HP hs5 hmv5
                    go_wp2
                    go_roundw
                    case rel => exact ⟨a1, mid, m1, _, al, z5, rfl, rfl, rfl, rfl, rfl, by omega, by omega, by omega, by omega, HQ5.out⟩
                    case measure => simp [intOf] <;> omega
                · have hdx : decide (x < y) = false := by simpa using hxy
                  go_wp2
                  go_quiet ((go_at_call 65; exact Calls.quiet_of_same (less_lab _ _ _)))
                  go_wp2_with fail
                  refine (partitionEqual_lab g n cap a1 b1 p0 zk rest _ (HQ.out.blk.drewN nq) HQ.out.len hp1 hp2 (by omega) (by omega)).mono ?_
                  rintro e w4 ⟨mid, z4, rfl, hm1, hm2, hlo, hhi, hmv⟩
                  have HQ4 := hide_it ((HQ.out.drewN nq).equal hlo hhi hmv (by omega) (by omega) (by omega) ha0 (by rw [← HX.out, ← HY.out]; omega) hm2)
                  clear HQ hlo hhi hmv hc1 hc2
                  go_wp2
                  go_roundw
                  case rel => exact ⟨mid, b1, m1, _, _, z4, rfl, rfl, rfl, rfl, rfl, by omega, by omega, by omega, by omega, HQ4.out⟩
                  case measure => simp [intOf] <;> omega
              · have hd : decide ((0 : Int) < (a1 : Int)) = false := by simp; omega
                go_wp2
                go_quiet ((go_at_call 65; exact Calls.quiet_of_same (less_lab _ _ _)))
                go_wp2_with fail
                refine (partition_lab g n cap a1 b1 p0 zk rest _ (HQ.out.blk.drewN nq) HQ.out.len hp1 hp2 (by omega) (by omega)).mono ?_
                rintro e w4 ⟨mid, al, z4, rfl, hm1, hm2, hpa, hmv⟩
                have HQ4 := hide_it ((HQ.out.drewN nq).move hmv (by omega) (by omega) (by omega))
                have HP := hide_it hpa
                clear HQ hpa hmv
                by_cases hlr : mid - a1 < b1 - mid
                · have hlr1 : (mid : Int) - (a1 : Int) < (b1 : Int) - (mid : Int) := by omega
                  go_wp2_with fail
                  refine (IH.out (mid - a1) (by omega) a1 mid m1 z4 w4 HQ4.out.blk HQ4.out.len (by omega) (by omega) rfl (by omega) (HQ4.out.out.wallL (by omega) (by omega) (by omega))).mono ?_
                  rintro e w5 ⟨rfl, z5, hs5, hmv5⟩
                  have HQ5 := hide_it (HQ4.out.left HP.out hs5 hmv5 (by omega) (by omega) (by omega) (by omega) (by omega))
                  clear HQ4 HP hs5 hmv5
                  go_wp2
                  go_roundw
                  case rel => exact ⟨mid + 1, b1, m1, _, al, z5, by go_num, rfl, rfl, rfl, rfl, by omega, by omega, by omega, by omega, HQ5.out⟩
                  case measure => simp [intOf] <;> omega
                · have hlr1 : (b1 : Int) - (mid : Int) ≤ (mid : Int) - (a1 : Int) := by omega
                  go_wp2_with fail
                  have hih := IH.out (b1 - (mid + 1)) (by omega) (mid + 1) b1 m1 z4 w4 HQ4.out.blk HQ4.out.len (by omega) (by omega) rfl (by omega) (HQ4.out.out.wallR HP.out (by omega) (by omega) (by omega))
                  rw [show ((mid + 1 : Nat) : Int) = (mid : Int) + 1 from rfl] at hih
                  refine hih.mono ?_
                  clear hih
                  rintro e w5 ⟨rfl, z5, hs5, hmv5⟩
                  have HQ5 := hide_it (HQ4.out.right HP.out hs5 hmv5 (by omega) (by omega) (by omega) (by omega) (by omega))
                  clear HQ4 HP hs5 hmv5
                  go_wp2
                  go_roundw
                  case rel => exact ⟨a1, mid, m1, _, al, z5, rfl, rfl, rfl, rfl, rfl, by omega, by omega, by omega, by omega, HQ5.out⟩
                  case measure => simp [intOf] <;> omega
            · as_aux_lemma =>
              go_wp2_with fail
              refine (reverse_lab g n cap a1 b1 zk rest _ HQ.out.blk HQ.out.len (by omega) (by omega) (by omega)).mono ?_
              rintro e w7 ⟨rfl, z7, hmv⟩
              have HQ7 := hide_it (HQ.out.move hmv (by omega) (by omega) (by omega))
              clear HQ hmv
              have HQ := HQ7
              clear HQ7
              clear zk
              revert z7
              intro zk HQ
              obtain ⟨PV, hPV⟩ : ∃ PV, PV = b1 - 1 - (p0 - a1) := ⟨_, rfl⟩
              have hPV1 : (b1 : Int) - 1 - ((p0 : Int) - (a1 : Int)) = (PV : Int) := by omega
              have hp1 : a1 ≤ PV := by omega
              have hp2 : PV < b1 := by omega
              clear hPV
              by_cases ha0 : 0 < a1
              · have hd : decide ((0 : Int) < (a1 : Int)) = true := by simpa using ha0
                have hln := HQ.out.len
                have hc1 := HQ.out.blk.cell (i := a1 - 1) (by omega)
                have hc2 := HQ.out.blk.cell (i := PV) (by omega)
                obtain ⟨x, hx⟩ : ∃ x, x = at0 zk (a1 - 1) := ⟨_, rfl⟩
                obtain ⟨y, hy⟩ : ∃ y, y = at0 zk PV := ⟨_, rfl⟩
                have HX := hide_it hx
                have HY := hide_it hy
                rw [← hx] at hc1
                rw [← hy] at hc2
                have hi1 : (PV : Int) < (n : Int) := by omega
                have hi2 : (a1 : Int) - 1 < (n : Int) := by omega
                have hi3 : (0 : Int) ≤ (a1 : Int) - 1 := by omega
                clear hx hy hln
                by_cases hxy : x < y
                · have hdx : decide (x < y) = true := by simpa using hxy
                  go_wp2
                  go_quiet ((go_at_call 65; exact Calls.quiet_of_same (less_lab _ _ _)))
                  clear hc1 hc2 HX HY hi1 hi2 hi3 hdx
                  go_wp2_with fail
                  refine (partition_lab g n cap a1 b1 PV zk rest _ (HQ.out.blk.drewN nq) HQ.out.len hp1 hp2 (by omega) (by omega)).mono ?_
                  rintro e w4 ⟨mid, al, z4, rfl, hm1, hm2, hpa, hmv⟩
                  have HQ4 := hide_it ((HQ.out.drewN nq).move hmv (by omega) (by omega) (by omega))
                  have HP := hide_it hpa
                  clear HQ hpa hmv
                  by_cases hlr : mid - a1 < b1 - mid
                  · have hlr1 : (mid : Int) - (a1 : Int) < (b1 : Int) - (mid : Int) := by omega
                    go_wp2_with fail
                    refine (IH.out (mid - a1) (by omega) a1 mid m1 z4 w4 HQ4.out.blk HQ4.out.len (by omega) (by omega) rfl (by omega) (HQ4.out.out.wallL (by omega) (by omega) (by omega))).mono ?_
                    rintro e w5 ⟨rfl, z5, hs5, hmv5⟩
                    have HQ5 := hide_it (HQ4.out.left HP.out hs5 hmv5 (by omega) (by omega) (by omega) (by omega) (by omega))
                    clear HQ4 HP hs5 hmv5
                    go_wp2
                    go_roundw
                    case rel => exact ⟨mid + 1, b1, m1, _, al, z5, by go_num, rfl, rfl, rfl, rfl, by omega, by omega, by omega, by omega, HQ5.out⟩
                    case measure => simp [intOf] <;> omega
                  · have hlr1 : (b1 : Int) - (mid : Int) ≤ (mid : Int) - (a1 : Int) := by omega
                    go_wp2_with fail
                    have hih := IH.out (b1 - (mid + 1)) (by omega) (mid + 1) b1 m1 z4 w4 HQ4.out.blk HQ4.out.len (by omega) (by omega) rfl (by omega) (HQ4.out.out.wallR HP.out (by omega) (by omega) (by omega))
                    rw [show ((mid + 1 : Nat) : Int) = (mid : Int) + 1 from rfl] at hih
                    refine hih.mono ?_
                    clear hih
                    rintro e w5 ⟨rfl, z5, hs5, hmv5⟩
                    have HQ5 := hide_it (HQ4.out.right HP.out hs5 hmv5 (by omega) (by omega) (by omega) (by omega) (by omega))
                    clear HQ4 HP hs5 hmv5
                    go_wp2
                    go_roundw
                    case rel => exact ⟨a1, mid, m1, _, al, z5, rfl, rfl, rfl, rfl, rfl, by omega, by omega, by omega, by omega, HQ5.out⟩
                    case measure => simp [intOf] <;> omega
                · have hdx : decide (x < y) = false := by simpa using hxy
                  go_wp2
                  go_quiet ((go_at_call 65; exact Calls.quiet_of_same (less_lab _ _ _)))
                  go_wp2_with fail
                  refine (partitionEqual_lab g n cap a1 b1 PV zk rest _ (HQ.out.blk.drewN nq) HQ.out.len hp1 hp2 (by omega) (by omega)).mono ?_
                  rintro e w4 ⟨mid, z4, rfl, hm1, hm2, hlo, hhi, hmv⟩
                  have HQ4 := hide_it ((HQ.out.drewN nq).equal hlo hhi hmv (by omega) (by omega) (by omega) ha0 (by rw [← HX.out, ← HY.out]; omega) hm2)
                  clear HQ hlo hhi hmv hc1 hc2
                  go_wp2
                  go_roundw
                  case rel => exact ⟨mid, b1, m1, _, _, z4, rfl, rfl, rfl, rfl, rfl, by omega, by omega, by omega, by omega, HQ4.out⟩
                  case measure => simp [intOf] <;> omega
              · have hd : decide ((0 : Int) < (a1 : Int)) = false := by simp; omega
                go_wp2
                go_quiet ((go_at_call 65; exact Calls.quiet_of_same (less_lab _ _ _)))
                go_wp2_with fail
                refine (partition_lab g n cap a1 b1 PV zk rest _ (HQ.out.blk.drewN nq) HQ.out.len hp1 hp2 (by omega) (by omega)).mono ?_
                rintro e w4 ⟨mid, al, z4, rfl, hm1, hm2, hpa, hmv⟩
                have HQ4 := hide_it ((HQ.out.drewN nq).move hmv (by omega) (by omega) (by omega))
                have HP := hide_it hpa
                clear HQ hpa hmv
                by_cases hlr : mid - a1 < b1 - mid
                · have hlr1 : (mid : Int) - (a1 : Int) < (b1 : Int) - (mid : Int) := by omega
                  go_wp2_with fail
                  refine (IH.out (mid - a1) (by omega) a1 mid m1 z4 w4 HQ4.out.blk HQ4.out.len (by omega) (by omega) rfl (by omega) (HQ4.out.out.wallL (by omega) (by omega) (by omega))).mono ?_
                  rintro e w5 ⟨rfl, z5, hs5, hmv5⟩
                  have HQ5 := hide_it (HQ4.out.left HP.out hs5 hmv5 (by omega) (by omega) (by omega) (by omega) (by omega))
                  clear HQ4 HP hs5 hmv5
                  go_wp2
                  go_roundw
                  case rel => exact ⟨mid + 1, b1, m1, _, al, z5, by go_num, rfl, rfl, rfl, rfl, by omega, by omega, by omega, by omega, HQ5.out⟩
                  case measure => simp [intOf] <;> omega
                · have hlr1 : (b1 : Int) - (mid : Int) ≤ (mid : Int) - (a1 : Int) := by omega
                  go_wp2_with fail
                  have hih := IH.out (b1 - (mid + 1)) (by omega) (mid + 1) b1 m1 z4 w4 HQ4.out.blk HQ4.out.len (by omega) (by omega) rfl (by omega) (HQ4.out.out.wallR HP.out (by omega) (by omega) (by omega))
                  rw [show ((mid + 1 : Nat) : Int) = (mid : Int) + 1 from rfl] at hih
                  refine hih.mono ?_
                  clear hih
                  rintro e w5 ⟨rfl, z5, hs5, hmv5⟩
                  have HQ5 := hide_it (HQ4.out.right HP.out hs5 hmv5 (by omega) (by omega) (by omega) (by omega) (by omega))
                  clear HQ4 HP hs5 hmv5
                  go_wp2
                  go_roundw
                  case rel => exact ⟨a1, mid, m1, _, al, z5, rfl, rfl, rfl, rfl, rfl, by omega, by omega, by omega, by omega, HQ5.out⟩
                  case measure => simp [intOf] <;> omega
          · refine (choosePivot_lab g n cap a1 b1 zk rest _ HQ.out.blk HQ.out.len (by omega) (by omega) (by omega)).mono ?_
            rintro e w3 ⟨p0, t, rfl, hp01, hp02, ht, hbel⟩
            have HQ3 := hide_it (HQ.out.below hbel)
            clear HQ hbel
            have HQ := HQ3
            clear HQ3
            rcases ht with rfl | rfl | rfl
            · as_aux_lemma =>
              have hp1 := hp01
              have hp2 := hp02
              by_cases ha0 : 0 < a1
              · have hd : decide ((0 : Int) < (a1 : Int)) = true := by simpa using ha0
                have hln := HQ.out.len
                have hc1 := HQ.out.blk.cell (i := a1 - 1) (by omega)
                have hc2 := HQ.out.blk.cell (i := p0) (by omega)
                obtain ⟨x, hx⟩ : ∃ x, x = at0 zk (a1 - 1) := ⟨_, rfl⟩
                obtain ⟨y, hy⟩ : ∃ y, y = at0 zk p0 := ⟨_, rfl⟩
                have HX := hide_it hx
                have HY := hide_it hy
                rw [← hx] at hc1
                rw [← hy] at hc2
                have hi1 : (p0 : Int) < (n : Int) := by omega
                have hi2 : (a1 : Int) - 1 < (n : Int) := by omega
                have hi3 : (0 : Int) ≤ (a1 : Int) - 1 := by omega
                clear hx hy hln
                by_cases hxy : x < y
                · have hdx : decide (x < y) = true := by simpa using hxy
                  go_wp2
                  go_quiet ((go_at_call 65; exact Calls.quiet_of_same (less_lab _ _ _)))
                  clear hc1 hc2 HX HY hi1 hi2 hi3 hdx
                  go_wp2_with fail
                  refine (partition_lab g n cap a1 b1 p0 zk rest _ (HQ.out.blk.drewN nq) HQ.out.len hp1 hp2 (by omega) (by omega)).mono ?_
                  rintro e w4 ⟨mid, al, z4, rfl, hm1, hm2, hpa, hmv⟩
                  have HQ4 := hide_it ((HQ.out.drewN nq).move hmv (by omega) (by omega) (by omega))
                  have HP := hide_it hpa
                  clear HQ hpa hmv
                  by_cases hlr : mid - a1 < b1 - mid
                  · have hlr1 : (mid : Int) - (a1 : Int) < (b1 : Int) - (mid : Int) := by omega
                    go_wp2_with fail
                    refine (IH.out (mid - a1) (by omega) a1 mid m1 z4 w4 HQ4.out.blk HQ4.out.len (by omega) (by omega) rfl (by omega) (HQ4.out.out.wallL (by omega) (by omega) (by omega))).mono ?_
                    rintro e w5 ⟨rfl, z5, hs5, hmv5⟩
                    have HQ5 := hide_it (HQ4.out.left HP.out hs5 hmv5 (by omega) (by omega) (by omega) (by omega) (by omega))
                    clear HQ4 HP hs5 hmv5
                    go_wp2
                    go_roundw
                    case rel => exact ⟨mid + 1, b1, m1, _, al, z5, by go_num, rfl, rfl, rfl, rfl, by omega, by omega, by omega, by omega, HQ5.out⟩
                    case measure => simp [intOf] <;> omega
                  · have hlr1 : (b1 : Int) - (mid : Int) ≤ (mid : Int) - (a1 : Int) := by omega
                    go_wp2_with fail
                    have hih := IH.out (b1 - (mid + 1)) (by omega) (mid + 1) b1 m1 z4 w4 HQ4.out.blk HQ4.out.len (by omega) (by omega) rfl (by omega) (HQ4.out.out.wallR HP.out (by omega) (by omega) (by omega))
                    rw [show ((mid + 1 : Nat) : Int) = (mid : Int) + 1 from rfl] at hih
                    refine hih.mono ?_
                    clear hih
                    rintro e w5 ⟨rfl, z5, hs5, hmv5⟩
                    have HQ5 := hide_it (HQ4.out.right HP.out hs5 hmv5 (by omega) (by omega) (by omega) (by omega) (by omega))
                    clear HQ4 HP hs5 hmv5
                    go_wp2
                    go_roundw
                    case rel => exact ⟨a1, mid, m1, _, al, z5, rfl, rfl, rfl, rfl, rfl, by omega, by omega, by omega, by omega, HQ5.out⟩
                    case measure => simp [intOf] <;> omega
                · have hdx : decide (x < y) = false := by simpa using hxy
                  go_wp2
                  go_quiet ((go_at_call 65; exact Calls.quiet_of_same (less_lab _ _ _)))
                  go_wp2_with fail
                  refine (partitionEqual_lab g n cap a1 b1 p0 zk rest _ (HQ.out.blk.drewN nq) HQ.out.len hp1 hp2 (by omega) (by omega)).mono ?_
                  rintro e w4 ⟨mid, z4, rfl, hm1, hm2, hlo, hhi, hmv⟩
                  have HQ4 := hide_it ((HQ.out.drewN nq).equal hlo hhi hmv (by omega) (by omega) (by omega) ha0 (by rw [← HX.out, ← HY.out]; omega) hm2)
                  clear HQ hlo hhi hmv hc1 hc2
                  go_wp2
                  go_roundw
                  case rel => exact ⟨mid, b1, m1, _, _, z4, rfl, rfl, rfl, rfl, rfl, by omega, by omega, by omega, by omega, HQ4.out⟩
                  case measure => simp [intOf] <;> omega
              · have hd : decide ((0 : Int) < (a1 : Int)) = false := by simp; omega
                go_wp2
                go_quiet ((go_at_call 65; exact Calls.quiet_of_same (less_lab _ _ _)))
                go_wp2_with fail
                refine (partition_lab g n cap a1 b1 p0 zk rest _ (HQ.out.blk.drewN nq) HQ.out.len hp1 hp2 (by omega) (by omega)).mono ?_
                rintro e w4 ⟨mid, al, z4, rfl, hm1, hm2, hpa, hmv⟩
                have HQ4 := hide_it ((HQ.out.drewN nq).move hmv (by omega) (by omega) (by omega))
                have HP := hide_it hpa
                clear HQ hpa hmv
                by_cases hlr : mid - a1 < b1 - mid
                · have hlr1 : (mid : Int) - (a1 : Int) < (b1 : Int) - (mid : Int) := by omega
                  go_wp2_with fail
                  refine (IH.out (mid - a1) (by omega) a1 mid m1 z4 w4 HQ4.out.blk HQ4.out.len (by omega) (by omega) rfl (by omega) (HQ4.out.out.wallL (by omega) (by omega) (by omega))).mono ?_
                  rintro e w5 ⟨rfl, z5, hs5, hmv5⟩
                  have HQ5 := hide_it (HQ4.out.left HP.out hs5 hmv5 (by omega) (by omega) (by omega) (by omega) (by omega))
                  clear HQ4 HP hs5 hmv5
                  go_wp2
                  go_roundw
                  case rel => exact ⟨mid + 1, b1, m1, _, al, z5, by go_num, rfl, rfl, rfl, rfl, by omega, by omega, by omega, by omega, HQ5.out⟩
                  case measure => simp [intOf] <;> omega
                · have hlr1 : (b1 : Int) - (mid : Int) ≤ (mid : Int) - (a1 : Int) := by omega
                  go_wp2_with fail
                  have hih := IH.out (b1 - (mid + 1)) (by omega) (mid + 1) b1 m1 z4 w4 HQ4.out.blk HQ4.out.len (by omega) (by omega) rfl (by omega) (HQ4.out.out.wallR HP.out (by omega) (by omega) (by omega))
                  rw [show ((mid + 1 : Nat) : Int) = (mid : Int) + 1 from rfl] at hih
                  refine hih.mono ?_
                  clear hih
                  rintro e w5 ⟨rfl, z5, hs5, hmv5⟩
                  have HQ5 := hide_it (HQ4.out.right HP.out hs5 hmv5 (by omega) (by omega) (by omega) (by omega) (by omega))
                  clear HQ4 HP hs5 hmv5
                  go_wp2
                  go_roundw
                  case rel => exact ⟨a1, mid, m1, _, al, z5, rfl, rfl, rfl, rfl, rfl, by omega, by omega, by omega, by omega, HQ5.out⟩
                  case measure => simp [intOf] <;> omega
            · as_aux_lemma =>
              have hp1 := hp01
              have hp2 := hp02
              go_wp2_with fail
              refine (partialSort_lab g n cap a1 b1 zk rest _ HQ.out.blk HQ.out.len (by omega) (by omega) (by omega) (HQ.out.out.wall (by omega) (by omega))).mono ?_
              rintro e w8 ⟨r8, z8, rfl, hr8, hmv⟩
              have HQ8 := hide_it (HQ.out.move hmv (by omega) (by omega) (by omega))
              clear HQ hmv
              rcases r8 with _ | _
              · clear hr8
                have HQ := HQ8
                clear HQ8
                clear zk
                revert z8
                intro zk HQ
                by_cases ha0 : 0 < a1
                · have hd : decide ((0 : Int) < (a1 : Int)) = true := by simpa using ha0
                  have hln := HQ.out.len
                  have hc1 := HQ.out.blk.cell (i := a1 - 1) (by omega)
                  have hc2 := HQ.out.blk.cell (i := p0) (by omega)
                  obtain ⟨x, hx⟩ : ∃ x, x = at0 zk (a1 - 1) := ⟨_, rfl⟩
                  obtain ⟨y, hy⟩ : ∃ y, y = at0 zk p0 := ⟨_, rfl⟩
                  have HX := hide_it hx
                  have HY := hide_it hy
                  rw [← hx] at hc1
                  rw [← hy] at hc2
                  have hi1 : (p0 : Int) < (n : Int) := by omega
                  have hi2 : (a1 : Int) - 1 < (n : Int) := by omega
                  have hi3 : (0 : Int) ≤ (a1 : Int) - 1 := by omega
                  clear hx hy hln
                  by_cases hxy : x < y
                  · have hdx : decide (x < y) = true := by simpa using hxy
                    go_wp2
                    go_quiet ((go_at_call 65; exact Calls.quiet_of_same (less_lab _ _ _)))
                    clear hc1 hc2 HX HY hi1 hi2 hi3 hdx
                    go_wp2_with fail
                    refine (partition_lab g n cap a1 b1 p0 zk rest _ (HQ.out.blk.drewN nq) HQ.out.len hp1 hp2 (by omega) (by omega)).mono ?_
                    rintro e w4 ⟨mid, al, z4, rfl, hm1, hm2, hpa, hmv⟩
                    have HQ4 := hide_it ((HQ.out.drewN nq).move hmv (by omega) (by omega) (by omega))
                    have HP := hide_it hpa
                    clear HQ hpa hmv
                    by_cases hlr : mid - a1 < b1 - mid
                    · have hlr1 : (mid : Int) - (a1 : Int) < (b1 : Int) - (mid : Int) := by omega
                      go_wp2_with fail
                      refine (IH.out (mid - a1) (by omega) a1 mid m1 z4 w4 HQ4.out.blk HQ4.out.len (by omega) (by omega) rfl (by omega) (HQ4.out.out.wallL (by omega) (by omega) (by omega))).mono ?_
                      rintro e w5 ⟨rfl, z5, hs5, hmv5⟩
                      have HQ5 := hide_it (HQ4.out.left HP.out hs5 hmv5 (by omega) (by omega) (by omega) (by omega) (by omega))
                      clear HQ4 HP hs5 hmv5
                      go_wp2
                      go_roundw
                      case rel => exact ⟨mid + 1, b1, m1, _, al, z5, by go_num, rfl, rfl, rfl, rfl, by omega, by omega, by omega, by omega, HQ5.out⟩
                      case measure => simp [intOf] <;> omega
                    · have hlr1 : (b1 : Int) - (mid : Int) ≤ (mid : Int) - (a1 : Int) := by omega
                      go_wp2_with fail
                      have hih := IH.out (b1 - (mid + 1)) (by omega) (mid + 1) b1 m1 z4 w4 HQ4.out.blk HQ4.out.len (by omega) (by omega) rfl (by omega) (HQ4.out.out.wallR HP.out (by omega) (by omega) (by omega))
                      rw [show ((mid + 1 : Nat) : Int) = (mid : Int) + 1 from rfl] at hih
                      refine hih.mono ?_
                      clear hih
                      rintro e w5 ⟨rfl, z5, hs5, hmv5⟩
                      have HQ5 := hide_it (HQ4.out.right HP.out hs5 hmv5 (by omega) (by omega) (by omega) (by omega) (by omega))
                      clear HQ4 HP hs5 hmv5
                      go_wp2
                      go_roundw
                      case rel => exact ⟨a1, mid, m1, _, al, z5, rfl, rfl, rfl, rfl, rfl, by omega, by omega, by omega, by omega, HQ5.out⟩
                      case measure => simp [intOf] <;> omega
                  · have hdx : decide (x < y) = false := by simpa using hxy
                    go_wp2
                    go_quiet ((go_at_call 65; exact Calls.quiet_of_same (less_lab _ _ _)))
                    go_wp2_with fail
                    refine (partitionEqual_lab g n cap a1 b1 p0 zk rest _ (HQ.out.blk.drewN nq) HQ.out.len hp1 hp2 (by omega) (by omega)).mono ?_
                    rintro e w4 ⟨mid, z4, rfl, hm1, hm2, hlo, hhi, hmv⟩
                    have HQ4 := hide_it ((HQ.out.drewN nq).equal hlo hhi hmv (by omega) (by omega) (by omega) ha0 (by rw [← HX.out, ← HY.out]; omega) hm2)
                    clear HQ hlo hhi hmv hc1 hc2
                    go_wp2
                    go_roundw
                    case rel => exact ⟨mid, b1, m1, _, _, z4, rfl, rfl, rfl, rfl, rfl, by omega, by omega, by omega, by omega, HQ4.out⟩
                    case measure => simp [intOf] <;> omega
                · have hd : decide ((0 : Int) < (a1 : Int)) = false := by simp; omega
                  go_wp2
                  go_quiet ((go_at_call 65; exact Calls.quiet_of_same (less_lab _ _ _)))
                  go_wp2_with fail
                  refine (partition_lab g n cap a1 b1 p0 zk rest _ (HQ.out.blk.drewN nq) HQ.out.len hp1 hp2 (by omega) (by omega)).mono ?_
                  rintro e w4 ⟨mid, al, z4, rfl, hm1, hm2, hpa, hmv⟩
                  have HQ4 := hide_it ((HQ.out.drewN nq).move hmv (by omega) (by omega) (by omega))
                  have HP := hide_it hpa
                  clear HQ hpa hmv
                  by_cases hlr : mid - a1 < b1 - mid
                  · have hlr1 : (mid : Int) - (a1 : Int) < (b1 : Int) - (mid : Int) := by omega
                    go_wp2_with fail
                    refine (IH.out (mid - a1) (by omega) a1 mid m1 z4 w4 HQ4.out.blk HQ4.out.len (by omega) (by omega) rfl (by omega) (HQ4.out.out.wallL (by omega) (by omega) (by omega))).mono ?_
                    rintro e w5 ⟨rfl, z5, hs5, hmv5⟩
                    have HQ5 := hide_it (HQ4.out.left HP.out hs5 hmv5 (by omega) (by omega) (by omega) (by omega) (by omega))
                    clear HQ4 HP hs5 hmv5
                    go_wp2
                    go_roundw
                    case rel => exact ⟨mid + 1, b1, m1, _, al, z5, by go_num, rfl, rfl, rfl, rfl, by omega, by omega, by omega, by omega, HQ5.out⟩
                    case measure => simp [intOf] <;> omega
                  · have hlr1 : (b1 : Int) - (mid : Int) ≤ (mid : Int) - (a1 : Int) := by omega
                    go_wp2_with fail
                    have hih := IH.out (b1 - (mid + 1)) (by omega) (mid + 1) b1 m1 z4 w4 HQ4.out.blk HQ4.out.len (by omega) (by omega) rfl (by omega) (HQ4.out.out.wallR HP.out (by omega) (by omega) (by omega))
                    rw [show ((mid + 1 : Nat) : Int) = (mid : Int) + 1 from rfl] at hih
                    refine hih.mono ?_
                    clear hih
                    rintro e w5 ⟨rfl, z5, hs5, hmv5⟩
                    have HQ5 := hide_it (HQ4.out.right HP.out hs5 hmv5 (by omega) (by omega) (by omega) (by omega) (by omega))
                    clear HQ4 HP hs5 hmv5
                    go_wp2
                    go_roundw
                    case rel => exact ⟨a1, mid, m1, _, al, z5, rfl, rfl, rfl, rfl, rfl, by omega, by omega, by omega, by omega, HQ5.out⟩
                    case measure => simp [intOf] <;> omega
              · have HS8 := hide_it (hr8 rfl)
                clear hr8
                go_wp2_with fail
                exact bodyPost_ret (results_none rfl _ _ _) rfl ⟨rfl, z8, HQ8.out.out.done HS8.out, HQ8.out.len, HQ8.out.wit, HQ8.out.blk, HQ8.out.gr⟩
            · as_aux_lemma =>
              go_wp2_with fail
              refine (reverse_lab g n cap a1 b1 zk rest _ HQ.out.blk HQ.out.len (by omega) (by omega) (by omega)).mono ?_
              rintro e w7 ⟨rfl, z7, hmv⟩
              have HQ7 := hide_it (HQ.out.move hmv (by omega) (by omega) (by omega))
              clear HQ hmv
              have HQ := HQ7
              clear HQ7
              clear zk
              revert z7
              intro zk HQ
              obtain ⟨PV, hPV⟩ : ∃ PV, PV = b1 - 1 - (p0 - a1) := ⟨_, rfl⟩
              have hPV1 : (b1 : Int) - 1 - ((p0 : Int) - (a1 : Int)) = (PV : Int) := by omega
              have hp1 : a1 ≤ PV := by omega
              have hp2 : PV < b1 := by omega
              clear hPV
              go_wp2_with fail
              refine (partialSort_lab g n cap a1 b1 zk rest _ HQ.out.blk HQ.out.len (by omega) (by omega) (by omega) (HQ.out.out.wall (by omega) (by omega))).mono ?_
              rintro e w8 ⟨r8, z8, rfl, hr8, hmv⟩
              have HQ8 := hide_it (HQ.out.move hmv (by omega) (by omega) (by omega))
              clear HQ hmv
              rcases r8 with _ | _
              · clear hr8
                have HQ := HQ8
                clear HQ8
                clear zk
                revert z8
                intro zk HQ
                by_cases ha0 : 0 < a1
                · have hd : decide ((0 : Int) < (a1 : Int)) = true := by simpa using ha0
                  have hln := HQ.out.len
                  have hc1 := HQ.out.blk.cell (i := a1 - 1) (by omega)
                  have hc2 := HQ.out.blk.cell (i := PV) (by omega)
                  obtain ⟨x, hx⟩ : ∃ x, x = at0 zk (a1 - 1) := ⟨_, rfl⟩
                  obtain ⟨y, hy⟩ : ∃ y, y = at0 zk PV := ⟨_, rfl⟩
                  have HX := hide_it hx
                  have HY := hide_it hy
                  rw [← hx] at hc1
                  rw [← hy] at hc2
                  have hi1 : (PV : Int) < (n : Int) := by omega
                  have hi2 : (a1 : Int) - 1 < (n : Int) := by omega
                  have hi3 : (0 : Int) ≤ (a1 : Int) - 1 := by omega
                  clear hx hy hln
                  by_cases hxy : x < y
                  · have hdx : decide (x < y) = true := by simpa using hxy
                    go_wp2
                    go_quiet ((go_at_call 65; exact Calls.quiet_of_same (less_lab _ _ _)))
                    clear hc1 hc2 HX HY hi1 hi2 hi3 hdx
                    go_wp2_with fail
                    refine (partition_lab g n cap a1 b1 PV zk rest _ (HQ.out.blk.drewN nq) HQ.out.len hp1 hp2 (by omega) (by omega)).mono ?_
                    rintro e w4 ⟨mid, al, z4, rfl, hm1, hm2, hpa, hmv⟩
                    have HQ4 := hide_it ((HQ.out.drewN nq).move hmv (by omega) (by omega) (by omega))
                    have HP := hide_it hpa
                    clear HQ hpa hmv
                    by_cases hlr : mid - a1 < b1 - mid
                    · have hlr1 : (mid : Int) - (a1 : Int) < (b1 : Int) - (mid : Int) := by omega
                      go_wp2_with fail
                      refine (IH.out (mid - a1) (by omega) a1 mid m1 z4 w4 HQ4.out.blk HQ4.out.len (by omega) (by omega) rfl (by omega) (HQ4.out.out.wallL (by omega) (by omega) (by omega))).mono ?_
                      rintro e w5 ⟨rfl, z5, hs5, hmv5⟩
                      have HQ5 := hide_it (HQ4.out.left HP.out hs5 hmv5 (by omega) (by omega) (by omega) (by omega) (by omega))
                      clear HQ4 HP hs5 hmv5
                      go_wp2
                      go_roundw
                      case rel => exact ⟨mid + 1, b1, m1, _, al, z5, by go_num, rfl, rfl, rfl, rfl, by omega, by omega, by omega, by omega, HQ5.out⟩
                      case measure => simp [intOf] <;> omega
                    · have hlr1 : (b1 : Int) - (mid : Int) ≤ (mid : Int) - (a1 : Int) := by omega
                      go_wp2_with fail
                      have hih := IH.out (b1 - (mid + 1)) (by omega) (mid + 1) b1 m1 z4 w4 HQ4.out.blk HQ4.out.len (by omega) (by omega) rfl (by omega) (HQ4.out.out.wallR HP.out (by omega) (by omega) (by omega))
                      rw [show ((mid + 1 : Nat) : Int) = (mid : Int) + 1 from rfl] at hih
                      refine hih.mono ?_
                      clear hih
                      rintro e w5 ⟨rfl, z5, hs5, hmv5⟩
                      have HQ5 := hide_it (HQ4.out.right HP.out hs5 hmv5 (by omega) (by omega) (by omega) (by omega) (by omega))
                      clear HQ4 HP hs5 hmv5
                      go_wp2
                      go_roundw
                      case rel => exact ⟨a1, mid, m1, _, al, z5, rfl, rfl, rfl, rfl, rfl, by omega, by omega, by omega, by omega, HQ5.out⟩
                      case measure => simp [intOf] <;> omega
                  · have hdx : decide (x < y) = false := by simpa using hxy
                    go_wp2
                    go_quiet ((go_at_call 65; exact Calls.quiet_of_same (less_lab _ _ _)))
                    go_wp2_with fail
                    refine (partitionEqual_lab g n cap a1 b1 PV zk rest _ (HQ.out.blk.drewN nq) HQ.out.len hp1 hp2 (by omega) (by omega)).mono ?_
                    rintro e w4 ⟨mid, z4, rfl, hm1, hm2, hlo, hhi, hmv⟩
                    have HQ4 := hide_it ((HQ.out.drewN nq).equal hlo hhi hmv (by omega) (by omega) (by omega) ha0 (by rw [← HX.out, ← HY.out]; omega) hm2)
                    clear HQ hlo hhi hmv hc1 hc2
                    go_wp2
                    go_roundw
                    case rel => exact ⟨mid, b1, m1, _, _, z4, rfl, rfl, rfl, rfl, rfl, by omega, by omega, by omega, by omega, HQ4.out⟩
                    case measure => simp [intOf] <;> omega
                · have hd : decide ((0 : Int) < (a1 : Int)) = false := by simp; omega
                  go_wp2
                  go_quiet ((go_at_call 65; exact Calls.quiet_of_same (less_lab _ _ _)))
                  go_wp2_with fail
                  refine (partition_lab g n cap a1 b1 PV zk rest _ (HQ.out.blk.drewN nq) HQ.out.len hp1 hp2 (by omega) (by omega)).mono ?_
                  rintro e w4 ⟨mid, al, z4, rfl, hm1, hm2, hpa, hmv⟩
                  have HQ4 := hide_it ((HQ.out.drewN nq).move hmv (by omega) (by omega) (by omega))
                  have HP := hide_it hpa
                  clear HQ hpa hmv
                  by_cases hlr : mid - a1 < b1 - mid
                  · have hlr1 : (mid : Int) - (a1 : Int) < (b1 : Int) - (mid : Int) := by omega
                    go_wp2_with fail
                    refine (IH.out (mid - a1) (by omega) a1 mid m1 z4 w4 HQ4.out.blk HQ4.out.len (by omega) (by omega) rfl (by omega) (HQ4.out.out.wallL (by omega) (by omega) (by omega))).mono ?_
                    rintro e w5 ⟨rfl, z5, hs5, hmv5⟩
                    have HQ5 := hide_it (HQ4.out.left HP.out hs5 hmv5 (by omega) (by omega) (by omega) (by omega) (by omega))
                    clear HQ4 HP hs5 hmv5
                    go_wp2
                    go_roundw
                    case rel => exact ⟨mid + 1, b1, m1, _, al, z5, by go_num, rfl, rfl, rfl, rfl, by omega, by omega, by omega, by omega, HQ5.out⟩
                    case measure => simp [intOf] <;> omega
                  · have hlr1 : (b1 : Int) - (mid : Int) ≤ (mid : Int) - (a1 : Int) := by omega
                    go_wp2_with fail
                    have hih := IH.out (b1 - (mid + 1)) (by omega) (mid + 1) b1 m1 z4 w4 HQ4.out.blk HQ4.out.len (by omega) (by omega) rfl (by omega) (HQ4.out.out.wallR HP.out (by omega) (by omega) (by omega))
                    rw [show ((mid + 1 : Nat) : Int) = (mid : Int) + 1 from rfl] at hih
                    refine hih.mono ?_
                    clear hih
                    rintro e w5 ⟨rfl, z5, hs5, hmv5⟩
                    have HQ5 := hide_it (HQ4.out.right HP.out hs5 hmv5 (by omega) (by omega) (by omega) (by omega) (by omega))
                    clear HQ4 HP hs5 hmv5
                    go_wp2
                    go_roundw
                    case rel => exact ⟨a1, mid, m1, _, al, z5, rfl, rfl, rfl, rfl, rfl, by omega, by omega, by omega, by omega, HQ5.out⟩
                    case measure => simp [intOf] <;> omega
              · have HS8 := hide_it (hr8 rfl)
                clear hr8
                go_wp2_with fail
                exact bodyPost_ret (results_none rfl _ _ _) rfl ⟨rfl, z8, HQ8.out.out.done HS8.out, HQ8.out.len, HQ8.out.wit, HQ8.out.blk, HQ8.out.gr⟩

end Go.Proofs.Ythclmkmajlinhab
