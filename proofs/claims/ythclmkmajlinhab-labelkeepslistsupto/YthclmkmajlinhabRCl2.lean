/- The document's Rising and Close, walked. -/
import Derived.Test.YthclmkmajlinhabRCl1
namespace Go.Proofs.Ythclmkmajlinhab
open Go.RowKit

theorem OwnU.blk {w : World} {base : Nat} {v : Value} {zs : List Nat} (h : OwnU w base v zs) (h0 : 0 < zs.length) :
    ∃ g cap rest, v = .slice (some ⟨g, 0, none⟩) zs.length cap ∧ Blk .u64 35 w g zs rest ∧ rest.length = cap - zs.length ∧ zs.length ≤ cap ∧ cap ≤ maxLen ∧ base ≤ g := by
  rcases h.2 with ⟨_, h1⟩ | ⟨g, cap, cur, hv, hb, hh, hn, hcap, hsz, htake⟩
  · omega
  · refine ⟨g, cap, cur.toList.drop zs.length, hv, ?_, by simp; omega, hn, hcap, hb⟩
    unfold Blk
    rw [hh]
    have e : zs.map (encK .u64) = zs.map encU := rfl
    have e2 : cur.toList.take zs.length = zs.map encU := by rw [Nat.mul_one] at htake; exact htake
    rw [e, ← e2, List.take_append_drop]
theorem OwnU.of_blk {w : World} {base g cap : Nat} {zs : List Nat} {rest : List Value} (h : Blk .u64 35 w g zs rest) (hr : rest.length = cap - zs.length) (hc : zs.length ≤ cap) (hm : cap ≤ maxLen) (hb : base ≤ g) : OwnU w base (.slice (some ⟨g, 0, none⟩) zs.length cap) zs := by
  refine ⟨by simp, .inr ⟨g, cap, _, rfl, hb, h, hc, hm, by simp [hr]; omega, ?_⟩⟩
  rw [Nat.mul_one]
  have e : zs.length = (zs.map (encK .u64)).length := by simp
  rw [e]
  exact List.take_left

theorem wpList_append_rowU (w : World) {ops : Array Oper} {rest : List Oper} {o : Oper} {act : Act} {Q : Exit → Act → World → Prop} (hgd : o.guard = none) (s x : Operand)
    (ho : o.op = .call { callee := .builtin .append, args := #[s, x], argTypes := #[23, 23] })
    (base : Nat) (v : Value) (xs : List Nat) (hs : act.eval s = v) (hown : OwnU w base v xs) (ad : Addr) (cap : Nat) (zs : List Nat) (hx : act.eval x = .slice (some ad) zs.length cap) (hr : Row w (some ad) zs)
    (hl : (xs.length + zs.length) * 8 ≤ 140737488355328) (hbase : base ≤ w.heap.size)
    (h : ∀ v' w', OwnU w' base v' (xs ++ zs) → w.grownBy w' v.ownBlock → wpList Try.prog ops Q rest (act.put o.dst v') w') :
    wpList Try.prog ops Q (o :: rest) act w := by
  obtain ⟨i0, hi, hz0, hz1, hz2⟩ := info_parts info23
  have hnews : ∀ j u, (zs.map encU)[j]? = some u → w.cell? (ad.add j) = some u := fun j u hu => by
    have hj : j < zs.length := by have := (List.getElem?_eq_some_iff.1 hu).1; simpa using this
    obtain ⟨b, o, e, hlt, hc⟩ := hr.here hj
    cases e
    rw [Addr.add_lit, hc j hj]
    have := map_at0 (q := .u64) hj []
    rw [List.append_nil] at this
    exact this.symm.trans hu
  have hone : ∀ u ∈ zs.map encU, u.oneCell' = true := fun u hu => by
    obtain ⟨z, _, rfl⟩ := List.mem_map.1 hu
    rfl
  refine wpList_append_own_at _ hgd s x 23 ho base 35 i0 (.int .u64 0) 1 8 Try.underlying23 hi hz0 hz1 hz2 rfl (by omega) v xs.length (xs.map encU) hs hown ad zs.length cap (zs.map encU) hx (by simp) hnews hone (by unfold maxLen; omega) (by omega) hbase ?_
  intro v4 w4 hown4 hgrow4 hnil4 hat4
  exact h v4 w4 (by unfold OwnU; simpa using hown4) hgrow4

set_option maxRecDepth 100000 in
set_option maxHeartbeats 1000000 in
theorem rising_any (ad : Addr) (cap : Nat) (zs : List Nat) (w : World) (hr : Row w (some ad) zs) (h0 : 0 < zs.length) (hl : zs.length ≤ 1000) :
    Calls Try.prog 20 #[.slice (some ad) zs.length cap] w fun e w' => (∃ v C, e = .returned v ∧ C.Perm zs ∧ sortedR C 0 C.length ∧ OwnU w' w.heap.size v C) ∧ Below w.heap.size w w' := by
  go_enter Try.func20, Try.ntmps20
  go_wp2_with (at_builtin; refine wpList_append_rowU _ rfl _ _ rfl w.heap.size _ [] rfl (OwnU.nil _ _) ad cap zs rfl hr (by simp; omega) (Nat.le_refl _) ?_; intro v1 w1 hown1 hg1)
  rw [List.nil_append] at hown1
  obtain ⟨g, cp, rest, hv, hB, hrl, hcp, hmx, hbg⟩ := hown1.blk h0
  subst hv
  have hb1 : Below w.heap.size w w1 := (Below.refl _ _).grown hg1 (Nat.le_refl _) (fun j e => by cases e)
  obtain ⟨n, hn⟩ : ∃ n, n = zs.length := ⟨_, rfl⟩
  have HN := (show Hid (n = zs.length) from hn)
  rw [← hn] at hl hcp hrl h0 ⊢
  clear hn hown1 hg1 hr
  go_loopw [4] (fun i wr => ∃ (k : Nat) (zk : List Nat), i = .int .i64 k ∧ 0 < k ∧ k ≤ n + 1 ∧ (Hid (zk.length = n) ∧ within 0 n zs zk ∧ sortedR zk 0 k) ∧ Blk .u64 35 wr g zk rest ∧ w1.grownBy wr (some g)) (fun i _ => n + 1 - (intOf i).toNat)
  case atStart => exact ⟨1, zs, rfl, by omega, by omega, ⟨HN.out.symm, within.refl _ _ _, fun p q h1 h2 h3 => by omega⟩, hB, World.grownBy.refl _ _⟩
  case round =>
    obtain ⟨k, zk, rfl, hak, hkb, ⟨hlen, hwi, hso⟩, hblk, hgr⟩ := hrel
    by_cases hlt : k < n
    · go_wp2_with fail
      go_loopw [5] (fun i wr2 => ∃ (j : Nat) (zj : List Nat), i = .int .i64 j ∧ j ≤ k ∧ (Hid (zj.length = n) ∧ within 0 n zs zj ∧ nearly zj 0 k j) ∧ Blk .u64 35 wr2 g zj rest ∧ w1.grownBy wr2 (some g)) (fun i _ => (intOf i).toNat)
      case atStart => exact ⟨k, zk, rfl, by omega, ⟨hlen, hwi, nearly_start hso⟩, hblk, hgr⟩
      case round =>
        clear hblk hgr hlen hwi hso
        obtain ⟨j, zj, rfl, hjk, ⟨hlen, hwi, hne⟩, hblk, hgr⟩ := hrel
        have HW : Hid (within 0 n zs zj ∧ nearly zj 0 k j) := ⟨hwi, hne⟩
        clear hwi hne
        by_cases hja : 0 < j
        · have hl1 := hlen.out
          have hc1 := hblk.cell (i := j) (by omega)
          have hc2 := hblk.cell (i := j - 1) (by omega)
          have hf1 := hblk.frozen j
          have hf2 := hblk.frozen (j - 1)
          clear hl1
          obtain ⟨x, hx⟩ : ∃ x, x = at0 zj j := ⟨_, rfl⟩
          obtain ⟨y, hy⟩ : ∃ y, y = at0 zj (j - 1) := ⟨_, rfl⟩
          have HX : Hid (x = at0 zj j) := hx
          have HY : Hid (y = at0 zj (j - 1)) := hy
          rw [← hx] at hc1
          rw [← hy] at hc2
          clear hx hy
          have hi1 : (j : Int) < (n : Int) := by omega
          have hi2 : (j : Int) - 1 < (n : Int) := by omega
          have hi3 : (0 : Int) ≤ (j : Int) - 1 := by omega
          have hd : decide ((0 : Int) < (j : Int)) = true := by simpa using hja
          by_cases hxy : x < y
          · have hdx : decide (x < y) = true := by simpa using hxy
            have hdi : decide ((x : Int) < (y : Int)) = true := by simpa using hxy
            go_wp2_with fail
            go_quiet (fail)
            go_wp2_with fail
            go_region
            all_goals go_wp2_with fail
            go_roundw
            case rel =>
              have h1 := hlen.out
              obtain ⟨hwi, hne⟩ := HW.out
              have hb2 := (((hblk.drewN (nq + 1)).set (i := j) (by omega) y).set (i := j - 1) (by simp; omega) x)
              rw [HY.out, HX.out] at hb2
              have hb3 : Blk .u64 35 (((wr.drewN (nq + 1)).setCell ⟨g, j, none⟩ (.int .u64 ((at0 zj (j - 1) : Nat) : Int))).setCell ⟨g, j - 1, none⟩ (.int .u64 ((at0 zj j : Nat) : Int))) g (swapL zj j (j - 1)) rest := hb2
              rw [HY.out, HX.out]
              exact ⟨j - 1, swapL zj j (j - 1), by congr 1; omega, by omega,
                ⟨(swapL_length _ _).trans h1, hwi.trans (within.swap (by omega) (by omega) (by omega) (by omega) (by omega)), nearly_step hne hja hjk (by omega) (by have := HX.out; have := HY.out; omega)⟩,
                hb3, grown_set (grown_set (grown_drewN hgr _) _ _) _ _⟩
            case measure => simp [intOf]; omega
          · have hdx : decide (x < y) = false := by simpa using hxy
            have hdi : decide ((x : Int) < (y : Int)) = false := by simpa using hxy
            go_wp2_with fail
            go_quiet (fail)
            go_wp2_with fail
            go_roundw
            case rel =>
              obtain ⟨hwi, hne⟩ := HW.out
              exact ⟨k + 1, zj, by go_num, by omega, by omega, ⟨hlen, hwi, nearly_stop hne (.inr (by have := HX.out; have := HY.out; omega))⟩, hblk.drewN _, grown_drewN hgr _⟩
            case measure => simp [intOf]; omega
        · have hd : decide ((0 : Int) < (j : Int)) = false := by simp; omega
          go_wp2_with fail
          go_quiet (fail)
          go_wp2_with fail
          go_roundw
          case rel =>
            obtain ⟨hwi, hne⟩ := HW.out
            exact ⟨k + 1, zj, by go_num, by omega, by omega, ⟨hlen, hwi, nearly_stop hne (.inl (by omega))⟩, hblk.drewN _, grown_drewN hgr _⟩
          case measure => simp [intOf]; omega
    · go_wp2_with fail
      go_ret
      have hle := hlen.out
      refine ⟨⟨_, zk, rfl, hwi.1, fun p q h1 h2 h3 => hso p q h1 h2 (by omega), ?_⟩, hb1.grown hgr hb1.size (fun j e => by cases e; exact hbg)⟩
      have := OwnU.of_blk (base := w.heap.size) hblk (by rw [hle]; exact hrl) (by rw [hle]; exact hcp) hmx hbg
      rw [hle] at this
      exact this

end Go.Proofs.Ythclmkmajlinhab
