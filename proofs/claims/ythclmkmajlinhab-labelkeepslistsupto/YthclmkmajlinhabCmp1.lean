/- slices.Compact at a rising row of labels, with labels that stand in it more than once; distinct of every list. -/
import Derived.Test.YthclmkmajlinhabCov1
import Derived.Lib.SliceRun
namespace Go.Proofs.Ythclmkmajlinhab
open Go.RowKit

theorem hidec {p : Prop} (h : p) : Hid p := h
theorem zeroLab (w : World) : (zeroValue 36).run Try.prog w = .ok (.int .u64 0) w := by kernel_rfl

theorem blk_clear {t : TypeId} {g : Nat} {rest : List Value} : ∀ (m k : Nat) (zs : List Nat) (w : World), Blk .u64 t w g zs rest → k + m = zs.length →
    Blk .u64 t (w.setCells g k (List.replicate m (.int .u64 0))) g (zs.take k ++ List.replicate m 0) rest ∧ w.grownBy (w.setCells g k (List.replicate m (.int .u64 0))) (some g)
  | 0, k, zs, w, h, e => by
    have : k = zs.length := by omega
    subst this
    simp only [List.replicate_zero, World.setCells, List.take_length, List.append_nil]
    exact ⟨h, World.grownBy.refl _ _⟩
  | m + 1, k, zs, w, h, e => by
    have h1 := h.set (i := k) (by omega) 0
    obtain ⟨h2, h3⟩ := blk_clear m (k + 1) (zs.set k 0) (w.setCell ⟨g, k, none⟩ (.int .u64 ((0 : Nat) : Int))) h1 (by simp; omega)
    refine ⟨?_, ?_⟩
    · rw [List.replicate_succ, World.setCells]
      have hl : (zs.set k 0).take (k + 1) ++ List.replicate m 0 = zs.take k ++ List.replicate (m + 1) 0 := by
        rw [List.take_succ_eq_append_getElem (by simp; omega), List.take_set_of_le (Nat.le_refl _), List.getElem_set_self, List.append_assoc, List.replicate_succ]; rfl
      rw [← hl]
      exact h2
    · rw [List.replicate_succ, World.setCells]
      exact (grown_set (World.grownBy.refl _ _) _ _).trans h3

/-- What stands when r elements have been looked at and the first kk are those that are kept. -/
structure Cp (zs dk : List Nat) (kk r : Nat) : Prop where
  len : dk.length = zs.length
  lt : 1 ≤ kk ∧ kk < r ∧ r ≤ zs.length
  old : ∀ i, r ≤ i + 1 → at0 dk i = at0 zs i
  strict : ∀ i, i + 1 < kk → at0 dk i < at0 dk (i + 1)
  last : at0 dk (kk - 1) = at0 zs (r - 1)
  from_ : ∀ i, i < kk → ∃ j, j < r ∧ at0 dk i = at0 zs j
  to : ∀ j, j < r → ∃ i, i < kk ∧ at0 dk i = at0 zs j

theorem Cp.skip {zs dk : List Nat} {kk r : Nat} (h : Cp zs dk kk r) (hr : r < zs.length) (he : at0 zs r = at0 zs (r - 1)) : Cp zs dk kk (r + 1) := by
  have hl := h.lt
  refine ⟨h.len, by omega, fun i hi => h.old i (by omega), h.strict, by rw [h.last, ← he]; rfl, fun i hi => ?_, fun j hj => ?_⟩
  · obtain ⟨j, hj, e⟩ := h.from_ i hi
    exact ⟨j, by omega, e⟩
  · by_cases e : j = r
    · subst e
      exact ⟨kk - 1, by omega, by rw [h.last, he]⟩
    · exact h.to j (by omega)
theorem Cp.keep {zs dk : List Nat} {kk r : Nat} (h : Cp zs dk kk r) (hr : r < zs.length) (hs : at0 zs (r - 1) < at0 zs r) : Cp zs (dk.set kk (at0 zs r)) (kk + 1) (r + 1) := by
  have hl := h.lt
  have hlen := h.len
  have ha : ∀ i, at0 (dk.set kk (at0 zs r)) i = if i = kk then at0 zs r else at0 dk i := fun i => at0_set (by omega) _ _
  refine ⟨by rw [List.length_set]; exact hlen, by omega, fun i hi => ?_, fun i hi => ?_, ?_, fun i hi => ?_, fun j hj => ?_⟩
  · rw [ha, if_neg (by omega)]; exact h.old i (by omega)
  · rw [ha, ha, if_neg (by omega)]
    by_cases e : i + 1 = kk
    · rw [if_pos e]
      have := h.last
      have e2 : kk - 1 = i := by omega
      rw [e2] at this
      omega
    · rw [if_neg e]; exact h.strict i (by omega)
  · rw [ha, if_pos (by omega)]; rfl
  · rw [ha]
    by_cases e : i = kk
    · rw [if_pos e]; exact ⟨r, by omega, rfl⟩
    · rw [if_neg e]
      obtain ⟨j, hj, e'⟩ := h.from_ i (by omega)
      exact ⟨j, by omega, e'⟩
  · by_cases e : j = r
    · subst e; exact ⟨kk, by omega, by rw [ha, if_pos rfl]⟩
    · obtain ⟨i, hi, e'⟩ := h.to j (by omega)
      exact ⟨i, by omega, by rw [ha, if_neg (by omega)]; exact e'⟩
theorem Cp.start {zs : List Nat} {k : Nat} (hk : 1 ≤ k) (hl : k < zs.length) (hst : ∀ i, i + 1 < k → at0 zs i < at0 zs (i + 1)) (he : at0 zs k = at0 zs (k - 1)) : Cp zs zs k (k + 1) :=
  ⟨rfl, by omega, fun _ _ => rfl, hst, he.symm, fun i hi => ⟨i, by omega, rfl⟩, fun j hj => by
    by_cases e : j = k
    · subst e; exact ⟨j - 1, by omega, he.symm⟩
    · exact ⟨j, by omega, rfl⟩⟩
theorem Cp.done {zs dk : List Nat} {kk : Nat} (h : Cp zs dk kk zs.length) : (∀ x, x ∈ dk.take kk ↔ x ∈ zs) ∧ (∀ i, i + 1 < (dk.take kk).length → at0 (dk.take kk) i < at0 (dk.take kk) (i + 1)) ∧ (dk.take kk).length = kk := by
  have hl := h.lt
  have hlen := h.len
  have hln : (dk.take kk).length = kk := by rw [List.length_take]; omega
  have ha : ∀ i, i < kk → at0 (dk.take kk) i = at0 dk i := fun i hi => by
    unfold at0; rw [List.getD_eq_getElem?_getD, List.getD_eq_getElem?_getD, List.getElem?_take_of_lt hi]
  refine ⟨fun x => ⟨fun hx => ?_, fun hx => ?_⟩, fun i hi => ?_, hln⟩
  · obtain ⟨i, hi, rfl⟩ := mem_at0 hx
    rw [hln] at hi
    obtain ⟨j, hj, e⟩ := h.from_ i hi
    rw [ha i hi, e]; exact at0_mem hj
  · obtain ⟨j, hj, rfl⟩ := mem_at0 hx
    obtain ⟨i, hi, e⟩ := h.to j hj
    rw [← e, ← ha i hi]; exact at0_mem (by omega)
  · rw [hln] at hi
    rw [ha _ (by omega), ha _ hi]; exact h.strict i hi

/-- What Compact leaves. -/
def Compacted (t : TypeId) (g cap : Nat) (zs : List Nat) (rest : List Value) (w : World) (e : Ending) (w' : World) : Prop :=
  ∃ D rest', e = .returned (.slice (some ⟨g, 0, none⟩) (List.length D) cap) ∧ (∀ x, x ∈ D ↔ x ∈ zs) ∧ (∀ i, i + 1 < D.length → at0 D i < at0 D (i + 1)) ∧ D.length ≤ zs.length ∧
    Blk .u64 t w' g D rest' ∧ rest'.length + D.length = rest.length + zs.length ∧ w.grownBy w' (some g)

set_option maxRecDepth 100000 in
set_option maxHeartbeats 2000000 in
theorem compact_sorted (g n cap : Nat) (zs : List Nat) (rest : List Value) (w : World) (hB : Blk .u64 36 w g zs rest) (hn : Hid (zs.length = n)) (hs : Hid (sortedR zs 0 n)) (hcap : n ≤ cap) (hl : n ≤ 4611686018427387904) :
    Calls Try.prog 35 #[.slice (some ⟨g, 0, none⟩) n cap] w fun e w' => Compacted 36 g cap zs rest w e w' := by
  by_cases h2 : n < 2
  · go_enter Try.func35, Try.ntmps35
    go_wp2_with fail
    go_ret
    have := hn.out
    exact ⟨zs, rest, by rw [this]; rfl, fun x => Iff.rfl, fun i hi => by omega, Nat.le_refl _, hB, rfl, World.grownBy.refl _ _⟩
  · go_enter Try.func35, Try.ntmps35
    go_wp2_with fail
    go_loopw [3] (fun i wr => ∃ k m : Nat, 1 ≤ k ∧ k ≤ n ∧ i = .int .i64 k ∧ wr = w.drewN m ∧ Hid (∀ i, i + 1 < k → at0 zs i < at0 zs (i + 1))) (fun i _ => n - (intOf i).toNat)
    case atStart => exact ⟨1, 0, by omega, by omega, rfl, rfl, fun i hi => by omega⟩
    case round =>
      obtain ⟨k, m, hk1, hk, rfl, hwr, hst⟩ := hrel
      have HW := hidec hwr
      have hBr : Blk .u64 36 wr g zs rest := by rw [hwr]; exact hB.drewN m
      have hgr : w.grownBy wr (some g) := by rw [hwr]; exact grown_drewN (World.grownBy.refl _ _) m
      clear hwr hB
      by_cases hlt : k < n
      · have hln := hn.out
        have hck := hBr.cell (i := k) (by omega)
        have hck1 := hBr.cell (i := k - 1) (by omega)
        have hso := hs.out (k - 1) k (by omega) (by omega) (by omega)
        obtain ⟨z, hz⟩ : ∃ z, z = at0 zs k := ⟨_, rfl⟩
        obtain ⟨y, hy⟩ : ∃ y, y = at0 zs (k - 1) := ⟨_, rfl⟩
        rw [← hz] at hck hso
        rw [← hy] at hck1 hso
        have HZ := hidec hz
        have HY := hidec hy
        have hi1 : (k : Int) < (n : Int) := by omega
        have hi2 : (k : Int) - 1 < (n : Int) := by omega
        have hi3 : (0 : Int) ≤ (k : Int) - 1 := by omega
        have hgt := hBr.lt
        clear hz hy hln
        by_cases hzy : z = y
        · have hd : ((z : Int) == (y : Int)) = true := by simp [hzy]
          have hcp : Cp zs zs k (k + 1) := Cp.start hk1 (by rw [hn.out]; exact hlt) hst.out (by rw [← HZ.out, ← HY.out, hzy])
          have hci : (k : Int) ≤ (cap : Int) := by omega
          have hcne : ¬ cap = k := by omega
          clear hzy hso
          go_wp2_with fail
          go_quiet (fail)
          go_wp2_with fail
          have hB0 : Blk .u64 36 (wr.drewN nq) g zs rest := hBr.drewN nq
          have hg0 : w.grownBy (wr.drewN nq) (some g) := grown_drewN hgr nq
          obtain ⟨N2, hN2⟩ : ∃ N2, N2 = n - k := ⟨_, rfl⟩
          have hN3 : k + N2 = n := by omega
          have HCp := hidec hcp
          rw [← hN2]
          clear hBr hgr hN2 hck hck1 hcp
          go_loopw [3, 5] (fun i3 i5 wr2 => ∃ (kk k2 : Nat) (dk : List Nat), i3 = .int .i64 kk ∧ i5 = .int .i64 k2 ∧ 1 ≤ k2 ∧ k2 ≤ N2 ∧ Hid (Cp zs dk kk (k + k2)) ∧ Blk .u64 36 wr2 g dk rest ∧ w.grownBy wr2 (some g)) (fun _ i5 _ => N2 - (intOf i5).toNat)
          case atStart => exact ⟨k, 1, zs, rfl, rfl, by omega, by omega, HCp, hB0, hg0⟩
          case round =>
            clear hB0 hg0 HCp
            obtain ⟨kk, k2, dk, rfl, rfl, hk21, hk2, hcp, hBd, hgd⟩ := hrel
            have hlz := hn.out
            have hdl := hcp.out.len
            have hkk := hcp.out.lt
            by_cases hlt2 : k2 < N2
            · have hu := hcp.out.old (k + k2) (by omega)
              have hv := hcp.out.old (k + (k2 - 1)) (by omega)
              have hsr := hs.out (k + (k2 - 1)) (k + k2) (by omega) (by omega) (by omega)
              have c1 := hBd.cell (i := k + k2) (by omega)
              have c2 := hBd.cell (i := k + (k2 - 1)) (by omega)
              have c3 := hBd.cell (i := kk) (by omega)
              have f3 := hBd.frozen kk
              rw [hu] at c1
              rw [hv] at c2
              obtain ⟨u, hue⟩ : ∃ u, u = at0 zs (k + k2) := ⟨_, rfl⟩
              obtain ⟨v, hve⟩ : ∃ v, v = at0 zs (k + (k2 - 1)) := ⟨_, rfl⟩
              rw [← hue] at c1 hsr
              rw [← hve] at c2 hsr
              have HU := hidec hue
              have HV := hidec hve
              have j1 : (k2 : Int) < (N2 : Int) := by omega
              have j2 : (k2 : Int) - 1 < (N2 : Int) := by omega
              have j3 : (0 : Int) ≤ (k2 : Int) - 1 := by omega
              have j4 : (kk : Int) < (n : Int) := by omega
              have j5 : (k2 : Int) ≤ 4611686018427387904 := by omega
              have j6 : (kk : Int) ≤ 4611686018427387904 := by omega
              have j7 : IntKind.i64.wrap ((k2 : Int) - 1) = (k2 : Int) - 1 := by rw [IntKind.wrap_i64]; omega
              have hkl : kk < dk.length := by omega
              have ERK : Hid (k + (k2 - 1) = k + k2 - 1) := by show _ = _; omega
              clear hu hv hue hve hlz hdl
              by_cases huv : u = v
              · have hd2 : ((u : Int) != (v : Int)) = false := by simp [huv]
                have hsk : Hid (Cp zs dk kk (k + (k2 + 1))) := hcp.out.skip (by rw [hn.out]; omega) (by rw [← HU.out, ← ERK.out, ← HV.out]; exact huv)
                clear huv
                go_wp2_with fail
                go_quiet (fail)
                go_wp2_with fail
                go_roundw
                case rel => exact ⟨kk, k2 + 1, dk, rfl, by go_num, by omega, by omega, hsk, hBd.drewN _, grown_drewN hgd _⟩
                case measure => simp [intOf]; omega
              · have hd2 : ((u : Int) != (v : Int)) = true := by simp; omega
                have hkp : Hid (Cp zs (dk.set kk u) (kk + 1) (k + (k2 + 1))) := by
                  have := hcp.out.keep (by rw [hn.out]; omega) (by rw [← HU.out, ← ERK.out, ← HV.out]; omega)
                  rw [← HU.out] at this
                  exact this
                clear huv
                go_wp2_with fail
                go_quiet (fail)
                go_wp2_with fail
                go_roundw
                case rel => exact ⟨kk + 1, k2 + 1, dk.set kk u, by go_num, by go_num, by omega, by omega, hkp, (hBd.drewN nq).set hkl u, grown_set (grown_drewN hgd _) _ _⟩
                case measure => simp [intOf]; omega
            · have hke : k + k2 = zs.length := by omega
              have hcpd := hcp.out
              rw [hke] at hcpd
              obtain ⟨d1, d2, d3⟩ := hcpd.done
              have hcl : ∀ ty, (Builtin.clear_ #[22] ty #[.slice (some ⟨g, kk, none⟩) (n - kk) (cap - kk)]).run Try.prog wr = .ok (.tuple #[]) (wr.setCells g kk (List.replicate (n - kk) (.int .u64 0))) :=
                fun ty => Lib.run_clear_slice wr _ _ ty _ Try.underlying22 zeroLab rfl rfl g kk _ _ (by omega) (fun j hj => by rw [hBd.cell (i := kk + j) (by omega)]; rfl) (fun j hj => hBd.frozen (kk + j))
              obtain ⟨q1, q2⟩ := blk_clear (n - kk) kk dk wr hBd (by omega)
              have j4 : (kk : Int) ≤ (cap : Int) := by omega
              have j5 : (kk : Int) ≤ (n : Int) := by omega
              have j6 : ¬ cap = kk := by omega
              have HD1 := hidec d1
              have HD2 := hidec d2
              have HD3 := hidec d3
              have HQ1 := hidec q1
              clear hke hcpd d1 d2 d3 q1 hBd hlz hdl hkk
              go_wp2_with fail
              go_ret
              have hkk := hcp.out.lt
              have hdl := hcp.out.len
              have hlz := hn.out
              refine ⟨dk.take kk, (List.replicate (n - kk) 0).map (encK .u64) ++ rest, ?_, HD1.out, HD2.out, by rw [HD3.out]; omega, ?_, by rw [HD3.out]; simp; omega, hgd.trans q2⟩
              · rw [HD3.out]; rfl
              · have := HQ1.out
                unfold Blk at this ⊢
                rw [this, List.map_append, List.append_assoc]
        · have hd : ((z : Int) == (y : Int)) = false := by simp; omega
          go_wp2_with fail
          go_quiet (fail)
          go_wp2_with fail
          go_roundw
          case rel =>
            refine ⟨k + 1, m + nq, by omega, by omega, by go_num, by rw [HW.out, World.drewN_drewN], fun i hi => ?_⟩
            by_cases e : i + 1 = k
            · have e1 := HZ.out
              have e2 := HY.out
              have e3 : k - 1 = i := by omega
              rw [e3] at e2
              rw [e, ← e1, ← e2]
              omega
            · exact hst.out i (by omega)
          case measure => simp [intOf]; omega
      · go_wp2_with fail
        go_ret
        have hln := hn.out
        exact ⟨zs, rest, by rw [hln]; rfl, fun x => Iff.rfl, fun i hi => hst.out i (by omega), Nat.le_refl _, hBr, rfl, hgr⟩

end Go.Proofs.Ythclmkmajlinhab
