/- The heap sort of the library's sort at labels. -/
import Derived.Test.YthclmkmajlinhabPdq5
namespace Go.Proofs.Ythclmkmajlinhab
open Go.RowKit

theorem take_same {zs zs' : List Nat} {a : Nat} (hl : zs'.length = zs.length) (h : ∀ i, i < a → at0 zs' i = at0 zs i) : zs'.take a = zs.take a := by
  apply List.ext_getElem (by simp [hl])
  intro i h1 h2
  simp at h1 h2
  rw [List.getElem_take, List.getElem_take, at0_get (by omega), at0_get (by omega)]
  exact h i (by omega)
theorem drop_same {zs zs' : List Nat} {b : Nat} (hl : zs'.length = zs.length) (h : ∀ i, b ≤ i → at0 zs' i = at0 zs i) : zs'.drop b = zs.drop b := by
  apply List.ext_getElem (by simp [hl])
  intro i h1 h2
  simp at h1 h2
  rw [List.getElem_drop, List.getElem_drop, at0_get (by omega), at0_get (by omega)]
  exact h _ (by omega)
theorem within.mem {a b : Nat} {zs zs' : List Nat} (h : within a b zs zs') (hb : b ≤ zs.length) {p : Nat} (h1 : a ≤ p) (h2 : p < b) : ∃ i, a ≤ i ∧ i < b ∧ at0 zs' p = at0 zs i := by
  have hl : zs'.length = zs.length := h.1.length_eq
  have ht := take_same (a := a) hl (fun i hi => h.2 i (.inl hi))
  have hd := drop_same (b := b) hl (fun i hi => h.2 i (.inr hi))
  have e : ∀ l : List Nat, l = l.take a ++ ((l.drop a).take (b - a) ++ l.drop b) := fun l => by
    have e2 : l.drop b = (l.drop a).drop (b - a) := by rw [List.drop_drop]; congr 1; omega
    rw [e2, List.take_append_drop, List.take_append_drop]
  have hp : (zs'.take a ++ ((zs'.drop a).take (b - a) ++ zs'.drop b)).Perm (zs.take a ++ ((zs.drop a).take (b - a) ++ zs.drop b)) := by
    rw [← e zs', ← e zs]; exact h.1
  rw [ht, hd] at hp
  have hm := (List.perm_append_right_iff _).1 ((List.perm_append_left_iff _).1 hp)
  have hin : at0 zs' p ∈ (zs'.drop a).take (b - a) := by
    rw [← at0_get (zs := zs') (i := p) (by omega)]
    refine List.mem_iff_getElem.2 ⟨p - a, by simp; omega, ?_⟩
    rw [List.getElem_take, List.getElem_drop]
    congr 1
    omega
  obtain ⟨i, hi, ei⟩ := List.mem_iff_getElem.1 (hm.mem_iff.1 hin)
  simp at hi
  refine ⟨a + i, by omega, by omega, ?_⟩
  rw [← ei, List.getElem_take, List.getElem_drop, at0_get (by omega)]
theorem within.le {a b X : Nat} {zs zs' : List Nat} (h : within a b zs zs') (hb : b ≤ zs.length) (hx : ∀ i, a ≤ i → i < b → at0 zs i ≤ X) : ∀ p, a ≤ p → p < b → at0 zs' p ≤ X := fun p h1 h2 => by
  obtain ⟨i, i1, i2, e⟩ := h.mem hb h1 h2
  rw [e]; exact hx i i1 i2
theorem within.ge {a b X : Nat} {zs zs' : List Nat} (h : within a b zs zs') (hb : b ≤ zs.length) (hx : ∀ i, a ≤ i → i < b → X ≤ at0 zs i) : ∀ p, a ≤ p → p < b → X ≤ at0 zs' p := fun p h1 h2 => by
  obtain ⟨i, i1, i2, e⟩ := h.mem hb h1 h2
  rw [e]; exact hx i i1 i2
theorem within.wide {a b c d : Nat} {zs zs' : List Nat} (h : within c d zs zs') (h1 : a ≤ c) (h2 : d ≤ b) : within a b zs zs' := ⟨h.1, fun i hi => h.2 i (by omega)⟩

theorem heap_root {zk : List Nat} {f m : Nat} (h : heapFrom zk f 0 m) : ∀ k c, c < k → c < m → at0 zk (f + c) ≤ at0 zk f := by
  intro k
  induction k with
  | zero => intro c hc; omega
  | succ k ih =>
    intro c hc hm
    by_cases h0 : c = 0
    · subst h0; exact Nat.le_refl _
    · have hp := h ((c - 1) / 2) c (by omega) (by unfold kid; omega) hm
      exact Nat.le_trans hp (ih _ (by omega) (by omega))

/-- What stands from m on is sorted, and not below what stands ahead of it. -/
def tail_ (zk : List Nat) (a b m : Nat) : Prop := ∀ p q, a ≤ p → p < q → a + m ≤ q → q < b → at0 zk p ≤ at0 zk q

theorem heap_pop {zk : List Nat} {a m : Nat} (h : heapFrom zk a 0 (m + 1)) (hm : a + (m + 1) ≤ zk.length) : heapFrom (swapL zk a (a + m)) a 1 m := fun s c h1 h2 h3 => by
  have hs : s < c := by unfold kid at h2; omega
  rw [swapL_at (by omega) (by omega), swapL_at (by omega) (by omega), if_neg (by omega), if_neg (by omega), if_neg (by omega), if_neg (by omega)]
  exact h s c (by omega) h2 (by omega)
theorem tail_pop {zk z2 : List Nat} {a b m : Nat} (h : heapFrom zk a 0 (m + 1)) (ht : tail_ zk a b (m + 1)) (hb : b ≤ zk.length) (hm : a + (m + 1) ≤ b) (hw : within a (a + m) (swapL zk a (a + m)) z2) : tail_ z2 a b m := fun p q h1 h2 h3 h4 => by
  have hsl : (swapL zk a (a + m)).length = zk.length := swapL_length _ _
  have hsw := fun k => swapL_at (zs := zk) (i := a) (j := a + m) (by omega) (by omega) k
  have hq2 : at0 z2 q = at0 (swapL zk a (a + m)) q := hw.2 q (.inr h3)
  -- every value of the first m + 1
  have hval : ∀ X, (∀ i, a ≤ i → i < a + (m + 1) → at0 zk i ≤ X) → at0 (swapL zk a (a + m)) (a + m) ≤ X → p < a + m → at0 z2 p ≤ X := fun X hX _ hp => by
    refine hw.le (by omega) (fun i i1 i2 => ?_) p h1 hp
    rw [hsw, if_neg (by omega)]
    by_cases e : i = a
    · rw [if_pos e]; exact hX _ (by omega) (by omega)
    · rw [if_neg e]; exact hX _ i1 (by omega)
  by_cases eq : q = a + m
  · subst eq
    have hr : at0 (swapL zk a (a + m)) (a + m) = at0 zk a := by rw [hsw, if_pos rfl]
    rw [hq2, hr]
    refine hval _ (fun i i1 i2 => ?_) (by rw [hr]; exact Nat.le_refl _) h2
    have := heap_root h (i - a + 1) (i - a) (by omega) (by omega)
    rwa [show a + (i - a) = i by omega] at this
  · have hqq : at0 z2 q = at0 zk q := by rw [hq2, hsw, if_neg eq, if_neg (by omega)]
    rw [hqq]
    by_cases hp : p < a + m
    · refine hval _ (fun i i1 i2 => ht i q i1 (by omega) (by omega) h4) ?_ hp
      rw [hsw, if_pos rfl]
      exact ht a q (Nat.le_refl _) (by omega) (by omega) h4
    · have hpp : at0 z2 p = at0 (swapL zk a (a + m)) p := hw.2 p (.inr (by omega))
      rw [hpp, hsw]
      by_cases e : p = a + m
      · rw [if_pos e]; exact ht a q (Nat.le_refl _) (by omega) (by omega) h4
      · rw [if_neg e, if_neg (by omega)]; exact ht p q h1 h2 (by omega) h4

set_option maxRecDepth 100000 in
set_option maxHeartbeats 400000 in
theorem siftDown_none (v : Value) (f : Int) (w : World) :
    Calls Try.prog 75 #[v, .int .i64 0, .int .i64 0, .int .i64 f] w fun e w' => e = .returned (.tuple #[]) ∧ w' = w := by
  go_enter Try.func75, Try.ntmps75
  go_wp2
  go_loopw [8] (fun i wr => i = .int .i64 0 ∧ wr = w) (fun i _ => (intOf i).toNat)
  case atStart => exact ⟨rfl, rfl⟩
  case round =>
    obtain ⟨rfl, rfl⟩ := hrel
    go_wp2
    go_end0
    exact ⟨rfl, rfl⟩

set_option maxRecDepth 100000 in
set_option maxHeartbeats 2000000 in
theorem heapSort_lab (g n cap a b : Nat) (zs : List Nat) (rest : List Value) (w : World) (hB : Blk .u64 36 w g zs rest) (hn : zs.length = n) (hab : a < b) (hb : b ≤ n) (hl : n ≤ 2305843009213693952) :
    Calls Try.prog 60 #[.slice (some ⟨g, 0, none⟩) n cap, .int .i64 (a : Int), .int .i64 (b : Int)] w fun e w' => e = .returned (.tuple #[]) ∧ ∃ zs', sortedR zs' a b ∧ Moved g a b n zs rest w w' zs' := by
  obtain ⟨H, hH⟩ : ∃ H, H = b - a := ⟨_, rfl⟩
  have hHp : 0 < H := by omega
  have haH : a + H = b := by omega
  obtain ⟨m0, hm0⟩ : ∃ m0, m0 = (H - 1) / 2 + 1 := ⟨_, rfl⟩
  have HHH : Hid (a + H = b) := haH
  have HHD : Hid (b - a = H) := hH.symm
  go_enter Try.func60, Try.ntmps60
  go_wp2
  go_loopw [9] (fun i wr => ∃ (m : Nat) (zk : List Nat), i = .int .i64 ((m : Int) - 1) ∧ m ≤ H ∧ Hid (heapFrom zk a m H ∧ within a b zs zk) ∧ zk.length = n ∧ Blk .u64 36 wr g zk rest ∧ w.grownBy wr (some g)) (fun i _ => (intOf i + 1).toNat)
  case atStart => exact ⟨m0, zs, by congr 1; omega, by omega, ⟨fun s c h1 h2 h3 => by unfold kid at h2; omega, within.refl _ _ _⟩, hn, hB, World.grownBy.refl _ _⟩
  case round =>
    obtain ⟨m, zk, rfl, hmH, hk, hlen, hblk, hgr⟩ := hrel
    rcases m with _ | m
    · rw [show (((0 : Nat) : Int)) - 1 = -1 from rfl]
      go_wp2
      go_loopw [10] (fun i wr => ∃ (m : Nat) (zk : List Nat), i = .int .i64 ((m : Int) - 1) ∧ m ≤ H ∧ Hid (heapFrom zk a 0 m ∧ tail_ zk a b m ∧ within a b zs zk) ∧ zk.length = n ∧ Blk .u64 36 wr g zk rest ∧ w.grownBy wr (some g)) (fun i _ => (intOf i + 1).toNat)
      case atStart => exact ⟨H, zk, by congr 1; omega, by omega, ⟨hk.out.1, fun p q h1 h2 h3 h4 => by omega, hk.out.2⟩, hlen, hblk, hgr⟩
      case round =>
        clear hblk hgr hlen
        obtain ⟨m, zk, rfl, hmH, hk, hlen, hblk, hgr⟩ := hrel
        rcases m with _ | m
        · go_wp2
          go_end0
          exact ⟨rfl, zk, fun p q h1 h2 h3 => hk.out.2.1 p q h1 h2 (by omega) h3, hlen, hk.out.2.2, hblk, hgr⟩
        · have hcm : (((m + 1 : Nat) : Int)) - 1 = (m : Int) := by omega
          rw [hcm]
          obtain ⟨F, hF⟩ : ∃ F, F = a + m := ⟨_, rfl⟩
          have hwF : IntKind.i64.wrap ((a : Int) + (m : Int)) = (F : Int) := by rw [i64_at (by omega) (by omega)]; omega
          have hba : (a : Int) < (n : Int) := by omega
          have hbF : (F : Int) < (n : Int) := by omega
          obtain ⟨x, hx⟩ : ∃ x, x = at0 zk a := ⟨_, rfl⟩
          obtain ⟨y, hy⟩ : ∃ y, y = at0 zk F := ⟨_, rfl⟩
          have HX : Hid (x = at0 zk a) := hx
          have HY : Hid (y = at0 zk F) := hy
          have HF : Hid (F = a + m) := hF
          have dx := hblk.cell (i := a) (by omega)
          have dc := hblk.cell (i := F) (by omega)
          rw [← hx] at dx
          rw [← hy] at dc
          have fx := hblk.frozen a
          have fc := hblk.frozen F
          by_cases h0 : m = 0
          · subst h0
            have hFa : F = a := by omega
            have hb2 := ((hblk.set (i := a) (by omega) y).set (i := a) (by simp; omega) x)
            have fx2 := (hblk.set (i := a) (by omega) y).frozen a
            have hxy : y = x := by rw [hx, hy, hFa]
            subst hFa
            subst hxy
            have HB5 := hide_it'' hb2
            have HG5 := hide_it'' hgr
            have HLN := hide_it'' hlen
            clear hx hy hF hblk hgr hlen hb2 dc fc
            go_wp2_with fail
            go_region
            all_goals go_wp2_with fail
            all_goals refine (siftDown_none _ _ _).mono ?_
            all_goals rintro e w1 ⟨rfl, rfl⟩
            all_goals go_wp2
            all_goals go_roundw
            case rel =>
              have hln := HLN.out
              have hbe : (zk.set F y).set F y = swapL zk F (F + 0) := by unfold swapL; rw [Nat.add_zero, ← HX.out]
              have hb2 := HB5.out
              rw [hbe] at hb2
              exact ⟨0, swapL zk F (F + 0), rfl, by omega, ⟨fun s c _ _ h3 => by omega, tail_pop hk.out.1 hk.out.2.1 (by omega) (by omega) (within.refl _ _ _), hk.out.2.2.trans (within.swap (by omega) (by omega) (by omega) (by omega) (by omega))⟩, (swapL_length _ _).trans hln, hb2.drewN 1, grown_drewN (grown_set (grown_set HG5.out _ _) _ _) 1⟩
            case measure => simp [intOf] <;> omega
          · have hne1 : F ≠ a := by omega
            have hne2 : a ≠ F := by omega
            have HB5 := hide_it'' hblk
            have HG5 := hide_it'' hgr
            have HLN := hide_it'' hlen
            clear hx hy hF hblk hgr hlen
            go_wp2_with fail
            go_region
            have hbe : (zk.set a y).set F x = swapL zk a F := by unfold swapL; rw [← HX.out, ← HY.out]
            have hln := HLN.out
            have hFe := HF.out
            have hb2 := ((HB5.out.set (i := a) (by omega) y).set (i := F) (by simp; omega) x).drewN 1
            rw [hbe, hFe] at hb2
            have hhp := heap_pop hk.out.1 (by omega)
            have hsl : (swapL zk a (a + m)).length = n := (swapL_length _ _).trans hln
            have hsd := siftDown_lab g n cap 0 m a (swapL zk a (a + m)) rest _ hb2 hsl (by omega) (by omega) hl hhp
            have HSL := hide_it'' hsl
            have HSD := hide_it'' hsd
            clear hbe hln hFe hb2 hhp hsl hsd
            go_wp2_with fail
            have hsd := HSD.out
            rw [← HF.out] at hsd
            refine hsd.mono ?_
            clear hsd HSD
            rintro e w1 ⟨rfl, zs1, hh1, hl1, hwi1, hblk1, hgr1⟩
            go_wp2
            go_roundw
            case rel =>
              rw [HF.out] at hwi1 hgr1
              have hln := HLN.out
              exact ⟨m, zs1, rfl, by omega, ⟨hh1, tail_pop hk.out.1 hk.out.2.1 (by omega) (by omega) hwi1, (hk.out.2.2.trans (within.swap (by omega) (by omega) (by omega) (by omega) (by omega))).trans (hwi1.wide (by omega) (by omega))⟩, hl1, hblk1, (grown_drewN (grown_set (grown_set HG5.out _ _) _ _) 1).trans hgr1⟩
            case measure => simp [intOf] <;> omega
    · have hcm : (((m + 1 : Nat) : Int)) - 1 = (m : Int) := by omega
      rw [hcm]
      have hmb : (m : Int) < 9223372036854775807 := by omega
      go_wp2_with fail
      have hsd := siftDown_lab g n cap m H a zk rest _ hblk hlen (by omega) (by omega) hl hk.out.1
      rw [show (H : Int) = (b : Int) - (a : Int) by omega] at hsd
      refine hsd.mono ?_
      clear hsd
      rintro e w1 ⟨rfl, zs1, hh1, hl1, hwi1, hblk1, hgr1⟩
      go_wp2
      go_roundw
      case rel => exact ⟨m, zs1, rfl, by omega, ⟨hh1, hk.out.2.trans (hwi1.wide (by omega) (by omega))⟩, hl1, hblk1, hgr.trans hgr1⟩
      case measure => simp [intOf] <;> omega
end Go.Proofs.Ythclmkmajlinhab
