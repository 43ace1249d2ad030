/- Apply, walked. -/
import Derived.Test.YthaknohnccmfoaaSo5
namespace Go.Proofs.Ythaknohnccmfoaa
open Go.RowKit Go.Maps

theorem RowB.chg {S : Nat → Prop} {w w' : World} {a : Option Addr} {zs : List Nat} (h : RowB w a zs) (hc : Chg S w w') (hs : ∀ b o, 0 < zs.length → a = some ⟨b, o, none⟩ → ¬ S b) : RowB w' a zs := by
  by_cases h0 : zs.length = 0
  · exact .inl h0
  · rcases h with h | ⟨b, o, e, hlt, hcc⟩
    · exact .inl h
    · exact .inr ⟨b, o, e, Nat.lt_of_lt_of_le hlt hc.size, fun i hi => by rw [hc.cell (a := ⟨b, o + i, none⟩) hlt (hs b o (by omega) e)]; exact hcc i hi⟩
theorem tot_insA (k : List UInt8) (A : Cont) : tot (insA k A) = tot A := by
  induction A with
  | nil => rfl
  | cons f r ih =>
    unfold insA
    split
    · simp [tot]
    · have e1 : tot (f :: insA k r) = f.2.length + tot (insA k r) := by simp [tot]
      have e2 : tot (f :: r) = f.2.length + tot r := by simp [tot]
      rw [e1, e2, ih]

def lowE (ls : List Ver) (n : Int) : Int := if lowV ls n then 130 else 0
def addC (A : Cont) (k : List UInt8) (ls : List Ver) (l : Ver) : Cont := if lowV ls l.n then A else setA A k (ls ++ [l])
theorem AppTo.pre {w w1 w' : World} {F : Nat → Prop} {s : Nat} {A : Cont} {x : Vn} (hb : Below w.heap.size w w1) (hl : ∀ j, F j → j < w.heap.size) (h : AppTo w1 F s A x w') : AppTo w F s A x w' := by
  obtain ⟨mb, M, hs, ha⟩ := h.st
  have hz := h.chg.size
  exact ⟨⟨mb, M, hs.mono (upto_step (fun _ hj => .inl hj) hb.size hz) (upto_in hl (Nat.le_trans hb.size hz)), ha⟩, (Chg.new hb).trans h.chg fun _ _ hj => hj⟩
theorem AppTo.two {w w1 w' : World} {F : Nat → Prop} {s : Nat} {mb : Option Nat} {M : List Ky} {A : Cont} {x : Vn} (hl : ∀ j, F j → j < w.heap.size) (hc : Chg F w w1) (hc2 : Chg (kY.upto F w w1) w1 w') (hs : Sto w' (kY.upto (kY.upto F w w1) w1 w') s mb M) (ha : abs M = applyA A x) : AppTo w F s A x w' :=
  ⟨⟨mb, M, hs.mono (upto_step (fun _ hj => hj) hc.size hc2.size) (upto_in hl (Nat.le_trans hc.size hc2.size)), ha⟩, chg_step hc hc2 fun _ hj => hj⟩

theorem addCall {W : World} {F : Nat → Prop} {s : Nat} {mb : Option Nat} {M : List Ky} (h : Sto W F s mb M) {e : Ky} (he : e ∈ M) (ht : tot (abs M) ≤ 4000000000000) {z : World} (hb : Below W.heap.size W z) {v : Value} {zs : List Nat} (hv : OwnB z W.heap.size v zs) (n : Int) (d : Bool) (h0 : 0 ≤ n) (h1 : n ≤ 9223372036854775807) :
    ∃ a c, v = .slice a zs.length c ∧ Calls Try.prog 57 #[.pointer (some ⟨e.c, 0, none⟩), .agg #[.int .i64 n, .slice a zs.length c, .bool d]] z fun e' w' =>
      e' = .returned (.int .i64 (lowE e.ls n)) ∧ (∃ M', Sto w' (kY.upto F W w') s mb M' ∧ abs M' = addC (abs M) e.k e.ls ⟨n, zs, d⟩) ∧ Chg F W w' := by
  obtain ⟨a, c, rfl, _⟩ := hv.row
  refine ⟨a, c, rfl, ?_⟩
  have hz := hb.size
  have hs1 : Sto z (kY.upto F W z) s mb M := (h.below hb).mono (fun j hj => .inl hj) (upto_in h.lt hz)
  have hk := hs1.each e he
  have hl : LinkIs z (kY.upto F W z) ⟨n, (a, zs.length, c), d⟩ ⟨n, zs, d⟩ := ⟨rfl, rfl, hv.mono (Nat.zero_le _), fun j hj => .inr ⟨hv.ge hj, hv.inside j hj⟩⟩
  have hle := ls_le_tot he
  refine (kY.add_any hk.hn ⟨n, (a, zs.length, c), d⟩ h1 (by rw [hk.len]; omega)).mono ?_
  rintro e' w' ⟨rfl, kk⟩
  have hcc : Chg (Fc e.c e.v) z w' := kk.chg
  obtain ⟨M', hM, ha⟩ := sto_added hs1 he hl h0 kk
  refine ⟨?_, ⟨M', hM.mono (upto_step (fun _ hj => hj) hz hcc.size) (upto_in h.lt (Nat.le_trans hz hcc.size)), ha⟩, (Chg.new hb).trans hcc fun j hj hF => ?_⟩
  · unfold kY.addE lowE
    by_cases hr : kY.refu e.xs ⟨n, (a, zs.length, c), d⟩
    · rw [if_pos hr, if_pos ((refu_low hk h0).1 hr)]
    · rw [if_neg hr, if_neg (fun e1 => hr ((refu_low hk h0).2 e1))]
  · exact (h.each e he).fc j hF

theorem applyE_bad {A : Cont} {x : Vn} (h : checkE x ≠ 0) : applyE A x = checkE x ∧ applyA A x = A := by
  have e : applyE A x = checkE x := if_pos h
  exact ⟨e, by unfold applyA; rw [e, if_neg h]⟩
theorem applyE_ok {A : Cont} {x : Vn} (h : checkE x = 0) : applyE A x = lowE (lsOf A x.k.data.toList) x.n := if_neg (fun e => e h)
theorem applyA_has {A : Cont} {x : Vn} (h : checkE x = 0) (hk : hasK A x.k.data.toList = true) : applyE A x = lowE (lsOf A x.k.data.toList) x.n ∧ applyA A x = addC A x.k.data.toList (lsOf A x.k.data.toList) (verOf x) := by
  refine ⟨applyE_ok h, ?_⟩
  unfold applyA
  rw [applyE_ok h]
  unfold lowE addC
  by_cases hl : lowV (lsOf A x.k.data.toList) x.n
  · rw [if_pos hl, if_pos (show lowV _ (verOf x).n from hl)]; rfl
  · rw [if_neg hl, if_neg (show ¬ lowV _ (verOf x).n from hl), if_pos rfl]; unfold addA; rw [if_pos hk]
theorem lowV_nil (n : Int) : ¬ lowV [] n := fun e => by have := e.1; simp at this
theorem applyA_new {A : Cont} {x : Vn} (h : checkE x = 0) (hk : hasK A x.k.data.toList = false) (hl : lsOf A x.k.data.toList = []) : applyE A x = lowE [] x.n ∧ applyA A x = addC (insA x.k.data.toList A) x.k.data.toList [] (verOf x) := by
  have e : applyE A x = lowE [] x.n := by rw [applyE_ok h, hl]
  refine ⟨e, ?_⟩
  unfold applyA addA
  rw [e]
  unfold lowE addC
  rw [if_neg (lowV_nil _), if_neg (lowV_nil _), if_pos rfl, hk, hl]; rfl

set_option maxRecDepth 100000 in
set_option maxHeartbeats 4000000 in
theorem apply_any {w : World} {F : Nat → Prop} {s : Nat} {mb : Option Nat} {M : List Ky} (h : Sto w F s mb M) (x : Vn) (hx : VnOk w x) (hfar : ∀ b o, 0 < x.z.length → x.a = some ⟨b, o, none⟩ → ¬ F b) (ht : tot (abs M) ≤ 4000000000000) (hM : M.length ≤ 4000000000000) :
    Calls Try.prog 31 #[.pointer (some ⟨s, 0, none⟩), verV x] w fun e w' => e = .returned (.int .i64 (applyE (abs M) x)) ∧ AppTo w F s (abs M) x w' := by
  obtain ⟨W, hW⟩ : ∃ W, W = w.alloc (.cells #[.string x.k, .int .i64 x.n, .slice x.a x.z.length x.c, .bool x.d] 30) := ⟨_, rfl⟩
  have hb0 : Below w.heap.size w W := by rw [hW]; exact (Below.refl _ _).alloc (Nat.le_refl _) _
  have hW1 : W.heap.size = w.heap.size + 1 := by rw [hW]; simp
  have k0 : W.heap[w.heap.size]? = some (.cells #[.string x.k, .int .i64 x.n, .slice x.a x.z.length x.c, .bool x.d] 30 (0, 0)) := by rw [hW]; exact heap_alloc_new w _
  have hch := check_any x W
  have x0 : W.cell? ⟨w.heap.size, 0, none⟩ = some (.string x.k) := cell_of_row _ _ _ _ _ _ k0
  have x1 : W.cell? ⟨w.heap.size, 1, none⟩ = some (.int .i64 x.n) := cell_of_row _ _ _ _ _ _ k0
  have x2 : W.cell? ⟨w.heap.size, 2, none⟩ = some (.slice x.a x.z.length x.c) := cell_of_row _ _ _ _ _ _ k0
  have x3 : W.cell? ⟨w.heap.size, 3, none⟩ = some (.bool x.d) := cell_of_row _ _ _ _ _ _ k0
  have HH := hide_it h
  have HX := hide_it hx
  have HF := hide_it hfar
  have HT := hide_it ht
  have HM := hide_it hM
  have HB0 := hide_it hb0
  have HK0 := hide_it k0
  unfold verV at hch ⊢
  by_cases hE : checkE x = 0
  · rw [hE] at hch
    have HE := hide_it hE
    clear h hx hfar ht hM hb0 k0 hE
    go_enter Try.func31, Try.ntmps31
    go_wp2_with fail
    rw [← hW]
    clear hW
    refine hch.mono ?_
    rintro e w1 ⟨rfl, hb1⟩
    have hb01 := HB0.out.trans (hb1.mono HB0.out.size)
    have h1 := HH.out.below hb01
    have hz1 := hb1.size
    have k1 := (hb1.block w.heap.size (by omega)).trans HK0.out
    have y0 : w1.cell? ⟨w.heap.size, 0, none⟩ = some (.string x.k) := cell_of_row _ _ _ _ _ _ k1
    have hof := of_any h1 x.k HX.out.k
    have H1 := hide_it h1
    have HB1 := hide_it hb01
    have HK1 := hide_it k1
    clear hch hb1 hb01 h1 k1 x0 x1 x2 x3
    go_wp2_with fail
    refine hof.mono ?_
    rintro e w2 ⟨⟨q, rfl, hq⟩, hw2⟩
    obtain rfl := hw2.symm
    clear hof hw2
    have hlow := checkE_low HE.out
    rcases hq with ⟨hn, rfl⟩ | ⟨e, hke, rfl⟩
    · have hbg := begin_any H1.out x.k (by omega) hn HM.out
      have HN := hide_it hn
      have HLw := hide_it hlow
      clear hn hlow
      go_wp2_with fail
      refine hbg.mono ?_
      rintro e' w2 ⟨c, b, rfl, h2, hc2⟩
      obtain ⟨e, he, rfl, hhas, hls⟩ := insM_has (e0 := ⟨x.k.data.toList, c, .slice none 0 0, [], []⟩) HN.out
      have k2 := (hc2.block w.heap.size (by omega) (fun e1 => by have := HH.out.lt _ e1; omega)).trans HK1.out
      have hz2 := hc2.size
      have hrow : RowB w2 x.a x.z := (HX.out.row.below HB1.out).chg hc2 HF.out
      have hcl := fun z (hz : Below w2.heap.size w2 z) => bclone_any x.a x.c x.z z (hrow.below hz) HX.out.len HX.out.nil
      have H2 := hide_it h2
      have HA := hide_it (applyA_new HE.out hhas hls)
      have hadd := fun z (hz : Below w2.heap.size w2 z) v (hv : OwnB z w2.heap.size v x.z) => addCall h2 he (by rw [abs_insM _ rfl, tot_insA]; exact HT.out) hz hv x.n x.d HLw.out.1 (by have := HLw.out.2.1; omega)
      have HC2 := hide_it hc2
      have hkl : w.heap.size < w2.heap.size := by omega
      have hnb : ¬ kY.upto F w1 w2 w.heap.size := fun e1 => by
        rcases e1 with e1 | e1
        · have := HH.out.lt _ e1; omega
        · omega
      clear hbg h2 hc2 hrow he hhas hls
      go_wp2_with fail
      refine wp_region_held_drew (S := (fun w' => w'.heap[w.heap.size]? = w2.heap[w.heap.size]?)) (by kernel_rfl) ?_ (fun hHeld => ?_)
      · rfl
      refine take_on (i := 0) (v := ?_) rfl rfl (by kernel_rfl) (by kernel_rfl) (by kernel_rfl) (fun _ _ _ h => h) rfl ?_ hHeld ?_
      rotate_left
      · (intro wq hSq; have xk := hSq.trans k2; have s0 := cell_of_row _ _ 0 _ _ _ xk; have s1 := cell_of_row _ _ 1 _ _ _ xk; have s2 := cell_of_row _ _ 2 _ _ _ xk; have s3 := cell_of_row _ _ 3 _ _ _ xk; go_simp <;> first | with_reducible rfl | rfl)
      simp only [Act.put, List.setIfInBounds_toArray, List.set_cons_zero, List.set_cons_succ]
      refine take_on (i := 1) (v := ?_) rfl rfl (by kernel_rfl) (by kernel_rfl) (by kernel_rfl) (fun _ _ _ h => h) rfl ?_ hHeld ?_
      rotate_left
      · (intro wq hSq; have xk := hSq.trans k2; have s0 := cell_of_row _ _ 0 _ _ _ xk; have s1 := cell_of_row _ _ 1 _ _ _ xk; have s2 := cell_of_row _ _ 2 _ _ _ xk; have s3 := cell_of_row _ _ 3 _ _ _ xk; go_simp <;> first | with_reducible rfl | rfl)
      simp only [Act.put, List.setIfInBounds_toArray, List.set_cons_zero, List.set_cons_succ]
      refine take_on (i := 2) (v := ?_) rfl rfl (by kernel_rfl) (by kernel_rfl) (by kernel_rfl) (fun _ _ _ h => h) rfl ?_ hHeld ?_
      rotate_left
      · (intro wq hSq; have xk := hSq.trans k2; have s0 := cell_of_row _ _ 0 _ _ _ xk; have s1 := cell_of_row _ _ 1 _ _ _ xk; have s2 := cell_of_row _ _ 2 _ _ _ xk; have s3 := cell_of_row _ _ 3 _ _ _ xk; go_simp <;> first | with_reducible rfl | rfl)
      simp only [Act.put, List.setIfInBounds_toArray, List.set_cons_zero, List.set_cons_succ]
      refine take_on (i := 3) (v := ?_) rfl rfl (by kernel_rfl) (by kernel_rfl) (by kernel_rfl) (fun _ _ _ h => h) rfl ?_ hHeld ?_
      rotate_left
      · (intro wq hSq; have xk := hSq.trans k2; have s0 := cell_of_row _ _ 0 _ _ _ xk; have s1 := cell_of_row _ _ 1 _ _ _ xk; have s2 := cell_of_row _ _ 2 _ _ _ xk; have s3 := cell_of_row _ _ 3 _ _ _ xk; go_simp <;> first | with_reducible rfl | rfl)
      simp only [Act.put, List.setIfInBounds_toArray, List.set_cons_zero, List.set_cons_succ]
      refine take_on (i := 4) (v := ?_) rfl rfl (by kernel_rfl) (by kernel_rfl) (by kernel_rfl) (fun _ _ _ h => h) rfl ?_ hHeld ?_
      rotate_left
      · (intro wq hSq; have xk := hSq.trans k2; have s0 := cell_of_row _ _ 0 _ _ _ xk; have s1 := cell_of_row _ _ 1 _ _ _ xk; have s2 := cell_of_row _ _ 2 _ _ _ xk; have s3 := cell_of_row _ _ 3 _ _ _ xk; go_simp <;> first | with_reducible rfl | rfl)
      simp only [Act.put, List.setIfInBounds_toArray, List.set_cons_zero, List.set_cons_succ]
      refine take_on (i := 6) (v := ?_) rfl rfl (by kernel_rfl) (by kernel_rfl) (by kernel_rfl) (fun _ _ _ h => h) rfl ?_ hHeld ?_
      rotate_left
      · (intro wq hSq; have xk := hSq.trans k2; have s0 := cell_of_row _ _ 0 _ _ _ xk; have s1 := cell_of_row _ _ 1 _ _ _ xk; have s2 := cell_of_row _ _ 2 _ _ _ xk; have s3 := cell_of_row _ _ 3 _ _ _ xk; go_simp <;> first | with_reducible rfl | rfl)
      simp only [Act.put, List.setIfInBounds_toArray, List.set_cons_zero, List.set_cons_succ]
      refine take_on (i := 7) (v := ?_) rfl rfl (by kernel_rfl) (by kernel_rfl) (by kernel_rfl) (fun _ _ _ h => h) rfl ?_ hHeld ?_
      rotate_left
      · (intro wq hSq; have xk := hSq.trans k2; have s0 := cell_of_row _ _ 0 _ _ _ xk; have s1 := cell_of_row _ _ 1 _ _ _ xk; have s2 := cell_of_row _ _ 2 _ _ _ xk; have s3 := cell_of_row _ _ 3 _ _ _ xk; go_simp <;> first | with_reducible rfl | rfl)
      simp only [Act.put, List.setIfInBounds_toArray, List.set_cons_zero, List.set_cons_succ]
      refine take_one (i := 5) rfl (by kernel_rfl) (fun K hK => ?_)
      go_simp
      (refine (hcl _ (Below.refl _ _).drew).mono ?_; rintro e z1 ⟨⟨v, rfl, hv⟩, hz1⟩; have hy1 : Below w2.heap.size w2 z1 := (Below.refl _ _).drew.trans hz1; obtain ⟨a', c', rfl, hcall⟩ := hadd z1 hy1 v hv; clear hv hcl hadd)
      try go_wp2_with fail
      refine hK.out _ _ ?_ (fun hHeld => ?_)
      · exact hy1.block _ hkl
      clear hK K
      try simp only [Act.put, List.setIfInBounds_toArray, List.set_cons_zero, List.set_cons_succ]
      refine take_on (i := 8) (v := ?_) rfl rfl (by kernel_rfl) (by kernel_rfl) (by kernel_rfl) (fun _ _ _ h => h) rfl ?_ hHeld ?_
      rotate_left
      · (intro wq hSq; have xk := hSq.trans k2; have s0 := cell_of_row _ _ 0 _ _ _ xk; have s1 := cell_of_row _ _ 1 _ _ _ xk; have s2 := cell_of_row _ _ 2 _ _ _ xk; have s3 := cell_of_row _ _ 3 _ _ _ xk; go_simp <;> first | with_reducible rfl | rfl)
      simp only [Act.put, List.setIfInBounds_toArray, List.set_cons_zero, List.set_cons_succ]
      refine take_one (i := 9) rfl (by kernel_rfl) (fun K hK => ?_)
      go_simp
      (refine hcall.mono ?_; rintro e z2 ⟨rfl, HR⟩; replace HR := hide_it HR; clear hcall)
      try go_wp2_with fail
      refine hK.out _ _ ?_ (fun hHeld => ?_)
      · exact HR.out.2.block _ hkl hnb
      clear hK K
      try simp only [Act.put, List.setIfInBounds_toArray, List.set_cons_zero, List.set_cons_succ]
      refine take_on (i := 10) (v := ?_) rfl rfl (by kernel_rfl) (by kernel_rfl) (by kernel_rfl) (fun _ _ _ h => h) rfl ?_ hHeld ?_
      rotate_left
      · (intro wq hSq; have xk := hSq.trans k2; have s0 := cell_of_row _ _ 0 _ _ _ xk; have s1 := cell_of_row _ _ 1 _ _ _ xk; have s2 := cell_of_row _ _ 2 _ _ _ xk; have s3 := cell_of_row _ _ 3 _ _ _ xk; go_simp <;> first | with_reducible rfl | rfl)
      simp only [Act.put, List.setIfInBounds_toArray, List.set_cons_zero, List.set_cons_succ]
      refine wpAnyH_done (by kernel_rfl) ?_ _
      go_wp2
      go_ret
      obtain ⟨M2, hM2, ha2⟩ := HR.out.1
      rw [abs_insM _ rfl] at ha2
      exact ⟨by rw [HA.out.1]; rfl, (AppTo.two H1.out.lt HC2.out HR.out.2 hM2 (ha2.trans HA.out.2.symm)).pre HB1.out HH.out.lt⟩
    · obtain ⟨he, hk⟩ := kyOf_some hke
      have hls : lsOf (abs M) x.k.data.toList = e.ls := by rw [lsOf_abs, hke]; rfl
      have hhas : hasK (abs M) x.k.data.toList = true := by rw [hasK_abs, hke]; rfl
      have hrow : RowB w1 x.a x.z := HX.out.row.below HB1.out
      have hcl := fun z (hz : Below w1.heap.size w1 z) => bclone_any x.a x.c x.z z (hrow.below hz) HX.out.len HX.out.nil
      have hA := applyA_has HE.out hhas
      rw [hls, ← hk] at hA
      have HA := hide_it hA
      have HLw := hide_it hlow
      have hadd := fun z (hz : Below w1.heap.size w1 z) v (hv : OwnB z w1.heap.size v x.z) => addCall H1.out he HT.out hz hv x.n x.d hlow.1 (by have := hlow.2.1; omega)
      have hkl : w.heap.size < w1.heap.size := by omega
      have hnb : ¬ F w.heap.size := fun e1 => by have := HH.out.lt _ e1; omega
      have k2 := HK1.out
      clear hlow hrow he hk hke hls hhas hA
      go_wp2_with fail
      refine wp_region_held_drew (S := (fun w' => w'.heap[w.heap.size]? = w1.heap[w.heap.size]?)) (by kernel_rfl) ?_ (fun hHeld => ?_)
      · rfl
      refine take_on (i := 0) (v := ?_) rfl rfl (by kernel_rfl) (by kernel_rfl) (by kernel_rfl) (fun _ _ _ h => h) rfl ?_ hHeld ?_
      rotate_left
      · (intro wq hSq; have xk := hSq.trans k2; have s0 := cell_of_row _ _ 0 _ _ _ xk; have s1 := cell_of_row _ _ 1 _ _ _ xk; have s2 := cell_of_row _ _ 2 _ _ _ xk; have s3 := cell_of_row _ _ 3 _ _ _ xk; go_simp <;> first | with_reducible rfl | rfl)
      simp only [Act.put, List.setIfInBounds_toArray, List.set_cons_zero, List.set_cons_succ]
      refine take_on (i := 1) (v := ?_) rfl rfl (by kernel_rfl) (by kernel_rfl) (by kernel_rfl) (fun _ _ _ h => h) rfl ?_ hHeld ?_
      rotate_left
      · (intro wq hSq; have xk := hSq.trans k2; have s0 := cell_of_row _ _ 0 _ _ _ xk; have s1 := cell_of_row _ _ 1 _ _ _ xk; have s2 := cell_of_row _ _ 2 _ _ _ xk; have s3 := cell_of_row _ _ 3 _ _ _ xk; go_simp <;> first | with_reducible rfl | rfl)
      simp only [Act.put, List.setIfInBounds_toArray, List.set_cons_zero, List.set_cons_succ]
      refine take_on (i := 2) (v := ?_) rfl rfl (by kernel_rfl) (by kernel_rfl) (by kernel_rfl) (fun _ _ _ h => h) rfl ?_ hHeld ?_
      rotate_left
      · (intro wq hSq; have xk := hSq.trans k2; have s0 := cell_of_row _ _ 0 _ _ _ xk; have s1 := cell_of_row _ _ 1 _ _ _ xk; have s2 := cell_of_row _ _ 2 _ _ _ xk; have s3 := cell_of_row _ _ 3 _ _ _ xk; go_simp <;> first | with_reducible rfl | rfl)
      simp only [Act.put, List.setIfInBounds_toArray, List.set_cons_zero, List.set_cons_succ]
      refine take_on (i := 3) (v := ?_) rfl rfl (by kernel_rfl) (by kernel_rfl) (by kernel_rfl) (fun _ _ _ h => h) rfl ?_ hHeld ?_
      rotate_left
      · (intro wq hSq; have xk := hSq.trans k2; have s0 := cell_of_row _ _ 0 _ _ _ xk; have s1 := cell_of_row _ _ 1 _ _ _ xk; have s2 := cell_of_row _ _ 2 _ _ _ xk; have s3 := cell_of_row _ _ 3 _ _ _ xk; go_simp <;> first | with_reducible rfl | rfl)
      simp only [Act.put, List.setIfInBounds_toArray, List.set_cons_zero, List.set_cons_succ]
      refine take_on (i := 4) (v := ?_) rfl rfl (by kernel_rfl) (by kernel_rfl) (by kernel_rfl) (fun _ _ _ h => h) rfl ?_ hHeld ?_
      rotate_left
      · (intro wq hSq; have xk := hSq.trans k2; have s0 := cell_of_row _ _ 0 _ _ _ xk; have s1 := cell_of_row _ _ 1 _ _ _ xk; have s2 := cell_of_row _ _ 2 _ _ _ xk; have s3 := cell_of_row _ _ 3 _ _ _ xk; go_simp <;> first | with_reducible rfl | rfl)
      simp only [Act.put, List.setIfInBounds_toArray, List.set_cons_zero, List.set_cons_succ]
      refine take_on (i := 6) (v := ?_) rfl rfl (by kernel_rfl) (by kernel_rfl) (by kernel_rfl) (fun _ _ _ h => h) rfl ?_ hHeld ?_
      rotate_left
      · (intro wq hSq; have xk := hSq.trans k2; have s0 := cell_of_row _ _ 0 _ _ _ xk; have s1 := cell_of_row _ _ 1 _ _ _ xk; have s2 := cell_of_row _ _ 2 _ _ _ xk; have s3 := cell_of_row _ _ 3 _ _ _ xk; go_simp <;> first | with_reducible rfl | rfl)
      simp only [Act.put, List.setIfInBounds_toArray, List.set_cons_zero, List.set_cons_succ]
      refine take_on (i := 7) (v := ?_) rfl rfl (by kernel_rfl) (by kernel_rfl) (by kernel_rfl) (fun _ _ _ h => h) rfl ?_ hHeld ?_
      rotate_left
      · (intro wq hSq; have xk := hSq.trans k2; have s0 := cell_of_row _ _ 0 _ _ _ xk; have s1 := cell_of_row _ _ 1 _ _ _ xk; have s2 := cell_of_row _ _ 2 _ _ _ xk; have s3 := cell_of_row _ _ 3 _ _ _ xk; go_simp <;> first | with_reducible rfl | rfl)
      simp only [Act.put, List.setIfInBounds_toArray, List.set_cons_zero, List.set_cons_succ]
      refine take_one (i := 5) rfl (by kernel_rfl) (fun K hK => ?_)
      go_simp
      (refine (hcl _ (Below.refl _ _).drew).mono ?_; rintro e z1 ⟨⟨v, rfl, hv⟩, hz1⟩; have hy1 : Below w1.heap.size w1 z1 := (Below.refl _ _).drew.trans hz1; obtain ⟨a', c', rfl, hcall⟩ := hadd z1 hy1 v hv; clear hv hcl hadd)
      try go_wp2_with fail
      refine hK.out _ _ ?_ (fun hHeld => ?_)
      · exact hy1.block _ hkl
      clear hK K
      try simp only [Act.put, List.setIfInBounds_toArray, List.set_cons_zero, List.set_cons_succ]
      refine take_on (i := 8) (v := ?_) rfl rfl (by kernel_rfl) (by kernel_rfl) (by kernel_rfl) (fun _ _ _ h => h) rfl ?_ hHeld ?_
      rotate_left
      · (intro wq hSq; have xk := hSq.trans k2; have s0 := cell_of_row _ _ 0 _ _ _ xk; have s1 := cell_of_row _ _ 1 _ _ _ xk; have s2 := cell_of_row _ _ 2 _ _ _ xk; have s3 := cell_of_row _ _ 3 _ _ _ xk; go_simp <;> first | with_reducible rfl | rfl)
      simp only [Act.put, List.setIfInBounds_toArray, List.set_cons_zero, List.set_cons_succ]
      refine take_one (i := 9) rfl (by kernel_rfl) (fun K hK => ?_)
      go_simp
      (refine hcall.mono ?_; rintro e z2 ⟨rfl, HR⟩; replace HR := hide_it HR; clear hcall)
      try go_wp2_with fail
      refine hK.out _ _ ?_ (fun hHeld => ?_)
      · exact HR.out.2.block _ hkl hnb
      clear hK K
      try simp only [Act.put, List.setIfInBounds_toArray, List.set_cons_zero, List.set_cons_succ]
      refine take_on (i := 10) (v := ?_) rfl rfl (by kernel_rfl) (by kernel_rfl) (by kernel_rfl) (fun _ _ _ h => h) rfl ?_ hHeld ?_
      rotate_left
      · (intro wq hSq; have xk := hSq.trans k2; have s0 := cell_of_row _ _ 0 _ _ _ xk; have s1 := cell_of_row _ _ 1 _ _ _ xk; have s2 := cell_of_row _ _ 2 _ _ _ xk; have s3 := cell_of_row _ _ 3 _ _ _ xk; go_simp <;> first | with_reducible rfl | rfl)
      simp only [Act.put, List.setIfInBounds_toArray, List.set_cons_zero, List.set_cons_succ]
      refine wpAnyH_done (by kernel_rfl) ?_ _
      go_wp2
      go_ret
      obtain ⟨M2, hM2, ha2⟩ := HR.out.1
      exact ⟨by rw [HA.out.1]; rfl, AppTo.pre HB1.out HH.out.lt ⟨⟨_, M2, hM2, ha2.trans HA.out.2.symm⟩, HR.out.2⟩⟩
  · obtain ⟨E, hEq⟩ : ∃ E, E = checkE x := ⟨_, rfl⟩
    have HA := hide_it (applyE_bad (A := abs M) hE)
    rw [← hEq] at hch hE HA
    have hE0 : (E == 0) = false := by simpa using hE
    have hE1 : (E != 0) = true := by simpa using hE
    clear h hx hfar ht hM hb0 k0 hEq
    go_enter Try.func31, Try.ntmps31
    go_wp2_with fail
    rw [← hW]
    clear hW
    refine hch.mono ?_
    rintro e w1 ⟨rfl, hb1⟩
    have HB1 := hide_it (HB0.out.trans (hb1.mono HB0.out.size))
    clear hch hb1 x0 x1 x2 x3
    go_wp2
    go_ret
    exact ⟨by rw [HA.out.1]; rfl, ⟨⟨mb, M, (HH.out.below HB1.out).mono (fun _ hj => .inl hj) (upto_in HH.out.lt HB1.out.size), HA.out.2.symm⟩, .new HB1.out⟩⟩

end Go.Proofs.Ythaknohnccmfoaa
