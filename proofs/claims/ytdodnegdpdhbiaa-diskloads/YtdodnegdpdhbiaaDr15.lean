/- The document's disk: Strike. -/
import Derived.Test.YtdodnegdpdhbiaaDr14
namespace Go.Proofs.Ytdodnegdpdhbiaa
open Go.RowKit

/-- What is kept of an area that is struck, while its bytes are gone through: t of c bytes behind the safe ones. -/
def lstS (bs : List Nat) (k c T t : Nat) : List Nat := if t < c then bs.take (k + t) else crashB bs k c T
theorem lstS_zero (bs : List Nat) (k c T : Nat) : lstS bs k c T 0 = bs.take k := by
  unfold lstS
  split
  · rfl
  · unfold crashB
    rw [if_neg (by omega), show k + c = k by omega]
theorem lstS_end (bs : List Nat) (k c T : Nat) : lstS bs k c T c = crashB bs k c T := if_neg (by omega)
theorem take_at {bs : List Nat} {i : Nat} (h : i < bs.length) : bs.take (i + 1) = bs.take i ++ [at0 bs i] := by
  rw [List.take_add_one, List.getElem?_eq_getElem h]
  unfold at0
  rw [List.getD_eq_getElem?_getD, List.getElem?_eq_getElem h]
  rfl
theorem lstS_step {bs : List Nat} {k c T t : Nat} (h : t + 1 < c) (hc : k + c ≤ bs.length) : lstS bs k c T t ++ [at0 bs (k + t)] = lstS bs k c T (t + 1) := by
  unfold lstS
  rw [if_pos (by omega), if_pos h, ← Nat.add_assoc, take_at (by omega)]
theorem lstS_last {bs : List Nat} {k c T t : Nat} (h : t + 1 = c) (hc : k + c ≤ bs.length) : lstS bs k c T t ++ [at0 bs (k + t) ^^^ T] = lstS bs k c T (t + 1) := by
  subst h
  unfold lstS crashB tear
  rw [if_pos (by omega), if_neg (by omega), if_pos (by omega), ← Nat.add_assoc, take_at (by omega)]
  have hl : (bs.take (k + t) ++ [at0 bs (k + t)]).length - 1 = (bs.take (k + t)).length := by simp
  rw [hl]
  have h2 : at0 (bs.take (k + t) ++ [at0 bs (k + t)]) (bs.take (k + t)).length = at0 bs (k + t) := by
    unfold at0
    rw [List.getD_eq_getElem?_getD, List.getElem?_append_right (Nat.le_refl _)]
    simp
  rw [h2, List.set_append_right _ _ (Nat.le_refl _)]
  simp
theorem crashB_all {bs : List Nat} {k c T : Nat} (h : All8 bs) (hT : T < 256) : All8 (crashB bs k c T) := by
  intro z hz
  unfold crashB at hz
  split at hz
  · unfold tear at hz
    rcases List.mem_or_eq_of_mem_set hz with h1 | rfl
    · exact h z (List.mem_of_mem_take h1)
    · refine Nat.xor_lt_two_pow (n := 8) ?_ hT
      by_cases h0 : 0 < (bs.take (k + c)).length
      · exact h _ (List.mem_of_mem_take (at0_mem (by omega)))
      · have e : bs.take (k + c) = [] := List.eq_nil_of_length_eq_zero (by omega)
        rw [e]
        decide
  · exact h z (List.mem_of_mem_take hz)

theorem rowB_newS (w : World) (z : Nat) : RowB (w.alloc (.cells #[.int .u8 (z : Int)] 5)) (some ⟨w.heap.size, 0, none⟩) [z] := by
  refine .inr ⟨w.heap.size, 0, rfl, by simp, fun i hi => ?_⟩
  have hi' : i = 0 := by simp at hi; omega
  subst hi'
  exact cell_of_row _ _ _ _ _ _ (heap_alloc_new w _)

/-- The areas behind a stroke, as far as they are gone through. -/
def strR (s : Nat → Pt) (j i : Nat) : Pt := if i < j then armX (strX (s i)) 0 (fun _ => ⟨0, 0, 0⟩) i else s i
theorem strR_zero (s : Nat → Pt) : strR s 0 = s := by funext i; unfold strR; rw [if_neg (by omega)]
theorem strR_succ (s : Nat → Pt) (j : Nat) : upd (strR s j) j (armX (strX (s j)) 0 (fun _ => ⟨0, 0, 0⟩) j) = strR s (j + 1) := by
  funext i
  unfold upd strR
  by_cases e : i = j
  · subst e; rw [if_pos rfl, if_pos (by omega)]
  · rw [if_neg e]
    by_cases h : i < j
    · rw [if_pos h, if_pos (by omega)]
    · rw [if_neg h, if_neg (by omega)]
theorem strR_all (s : Nat → Pt) (n : Nat) : strR s n = strS s n := by
  funext i
  unfold strR strS armTo strTo
  by_cases h : i < n
  · rw [if_pos h, if_pos h, if_pos h]
  · rw [if_neg h, if_neg h, if_neg h]
theorem kpt_le (x : Pt) (h : x.k ≤ x.bs.length) : x.k + kpt x ≤ x.bs.length := by unfold kpt; omega
theorem strR_ok {x : Pt} (h : PtOk x) (i : Nat) : PtOk (armX (strX x) 0 (fun _ => ⟨0, 0, 0⟩) i) := by
  refine armX_ok ?_ 0 _ i (fun i hi => by omega)
  have hl := crashB_len x.bs x.k (kpt x) x.ft (kpt_le x h.le)
  have h1 := kpt_le x h.le
  have h2 := h.len
  have h3 := h.room
  exact ⟨by unfold strX; simp only; omega, crashB_all h.all h.ft, by unfold strX; simp only; omega, by unfold strX; simp only; omega, h.cnt, h.ft⟩

section
variable {w : World} {F : Nat → Prop} {a : Option Addr} {n c : Nat} {am : Bool} {s : Nat → Pt}
set_option maxRecDepth 100000 in
set_option maxHeartbeats 3200000 in
theorem strikeR (h : Dd w F a n s) (hF : ∀ b, F b → b < w.heap.size) (hfk : ∀ i, i < n → (s i).fk ≤ 9223372036854775807) (hz : am = false → ∀ i, i < n → (s i).fk = 0 ∧ (s i).ft = 0) :
    Calls Try.prog 60 #[valD a n c am] w fun e w' => ∃ v, e = .returned v ∧ NewD w F n false (strS s n) v w' := by
  have hb0 : Below w.heap.size w ((w.alloc (.cells #[.slice a n c, .bool am] 45)).alloc (.cells #[.slice none 0 0, .bool false] 45)) := ((Below.refl _ _).alloc (Nat.le_refl _) _).alloc (by simp) _
  obtain ⟨hB, hZ⟩ := box2 w a n c am (W := ((w.alloc (.cells #[.slice a n c, .bool am] 45)).alloc (.cells #[.slice none 0 0, .bool false] 45))) (by simpa using Below.refl _ _)
  obtain ⟨G, hG⟩ : ∃ G : Nat → Prop, G = fun b => (F b ∨ b = w.heap.size) ∨ b = w.heap.size + 1 := ⟨_, rfl⟩
  have hd : Hid (Dd w G a n s) := hide_it (by rw [hG]; exact (h.beside _ (Nat.le_refl _)).beside _ (by omega))
  have HG : Hid (∀ b, G b → b < w.heap.size + 1 + 1) := hide_it (by
    rw [hG]
    rintro b ((hb | hb) | hb)
    · have := hF b hb; omega
    · omega
    · omega)
  have HG2 : Hid (G w.heap.size ∧ G (w.heap.size + 1) ∧ ∀ b, F b → G b) := hide_it (by rw [hG]; exact ⟨.inl (.inr rfl), .inr rfl, fun b hb => .inl (.inl hb)⟩)
  have hn := h.few.2
  have HK := hide_it hfk
  have HZ := hide_it hz
  have HB0 := hide_it hb0
  have HBX := hide_it hB
  have HZX := hide_it hZ
  clear h hF hG hfk hz hb0 hB hZ
  go_enter Try.func60, Try.ntmps60
  go_wp2_with fail
  go_loopw [12, 3, 4, 5, 6, 7, 8] (fun i _ _ _ _ _ _ wr => ∃ j : Nat, j ≤ n ∧ i = .int .i64 (j : Int) ∧ Hid (∃ a' c', ArmI w G am n (strR s j) wr a' c')) (fun i _ _ _ _ _ _ _ => n - (intOf i).toNat)
  case atStart => exact ⟨0, by omega, rfl, a, c, HBX.out, HZX.out, by rw [strR_zero]; exact hd.out.below HB0.out, HB0.out, by simp⟩
  case round =>
    obtain ⟨wo, rfl⟩ : ∃ x, x = wr := ⟨wr, rfl⟩
    obtain ⟨j, hj, rfl, hR⟩ := hrel
    obtain ⟨a', c', hI⟩ := hR.out
    have HI := hide_it hI
    obtain ⟨hBr, hZr, hDr, hbr, hsr⟩ := hI
    clear hR
    have hl0 : w.heap.size < wo.heap.size := by omega
    have hl1 : w.heap.size + 1 < wo.heap.size := by omega
    by_cases hlt : j < n
    · obtain ⟨b, o, hab, hbl, _, hrr⟩ := (hd.out.below hbr).row
      subst hab
      obtain ⟨ra, rc, hv, hrow, hfar, hrc, hnil⟩ := hrr j hlt
      have hok0 := hd.out.ok j hlt
      have hok := strR_ok hok0 j
      have hfk := HK.out j hlt
      have hzz : am = false → (s j).fk = 0 ∧ (s j).ft = 0 := fun e => HZ.out e j hlt
      obtain ⟨y, hy⟩ : ∃ y, y = s j := ⟨_, rfl⟩
      rw [← hy] at hv hrow hfar hrc hnil hok hok0 hfk hzz
      have HY := hide_it hy
      obtain ⟨c0, c1, c2, c3, c4, c5, c6⟩ := hv
      have d0 := cell_of_row _ _ 0 _ _ _ hBr
      have d1 := cell_of_row _ _ 1 _ _ _ hBr
      simp only [List.getElem?_toArray, List.getElem?_cons_zero, List.getElem?_cons_succ] at d0 d1
      have HBr := hide_it hBr
      have HDr := hide_it hDr
      have HOK := hide_it hok
      have HO0 := hide_it hok0
      have hyk := hok0.le
      have hyl := hok0.len
      have hkc : y.k ≤ rc := by omega
      obtain ⟨ad, had⟩ : ∃ x, (if rc = y.k then ra else ra.map (·.add y.k)) = x := ⟨_, rfl⟩
      have hpc := rowB_drop hrow hrc y.k hyk
      rw [had] at hpc
      have HPC := hide_it hpc
      have HPT := hide_it (rowB_take hrow y.k)
      obtain ⟨N1, hN1⟩ : ∃ N, N = y.bs.take y.k := ⟨_, rfl⟩
      have HNL : Hid (N1.length = y.k) := hide_it (by rw [hN1]; simp; omega)
      have HNN := hide_it hN1
      have HNI : Hid (ra = none → N1.length = 0 ∧ rc = 0) := hide_it (fun e => by have := hnil e; rw [HNL.out]; omega)
      obtain ⟨L, hL⟩ : ∃ L, L = y.bs.length - y.k := ⟨_, rfl⟩
      have hwL : IntKind.i64.wrap ((y.bs.length : Int) - (y.k : Int)) = (L : Int) := by rw [IntKind.wrap_i64]; omega
      have hwL1 : IntKind.i64.wrap ((L : Int) - 1) = (L : Int) - 1 := by rw [IntKind.wrap_i64]; omega
      have HLL := hide_it hL
      have HZZ := hide_it hzz
      have HFK := hide_it hfk
      clear hzz hfk
      have HYL := hide_it hyl
      have HYK := hide_it hyk
      clear hBr hZr hDr hbr hrow hfar hrr hok hok0 hy hpc hN1 hnil hL hyl
      cases am
      · have hE := owb_empty ((wo.alloc (.cells #[.int .i64 (y.B : Int), .int .i64 (y.k : Int), .int .i64 (y.c : Int), .slice ra y.bs.length rc, .int .i64 y.fd, .int .i64 y.fk, .int .u8 (y.ft : Int)] 108)).alloc (.cells #[.int .i64 0, .int .i64 0, .int .u8 0] 70))
        rw [World.size_alloc, World.size_alloc] at hE
        have HE := hide_it hE
        have HX : Hid (Below wo.heap.size wo ((wo.alloc (.cells #[.int .i64 (y.B : Int), .int .i64 (y.k : Int), .int .i64 (y.c : Int), .slice ra y.bs.length rc, .int .i64 y.fd, .int .i64 y.fk, .int .u8 (y.ft : Int)] 108)).alloc (.cells #[.int .i64 0, .int .i64 0, .int .u8 0] 70))) := hide_it (((Below.refl _ _).alloc (Nat.le_refl _) _).alloc (by simp) _)
        have HRA : Hid (RowB (((wo.alloc (.cells #[.int .i64 (y.B : Int), .int .i64 (y.k : Int), .int .i64 (y.c : Int), .slice ra y.bs.length rc, .int .i64 y.fd, .int .i64 y.fk, .int .u8 (y.ft : Int)] 108)).alloc (.cells #[.int .i64 0, .int .i64 0, .int .u8 0] 70)).alloc (.cells #[] 5)) ra N1) := hide_it (RowB.below (by rw [HNN.out]; exact HPT.out) ((HX.out).alloc (by simp; omega) _))
        clear hE
        go_wp2_with (at_builtin; refine wpList_appendB _ rfl _ _ rfl (wo.heap.size + 1 + 1) _ [] rfl HE.out ra rc N1 (by rw [HNL.out]; rfl) HRA.out HNI.out (by have := HYL.out; have := HYK.out; have := HNL.out; simp; omega) (by simp) ?_; intro v5 w5 hown5 hg5 hat5; rw [List.nil_append] at hown5; have hb5 : Below (wo.heap.size + 1 + 1) ((wo.alloc (.cells #[.int .i64 (y.B : Int), .int .i64 (y.k : Int), .int .i64 (y.c : Int), .slice ra y.bs.length rc, .int .i64 y.fd, .int .i64 y.fk, .int .u8 (y.ft : Int)] 108)).alloc (.cells #[.int .i64 0, .int .i64 0, .int .u8 0] 70)) w5 := ((Below.refl _ _).alloc (by simp) _).grown hg5 (by simp) (fun k e => by have e2 : some (wo.heap.size + 1 + 1) = some k := e; have := Option.some.inj e2; omega); have hA5 := (hb5.block wo.heap.size (by omega)).trans ((Below.heap_alloc _ _ _ (by simp)).trans (heap_alloc_new wo _)); have p1 := cell_of_row _ _ 1 _ _ _ hA5; have p3 := cell_of_row _ _ 3 _ _ _ hA5; simp only [List.getElem?_toArray, List.getElem?_cons_zero, List.getElem?_cons_succ] at p1 p3; have HO5 := hide_it hown5; have HB5 := hide_it hb5; clear hown5 hg5 hat5 hb5 hA5)
        have hqL := HLL.out
        obtain ⟨q, hq⟩ : ∃ q, q = kpt y := ⟨_, rfl⟩
        have HQ := hide_it hq
        have hq1 : Hid (q ≤ L ∧ y.k + q ≤ y.bs.length) := hide_it (by have := HYK.out; unfold kpt at hq; omega)
        clear hq
        obtain ⟨M, hM⟩ : ∃ M, M = y.k + q := ⟨_, rfl⟩
        have HM := hide_it hM
        clear hM
        rw [← hqL]
        clear hqL p1 p3 had c0 c1 c2 c3 c4 c5 c6 d0 d1 HE HRA
        have hq0 : Hid (q = 0) := hide_it (by rw [HQ.out]; unfold kpt; rw [(HZZ.out (by simp)).1]; simp)
        go_loopw [36, 6, 7, 8] (fun i v _ _ wi => ∃ t : Nat, t ≤ q ∧ i = .int .i64 (t : Int) ∧ Hid (OwB wi (wo.heap.size + 1 + 1) v (lstS y.bs y.k q y.ft t) ∧ Below (wo.heap.size + 1 + 1) ((wo.alloc (.cells #[.int .i64 (y.B : Int), .int .i64 (y.k : Int), .int .i64 (y.c : Int), .slice ra y.bs.length rc, .int .i64 y.fd, .int .i64 y.fk, .int .u8 (y.ft : Int)] 108)).alloc (.cells #[.int .i64 0, .int .i64 0, .int .u8 0] 70)) wi)) (fun i _ _ _ _ => q - (intOf i).toNat)
        case atStart => exact ⟨0, by omega, rfl, by rw [lstS_zero, ← HNN.out]; exact HO5.out, HB5.out⟩
        case round =>
          obtain ⟨t, ht, rfl, hR2⟩ := hrel
          obtain ⟨hO, hBel⟩ := hR2.out
          clear hR2
          have hs2 := hBel.size
          rw [World.size_alloc, World.size_alloc] at hs2
          have hbw : Below wo.heap.size wo wr := HX.out.trans (hBel.mono (by omega))
          have hlw : w.heap.size < wr.heap.size := by omega
          have hA := (hBel.block wo.heap.size (by omega)).trans ((Below.heap_alloc _ _ _ (by simp)).trans (heap_alloc_new wo _))
          have hnf := heap_alloc_new (wo.alloc (.cells #[.int .i64 (y.B : Int), .int .i64 (y.k : Int), .int .i64 (y.c : Int), .slice ra y.bs.length rc, .int .i64 y.fd, .int .i64 y.fk, .int .u8 (y.ft : Int)] 108)) (.cells #[.int .i64 0, .int .i64 0, .int .u8 0] 70)
          rw [World.size_alloc] at hnf
          have hFt := (hBel.block (wo.heap.size + 1) (by omega)).trans hnf
          have hDb := (hbw.block w.heap.size hl0).trans HBr.out
          have p0 := cell_of_row _ _ 0 _ _ _ hA
          have p1 := cell_of_row _ _ 1 _ _ _ hA
          have p3 := cell_of_row _ _ 3 _ _ _ hA
          have g1 := cell_of_row _ _ 1 _ _ _ hFt
          have g2 := cell_of_row _ _ 2 _ _ _ hFt
          have d0 := cell_of_row _ _ 0 _ _ _ hDb
          have d1 := cell_of_row _ _ 1 _ _ _ hDb
          simp only [List.getElem?_toArray, List.getElem?_cons_zero, List.getElem?_cons_succ] at p0 p1 p3 g1 g2 d0 d1
          have hpd := RowB.below HPC.out hbw
          have hdl : (y.bs.drop y.k).length = L := by rw [HLL.out]; simp
          have hrd : ∀ z, z < L → ∃ b2 o2, ad = some ⟨b2, o2, none⟩ ∧ b2 < wr.heap.size ∧ wr.cell? ⟨b2, o2 + z, none⟩ = some (.int .u8 (at0 y.bs (y.k + z) : Int)) := fun z hz => by
            obtain ⟨b2, o2, e, hb2, hc2⟩ := hpd.here (i := z) (by omega)
            refine ⟨b2, o2, e, hb2, (hc2 z (by omega)).trans ?_⟩
            unfold at0
            rw [List.getD_eq_getElem?_getD, List.getD_eq_getElem?_getD, List.getElem?_drop]
          have HRD := hide_it hrd
          have HBS := hide_it (show wo.heap.size + 1 + 1 ≤ wr.heap.size by omega)
          have HO := hide_it hO
          have HBel := hide_it hBel
          have HBW := hide_it hbw
          clear hA hnf hFt hDb hpd hdl hrd hO hBel hbw hs2
          have hq1' := hq1.out
          have hq0' := hq0.out
          have hq0H := hide_it hq0'
          clear hq0
          obtain rfl : t = 0 := by omega
          by_cases hL0 : L = 0
          · have hLn : ¬ ((0 : Nat) : Int) < (L : Int) := by omega
            · have HTQ : Hid (0 = q) := hide_it (by omega)
              have hlen : (lstS y.bs y.k q y.ft 0).length = M := by rw [HTQ.out, lstS_end, crashB_len _ _ _ _ hq1.out.2, HM.out]
              obtain ⟨na, nc, hv, hrowN, hncN, _, hnnN⟩ := HO.out.row
              rw [hlen] at hv hncN hnnN
              subst hv
              have hbs : lstS y.bs y.k q y.ft 0 = crashB y.bs y.k (kpt y) y.ft := by rw [HTQ.out, lstS_end, HQ.out]
              have hcl : (crashB y.bs y.k (kpt y) y.ft).length = M := by rw [← hbs]; exact hlen
              rw [hbs] at hrowN
              have hcall := withX (c := c') (am := false) (X := wr) HDr.out (fun b hb => Nat.lt_of_lt_of_le (HG.out b hb) hsr) HBW.out (j : Int) (by unfold inD; simp; omega) (armX (strX y) 0 (fun _ => ⟨0, 0, 0⟩) j) HOK.out na nc hrowN (fun ad e => by have := (HO.out.inside ad.block (by rw [e]; rfl)).1; omega) (by show (crashB y.bs y.k (kpt y) y.ft).length ≤ nc; rw [hcl]; exact hncN) (by show na = none → (crashB y.bs y.k (kpt y) y.ft).length = 0 ∧ nc = 0; rw [hcl]; exact hnnN) (B := (y.B : Int)) (k := (M : Int)) (C := 0) (j := M) (fd := 0) (fk := 0) (ft := 0) rfl (by show ((y.k + kpt y : Nat) : Int) = (M : Int); rw [HM.out, HQ.out]) rfl hcl (by unfold armX; simp) (by unfold armX; simp) (by unfold armX; simp)
              have HCL := hide_it hcall
              clear hcall hrowN hncN hnnN hbs hcl hlen
              go_wp2_with fail
              refine HCL.out.mono ?_
              rintro e w6 ⟨a6, c6', rfl, hD6, hb6⟩
              rw [Int.toNat_natCast, HY.out, strR_succ] at hD6
              have hB6 := (hb6.block _ hl0).trans HBr.out
              have hst := hide_it (HI.out.step (c6 := c6') HG2.out.1 hb6 hD6)
              have z0 := cell_of_row _ _ 0 _ _ _ hB6
              have z1 := cell_of_row _ _ 1 _ _ _ hB6
              have f0 := frozen_of_row _ _ 0 _ _ hB6
              have f1 := frozen_of_row _ _ 1 _ _ hB6
              simp only [List.getElem?_toArray, List.getElem?_cons_zero, List.getElem?_cons_succ] at z0 z1
              clear HCL hD6 hb6 hB6 d0 d1 p0 p1 p3 g1 g2 HRD HO HBel HBW HTQ hq0H hq1 hwL hwL1 hlw
              go_wp2_with fail
              go_roundw
              case rel => exact ⟨j + 1, by omega, by go_num, a6, c6', hst.out⟩
              case measure => simp [intOf]; omega
          · have hLn : ((0 : Nat) : Int) < (L : Int) := by omega
            obtain ⟨b2, o2, e2, hb2, x0⟩ := HRD.out 0 (by omega)
            subst e2
            simp only [Nat.add_zero] at x0
            · have HTQ : Hid (0 = q) := hide_it (by omega)
              have hlen : (lstS y.bs y.k q y.ft 0).length = M := by rw [HTQ.out, lstS_end, crashB_len _ _ _ _ hq1.out.2, HM.out]
              obtain ⟨na, nc, hv, hrowN, hncN, _, hnnN⟩ := HO.out.row
              rw [hlen] at hv hncN hnnN
              subst hv
              have hbs : lstS y.bs y.k q y.ft 0 = crashB y.bs y.k (kpt y) y.ft := by rw [HTQ.out, lstS_end, HQ.out]
              have hcl : (crashB y.bs y.k (kpt y) y.ft).length = M := by rw [← hbs]; exact hlen
              rw [hbs] at hrowN
              have hcall := withX (c := c') (am := false) (X := wr) HDr.out (fun b hb => Nat.lt_of_lt_of_le (HG.out b hb) hsr) HBW.out (j : Int) (by unfold inD; simp; omega) (armX (strX y) 0 (fun _ => ⟨0, 0, 0⟩) j) HOK.out na nc hrowN (fun ad e => by have := (HO.out.inside ad.block (by rw [e]; rfl)).1; omega) (by show (crashB y.bs y.k (kpt y) y.ft).length ≤ nc; rw [hcl]; exact hncN) (by show na = none → (crashB y.bs y.k (kpt y) y.ft).length = 0 ∧ nc = 0; rw [hcl]; exact hnnN) (B := (y.B : Int)) (k := (M : Int)) (C := 0) (j := M) (fd := 0) (fk := 0) (ft := 0) rfl (by show ((y.k + kpt y : Nat) : Int) = (M : Int); rw [HM.out, HQ.out]) rfl hcl (by unfold armX; simp) (by unfold armX; simp) (by unfold armX; simp)
              have HCL := hide_it hcall
              clear hcall hrowN hncN hnnN hbs hcl hlen
              go_wp2_with fail
              refine HCL.out.mono ?_
              rintro e w6 ⟨a6, c6', rfl, hD6, hb6⟩
              rw [Int.toNat_natCast, HY.out, strR_succ] at hD6
              have hB6 := (hb6.block _ hl0).trans HBr.out
              have hst := hide_it (HI.out.step (c6 := c6') HG2.out.1 hb6 hD6)
              have z0 := cell_of_row _ _ 0 _ _ _ hB6
              have z1 := cell_of_row _ _ 1 _ _ _ hB6
              have f0 := frozen_of_row _ _ 0 _ _ hB6
              have f1 := frozen_of_row _ _ 1 _ _ hB6
              simp only [List.getElem?_toArray, List.getElem?_cons_zero, List.getElem?_cons_succ] at z0 z1
              clear HCL hD6 hb6 hB6 d0 d1 p0 p1 p3 g1 g2 HRD HO HBel HBW HTQ hq0H hq1 hwL hwL1 hlw
              go_wp2_with fail
              go_roundw
              case rel => exact ⟨j + 1, by omega, by go_num, a6, c6', hst.out⟩
              case measure => simp [intOf]; omega
      · have hE := owb_empty ((wo.alloc (.cells #[.int .i64 (y.B : Int), .int .i64 (y.k : Int), .int .i64 (y.c : Int), .slice ra y.bs.length rc, .int .i64 y.fd, .int .i64 y.fk, .int .u8 (y.ft : Int)] 108)).alloc (.cells #[.int .i64 y.fd, .int .i64 y.fk, .int .u8 (y.ft : Int)] 70))
        rw [World.size_alloc, World.size_alloc] at hE
        have HE := hide_it hE
        have HX : Hid (Below wo.heap.size wo ((wo.alloc (.cells #[.int .i64 (y.B : Int), .int .i64 (y.k : Int), .int .i64 (y.c : Int), .slice ra y.bs.length rc, .int .i64 y.fd, .int .i64 y.fk, .int .u8 (y.ft : Int)] 108)).alloc (.cells #[.int .i64 y.fd, .int .i64 y.fk, .int .u8 (y.ft : Int)] 70))) := hide_it (((Below.refl _ _).alloc (Nat.le_refl _) _).alloc (by simp) _)
        have HRA : Hid (RowB (((wo.alloc (.cells #[.int .i64 (y.B : Int), .int .i64 (y.k : Int), .int .i64 (y.c : Int), .slice ra y.bs.length rc, .int .i64 y.fd, .int .i64 y.fk, .int .u8 (y.ft : Int)] 108)).alloc (.cells #[.int .i64 y.fd, .int .i64 y.fk, .int .u8 (y.ft : Int)] 70)).alloc (.cells #[] 5)) ra N1) := hide_it (RowB.below (by rw [HNN.out]; exact HPT.out) ((HX.out).alloc (by simp; omega) _))
        clear hE
        go_wp2_with (at_builtin; refine wpList_appendB _ rfl _ _ rfl (wo.heap.size + 1 + 1) _ [] rfl HE.out ra rc N1 (by rw [HNL.out]; rfl) HRA.out HNI.out (by have := HYL.out; have := HYK.out; have := HNL.out; simp; omega) (by simp) ?_; intro v5 w5 hown5 hg5 hat5; rw [List.nil_append] at hown5; have hb5 : Below (wo.heap.size + 1 + 1) ((wo.alloc (.cells #[.int .i64 (y.B : Int), .int .i64 (y.k : Int), .int .i64 (y.c : Int), .slice ra y.bs.length rc, .int .i64 y.fd, .int .i64 y.fk, .int .u8 (y.ft : Int)] 108)).alloc (.cells #[.int .i64 y.fd, .int .i64 y.fk, .int .u8 (y.ft : Int)] 70)) w5 := ((Below.refl _ _).alloc (by simp) _).grown hg5 (by simp) (fun k e => by have e2 : some (wo.heap.size + 1 + 1) = some k := e; have := Option.some.inj e2; omega); have hA5 := (hb5.block wo.heap.size (by omega)).trans ((Below.heap_alloc _ _ _ (by simp)).trans (heap_alloc_new wo _)); have p1 := cell_of_row _ _ 1 _ _ _ hA5; have p3 := cell_of_row _ _ 3 _ _ _ hA5; simp only [List.getElem?_toArray, List.getElem?_cons_zero, List.getElem?_cons_succ] at p1 p3; have HO5 := hide_it hown5; have HB5 := hide_it hb5; clear hown5 hg5 hat5 hb5 hA5)
        have hqL := HLL.out
        obtain ⟨q, hq⟩ : ∃ q, q = kpt y := ⟨_, rfl⟩
        have HQ := hide_it hq
        have hq1 : Hid (q ≤ L ∧ y.k + q ≤ y.bs.length) := hide_it (by have := HYK.out; unfold kpt at hq; omega)
        clear hq
        obtain ⟨M, hM⟩ : ∃ M, M = y.k + q := ⟨_, rfl⟩
        have HM := hide_it hM
        clear hM
        rw [← hqL]
        clear hqL p1 p3 had c0 c1 c2 c3 c4 c5 c6 d0 d1 HE HRA
        have hq0 : Hid (q = min y.fk.toNat L) := hide_it (by rw [HQ.out, HLL.out]; rfl)
        have HFT : Hid (y.ft < 256 ∧ All8 y.bs) := hide_it ⟨HO0.out.ft, HO0.out.all⟩
        have hwf : Hid (0 < y.fk → IntKind.i64.wrap (y.fk - 1) = y.fk - 1) := hide_it (fun h => by have := HFK.out; rw [IntKind.wrap_i64]; omega)
        go_loopw [36, 6, 7, 8] (fun i v _ _ wi => ∃ t : Nat, t ≤ q ∧ i = .int .i64 (t : Int) ∧ Hid (OwB wi (wo.heap.size + 1 + 1) v (lstS y.bs y.k q y.ft t) ∧ Below (wo.heap.size + 1 + 1) ((wo.alloc (.cells #[.int .i64 (y.B : Int), .int .i64 (y.k : Int), .int .i64 (y.c : Int), .slice ra y.bs.length rc, .int .i64 y.fd, .int .i64 y.fk, .int .u8 (y.ft : Int)] 108)).alloc (.cells #[.int .i64 y.fd, .int .i64 y.fk, .int .u8 (y.ft : Int)] 70)) wi)) (fun i _ _ _ _ => q - (intOf i).toNat)
        case atStart => exact ⟨0, by omega, rfl, by rw [lstS_zero, ← HNN.out]; exact HO5.out, HB5.out⟩
        case round =>
          obtain ⟨t, ht, rfl, hR2⟩ := hrel
          obtain ⟨hO, hBel⟩ := hR2.out
          clear hR2
          have hs2 := hBel.size
          rw [World.size_alloc, World.size_alloc] at hs2
          have hbw : Below wo.heap.size wo wr := HX.out.trans (hBel.mono (by omega))
          have hlw : w.heap.size < wr.heap.size := by omega
          have hA := (hBel.block wo.heap.size (by omega)).trans ((Below.heap_alloc _ _ _ (by simp)).trans (heap_alloc_new wo _))
          have hnf := heap_alloc_new (wo.alloc (.cells #[.int .i64 (y.B : Int), .int .i64 (y.k : Int), .int .i64 (y.c : Int), .slice ra y.bs.length rc, .int .i64 y.fd, .int .i64 y.fk, .int .u8 (y.ft : Int)] 108)) (.cells #[.int .i64 y.fd, .int .i64 y.fk, .int .u8 (y.ft : Int)] 70)
          rw [World.size_alloc] at hnf
          have hFt := (hBel.block (wo.heap.size + 1) (by omega)).trans hnf
          have hDb := (hbw.block w.heap.size hl0).trans HBr.out
          have p0 := cell_of_row _ _ 0 _ _ _ hA
          have p1 := cell_of_row _ _ 1 _ _ _ hA
          have p3 := cell_of_row _ _ 3 _ _ _ hA
          have g1 := cell_of_row _ _ 1 _ _ _ hFt
          have g2 := cell_of_row _ _ 2 _ _ _ hFt
          have d0 := cell_of_row _ _ 0 _ _ _ hDb
          have d1 := cell_of_row _ _ 1 _ _ _ hDb
          simp only [List.getElem?_toArray, List.getElem?_cons_zero, List.getElem?_cons_succ] at p0 p1 p3 g1 g2 d0 d1
          have hpd := RowB.below HPC.out hbw
          have hdl : (y.bs.drop y.k).length = L := by rw [HLL.out]; simp
          have hrd : ∀ z, z < L → ∃ b2 o2, ad = some ⟨b2, o2, none⟩ ∧ b2 < wr.heap.size ∧ wr.cell? ⟨b2, o2 + z, none⟩ = some (.int .u8 (at0 y.bs (y.k + z) : Int)) := fun z hz => by
            obtain ⟨b2, o2, e, hb2, hc2⟩ := hpd.here (i := z) (by omega)
            refine ⟨b2, o2, e, hb2, (hc2 z (by omega)).trans ?_⟩
            unfold at0
            rw [List.getD_eq_getElem?_getD, List.getD_eq_getElem?_getD, List.getElem?_drop]
          have HRD := hide_it hrd
          have HBS := hide_it (show wo.heap.size + 1 + 1 ≤ wr.heap.size by omega)
          have HO := hide_it hO
          have HBel := hide_it hBel
          have HBW := hide_it hbw
          clear hA hnf hFt hDb hpd hdl hrd hO hBel hbw hs2
          have hq1' := hq1.out
          have hq0' := hq0.out
          have hq0H := hide_it hq0'
          clear hq0
          by_cases hLt : t < L
          · have hLn : (t : Int) < (L : Int) := by omega
            obtain ⟨b2, o2, e2, hb2, x0⟩ := HRD.out t hLt
            subst e2
            by_cases hbk : y.fk ≤ (t : Int)
            · have HTQ : Hid (t = q) := hide_it (by omega)
              have hlen : (lstS y.bs y.k q y.ft t).length = M := by rw [HTQ.out, lstS_end, crashB_len _ _ _ _ hq1.out.2, HM.out]
              obtain ⟨na, nc, hv, hrowN, hncN, _, hnnN⟩ := HO.out.row
              rw [hlen] at hv hncN hnnN
              subst hv
              have hbs : lstS y.bs y.k q y.ft t = crashB y.bs y.k (kpt y) y.ft := by rw [HTQ.out, lstS_end, HQ.out]
              have hcl : (crashB y.bs y.k (kpt y) y.ft).length = M := by rw [← hbs]; exact hlen
              rw [hbs] at hrowN
              have hcall := withX (c := c') (am := true) (X := wr) HDr.out (fun b hb => Nat.lt_of_lt_of_le (HG.out b hb) hsr) HBW.out (j : Int) (by unfold inD; simp; omega) (armX (strX y) 0 (fun _ => ⟨0, 0, 0⟩) j) HOK.out na nc hrowN (fun ad e => by have := (HO.out.inside ad.block (by rw [e]; rfl)).1; omega) (by show (crashB y.bs y.k (kpt y) y.ft).length ≤ nc; rw [hcl]; exact hncN) (by show na = none → (crashB y.bs y.k (kpt y) y.ft).length = 0 ∧ nc = 0; rw [hcl]; exact hnnN) (B := (y.B : Int)) (k := (M : Int)) (C := 0) (j := M) (fd := 0) (fk := 0) (ft := 0) rfl (by show ((y.k + kpt y : Nat) : Int) = (M : Int); rw [HM.out, HQ.out]) rfl hcl (by unfold armX; simp) (by unfold armX; simp) (by unfold armX; simp)
              have HCL := hide_it hcall
              clear hcall hrowN hncN hnnN hbs hcl hlen
              go_wp2_with fail
              refine HCL.out.mono ?_
              rintro e w6 ⟨a6, c6', rfl, hD6, hb6⟩
              rw [Int.toNat_natCast, HY.out, strR_succ] at hD6
              have hB6 := (hb6.block _ hl0).trans HBr.out
              have hst := hide_it (HI.out.step (c6 := c6') HG2.out.1 hb6 hD6)
              have z0 := cell_of_row _ _ 0 _ _ _ hB6
              have z1 := cell_of_row _ _ 1 _ _ _ hB6
              have f0 := frozen_of_row _ _ 0 _ _ hB6
              have f1 := frozen_of_row _ _ 1 _ _ hB6
              simp only [List.getElem?_toArray, List.getElem?_cons_zero, List.getElem?_cons_succ] at z0 z1
              clear HCL hD6 hb6 hB6 d0 d1 p0 p1 p3 g1 g2 HRD HO HBel HBW HTQ hq0H hq1 hwL hwL1 hlw
              go_wp2_with fail
              go_roundw
              case rel => exact ⟨j + 1, by omega, by go_num, a6, c6', hst.out⟩
              case measure => simp [intOf]; omega
            · have hw5 := hwf.out (by omega)
              have hx8 : at0 y.bs (y.k + t) < 256 := HFT.out.2 _ (at0_mem (by omega))
              have hxo := u8_xor_nat _ y.ft hx8 HFT.out.1
              have hll : Hid ((lstS y.bs y.k q y.ft t).length + 1 ≤ 211106232532800) := hide_it (by have := HYL.out; unfold lstS; rw [if_pos (by omega)]; simp; omega)
              obtain ⟨X, hX⟩ : ∃ X, X = at0 y.bs (y.k + t) := ⟨_, rfl⟩
              rw [← hX] at x0 hxo
              have HXX := hide_it hX
              have htq : Hid (t < q) := hide_it (by omega)
              have htb : t + 1 ≤ 211106232532800 := by have := HYL.out; have := HLL.out; omega
              clear hx8 hX
              by_cases h4 : (t : Int) = y.fk - 1
              · have HE4 : Hid (t + 1 = q) := hide_it (by omega)
                replace hw5 := hw5.trans h4.symm
                clear hq0' hq1' hwL hwL1 h4
                go_wp2_with (at_builtin; refine wpList_appendB _ rfl _ _ rfl (wo.heap.size + 1 + 1) _ (lstS y.bs y.k q y.ft t) rfl (HO.out.below ((Below.refl _ _).alloc (Nat.le_refl _) _)) (some ⟨wr.heap.size, 0, none⟩) 1 [X ^^^ y.ft] rfl (rowB_newS wr (X ^^^ y.ft)) (fun e => by cases e) hll.out (by have := HBS.out; simp; omega) ?_; intro v7 w7 hown7 hg7 hat7; have hb7 := (HBel.out.alloc HBS.out _).grown hg7 (by have := HBS.out; simp; omega) (fun k e => (HO.out.inside k e).1); have HO7 := hide_it hown7; have HB7 := hide_it hb7; clear hown7 hg7 hat7 hb7)
                go_roundw
                case rel => exact ⟨t + 1, by have := htq.out; omega, by go_num, by rw [← lstS_last HE4.out hq1.out.2]; rw [← HXX.out]; exact HO7.out, HB7.out⟩
                case measure => have := htq.out; simp [intOf]; omega
              · by_cases h5 : (t : Int) = (L : Int) - 1
                · have HE4 : Hid (t + 1 = q) := hide_it (by omega)
                  have hw6 := hwL1.trans h5.symm
                  obtain ⟨e1, he1⟩ : ∃ e1 : Int, e1 = y.fk - 1 := ⟨_, rfl⟩
                  rw [← he1] at h4
                  replace hw5 := hw5.trans he1.symm
                  clear hq0' hq1' hwL1 h5 he1
                  go_wp2_with (at_builtin; refine wpList_appendB _ rfl _ _ rfl (wo.heap.size + 1 + 1) _ (lstS y.bs y.k q y.ft t) rfl (HO.out.below ((Below.refl _ _).alloc (Nat.le_refl _) _)) (some ⟨wr.heap.size, 0, none⟩) 1 [X ^^^ y.ft] rfl (rowB_newS wr (X ^^^ y.ft)) (fun e => by cases e) hll.out (by have := HBS.out; simp; omega) ?_; intro v7 w7 hown7 hg7 hat7; have hb7 := (HBel.out.alloc HBS.out _).grown hg7 (by have := HBS.out; simp; omega) (fun k e => (HO.out.inside k e).1); have HO7 := hide_it hown7; have HB7 := hide_it hb7; clear hown7 hg7 hat7 hb7)
                  go_roundw
                  case rel => exact ⟨t + 1, by have := htq.out; omega, by go_num, by rw [← lstS_last HE4.out hq1.out.2]; rw [← HXX.out]; exact HO7.out, HB7.out⟩
                  case measure => have := htq.out; simp [intOf]; omega
                · have HE4 : Hid (t + 1 < q) := hide_it (by omega)
                  obtain ⟨l1, hl1⟩ : ∃ l1 : Int, l1 = (L : Int) - 1 := ⟨_, rfl⟩
                  rw [← hl1] at h5
                  replace hwL1 := hwL1.trans hl1.symm
                  obtain ⟨e1, he1⟩ : ∃ e1 : Int, e1 = y.fk - 1 := ⟨_, rfl⟩
                  rw [← he1] at h4
                  replace hw5 := hw5.trans he1.symm
                  clear hq0' hq1' hl1 he1
                  have h6 : ((t : Int) == e1) = false := by simpa using h4
                  have h7 : ((t : Int) == l1) = false := by simpa using h5
                  go_wp2_with (at_builtin; refine wpList_appendB _ rfl _ _ rfl (wo.heap.size + 1 + 1) _ (lstS y.bs y.k q y.ft t) rfl (HO.out.below ((Below.refl _ _).alloc (Nat.le_refl _) _)) (some ⟨wr.heap.size, 0, none⟩) 1 [X] rfl (rowB_newS wr (X)) (fun e => by cases e) hll.out (by have := HBS.out; simp; omega) ?_; intro v7 w7 hown7 hg7 hat7; have hb7 := (HBel.out.alloc HBS.out _).grown hg7 (by have := HBS.out; simp; omega) (fun k e => (HO.out.inside k e).1); have HO7 := hide_it hown7; have HB7 := hide_it hb7; clear hown7 hg7 hat7 hb7)
                  go_roundw
                  case rel => exact ⟨t + 1, by have := htq.out; omega, by go_num, by rw [← lstS_step HE4.out hq1.out.2]; rw [← HXX.out]; exact HO7.out, HB7.out⟩
                  case measure => have := htq.out; simp [intOf]; omega
          · have hLn : ¬ (t : Int) < (L : Int) := by omega
            · have HTQ : Hid (t = q) := hide_it (by omega)
              have hlen : (lstS y.bs y.k q y.ft t).length = M := by rw [HTQ.out, lstS_end, crashB_len _ _ _ _ hq1.out.2, HM.out]
              obtain ⟨na, nc, hv, hrowN, hncN, _, hnnN⟩ := HO.out.row
              rw [hlen] at hv hncN hnnN
              subst hv
              have hbs : lstS y.bs y.k q y.ft t = crashB y.bs y.k (kpt y) y.ft := by rw [HTQ.out, lstS_end, HQ.out]
              have hcl : (crashB y.bs y.k (kpt y) y.ft).length = M := by rw [← hbs]; exact hlen
              rw [hbs] at hrowN
              have hcall := withX (c := c') (am := true) (X := wr) HDr.out (fun b hb => Nat.lt_of_lt_of_le (HG.out b hb) hsr) HBW.out (j : Int) (by unfold inD; simp; omega) (armX (strX y) 0 (fun _ => ⟨0, 0, 0⟩) j) HOK.out na nc hrowN (fun ad e => by have := (HO.out.inside ad.block (by rw [e]; rfl)).1; omega) (by show (crashB y.bs y.k (kpt y) y.ft).length ≤ nc; rw [hcl]; exact hncN) (by show na = none → (crashB y.bs y.k (kpt y) y.ft).length = 0 ∧ nc = 0; rw [hcl]; exact hnnN) (B := (y.B : Int)) (k := (M : Int)) (C := 0) (j := M) (fd := 0) (fk := 0) (ft := 0) rfl (by show ((y.k + kpt y : Nat) : Int) = (M : Int); rw [HM.out, HQ.out]) rfl hcl (by unfold armX; simp) (by unfold armX; simp) (by unfold armX; simp)
              have HCL := hide_it hcall
              clear hcall hrowN hncN hnnN hbs hcl hlen
              go_wp2_with fail
              refine HCL.out.mono ?_
              rintro e w6 ⟨a6, c6', rfl, hD6, hb6⟩
              rw [Int.toNat_natCast, HY.out, strR_succ] at hD6
              have hB6 := (hb6.block _ hl0).trans HBr.out
              have hst := hide_it (HI.out.step (c6 := c6') HG2.out.1 hb6 hD6)
              have z0 := cell_of_row _ _ 0 _ _ _ hB6
              have z1 := cell_of_row _ _ 1 _ _ _ hB6
              have f0 := frozen_of_row _ _ 0 _ _ hB6
              have f1 := frozen_of_row _ _ 1 _ _ hB6
              simp only [List.getElem?_toArray, List.getElem?_cons_zero, List.getElem?_cons_succ] at z0 z1
              clear HCL hD6 hb6 hB6 d0 d1 p0 p1 p3 g1 g2 HRD HO HBel HBW HTQ hq0H hq1 hwL hwL1 hlw
              go_wp2_with fail
              go_roundw
              case rel => exact ⟨j + 1, by omega, by go_num, a6, c6', hst.out⟩
              case measure => simp [intOf]; omega
    · obtain rfl : j = n := by omega
      have d0 := cell_of_row _ _ 0 _ _ _ hBr
      have d1 := cell_of_row _ _ 1 _ _ _ hBr
      have q1 := frozen_of_row _ _ 1 _ _ hBr
      have z0 := cell_of_row _ _ 0 _ _ _ hZr
      have z1 := cell_of_row _ _ 1 _ _ _ hZr
      have f0 := frozen_of_row _ _ 0 _ _ hZr
      have f1 := frozen_of_row _ _ 1 _ _ hZr
      simp only [List.getElem?_toArray, List.getElem?_cons_zero, List.getElem?_cons_succ] at d0 d1 z0 z1
      have HDr := hide_it hDr
      have Hbr := hide_it hbr
      clear hBr hZr hDr hbr
      go_wp2_with fail
      have hch : Chg G wo (((wo.setCell ⟨w.heap.size, 1, none⟩ (.bool false)).setCell ⟨w.heap.size + 1, 0, none⟩ (.slice a' j c')).setCell ⟨w.heap.size + 1, 1, none⟩ (.bool false)) := (((Chg.refl _ wo).setCell _ _ (fun _ => HG2.out.1)).setCell _ _ (fun _ => HG2.out.2.1)).setCell _ _ (fun _ => HG2.out.2.1)
      exact bodyPost_ret (v := valD a' j c' false) (by simp [results, Try.results60, go_sem, z0, z1]) rfl ⟨_, rfl, ⟨_, _, rfl, by rw [← strR_all]; exact (HDr.out.chg hch).anti HG2.out.2.2⟩, ((Hbr.out.setCell (p := ⟨w.heap.size, 1, none⟩) (Nat.le_refl _) _).setCell (p := ⟨w.heap.size + 1, 0, none⟩) (by simp) _).setCell (p := ⟨w.heap.size + 1, 1, none⟩) (by simp) _⟩
end

end Go.Proofs.Ytdodnegdpdhbiaa
