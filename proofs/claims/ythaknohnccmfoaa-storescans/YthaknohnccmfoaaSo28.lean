/- What a scan finds. -/
import Derived.Test.YthaknohnccmfoaaSo26
import Derived.Test.YthaknohnccmfoaaSo27
namespace Go.Proofs.Ythaknohnccmfoaa
open Go.RowKit Go.Maps
open Go.WideAt (bytes_irrefl)

theorem infoPn : (Try.prog.info? 60).map (fun i => (i.zero, i.size, i.bytes)) = some (some (.agg #[.string ⟨#[]⟩, .slice none 0 0]), 2, 40) := by kernel_rfl
theorem srcPn_one (w : World) (y : Pn) (t : TypeId) : Src Try.prog 2 33 (.slice (some ⟨w.heap.size, 0, none⟩) 1 1) 1 (duoP y) (w.alloc (.cells #[.string y.k, .slice y.a y.z.length y.c] t)) := by
  refine Src.ofSlice _ Try.underlying33 ⟨w.heap.size, 0, none⟩ 1 1 _ rfl (fun j u hu => ?_) (fun u hu => by simp [duoP] at hu; rcases hu with rfl | rfl <;> rfl)
  rw [Addr.add_lit, cell_of_row _ _ _ _ _ _ (heap_alloc_new w _), Nat.zero_add]
  have : (#[.string y.k, .slice y.a y.z.length y.c] : Array Value)[j]? = (duoP y)[j]? := by simp [duoP]
  rw [this]; exact hu
/-- One pair laid behind the others. -/
theorem app_pair {z : World} {B : Nat} {ys : List Pn} {v : Value} (y : Pn) (ho : OwP z B v ys) (hl : ys.length ≤ 4000000000000) (hB : B ≤ z.heap.size) :
    ∃ a5 c5 w5, (Builtin.append_ #[33, 33] 33 #[v, .slice (some ⟨z.heap.size, 0, none⟩) 1 1]).run Try.prog (z.alloc (.cells #[.string y.k, .slice y.a y.z.length y.c] 60)) = .ok (.slice a5 (ys.length + 1) c5) w5 ∧
      OwP w5 B (.slice a5 (ys.length + 1) c5) (ys ++ [y]) ∧ Below B z w5 := by
  obtain ⟨z2, hz2⟩ : ∃ z2, z2 = z.alloc (.cells #[.string y.k, .slice y.a y.z.length y.c] 60) := ⟨_, rfl⟩
  have hb2 : Below z.heap.size z z2 := by rw [hz2]; exact (Below.refl _ _).alloc (Nat.le_refl _) _
  have ho2 : OwP z2 B v ys := OwnS.below ho hb2
  have hsrc : Src Try.prog 2 33 (.slice (some ⟨z.heap.size, 0, none⟩) 1 1) 1 (duoP y) z2 := by rw [hz2]; exact srcPn_one z y _
  obtain ⟨v5, w5, hrun, ho5, hg5, _⟩ := run_append_S (P := Try.prog) 33 33 33 _ Try.underlying33 infoPn rfl ho2 _ 1 _ hsrc (by unfold maxLen; omega) (by omega) (Nat.le_trans hB hb2.size)
  rw [hz2] at hrun
  have ho6 : OwP w5 B v5 (ys ++ [y]) := by
    unfold OwP; rw [List.length_append, celP_append, celP_one]; exact ho5
  obtain ⟨a5, c5, ev, _⟩ := OwnS.open ho6
  rw [List.length_append] at ev
  subst ev
  exact ⟨a5, c5, w5, hrun, ho6, (hb2.mono hB).grown hg5 (Nat.le_trans hB hb2.size) fun j e => (OwnS.inside ho2 j e).1⟩

/-- What one key tells. -/
def tellK (fr to : List UInt8) (n : Int) (e : Ky) : Option (List UInt8 × List Nat) :=
  if inK fr to e.k = true then (live (if upV e.ls n = 0 then none else some (vr e.ls (upV e.ls n - 1)))).map fun z => (e.k, z) else none
theorem scan_abs (M : List Ky) (fr to : List UInt8) (n : Int) : scanA (abs M) fr to n = M.filterMap (tellK fr to n) := by
  unfold scanA abs
  induction M with
  | nil => rfl
  | cons e r ih =>
    rw [List.map_cons, List.filter_cons, List.filterMap_cons]
    unfold tellK
    by_cases h : inK fr to e.k = true
    · rw [if_pos h, if_pos h, List.filterMap_cons]
      cases live (if upV e.ls n = 0 then none else some (vr e.ls (upV e.ls n - 1))) with
      | none => exact ih
      | some z => exact congrArg _ ih
    · rw [if_neg h, if_neg h]; exact ih
theorem tellK_key {fr to : List UInt8} {n : Int} {e : Ky} {p : List UInt8 × List Nat} (h : tellK fr to n e = some p) : p.1 = e.k := by
  unfold tellK at h
  split at h
  · cases hl : live (if upV e.ls n = 0 then none else some (vr e.ls (upV e.ls n - 1))) with
    | none => rw [hl] at h; cases h
    | some z => rw [hl] at h; cases h; rfl
  · cases h
theorem tells_rise {M : List Ky} (hr : M.Pairwise fun e f => bytesBefore e.k f.k = true) (fr to : List UInt8) (n : Int) : (M.filterMap (tellK fr to n)).Pairwise fun p q => bytesBefore p.1 q.1 = true := by
  refine List.Pairwise.filterMap _ (fun e f hef p hp q hq => ?_) hr
  rw [tellK_key hp, tellK_key hq]; exact hef
theorem rise_unique : ∀ {l1 l2 : List (List UInt8 × List Nat)}, l1.Perm l2 → l1.Pairwise (fun p q => bytesBefore q.1 p.1 = false) → l2.Pairwise (fun p q => bytesBefore p.1 q.1 = true) → l1 = l2
  | l1, [], hp, _, _ => hp.eq_nil
  | [], _ :: _, hp, _, _ => absurd hp.length_eq (by simp)
  | b :: s, a :: r, hp, h1, h2 => by
    have h1' := List.pairwise_cons.1 h1
    have h2' := List.pairwise_cons.1 h2
    have hba : b = a := by
      rcases List.mem_cons.1 (hp.mem_iff.1 (List.mem_cons_self ..)) with h | h
      · exact h
      · rcases List.mem_cons.1 (hp.mem_iff.2 (List.mem_cons_self ..)) with h3 | h3
        · exact h3.symm
        · have := h2'.1 b h
          rw [h1'.1 a h3] at this; cases this
    subst hba
    rw [rise_unique (List.perm_cons _ |>.1 hp) h1'.2 h2'.2]

/-- A pair whose bytes are the store's own. -/
structure ValF (w : World) (F : Nat → Prop) (y : Pn) : Prop where
  b : OwnB w 0 (.slice y.a y.z.length y.c) y.z
  f : ∀ j, (Value.slice y.a y.z.length y.c).ownBlock = some j → F j

set_option maxRecDepth 100000 in
set_option maxHeartbeats 4000000 in
theorem found_some {w : World} {F : Nat → Prop} {s b : Nat} {M : List Ky} (h : Sto w F s (some b) M) (hf : Fine (abs M)) (fr to : ByteArray) (n : Int) :
    Calls Try.prog 54 #[.pointer (some ⟨s, 0, none⟩), .string fr, .string to, .int .i64 n] w fun e w' => (∃ v zs, e = .returned v ∧ OwP w' w.heap.size v zs ∧ (∀ y ∈ zs, ValF w F y) ∧ saysP zs = scanA (abs M) fr.data.toList to.data.toList n) ∧ Below w.heap.size w w' := by
  have ha0 := all_any h
  obtain ⟨hown, hFb⟩ := h.map b rfl
  have hrise := h.rise
  have hMl : M.length ≤ 4000000000000 := by have := hf.keys; simpa [abs] using this
  have hat : ∀ e ∈ M, ∀ z, Below w.heap.size w z → Calls Try.prog 50 #[.pointer (some ⟨e.c, 0, none⟩), .int .i64 n] z fun e' w' => ∃ x b, e' = kY.tellL x b ∧ Below z.heap.size z w' ∧ TellsO w' F x b (if upV e.ls n = 0 then none else some (vr e.ls (upV e.ls n - 1))) := fun e he z hz => by
    have hk := kyOf_mem hrise he
    have h1 := chAtO (h.below hz) (k := e.k) (.inr ⟨e, hk, rfl⟩) hf.tot n
    have h2 : lsOf (abs M) e.k = e.ls := by rw [lsOf_abs, hk]; rfl
    unfold atA at h1
    rwa [h2] at h1
  have HLT := hide_it h.lt
  have HL := hide_it hat
  have HR := hide_it hrise
  have HSC := hide_it (scan_abs M fr.data.toList to.data.toList n)
  clear h hf hat hrise
  go_enter Try.func54, Try.ntmps54
  go_wp2_with fail
  refine ha0.mono ?_
  rintro e w1 ⟨rfl, hw1⟩
  obtain rfl := hw1.symm
  clear ha0 hw1
  go_wp2_with (first | (at_range; refine wpList_range_own _ rfl _ 73 rfl 9 88 law_string Try.underlying73 _ b M.length _ rfl hown ?_; intro w0 hrg0 hg0 hs0) | go_in)
  go_frame
  go_loopw [9, 10, 11, 12, 13] (fun t9 _ _ _ _ wr => ∃ (left : Lit → Bool) (cnt : Nat) (vs : List Ky), wr.ranges Try.prog 9 ptrR b w.heap.size M.length (datM M) left cnt ∧ Hid (Seen M left vs) ∧ (∃ (a5 : Option Addr) (L c5 : Nat) (ps : List Pn), t9 = .slice a5 L c5 ∧ Hid (L = ps.length ∧ OwP wr (w.heap.size + 1) (.slice a5 L c5) ps ∧ (∀ y ∈ ps, ValF w F y) ∧ saysP ps = vs.filterMap (tellK fr.data.toList to.data.toList n))) ∧ Below w.heap.size w wr ∧ w.heap.size < wr.heap.size)
    (fun _ _ _ _ _ wr => wr.rangeLeft b w.heap.size)
  case atStart => exact ⟨_, _, [], hrg0, hide_it (Seen.start M), ⟨none, 0, 0, [], rfl, hide_it ⟨rfl, OwnS.nil _ _ _ _, (fun y hy => by cases hy), rfl⟩⟩, (Below.refl _ w).grown hg0 (Nat.le_refl _) (fun k e => by cases e), by omega⟩
  case round =>
    obtain ⟨left, cnt, vs, hrg, hS, ⟨a5, L, c5, ps, rfl, hO⟩, hbw, hwz⟩ := hrel
    clear hrg0 hg0 hs0 hown
    go_wp2_with (first | (at_next; refine wpList_next_ranges _ rfl _ rfl 9 law_string ptrR encStr Value.pointer invK_str invV_ptr b w.heap.size M.length _ _ _ rfl hrg ?_ ?_) | go_in)
    · intro hc0 hl0
      have hp := hS.out.done hl0
      have hpl : ps.length ≤ 4000000000000 := by
        have h1 := congrArg List.length hO.out.2.2.2
        unfold saysP at h1
        rw [List.length_map] at h1
        have h2 := List.length_filterMap_le (tellK fr.data.toList to.data.toList n) vs
        have h3 := hp.length_eq
        omega
      have hso := pairsSort_any hO.out.2.1 hpl
      rw [← hO.out.1] at hpl
      have HBW := hide_it hbw
      have HP := hide_it hp
      clear hp hS hbw hrg hwz
      go_wp2_with fail
      refine hso.mono ?_
      rintro e w2 ⟨rfl, zs, hpm, hpw, hoz, hg⟩
      have hfin : OwP w2 w.heap.size (.slice a5 L c5) zs ∧ (∀ y ∈ zs, ValF w F y) ∧ saysP zs = scanA (abs M) fr.data.toList to.data.toList n := by
        refine ⟨OwnS.mono hoz (Nat.le_succ _), fun y hy => hO.out.2.2.1 y (hpm.mem_iff.1 hy), ?_⟩
        rw [HSC.out]
        refine rise_unique ?_ ?_ (tells_rise HR.out _ _ _)
        · refine (List.Perm.map _ hpm).trans ?_
          show (saysP ps).Perm _
          rw [hO.out.2.2.2]
          exact HP.out.filterMap _
        · unfold saysP
          rw [List.pairwise_map]; exact hpw
      have hbel : Below w.heap.size w w2 := HBW.out.grown hg HBW.out.size fun j e => by have := (OwnS.inside hO.out.2.1 j e).1; omega
      have HFIN := hide_it hfin
      have HBEL := hide_it hbel
      clear hso hpm hpw hoz hg hfin hbel
      go_wp2
      go_ret
      exact ⟨⟨_, zs, rfl, HFIN.out⟩, HBEL.out⟩
    · intro x c kl yd yp w1 cnt1 hkey hlk hv hat hrg1 hlt hg1 hs1 hen
      obtain ⟨_, e, he, rfl, rfl, hnv, hS1⟩ := hS.out.step HR.out hkey hlk hv hat
      have hb1 : Below w.heap.size w w1 := hbw.trans (grown_below hg1 (Nat.le_refl _) hbw.size)
      have hcl := HL.out e he w1 hb1
      have hpl : ps.length + 1 ≤ 4000000000000 + 1 := by
        have h1 := congrArg List.length hO.out.2.2.2
        unfold saysP at h1
        rw [List.length_map] at h1
        have h2 := List.length_filterMap_le (tellK fr.data.toList to.data.toList n) vs
        have h3 := hS.out.len
        omega
      have ho1 : OwP w1 (w.heap.size + 1) (.slice a5 L c5) ps := OwnS.keep hO.out.2.1 fun j hj => hg1.block j (OwnS.inside hO.out.2.1 j hj).2 fun e1 => by
        have := (OwnS.inside hO.out.2.1 j hj).1; cases e1; omega
      have hsay : saysP ps = vs.filterMap (tellK fr.data.toList to.data.toList n) := hO.out.2.2.2
      have hval : ∀ y ∈ ps, ValF w F y := hO.out.2.2.1
      have HL0 : Hid (L = ps.length) := hide_it hO.out.1
      have hsn : (vs ++ [e]).filterMap (tellK fr.data.toList to.data.toList n) = saysP ps ++ (tellK fr.data.toList to.data.toList n e).toList := by
        rw [List.filterMap_append, ← hsay, List.filterMap_cons, List.filterMap_nil]
        cases tellK fr.data.toList to.data.toList n e <;> rfl
      have hm : w1.rangeLeft b w.heap.size < wr.rangeLeft b w.heap.size := by rw [hrg1.left_eq, hrg.left_eq]; exact hlt
      have hml := hrg1.left_eq
      have hbl := hrg1.owns.lt
      have hbw0 : b < w.heap.size := HLT.out b hFb
      have hwz1 : w.heap.size < w1.heap.size := by have := hg1.size; omega
      have HRG : ∀ z, Below (w.heap.size + 1) w1 z → z.ranges Try.prog 9 ptrR b w.heap.size M.length (datM M) (fun z => left z && !z.sameKey kl) cnt1 := fun z hz => ranges_hold hrg1 (hz.block b (by omega)) (hz.block w.heap.size (by omega))
      have HM := hide_it (fun z hz => And.intro (HRG z hz) (show z.rangeLeft b w.heap.size < wr.rangeLeft b w.heap.size by rw [(HRG z hz).left_eq, ← hml]; exact hm))
      have HS1 := hide_it hS1
      have HB1 := hide_it hb1
      have hinK : inK fr.data.toList to.data.toList e.k = (!Op.bytesLess e.k fr.toList && (to.toList.isEmpty || Op.bytesLess e.k to.toList)) := by
        unfold inK; rw [Lib.toList_data, Lib.toList_data, bless_list, bless_list]
      have HIN := hide_it hinK
      unfold encStr at hen ⊢
      have HO1 := hide_it ho1
      have HVAL := hide_it hval
      have HSN := hide_it hsn
      clear hS hS1 hO hsay hkey hlk hv hat hnv hs1 hg1 hrg hrg1 hlt hb1 hbw hml hm HRG ho1 hval hsn hinK
      by_cases hin1 : Op.bytesLess e.k fr.toList = true
      · have htk : tellK fr.data.toList to.data.toList n e = none := by
          unfold tellK
          rw [HIN.out, hin1]; rfl
        obtain ⟨HRG3, HM3⟩ := HM.out w1 (Below.refl _ _)
        have HX : Hid (L = ps.length ∧ OwP w1 (w.heap.size + 1) (.slice a5 L c5) ps ∧ (∀ y ∈ ps, ValF w F y) ∧ saysP ps = (vs ++ [e]).filterMap (tellK fr.data.toList to.data.toList n)) := hide_it ⟨HL0.out, HO1.out, HVAL.out, by rw [HSN.out, htk]; simp⟩
        have HRG4 := hide_it HRG3
        have HM4 := hide_it HM3
        clear HM HRG3 HM3 hcl htk HSN HVAL HO1
        go_wp2
        go_roundw
        case rel => exact ⟨_, _, vs ++ [e], HRG4.out, HS1, ⟨a5, L, c5, ps, rfl, HX⟩, HB1.out, by omega⟩
        case measure => exact HM4.out
      · by_cases hin2 : to.toList = [] ∨ Op.bytesLess e.k to.toList = true
        · have htk : tellK fr.data.toList to.data.toList n e = (live (if upV e.ls n = 0 then none else some (vr e.ls (upV e.ls n - 1)))).map fun z => (e.k, z) := by
            unfold tellK
            refine if_pos ?_
            rw [HIN.out]
            have h1 : Op.bytesLess e.k fr.toList = false := by simpa using hin1
            rw [h1]
            rcases hin2 with h2 | h2
            · rw [h2]; rfl
            · rw [h2]; simp
          have HTK := hide_it htk
          clear htk
          rcases (show to.toList = [] ∨ (¬ to.toList = [] ∧ Op.bytesLess e.k to.toList = true) by
            by_cases h0 : to.toList = []
            · exact .inl h0
            · rcases hin2 with h2 | h2
              · exact absurd h2 h0
              · exact .inr ⟨h0, h2⟩) with te | ⟨te, te2⟩
          all_goals
            clear hin2
            go_wp2_with fail
            refine hcl.mono ?_
            rintro e' w2 ⟨y, bb, rfl, hb2, hTo⟩
            unfold kY.tellL kY.lkV
            clear hcl
            have hbx : Below w2.heap.size w2 (w2.alloc (.cells #[.int .i64 y.n, .slice y.v.1 y.v.2.1 y.v.2.2, .bool y.d] 95)) := (Below.refl _ _).alloc (Nat.le_refl _) _
            have hb3 := hb2.trans (hbx.mono hb2.size)
            have hz3 : w.heap.size < w2.heap.size := by have := hb2.size; omega
            obtain ⟨o, ho⟩ : ∃ o, o = (if upV e.ls n = 0 then none else some (vr e.ls (upV e.ls n - 1))) := ⟨_, rfl⟩
            rw [← ho] at hTo
            have htk := HTK.out
            rw [← ho] at htk
            clear ho HTK
            cases o with
            | none =>
              have e1 := hTo.is
              obtain rfl : bb = false := e1
              obtain ⟨HRG3, HM3⟩ := HM.out _ (hb3.mono (by omega))
              have HX : Hid (L = ps.length ∧ OwP (w2.alloc (.cells #[.int .i64 y.n, .slice y.v.1 y.v.2.1 y.v.2.2, .bool y.d] 95)) (w.heap.size + 1) (.slice a5 L c5) ps ∧ (∀ y ∈ ps, ValF w F y) ∧ saysP ps = (vs ++ [e]).filterMap (tellK fr.data.toList to.data.toList n)) := hide_it ⟨HL0.out, OwnS.below HO1.out hb3, HVAL.out, by rw [HSN.out, htk]; simp [live]⟩
              have HB3 := hide_it (HB1.out.trans (hb3.mono (by omega)))
              have HRG4 := hide_it HRG3
              have HM4 := hide_it HM3
              clear HM HRG3 HM3 htk HSN HVAL HO1 hTo hb2 hbx hb3
              go_wp2
              go_roundw
              case rel => exact ⟨_, _, vs ++ [e], HRG4.out, HS1, ⟨a5, L, c5, ps, rfl, HX⟩, HB3.out, by simp; omega⟩
              case measure => exact HM4.out
            | some l =>
              have e1 := hTo.is
              obtain rfl : bb = true := e1
              have hl := hTo.some_ l rfl
              cases hd : l.d with
              | true =>
                have e2 : y.d = true := hl.d.trans hd
                obtain ⟨HRG3, HM3⟩ := HM.out _ (hb3.mono (by omega))
                have HX : Hid (L = ps.length ∧ OwP (w2.alloc (.cells #[.int .i64 y.n, .slice y.v.1 y.v.2.1 y.v.2.2, .bool y.d] 95)) (w.heap.size + 1) (.slice a5 L c5) ps ∧ (∀ y ∈ ps, ValF w F y) ∧ saysP ps = (vs ++ [e]).filterMap (tellK fr.data.toList to.data.toList n)) := hide_it ⟨HL0.out, OwnS.below HO1.out hb3, HVAL.out, by rw [HSN.out, htk]; simp [live, hd]⟩
                have HB3 := hide_it (HB1.out.trans (hb3.mono (by omega)))
                have HRG4 := hide_it HRG3
                have HM4 := hide_it HM3
                rw [e2] at HB3 HRG4 HM4 HX
                clear HM HRG3 HM3 htk HSN HVAL HO1 hTo hb2 hbx hb3 hl hd
                go_wp2
                go_roundw
                case rel => exact ⟨_, _, vs ++ [e], HRG4.out, HS1, ⟨a5, L, c5, ps, rfl, HX⟩, HB3.out, by simp; omega⟩
                case measure => exact HM4.out
              | false =>
                have e2 : y.d = false := hl.d.trans hd
                obtain ⟨a, c, ev, _⟩ := hl.b.row
                injection ev with ev1 ev2 ev3
                have hwb : Below w.heap.size w w2 := HB1.out.trans (hb2.mono (by omega))
                have hvf : ValF w F ⟨⟨e.k.toArray⟩, y.v.1, l.b, y.v.2.2⟩ := by
                  have hb := hl.b
                  have hfo := hl.f
                  rw [ev2] at hb hfo
                  exact ⟨hb.hold fun j hj => (hwb.block j (HLT.out j (hfo j hj))).symm, hfo⟩
                obtain ⟨a6, c6, w5, hrun, ho6, hb6⟩ := app_pair ⟨⟨e.k.toArray⟩, y.v.1, l.b, y.v.2.2⟩ (OwnS.below HO1.out hb3) (by omega) (by simp; omega)
                simp only [] at hrun
                rw [← ev2, show (w2.alloc (.cells #[.int .i64 y.n, .slice y.v.1 y.v.2.1 y.v.2.2, .bool y.d] 95)).heap.size = w2.heap.size + 1 by simp, ← HL0.out] at hrun
                rw [← HL0.out] at ho6
                have hb5 : Below (w.heap.size + 1) w1 w5 := (hb3.mono (by omega)).trans hb6
                have hz5 := hb5.size
                obtain ⟨HRG3, HM3⟩ := HM.out _ hb5
                have HX : Hid (L + 1 = (ps ++ [(⟨⟨e.k.toArray⟩, y.v.1, l.b, y.v.2.2⟩ : Pn)]).length ∧ OwP w5 (w.heap.size + 1) (.slice a6 (L + 1) c6) (ps ++ [(⟨⟨e.k.toArray⟩, y.v.1, l.b, y.v.2.2⟩ : Pn)]) ∧ (∀ x ∈ ps ++ [(⟨⟨e.k.toArray⟩, y.v.1, l.b, y.v.2.2⟩ : Pn)], ValF w F x) ∧ saysP (ps ++ [(⟨⟨e.k.toArray⟩, y.v.1, l.b, y.v.2.2⟩ : Pn)]) = (vs ++ [e]).filterMap (tellK fr.data.toList to.data.toList n)) := by
                  refine hide_it ⟨by rw [HL0.out, List.length_append]; rfl, ho6, fun x hx => ?_, ?_⟩
                  · rcases List.mem_append.1 hx with hx | hx
                    · exact HVAL.out x hx
                    · obtain rfl := List.mem_singleton.1 hx; exact hvf
                  · rw [HSN.out, htk]
                    unfold saysP
                    simp [live, hd]
                have HB3 := hide_it (HB1.out.trans (hb5.mono (Nat.le_succ _)))
                have HRG4 := hide_it HRG3
                have HM4 := hide_it HM3
                rw [e2] at hrun
                clear HM HRG3 HM3 htk HSN HVAL HO1 hTo hb2 hbx hb3 hl hd ev1 ev2 ev3 hwb hvf ho6 hb6 hb5
                go_wp2_with (at_builtin; refine wpList_append_run rfl _ _ _ rfl _ _ _ _ rfl rfl hrun ?_)
                go_roundw
                case rel => exact ⟨_, _, vs ++ [e], HRG4.out, HS1, ⟨a6, L + 1, c6, _, rfl, HX⟩, HB3.out, by omega⟩
                case measure => exact HM4.out
        · have te : ¬ to.toList = [] := fun e1 => hin2 (.inl e1)
          have te2 : Op.bytesLess e.k to.toList = false := by
            cases h : Op.bytesLess e.k to.toList with
            | false => rfl
            | true => exact absurd (.inr h) hin2
          have te3 : to.toList.isEmpty = false := by simpa using te
          have htk : tellK fr.data.toList to.data.toList n e = none := by
            unfold tellK
            rw [HIN.out, te2, te3]; simp
          obtain ⟨HRG3, HM3⟩ := HM.out w1 (Below.refl _ _)
          have HX : Hid (L = ps.length ∧ OwP w1 (w.heap.size + 1) (.slice a5 L c5) ps ∧ (∀ y ∈ ps, ValF w F y) ∧ saysP ps = (vs ++ [e]).filterMap (tellK fr.data.toList to.data.toList n)) := hide_it ⟨HL0.out, HO1.out, HVAL.out, by rw [HSN.out, htk]; simp⟩
          have HRG4 := hide_it HRG3
          have HM4 := hide_it HM3
          clear HM HRG3 HM3 hcl htk HSN HVAL HO1 hin2
          go_wp2
          go_roundw
          case rel => exact ⟨_, _, vs ++ [e], HRG4.out, HS1, ⟨a5, L, c5, ps, rfl, HX⟩, HB1.out, by omega⟩
          case measure => exact HM4.out

end Go.Proofs.Ythaknohnccmfoaa
