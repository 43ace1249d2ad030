/- The puts of a range, by key. -/
import Derived.Test.YtbafjkanbbcbgaaXw8
namespace Go.Proofs.Ytbafjkanbbcbgaa
open Go.RowKit Go.Maps Go.Shelf
open Go.WideAt (bytes_irrefl)

/-- Is a key in a range? -/
def inR (fr to k : List UInt8) : Bool := !bytesBefore k fr && (to.isEmpty || bytesBefore k to)
/-- The puts of a range. -/
def putsW (C : Wc) (fr to : List UInt8) : Wc := C.filter fun e => !e.2.d && inR fr to e.1
def putsM (M : List Vn) (fr to : List UInt8) : List Vn := M.filter fun e => !e.d && inR fr to (ky e)
theorem puts_says (M : List Vn) (fr to : List UInt8) : saysV (putsM M fr to) = putsW (saysV M) fr to := by
  unfold saysV putsM putsW
  rw [List.filter_map]; rfl
/-- A version whose bytes are the set's own. -/
structure ValF (w : World) (F : Nat → Prop) (y : Vn) : Prop where
  b : OwnB w 0 (.slice y.a y.z.length y.c) y.z
  f : ∀ j, (Value.slice y.a y.z.length y.c).ownBlock = some j → F j

set_option maxRecDepth 100000 in
set_option maxHeartbeats 1000000 in
theorem puts_nil (p : Option Addr) (fr to : ByteArray) (w : World) (ha0 : Calls Try.prog 33 #[.pointer p] w fun e w' => e = .returned (.map none) ∧ w' = w) :
    Calls Try.prog 47 #[.pointer p, .string fr, .string to] w fun e w' => e = .returned (.slice none 0 0) ∧ Below w.heap.size w w' := by
  have hb : Below w.heap.size w (w.alloc (.mapIter none 0 #[] 0)) := (Below.refl _ _).alloc (Nat.le_refl _) _
  have hrg := run_range_nilMap (P := Try.prog) w 30 9 41 Try.underlying30
  have hnx : ∀ ty, (Instr.next (.pointer (some ⟨w.heap.size, 0, none⟩)) false ty).run Try.prog (w.alloc (.mapIter none 0 #[] 0)) = _ := fun ty => run_next_nilMap w ty 0 0 #[]
  have hso := fun fv => sort_noneV 0 fv (w.alloc (.mapIter none 0 #[] 0))
  have HB := hide_it hb
  clear hb
  go_enter Try.func47, Try.ntmps47
  go_wp2_with fail
  refine ha0.mono ?_
  rintro e w1 ⟨rfl, hw1⟩
  obtain rfl := hw1.symm
  clear ha0 hw1
  go_wp2_with fail
  refine wp_loop_rounds 1 ?_
  rw [rounds_succ]
  go_wp2_with fail
  refine (hso _).mono ?_
  rintro e w2 ⟨rfl, hw2⟩
  obtain rfl := hw2.symm
  clear hso hw2
  go_wp2
  go_ret
  exact ⟨rfl, HB.out⟩

section
variable {w : World} {F : Nat → Prop} {s : Nat} {mb : Option Nat} {M : List Vn}
set_option maxRecDepth 100000 in
set_option maxHeartbeats 4000000 in
theorem puts_some {b : Nat} (h : Wst w F s (some b) M) (fr to : ByteArray) :
    Calls Try.prog 47 #[.pointer (some ⟨s, 0, none⟩), .string fr, .string to] w fun e w' => (∃ v zs, e = .returned v ∧ OwV w' w.heap.size v zs ∧ (∀ y ∈ zs, ValF w F y ∧ y ∈ M) ∧ saysV zs = putsW (saysV M) fr.data.toList to.data.toList) ∧ Below w.heap.size w w' := by
  have ha0 := all_any h
  obtain ⟨hown, hFb⟩ := h.map b rfl
  have hbl := h.lt b hFb
  have hrise := h.rise
  have hpl : ∀ e ∈ M, plainA e.a := fun e he => (h.each e he).p
  have hMl := h.len
  have hvf : ∀ e ∈ M, ValF w F e := fun e he => ⟨(h.each e he).b, (h.each e he).f⟩
  have HVF := hide_it hvf
  have HR := hide_it hrise
  have HP := hide_it hpl
  have HML := hide_it hMl
  clear h hvf hrise hpl hMl
  go_enter Try.func47, Try.ntmps47
  go_wp2_with fail
  refine ha0.mono ?_
  rintro e w1 ⟨rfl, hw1⟩
  obtain rfl := hw1.symm
  clear ha0 hw1
  go_wp2_with (first | (at_range; refine wpList_range_own _ rfl _ 30 rfl 9 41 law_string Try.underlying30 _ b M.length _ rfl hown ?_; intro w0 hrg0 hg0 hs0) | go_in)
  go_frame
  go_loopw [7] (fun t7 wr => ∃ (left : Lit → Bool) (cnt : Nat) (vs : List Vn), wr.ranges Try.prog 9 verR b w.heap.size M.length (datW M) left cnt ∧ Hid (Seen M left vs) ∧ (∃ (a5 : Option Addr) (L c5 : Nat) (ps : List Vn), t7 = .slice a5 L c5 ∧ Hid (L = ps.length ∧ OwV wr (w.heap.size + 1) (.slice a5 L c5) ps ∧ ps = putsM vs fr.data.toList to.data.toList)) ∧ Below w.heap.size w wr ∧ w.heap.size < wr.heap.size)
    (fun _ wr => wr.rangeLeft b w.heap.size)
  case atStart => exact ⟨_, _, [], hrg0, hide_it (Seen.start M), ⟨none, 0, 0, [], rfl, hide_it ⟨rfl, OwnS.nil _ _ _ _, rfl⟩⟩, (Below.refl _ w).grown hg0 (Nat.le_refl _) (fun k e => by cases e), by omega⟩
  case round =>
    obtain ⟨left, cnt, vs, hrg, hS, ⟨a5, L, c5, ps, rfl, hO⟩, hbw, hwz⟩ := hrel
    clear hrg0 hg0 hs0 hown
    have hpsl : ps.length ≤ vs.length := by rw [hO.out.2.2]; exact List.length_filter_le _ _
    have hvl := hS.out.len
    have hml := HML.out
    have HPL := hide_it hpsl
    clear hpsl
    go_wp2_with (first | (at_next; refine wpList_next_ranges _ rfl _ rfl 9 law_string verR encStr mkVh invK_str verR_shape b w.heap.size M.length _ _ _ rfl hrg ?_ ?_) | go_in)
    · intro hc0 hl0
      have hp := hS.out.done hl0
      have hso := versSort_any hO.out.2.1 (by have := HPL.out; omega)
      have HBW := hide_it hbw
      have HQ := hide_it hp
      clear hp hS hbw hrg hwz
      go_wp2_with fail
      refine hso.mono ?_
      rintro e w2 ⟨rfl, zs, hpm, hpw, hoz, hg⟩
      have hfin : ∃ v zs, Ending.returned (.slice a5 L c5) = .returned v ∧ OwV w2 w.heap.size v zs ∧ (∀ y ∈ zs, ValF w F y ∧ y ∈ M) ∧ saysV zs = putsW (saysV M) fr.data.toList to.data.toList := by
        have hpp : zs.Perm (putsM M fr.data.toList to.data.toList) := by
          refine hpm.trans ?_
          rw [hO.out.2.2]; exact HQ.out.filter _
        refine ⟨_, zs, rfl, OwnS.mono hoz (Nat.le_succ _), fun y hy => ?_, ?_⟩
        · have hm := (List.mem_filter.1 (hpp.mem_iff.1 hy)).1
          exact ⟨HVF.out y hm, hm⟩
        · rw [← puts_says]
          refine rise_unique (fun p : List UInt8 × Ver => p.1) (List.Perm.map _ hpp) ?_ ?_
          · unfold saysV
            rw [List.pairwise_map]; exact hpw
          · have := HR.out
            unfold RiseW saysV at this
            unfold saysV
            rw [List.pairwise_map] at this ⊢
            exact this.filter _
      have hbel : Below w.heap.size w w2 := HBW.out.grown hg HBW.out.size fun j e => by have := (OwnS.inside hO.out.2.1 j e).1; omega
      have HFIN := hide_it hfin
      have HBEL := hide_it hbel
      clear hso hpm hpw hoz hg hfin hbel
      go_wp2
      go_ret
      exact ⟨HFIN.out, HBEL.out⟩
    · intro x c kl yd yp w1 cnt1 hkey hlk hv hat hrg1 hlt hg1 hs1 hen
      obtain ⟨_, e, he, rfl, hce, hnv, hS1⟩ := hS.out.step HR.out HP.out hkey hlk hv hat
      have hb1 : Below w.heap.size w w1 := hbw.trans (grown_below hg1 (Nat.le_refl _) hbw.size)
      rw [hce] at hen
      have ho1 : OwV w1 (w.heap.size + 1) (.slice a5 L c5) ps := OwnS.keep hO.out.2.1 fun j hj => hg1.block j (OwnS.inside hO.out.2.1 j hj).2 fun e1 => by
        have := (OwnS.inside hO.out.2.1 j hj).1; cases e1; omega
      have hwz1 : w.heap.size < w1.heap.size := by have := hg1.size; omega
      obtain ⟨W3, hW3⟩ : ∃ W3, W3 = w1.alloc (.cells #[.string e.k, .int .i64 e.n, .slice e.a e.z.length e.c, .bool e.d] 41) := ⟨_, rfl⟩
      have hb3 : Below w1.heap.size w1 W3 := by rw [hW3]; exact (Below.refl _ _).alloc (Nat.le_refl _) _
      have k3 : W3.heap[w1.heap.size]? = some (.cells #[.string e.k, .int .i64 e.n, .slice e.a e.z.length e.c, .bool e.d] 41 (0, 0)) := by rw [hW3]; exact heap_alloc_new w1 _
      have m0 := cell_of_row _ _ 0 _ _ _ k3
      have m1 := cell_of_row _ _ 1 _ _ _ k3
      have m2 := cell_of_row _ _ 2 _ _ _ k3
      have m3 := cell_of_row _ _ 3 _ _ _ k3
      have hL : Hid (L = ps.length) := hide_it hO.out.1
      have hps : ps = putsM vs fr.data.toList to.data.toList := hO.out.2.2
      have HS1 := hide_it hS1
      have HB1 := hide_it hb1
      have HB3 := hide_it hb3
      have HO1 := hide_it ho1
      have HM : Hid (w1.rangeLeft b w.heap.size < wr.rangeLeft b w.heap.size) := by rw [hrg1.left_eq, hrg.left_eq]; exact hide_it hlt
      have HRG := hide_it hrg1
      simp only [verV] at hen
      have hsn : putsM (vs ++ [e]) fr.data.toList to.data.toList = ps ++ (if (!e.d && inR fr.data.toList to.data.toList (ky e)) = true then [e] else []) := by
        rw [hps]
        unfold putsM
        rw [List.filter_append]
        congr 1
        by_cases h : (!e.d && inR fr.data.toList to.data.toList (ky e)) = true
        · rw [if_pos h, List.filter_cons, if_pos h]; rfl
        · rw [if_neg h, List.filter_cons, if_neg h]; rfl
      have hinR : inR fr.data.toList to.data.toList (ky e) = (!Op.bytesLess (ky e) fr.toList && (to.toList.isEmpty || Op.bytesLess (ky e) to.toList)) := by
        unfold inR; rw [Lib.toList_data, Lib.toList_data, bless_list, bless_list]
      rw [hinR] at hsn
      have HSN := hide_it hsn
      have hlt0 := ranges_lt hrg1
      have HRGA : Hid (∀ z, Below (w.heap.size + 1) w1 z → z.ranges Try.prog 9 verR b w.heap.size M.length (datW M) (fun z => left z && !z.sameKey kl) cnt1 ∧ z.rangeLeft b w.heap.size < wr.rangeLeft b w.heap.size) := hide_it fun z hz => by
        have h1 := ranges_hold HRG.out (hz.block b (by omega)) (hz.block w.heap.size (by omega))
        exact ⟨h1, by rw [h1.left_eq, ← HRG.out.left_eq]; exact HM.out⟩
      -- nothing is laid
      have HNO : Hid (putsM (vs ++ [e]) fr.data.toList to.data.toList = ps → L = ps.length ∧ OwV W3 (w.heap.size + 1) (.slice a5 L c5) ps ∧ ps = putsM (vs ++ [e]) fr.data.toList to.data.toList) := hide_it fun h => ⟨hL.out, OwnS.below HO1.out HB3.out, h.symm⟩
      have HW3 : Hid (Below (w.heap.size + 1) w1 W3) := hide_it (HB3.out.mono (by omega))
      have HWW : Hid (Below w.heap.size w W3) := hide_it (HB1.out.trans (HB3.out.mono HB1.out.size))
      have HZW : Hid (W3.heap.size = w1.heap.size + 1) := hide_it (by rw [hW3]; simp)
      have HZ3 : Hid (w.heap.size < W3.heap.size) := hide_it (by have := HB3.out.size; omega)
      unfold encStr at hen ⊢
      clear hS hS1 hO hkey hlk hv hat hnv hs1 hg1 hrg hrg1 hlt hb1 hbw hce ho1 hb3 k3 hps hsn hinR hlt0
      cases hd : e.d with
      | true =>
        rw [hd] at m3 hen hW3
        go_wp2_with fail
        rw [← hW3]
        clear hW3
        have HRG5 := hide_it (HRGA.out W3 HW3.out).1
        have HM5 := hide_it (HRGA.out W3 HW3.out).2
        have HX := hide_it (HNO.out (by rw [HSN.out]; simp [hd]))
        clear HRGA HNO
        go_wp2
        go_roundw
        case rel => exact ⟨_, _, vs ++ [e], HRG5.out, HS1, ⟨a5, L, c5, ps, rfl, HX⟩, HWW.out, HZ3.out⟩
        case measure => exact HM5.out
      | false =>
        rw [hd] at m3 hen hW3
        cases hl1 : Op.bytesLess (ky e) fr.toList with
        | true =>
          go_wp2_with fail
          rw [← hW3]
          clear hW3
          have HRG5 := hide_it (HRGA.out W3 HW3.out).1
          have HM5 := hide_it (HRGA.out W3 HW3.out).2
          have HX := hide_it (HNO.out (by rw [HSN.out]; simp [hd, hl1]))
          clear HRGA HNO
          go_wp2
          go_roundw
          case rel => exact ⟨_, _, vs ++ [e], HRG5.out, HS1, ⟨a5, L, c5, ps, rfl, HX⟩, HWW.out, HZ3.out⟩
          case measure => exact HM5.out
        | false =>
          by_cases te : to.toList = []
          · obtain ⟨a6, c6, w6, hrun, ho6, hb6, hold6⟩ := app_ver e (OwnS.below HO1.out HB3.out) (by have := HPL.out; omega) (by have := HB3.out.size; omega)
            have hW36 : Below (w.heap.size + 1) w1 w6 := HW3.out.trans hb6
            have HRG5 := hide_it (HRGA.out w6 hW36).1
            have HM5 := hide_it (HRGA.out w6 hW36).2
            have HX : Hid (ps.length + 1 = (ps ++ [e]).length ∧ OwV w6 (w.heap.size + 1) (.slice a6 (ps.length + 1) c6) (ps ++ [e]) ∧ ps ++ [e] = putsM (vs ++ [e]) fr.data.toList to.data.toList) := hide_it ⟨by simp, ho6, by rw [HSN.out]; simp [hd, hl1, te]⟩
            have HB6 : Hid (Below w.heap.size w w6) := hide_it (HB1.out.trans (hW36.mono (Nat.le_succ _)))
            have HZ6 : Hid (w.heap.size < w6.heap.size) := hide_it (by have := hW36.size; omega)
            rw [← hL.out, hd, HZW.out, hW3] at hrun
            clear hW3
            clear HRGA HNO hW36 ho6 hb6 hold6
            go_wp2_with (at_builtin; refine wpList_append_run rfl _ _ _ rfl _ _ _ _ rfl rfl hrun ?_)
            go_roundw
            case rel => exact ⟨_, _, vs ++ [e], HRG5.out, HS1, ⟨a6, _, c6, _, rfl, by rw [hL.out]; exact HX⟩, HB6.out, HZ6.out⟩
            case measure => exact HM5.out
          · have te3 : to.toList.isEmpty = false := by simpa using te
            cases hl2 : Op.bytesLess (ky e) to.toList with
            | true =>
              obtain ⟨a6, c6, w6, hrun, ho6, hb6, hold6⟩ := app_ver e (OwnS.below HO1.out HB3.out) (by have := HPL.out; omega) (by have := HB3.out.size; omega)
              have hW36 : Below (w.heap.size + 1) w1 w6 := HW3.out.trans hb6
              have HRG5 := hide_it (HRGA.out w6 hW36).1
              have HM5 := hide_it (HRGA.out w6 hW36).2
              have HX : Hid (ps.length + 1 = (ps ++ [e]).length ∧ OwV w6 (w.heap.size + 1) (.slice a6 (ps.length + 1) c6) (ps ++ [e]) ∧ ps ++ [e] = putsM (vs ++ [e]) fr.data.toList to.data.toList) := hide_it ⟨by simp, ho6, by rw [HSN.out]; simp [hd, hl1, te3, hl2]⟩
              have HB6 : Hid (Below w.heap.size w w6) := hide_it (HB1.out.trans (hW36.mono (Nat.le_succ _)))
              have HZ6 : Hid (w.heap.size < w6.heap.size) := hide_it (by have := hW36.size; omega)
              rw [← hL.out, hd, HZW.out, hW3] at hrun
              clear hW3
              clear HRGA HNO hW36 ho6 hb6 hold6
              go_wp2_with (at_builtin; refine wpList_append_run rfl _ _ _ rfl _ _ _ _ rfl rfl hrun ?_)
              go_roundw
              case rel => exact ⟨_, _, vs ++ [e], HRG5.out, HS1, ⟨a6, _, c6, _, rfl, by rw [hL.out]; exact HX⟩, HB6.out, HZ6.out⟩
              case measure => exact HM5.out
            | false =>
              go_wp2_with fail
              rw [← hW3]
              clear hW3
              have HRG5 := hide_it (HRGA.out W3 HW3.out).1
              have HM5 := hide_it (HRGA.out W3 HW3.out).2
              have HX := hide_it (HNO.out (by rw [HSN.out]; simp [hd, hl1, te3, hl2]))
              clear HRGA HNO
              go_wp2
              go_roundw
              case rel => exact ⟨_, _, vs ++ [e], HRG5.out, HS1, ⟨a5, L, c5, ps, rfl, HX⟩, HWW.out, HZ3.out⟩
              case measure => exact HM5.out
theorem puts_any (h : Wst w F s mb M) (fr to : ByteArray) :
    Calls Try.prog 47 #[.pointer (some ⟨s, 0, none⟩), .string fr, .string to] w fun e w' => (∃ v zs, e = .returned v ∧ OwV w' w.heap.size v zs ∧ (∀ y ∈ zs, ValF w F y ∧ y ∈ M) ∧ saysV zs = putsW (saysV M) fr.data.toList to.data.toList) ∧ Below w.heap.size w w' := by
  cases mb with
  | some b => exact puts_some h fr to
  | none =>
    have hM := h.nomap rfl
    subst hM
    refine (puts_nil _ fr to w (all_any h)).mono ?_
    rintro e w' ⟨rfl, hb⟩
    exact ⟨⟨_, [], rfl, OwnS.nil _ _ _ _, (fun y hy => by cases hy), rfl⟩, hb⟩
end

end Go.Proofs.Ytbafjkanbbcbgaa
