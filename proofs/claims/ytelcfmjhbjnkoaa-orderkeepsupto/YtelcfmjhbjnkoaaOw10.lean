/- Words and numbers taken off a text by the program's reader. -/
import Derived.Test.YtelcfmjhbjnkoaaOw9
namespace Go.Proofs.Ytelcfmjhbjnkoaa
open Go.RowKit

attribute [local go_sem] st_float st_complex

theorem RdO.grown {w w' : World} {g : Nat} {s : ByteArray} {b : Bool} {r : Option Nat} (h : RdO w g s b) (hg : w.grownBy w' r) (hne : r ≠ some g) : RdO w' g s b := by
  unfold RdO; rw [hg.block g h.lt (fun e => hne e.symm)]; exact h

/-- Bytes opened, and a word taken of them. -/
theorem opened {w : World} {p : ByteArray} (hp : p.size ≤ 8) :
    Calls Try.prog 54 #[.slice (some ⟨w.heap.size, 0, none⟩) p.size (grownCap w p.size 0 5)] (Lib.bytesWorld w 5 p) fun e w' =>
      ∃ q, e = .returned (.pointer (some ⟨q, 0, none⟩)) ∧ w.heap.size ≤ q ∧ Rdr w' q (strNat p) 0 ∧ Below w.heap.size w w' := by
  have h := open_any (some ⟨w.heap.size, 0, none⟩) (grownCap w p.size 0 5) (strNat p) (Lib.bytesWorld w 5 p) (bytes_row w p) (by rw [strNat_len]; omega) (fun e => by cases e)
  rw [strNat_len] at h
  refine h.mono ?_
  rintro e w' ⟨q, rfl, hq, hr, hb⟩
  have hb0 := bytes_below w p
  exact ⟨q, rfl, Nat.le_trans hb0.size hq, hr, hb0.trans (hb.mono hb0.size)⟩

set_option maxRecDepth 100000 in
set_option maxHeartbeats 400000 in
theorem word_any (g : Nat) (s : ByteArray) (b : Bool) (w : World) (hr : RdO w g s b) (hl : s.size ≤ 140737488351232) :
    Calls Try.prog 40 #[.pointer (some ⟨g, 0, none⟩)] w fun e w' => Rdg (takeW (strNat s)) (fun z => .int .u64 ((z : Nat) : Int)) (fun v => v = .int .u64 0) g b w e w' := by
  have hlt := hr.lt
  by_cases h0 : s.size < 8
  · have ht : takeW (strNat s) = none := by unfold takeW; rw [strNat_len, if_pos h0]
    rw [ht]
    have hc := next_not g 8 s b w hr h0 (by omega)
    have hconv := fun u : World => Lib.run_convert_string_bytes (P := Try.prog) u 9 51 5 ByteArray.empty Try.underlying9 Try.underlying51 Try.underlying5
    have HR := hide_it (hr.set1 true)
    clear hr
    go_enter Try.func40, Try.ntmps40
    go_wp2_with fail
    refine hc.mono ?_
    rintro e w1 ⟨rfl, hw1⟩
    rw [← hw1] at HR
    have hg1 : w.grownBy w1 (some g) := by rw [hw1]; exact grown_cell (grown_refl _ _) _ _
    clear hw1 hc
    have hop := opened (w := w1) (p := ByteArray.empty) (by simp)
    go_wp2_with fail
    refine hop.mono ?_
    rintro e w2 ⟨q, rfl, hq, hrd, hb2⟩
    have htk := take64 q _ w2 hrd (strNat_all _)
    have hz : word8 (strNat ByteArray.empty) = 0 := by decide
    rw [hz] at htk
    clear hop hrd hconv
    go_wp2_with fail
    refine htk.mono ?_
    rintro e w3 ⟨rfl, hg3⟩
    go_wp2_with fail
    go_ret
    have hqg : q ≠ g := by have := hg1.size; omega
    refine ⟨grown_of (grown_of hg1 (grown_below hb2 (some g)) (.inl rfl)) hg3 (.inr ⟨q, rfl, by have := hg1.size; omega⟩), _, s, rfl, rfl, ?_, hl⟩
    exact (HR.out.below hb2 HR.out.lt).grown hg3 (by simpa using hqg)
  · have h8 : (strNat s).length = s.size := strNat_len s
    have ht : takeW (strNat s) = some (beVal ((strNat s).take 8), (strNat s).drop 8) := by unfold takeW; rw [if_neg (by omega)]
    rw [ht]
    have hc := next_has g 8 s b w hr (by omega) (by omega)
    have hp : strNat (s.extract 0 8) = (strNat s).take 8 := by rw [strNat_extract]; rfl
    have hq : strNat (s.extract 8 s.size) = (strNat s).drop 8 := by
      rw [strNat_extract, List.take_of_length_le (by rw [List.length_drop]; omega)]
    have hsz : (s.extract 0 8).size = 8 := extract_size s 0 8 (by omega) (by omega)
    have hwd : word8 (strNat (s.extract 0 8)) = beVal ((strNat s).take 8) := by
      unfold word8
      rw [strNat_len, if_neg (by omega), hp, List.take_take]; rfl
    have HR := hide_it (hr.set0 (s.extract 8 s.size))
    have HQ := hide_it hq
    have HQL : Hid ((s.extract 8 s.size).size ≤ 140737488351232) := by unfold Hid; rw [extract_size s 8 s.size (by omega) (by omega)]; omega
    have HW := hide_it hwd
    clear hr hp hq hwd ht h8
    generalize s.extract 0 8 = p at *
    generalize s.extract 8 s.size = q' at *
    generalize beVal ((strNat s).take 8) = v at *
    generalize (strNat s).drop 8 = t at *
    have hconv := fun u : World => Lib.run_convert_string_bytes (P := Try.prog) u 9 51 5 p Try.underlying9 Try.underlying51 Try.underlying5
    go_enter Try.func40, Try.ntmps40
    go_wp2_with fail
    refine hc.mono ?_
    rintro e w1 ⟨rfl, hw1⟩
    rw [← hw1] at HR
    have hg1 : w.grownBy w1 (some g) := by rw [hw1]; exact grown_cell (grown_refl _ _) _ _
    clear hw1 hc
    have hop := opened (w := w1) (p := p) (by omega)
    have HS := hide_it hsz
    clear hsz
    go_wp2_with fail
    refine hop.mono ?_
    rintro e w2 ⟨q, rfl, hq, hrd, hb2⟩
    have htk := take64 q _ w2 hrd (strNat_all _)
    rw [HW.out] at htk
    clear hop hrd hconv
    go_wp2_with fail
    refine htk.mono ?_
    rintro e w3 ⟨rfl, hg3⟩
    go_wp2_with fail
    go_ret
    have hqg : q ≠ g := by have := hg1.size; omega
    refine ⟨grown_of (grown_of hg1 (grown_below hb2 (some g)) (.inl rfl)) hg3 (.inr ⟨q, rfl, by have := hg1.size; omega⟩), rfl, q', ?_, HQ.out, HQL.out⟩
    exact (HR.out.below hb2 HR.out.lt).grown hg3 (by simpa using hqg)

set_option maxRecDepth 100000 in
set_option maxHeartbeats 400000 in
theorem number_any (g : Nat) (s : ByteArray) (w : World) (b : Bool) (hr : RdO w g s b) (hl : s.size ≤ 140737488351232) :
    Calls Try.prog 41 #[.pointer (some ⟨g, 0, none⟩)] w fun e w' => Rdg (takeN (strNat s)) (fun z => .float .f64 z) (fun v => ∃ z, z < 18446744073709551616 ∧ v = .float .f64 z) g b w e w' := by
  have ho := word_any g s b w hr hl
  clear hr
  cases hs : takeW (strNat s) with
  | none =>
    rw [hs] at ho
    have ht : takeN (strNat s) = none := by unfold takeN; rw [hs]
    rw [ht]
    have hu := fun w => unrising_any 0 w (by decide)
    have hul := unr_lt (show 0 < 18446744073709551616 by decide)
    generalize unr 0 = u at *
    go_enter Try.func41, Try.ntmps41
    go_wp2_with fail
    refine ho.mono ?_
    rintro e w1 ⟨hg, v, s', rfl, rfl, hr1, hsl⟩
    obtain ⟨c0, c1, f0, f1⟩ := hr1.cells
    have HR := hide_it hr1
    clear hr1 ho
    go_wp2_with fail
    refine (hu _).mono ?_
    rintro e w' ⟨rfl, hq⟩
    have hq2 := hq.symm
    subst hq2
    clear hq
    go_wp2_with fail
    go_ret
    exact ⟨grown_cell hg _ _, _, s', rfl, ⟨_, hul, rfl⟩, HR.out.set1 true, hsl⟩
  | some p =>
    obtain ⟨v, t⟩ := p
    rw [hs] at ho
    have hv : v < 18446744073709551616 := (takeW_form (strNat_all s) hs).2.1
    have ht : takeN (strNat s) = if rise (unr v) = v then some (unr v, t) else none := by unfold takeN; rw [hs]
    rw [ht]
    have hu := fun w => unrising_any v w hv
    have hul := unr_lt hv
    have hri := fun w => rising_any (unr v) w hul
    clear hs ht
    generalize unr v = u at *
    generalize rise u = ru at *
    cases b with
    | true =>
      go_enter Try.func41, Try.ntmps41
      go_wp2_with fail
      refine ho.mono ?_
      rintro e w1 ⟨hg, rfl, s', hr1, hst, hsl⟩
      obtain ⟨c0, c1, f0, f1⟩ := hr1.cells
      have HR := hide_it hr1
      clear hr1 ho
      go_wp2_with fail
      refine (hu _).mono ?_
      rintro e w' ⟨rfl, hq⟩
      have hq2 := hq.symm
      subst hq2
      clear hq
      go_wp2_with fail
      all_goals go_ret
      all_goals first
        | exact ⟨grown_cell hg _ _, rfl, s', HR.out.set1 true, hst, hsl⟩
        | exact ⟨grown_cell hg _ _, _, s', rfl, ⟨_, hul, rfl⟩, HR.out.set1 true, hsl⟩
    | false =>
      by_cases he : ru = v
      · rw [if_pos he]
        subst he
        have hd : ((ru : Int) == (ru : Int)) = true := by simp
        go_enter Try.func41, Try.ntmps41
        go_wp2_with fail
        refine ho.mono ?_
        rintro e w1 ⟨hg, rfl, s', hr1, hst, hsl⟩
        obtain ⟨c0, c1, f0, f1⟩ := hr1.cells
        have HR := hide_it hr1
        clear hr1 ho
        go_wp2_with fail
        refine (hu _).mono ?_
        rintro e w' ⟨rfl, hq⟩
        have hq2 := hq.symm
        subst hq2
        clear hq
        go_wp2_with fail
        refine (hri _).mono ?_
        rintro e w2 ⟨rfl, hq⟩
        have hq2 := hq.symm
        subst hq2
        clear hq
        go_wp2_with fail
        go_ret
        exact ⟨grown_cell hg _ _, rfl, s', HR.out.set1 false, hst, hsl⟩
      · rw [if_neg he]
        have hd : ((ru : Int) == (v : Int)) = false := by simp; omega
        go_enter Try.func41, Try.ntmps41
        go_wp2_with fail
        refine ho.mono ?_
        rintro e w1 ⟨hg, rfl, s', hr1, hst, hsl⟩
        obtain ⟨c0, c1, f0, f1⟩ := hr1.cells
        have HR := hide_it hr1
        clear hr1 ho
        go_wp2_with fail
        refine (hu _).mono ?_
        rintro e w' ⟨rfl, hq⟩
        have hq2 := hq.symm
        subst hq2
        clear hq
        go_wp2_with fail
        refine (hri _).mono ?_
        rintro e w2 ⟨rfl, hq⟩
        have hq2 := hq.symm
        subst hq2
        clear hq
        go_wp2_with fail
        go_ret
        have hne : ((ru : Int) != (v : Int)) = true := by simp; omega
        rw [hne]
        exact ⟨grown_cell hg _ _, _, s', rfl, ⟨_, hul, rfl⟩, HR.out.set1 true, hsl⟩

end Go.Proofs.Ytelcfmjhbjnkoaa
