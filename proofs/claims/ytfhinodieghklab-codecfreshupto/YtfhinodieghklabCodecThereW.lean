/- The law that what was put is read again, and nothing shorter, walked. -/
import Derived.Test.YtfhinodieghklabTh3
namespace Go.Proofs.Ytfhinodieghklab
open Go.RowKit

/-- What a walk is told of a list of things that came in. -/
structure CameT (w : World) (a : Option Addr) (n : Nat) (T : Nat → Thing) : Prop where
  size : n ≤ 1048576
  row : n = 0 ∨ ∃ b o, a = some ⟨b, o, none⟩ ∧ b < w.heap.size ∧ ∀ i, i < n → w.cell? ⟨b, o + i * 4, none⟩ = some (.int .i64 (T i).k) ∧ w.cell? ⟨b, o + i * 4 + 1, none⟩ = some (.int .u64 ((T i).v : Int)) ∧ w.cell? ⟨b, o + i * 4 + 2, none⟩ = some (.int .i64 (T i).n) ∧ w.cell? ⟨b, o + i * 4 + 3, none⟩ = some (.slice (T i).a (T i).p.length (T i).c)
  ok : ∀ i, i < n → (T i).Ok
  rows : ∀ i, i < n → RowB w (T i).a (T i).p
theorem CameT.here {w w' : World} {a : Option Addr} {n : Nat} {T : Nat → Thing} (h : CameT w a n T) (hb : Below w.heap.size w w') {i : Nat} (hi : i < n) :
    ∃ b o, a = some ⟨b, o, none⟩ ∧ w'.cell? ⟨b, o + i * 4, none⟩ = some (.int .i64 (T i).k) ∧ w'.cell? ⟨b, o + i * 4 + 1, none⟩ = some (.int .u64 ((T i).v : Int)) ∧ w'.cell? ⟨b, o + i * 4 + 2, none⟩ = some (.int .i64 (T i).n) ∧ w'.cell? ⟨b, o + i * 4 + 3, none⟩ = some (.slice (T i).a (T i).p.length (T i).c) := by
  rcases h.row with h0 | ⟨b, o, e, hlt, hc⟩
  · omega
  · obtain ⟨c0, c1, c2, c3⟩ := hc i hi
    exact ⟨b, o, e, (hb.cell (p := ⟨b, _, none⟩) hlt).trans c0, (hb.cell (p := ⟨b, _, none⟩) hlt).trans c1, (hb.cell (p := ⟨b, _, none⟩) hlt).trans c2, (hb.cell (p := ⟨b, _, none⟩) hlt).trans c3⟩

theorem suf_len {T : Nat → Thing} {k j : Nat} (h : j ≤ k) : (suf T (k - j) j).length ≤ (pre T k).length := by
  have e := pre_suf T (k - j) j
  rw [show j + (k - j) = k by omega] at e
  rw [e, List.length_append]; omega

namespace codecThere

set_option maxRecDepth 100000 in
set_option maxHeartbeats 2000000 in
theorem walk (c : Option Addr) (n cc : Nat) (T : Nat → Thing) (m : Nat) (w : World) (hc : CameT w c n T) (hm8 : m < 256) :
    Calls Try.prog 3 #[.slice c n cc, .int .u8 (m : Int)] w fun e w' => e = .returned (.bool true) ∧ Below w.heap.size w w' := by
  have hn := hc.size
  have HC := hide_it hc
  have hlen : ∀ k, k ≤ n → (pre T k).length + 1048586 ≤ 2000000000000 := fun k hk => by have := pre_len hc.ok k hk; have : k * 1048586 ≤ 1048576 * 1048586 := Nat.mul_le_mul_right _ (by omega); omega
  clear hc
  go_enter Try.func3, Try.ntmps3
  go_wp2_with fail
  go_loopw [5, 17] (fun b i wr => ∃ (k : Nat) (a1 : Option Addr) (c1 : Nat), k ≤ n ∧ i = .int .i64 (k : Int) ∧ b = .slice a1 (pre T k).length c1 ∧ RowB wr a1 (pre T k) ∧ (pre T k).length ≤ c1 ∧ (a1 = none → (pre T k).length = 0 ∧ c1 = 0) ∧ Below w.heap.size w wr) (fun _ i _ => n - (intOf i).toNat)
  case atStart => exact ⟨0, none, 0, by omega, rfl, rfl, .inl rfl, Nat.le_refl _, fun _ => ⟨rfl, rfl⟩, Below.refl _ _⟩
  case round =>
    obtain ⟨k, a1, c1, hk, rfl, rfl, hr1, hfit1, hn1, hb1⟩ := hrel
    by_cases hlt : k < n
    · obtain ⟨b9, o9, rfl, e0, e1, e2, e3⟩ := HC.out.here hb1 hlt
      have hok := HC.out.ok k hlt
      have hbx := thing_below wr (T k)
      have hbw := hb1.trans (hbx.mono hb1.size)
      have hrow := (HC.out.rows k hlt).below hbw
      have hl2 := hlen k hk
      have hla := laid_any a1 c1 (pre T k) (T k) _ hok hrow (hr1.below hbx) (by omega) hn1
      have hi1 : (k : Int) < (n : Int) := by omega
      have HS : Hid (pre T (k + 1) = pre T k ++ (T k).enc) := rfl
      have HBW := hide_it hbw
      generalize pre T k = L at *
      generalize T k = t at *
      obtain ⟨tk, tv, tn, tp, ta, tc⟩ := t
      clear hr1 hbx hrow hok hb1 hbw hn1
      go_wp2_with fail
      refine hla.mono ?_
      rintro e w2 ⟨⟨r, rfl, ho⟩, hb2⟩
      obtain ⟨a2, c2, hv2, hr2, hf2, _, hn2⟩ := ho.row
      subst hv2
      have HR := hide_it hr2
      have HN := hide_it hn2
      have HB := hide_it hb2
      clear hla ho hr2 hn2 hb2 e0 e1 e2 e3
      go_wp2_with fail
      go_roundw
      case rel => exact ⟨k + 1, a2, c2, by omega, by go_num, by rw [HS.out, List.length_append], by rw [HS.out]; exact HR.out, by rw [HS.out]; exact hf2, by rw [HS.out]; exact HN.out, HBW.out.trans (HB.out.mono HBW.out.size)⟩
      case measure => simp [intOf]; omega
    · have hkn : k = n := by omega
      subst hkn
      have hl2 := hlen k (Nat.le_refl _)
      have h8 := pre_all HC.out.ok k (Nat.le_refl _)
      have hop := open_any a1 c1 (pre T k) wr hr1 h8 (by omega) hn1
      have HSU : Hid (pre T k = suf T (k - 0) 0) := by have h := pre_suf T k 0; rw [Nat.zero_add] at h; rw [Nat.sub_zero]; exact h
      obtain ⟨L, hL⟩ : ∃ L, L = pre T k := ⟨_, rfl⟩
      rw [← hL] at hop hl2 hr1 hfit1 hn1 HSU h8 ⊢
      have HL := hide_it hL
      have HR1 := hide_it hr1
      have HN1 := hide_it hn1
      have HB1 := hide_it hb1
      have hd : decide ((k : Int) < (k : Int)) = false := by simp
      clear hL hr1 hn1 hb1 hlen
      generalize wr = wA at *
      go_wp2_with fail
      refine hop.mono ?_
      rintro e w3 ⟨p, rfl, hp, hs3, hb3⟩
      have HS3 := hide_it hs3
      have HB3 := hide_it hb3
      clear hop hs3 hb3
      go_wp2_with fail
      go_loopw [29] (fun i wr => ∃ (j : Nat), j ≤ k ∧ i = .int .i64 (j : Int) ∧ Rst wr (some ⟨p, 0, none⟩) (suf T (k - j) j, 0) ∧ Below wA.heap.size wA wr) (fun i _ => k - (intOf i).toNat)
      case atStart => exact ⟨0, by omega, rfl, by rw [← HSU.out]; exact HS3.out, HB3.out⟩
      case round =>
        obtain ⟨j, hj, rfl, hs, hbz⟩ := hrel
        clear HS3 HB3
        by_cases hlt2 : j < k
        · have hbw := HB1.out.trans (hbz.mono HB1.out.size)
          obtain ⟨b9, o9, rfl, e0, e1, e2, e3⟩ := HC.out.here hbw hlt2
          have hok := HC.out.ok j hlt2
          have hbx := thing_below wr (T j)
          have hbwx := hbw.trans (hbx.mono hbw.size)
          have hrow := (HC.out.rows j hlt2).below hbwx
          have hsl := suf_len (T := T) hj
          rw [← HL.out] at hsl
          have hba := back_any p (T j) (suf T (k - j) j, 0) _ hok hrow (hs.below hbx) (by show (suf T (k - j) j).length ≤ _; omega)
          rw [suf_one hlt2, Thing.there hok] at hba
          have hi1 : (j : Int) < (k : Int) := by omega
          have HBX := hide_it (hbz.trans (hbx.mono hbz.size))
          generalize T j = t at *
          obtain ⟨tk, tv, tn, tp, ta, tc⟩ := t
          clear hs hbx hrow hok hbw hbz hbwx hsl
          go_wp2_with fail
          refine hba.mono ?_
          rintro e w5 ⟨rfl, hs5, hg5⟩
          have hb5 : Below wA.heap.size wA w5 := HBX.out.grown hg5 HBX.out.size (fun i e => by cases e; omega)
          have HB5 := hide_it hb5
          clear hba hg5 hb5 e0 e1 e2 e3
          have hfa := fault_st _ _ _ hs5
          have HS5 := hide_it hs5
          clear hs5
          go_wp2_with fail
          refine hfa.mono ?_
          rintro e w' ⟨rfl, hq⟩
          have hq2 := hq.symm
          subst hq2
          clear hq hfa
          go_wp2_with fail
          go_roundw
          case rel => exact ⟨j + 1, by omega, by go_num, HS5.out, HB5.out⟩
          case measure => simp [intOf]; omega
        · have hjk : j = k := by omega
          subst hjk
          rw [Nat.sub_self] at hs
          have hen := end_st _ _ _ hs
          have hd2 : decide ((j : Int) < (j : Int)) = false := by simp
          have HBZ := hide_it hbz
          clear hs hbz
          go_wp2_with fail
          refine hen.mono ?_
          rintro e w' ⟨rfl, hq⟩
          have hq2 := hq.symm
          subst hq2
          rw [show endOf (suf T 0 j, 0).1 (suf T 0 j, 0).2 = 0 from rfl]
          clear hq hen
          go_wp2_with fail
          refine (fixed_all _).mono ?_
          rintro e w6 ⟨rfl, hb6⟩
          have hbw6 := HBZ.out.trans (hb6.mono HBZ.out.size)
          have hr6 := HR1.out.below hbw6
          have hbe : Below w6.heap.size w6 (w6.alloc (.cells #[] 5)) := (Below.refl _ _).alloc (Nat.le_refl _) _
          have hr7 := hr6.below hbe
          have hn1 := HN1.out
          have HB6 := hide_it hbw6
          clear hb6 hr6 HBZ hbw6
          go_wp2_with (first | (at_builtin; refine wpList_append_row _ rfl _ _ rfl w6.heap.size _ [] rfl (own_empty w6) a1 c1 L rfl hr7 hn1 (by simp; omega) hbe.size ?_; intro v7 w7 hown7 hg7 hat7; have hb7 : Below w6.heap.size w6 w7 := hbe.grown hg7 hbe.size (fun j e => by cases e; exact Nat.le_refl _)) | (at_builtin; refine wpList_append_byte _ rfl _ _ rfl w6.heap.size _ _ rfl hown7 m rfl (by simp; omega) hb7.size ?_; intro v8 w8 hown8 hg8 hat8))
          have hb8 : Below w6.heap.size w6 w8 := (hb7.alloc hb7.size _).grown hg8 (by have := hb7.size; simp; omega) (fun i e => hown7.ge e)
          rw [List.nil_append] at hown8
          obtain ⟨a8, c8, hv8, hr8, _, _, hn8⟩ := hown8.row
          subst hv8
          have h8m : All8 (L ++ [m]) := fun z hz => by
            rcases List.mem_append.1 hz with h | h
            · exact h8 z h
            · simp at h; omega
          have hop3 := open_any a8 c8 (L ++ [m]) w8 hr8 h8m (by simp; omega) hn8
          have hb08 := HB6.out.trans (hb8.mono HB6.out.size)
          have HB8 := hide_it hb08
          rw [HSU.out] at hop3
          have HLM : Hid (L ++ [m] = suf T (j - 0) 0 ++ [m]) := by unfold Hid; rw [← HSU.out]
          obtain ⟨M, hM⟩ : ∃ M, M = suf T (j - 0) 0 ++ [m] := ⟨_, rfl⟩
          rw [← hM] at hop3 HLM
          have HM := hide_it hM
          clear hown7 hown8 hg7 hg8 hat7 hat8 hb7 hb8 hr7 hr8 hn8 h8m hbe hb08 hM
          rw [HLM.out]
          refine hop3.mono ?_
          rintro e w9 ⟨p3, rfl, hp3, hs9, hb9⟩
          have hb9A := HB8.out.trans (hb9.mono HB8.out.size)
          have hs8 := HB8.out.size
          have HS9 := hide_it hs9
          have HB9 := hide_it hb9A
          clear hop3 hs9 hb9 hb9A HB6
          generalize hk9 : j = k at *
          clear hk9
          clear hd hd2 hlt hk hlt2 hj
          go_wp2_with fail
          go_loopw [59] (fun i wr => ∃ (j : Nat), j ≤ k ∧ i = .int .i64 (j : Int) ∧ Rst wr (some ⟨p3, 0, none⟩) (suf T (k - j) j ++ [m], 0) ∧ Below wA.heap.size wA wr) (fun i _ => k - (intOf i).toNat)
          case atStart => exact ⟨0, by omega, rfl, by rw [← HM.out]; exact HS9.out, HB9.out⟩
          case round =>
            obtain ⟨j, hj, rfl, hs, hbz⟩ := hrel
            clear HS9 HB9
            by_cases hlt2 : j < k
            · have hbw := HB1.out.trans (hbz.mono HB1.out.size)
              obtain ⟨b9, o9, rfl, e0, e1, e2, e3⟩ := HC.out.here hbw hlt2
              have hok := HC.out.ok j hlt2
              have hbx := thing_below wr (T j)
              have hbwx := hbw.trans (hbx.mono hbw.size)
              have hrow := (HC.out.rows j hlt2).below hbwx
              have hsl := suf_len (T := T) hj
              rw [← HL.out] at hsl
              have hba := back_any p3 (T j) (suf T (k - j) j ++ [m], 0) _ hok hrow (hs.below hbx) (by show (suf T (k - j) j ++ [m]).length ≤ _; rw [List.length_append]; simp; omega)
              rw [suf_one hlt2, List.append_assoc, Thing.there hok] at hba
              have hi1 : (j : Int) < (k : Int) := by omega
              have HBX := hide_it (hbz.trans (hbx.mono hbz.size))
              generalize T j = t at *
              obtain ⟨tk, tv, tn, tp, ta, tc⟩ := t
              clear hs hbx hrow hok hbw hbz hbwx hsl
              go_wp2_with fail
              refine hba.mono ?_
              rintro e w5 ⟨rfl, hs5, hg5⟩
              have hb5 : Below wA.heap.size wA w5 := HBX.out.grown hg5 HBX.out.size (fun i e => by cases e; omega)
              have HB5 := hide_it hb5
              clear hba hg5 hb5 e0 e1 e2 e3
              have HS5 := hide_it hs5
              clear hs5
              go_wp2_with fail
              go_roundw
              case rel => exact ⟨j + 1, by omega, by go_num, HS5.out, HB5.out⟩
              case measure => simp [intOf]; omega
            · have hjk : j = k := by omega
              subst hjk
              rw [Nat.sub_self] at hs
              have hs' : Rst wr (some ⟨p3, 0, none⟩) ([m], 0) := hs
              have hen := end_st _ _ _ hs'
              have hle := left_st _ _ _ hs'
              have hd2 : decide ((j : Int) < (j : Int)) = false := by simp
              have HBZ := hide_it hbz
              clear hs hbz hs'
              go_wp2_with fail
              refine hen.mono ?_
              rintro e w' ⟨rfl, hq⟩
              have hq2 := hq.symm
              subst hq2
              rw [show endOf ([m], 0).1 ([m], 0).2 = 22 from rfl]
              clear hq hen
              go_wp2_with fail
              refine hle.mono ?_
              rintro e w' ⟨rfl, hq⟩
              have hq2 := hq.symm
              subst hq2
              rw [show (([m], 0) : List Nat × Nat).1.length = 1 from rfl]
              clear hq hle
              by_cases hk0 : j = 0
              · subst hk0
                go_wp2_with fail
                go_ret
                exact ⟨rfl, HB1.out.trans (HBZ.out.mono HB1.out.size)⟩
              · have hdk : ((j : Int) == 0) = false := by simp; omega
                have hLs : L ≠ [] := by rw [HSU.out]; exact suf_some (by omega)
                obtain ⟨q, hq⟩ : ∃ q, L.length = q + 1 := ⟨L.length - 1, by have : 0 < L.length := List.length_pos_iff.2 hLs; omega⟩
                have hdl : L.dropLast.length = q := by simp; omega
                have hrw := HR1.out.below HBZ.out
                have hrd : RowB wr a1 L.dropLast := by
                  rcases hrw with h | ⟨b, o, e, h1, h2⟩
                  · omega
                  · refine .inr ⟨b, o, e, h1, fun i hi => ?_⟩
                    rw [h2 i (by omega)]
                    unfold at0
                    rw [List.getD_eq_getElem?_getD, List.getD_eq_getElem?_getD, List.getElem?_dropLast, if_pos (by omega)]
                have hop4 := open_any a1 c1 L.dropLast wr hrd (fun z hz => h8 z (List.dropLast_subset _ hz)) (by omega) (fun e => by have := HN1.out e; omega)
                rw [hdl] at hop4
                have hrl : L.dropLast = (suf T (j - 0) 0).dropLast := by rw [← HSU.out]
                rw [hrl] at hop4
                have HHQ := hide_it hq
                clear hrw hrd hdl hrl
                go_wp2_with fail
                refine hop4.mono ?_
                rintro e w4 ⟨p4, rfl, hp4, hs4, hb4⟩
                have hb4A := HBZ.out.trans (hb4.mono HBZ.out.size)
                have hsz := HBZ.out.size
                have HS4 := hide_it hs4
                have HB4 := hide_it hb4A
                clear hop4 hs4 hb4 hb4A
                generalize hk9 : j = k at *
                clear hk9
                clear hd2 hlt2 hj HBZ hq
                generalize wr = wB at *
                go_wp2_with fail
                go_loopw [86] (fun i wr => ∃ (j : Nat), j ≤ k ∧ i = .int .i64 (j : Int) ∧ ((j < k ∧ Rst wr (some ⟨p4, 0, none⟩) ((suf T (k - j) j).dropLast, 0)) ∨ (j = k ∧ ∃ bs, Rst wr (some ⟨p4, 0, none⟩) (bs, 20))) ∧ Below wA.heap.size wA wr) (fun i _ => k - (intOf i).toNat)
                case atStart => exact ⟨0, by omega, rfl, .inl ⟨by omega, HS4.out⟩, HB4.out⟩
                case round =>
                  obtain ⟨j, hj, rfl, hs, hbz⟩ := hrel
                  clear HS4 HB4
                  rcases hs with ⟨hlt2, hs⟩ | ⟨hjk, bs, hs⟩
                  · have hfa := fault_st _ _ _ (hs.below (thing_below wr (T j)))
                    by_cases hla : j + 1 < k
                    · have hbw := HB1.out.trans (hbz.mono HB1.out.size)
                      obtain ⟨b9, o9, rfl, e0, e1, e2, e3⟩ := HC.out.here hbw hlt2
                      have hok := HC.out.ok j hlt2
                      have hbx := thing_below wr (T j)
                      have hbwx := hbw.trans (hbx.mono hbw.size)
                      have hrow := (HC.out.rows j hlt2).below hbwx
                      have hsl := suf_len (T := T) hj
                      rw [← HL.out] at hsl
                      have hba := back_any p4 (T j) ((suf T (k - j) j).dropLast, 0) _ hok hrow (hs.below hbx) (by show (suf T (k - j) j).dropLast.length ≤ _; simp; omega)
                      have hdr : (suf T (k - j) j).dropLast = (T j).enc ++ (suf T (k - (j + 1)) (j + 1)).dropLast := by rw [suf_one hlt2, List.dropLast_append_of_ne_nil (suf_some hla)]
                      have hbk : (T j).back ((suf T (k - j) j).dropLast, 0) = (true, ((suf T (k - (j + 1)) (j + 1)).dropLast, 0)) := by rw [hdr, Thing.there hok]
                      rw [hbk] at hba
                      have hdj : decide ((j : Int) < (k : Int) - 1) = true := by simp; omega
                      clear hdr hbk
                      have hi1 : (j : Int) < (k : Int) := by omega
                      have HBX := hide_it (hbz.trans (hbx.mono hbz.size))
                      generalize T j = t at *
                      obtain ⟨tk, tv, tn, tp, ta, tc⟩ := t
                      clear hs hbx hrow hok hbw hbz hbwx hsl
                      go_wp2_with fail
                      refine hfa.mono ?_
                      rintro e w' ⟨rfl, hq⟩
                      have hq2 := hq.symm
                      subst hq2
                      clear hq hfa
                      go_wp2_with fail
                      refine hba.mono ?_
                      rintro e w5 ⟨rfl, hs5, hg5⟩
                      have hb5 : Below wA.heap.size wA w5 := HBX.out.grown hg5 HBX.out.size (fun i e => by cases e; omega)
                      have HB5 := hide_it hb5
                      clear hba hg5 hb5 e0 e1 e2 e3
                      have hfb := fault_st _ _ _ hs5
                      have HS5 := hide_it hs5
                      clear hs5
                      go_wp2_with fail
                      refine hfb.mono ?_
                      rintro e w' ⟨rfl, hq⟩
                      have hq2 := hq.symm
                      subst hq2
                      clear hq hfb
                      go_wp2_with fail
                      go_roundw
                      case rel => exact ⟨j + 1, by omega, by go_num, .inl ⟨hla, HS5.out⟩, HB5.out⟩
                      case measure => simp [intOf]; omega
                    · have hbw := HB1.out.trans (hbz.mono HB1.out.size)
                      obtain ⟨b9, o9, rfl, e0, e1, e2, e3⟩ := HC.out.here hbw hlt2
                      have hok := HC.out.ok j hlt2
                      have hbx := thing_below wr (T j)
                      have hbwx := hbw.trans (hbx.mono hbw.size)
                      have hrow := (HC.out.rows j hlt2).below hbwx
                      have hsl := suf_len (T := T) hj
                      rw [← HL.out] at hsl
                      have hba := back_any p4 (T j) ((suf T (k - j) j).dropLast, 0) _ hok hrow (hs.below hbx) (by show (suf T (k - j) j).dropLast.length ≤ _; simp; omega)
                      have hjl : k - (j + 1) = 0 := by omega
                      have hbk : ((T j).back ((suf T (k - j) j).dropLast, 0)).2.2 = 20 := by
                        rw [suf_one hlt2, hjl, show suf T 0 (j + 1) = [] from rfl, List.append_nil]
                        exact Thing.less hok
                      obtain ⟨R, hR⟩ : ∃ R, R = (T j).back ((suf T (k - j) j).dropLast, 0) := ⟨_, rfl⟩
                      rw [← hR] at hba hbk
                      obtain ⟨rb, rs, rf⟩ := R
                      simp only at hbk
                      subst hbk
                      have hdj : decide ((j : Int) < (k : Int) - 1) = false := by simp; omega
                      clear hR hjl
                      have hi1 : (j : Int) < (k : Int) := by omega
                      have HBX := hide_it (hbz.trans (hbx.mono hbz.size))
                      generalize T j = t at *
                      obtain ⟨tk, tv, tn, tp, ta, tc⟩ := t
                      clear hs hbx hrow hok hbw hbz hbwx hsl
                      go_wp2_with fail
                      refine hfa.mono ?_
                      rintro e w' ⟨rfl, hq⟩
                      have hq2 := hq.symm
                      subst hq2
                      clear hq hfa
                      go_wp2_with fail
                      refine hba.mono ?_
                      rintro e w5 ⟨rfl, hs5, hg5⟩
                      have hb5 : Below wA.heap.size wA w5 := HBX.out.grown hg5 HBX.out.size (fun i e => by cases e; omega)
                      have HB5 := hide_it hb5
                      clear hba hg5 hb5 e0 e1 e2 e3
                      have HS5 := hide_it hs5
                      clear hs5
                      go_wp2_with fail
                      go_roundw
                      case rel => exact ⟨j + 1, by omega, by go_num, .inr ⟨by omega, rs, HS5.out⟩, HB5.out⟩
                      case measure => simp [intOf]; omega
                  · subst hjk
                    have hfa := fault_st _ _ _ hs
                    have hen := end_st _ _ _ hs
                    have hd2 : decide ((j : Int) < (j : Int)) = false := by simp
                    have HBZ := hide_it hbz
                    clear hs hbz
                    go_wp2_with fail
                    refine hfa.mono ?_
                    rintro e w' ⟨rfl, hq⟩
                    have hq2 := hq.symm
                    subst hq2
                    clear hq hfa
                    go_wp2_with fail
                    refine hen.mono ?_
                    rintro e w' ⟨rfl, hq⟩
                    have hq2 := hq.symm
                    subst hq2
                    rw [show endOf (bs, 20).1 (bs, 20).2 = 20 from rfl]
                    clear hq hen
                    go_wp2_with fail
                    go_ret
                    exact ⟨rfl, HB1.out.trans (HBZ.out.mono HB1.out.size)⟩
end codecThere
end Go.Proofs.Ytfhinodieghklab
