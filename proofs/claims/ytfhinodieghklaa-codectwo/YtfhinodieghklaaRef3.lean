/- The document's reader: a number between bounds. -/
import Derived.Test.YtfhinodieghklaaRef2
namespace Go.Proofs.Ytfhinodieghklaa
open Go.RowKit

theorem two_below (w : World) (x y : Obj) : Below w.heap.size w ((w.alloc x).alloc y).drew := (((Below.refl _ _).alloc (Nat.le_refl _) x).alloc (by simp) y).drew
theorem RefIs.faulty {w w' : World} {a : Option Addr} {B : List Nat} {cap at_ f : Nat} {bs : List Nat} (h : RefIs w a B cap at_ (bs, f)) (hb : Below w.heap.size w w') {c : Nat} (hc : c ≤ 100) : RefIs w' a B cap at_ (bs, c) :=
  ⟨h.row.below hb, h.all, h.size, h.fits, h.capm, h.none, h.le, h.left, hc⟩
theorem groups_err100 : ∀ (bs : List Nat) (k y c : Nat), groupsFrom k y bs = .error c → c ≤ 100 ∧ c ≠ 0 := by
  intro bs
  induction bs with
  | nil => intro k y c h; cases h; decide
  | cons x s ih =>
    intro k y c h
    rw [groupsFrom] at h
    split at h
    · cases h; decide
    · split at h
      · exact ih _ _ _ h
      · split at h
        · cases h; decide
        · cases h

theorem groups_drop {f : Nat} {t : List Nat} : ∀ (bs : List Nat) (k y : Nat), groupsFrom k y bs = .ok (f, t) → t = bs.drop (bs.length - t.length) := by
  intro bs
  induction bs with
  | nil => intro k y h; cases h
  | cons x s ih =>
    intro k y h
    have hlen := groups_len (x :: s) k y h
    rw [groupsFrom] at h
    split at h
    · cases h
    · split at h
      · have h2 := ih _ _ h
        have h3 := groups_len s _ _ h
        rw [show (x :: s).length - t.length = (s.length - t.length) + 1 by simp; omega, List.drop_succ_cons]
        exact h2
      · split at h
        · cases h
        · cases h; simp

set_option maxRecDepth 100000 in
set_option maxHeartbeats 1000000 in
theorem rint_any (a : Option Addr) (B : List Nat) (cap at_ : Nat) (low high : Int) (s : List Nat × Nat) (w : World) (h : RefIs w a B cap at_ s) (_hl1 : -9223372036854775808 ≤ low) (_hl2 : low ≤ 9223372036854775807) (_hh1 : -9223372036854775808 ≤ high) (_hh2 : high ≤ 9223372036854775807) :
    Calls Try.prog 45 #[refV a B.length cap at_ s.2, .int .i64 low, .int .i64 high] w fun e w' => RefRead (fun n => .int .i64 n) a B cap w (rdOf 0 (takeShort low high) s) e w' := by
  have hH := hide_it h
  have hl := h.le
  have hsz := h.size
  obtain ⟨bs, f⟩ := s
  by_cases hf : f = 0
  · subst hf
    by_cases hlh : high < low
    · have hR : Hid (rdOf 0 (takeShort low high) (bs, 0) = (0, (bs, 2))) := by
        unfold Hid rdOf takeShort
        rw [if_neg (by simp), if_pos hlh]
      have hd : decide (high < low) = true := by simpa using hlh
      unfold refV
      clear h
      go_enter Try.func45, Try.ntmps45
      go_wp2_with fail
      go_region
      all_goals go_wp2_with fail
      refine bodyPost_ret (v := .tuple #[.int .i64 0, .agg #[.slice a B.length cap, .int .i64 (at_ : Int), .int .i64 2]]) (by simp [results, Try.results45, go_sem]) rfl ?_
      rw [hR.out]
      exact ⟨at_, rfl, hH.out.faulty (two_below _ _ _) (by omega), two_below _ _ _⟩
    · have hd : decide (high < low) = false := by simp; omega
      have hle : bs = B.drop at_ := h.left
      have h8b : All8 bs := by rw [hle]; exact h.all.drop _
      have hbl : bs.length = B.length - at_ := by rw [hle]; simp
      by_cases hca : cap = at_
      · subst hca
        have hbe : bs = [] := List.eq_nil_of_length_eq_zero (by have := h.fits; omega)
        have hfm := form_any a 0 bs ((w.alloc (.cells #[.slice a B.length cap, .int .i64 (cap : Int), .int .i64 0] 42)).alloc (.cells #[.slice none 0 0, .int .i64 0, .int .i64 0] 42)) (.inl (by rw [hbe]; rfl)) h8b (by omega)
        rw [hbl] at hfm
        have hT : groupsFrom 0 0 bs = .error 20 := by rw [hbe]; rfl
        have hfo : formOf bs = (0, 0, 20) := by unfold formOf; rw [hT]
        rw [hfo] at hfm
        obtain ⟨c, hc⟩ : ∃ c : Nat, c = 20 := ⟨_, rfl⟩
        rw [← hc] at hT hfm
        have hce : c ≤ 100 ∧ c ≠ 0 := by omega
        clear hc hbe h
        have hR : Hid (rdOf 0 (takeShort low high) (bs, 0) = (0, (bs, c))) := by
          unfold Hid rdOf takeShort
          rw [if_neg (by simp), if_neg hlh, hT]
        have hcz : ((c : Int) == 0) = false := by simp; omega
        have hun := runfold_any 0 ((w.alloc (.cells #[.slice a B.length cap, .int .i64 (cap : Int), .int .i64 0] 42)).alloc (.cells #[.slice none 0 0, .int .i64 0, .int .i64 0] 42)) (by unfold W64; omega)
        have hu0 : unfoldN 0 = 0 := by rfl
        rw [hu0] at hun
        clear hT hu0
        unfold refV
        go_enter Try.func45, Try.ntmps45
        go_wp2_with fail
        refine hfm.mono ?_
        rintro e w' ⟨rfl, hq⟩
        have hq2 := hq.symm
        subst hq2
        clear hq hfm
        go_wp2_with fail
        refine hun.mono ?_
        rintro e w' ⟨rfl, hq⟩
        have hq2 := hq.symm
        subst hq2
        clear hq hun
        go_wp2_with fail
        go_region
        all_goals go_wp2_with fail
        refine bodyPost_ret (v := .tuple #[.int .i64 0, .agg #[.slice a B.length cap, .int .i64 (cap : Int), .int .i64 (c : Int)]]) (by simp [results, Try.results45, go_sem]) rfl ?_
        rw [hR.out]
        exact ⟨cap, rfl, hH.out.faulty (two_below _ _ _) (by omega), two_below _ _ _⟩

      · have hb2 : Below w.heap.size w ((w.alloc (.cells #[.slice a B.length cap, .int .i64 (at_ : Int), .int .i64 0] 42)).alloc (.cells #[.slice none 0 0, .int .i64 0, .int .i64 0] 42)) := ((Below.refl _ _).alloc (Nat.le_refl _) _).alloc (by simp) _
        have hr2 : RowB ((w.alloc (.cells #[.slice a B.length cap, .int .i64 (at_ : Int), .int .i64 0] 42)).alloc (.cells #[.slice none 0 0, .int .i64 0, .int .i64 0] 42)) (a.map (fun x => x.add at_)) bs := by
          have := ((RowLt.of_row h.row).drop at_).row.below hb2
          rwa [← hle] at this
        have hfm := form_any (a.map (fun x => x.add at_)) (cap - at_) bs ((w.alloc (.cells #[.slice a B.length cap, .int .i64 (at_ : Int), .int .i64 0] 42)).alloc (.cells #[.slice none 0 0, .int .i64 0, .int .i64 0] 42)) hr2 h8b (by omega)
        rw [hbl] at hfm
        have hfits := h.fits
        have hcm := h.capm
        unfold maxLen at hcm
        clear h hb2 hr2
        cases hT : groupsFrom 0 0 bs with
        | error c =>
          have hce := groups_err100 bs 0 0 c hT
          have hfo : formOf bs = (0, 0, c) := by unfold formOf; rw [hT]
          rw [hfo] at hfm
          clear hle h8b
          have hR : Hid (rdOf 0 (takeShort low high) (bs, 0) = (0, (bs, c))) := by
            unfold Hid rdOf takeShort
            rw [if_neg (by simp), if_neg hlh, hT]
          have hcz : ((c : Int) == 0) = false := by simp; omega
          have hun := runfold_any 0 ((w.alloc (.cells #[.slice a B.length cap, .int .i64 (at_ : Int), .int .i64 0] 42)).alloc (.cells #[.slice none 0 0, .int .i64 0, .int .i64 0] 42)) (by unfold W64; omega)
          have hu0 : unfoldN 0 = 0 := by rfl
          rw [hu0] at hun
          clear hfo hT hu0
          unfold refV
          go_enter Try.func45, Try.ntmps45
          go_wp2_with fail
          refine hfm.mono ?_
          rintro e w' ⟨rfl, hq⟩
          have hq2 := hq.symm
          subst hq2
          clear hq hfm
          go_wp2_with fail
          refine hun.mono ?_
          rintro e w' ⟨rfl, hq⟩
          have hq2 := hq.symm
          subst hq2
          clear hq hun
          go_wp2_with fail
          go_region
          all_goals go_wp2_with fail
          refine bodyPost_ret (v := .tuple #[.int .i64 0, .agg #[.slice a B.length cap, .int .i64 (at_ : Int), .int .i64 (c : Int)]]) (by simp [results, Try.results45, go_sem]) rfl ?_
          rw [hR.out]
          exact ⟨at_, rfl, hH.out.faulty (two_below _ _ _) (by omega), two_below _ _ _⟩

        | ok x =>
          obtain ⟨F, t⟩ := x
          have hF64 := groups_w64 bs F t hT
          have htl := groups_len bs 0 0 hT
          have hfo : formOf bs = (F, bs.length - t.length, 0) := by unfold formOf; rw [hT]
          rw [hfo] at hfm
          have hun := runfold_any F ((w.alloc (.cells #[.slice a B.length cap, .int .i64 (at_ : Int), .int .i64 0] 42)).alloc (.cells #[.slice none 0 0, .int .i64 0, .int .i64 0] 42)) hF64
          have hub := unfoldN_bounds hF64
          by_cases hin : unfoldN F < low ∨ high < unfoldN F
          · have hR : Hid (rdOf 0 (takeShort low high) (bs, 0) = (0, (bs, 21))) := by
              unfold Hid rdOf takeShort
              rw [if_neg (by simp), if_neg hlh, hT]
              simp only [if_pos hin]
            have hor : (decide (unfoldN F < low) || decide (high < unfoldN F)) = true := by simpa using hin
            clear hfo hT hbl
            generalize unfoldN F = n at *
            generalize bs.length - t.length = m at *
            unfold refV
            go_enter Try.func45, Try.ntmps45
            go_wp2_with fail
            refine hfm.mono ?_
            rintro e w' ⟨rfl, hq⟩
            have hq2 := hq.symm
            subst hq2
            clear hq hfm
            go_wp2_with fail
            refine hun.mono ?_
            rintro e w' ⟨rfl, hq⟩
            have hq2 := hq.symm
            subst hq2
            clear hq hun
            by_cases h1 : n < low
            · have hd1 : decide (n < low) = true := by simpa using h1
              clear hin hor
              go_wp2_with fail
              go_region
              all_goals go_wp2_with fail
              refine bodyPost_ret (v := .tuple #[.int .i64 0, .agg #[.slice a B.length cap, .int .i64 (at_ : Int), .int .i64 21]]) (by simp [results, Try.results45, go_sem]) rfl ?_
              rw [hR.out]
              exact ⟨at_, rfl, hH.out.faulty (two_below _ _ _) (by omega), two_below _ _ _⟩
            · have hd1 : decide (n < low) = false := by simpa using h1
              have hd2 : decide (high < n) = true := by simp; omega
              clear hin hor
              go_wp2_with fail
              go_region
              all_goals go_wp2_with fail
              refine bodyPost_ret (v := .tuple #[.int .i64 0, .agg #[.slice a B.length cap, .int .i64 (at_ : Int), .int .i64 21]]) (by simp [results, Try.results45, go_sem]) rfl ?_
              rw [hR.out]
              exact ⟨at_, rfl, hH.out.faulty (two_below _ _ _) (by omega), two_below _ _ _⟩
          · have hR : Hid (rdOf 0 (takeShort low high) (bs, 0) = (unfoldN F, (t, 0))) := by
              unfold Hid rdOf takeShort
              rw [if_neg (by simp), if_neg hlh, hT]
              simp only [if_neg hin]
            have hsuf := groups_drop bs 0 0 hT
            have hml : bs.length - t.length ≤ bs.length := by omega
            have HSUF : Hid (t = B.drop (at_ + (bs.length - t.length))) := by unfold Hid; rw [← List.drop_drop, ← hle]; exact hsuf
            clear hfo hT hsuf
            generalize unfoldN F = n at *
            generalize bs.length - t.length = m at *
            have hd1 : decide (n < low) = false := by simp; omega
            have hd2 : decide (high < n) = false := by simp; omega
            clear hin
            unfold refV
            go_enter Try.func45, Try.ntmps45
            go_wp2_with fail
            refine hfm.mono ?_
            rintro e w' ⟨rfl, hq⟩
            have hq2 := hq.symm
            subst hq2
            clear hq hfm
            go_wp2_with fail
            refine hun.mono ?_
            rintro e w' ⟨rfl, hq⟩
            have hq2 := hq.symm
            subst hq2
            clear hq hun
            go_wp2_with fail
            go_region
            all_goals go_wp2_with fail
            have e5 : (at_ : Int) + (m : Int) = ((at_ + m : Nat) : Int) := by simp
            refine bodyPost_ret (v := .tuple #[.int .i64 n, .agg #[.slice a B.length cap, .int .i64 ((at_ : Int) + (m : Int)), .int .i64 0]]) (by simp [results, Try.results45, go_sem]) rfl ?_
            rw [hR.out]
            have hO := hH.out
            exact ⟨at_ + m, by rw [e5]; rfl, ⟨hO.row.below (two_below _ _ _), hO.all, hO.size, hO.fits, hO.capm, hO.none, by omega, HSUF.out, by show 0 ≤ 100; omega⟩, two_below _ _ _⟩

  · have hd : ((f : Int) == 0) = false := by simp; omega
    have hR : Hid (rdOf 0 (takeShort low high) (bs, f) = (0, (bs, f))) := if_pos hf
    unfold refV
    clear h
    go_enter Try.func45, Try.ntmps45
    go_wp2_with fail
    go_region
    all_goals go_wp2_with fail
    refine bodyPost_ret (v := .tuple #[.int .i64 0, .agg #[.slice a B.length cap, .int .i64 (at_ : Int), .int .i64 (f : Int)]]) (by simp [results, Try.results45, go_sem]) rfl ?_
    rw [hR.out]
    exact ⟨at_, rfl, hH.out.below (two_below _ _ _), two_below _ _ _⟩
end Go.Proofs.Ytfhinodieghklaa
