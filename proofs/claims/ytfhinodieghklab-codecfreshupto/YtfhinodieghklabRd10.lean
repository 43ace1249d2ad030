/- One call of a reader, as the law's step makes it. -/
import Derived.Test.YtfhinodieghklabRd9
namespace Go.Proofs.Ytfhinodieghklab
open Go.RowKit

/-- What a step answers of the program's reader: a number and bytes, and the reader behind it. -/
def Stepped (rp : Option Addr) (w : World) (r : (Nat × List Nat) × (List Nat × Nat)) (e : Ending) (w' : World) : Prop :=
  (∃ a cap, e = .returned (.tuple #[.int .u64 (r.1.1 : Int), .slice a r.1.2.length cap]) ∧ RowB w' a r.1.2 ∧ (a = none → r.1.2.length = 0 ∧ cap = 0)) ∧ Rst w' rp r.2 ∧ w.grownBy w' (rp.map (·.block))
/-- An int as a number of 64 bits. -/
def u64Of (n : Int) : Nat := (n % 18446744073709551616).toNat
theorem u64_wrap (n : Int) : IntKind.u64.wrap n = ((u64Of n : Nat) : Int) := by
  unfold u64Of
  simp [IntKind.wrap, IntKind.bits, IntKind.signed]
  omega
/-- What one call of a reader answers, and the reader behind it. -/
def stepOf (k low high most : Int) (s : List Nat × Nat) : (Nat × List Nat) × (List Nat × Nat) :=
  if k = 0 then (((rdOf 0 (takeFixed 1) s).1, []), (rdOf 0 (takeFixed 1) s).2)
  else if k = 1 then (((rdOf 0 (takeFixed 2) s).1, []), (rdOf 0 (takeFixed 2) s).2)
  else if k = 2 then (((rdOf 0 (takeFixed 4) s).1, []), (rdOf 0 (takeFixed 4) s).2)
  else if k = 3 then (((rdOf 0 (takeFixed 8) s).1, []), (rdOf 0 (takeFixed 8) s).2)
  else if k = 4 then ((u64Of (rdOf 0 (takeShort low high) s).1, []), (rdOf 0 (takeShort low high) s).2)
  else if k = 5 ∨ k = 6 then ((0, (rdOf [] (takeCounted most) s).1), (rdOf [] (takeCounted most) s).2)
  else if k = 7 then ((u64Of (s.1.length : Int), []), s)
  else if k = 8 then ((u64Of (s.2 : Int), []), s)
  else if k = 9 then ((u64Of ((endOf s.1 s.2 : Nat) : Int), []), s)
  else ((0, []), s)

theorem Rst.all {w : World} {rp : Option Addr} {s : List Nat × Nat} (h : Rst w rp s) : All8 s.1 := by
  rcases h with ⟨_, rfl⟩ | ⟨p, _, _, h⟩
  · intro z hz; cases hz
  · exact h
theorem rdFixed_lt {W : Nat} {s : List Nat × Nat} (h8 : All8 s.1) : (rdOf 0 (takeFixed W) s).1 < 256 ^ W := by
  unfold rdOf
  split
  · exact Nat.pow_pos (by decide)
  · cases ht : takeFixed W s.1 with
    | error c => exact Nat.pow_pos (by decide)
    | ok x => obtain ⟨x, t⟩ := x; exact takeFixed_lt h8 ht
theorem rdCounted_all {most : Int} {s : List Nat × Nat} (h8 : All8 s.1) : All8 (rdOf [] (takeCounted most) s).1 := by
  unfold rdOf
  split
  · intro z hz; cases hz
  · cases ht : takeCounted most s.1 with
    | error c => intro z hz; cases hz
    | ok x =>
      obtain ⟨x, t⟩ := x
      unfold takeCounted at ht
      split at ht
      · cases ht
      · next e =>
        split at ht
        · cases ht
        · cases ht; exact (takeShort_all e h8).take _
theorem strNat_strOf {p : List Nat} (h8 : All8 p) : strNat (strOf p) = p := by
  unfold strNat
  rw [strOf_data, List.map_map]
  have : ∀ z ∈ p, (UInt8.toNat ∘ UInt8.ofNat) z = z := fun z hz => by
    have := h8 z hz
    simp; omega
  rw [List.map_congr_left this]; simp
theorem strOf_size (p : List Nat) : (strOf p).size = p.length := by
  have h := congrArg List.length (strOf_data p)
  simp at h
  exact h

theorem grown_post {w w1 w2 : World} {r : Option Nat} (hg : w.grownBy w1 r) (hb : Below w1.heap.size w1 w2) : w.grownBy w2 r :=
  ⟨hb.os.trans hg.os, hb.tape.trans hg.tape, hb.output.trans hg.output, Nat.le_trans hg.size hb.size, fun k hk hne => (hb.block k (Nat.lt_of_lt_of_le hk hg.size)).trans (hg.block k hk hne)⟩

/-- The box in which a step's copy of its call lies. -/
abbrev boxW (w : World) (k low high most : Int) : World := w.alloc (.cells #[.int .i64 k, .int .i64 low, .int .i64 high, .int .i64 most] 55)
theorem box_below (w : World) (k low high most : Int) : Below w.heap.size w (boxW w k low high most) := (Below.refl _ _).alloc (Nat.le_refl _) _


set_option maxRecDepth 100000 in
set_option maxHeartbeats 400000 in
theorem step0 (rp : Option Addr) (low high most : Int) (s : List Nat × Nat) (w : World) (hs : Rst w rp s) :
    Calls Try.prog 29 #[.pointer rp, .agg #[.int .i64 0, .int .i64 low, .int .i64 high, .int .i64 most]] w fun e w' => Stepped rp w (((rdOf 0 (takeFixed 1) s).1, []), (rdOf 0 (takeFixed 1) s).2) e w' := by
  have hb := box_below w 0 low high most
  have hx := take8 rp s _ (hs.below hb)
  have hlt := rdFixed_lt (W := 1) hs.all
  generalize rdOf 0 (takeFixed 1) s = x at *
  have hlt2 : x.1 < 18446744073709551616 := Nat.lt_of_lt_of_le hlt (by decide)
  have hw : IntKind.u64.wrap (x.1 : Int) = (x.1 : Int) := by simp [IntKind.wrap, IntKind.bits, IntKind.signed]; omega
  clear hs hlt
  go_enter Try.func29, Try.ntmps29
  go_wp2_with fail
  refine hx.mono ?_
  rintro e w1 ⟨rfl, hs1, hg1⟩
  have HS := hide_it hs1
  have HG := hide_it (grown_pre hb hg1)
  clear hs1 hg1 hx hb
  go_wp2_with fail
  go_ret2
  exact ⟨⟨none, 0, rfl, .inl rfl, fun _ => ⟨rfl, rfl⟩⟩, HS.out, HG.out⟩

set_option maxRecDepth 100000 in
set_option maxHeartbeats 400000 in
theorem step1 (rp : Option Addr) (low high most : Int) (s : List Nat × Nat) (w : World) (hs : Rst w rp s) (hlow : low ≤ 0) :
    Calls Try.prog 29 #[.pointer rp, .agg #[.int .i64 1, .int .i64 low, .int .i64 high, .int .i64 most]] w fun e w' => Stepped rp w (((rdOf 0 (takeFixed 2) s).1, []), (rdOf 0 (takeFixed 2) s).2) e w' := by
  have hb := box_below w 1 low high most
  have hx := take16 rp s _ (hs.below hb)
  have hlt := rdFixed_lt (W := 2) hs.all
  generalize rdOf 0 (takeFixed 2) s = x at *
  have hlt2 : x.1 < 18446744073709551616 := Nat.lt_of_lt_of_le hlt (by decide)
  have hw : IntKind.u64.wrap (x.1 : Int) = (x.1 : Int) := by simp [IntKind.wrap, IntKind.bits, IntKind.signed]; omega
  have hd : decide ((0 : Int) < low) = false := by simp; omega
  clear hs hlt
  go_enter Try.func29, Try.ntmps29
  go_wp2_with fail
  refine hx.mono ?_
  rintro e w1 ⟨rfl, hs1, hg1⟩
  have HS := hide_it hs1
  have HG := hide_it (grown_pre hb hg1)
  clear hs1 hg1 hx hb
  go_wp2_with fail
  go_ret2
  exact ⟨⟨none, 0, rfl, .inl rfl, fun _ => ⟨rfl, rfl⟩⟩, HS.out, HG.out⟩

set_option maxRecDepth 100000 in
set_option maxHeartbeats 400000 in
theorem step1w (rp : Option Addr) (low high most : Int) (s : List Nat × Nat) (w : World) (hs : Rst w rp s) (hlow : 0 < low) :
    Calls Try.prog 29 #[.pointer rp, .agg #[.int .i64 1, .int .i64 low, .int .i64 high, .int .i64 most]] w fun e w' => Stepped rp w (((rdOf 0 (takeFixed 2) s).1, []), (rdOf 0 (takeFixed 2) s).2) e w' := by
  have hb := box_below w 1 low high most
  have hx := takeW rp s _ (hs.below hb)
  have hlt := rdFixed_lt (W := 2) hs.all
  generalize rdOf 0 (takeFixed 2) s = x at *
  have hlt2 : x.1 < 18446744073709551616 := Nat.lt_of_lt_of_le hlt (by decide)
  have hw : IntKind.u64.wrap (x.1 : Int) = (x.1 : Int) := by simp [IntKind.wrap, IntKind.bits, IntKind.signed]; omega
  have hd : decide ((0 : Int) < low) = true := by simp; omega
  clear hs hlt
  go_enter Try.func29, Try.ntmps29
  go_wp2_with fail
  refine hx.mono ?_
  rintro e w1 ⟨rfl, hs1, hg1⟩
  have HS := hide_it hs1
  have HG := hide_it (grown_pre hb hg1)
  clear hs1 hg1 hx hb
  go_wp2_with fail
  go_ret2
  exact ⟨⟨none, 0, rfl, .inl rfl, fun _ => ⟨rfl, rfl⟩⟩, HS.out, HG.out⟩

set_option maxRecDepth 100000 in
set_option maxHeartbeats 400000 in
theorem step2 (rp : Option Addr) (low high most : Int) (s : List Nat × Nat) (w : World) (hs : Rst w rp s) :
    Calls Try.prog 29 #[.pointer rp, .agg #[.int .i64 2, .int .i64 low, .int .i64 high, .int .i64 most]] w fun e w' => Stepped rp w (((rdOf 0 (takeFixed 4) s).1, []), (rdOf 0 (takeFixed 4) s).2) e w' := by
  have hb := box_below w 2 low high most
  have hx := take32 rp s _ (hs.below hb)
  have hlt := rdFixed_lt (W := 4) hs.all
  generalize rdOf 0 (takeFixed 4) s = x at *
  have hlt2 : x.1 < 18446744073709551616 := Nat.lt_of_lt_of_le hlt (by decide)
  have hw : IntKind.u64.wrap (x.1 : Int) = (x.1 : Int) := by simp [IntKind.wrap, IntKind.bits, IntKind.signed]; omega
  clear hs hlt
  go_enter Try.func29, Try.ntmps29
  go_wp2_with fail
  refine hx.mono ?_
  rintro e w1 ⟨rfl, hs1, hg1⟩
  have HS := hide_it hs1
  have HG := hide_it (grown_pre hb hg1)
  clear hs1 hg1 hx hb
  go_wp2_with fail
  go_ret2
  exact ⟨⟨none, 0, rfl, .inl rfl, fun _ => ⟨rfl, rfl⟩⟩, HS.out, HG.out⟩

set_option maxRecDepth 100000 in
set_option maxHeartbeats 400000 in
theorem step3 (rp : Option Addr) (low high most : Int) (s : List Nat × Nat) (w : World) (hs : Rst w rp s) :
    Calls Try.prog 29 #[.pointer rp, .agg #[.int .i64 3, .int .i64 low, .int .i64 high, .int .i64 most]] w fun e w' => Stepped rp w (((rdOf 0 (takeFixed 8) s).1, []), (rdOf 0 (takeFixed 8) s).2) e w' := by
  have hb := box_below w 3 low high most
  have hx := take64 rp s _ (hs.below hb)
  have hlt := rdFixed_lt (W := 8) hs.all
  generalize rdOf 0 (takeFixed 8) s = x at *
  have hlt2 : x.1 < 18446744073709551616 := Nat.lt_of_lt_of_le hlt (by decide)
  have hw : IntKind.u64.wrap (x.1 : Int) = (x.1 : Int) := by simp [IntKind.wrap, IntKind.bits, IntKind.signed]; omega
  clear hs hlt
  go_enter Try.func29, Try.ntmps29
  go_wp2_with fail
  refine hx.mono ?_
  rintro e w1 ⟨rfl, hs1, hg1⟩
  have HS := hide_it hs1
  have HG := hide_it (grown_pre hb hg1)
  clear hs1 hg1 hx hb
  go_wp2_with fail
  go_ret2
  exact ⟨⟨none, 0, rfl, .inl rfl, fun _ => ⟨rfl, rfl⟩⟩, HS.out, HG.out⟩

set_option maxRecDepth 100000 in
set_option maxHeartbeats 400000 in
theorem step4 (rp : Option Addr) (low high most : Int) (s : List Nat × Nat) (w : World) (hs : Rst w rp s) (hl1 : -9223372036854775808 ≤ low) (hl2 : low ≤ 9223372036854775807) (hh1 : -9223372036854775808 ≤ high) (hh2 : high ≤ 9223372036854775807) :
    Calls Try.prog 29 #[.pointer rp, .agg #[.int .i64 4, .int .i64 low, .int .i64 high, .int .i64 most]] w fun e w' => Stepped rp w ((u64Of (rdOf 0 (takeShort low high) s).1, []), (rdOf 0 (takeShort low high) s).2) e w' := by
  have hb := box_below w 4 low high most
  have hx := int_any rp low high s _ (hs.below hb) hl1 hl2 hh1 hh2
  generalize rdOf 0 (takeShort low high) s = x at *
  obtain ⟨n, st⟩ := x
  have hw := u64_wrap n
  clear hs
  go_enter Try.func29, Try.ntmps29
  go_wp2_with fail
  refine hx.mono ?_
  rintro e w1 ⟨rfl, hs1, hg1⟩
  have HS := hide_it hs1
  have HG := hide_it (grown_pre hb hg1)
  clear hs1 hg1 hx hb
  go_wp2_with fail
  go_ret2
  exact ⟨⟨none, 0, rfl, .inl rfl, fun _ => ⟨rfl, rfl⟩⟩, HS.out, HG.out⟩
set_option maxRecDepth 100000 in
set_option maxHeartbeats 400000 in
theorem step5 (rp : Option Addr) (low high most : Int) (s : List Nat × Nat) (w : World) (hs : Rst w rp s) (hl1 : -9223372036854775808 ≤ most) (hl2 : most ≤ 9223372036854775807) :
    Calls Try.prog 29 #[.pointer rp, .agg #[.int .i64 5, .int .i64 low, .int .i64 high, .int .i64 most]] w fun e w' => Stepped rp w ((0, (rdOf [] (takeCounted most) s).1), (rdOf [] (takeCounted most) s).2) e w' := by
  have hb := box_below w 5 low high most
  have hx := text_any rp most s _ (hs.below hb) hl1 hl2
  have ha := rdCounted_all (most := most) hs.all
  generalize rdOf [] (takeCounted most) s = x at *
  obtain ⟨p, st⟩ := x
  have hconv := fun u : World => Lib.run_convert_string_bytes (P := Try.prog) u 9 23 5 (strOf p) Try.underlying9 Try.underlying23 Try.underlying5
  clear hs
  go_enter Try.func29, Try.ntmps29
  go_wp2_with fail
  refine hx.mono ?_
  rintro e w1 ⟨rfl, hs1, hg1⟩
  have hbx := bytes_below w1 (strOf p)
  have hrow := bytes_row w1 (strOf p)
  rw [strNat_strOf ha] at hrow
  have HS := hide_it (hs1.below hbx)
  have HG := hide_it (grown_post (grown_pre hb hg1) hbx)
  have HR := hide_it hrow
  have HL := hide_it (strOf_size p)
  clear hs1 hg1 hx hb hbx hrow ha
  go_wp2_with fail
  go_ret2
  refine ⟨⟨some ⟨w1.heap.size, 0, none⟩, grownCap w1 (strOf p).size 0 5, ?_, HR.out, fun e => by cases e⟩, HS.out, HG.out⟩
  rw [← HL.out]
  rfl
set_option maxRecDepth 100000 in
set_option maxHeartbeats 400000 in
theorem step6 (rp : Option Addr) (low high most : Int) (s : List Nat × Nat) (w : World) (hs : Rst w rp s) (hbs : s.1.length ≤ 140737488355328) (hl1 : -9223372036854775808 ≤ most) (hl2 : most ≤ 9223372036854775807) :
    Calls Try.prog 29 #[.pointer rp, .agg #[.int .i64 6, .int .i64 low, .int .i64 high, .int .i64 most]] w fun e w' => Stepped rp w ((0, (rdOf [] (takeCounted most) s).1), (rdOf [] (takeCounted most) s).2) e w' := by
  have hb := box_below w 6 low high most
  have hx := bytes_any rp most s _ (hs.below hb) hbs hl1 hl2
  generalize rdOf [] (takeCounted most) s = x at *
  obtain ⟨p, st⟩ := x
  clear hs hbs
  go_enter Try.func29, Try.ntmps29
  go_wp2_with fail
  refine hx.mono ?_
  rintro e w1 ⟨⟨v, rfl, hown⟩, hs1, hg1⟩
  obtain ⟨a, cap, rfl, hr, _, _, hn⟩ := hown.row
  have HS := hide_it hs1
  have HG := hide_it (grown_pre hb hg1)
  have HR := hide_it hr
  have HN := hide_it hn
  clear hs1 hg1 hx hb hr hown hn
  go_wp2_with fail
  go_ret2
  exact ⟨⟨a, cap, rfl, HR.out, HN.out⟩, HS.out, HG.out⟩

set_option maxRecDepth 100000 in
set_option maxHeartbeats 400000 in
theorem step7 (rp : Option Addr) (low high most : Int) (s : List Nat × Nat) (w : World) (hs : Rst w rp s) :
    Calls Try.prog 29 #[.pointer rp, .agg #[.int .i64 7, .int .i64 low, .int .i64 high, .int .i64 most]] w fun e w' => Stepped rp w ((u64Of (s.1.length : Int), []), s) e w' := by
  have hb := box_below w 7 low high most
  have hx := left_st rp s _ (hs.below hb)
  have HS := hide_it (hs.below hb)
  have HG := hide_it (grown_post (World.grownBy.refl w (rp.map (·.block))) hb)
  generalize (s.1.length : Int) = n at *
  have hw := u64_wrap n
  clear hs hb
  go_enter Try.func29, Try.ntmps29
  go_wp2_with fail
  refine hx.mono ?_
  rintro e w1 ⟨rfl, hq⟩
  have hq2 := hq.symm
  subst hq2
  clear hx hq
  go_wp2_with fail
  go_ret2
  exact ⟨⟨none, 0, rfl, .inl rfl, fun _ => ⟨rfl, rfl⟩⟩, HS.out, HG.out⟩

set_option maxRecDepth 100000 in
set_option maxHeartbeats 400000 in
theorem step8 (rp : Option Addr) (low high most : Int) (s : List Nat × Nat) (w : World) (hs : Rst w rp s) :
    Calls Try.prog 29 #[.pointer rp, .agg #[.int .i64 8, .int .i64 low, .int .i64 high, .int .i64 most]] w fun e w' => Stepped rp w ((u64Of (s.2 : Int), []), s) e w' := by
  have hb := box_below w 8 low high most
  have hx := fault_st rp s _ (hs.below hb)
  have HS := hide_it (hs.below hb)
  have HG := hide_it (grown_post (World.grownBy.refl w (rp.map (·.block))) hb)
  generalize (s.2 : Int) = n at *
  have hw := u64_wrap n
  clear hs hb
  go_enter Try.func29, Try.ntmps29
  go_wp2_with fail
  refine hx.mono ?_
  rintro e w1 ⟨rfl, hq⟩
  have hq2 := hq.symm
  subst hq2
  clear hx hq
  go_wp2_with fail
  go_ret2
  exact ⟨⟨none, 0, rfl, .inl rfl, fun _ => ⟨rfl, rfl⟩⟩, HS.out, HG.out⟩

set_option maxRecDepth 100000 in
set_option maxHeartbeats 400000 in
theorem step9 (rp : Option Addr) (low high most : Int) (s : List Nat × Nat) (w : World) (hs : Rst w rp s) :
    Calls Try.prog 29 #[.pointer rp, .agg #[.int .i64 9, .int .i64 low, .int .i64 high, .int .i64 most]] w fun e w' => Stepped rp w ((u64Of ((endOf s.1 s.2 : Nat) : Int), []), s) e w' := by
  have hb := box_below w 9 low high most
  have hx := end_st rp s _ (hs.below hb)
  have HS := hide_it (hs.below hb)
  have HG := hide_it (grown_post (World.grownBy.refl w (rp.map (·.block))) hb)
  generalize ((endOf s.1 s.2 : Nat) : Int) = n at *
  have hw := u64_wrap n
  clear hs hb
  go_enter Try.func29, Try.ntmps29
  go_wp2_with fail
  refine hx.mono ?_
  rintro e w1 ⟨rfl, hq⟩
  have hq2 := hq.symm
  subst hq2
  clear hx hq
  go_wp2_with fail
  go_ret2
  exact ⟨⟨none, 0, rfl, .inl rfl, fun _ => ⟨rfl, rfl⟩⟩, HS.out, HG.out⟩

set_option maxRecDepth 100000 in
set_option maxHeartbeats 400000 in
theorem stepX (rp : Option Addr) (k low high most : Int) (s : List Nat × Nat) (w : World) (hs : Rst w rp s) (h0 : k ≠ 0) (h1 : k ≠ 1) (h2 : k ≠ 2) (h3 : k ≠ 3) (h4 : k ≠ 4) (h5 : k ≠ 5) (h6 : k ≠ 6) (h7 : k ≠ 7) (h8 : k ≠ 8) (h9 : k ≠ 9) :
    Calls Try.prog 29 #[.pointer rp, .agg #[.int .i64 k, .int .i64 low, .int .i64 high, .int .i64 most]] w fun e w' => Stepped rp w ((0, []), s) e w' := by
  have hb := box_below w k low high most
  have HS := hide_it (hs.below hb)
  have HG := hide_it (grown_post (World.grownBy.refl w (rp.map (·.block))) hb)
  have d0 : (k == 0) = false := by simpa using h0
  have d1 : (k == 1) = false := by simpa using h1
  have d2 : (k == 2) = false := by simpa using h2
  have d3 : (k == 3) = false := by simpa using h3
  have d4 : (k == 4) = false := by simpa using h4
  have d5 : (k == 5) = false := by simpa using h5
  have d6 : (k == 6) = false := by simpa using h6
  have d7 : (k == 7) = false := by simpa using h7
  have d8 : (k == 8) = false := by simpa using h8
  have d9 : (k == 9) = false := by simpa using h9
  clear hs hb h0 h1 h2 h3 h4 h5 h6 h7 h8 h9
  go_enter Try.func29, Try.ntmps29
  go_wp2_with fail
  go_ret2
  exact ⟨⟨none, 0, rfl, .inl rfl, fun _ => ⟨rfl, rfl⟩⟩, HS.out, HG.out⟩
theorem step_any (rp : Option Addr) (k low high most : Int) (s : List Nat × Nat) (w : World) (hs : Rst w rp s) (hbs : s.1.length ≤ 140737488355328) (hl1 : -9223372036854775808 ≤ low) (hl2 : low ≤ 9223372036854775807) (hh1 : -9223372036854775808 ≤ high) (hh2 : high ≤ 9223372036854775807) (hm1 : -9223372036854775808 ≤ most) (hm2 : most ≤ 9223372036854775807) :
    Calls Try.prog 29 #[.pointer rp, .agg #[.int .i64 k, .int .i64 low, .int .i64 high, .int .i64 most]] w fun e w' => Stepped rp w (stepOf k low high most s) e w' := by
  by_cases k0 : k = 0
  · subst k0; exact step0 rp low high most s w hs
  by_cases k1 : k = 1
  · subst k1
    by_cases hlow : 0 < low
    · exact step1w rp low high most s w hs hlow
    · exact step1 rp low high most s w hs (by omega)
  by_cases k2 : k = 2
  · subst k2; exact step2 rp low high most s w hs
  by_cases k3 : k = 3
  · subst k3; exact step3 rp low high most s w hs
  by_cases k4 : k = 4
  · subst k4; exact step4 rp low high most s w hs hl1 hl2 hh1 hh2
  by_cases k5 : k = 5
  · subst k5; exact step5 rp low high most s w hs hm1 hm2
  by_cases k6 : k = 6
  · subst k6; exact step6 rp low high most s w hs hbs hm1 hm2
  by_cases k7 : k = 7
  · subst k7; exact step7 rp low high most s w hs
  by_cases k8 : k = 8
  · subst k8; exact step8 rp low high most s w hs
  by_cases k9 : k = 9
  · subst k9; exact step9 rp low high most s w hs
  have e : stepOf k low high most s = ((0, []), s) := by unfold stepOf; simp [k0, k1, k2, k3, k4, k5, k6, k7, k8, k9]
  rw [e]
  exact stepX rp k low high most s w hs k0 k1 k2 k3 k4 k5 k6 k7 k8 k9

end Go.Proofs.Ytfhinodieghklab
