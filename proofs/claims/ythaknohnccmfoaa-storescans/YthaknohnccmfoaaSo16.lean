/- Versions of a store; New; the row of calls that the document fixes. -/
import Derived.Test.YthaknohnccmfoaaSo15
namespace Go.Proofs.Ythaknohnccmfoaa
open Go.RowKit Go.Maps

/-- A list of versions that is told. -/
def GotV (B : Nat) (w' : World) (A : Cont) (e : Ending) : Prop := ∃ v ys, e = .returned v ∧ OwV w' B v ys ∧ ValV w' B ys ∧ saysV ys = versA A
section
variable {w w' : World} {F : Nat → Prop} {s : Nat} {mb : Option Nat} {M : List Ky}
theorem versions_any (h : Sto w F s mb M) (hf : Fine (abs M)) : Calls Try.prog 15 #[.pointer (some ⟨s, 0, none⟩)] w fun e w' => GotV w.heap.size w' (abs M) e ∧ Below w.heap.size w w' := by
  refine versions_of (F := F) (mb := mb) ⟨fun z hz => all_any (h.below hz), fun z hz => ⟨h.nomap, fun b e => ((h.below hz).map b e).1⟩, h.rise, fun e he z hz => ?_, fun e he z hz => (h.below hz).each e he, fun e he j hj => h.lt j ((h.each e he).fc j hj), hf⟩
  have hkl := hf.kl (e.k, e.ls) (List.mem_map.2 ⟨e, he, rfl⟩)
  have hk : (⟨e.k.toArray⟩ : ByteArray).size ≤ maxLen := by
    have : (⟨e.k.toArray⟩ : ByteArray).size = e.k.length := by simp [ByteArray.size]
    rw [this]; unfold maxLen; have hkl : e.k.length ≤ 255 := hkl; omega
  refine (of_any (h.below hz) ⟨e.k.toArray⟩ hk).mono ?_
  rintro e' w' ⟨⟨q, rfl, hq⟩, hw⟩
  refine ⟨?_, hw⟩
  have hky := kyOf_mem h.rise he
  rcases hq with ⟨h1, _⟩ | ⟨f, h1, rfl⟩
  · rw [show (⟨e.k.toArray⟩ : ByteArray).data.toList = e.k by simp, hky] at h1; cases h1
  · rw [show (⟨e.k.toArray⟩ : ByteArray).data.toList = e.k by simp, hky] at h1; cases h1; rfl
theorem versions_none (w : World) : Calls Try.prog 15 #[.pointer none] w fun e w' => GotV w.heap.size w' [] e ∧ Below w.heap.size w w' :=
  versions_of (M := []) (F := fun _ => False) (mb := none) ⟨fun z _ => all_none z, fun z _ => ⟨fun _ => rfl, fun b e => by cases e⟩, List.Pairwise.nil, (fun e he => by cases he), (fun e he => by cases he), (fun e he => by cases he), ⟨by simp [tot, abs], by simp [abs], (fun e he => by cases he), (fun e he => by cases he)⟩⟩
end

set_option maxRecDepth 100000 in
theorem new_any (w : World) : Calls Try.prog 9 #[] w fun e w' => e = .returned (.pointer (some ⟨w.heap.size, 0, none⟩)) ∧ w' = w.alloc (.cells #[.map none] 75) := by
  go_enter Try.func9, Try.ntmps9
  go_wp2
  go_ret
  exact ⟨rfl, rfl⟩
theorem sto_new (w : World) : Sto (w.alloc (.cells #[.map none] 75)) (fun j => j = w.heap.size) w.heap.size none [] :=
  ⟨heap_alloc_new w _, fun _ => rfl, (fun b e => by cases e), (fun e he => by cases he), List.Pairwise.nil, List.Pairwise.nil, rfl, fun j hj => by rw [hj]; simp⟩

/-- The content behind the fixed calls. -/
def fixA : Cont := [([97], [⟨3, [], false⟩]), ([98], [⟨2, [20], false⟩, ⟨5, [], true⟩])]
def fixX (g : Nat) : Vn := ⟨⟨#[98]⟩, 2, some ⟨g, 0, none⟩, [20], 1, false⟩
def fixY : Vn := ⟨⟨#[98]⟩, 5, none, [], 0, true⟩
def fixZ : Vn := ⟨⟨#[97]⟩, 3, none, [], 0, false⟩
def fixB : Cont := [([98], [⟨2, [20], false⟩])]
def fixC : Cont := [([98], [⟨2, [20], false⟩, ⟨5, [], true⟩])]
theorem fix1 (g : Nat) : applyE [] (fixX g) = 0 ∧ applyA [] (fixX g) = fixB := ⟨by kernel_rfl, by kernel_rfl⟩
theorem fix2 : applyE fixB fixY = 0 ∧ applyA fixB fixY = fixC := ⟨by kernel_rfl, by kernel_rfl⟩
theorem fix3 : applyE fixC fixZ = 0 ∧ applyA fixC fixZ = fixA := ⟨by kernel_rfl, by kernel_rfl⟩
theorem fixFine : Fine fixA := ⟨by decide, by decide, by decide, by decide⟩
theorem fixGet : getA fixA [98] 4 = some [20] ∧ getA fixA [98] 5 = none := ⟨by kernel_rfl, by kernel_rfl⟩
theorem fixRest : liveA fixA = 1 ∧ fixA.length = 2 ∧ tot fixA = 3 ∧ goneA fixA 5 = 1 ∧ (versA (vacA fixA 5)).length = 2 := ⟨by kernel_rfl, by kernel_rfl, by kernel_rfl, by kernel_rfl, by kernel_rfl⟩
theorem fixFine2 : Fine (vacA fixA 5) := by
  have e : vacA fixA 5 = [([97], [⟨3, [], false⟩]), ([98], [⟨5, [], true⟩])] := by kernel_rfl
  rw [e]
  exact ⟨by decide, by decide, by decide, by decide⟩
theorem okX (w : World) (g : Nat) (h : RowB w (some ⟨g, 0, none⟩) [20]) : VnOk w (fixX g) :=
  ⟨(by decide : (⟨#[98]⟩ : ByteArray).size ≤ maxLen), ⟨(by decide : (-9223372036854775808 : Int) ≤ 2), (by decide : (2 : Int) ≤ 9223372036854775807)⟩, h, (fun e => by cases e), (by decide : [20].length ≤ 140737488355328)⟩
theorem okY (w : World) : VnOk w fixY := ⟨by decide, ⟨by decide, by decide⟩, .inl rfl, fun _ => ⟨rfl, rfl⟩, by decide⟩
theorem okZ (w : World) : VnOk w fixZ := ⟨by decide, ⟨by decide, by decide⟩, .inl rfl, fun _ => ⟨rfl, rfl⟩, by decide⟩

set_option maxRecDepth 100000 in
set_option maxHeartbeats 4000000 in
theorem fixed_any (w : World) : Calls Try.prog 10 #[] w fun e w' => e = .returned (.bool true) ∧ Below w.heap.size w w' := by
  have hnew := new_any w
  obtain ⟨W, hW⟩ : ∃ W, W = w.alloc (.cells #[.map none] 75) := ⟨_, rfl⟩
  have hs0 : Sto W (fun j => j = w.heap.size) w.heap.size none [] := by rw [hW]; exact sto_new w
  have hb0 : Below w.heap.size w W := by rw [hW]; exact (Below.refl _ _).alloc (Nat.le_refl _) _
  rw [← hW] at hnew
  clear hW
  obtain ⟨W1, hW1⟩ : ∃ W1, W1 = W.alloc (.cells #[.int .u8 20] 5) := ⟨_, rfl⟩
  have hb1 : Below W.heap.size W W1 := by rw [hW1]; exact (Below.refl _ _).alloc (Nat.le_refl _) _
  have hz1 : W1.heap.size = W.heap.size + 1 := by rw [hW1]; simp
  have hslt := hs0.slt
  have hs1 := hs0.below hb1
  have hrow : RowB W1 (some ⟨W.heap.size, 0, none⟩) [20] := .inr ⟨_, 0, rfl, by omega, fun i hi => by
    have hi0 : i = 0 := by simpa using hi
    subst hi0
    rw [hW1, cell_of_row _ _ _ _ _ _ (heap_alloc_new W _)]; rfl⟩
  have hap1 := apply_any hs1 (fixX W.heap.size) (okX _ _ hrow) (fun b o _ e e2 => by cases e; omega) (by decide) (by decide)
  unfold fixX verV at hap1
  have HB1 := hide_it (hb0.trans (hb1.mono hb0.size))
  clear hb1 hs0 hs1 hrow
  go_enter Try.func10, Try.ntmps10
  go_wp2_with fail
  refine hnew.mono ?_
  rintro e w1 ⟨rfl, hw1⟩
  obtain rfl := hw1.symm
  clear hnew hw1
  go_wp2_with fail
  rw [← hW1]
  clear hW1
  refine hap1.mono ?_
  rintro e w2 ⟨rfl, ⟨mb2, M2, hs2, ha2⟩, hc2⟩
  rw [show applyE (abs []) ⟨⟨#[98]⟩, 2, some ⟨W.heap.size, 0, none⟩, [20], 1, false⟩ = 0 from (fix1 W.heap.size).1]
  replace ha2 : abs M2 = fixB := ha2.trans (fix1 W.heap.size).2
  have hb2 : Below w.heap.size w w2 := HB1.out.trans (hc2.below (fun j e => by have e : j = w.heap.size := e; omega) HB1.out.size)
  have hap2 := apply_any hs2 fixY (okY _) (fun b o _ e => by cases e) (by rw [ha2]; decide) (by have := congrArg List.length ha2; simp [abs, fixB] at this; omega)
  rw [ha2, fix2.1] at hap2
  unfold fixY verV at hap2
  have HB2 := hide_it hb2
  have HF2 : Hid (∀ j, kY.upto (fun j => j = w.heap.size) W1 w2 j → w.heap.size ≤ j) := hide_it fun j hj => by rcases hj with hj | hj <;> omega
  clear hap1 hs2 hc2 hb2 ha2
  go_wp2_with fail
  refine hap2.mono ?_
  rintro e w3 ⟨rfl, ⟨mb3, M3, hs3, ha3⟩, hc3⟩
  replace ha3 : abs M3 = fixC := ha3.trans fix2.2
  have hb3 : Below w.heap.size w w3 := HB2.out.trans (hc3.below HF2.out HB2.out.size)
  have hap3 := apply_any hs3 fixZ (okZ _) (fun b o _ e => by cases e) (by rw [ha3]; decide) (by have := congrArg List.length ha3; simp [abs, fixC] at this; omega)
  rw [ha3, fix3.1] at hap3
  unfold fixZ verV at hap3
  have HB3 := hide_it hb3
  obtain ⟨F3, hF3⟩ : ∃ F3, F3 = kY.upto (kY.upto (fun j => j = w.heap.size) W1 w2) w2 w3 := ⟨_, rfl⟩
  have HF3 : Hid (∀ j, F3 j → w.heap.size ≤ j) := by rw [hF3]; exact hide_it fun j hj => by rcases hj with hj | hj; exact HF2.out j hj; have := HB2.out.size; omega
  rw [← hF3] at hap3
  clear hap2 hs3 hc3 hb3 ha3 hF3
  go_wp2_with fail
  refine hap3.mono ?_
  rintro e w4 ⟨rfl, ⟨mb4, M4, hs4, ha4⟩, hc4⟩
  replace ha4 : abs M4 = fixA := ha4.trans fix3.2
  have hb4 : Below w.heap.size w w4 := HB3.out.trans (hc4.below HF3.out HB3.out.size)
  have hlow4 : ∀ j, kY.upto F3 w3 w4 j → w.heap.size ≤ j := fun j hj => by rcases hj with hj | hj; exact HF3.out j hj; have := HB3.out.size; omega
  generalize kY.upto F3 w3 w4 = F4 at hs4 hlow4
  have hfin : Fine (abs M4) := by rw [ha4]; exact fixFine
  have hS4 := hs4
  have hg1 := get_any hs4 hfin ⟨#[98]⟩ (by decide) 4
  rw [ha4, show getA fixA (⟨#[98]⟩ : ByteArray).data.toList 4 = some [20] from fixGet.1] at hg1
  have HB4 := hide_it hb4
  have HS4 := hide_it hs4
  have HA4 := hide_it ha4
  have HF4 := hide_it hfin
  have HL4 := hide_it hlow4
  clear hap3 hs4 hS4 hc4 hb4 ha4 hfin hlow4
  go_wp2_with fail
  refine hg1.mono ?_
  rintro e w5 ⟨⟨v5, rfl, hv5⟩, hb5⟩
  have hg2 := get_any (HS4.out.below hb5) HF4.out ⟨#[98]⟩ (by decide) 5
  rw [HA4.out, show getA fixA (⟨#[98]⟩ : ByteArray).data.toList 5 = none from fixGet.2] at hg2
  have HV5 := hide_it hv5
  have HB5 := hide_it hb5
  obtain ⟨a5, c5, ev5, _⟩ := hv5.row
  subst ev5
  clear hg1 hv5 hb5
  go_wp2_with fail
  refine hg2.mono ?_
  rintro e w6 ⟨⟨v6, rfl, _⟩, hb6⟩
  have hb46 := HB5.out.trans (hb6.mono HB5.out.size)
  have hs6 := HS4.out.below hb46
  have hln := len_any hs6 HF4.out
  rw [HA4.out, fixRest.2.1, fixRest.2.2.1] at hln
  have HV6 := hide_it (HV5.out.below hb6)
  have HB6 := hide_it hb46
  clear hg2 hb6 hb46 hs6 HV5
  go_wp2_with fail
  refine hln.mono ?_
  rintro e w7 ⟨rfl, hb7⟩
  have hb47 := HB6.out.trans (hb7.mono HB6.out.size)
  have hs7 := HS4.out.below hb47
  have hlv := live_any hs7 HF4.out
  rw [HA4.out, fixRest.1] at hlv
  have hv7 := HV6.out.below hb7
  obtain ⟨g, cur, rfl, _, _, hg7, hcur⟩ := OwnB.at hv7 (by simp)
  have d7 : w7.cell? ⟨g, 0, none⟩ = some (.int .u8 20) := (cell_of_row _ _ _ _ _ _ hg7).trans (hcur 0 (by simp))
  have HB7 := hide_it hb47
  clear hln hb7 hb47 hs7 hv7 hg7 hcur HV6
  go_wp2_with fail
  refine hlv.mono ?_
  rintro e w8 ⟨rfl, hb8⟩
  have hb48 := HB7.out.trans (hb8.mono HB7.out.size)
  have hs8 := HS4.out.below hb48
  have hvc := vacuum_any hs8 (by rw [HA4.out]; decide) 5
  rw [HA4.out, fixRest.2.2.2.1] at hvc
  have HB8 := hide_it hb48
  clear hlv hb8 hb48 hs8 d7
  go_wp2_with fail
  refine hvc.mono ?_
  rintro e w9 ⟨rfl, ⟨M9, hs9, ha9⟩, hc9⟩
  have hvs := versions_any hs9 (by rw [ha9]; exact fixFine2)
  rw [ha9] at hvs
  have hb9 : Below w.heap.size w w9 := (HB4.out.trans (HB8.out.mono HB4.out.size)).trans (hc9.below HL4.out (Nat.le_trans HB4.out.size HB8.out.size))
  have HB9 := hide_it hb9
  clear hvc hs9 ha9 hc9 hb9
  go_wp2_with fail
  refine hvs.mono ?_
  rintro e w10 ⟨⟨v10, ys, rfl, ho, _, hy⟩, hb10⟩
  have hyl : ys.length = 2 := by
    have h1 := congrArg List.length hy
    unfold saysV at h1
    rw [List.length_map, fixRest.2.2.2.2] at h1
    exact h1
  obtain ⟨a10, c10, ev10, _⟩ := OwnS.open ho
  subst ev10
  rw [hyl]
  have HBF := hide_it (HB9.out.trans (hb10.mono HB9.out.size))
  clear hvs ho hy hyl hb10
  go_wp2
  go_ret
  exact ⟨rfl, HBF.out⟩

end Go.Proofs.Ythaknohnccmfoaa
