/- Arm and Strike, whole. -/
import Derived.Test.YtdodnegdpdhbiaaDk9
namespace Go.Proofs.Ytdodnegdpdhbiaa
open Go.RowKit

/-- How many loose bytes of an area are kept. -/
def kpt (x : Pt) : Nat := min x.fk.toNat (x.bs.length - x.k)
/-- An area behind a loss of power. -/
def strX (x : Pt) : Pt := { x with bs := crashB x.bs x.k (kpt x) x.ft, k := x.k + kpt x }
def strTo (s : Nat → Pt) (j i : Nat) : Pt := if i < j then strX (s i) else s i
theorem strTo_zero (s : Nat → Pt) : strTo s 0 = s := by funext i; unfold strTo; rw [if_neg (by omega)]
theorem strTo_at (s : Nat → Pt) (j : Nat) : strTo s j j = s j := if_neg (by omega)
theorem strTo_succ (s : Nat → Pt) (j : Nat) : upd (strTo s j) j (strX (s j)) = strTo s (j + 1) := by
  funext i
  unfold upd strTo
  by_cases h : i = j
  · subst h; rw [if_pos rfl, if_pos (by omega)]
  · rw [if_neg h]
    by_cases h2 : i < j
    · rw [if_pos h2, if_pos (by omega)]
    · rw [if_neg h2, if_neg (by omega)]
/-- All areas of a disk behind a Strike. -/
def strS (s : Nat → Pt) (n : Nat) : Nat → Pt := armTo (strTo s n) 0 (fun _ => ⟨0, 0, 0⟩) n

set_option maxRecDepth 100000 in
set_option maxHeartbeats 400000 in
theorem arm_nil (fa : Option Addr) (m cap : Nat) (w : World) : Calls Try.prog 31 #[.pointer none, .slice fa m cap] w fun e w' => e = .returned (.tuple #[]) ∧ w' = w := by
  go_enter Try.func31, Try.ntmps31
  go_wp2_with fail
  exact bodyPost_ret (v := .tuple #[]) (by simp [results, Try.results31, go_sem]) rfl ⟨rfl, rfl⟩
set_option maxRecDepth 100000 in
set_option maxHeartbeats 400000 in
theorem strike_nil (w : World) : Calls Try.prog 48 #[.pointer none] w fun e w' => e = .returned (.tuple #[]) ∧ w' = w := by
  go_enter Try.func48, Try.ntmps48
  go_wp2_with fail
  exact bodyPost_ret (v := .tuple #[]) (by simp [results, Try.results48, go_sem]) rfl ⟨rfl, rfl⟩

section
variable {w : World} {F : Nat → Prop} {p : Nat} {am : Bool} {n : Nat} {s : Nat → Pt}
set_option maxRecDepth 100000 in
set_option maxHeartbeats 400000 in
theorem arm_ok (h : Dsk w F p am n s) (fa : Option Addr) (m cap : Nat) (f : Nat → Fte) (hfs : RowF w fa m f) (hfar : m = 0 ∨ farA F fa) (hft : ∀ i, i < m → (f i).t < 256) :
    Calls Try.prog 31 #[.pointer (some ⟨p, 0, none⟩), .slice fa m cap] w fun e w' => e = .returned (.tuple #[]) ∧ Went w F p true n (armTo s m f n) w' := by
  obtain ⟨g, C, q, v, h⟩ := h
  have hb := begin_any h true fa m cap f hfs hfar hft
  clear h hfs hfar hft
  go_enter Try.func31, Try.ntmps31
  go_wp2_with fail
  refine hb.mono ?_
  rintro e w1 ⟨rfl, hw⟩
  clear hb
  go_wp2_with fail
  go_end0
  exact ⟨rfl, hw⟩

set_option maxRecDepth 100000 in
set_option maxHeartbeats 1600000 in
theorem strike_ok (h : Dsk w F p am n s) :
    Calls Try.prog 48 #[.pointer (some ⟨p, 0, none⟩)] w fun e w' => e = .returned (.tuple #[]) ∧ Went w F p false n (strS s n) w' := by
  obtain ⟨g, C, q, v, h⟩ := h
  obtain ⟨d0, d1, df⟩ := h.cells
  have hn := h.few.2
  have hF0 := h.lt
  replace h := hide_it h
  go_enter Try.func48, Try.ntmps48
  go_wp2_with fail
  go_loopw [11, 3] (fun i _ wr => ∃ j : Nat, j ≤ n ∧ i = .int .i64 (j : Int) ∧ Hid ((∃ v', Dk wr (upto F w wr) p am n (strTo s j) g C q v') ∧ Chg F w wr)) (fun i _ _ => n - (intOf i).toNat)
  case atStart => exact ⟨0, by omega, rfl, ⟨v, by rw [strTo_zero]; exact h.out.mono (fun _ hb => .inl hb) (fun b hb => by
    rcases hb with hb | hb
    · exact h.out.lt b hb
    · exact hb.2)⟩, Chg.refl _ _⟩
  case round =>
    obtain ⟨j, hj, rfl, hR⟩ := hrel
    clear d0 d1 df h
    obtain ⟨⟨v', hD⟩, hc⟩ := hR.out
    clear hR
    by_cases hlt : j < n
    · obtain ⟨a0, a1, a2, a3, a4, aF⟩ := hD.at_ hlt
      rw [strTo_at] at a1 a2 a3 a4
      have hb3 : Below wr.heap.size wr (wr.alloc (.cells #[.pointer (some ⟨q j, 0, none⟩), .int .i64 (s j).fd, .int .i64 (s j).fk, .int .u8 ((s j).ft : Int), .int .i64 ((s j).c : Int)] 111)) := (Below.refl _ _).alloc (Nat.le_refl _) _
      have hD3 := hD.below hb3
      have hc3 : Chg F w _ := hc.trans (Chg.new (S := F) hb3) (fun _ _ x => x)
      have hcr := crash_any _ (hD3.ar j hlt) (hD3.le j hlt) (s j).fk (s j).ft (by have := hD3.ft j hlt; rw [strTo_at] at this; exact this) (kpt (s j)) (by rw [strTo_at]; rfl)
      rw [strTo_at] at hcr
      have hfin : ∀ w2, Moved _ (q j) 0 (v' j) (s j).B (crashB (s j).bs (s j).k (kpt (s j)) (s j).ft) ((s j).k + kpt (s j)) w2 → (∃ v', Dk w2 (upto F w w2) p am n (strTo s (j + 1)) g C q v') ∧ Chg F w w2 := fun w2 hm => by
        have hk : (s j).k + kpt (s j) ≤ (s j).bs.length := by
          have := hD3.le j hlt
          rw [strTo_at] at this
          unfold kpt; omega
        obtain ⟨⟨v2, h2⟩, hc2⟩ := hD3.moved hlt hm (by rw [crashB_len _ _ _ _ hk]; exact Nat.le_refl _)
        rw [strTo_at] at h2
        have e2 := strTo_succ s j
        unfold strX at e2
        rw [e2] at h2
        have hs3 := hc3.size
        have hs2 := hc2.size
        have hsw := hc.size
        refine ⟨⟨v2, h2.mono (fun b hb => ?_) (fun b hb => ?_)⟩, hc3.trans hc2 (fun b hb hu => ?_)⟩
        · rcases hb with (hb | hb) | hb
          · exact .inl hb
          · exact .inr (by simp at hs2; omega)
          · exact .inr (by simp at hb; omega)
        · rcases hb with hb | hb
          · have := hF0 b hb; omega
          · exact hb.2
        · rcases hu with hu | hu
          · exact hu
          · omega
      replace hfin := hide_it hfin
      clear hD hD3 hc hc3 hb3
      go_wp2_with fail
      refine hcr.mono ?_
      rintro e w2 ⟨rfl, hm⟩
      have hR := hfin.out w2 hm
      clear hcr hfin hm
      go_wp2_with fail
      go_roundw
      case rel => exact ⟨j + 1, by omega, by go_num, hR⟩
      case measure => simp [intOf]; omega
    · obtain rfl : j = n := by omega
      have hbg := begin_any hD false none 0 0 (fun _ => ⟨0, 0, 0⟩) (.inl rfl) (.inl rfl) (fun i hi => by omega)
      have hW : ∀ w2, Went wr (upto F w wr) p false j (armTo (strTo s j) 0 (fun _ => ⟨0, 0, 0⟩) j) w2 → Went w F p false j (strS s j) w2 := fun w2 hw =>
        Went.trans ⟨⟨_, _, _, _, hD⟩, hc⟩ hw
      replace hW := hide_it hW
      clear hD hc
      go_wp2_with fail
      refine hbg.mono ?_
      rintro e w2 ⟨rfl, hw⟩
      have hR := hW.out w2 hw
      clear hbg hW hw
      go_wp2_with fail
      go_end0
      exact ⟨rfl, hR⟩
end

end Go.Proofs.Ytdodnegdpdhbiaa
