/- The law on what every row of calls answers of a disk that is made of spans, walked. -/
import Derived.Test.YtdodnegdpdhbiaaDr23
import Derived.Test.YtdodnegdpdhbiaaDr24
import Derived.Test.YtdodnegdpdhbiaaOpenSpo
import Derived.Test.YtdodnegdpdhbiaaFx8
namespace Go.Proofs.Ytdodnegdpdhbiaa.diskLoads
open Go.RowKit

/-- A span that came in, as Load's walk has it. -/
def spn (A : Nat → Spo) (i : Nat) : Spn := ⟨(A i).b, (A i).s.a, (A i).s.c, (A i).s.p⟩
theorem bnd_spn {w : World} {a : Option Addr} {n : Nat} {A : Nat → Spo} (h : CameSpo w a n A) (hb : ∀ i, i < n → okB (spn A i) = true) : Bnd 0 n (fun i => ofS (spn A i)) :=
  ⟨fun i hi => by have := (h.each i hi).s.size; unfold ofS spn; simp only; omega, fun i hi => by have := (h.each i hi).s.size; have := of_decide_eq_true (hb i hi); unfold ofS; unfold spn at this ⊢; simp only at this ⊢; omega, fun i hi => by unfold ofS; simp⟩
theorem fts_spn (n : Nat) (A : Nat → Spo) : Fts false n (fun i => ofS (spn A i)) := ⟨fun i _ => by unfold ofS; simp, fun _ i _ => ⟨rfl, rfl⟩⟩

set_option maxRecDepth 100000 in
set_option maxHeartbeats 3200000 in
theorem walk (sa : Option Addr) (sn sc : Nat) (SA : Nat → Spo) (a : Option Addr) (n c : Nat) (A : Nat → Cal) (w : World) (hsp : CameSpo w sa sn SA) (hs : CameCal w a n A) :
    Calls Try.prog 5 #[.slice sa sn sc, .slice a n c] w fun e w' => e = .returned (.bool true) ∧ Below w.heap.size w w' := by
  have hrs : ∀ W, Below w.heap.size w W → RowS W sa sn (spn SA) := fun W h => (hsp.row.below h)
  have hos : ∀ W, Below w.heap.size w W → ∀ i, i < sn → SpnOk W (spn SA i) := fun W h i hi => by
    have := (hsp.each i hi).s.below h
    exact ⟨this.row, this.all, this.none, by have := this.size; unfold spn; simp only; omega⟩
  obtain ⟨W0, hW0⟩ : ∃ W0, W0 = w.alloc (.cells #[.slice a n c] 41) := ⟨_, rfl⟩
  have hb0 : Below w.heap.size w W0 := by rw [hW0]; exact (Below.refl _ _).alloc (Nat.le_refl _) _
  have hq0 : W0.heap[w.heap.size]? = some (.cells #[.slice a n c] 41 (0, 0)) := by rw [hW0]; exact heap_alloc_new w _
  have hva := vast_any w.heap.size 1 1 (fun _ => ⟨a, n, c, A⟩) W0 (by omega) (Array.getElem?_eq_some_iff.1 hq0).1 (fun i hi => by
    obtain rfl : i = 0 := by omega
    exact cell_of_row _ _ _ _ _ _ hq0) (fun i hi => hs.below hb0)
  have httl : ttl (fun _ => (⟨a, n, c, A⟩ : Scr)) 1 = tot A n := by simp [ttl]
  rw [httl] at hva
  go_enter Try.func5, Try.ntmps5
  go_wp2_with fail
  rw [← hW0]
  clear hW0 hq0 httl
  refine hva.mono ?_
  rintro e w2 ⟨⟨b, rfl, hT⟩, hb2⟩
  have hbw2 := hb0.trans (hb2.mono hb0.size)
  clear hva hb0 hb2
  cases b with
  | true =>
    clear hT hs
    go_wp2_with fail
    go_ret
    exact ⟨rfl, hbw2⟩
  | false =>
    replace hT := hide_it (hT rfl)
    have hnr := loadR sa sn sc (spn SA) w2 (fun _ => False) (hrs w2 hbw2) (hos w2 hbw2) (fun b hb => hb.elim)
    go_wp2_with fail
    refine hnr.mono ?_
    rintro e w3 hq
    rcases hq with ⟨hm, hokb, v, rfl, ⟨da, dc, rfl, hD3⟩, hb3⟩ | ⟨hno, rfl, hb3⟩
    · have hbw3 := hbw2.trans (hb3.mono hbw2.size)
      clear hnr hb3 hbw2
      obtain ⟨W4, hW4⟩ : ∃ W, W = w3.alloc (.cells #[.slice da sn dc, .bool false] 45) := ⟨_, rfl⟩
      have hb4 : Below w3.heap.size w3 W4 := by rw [hW4]; exact (Below.refl _ _).alloc (Nat.le_refl _) _
      have hbx4 : BxD W4 w3.heap.size da sn dc false := by rw [hW4]; exact heap_alloc_new w3 _
      have hbw4 := hbw3.trans (hb4.mono hbw3.size)
      have hD4 := hide_it (hD3.below hb4)
      have hnew := loadD_any sa sn sc (spn SA) W4 (hrs W4 hbw4) (hos W4 hbw4)
      have HBS := hide_it (bnd_spn hsp hokb)
      clear hD3 hb4 hbw3 hrs hos
      go_wp2_with fail
      rw [← hW4]
      clear hW4
      refine hnew.mono ?_
      intro e w5 hN5
      cases hN5 with
      | no h1 _ _ => exact absurd ⟨hm, hokb⟩ h1
      | ok _ _ hM =>
        obtain ⟨⟨p, rfl, hK5⟩, hb5⟩ := hM
        have hbw5 := hbw4.trans (hb5.mono hbw4.size)
        have hbx5 : BxD w5 w3.heap.size da sn dc false := (hb5.block _ hbx4.lt).trans hbx4
        have hD5 : Dd w5 (fun b => W4.heap.size ≤ b ∧ b < w5.heap.size) da sn (fun i => ofS (spn SA i)) := (hD4.out.grow.chg (Chg.new hb5)).anti fun b hb => .inr hb.1
        have hlo : ∀ b, (W4.heap.size ≤ b ∧ b < w5.heap.size) → w.heap.size ≤ b := fun b hb => by have := hbw4.size; omega
        have hfx := fixed_any w5
        replace hK5 := hide_it hK5
        replace hD5 := hide_it hD5
        replace hokb := hide_it hokb
        clear hnew hb5 hD4 hbw4 hbx4
        go_wp2_with fail
        refine hfx.mono ?_
        rintro e w6 ⟨rfl, hb6⟩
        have hbw6 := hbw5.trans (hb6.mono hbw5.size)
        have hbx6 : BxD w6 w3.heap.size da sn dc false := (hb6.block _ hbx5.lt).trans hbx5
        have hdo := does_any (c := dc) (hK5.out.below hb6) hlo (hD5.out.below hb6) hbw6 (fts_spn sn SA) a n c A hs 0 HBS.out (by have := hT.out; omega)
        obtain ⟨d0, d1, _⟩ := hbx6.cells
        clear hfx hb6 hK5 hD5 hlo hbw5 hbx5 hbw6 hbx6 HBS
        go_wp2_with fail
        refine hdo.mono ?_
        rintro e w7 ⟨rfl, hb7⟩
        clear hdo d0 d1
        go_wp2_with fail
        go_ret
        exact ⟨rfl, hb7⟩
    · have hbw3 := hbw2.trans (hb3.mono hbw2.size)
      clear hnr hb3 hbw2
      obtain ⟨W4, hW4⟩ : ∃ W, W = w3.alloc (.cells #[.slice none 0 0, .bool false] 45) := ⟨_, rfl⟩
      have hb4 : Below w3.heap.size w3 W4 := by rw [hW4]; exact (Below.refl _ _).alloc (Nat.le_refl _) _
      have hbw4 := hbw3.trans (hb4.mono hbw3.size)
      have hnew := loadD_any sa sn sc (spn SA) W4 (hrs W4 hbw4) (hos W4 hbw4)
      clear hb4 hbw3 hrs hos
      replace hno := hide_it hno
      go_wp2_with fail
      rw [← hW4]
      clear hW4
      refine hnew.mono ?_
      intro e w5 hN5
      cases hN5 with
      | ok h1 h2 _ => exact absurd ⟨h2, h1⟩ hno.out
      | no _ h1 hb5 =>
        subst h1
        have hbw5 := hbw4.trans (hb5.mono hbw4.size)
        have hfx := fixed_any w5
        clear hnew hb5 hbw4 hno
        go_wp2_with fail
        refine hfx.mono ?_
        rintro e w6 ⟨rfl, hb6⟩
        have hbw6 := hbw5.trans (hb6.mono hbw5.size)
        clear hfx hb6 hbw5
        go_wp2_with fail
        go_ret
        exact ⟨by simp, hbw6⟩
end Go.Proofs.Ytdodnegdpdhbiaa.diskLoads
