/- The law on PutText and PutBytes, walked, where what comes in is not too long. -/
import Derived.Test.YtfhinodieghklaaBy5
import Derived.Test.YtfhinodieghklaaOpen8
namespace Go.Proofs.Ytfhinodieghklaa.codecTexts
open Go.RowKit

set_option maxRecDepth 100000 in
set_option maxHeartbeats 1000000 in
theorem walk (a : Option Addr) (cap : Nat) (zs : List Nat) (s : ByteArray) (w : World) (hc : Came8 w a cap zs) (hzl : zs.length ≤ 1048576) (hsl : s.size ≤ 1048576) :
    Calls Try.prog 5 #[.slice a zs.length cap, .string s] w fun e w' => e = .returned (.bool true) ∧ Below w.heap.size w w' := by
  have h10 : (shortL (2 * s.size)).length ≤ 10 := shortL_ten (by unfold W64; omega)
  obtain ⟨L, hL⟩ : ∃ L, L = zs ++ shortL (2 * s.size) ++ strNat s := ⟨_, rfl⟩
  have hmx : L.length ≤ maxLen := by rw [hL, List.length_append, List.length_append, strNat_len]; unfold maxLen; omega
  have HL := hide_it hL
  clear hL h10
  have hb0 : Below w.heap.size w (w.alloc (.cells #[] 5)) := (Below.refl _ _).alloc (Nat.le_refl _) _
  have hr0 := hc.row.below hb0
  have hnil := hc.none
  have hconv := fun u : World => Lib.run_convert_string_bytes (P := Try.prog) u 9 22 5 s Try.underlying9 Try.underlying22 Try.underlying5
  go_enter Try.func5, Try.ntmps5
  go_wp2_with (at_builtin; refine wpList_append_row _ rfl _ _ rfl w.heap.size _ [] rfl (own_empty w) a cap zs rfl hr0 hnil (by simp; omega) hb0.size ?_; intro vc w0 hown0 hg0 hat0)
  have hbw0 : Below w.heap.size w w0 := hb0.grown hg0 hb0.size (fun j e => by cases e; exact Nat.le_refl _)
  obtain ⟨c, cc, hvc, hrc0, _, _, hcnil⟩ := hown0.row
  rw [List.nil_append] at hvc hrc0 hcnil
  subst hvc
  have hbx := bytes_below w0 s
  have hbw1 := hbw0.trans (hbx.mono hbw0.size)
  have hra1 := hc.row.below hbw1
  have hrc1 := hrc0.below hbx
  have hxr := bytes_row w0 s
  clear hown0 hg0 hat0 hb0 hr0 hc hbx hbw0 hrc0
  have hp := rputBytes_any c (some ⟨w0.heap.size, 0, none⟩) cc (grownCap w0 s.size 0 5) zs (strNat s) _ hrc1 hxr (by rw [strNat_len]; omega) hcnil (fun e => by cases e)
  rw [strNat_len, ← HL.out] at hp
  refine hp.mono ?_
  rintro e w2 ⟨⟨r2, rfl, ho2⟩, hb2⟩
  have hbw2 := hbw1.trans (hb2.mono hbw1.size)
  have hra2 := hra1.below hb2
  obtain ⟨p1, q1, hv1, hp1, _, _, _⟩ := ho2.row
  subst hv1
  clear ho2 hb2 hra1 hbw1 hp hrc1 hxr
  go_wp2_with fail
  have hq := putText_any a cap s zs _ hra2 (by omega) hnil
  rw [← HL.out] at hq
  refine hq.mono ?_
  rintro e w3 ⟨⟨r3, rfl, ho3⟩, hb3⟩
  have hbw3 := hbw2.trans (hb3.mono hbw2.size)
  have hra3 := hra2.below hb3
  have hp3 := hp1.below hb3
  obtain ⟨p2, q2, hv2, hp2, _, _, _⟩ := ho3.row
  subst hv2
  have hd : decide (L = L) = true := decide_eq_true rfl
  clear ho3 hb3 hra2 hbw2 hp1 hq
  have heq := equal_any p2 p1 q2 q1 _ _ _ hp2 hp3 hmx hmx
  rw [hd] at heq
  clear hp2 hd
  go_wp2_with fail
  refine heq.mono ?_
  rintro e w4 ⟨rfl, q, rfl⟩
  have hbx2 := (below_drewN (Below.refl w3.heap.size w3) q)
  have hbw4 := below_drewN hbw3 q
  have hra4 := hra3.below hbx2
  have hp4 := hp3.below hbx2
  clear heq hbx2 hra3 hp3 hbw3
  go_wp2_with fail
  have hbx := bytes_below (w3.drewN q) s
  have hbw5 := hbw4.trans (hbx.mono hbw4.size)
  have hra5 := hra4.below hbx
  have hp5 := hp4.below hbx
  have hxr := bytes_row (w3.drewN q) s
  clear hbx hra4 hp4 hbw4
  have hp := putBytes_any a (some ⟨(w3.drewN q).heap.size, 0, none⟩) cap (grownCap (w3.drewN q) s.size 0 5) zs (strNat s) _ hra5 hxr (by rw [strNat_len]; omega) hnil (fun e => by cases e)
  rw [strNat_len, ← HL.out] at hp
  refine hp.mono ?_
  rintro e w6 ⟨⟨r6, rfl, ho6⟩, hb6⟩
  have hbw6 := hbw5.trans (hb6.mono hbw5.size)
  have hp6 := hp5.below hb6
  obtain ⟨p7, q7, hv7, hp7, _, _, _⟩ := ho6.row
  subst hv7
  clear ho6 hb6 hp hp5 hbw5 hxr hra5
  have heq := equal_any p7 p1 q7 q1 _ _ _ hp7 hp6 hmx hmx
  have hd : decide (L = L) = true := decide_eq_true rfl
  rw [hd] at heq
  clear hp7 hp6 hd
  go_wp2_with fail
  refine heq.mono ?_
  rintro e w8 ⟨rfl, q8, rfl⟩
  clear heq
  go_wp2_with fail
  go_ret
  exact ⟨rfl, below_drewN hbw6 q8⟩
end Go.Proofs.Ytfhinodieghklaa.codecTexts
