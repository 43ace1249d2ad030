/- The law on Put, walked: each Put of the program and of the document's answer lay the same bytes. -/
import Derived.Test.YtfhinodieghklaaBy3
import Derived.Test.YtfhinodieghklaaOpen8
namespace Go.Proofs.Ytfhinodieghklaa.codecPuts
open Go.RowKit

theorem beP_mod {W v : Nat} : beP W (v % 256 ^ W) W = beP W v W := by
  unfold beP
  apply List.map_congr_left
  intro t ht
  have ht : t < W := List.mem_range.1 ht
  have e : 256 ^ W = 256 ^ (W - 1 - t) * 256 ^ (t + 1) := by rw [← Nat.pow_add]; congr 1; omega
  rw [e, Nat.mod_mul_right_div_self]
  exact Nat.mod_mod_of_dvd _ ⟨256 ^ t, by rw [Nat.pow_succ, Nat.mul_comm]⟩

set_option maxRecDepth 100000 in
set_option maxHeartbeats 6000000 in
theorem walk (a : Option Addr) (cap : Nat) (zs : List Nat) (v : Nat) (hv : W64 v) (w : World) (hc : Came8 w a cap zs) :
    Calls Try.prog 3 #[.slice a zs.length cap, .int .u64 (v : Int)] w fun e w' => e = .returned (.bool true) ∧ Below w.heap.size w w' := by
  have hl : zs.length + 8 ≤ 140737488355328 := by have := hc.size; omega
  have hmx : ∀ n, n ≤ 8 → zs.length + n ≤ maxLen := fun n hn => by unfold maxLen; omega
  have hb0 : Below w.heap.size w (w.alloc (.cells #[] 5)) := (Below.refl _ _).alloc (Nat.le_refl _) _
  have hr0 := hc.row.below hb0
  have hnil := hc.none
  obtain ⟨y1, hy1⟩ : ∃ y, y = v % 256 := ⟨_, rfl⟩
  obtain ⟨y2, hy2⟩ : ∃ y, y = v % 65536 := ⟨_, rfl⟩
  obtain ⟨y4, hy4⟩ : ∃ y, y = v % 4294967296 := ⟨_, rfl⟩
  have hw8 : IntKind.u8.wrap (v : Int) = (y1 : Int) := by rw [hy1]; exact wrap_byte v
  have hw16 : IntKind.u16.wrap (v : Int) = (y2 : Int) := by rw [hy2]; simp [IntKind.wrap, IntKind.bits, IntKind.signed]
  have hw32 : IntKind.u32.wrap (v : Int) = (y4 : Int) := by rw [hy4]; simp [IntKind.wrap, IntKind.bits, IntKind.signed]
  have hl1 : y1 < 256 := by omega
  have hl2 : y2 < 65536 := by omega
  have hl4 : y4 < 4294967296 := by omega
  have E1 : Hid (beP 1 y1 1 = beP 1 v 1) := by rw [hy1]; exact beP_mod (W := 1)
  have E2 : Hid (beP 2 y2 2 = beP 2 v 2) := by rw [hy2]; exact beP_mod (W := 2)
  have E4 : Hid (beP 4 y4 4 = beP 4 v 4) := by rw [hy4]; exact beP_mod (W := 4)
  clear hy1 hy2 hy4
  go_enter Try.func3, Try.ntmps3
  go_wp2_with (at_builtin; refine wpList_append_row _ rfl _ _ rfl w.heap.size _ [] rfl (own_empty w) a cap zs rfl hr0 hnil (by simp; omega) hb0.size ?_; intro vc w0 hown0 hg0 hat0)
  have hbw0 : Below w.heap.size w w0 := hb0.grown hg0 hb0.size (fun j e => by cases e; exact Nat.le_refl _)
  obtain ⟨c, cc, hvc, hrc0, _, _, hcnil⟩ := hown0.row
  rw [List.nil_append] at hvc hrc0 hcnil
  subst hvc
  have hra0 := hc.row.below hbw0
  clear hown0 hg0 hat0 hb0 hr0 hc
  obtain ⟨L, hL⟩ : ∃ L, L = zs ++ beP 1 v 1 := ⟨_, rfl⟩
  have hmL : L.length ≤ maxLen := by rw [hL, List.length_append, beP_len]; exact hmx _ (by omega)
  have HL := hide_it hL
  clear hL
  go_wp2_with fail
  refine (put8 a cap y1 zs _ hl1 hra0 hl hnil).mono ?_
  rintro e w1 ⟨⟨r1, rfl, ho1⟩, hb1⟩
  rw [E1.out, ← HL.out] at ho1
  have hbwx := hbw0.trans (hb1.mono hbw0.size)
  have hrax := hra0.below hb1
  have hrcx := hrc0.below hb1
  obtain ⟨p1, q1, hv1, hp1, _, _, _⟩ := ho1.row
  subst hv1
  clear ho1 hb1 hra0 hrc0 hbw0
  go_wp2_with fail
  refine (rput_any c cc v 1 zs _ hv (by omega) hrcx hl hcnil).mono ?_
  rintro e w2 ⟨⟨r2, rfl, ho2⟩, hb2⟩
  rw [← HL.out] at ho2
  have hbwy := hbwx.trans (hb2.mono hbwx.size)
  have hray := hrax.below hb2
  have hrcy := hrcx.below hb2
  have hp2 := hp1.below hb2
  obtain ⟨p3, q3, hv3, hp3, _, _, _⟩ := ho2.row
  subst hv3
  clear ho2 hb2 hrax hrcx hbwx hp1
  have heq := equal_any p1 p3 q1 q3 _ _ _ hp2 hp3 hmL hmL
  have hd : decide (L = L) = true := decide_eq_true rfl
  rw [hd] at heq
  clear hp2 hp3 hd
  go_wp2_with fail
  refine heq.mono ?_
  rintro e w3 ⟨rfl, q, rfl⟩
  have hra1 := hray.below (below_drewN (Below.refl _ _) q)
  have hrc1 := hrcy.below (below_drewN (Below.refl _ _) q)
  have hbw1 := below_drewN hbwy q
  clear heq hray hrcy hbwy HL hmL
  obtain ⟨L, hL⟩ : ∃ L, L = zs ++ beP 2 v 2 := ⟨_, rfl⟩
  have hmL : L.length ≤ maxLen := by rw [hL, List.length_append, beP_len]; exact hmx _ (by omega)
  have HL := hide_it hL
  clear hL
  go_wp2_with fail
  refine (put16 a cap y2 zs _ hl2 hra1 hl hnil).mono ?_
  rintro e w1 ⟨⟨r1, rfl, ho1⟩, hb1⟩
  rw [E2.out, ← HL.out] at ho1
  have hbwx := hbw1.trans (hb1.mono hbw1.size)
  have hrax := hra1.below hb1
  have hrcx := hrc1.below hb1
  obtain ⟨p1, q1, hv1, hp1, _, _, _⟩ := ho1.row
  subst hv1
  clear ho1 hb1 hra1 hrc1 hbw1
  go_wp2_with fail
  refine (rput_any c cc v 2 zs _ hv (by omega) hrcx hl hcnil).mono ?_
  rintro e w2 ⟨⟨r2, rfl, ho2⟩, hb2⟩
  rw [← HL.out] at ho2
  have hbwy := hbwx.trans (hb2.mono hbwx.size)
  have hray := hrax.below hb2
  have hrcy := hrcx.below hb2
  have hp2 := hp1.below hb2
  obtain ⟨p3, q3, hv3, hp3, _, _, _⟩ := ho2.row
  subst hv3
  clear ho2 hb2 hrax hrcx hbwx hp1
  have heq := equal_any p1 p3 q1 q3 _ _ _ hp2 hp3 hmL hmL
  have hd : decide (L = L) = true := decide_eq_true rfl
  rw [hd] at heq
  clear hp2 hp3 hd
  go_wp2_with fail
  refine heq.mono ?_
  rintro e w3 ⟨rfl, q, rfl⟩
  have hra2 := hray.below (below_drewN (Below.refl _ _) q)
  have hrc2 := hrcy.below (below_drewN (Below.refl _ _) q)
  have hbw2 := below_drewN hbwy q
  clear heq hray hrcy hbwy HL hmL
  obtain ⟨L, hL⟩ : ∃ L, L = zs ++ beP 2 v 2 := ⟨_, rfl⟩
  have hmL : L.length ≤ maxLen := by rw [hL, List.length_append, beP_len]; exact hmx _ (by omega)
  have HL := hide_it hL
  clear hL
  go_wp2_with fail
  refine (putw a cap y2 zs _ hl2 hra2 hl hnil).mono ?_
  rintro e w1 ⟨⟨r1, rfl, ho1⟩, hb1⟩
  rw [E2.out, ← HL.out] at ho1
  have hbwx := hbw2.trans (hb1.mono hbw2.size)
  have hrax := hra2.below hb1
  have hrcx := hrc2.below hb1
  obtain ⟨p1, q1, hv1, hp1, _, _, _⟩ := ho1.row
  subst hv1
  clear ho1 hb1 hra2 hrc2 hbw2
  go_wp2_with fail
  refine (rput_any c cc v 2 zs _ hv (by omega) hrcx hl hcnil).mono ?_
  rintro e w2 ⟨⟨r2, rfl, ho2⟩, hb2⟩
  rw [← HL.out] at ho2
  have hbwy := hbwx.trans (hb2.mono hbwx.size)
  have hray := hrax.below hb2
  have hrcy := hrcx.below hb2
  have hp2 := hp1.below hb2
  obtain ⟨p3, q3, hv3, hp3, _, _, _⟩ := ho2.row
  subst hv3
  clear ho2 hb2 hrax hrcx hbwx hp1
  have heq := equal_any p1 p3 q1 q3 _ _ _ hp2 hp3 hmL hmL
  have hd : decide (L = L) = true := decide_eq_true rfl
  rw [hd] at heq
  clear hp2 hp3 hd
  go_wp2_with fail
  refine heq.mono ?_
  rintro e w3 ⟨rfl, q, rfl⟩
  have hra3 := hray.below (below_drewN (Below.refl _ _) q)
  have hrc3 := hrcy.below (below_drewN (Below.refl _ _) q)
  have hbw3 := below_drewN hbwy q
  clear heq hray hrcy hbwy HL hmL
  obtain ⟨L, hL⟩ : ∃ L, L = zs ++ beP 4 v 4 := ⟨_, rfl⟩
  have hmL : L.length ≤ maxLen := by rw [hL, List.length_append, beP_len]; exact hmx _ (by omega)
  have HL := hide_it hL
  clear hL
  go_wp2_with fail
  refine (put32 a cap y4 zs _ hl4 hra3 hl hnil).mono ?_
  rintro e w1 ⟨⟨r1, rfl, ho1⟩, hb1⟩
  rw [E4.out, ← HL.out] at ho1
  have hbwx := hbw3.trans (hb1.mono hbw3.size)
  have hrax := hra3.below hb1
  have hrcx := hrc3.below hb1
  obtain ⟨p1, q1, hv1, hp1, _, _, _⟩ := ho1.row
  subst hv1
  clear ho1 hb1 hra3 hrc3 hbw3
  go_wp2_with fail
  refine (rput_any c cc v 4 zs _ hv (by omega) hrcx hl hcnil).mono ?_
  rintro e w2 ⟨⟨r2, rfl, ho2⟩, hb2⟩
  rw [← HL.out] at ho2
  have hbwy := hbwx.trans (hb2.mono hbwx.size)
  have hray := hrax.below hb2
  have hrcy := hrcx.below hb2
  have hp2 := hp1.below hb2
  obtain ⟨p3, q3, hv3, hp3, _, _, _⟩ := ho2.row
  subst hv3
  clear ho2 hb2 hrax hrcx hbwx hp1
  have heq := equal_any p1 p3 q1 q3 _ _ _ hp2 hp3 hmL hmL
  have hd : decide (L = L) = true := decide_eq_true rfl
  rw [hd] at heq
  clear hp2 hp3 hd
  go_wp2_with fail
  refine heq.mono ?_
  rintro e w3 ⟨rfl, q, rfl⟩
  have hra4 := hray.below (below_drewN (Below.refl _ _) q)
  have hrc4 := hrcy.below (below_drewN (Below.refl _ _) q)
  have hbw4 := below_drewN hbwy q
  clear heq hray hrcy hbwy HL hmL
  obtain ⟨L, hL⟩ : ∃ L, L = zs ++ beP 8 v 8 := ⟨_, rfl⟩
  have hmL : L.length ≤ maxLen := by rw [hL, List.length_append, beP_len]; exact hmx _ (by omega)
  have HL := hide_it hL
  clear hL
  go_wp2_with fail
  refine (put64 a cap v zs _ hv hra4 hl hnil).mono ?_
  rintro e w1 ⟨⟨r1, rfl, ho1⟩, hb1⟩
  rw [← HL.out] at ho1
  have hbwx := hbw4.trans (hb1.mono hbw4.size)
  have hrax := hra4.below hb1
  have hrcx := hrc4.below hb1
  obtain ⟨p1, q1, hv1, hp1, _, _, _⟩ := ho1.row
  subst hv1
  clear ho1 hb1 hra4 hrc4 hbw4
  go_wp2_with fail
  refine (rput_any c cc v 8 zs _ hv (by omega) hrcx hl hcnil).mono ?_
  rintro e w2 ⟨⟨r2, rfl, ho2⟩, hb2⟩
  rw [← HL.out] at ho2
  have hbwy := hbwx.trans (hb2.mono hbwx.size)
  have hray := hrax.below hb2
  have hrcy := hrcx.below hb2
  have hp2 := hp1.below hb2
  obtain ⟨p3, q3, hv3, hp3, _, _, _⟩ := ho2.row
  subst hv3
  clear ho2 hb2 hrax hrcx hbwx hp1
  have heq := equal_any p1 p3 q1 q3 _ _ _ hp2 hp3 hmL hmL
  have hd : decide (L = L) = true := decide_eq_true rfl
  rw [hd] at heq
  clear hp2 hp3 hd
  go_wp2_with fail
  refine heq.mono ?_
  rintro e w3 ⟨rfl, q, rfl⟩
  have hra5 := hray.below (below_drewN (Below.refl _ _) q)
  have hrc5 := hrcy.below (below_drewN (Below.refl _ _) q)
  have hbw5 := below_drewN hbwy q
  clear heq hray hrcy hbwy HL hmL
  go_wp2_with fail
  go_ret
  exact ⟨rfl, hbw5⟩
end Go.Proofs.Ytfhinodieghklaa.codecPuts
