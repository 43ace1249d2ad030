/- The law on another byte in the place of one, walked. -/
import Derived.Test.YtadceolgekbgmabFh1
import Derived.Test.YtadceolgekbgmabFm2
import Derived.Test.YtadceolgekbgmabFs1
import Derived.Test.YtadceolgekbgmabOpenTrn
namespace Go.Proofs.Ytadceolgekbgmab.frameTurned
open Go.RowKit

theorem OwB.set {w : World} {base g o cap n : Nat} {bs : List Nat} (h : OwB w base (.slice (some ⟨g, o, none⟩) n cap) bs) (hn : n = bs.length) (i : Nat) (hi : i < bs.length) (x : Nat) : OwB (w.setCell ⟨g, o + i, none⟩ (.int .u8 (x : Int))) base (.slice (some ⟨g, o, none⟩) n cap) (bs.set i x) := by
  subst hn
  have := OwnS.set h i (by simpa using hi) (.int .u8 (x : Int))
  unfold OwB
  rw [List.length_set, List.map_set]
  exact this

set_option maxRecDepth 100000 in
set_option maxHeartbeats 2000000 in
theorem walk (a : Option Addr) (cap : Nat) (zs : List Nat) (at' : Option Addr) (ct : Nat) (ts : List Nat) (t : Trn) (w : World) (hc : Came8 w a cap zs) (hct : Came8 w at' ct ts) (hok : TrnOk w t) :
    Calls Try.prog 6 #[.slice a zs.length cap, .slice at' ts.length ct, .agg #[.int .i64 t.pl, .int .u8 (t.tb : Int)]] w fun e w' => e = .returned (.bool true) ∧ Below w.heap.size w w' := by
  obtain ⟨k, y⟩ := t
  obtain ⟨⟨hk1, hk2⟩, hy⟩ := hok
  dsimp only at hk1 hk2 hy ⊢
  have hl : zs.length ≤ 140737488355328 := by have := hc.size; omega
  have hlt : ts.length ≤ 140737488351232 := hct.size
  have hnil := hc.none
  have h8 := hc.all
  have hr := hc.row
  have ht8 := hct.all
  have htr := hct.row
  have htn := hct.none
  obtain ⟨w0, hw0⟩ : ∃ w0, w0 = w.alloc (.cells #[.int .i64 k, .int .u8 (y : Int)] 34) := ⟨_, rfl⟩
  have hb0 : Below w.heap.size w w0 := by rw [hw0]; exact (Below.refl _ _).alloc (Nat.le_refl _) _
  have hz0 : w.heap.size < w0.heap.size := by rw [hw0]; simp
  have hc0 : w0.cell? ⟨w.heap.size, 0, none⟩ = some (.int .i64 k) := by rw [hw0, cell_of_row _ _ _ _ _ _ (heap_alloc_new w _)]; rfl
  have hc1 : w0.cell? ⟨w.heap.size, 1, none⟩ = some (.int .u8 (y : Int)) := by rw [hw0, cell_of_row _ _ _ _ _ _ (heap_alloc_new w _)]; rfl
  have hh := head_any w0
  clear hc hct
  go_enter Try.func6, Try.ntmps6
  go_wp2_with fail
  rw [← hw0]
  clear hw0
  refine hh.mono ?_
  rintro e w1 ⟨rfl, hb1⟩
  have hc0' := (hb1.cell (p := ⟨w.heap.size, 0, none⟩) hz0).trans hc0
  have hc1' := (hb1.cell (p := ⟨w.heap.size, 1, none⟩) hz0).trans hc1
  have hbw1 := hb0.trans (hb1.mono (by omega))
  have hz1 := hbw1.size
  have hcp := copied_any a cap zs w1 (hr.below hbw1) hl hnil
  clear hh hc0 hc1 hb0 hb1
  go_wp2_with fail
  refine hcp.mono ?_
  rintro e w2 ⟨⟨r2, rfl, ho2⟩, hb2⟩
  obtain ⟨p2, q2, hv2, hp2, _, _, hn2⟩ := ho2.row
  subst hv2
  have hbw2 := hbw1.trans (hb2.mono hz1)
  have hz2 := hbw2.size
  clear ho2 hcp hc0' hc1'
  by_cases hlarge : 65536 < zs.length
  · have hlg : (65536 : Int) < (zs.length : Int) := by omega
    have hmk := make_large p2 zs.length q2 w2 hlarge (by unfold maxLen; omega)
    clear hp2
    go_wp2_with fail
    refine hmk.mono ?_
    rintro e w3 ⟨rfl, rfl⟩
    clear hmk
    go_wp2_with fail
    go_ret
    exact ⟨by simp , hbw2⟩
  have hsmall : zs.length ≤ 65536 := by omega
  have hmk := make_ok p2 q2 zs w2 hp2 h8 hsmall hn2
  clear hp2 hlarge
  go_wp2_with fail
  refine hmk.mono ?_
  rintro e w3 ⟨⟨v3, rfl, ho3⟩, hb3⟩
  have hbw3 := hbw2.trans (hb3.mono hz2)
  have hz3 := hbw3.size
  obtain ⟨p3, q3, hv3, hp3, hl3, hm3, hn3⟩ := ho3.row
  subst hv3
  have HF9 := hide_it (frm_len zs)
  have hF8 := frm_all h8
  have hFl : (frm zs).length ≤ 65545 := by rw [frm_len]; omega
  have HTR : Hid (∀ i m, trn zs ts i m = (frm zs ++ ts).set i (at0 (frm zs ++ ts) i ^^^ m)) := fun _ _ => rfl
  generalize frm zs = F at *
  clear ho3 hmk
  by_cases hy0 : y = 0
  · subst hy0
    go_wp2_with fail
    go_ret
    exact ⟨rfl, hbw3⟩
  have hy0' : ¬ (y : Int) = 0 := by omega
  by_cases hk0 : k < 0
  · go_wp2_with fail
    go_ret
    exact ⟨rfl, hbw3⟩
  by_cases hkF : (F.length : Int) ≤ k
  · go_wp2_with fail
    go_ret
    exact ⟨rfl, hbw3⟩
  obtain ⟨i, rfl⟩ : ∃ i : Nat, k = (i : Int) := ⟨k.toNat, by omega⟩
  have hiF : i < F.length := by omega
  have hd0 : ((y : Int) == 0) = false := by simpa using hy0'
  have hd1 : decide ((i : Int) < 0) = false := by simp
  have hd2 : decide (F.length ≤ i) = false := by simp; omega
  have hcp := copied_any p3 q3 F w3 hp3 (by omega) hn3
  clear hp3 hk0
  go_wp2_with fail
  refine hcp.mono ?_
  rintro e w4 ⟨⟨r4, rfl, ho4⟩, hb4⟩
  have hbw4 := hbw3.trans (hb4.mono hz3)
  have hz4 := hbw4.size
  have htr4 := htr.below hbw4
  have ho4' : OwB w4 w.heap.size r4 F := (OwnS.of_row ho4).mono hz3
  clear hcp ho4
  go_wp2_with (at_builtin; refine wpList_appendB _ rfl _ _ rfl w.heap.size _ _ rfl ho4' at' ct ts rfl htr4 htn (by omega) hz4 ?_; intro v5 w5 ho5 hg5 hat5; obtain ⟨p5, q5, hv5, hp5, hl5, hm5, hn5⟩ := ho5.row; obtain ⟨g5, o5, rfl, hg5l, hcc⟩ := hp5.here (i := i) (by simp; omega); subst hv5; have hck := hcc i (by simp; omega); have hfz := OwnS.thaw ho5 (o5 + i); have hi5 : (i : Int) < ((F ++ ts).length : Int) := by simp; omega)
  have hbw5 : Below w.heap.size w w5 := hbw4.grown hg5 hz4 (fun j e => (ho4'.inside j e).1)
  have hgb : w.heap.size ≤ g5 := (ho5.inside g5 rfl).1
  have hx8 : at0 (F ++ ts) i < 256 := (hF8.append ht8).at i
  rw [u8_xor_nat _ _ hx8 hy]
  have ho6 := OwB.set ho5 rfl i (by simp; omega) (at0 (F ++ ts) i ^^^ y)
  have HTy := HTR.out i y
  rw [← HTy] at ho6
  clear HTy
  obtain ⟨w6, hw6⟩ : ∃ w6, w6 = w5.setCell ⟨g5, o5 + i, none⟩ (.int .u8 ((at0 (F ++ ts) i ^^^ y : Nat) : Int)) := ⟨_, rfl⟩
  have hbw6 : Below w.heap.size w w6 := by rw [hw6]; exact hbw5.setCell hgb _
  have hz6 := hbw6.size
  rw [← hw6] at ho6 ⊢
  have hTl : (trn zs ts i y).length = F.length + ts.length := by rw [trn_len, HF9.out]
  have hT8 := trn_all (i := i) h8 ht8 hy
  obtain ⟨p6, q6, hv6, hp6, hl6, hm6, hn6⟩ := ho6.row
  rw [List.length_append, hTl] at hv6
  cases hv6
  have hread := read_any (some ⟨g5, o5, none⟩) q5 (trn zs ts i y) w6 hp6 hT8 hl6 hm6 hn6
  rw [hTl] at hread
  have hmark : i = 0 → rdF (trn zs ts i y) = .error 90 := fun e => by subst e; exact trn_mark hy0
  have hsum : 5 ≤ i → rdF (trn zs ts i y) = .error 91 := fun e => trn_sum h8 ht8 hsmall e (by have := HF9.out; omega) hy hy0
  have hsz : 1 ≤ i → i < 5 → ∀ m, rdF (trn zs ts i y) = .ok m → m + 9 ≠ F.length := fun h1 h2 m hm e => by
    obtain ⟨_, h3, _⟩ := rdF_ok hm
    exact trn_size h8 ht8 hsmall h1 h2 hy hy0 (by rw [h3]; have := HF9.out; omega)
  clear ho6 hw6 ho5 hck hfz hcc hp5 hp6 hT8 hTl hl6 hm6 hn6 hg5 hat5 ho4' HTR hl5 hm5 hn5
  generalize trn zs ts i y = B at *
  refine hread.mono ?_
  rintro e w7 ⟨hR, hb7⟩
  have hbw7 := hbw6.trans (hb7.mono hz6)
  clear hread hx8
  by_cases hi0 : i = 0
  · rw [hmark hi0] at hR
    have he : e = .returned (.tuple #[.slice none 0 0, .int .i64 0, .int .i64 ((90 : Nat) : Int)]) := hR
    subst he hi0
    clear hR hmark hsum hsz
    go_wp2_with fail
    go_ret
    exact ⟨rfl, hbw7⟩
  have hi0' : ¬ (i : Int) = 0 := by omega
  by_cases hi5 : 5 ≤ i
  · rw [hsum hi5] at hR
    have he : e = .returned (.tuple #[.slice none 0 0, .int .i64 0, .int .i64 ((91 : Nat) : Int)]) := hR
    subst he
    have hi5' : (5 : Int) ≤ (i : Int) := by omega
    clear hR hmark hsum hsz
    go_wp2_with fail
    go_ret
    exact ⟨rfl, hbw7⟩
  have hi5' : ¬ (5 : Int) ≤ (i : Int) := by omega
  have hs := hsz (by omega) (by omega)
  clear hmark hsum hsz
  cases hRd : rdF B with
  | error c =>
    rw [hRd] at hR
    have he : e = .returned (.tuple #[.slice none 0 0, .int .i64 0, .int .i64 (c : Int)]) := hR
    subst he
    have hF0 : ¬ (0 : Int) = (F.length : Int) := by omega
    clear hR hs hRd
    go_wp2_with fail
    go_ret
    refine ⟨?_, hbw7⟩
    simp
    omega
  | ok m =>
    have hm := hs m hRd
    rw [hRd] at hR
    obtain ⟨v7, he, _⟩ := hR
    subst he
    have hmF : ¬ ((m + 9 : Nat) : Int) = (F.length : Int) := by omega
    clear hs hRd
    generalize m + 9 = M at *
    go_wp2_with fail
    go_ret
    refine ⟨?_, hbw7⟩
    simp
    omega
end Go.Proofs.Ytadceolgekbgmab.frameTurned
