/- The document's disk: Append, Cut, Trim, where the power is gone or there is no such area. The document's disk: Append. The document's disk: Cut, Trim, where the place lies outside. The document's disk: Cut. The document's disk: Trim. The document's disk: the four operations and Read, of every place. -/
import Derived.Test.YtdodnegdpdhbiaaDr3
namespace Go.Proofs.Ytdodnegdpdhbiaa
open Go.RowKit

section
variable {w : World} {F : Nat → Prop} {a : Option Addr} {n c : Nat} {am : Bool} {s : Nat → Pt}
set_option maxRecDepth 100000 in
set_option maxHeartbeats 1600000 in
theorem appendR_no (h : Dd w F a n s) (I : Int) (v : Value) (hE : dnR am n s I ≠ 0) : Calls Try.prog 52 #[valD a n c am, .int .i64 I, v] w fun e w' => ∃ v, e = .returned (.tuple #[v, .int .i64 (dnR am n s I)]) ∧ NewD w F n am s v w' := by
  have hb0 : Below w.heap.size w ((w.alloc (.cells #[.slice a n c, .bool am] 45)).alloc (.cells #[.slice none 0 0, .bool false] 45)) := ((Below.refl _ _).alloc (Nat.le_refl _) _).alloc (by simp) _
  have hh := downR (c := c) (am := am) (h.below hb0) I
  obtain ⟨E, hEq⟩ : ∃ E, E = dnR am n s I := ⟨_, rfl⟩
  rw [← hEq] at hh hE
  rw [← hEq]
  have hd := hide_it h
  clear hEq h
  go_enter Try.func52, Try.ntmps52
  go_wp2_with fail
  refine hh.mono ?_
  rintro e w1 ⟨rfl, hb1⟩
  have hbw := hb0.trans (hb1.mono hb0.size)
  obtain ⟨hB, hZ⟩ := box2 w a n c am (by simpa using hb1)
  have d0 := cell_of_row _ _ 0 _ _ _ hB
  have d1 := cell_of_row _ _ 1 _ _ _ hB
  have z0 := cell_of_row _ _ 0 _ _ _ hZ
  have z1 := cell_of_row _ _ 1 _ _ _ hZ
  have f0 := frozen_of_row _ _ 0 _ _ hZ
  have f1 := frozen_of_row _ _ 1 _ _ hZ
  simp only [List.getElem?_toArray, List.getElem?_cons_zero, List.getElem?_cons_succ] at d0 d1 z0 z1
  clear hh hB hZ
  go_wp2_with fail
  have hfin := (hbw.setCell (p := ⟨w.heap.size + 1, 0, none⟩) (by simp) (.slice a n c)).setCell (p := ⟨w.heap.size + 1, 1, none⟩) (by simp) (.bool am)
  refine bodyPost_ret (v := .tuple #[valD a n c am, .int .i64 E]) (by simp [results, Try.results52, go_sem, z0, z1]) rfl ⟨_, rfl, ⟨_, _, rfl, hd.out.below hfin⟩, hfin⟩

set_option maxRecDepth 100000 in
set_option maxHeartbeats 1600000 in
theorem cutR_no (h : Dd w F a n s) (I : Int) (A : Int) (hE : dnR am n s I ≠ 0) : Calls Try.prog 54 #[valD a n c am, .int .i64 I, .int .i64 A] w fun e w' => ∃ v, e = .returned (.tuple #[v, .int .i64 (dnR am n s I)]) ∧ NewD w F n am s v w' := by
  have hb0 : Below w.heap.size w ((w.alloc (.cells #[.slice a n c, .bool am] 45)).alloc (.cells #[.slice none 0 0, .bool false] 45)) := ((Below.refl _ _).alloc (Nat.le_refl _) _).alloc (by simp) _
  have hh := downR (c := c) (am := am) (h.below hb0) I
  obtain ⟨E, hEq⟩ : ∃ E, E = dnR am n s I := ⟨_, rfl⟩
  rw [← hEq] at hh hE
  rw [← hEq]
  have hd := hide_it h
  clear hEq h
  go_enter Try.func54, Try.ntmps54
  go_wp2_with fail
  refine hh.mono ?_
  rintro e w1 ⟨rfl, hb1⟩
  have hbw := hb0.trans (hb1.mono hb0.size)
  obtain ⟨hB, hZ⟩ := box2 w a n c am (by simpa using hb1)
  have d0 := cell_of_row _ _ 0 _ _ _ hB
  have d1 := cell_of_row _ _ 1 _ _ _ hB
  have z0 := cell_of_row _ _ 0 _ _ _ hZ
  have z1 := cell_of_row _ _ 1 _ _ _ hZ
  have f0 := frozen_of_row _ _ 0 _ _ hZ
  have f1 := frozen_of_row _ _ 1 _ _ hZ
  simp only [List.getElem?_toArray, List.getElem?_cons_zero, List.getElem?_cons_succ] at d0 d1 z0 z1
  clear hh hB hZ
  go_wp2_with fail
  have hfin := (hbw.setCell (p := ⟨w.heap.size + 1, 0, none⟩) (by simp) (.slice a n c)).setCell (p := ⟨w.heap.size + 1, 1, none⟩) (by simp) (.bool am)
  refine bodyPost_ret (v := .tuple #[valD a n c am, .int .i64 E]) (by simp [results, Try.results54, go_sem, z0, z1]) rfl ⟨_, rfl, ⟨_, _, rfl, hd.out.below hfin⟩, hfin⟩

set_option maxRecDepth 100000 in
set_option maxHeartbeats 1600000 in
theorem trimR_no (h : Dd w F a n s) (I : Int) (A : Int) (hE : dnR am n s I ≠ 0) : Calls Try.prog 55 #[valD a n c am, .int .i64 I, .int .i64 A] w fun e w' => ∃ v, e = .returned (.tuple #[v, .int .i64 (dnR am n s I)]) ∧ NewD w F n am s v w' := by
  have hb0 : Below w.heap.size w ((w.alloc (.cells #[.slice a n c, .bool am] 45)).alloc (.cells #[.slice none 0 0, .bool false] 45)) := ((Below.refl _ _).alloc (Nat.le_refl _) _).alloc (by simp) _
  have hh := downR (c := c) (am := am) (h.below hb0) I
  obtain ⟨E, hEq⟩ : ∃ E, E = dnR am n s I := ⟨_, rfl⟩
  rw [← hEq] at hh hE
  rw [← hEq]
  have hd := hide_it h
  clear hEq h
  go_enter Try.func55, Try.ntmps55
  go_wp2_with fail
  refine hh.mono ?_
  rintro e w1 ⟨rfl, hb1⟩
  have hbw := hb0.trans (hb1.mono hb0.size)
  obtain ⟨hB, hZ⟩ := box2 w a n c am (by simpa using hb1)
  have d0 := cell_of_row _ _ 0 _ _ _ hB
  have d1 := cell_of_row _ _ 1 _ _ _ hB
  have z0 := cell_of_row _ _ 0 _ _ _ hZ
  have z1 := cell_of_row _ _ 1 _ _ _ hZ
  have f0 := frozen_of_row _ _ 0 _ _ hZ
  have f1 := frozen_of_row _ _ 1 _ _ hZ
  simp only [List.getElem?_toArray, List.getElem?_cons_zero, List.getElem?_cons_succ] at d0 d1 z0 z1
  clear hh hB hZ
  go_wp2_with fail
  have hfin := (hbw.setCell (p := ⟨w.heap.size + 1, 0, none⟩) (by simp) (.slice a n c)).setCell (p := ⟨w.heap.size + 1, 1, none⟩) (by simp) (.bool am)
  refine bodyPost_ret (v := .tuple #[valD a n c am, .int .i64 E]) (by simp [results, Try.results55, go_sem, z0, z1]) rfl ⟨_, rfl, ⟨_, _, rfl, hd.out.below hfin⟩, hfin⟩

end

end Go.Proofs.Ytdodnegdpdhbiaa

namespace Go.Proofs.Ytdodnegdpdhbiaa
open Go.RowKit

section
variable {w : World} {F : Nat → Prop} {a : Option Addr} {n c : Nat} {am : Bool} {s : Nat → Pt}
set_option maxRecDepth 100000 in
set_option maxHeartbeats 1600000 in
theorem appendR_ok (h : Dd w F a n s) (hF : ∀ b, F b → b < w.heap.size) (I : Int) (za : Option Addr) (zc : Nat) (zs : List Nat) (hz : RowB w za zs) (hzn : za = none → zs.length = 0 ∧ zc = 0) (h8 : All8 zs) (hi : inD n I = true) (hE : dnR am n s I = 0) (hct : (s I.toNat).c + 1 ≤ 4611686018427387904) (hlen : (s I.toNat).bs.length + zs.length ≤ 211106232532800) (hroom : (s I.toNat).B + ((s I.toNat).bs.length + zs.length) ≤ 9223372036854775807) : Calls Try.prog 52 #[valD a n c am, .int .i64 I, .slice za zs.length zc] w fun e w' => ∃ v, e = .returned (.tuple #[v, .int .i64 0]) ∧ NewD w F n am (upd s I.toNat { s I.toNat with bs := (s I.toNat).bs ++ zs, c := (s I.toNat).c + 1 }) v w' := by
  have hb0 : Below w.heap.size w ((w.alloc (.cells #[.slice a n c, .bool am] 45)).alloc (.cells #[.slice none 0 0, .bool false] 45)) := ((Below.refl _ _).alloc (Nat.le_refl _) _).alloc (by simp) _
  have hh := downR (c := c) (am := am) (h.below hb0) I
  rw [hE] at hh
  obtain ⟨i1, i2⟩ := inD_iff hi
  have x1 : 0 ≤ I := by omega
  have x2 : I < (n : Int) := by omega
  have hok := h.ok I.toNat i2
  have hd := hide_it (h.beside (w.heap.size + 1) (by omega))
  have HI := hide_it hi
  have HF : Hid (∀ b, (F b ∨ b = w.heap.size + 1) → b < w.heap.size + 1 + 1) := hide_it fun b hb => by
    rcases hb with hb | hb
    · have := hF b hb; omega
    · omega
  clear h i1 hE hi hF
  obtain ⟨y, hy⟩ : ∃ y, y = s I.toNat := ⟨_, rfl⟩
  rw [← hy] at hok hct hlen hroom
  rw [← hy]
  have HY := hide_it hy
  clear hy
  have hw1 : IntKind.i64.wrap ((y.c : Int) + 1) = ((y.c + 1 : Nat) : Int) := by rw [IntKind.wrap_i64]; omega
  obtain ⟨C1, hC1⟩ : ∃ C, C = y.c + 1 := ⟨_, rfl⟩
  obtain ⟨N1, hN1⟩ : ∃ N, N = y.bs ++ zs := ⟨_, rfl⟩
  have hNl : N1.length = y.bs.length + zs.length := by rw [hN1]; simp
  rw [← hC1] at hw1 hct
  rw [← hC1, ← hN1]
  obtain ⟨y', hy'⟩ : ∃ z : Pt, z = { y with bs := N1, c := C1 } := ⟨_, rfl⟩
  rw [← hy']
  have HOK : Hid (PtOk y') := hide_it (by rw [hy']; exact ⟨by have := hok.le; simp only; omega, (fun z hz => by rw [hN1] at hz; exact (List.mem_append.1 hz).elim (hok.all z) (h8 z)), by simp only; omega, by simp only; omega, hct, hok.ft⟩)
  have HL := hide_it hlen
  have HNN := hide_it hN1
  have HNL := hide_it hNl
  have HY' := hide_it hy'
  have HZS0 := hide_it hz
  have HZN := hide_it hzn
  clear hok hC1 hct hlen hroom hN1 hNl hy' hz hzn h8
  go_enter Try.func52, Try.ntmps52
  go_wp2_with fail
  refine hh.mono ?_
  rintro e w1 ⟨rfl, hb1⟩
  have hbw := hb0.trans (hb1.mono hb0.size)
  obtain ⟨hB, hZ⟩ := box2 w a n c am (by simpa using hb1)
  have hls : w.heap.size + 1 + 1 ≤ w1.heap.size := by simpa using hb1.size
  have hl0 : w.heap.size < w1.heap.size := by omega
  have hl1 : w.heap.size + 1 < w1.heap.size := by omega
  have d0 := cell_of_row _ _ 0 _ _ _ hB
  have d1 := cell_of_row _ _ 1 _ _ _ hB
  simp only [List.getElem?_toArray, List.getElem?_cons_zero, List.getElem?_cons_succ] at d0 d1
  have HD1 := hide_it (hd.out.below hbw)
  have HZS := hide_it (RowB.below HZS0.out hbw)
  have HBD := hide_it hB
  obtain ⟨b, o, hab, hbl, _, hrr⟩ := (hd.out.below hbw).row
  subst hab
  obtain ⟨ra, rc, hv, hrow, hfar, hrc, hnil⟩ := hrr I.toNat i2
  rw [← HY.out] at hv hrow hfar hrc hnil
  obtain ⟨c0, c1, c2, c3, c4, c5, c6⟩ := hv
  have HX : Hid (Below w1.heap.size w1 (w1.alloc (.cells #[.int .i64 (y.B : Int), .int .i64 (y.k : Int), .int .i64 (y.c : Int), .slice ra y.bs.length rc, .int .i64 y.fd, .int .i64 y.fk, .int .u8 (y.ft : Int)] 108))) := hide_it ((Below.refl _ _).alloc (Nat.le_refl _) _)
  have HRA : Hid (RowB ((w1.alloc (.cells #[.int .i64 (y.B : Int), .int .i64 (y.k : Int), .int .i64 (y.c : Int), .slice ra y.bs.length rc, .int .i64 y.fd, .int .i64 y.fk, .int .u8 (y.ft : Int)] 108)).alloc (.cells #[] 5)) ra y.bs) := hide_it (RowB.below hrow (((Below.refl _ _).alloc (Nat.le_refl _) _).alloc (by simp) _))
  have hE := owb_empty (w1.alloc (.cells #[.int .i64 (y.B : Int), .int .i64 (y.k : Int), .int .i64 (y.c : Int), .slice ra y.bs.length rc, .int .i64 y.fd, .int .i64 y.fk, .int .u8 (y.ft : Int)] 108))
  rw [World.size_alloc] at hE
  have HE := hide_it hE
  have HRW := hide_it (And.intro hrow (And.intro hfar (And.intro hrc hnil)))
  have HZ := hide_it hZ
  clear hh hB hZ hrr hb1 hrow hfar hrc hnil hd hE
  go_wp2_with (first | (at_builtin; refine wpList_appendB _ rfl _ _ rfl (w1.heap.size + 1) _ [] rfl HE.out ra rc y.bs rfl HRA.out HRW.out.2.2.2 (by have := HL.out; simp; omega) (by simp) ?_; intro v4 w4 hown4 hg4 hat4; rw [List.nil_append] at hown4; have hin4 := hown4.inside; have hnb : ∀ j, v4.ownBlock = some j → w1.heap.size + 1 ≤ j := fun j e => (hin4 j e).1; have hs4 := hg4.size; rw [World.size_alloc, World.size_alloc] at hs4; have hb4 : Below (w1.heap.size + 1) (w1.alloc (.cells #[.int .i64 (y.B : Int), .int .i64 (y.k : Int), .int .i64 (y.c : Int), .slice ra y.bs.length rc, .int .i64 y.fd, .int .i64 y.fk, .int .u8 (y.ft : Int)] 108)) w4 := ((Below.refl _ _).alloc (by simp) _).grown hg4 (by simp) (fun k e => by have e2 : some (w1.heap.size + 1) = some k := e; have := Option.some.inj e2; omega); have HB4 := hide_it hb4; have HO4 := hide_it hown4; have HN4 := hide_it hnb; have hz4 := RowB.below HZS.out (HX.out.trans (hb4.mono (by simp))); have HZ4 := hide_it hz4; clear hown4 hg4 hat4 hin4 hnb hb4 hz4) | (at_builtin; refine wpList_appendB _ rfl _ _ rfl (w1.heap.size + 1) _ y.bs rfl HO4.out za zc zs rfl HZ4.out HZN.out (by have := HL.out; omega) (by omega) ?_; intro v5 w5 hown5 hg5 hat5; have hb5 := HB4.out.grown hg5 (by omega) (fun k e => HN4.out k e); obtain ⟨na, nc, hv5, hrow5, hnc5, _, hnn5⟩ := hown5.row; subst hv5; have hs5 := hb5.size; rw [World.size_alloc] at hs5; have hA5 := (hb5.block w1.heap.size (by omega)).trans (heap_alloc_new w1 _); have hD5 := (hb5.block w.heap.size (by omega)).trans ((Below.heap_alloc w1 _ _ hl0).trans HBD.out); have HA5 := hide_it hA5; have p0 := cell_of_row _ _ 0 _ _ _ hA5; have p1 := cell_of_row _ _ 1 _ _ _ hA5; have p2 := cell_of_row _ _ 2 _ _ _ hA5; have p3 := cell_of_row _ _ 3 _ _ _ hA5; have p4 := cell_of_row _ _ 4 _ _ _ hA5; have p5 := cell_of_row _ _ 5 _ _ _ hA5; have p6 := cell_of_row _ _ 6 _ _ _ hA5; have q2 := frozen_of_row _ _ 2 _ _ hA5; have q3 := frozen_of_row _ _ 3 _ _ hA5; have d0' := cell_of_row _ _ 0 _ _ _ hD5; have d1' := cell_of_row _ _ 1 _ _ _ hD5; simp only [List.getElem?_toArray, List.getElem?_cons_zero, List.getElem?_cons_succ] at d0' d1' p0 p1 p2 p3 p4 p5 p6; have HO5 := hide_it hown5; have HB5 := hide_it hb5; have HR5 := hide_it (And.intro hrow5 (And.intro hnc5 hnn5)); clear hown5 hg5 hat5 hb5 hrow5 hnc5 hnn5 hA5 hD5))
  have hbX : Below w1.heap.size w1 ((w5.setCell ⟨w1.heap.size, 3, none⟩ (.slice na (y.bs.length + zs.length) nc)).setCell ⟨w1.heap.size, 2, none⟩ (.int .i64 (C1 : Int))) := ((HX.out.trans (HB5.out.mono (by omega))).setCell (p := ⟨w1.heap.size, 3, none⟩) (Nat.le_refl _) _).setCell (p := ⟨w1.heap.size, 2, none⟩) (Nat.le_refl _) _
  have hna : ∀ ad, na = some ad → w1.heap.size + 1 ≤ ad.block := fun ad e => by
    subst e
    exact (HO5.out.inside ad.block rfl).1
  have hrX : RowB ((w5.setCell ⟨w1.heap.size, 3, none⟩ (.slice na (y.bs.length + zs.length) nc)).setCell ⟨w1.heap.size, 2, none⟩ (.int .i64 (C1 : Int))) na (y.bs ++ zs) := HR5.out.1.keep (by simp) fun ad e _ => by
    have := hna ad e
    rw [Below.heap_setCell _ _ _ _ (by simp only; omega), Below.heap_setCell _ _ _ _ (by simp only; omega)]
  have hlB := HR5.out.2.1
  have hlN := HR5.out.2.2
  rw [List.length_append] at hlB hlN
  have hcall := withD (c := c) (am := am) (HD1.out.below hbX) (fun b hb => by have := HF.out b hb; have := hbX.size; omega) I HI.out y' HOK.out na nc (by rw [HY'.out]; simp only; rw [HNN.out]; exact hrX) (.inr fun ad e hx => by have := HF.out _ hx; have := hna ad e; omega) (by rw [HY'.out]; simp only; rw [HNL.out]; exact hlB) (by rw [HY'.out]; simp only; rw [HNL.out]; exact hlN)
  unfold valA at hcall
  rw [HY'.out] at hcall
  simp only [HNL.out] at hcall
  rw [← HY'.out] at hcall
  refine hcall.mono ?_
  rintro e w6 ⟨v, rfl, ⟨a6, c6', rfl, hD6⟩, hb6⟩
  have hb6' := hbw.trans ((hbX.trans (hb6.mono hbX.size)).mono hbw.size)
  have hZ6 := ((hbX.trans (hb6.mono hbX.size)).block _ hl1).trans HZ.out
  have z0 := cell_of_row _ _ 0 _ _ _ hZ6
  have z1 := cell_of_row _ _ 1 _ _ _ hZ6
  have f0 := frozen_of_row _ _ 0 _ _ hZ6
  have f1 := frozen_of_row _ _ 1 _ _ hZ6
  simp only [List.getElem?_toArray, List.getElem?_cons_zero, List.getElem?_cons_succ] at z0 z1
  have HD6 := hide_it hD6
  have HB6 := hide_it hb6'
  clear hcall hZ6 hD6 hb6 hb6' hbX hrX hna hlB hlN
  go_wp2_with fail
  have hch : Chg (fun b => F b ∨ b = w.heap.size + 1) w6 ((w6.setCell ⟨w.heap.size + 1, 0, none⟩ (.slice a6 n c6')).setCell ⟨w.heap.size + 1, 1, none⟩ (.bool am)) := ((Chg.refl _ w6).setCell _ _ (fun _ => .inr rfl)).setCell _ _ (fun _ => .inr rfl)
  exact bodyPost_ret (v := .tuple #[valD a6 n c6' am, .int .i64 0]) (by simp [results, Try.results52, go_sem, z0, z1]) rfl ⟨_, rfl, ⟨_, _, rfl, (HD6.out.chg hch).anti (fun b hb => .inl hb)⟩, (HB6.out.setCell (p := ⟨w.heap.size + 1, 0, none⟩) (by simp) _).setCell (p := ⟨w.heap.size + 1, 1, none⟩) (by simp) _⟩
end

end Go.Proofs.Ytdodnegdpdhbiaa

namespace Go.Proofs.Ytdodnegdpdhbiaa
open Go.RowKit

section
variable {w : World} {F : Nat → Prop} {a : Option Addr} {n c : Nat} {am : Bool} {s : Nat → Pt}
set_option maxRecDepth 100000 in
set_option maxHeartbeats 1600000 in
theorem cutR_out (h : Dd w F a n s) (I A : Int) (hi : inD n I = true) (hE : dnR am n s I = 0) (hr : A < ((s I.toNat).B : Int) ∨ ((s I.toNat).B : Int) + ((s I.toNat).bs.length : Int) < A) : Calls Try.prog 54 #[valD a n c am, .int .i64 I, .int .i64 A] w fun e w' => ∃ v, e = .returned (.tuple #[v, .int .i64 70]) ∧ NewD w F n am s v w' := by
  have hb0 : Below w.heap.size w ((w.alloc (.cells #[.slice a n c, .bool am] 45)).alloc (.cells #[.slice none 0 0, .bool false] 45)) := ((Below.refl _ _).alloc (Nat.le_refl _) _).alloc (by simp) _
  have hh := downR (c := c) (am := am) (h.below hb0) I
  rw [hE] at hh
  obtain ⟨i1, i2⟩ := inD_iff hi
  have x1 : 0 ≤ I := by omega
  have x2 : I < (n : Int) := by omega
  have hok := h.ok I.toNat i2
  have hd := hide_it h
  clear h i1 hE hi
  obtain ⟨y, hy⟩ : ∃ y, y = s I.toNat := ⟨_, rfl⟩
  rw [← hy] at hok hr
  have HY := hide_it hy
  clear hy
  have hro := hok.room
  have hle := hok.le
  have hw1 : IntKind.i64.wrap ((y.B : Int) + (y.bs.length : Int)) = ((y.B + y.bs.length : Nat) : Int) := by rw [IntKind.wrap_i64]; omega
  obtain ⟨P2, hP2⟩ : ∃ p, p = y.B + y.bs.length := ⟨_, rfl⟩
  rw [← hP2] at hw1
  have hr' : A < (y.B : Int) ∨ (¬ A < (y.B : Int) ∧ (P2 : Int) < A) := by omega
  clear hok hro hle hP2 hr
  go_enter Try.func54, Try.ntmps54
  go_wp2_with fail
  refine hh.mono ?_
  rintro e w1 ⟨rfl, hb1⟩
  have hbw := hb0.trans (hb1.mono hb0.size)
  obtain ⟨hB, hZ⟩ := box2 w a n c am (by simpa using hb1)
  have hls : w.heap.size + 1 + 1 ≤ w1.heap.size := by simpa using hb1.size
  have hl0 : w.heap.size < w1.heap.size := by omega
  have hl1 : w.heap.size + 1 < w1.heap.size := by omega
  have d0 := cell_of_row _ _ 0 _ _ _ hB
  have d1 := cell_of_row _ _ 1 _ _ _ hB
  have z0 := cell_of_row _ _ 0 _ _ _ hZ
  have z1 := cell_of_row _ _ 1 _ _ _ hZ
  have f0 := frozen_of_row _ _ 0 _ _ hZ
  have f1 := frozen_of_row _ _ 1 _ _ hZ
  simp only [List.getElem?_toArray, List.getElem?_cons_zero, List.getElem?_cons_succ] at d0 d1 z0 z1
  obtain ⟨b, o, hab, hbl, _, hrr⟩ := (hd.out.below hbw).row
  subst hab
  obtain ⟨ra, rc, hv, _⟩ := hrr I.toNat i2
  rw [← HY.out] at hv
  obtain ⟨c0, c1, c2, c3, c4, c5, c6⟩ := hv
  have hfin0 := (hbw.setCell (p := ⟨w.heap.size + 1, 0, none⟩) (by simp) (.slice (some ⟨b, o, none⟩) n c)).setCell (p := ⟨w.heap.size + 1, 1, none⟩) (by simp) (.bool am)
  have hfin := hfin0.alloc hfin0.size (.cells #[.int .i64 (y.B : Int), .int .i64 (y.k : Int), .int .i64 (y.c : Int), .slice ra y.bs.length rc, .int .i64 y.fd, .int .i64 y.fk, .int .u8 (y.ft : Int)] 108)
  have HQ := hide_it hfin
  clear hh hB hZ hrr hb1 hfin hfin0
  rcases hr' with h1 | ⟨h1, h2⟩
  · go_wp2_with fail
    exact bodyPost_ret (v := .tuple #[valD (some ⟨b, o, none⟩) n c am, .int .i64 70]) (by simp [results, Try.results54, go_sem, z0, z1, hl1]) rfl ⟨_, rfl, ⟨_, _, rfl, hd.out.below HQ.out⟩, HQ.out⟩
  · go_wp2_with fail
    exact bodyPost_ret (v := .tuple #[valD (some ⟨b, o, none⟩) n c am, .int .i64 70]) (by simp [results, Try.results54, go_sem, z0, z1, hl1]) rfl ⟨_, rfl, ⟨_, _, rfl, hd.out.below HQ.out⟩, HQ.out⟩
set_option maxRecDepth 100000 in
set_option maxHeartbeats 1600000 in
theorem trimR_out (h : Dd w F a n s) (I A : Int) (hi : inD n I = true) (hE : dnR am n s I = 0) (hr : A < ((s I.toNat).B : Int) ∨ ((s I.toNat).B : Int) + ((s I.toNat).k : Int) < A) : Calls Try.prog 55 #[valD a n c am, .int .i64 I, .int .i64 A] w fun e w' => ∃ v, e = .returned (.tuple #[v, .int .i64 70]) ∧ NewD w F n am s v w' := by
  have hb0 : Below w.heap.size w ((w.alloc (.cells #[.slice a n c, .bool am] 45)).alloc (.cells #[.slice none 0 0, .bool false] 45)) := ((Below.refl _ _).alloc (Nat.le_refl _) _).alloc (by simp) _
  have hh := downR (c := c) (am := am) (h.below hb0) I
  rw [hE] at hh
  obtain ⟨i1, i2⟩ := inD_iff hi
  have x1 : 0 ≤ I := by omega
  have x2 : I < (n : Int) := by omega
  have hok := h.ok I.toNat i2
  have hd := hide_it h
  clear h i1 hE hi
  obtain ⟨y, hy⟩ : ∃ y, y = s I.toNat := ⟨_, rfl⟩
  rw [← hy] at hok hr
  have HY := hide_it hy
  clear hy
  have hro := hok.room
  have hle := hok.le
  have hw1 : IntKind.i64.wrap ((y.B : Int) + (y.k : Int)) = ((y.B + y.k : Nat) : Int) := by rw [IntKind.wrap_i64]; omega
  obtain ⟨P2, hP2⟩ : ∃ p, p = y.B + y.k := ⟨_, rfl⟩
  rw [← hP2] at hw1
  have hr' : A < (y.B : Int) ∨ (¬ A < (y.B : Int) ∧ (P2 : Int) < A) := by omega
  clear hok hro hle hP2 hr
  go_enter Try.func55, Try.ntmps55
  go_wp2_with fail
  refine hh.mono ?_
  rintro e w1 ⟨rfl, hb1⟩
  have hbw := hb0.trans (hb1.mono hb0.size)
  obtain ⟨hB, hZ⟩ := box2 w a n c am (by simpa using hb1)
  have hls : w.heap.size + 1 + 1 ≤ w1.heap.size := by simpa using hb1.size
  have hl0 : w.heap.size < w1.heap.size := by omega
  have hl1 : w.heap.size + 1 < w1.heap.size := by omega
  have d0 := cell_of_row _ _ 0 _ _ _ hB
  have d1 := cell_of_row _ _ 1 _ _ _ hB
  have z0 := cell_of_row _ _ 0 _ _ _ hZ
  have z1 := cell_of_row _ _ 1 _ _ _ hZ
  have f0 := frozen_of_row _ _ 0 _ _ hZ
  have f1 := frozen_of_row _ _ 1 _ _ hZ
  simp only [List.getElem?_toArray, List.getElem?_cons_zero, List.getElem?_cons_succ] at d0 d1 z0 z1
  obtain ⟨b, o, hab, hbl, _, hrr⟩ := (hd.out.below hbw).row
  subst hab
  obtain ⟨ra, rc, hv, _⟩ := hrr I.toNat i2
  rw [← HY.out] at hv
  obtain ⟨c0, c1, c2, c3, c4, c5, c6⟩ := hv
  have hfin0 := (hbw.setCell (p := ⟨w.heap.size + 1, 0, none⟩) (by simp) (.slice (some ⟨b, o, none⟩) n c)).setCell (p := ⟨w.heap.size + 1, 1, none⟩) (by simp) (.bool am)
  have hfin := hfin0.alloc hfin0.size (.cells #[.int .i64 (y.B : Int), .int .i64 (y.k : Int), .int .i64 (y.c : Int), .slice ra y.bs.length rc, .int .i64 y.fd, .int .i64 y.fk, .int .u8 (y.ft : Int)] 108)
  have HQ := hide_it hfin
  clear hh hB hZ hrr hb1 hfin hfin0
  rcases hr' with h1 | ⟨h1, h2⟩
  · go_wp2_with fail
    exact bodyPost_ret (v := .tuple #[valD (some ⟨b, o, none⟩) n c am, .int .i64 70]) (by simp [results, Try.results55, go_sem, z0, z1, hl1]) rfl ⟨_, rfl, ⟨_, _, rfl, hd.out.below HQ.out⟩, HQ.out⟩
  · go_wp2_with fail
    exact bodyPost_ret (v := .tuple #[valD (some ⟨b, o, none⟩) n c am, .int .i64 70]) (by simp [results, Try.results55, go_sem, z0, z1, hl1]) rfl ⟨_, rfl, ⟨_, _, rfl, hd.out.below HQ.out⟩, HQ.out⟩
end

end Go.Proofs.Ytdodnegdpdhbiaa

namespace Go.Proofs.Ytdodnegdpdhbiaa
open Go.RowKit

theorem rowB_take {w : World} {ra : Option Addr} {bs : List Nat} (h : RowB w ra bs) (j : Nat) : RowB w ra (bs.take j) := by
  by_cases h0 : (bs.take j).length = 0
  · exact .inl h0
  · obtain ⟨b, o, rfl, hb, hc⟩ := h.here (i := 0) (by rw [List.length_take] at h0; omega)
    refine .inr ⟨b, o, rfl, hb, fun i hi => ?_⟩
    have hi' : i < j ∧ i < bs.length := by rw [List.length_take] at hi; omega
    rw [hc i hi'.2]
    unfold at0
    rw [List.getD_eq_getElem?_getD, List.getD_eq_getElem?_getD, List.getElem?_take_of_lt hi'.1]

section
variable {F : Nat → Prop} {a : Option Addr} {n c : Nat} {am : Bool} {s : Nat → Pt}
/-- 'with' of an area that a call has laid down in memory of its own, behind X. -/
theorem withX {w1 X : World} (hd : Dd w1 F a n s) (hF : ∀ b, F b → b < w1.heap.size) (hX : Below w1.heap.size w1 X) (I : Int) (hi : inD n I = true) (y' : Pt) (hok : PtOk y') (na : Option Addr) (nc : Nat) (hr : RowB X na y'.bs) (hna : ∀ ad, na = some ad → w1.heap.size ≤ ad.block) (hlB : y'.bs.length ≤ nc) (hlN : na = none → y'.bs.length = 0 ∧ nc = 0)
    {B k C fd fk ft : Int} {j : Nat} (e1 : (y'.B : Int) = B) (e2 : (y'.k : Int) = k) (e3 : (y'.c : Int) = C) (e4 : y'.bs.length = j) (e5 : y'.fd = fd) (e6 : y'.fk = fk) (e7 : (y'.ft : Int) = ft) :
    Calls Try.prog 81 #[valD a n c am, .int .i64 I, .agg #[.int .i64 B, .int .i64 k, .int .i64 C, .slice na j nc, .int .i64 fd, .int .i64 fk, .int .u8 ft]] X fun e w' => ∃ a6 c6, e = .returned (valD a6 n c6 am) ∧ Dd w' F a6 n (upd s I.toNat y') ∧ Below w1.heap.size w1 w' := by
  have h := withD (c := c) (am := am) (hd.below hX) (fun b hb => by have := hF b hb; have := hX.size; omega) I hi y' hok na nc hr (.inr fun ad e hx => by have := hF _ hx; have := hna ad e; omega) hlB hlN
  unfold valA at h
  subst e1 e2 e3 e4 e5 e6 e7
  refine h.mono ?_
  rintro e w6 ⟨v, rfl, ⟨a6, c6, rfl, hD6⟩, hb6⟩
  exact ⟨_, _, rfl, hD6, hX.trans (hb6.mono hX.size)⟩
end

theorem far_own {w5 : World} {p0 j nc : Nat} {na : Option Addr} {N1 : List Nat} (h : OwB w5 (p0 + 1) (.slice na j nc) N1) (_ : N1.length = j) : ∀ ad, na = some ad → p0 + 1 ≤ ad.block := fun ad e => by
  subst e
  exact (h.inside ad.block rfl).1
theorem row_set2 {w5 : World} {p0 i1 i2 : Nat} {v1 v2 : Value} {na : Option Addr} {N1 : List Nat} (h : RowB w5 na N1) (hf : ∀ ad, na = some ad → p0 + 1 ≤ ad.block) : RowB ((w5.setCell ⟨p0, i1, none⟩ v1).setCell ⟨p0, i2, none⟩ v2) na N1 := h.keep (by simp) fun ad e _ => by
  have := hf ad e
  rw [Below.heap_setCell _ _ _ _ (by simp only; omega), Below.heap_setCell _ _ _ _ (by simp only; omega)]
theorem row_set3 {w5 : World} {p0 i1 i2 i3 : Nat} {v1 v2 v3 : Value} {na : Option Addr} {N1 : List Nat} (h : RowB w5 na N1) (hf : ∀ ad, na = some ad → p0 + 1 ≤ ad.block) : RowB (((w5.setCell ⟨p0, i1, none⟩ v1).setCell ⟨p0, i2, none⟩ v2).setCell ⟨p0, i3, none⟩ v3) na N1 := by
  refine (row_set2 (i1 := i1) (i2 := i2) (v1 := v1) (v2 := v2) h hf).keep (by simp) fun ad e _ => ?_
  have := hf ad e
  rw [Below.heap_setCell _ _ _ _ (by simp only; omega)]

section
variable {w : World} {F : Nat → Prop} {a : Option Addr} {n c : Nat} {am : Bool} {s : Nat → Pt}
set_option maxRecDepth 100000 in
set_option maxHeartbeats 1600000 in
theorem cutR_ok (h : Dd w F a n s) (hF : ∀ b, F b → b < w.heap.size) (I A : Int) (j : Nat) (hi : inD n I = true) (hE : dnR am n s I = 0) (hct : (s I.toNat).c + 1 ≤ 4611686018427387904) (hA : A = ((s I.toNat).B : Int) + (j : Int)) (hj : j ≤ (s I.toNat).bs.length) : Calls Try.prog 54 #[valD a n c am, .int .i64 I, .int .i64 A] w fun e w' => ∃ v, e = .returned (.tuple #[v, .int .i64 0]) ∧ NewD w F n am (upd s I.toNat { s I.toNat with bs := (s I.toNat).bs.take j, k := min (s I.toNat).k j, c := (s I.toNat).c + 1 }) v w' := by
  have hb0 : Below w.heap.size w ((w.alloc (.cells #[.slice a n c, .bool am] 45)).alloc (.cells #[.slice none 0 0, .bool false] 45)) := ((Below.refl _ _).alloc (Nat.le_refl _) _).alloc (by simp) _
  have hh := downR (c := c) (am := am) (h.below hb0) I
  rw [hE] at hh
  obtain ⟨i1, i2⟩ := inD_iff hi
  have x1 : 0 ≤ I := by omega
  have x2 : I < (n : Int) := by omega
  have hok := h.ok I.toNat i2
  have hd := hide_it (h.beside (w.heap.size + 1) (by omega))
  have HI := hide_it hi
  have HF : Hid (∀ b, (F b ∨ b = w.heap.size + 1) → b < w.heap.size + 1 + 1) := hide_it fun b hb => by
    rcases hb with hb | hb
    · have := hF b hb; omega
    · omega
  clear h i1 hE hi hF
  obtain ⟨y, hy⟩ : ∃ y, y = s I.toNat := ⟨_, rfl⟩
  rw [← hy] at hok hct hA hj
  rw [← hy]
  have HY := hide_it hy
  clear hy
  have hw1 : IntKind.i64.wrap ((y.c : Int) + 1) = ((y.c + 1 : Nat) : Int) := by rw [IntKind.wrap_i64]; omega
  obtain ⟨C1, hC1⟩ : ∃ C, C = y.c + 1 := ⟨_, rfl⟩
  obtain ⟨N1, hN1⟩ : ∃ N, N = y.bs.take j := ⟨_, rfl⟩
  have hNl : N1.length = j := by rw [hN1]; simp; omega
  obtain ⟨K1, hK1⟩ : ∃ K, K = min y.k j := ⟨_, rfl⟩
  have hro := hok.room
  have hle := hok.len
  have hw2 : IntKind.i64.wrap ((y.B : Int) + (y.bs.length : Int)) = ((y.B + y.bs.length : Nat) : Int) := by rw [IntKind.wrap_i64]; omega
  obtain ⟨P2, hP2⟩ : ∃ p, p = y.B + y.bs.length := ⟨_, rfl⟩
  rw [← hP2] at hw2
  have hw4 : IntKind.i64.wrap (A - (y.B : Int)) = (j : Int) := by rw [IntKind.wrap_i64]; omega
  have h2 : ¬ A < (y.B : Int) := by omega
  have h3 : ¬ (P2 : Int) < A := by omega
  have hjl : Hid (j ≤ 211106232532800) := hide_it (by omega)
  rw [← hC1] at hw1 hct
  rw [← hC1, ← hN1, ← hK1]
  obtain ⟨y', hy'⟩ : ∃ z : Pt, z = { y with bs := N1, k := K1, c := C1 } := ⟨_, rfl⟩
  rw [← hy']
  have HOK : Hid (PtOk y') := hide_it (by rw [hy']; exact ⟨by simp only; omega, (fun z hz => by rw [hN1] at hz; exact hok.all z (List.mem_of_mem_take hz)), by simp only; omega, by simp only; omega, hct, hok.ft⟩)
  have HNN := hide_it hN1
  have HNL := hide_it hNl
  have HY' := hide_it hy'
  have HK := hide_it hK1
  have HJ := hide_it hj
  clear hok hC1 hct hN1 hNl hy' hro hle hP2 hA hK1
  go_enter Try.func54, Try.ntmps54
  go_wp2_with fail
  refine hh.mono ?_
  rintro e w1 ⟨rfl, hb1⟩
  have hbw := hb0.trans (hb1.mono hb0.size)
  obtain ⟨hB, hZ⟩ := box2 w a n c am (by simpa using hb1)
  have hls : w.heap.size + 1 + 1 ≤ w1.heap.size := by simpa using hb1.size
  have hl0 : w.heap.size < w1.heap.size := by omega
  have hl1 : w.heap.size + 1 < w1.heap.size := by omega
  have d0 := cell_of_row _ _ 0 _ _ _ hB
  have d1 := cell_of_row _ _ 1 _ _ _ hB
  simp only [List.getElem?_toArray, List.getElem?_cons_zero, List.getElem?_cons_succ] at d0 d1
  have HD1 := hide_it (hd.out.below hbw)
  have HBD := hide_it hB
  obtain ⟨b, o, hab, hbl, _, hrr⟩ := (hd.out.below hbw).row
  subst hab
  obtain ⟨ra, rc, hv, hrow, hfar, hrc, hnil⟩ := hrr I.toNat i2
  rw [← HY.out] at hv hrow hfar hrc hnil
  obtain ⟨c0, c1, c2, c3, c4, c5, c6⟩ := hv
  have HX : Hid (Below w1.heap.size w1 (w1.alloc (.cells #[.int .i64 (y.B : Int), .int .i64 (y.k : Int), .int .i64 (y.c : Int), .slice ra y.bs.length rc, .int .i64 y.fd, .int .i64 y.fk, .int .u8 (y.ft : Int)] 108))) := hide_it ((Below.refl _ _).alloc (Nat.le_refl _) _)
  have HRA : Hid (RowB ((w1.alloc (.cells #[.int .i64 (y.B : Int), .int .i64 (y.k : Int), .int .i64 (y.c : Int), .slice ra y.bs.length rc, .int .i64 y.fd, .int .i64 y.fk, .int .u8 (y.ft : Int)] 108)).alloc (.cells #[] 5)) ra N1) := hide_it (RowB.below (by rw [HNN.out]; exact rowB_take hrow j) (((Below.refl _ _).alloc (Nat.le_refl _) _).alloc (by simp) _))
  have hE := owb_empty (w1.alloc (.cells #[.int .i64 (y.B : Int), .int .i64 (y.k : Int), .int .i64 (y.c : Int), .slice ra y.bs.length rc, .int .i64 y.fd, .int .i64 y.fk, .int .u8 (y.ft : Int)] 108))
  rw [World.size_alloc] at hE
  have HE := hide_it hE
  have HRW := hide_it (And.intro hrow (And.intro hfar (And.intro hrc hnil)))
  have HZ := hide_it hZ
  clear hh hB hZ hrr hb1 hrow hfar hrc hnil hd hE
  have hjc : j ≤ rc := by have := HRW.out.2.2.1; omega
  go_wp2_with (at_builtin; refine wpList_appendB _ rfl _ _ rfl (w1.heap.size + 1) _ [] rfl HE.out ra rc N1 (by rw [HNL.out]; rfl) HRA.out (fun e => by have := HRW.out.2.2.2 e; have := HJ.out; rw [HNL.out]; omega) (by have := hjl.out; have := HNL.out; simp; omega) (by simp) ?_; intro v5 w5 hown5 hg5 hat5; rw [List.nil_append] at hown5; have hb5 : Below (w1.heap.size + 1) (w1.alloc (.cells #[.int .i64 (y.B : Int), .int .i64 (y.k : Int), .int .i64 (y.c : Int), .slice ra y.bs.length rc, .int .i64 y.fd, .int .i64 y.fk, .int .u8 (y.ft : Int)] 108)) w5 := ((Below.refl _ _).alloc (by simp) _).grown hg5 (by simp) (fun k e => by have e2 : some (w1.heap.size + 1) = some k := e; have := Option.some.inj e2; omega); obtain ⟨na, nc, hv5, hrow5, hnc5, _, hnn5⟩ := hown5.row; rw [HNL.out] at hv5; subst hv5; have hs5 := hb5.size; rw [World.size_alloc] at hs5; have hA5 := (hb5.block w1.heap.size (by omega)).trans (heap_alloc_new w1 _); have hD5 := (hb5.block w.heap.size (by omega)).trans ((Below.heap_alloc w1 _ _ hl0).trans HBD.out); have HA5 := hide_it hA5; have p0 := cell_of_row _ _ 0 _ _ _ hA5; have p1 := cell_of_row _ _ 1 _ _ _ hA5; have p2 := cell_of_row _ _ 2 _ _ _ hA5; have p3 := cell_of_row _ _ 3 _ _ _ hA5; have p4 := cell_of_row _ _ 4 _ _ _ hA5; have p5 := cell_of_row _ _ 5 _ _ _ hA5; have p6 := cell_of_row _ _ 6 _ _ _ hA5; have q1 := frozen_of_row _ _ 1 _ _ hA5; have q2 := frozen_of_row _ _ 2 _ _ hA5; have q3 := frozen_of_row _ _ 3 _ _ hA5; have d0' := cell_of_row _ _ 0 _ _ _ hD5; have d1' := cell_of_row _ _ 1 _ _ _ hD5; simp only [List.getElem?_toArray, List.getElem?_cons_zero, List.getElem?_cons_succ] at d0' d1' p0 p1 p2 p3 p4 p5 p6; have HO5 := hide_it hown5; have HB5 := hide_it hb5; have HR5 := hide_it (And.intro hrow5 (And.intro hnc5 hnn5)); clear hown5 hg5 hat5 hb5 hrow5 hnc5 hnn5 hA5 hD5)
  · have hKe : K1 = j := by rw [HK.out]; omega
    have hs1 : w1.heap.size ≤ w1.heap.size + 1 := Nat.le_succ _
    have hna := far_own HO5.out HNL.out
    have hcall := withX (c := c) (am := am) (X := ((w5.setCell ⟨w1.heap.size, 3, none⟩ (.slice na j nc)).setCell ⟨w1.heap.size, 1, none⟩ (.int .i64 (j : Int))).setCell ⟨w1.heap.size, 2, none⟩ (.int .i64 (C1 : Int))) HD1.out (fun b hb => Nat.lt_of_lt_of_le (HF.out b hb) hls) ((((HX.out.trans (HB5.out.mono hs1)).setCell (p := ⟨w1.heap.size, 3, none⟩) (Nat.le_refl _) _).setCell (p := ⟨w1.heap.size, 1, none⟩) (Nat.le_refl _) _).setCell (p := ⟨w1.heap.size, 2, none⟩) (Nat.le_refl _) _) I HI.out y' HOK.out na nc (by rw [HY'.out]; exact row_set3 HR5.out.1 hna) (fun ad e => Nat.le_of_succ_le (hna ad e)) (by rw [HY'.out]; exact HR5.out.2.1) (by rw [HY'.out]; exact HR5.out.2.2) (B := (y.B : Int)) (k := (j : Int)) (C := (C1 : Int)) (j := j) (fd := y.fd) (fk := y.fk) (ft := (y.ft : Int)) (by rw [HY'.out]) (by rw [HY'.out, ← hKe]) (by rw [HY'.out]) (by rw [HY'.out]; exact HNL.out) (by rw [HY'.out]) (by rw [HY'.out]) (by rw [HY'.out])
    clear hKe hna hs1 HO5 HB5 HR5 HA5 HX HRA HE HRW HBD HD1 HOK HY HI HNN HNL HK HJ hjl
    refine hcall.mono ?_
    rintro e w6 ⟨a6, c6', rfl, hD6, hb6⟩
    have hb6' := hbw.trans (hb6.mono hbw.size)
    have hZ6 := (hb6.block _ hl1).trans HZ.out
    have z0 := cell_of_row _ _ 0 _ _ _ hZ6
    have z1 := cell_of_row _ _ 1 _ _ _ hZ6
    have f0 := frozen_of_row _ _ 0 _ _ hZ6
    have f1 := frozen_of_row _ _ 1 _ _ hZ6
    simp only [List.getElem?_toArray, List.getElem?_cons_zero, List.getElem?_cons_succ] at z0 z1
    have HD6 := hide_it hD6
    have HB6 := hide_it hb6'
    clear hcall hZ6 hD6 hb6 hb6' hbw HZ
    go_wp2_with fail
    have hch : Chg (fun b => F b ∨ b = w.heap.size + 1) w6 ((w6.setCell ⟨w.heap.size + 1, 0, none⟩ (.slice a6 n c6')).setCell ⟨w.heap.size + 1, 1, none⟩ (.bool am)) := ((Chg.refl _ w6).setCell _ _ (fun _ => .inr rfl)).setCell _ _ (fun _ => .inr rfl)
    exact bodyPost_ret (v := .tuple #[valD a6 n c6' am, .int .i64 0]) (by simp [results, Try.results54, go_sem, z0, z1]) rfl ⟨_, rfl, ⟨_, _, rfl, (HD6.out.chg hch).anti (fun b hb => .inl hb)⟩, (HB6.out.setCell (p := ⟨w.heap.size + 1, 0, none⟩) (by simp) _).setCell (p := ⟨w.heap.size + 1, 1, none⟩) (by simp) _⟩
  · have hKe : K1 = y.k := by rw [HK.out]; omega
    have hs1 : w1.heap.size ≤ w1.heap.size + 1 := Nat.le_succ _
    have hna := far_own HO5.out HNL.out
    have hcall := withX (c := c) (am := am) (X := (w5.setCell ⟨w1.heap.size, 3, none⟩ (.slice na j nc)).setCell ⟨w1.heap.size, 2, none⟩ (.int .i64 (C1 : Int))) HD1.out (fun b hb => Nat.lt_of_lt_of_le (HF.out b hb) hls) (((HX.out.trans (HB5.out.mono hs1)).setCell (p := ⟨w1.heap.size, 3, none⟩) (Nat.le_refl _) _).setCell (p := ⟨w1.heap.size, 2, none⟩) (Nat.le_refl _) _) I HI.out y' HOK.out na nc (by rw [HY'.out]; exact row_set2 HR5.out.1 hna) (fun ad e => Nat.le_of_succ_le (hna ad e)) (by rw [HY'.out]; exact HR5.out.2.1) (by rw [HY'.out]; exact HR5.out.2.2) (B := (y.B : Int)) (k := (y.k : Int)) (C := (C1 : Int)) (j := j) (fd := y.fd) (fk := y.fk) (ft := (y.ft : Int)) (by rw [HY'.out]) (by rw [HY'.out, ← hKe]) (by rw [HY'.out]) (by rw [HY'.out]; exact HNL.out) (by rw [HY'.out]) (by rw [HY'.out]) (by rw [HY'.out])
    clear hKe hna hs1 HO5 HB5 HR5 HA5 HX HRA HE HRW HBD HD1 HOK HY HI HNN HNL HK HJ hjl
    refine hcall.mono ?_
    rintro e w6 ⟨a6, c6', rfl, hD6, hb6⟩
    have hb6' := hbw.trans (hb6.mono hbw.size)
    have hZ6 := (hb6.block _ hl1).trans HZ.out
    have z0 := cell_of_row _ _ 0 _ _ _ hZ6
    have z1 := cell_of_row _ _ 1 _ _ _ hZ6
    have f0 := frozen_of_row _ _ 0 _ _ hZ6
    have f1 := frozen_of_row _ _ 1 _ _ hZ6
    simp only [List.getElem?_toArray, List.getElem?_cons_zero, List.getElem?_cons_succ] at z0 z1
    have HD6 := hide_it hD6
    have HB6 := hide_it hb6'
    clear hcall hZ6 hD6 hb6 hb6' hbw HZ
    go_wp2_with fail
    have hch : Chg (fun b => F b ∨ b = w.heap.size + 1) w6 ((w6.setCell ⟨w.heap.size + 1, 0, none⟩ (.slice a6 n c6')).setCell ⟨w.heap.size + 1, 1, none⟩ (.bool am)) := ((Chg.refl _ w6).setCell _ _ (fun _ => .inr rfl)).setCell _ _ (fun _ => .inr rfl)
    exact bodyPost_ret (v := .tuple #[valD a6 n c6' am, .int .i64 0]) (by simp [results, Try.results54, go_sem, z0, z1]) rfl ⟨_, rfl, ⟨_, _, rfl, (HD6.out.chg hch).anti (fun b hb => .inl hb)⟩, (HB6.out.setCell (p := ⟨w.heap.size + 1, 0, none⟩) (by simp) _).setCell (p := ⟨w.heap.size + 1, 1, none⟩) (by simp) _⟩
end

end Go.Proofs.Ytdodnegdpdhbiaa

namespace Go.Proofs.Ytdodnegdpdhbiaa
open Go.RowKit

theorem rowB_drop {w : World} {ra : Option Addr} {bs : List Nat} {rc : Nat} (h : RowB w ra bs) (hc : bs.length ≤ rc) (j : Nat) (hj : j ≤ bs.length) : RowB w (if rc = j then ra else ra.map (·.add j)) (bs.drop j) := by
  have h1 := RowB.piece h hc j (bs.length - j) (by omega)
  rwa [show j + (bs.length - j) = bs.length by omega, List.take_length] at h1
theorem row_set4 {w5 : World} {p0 i1 i2 i3 i4 : Nat} {v1 v2 v3 v4 : Value} {na : Option Addr} {N1 : List Nat} (h : RowB w5 na N1) (hf : ∀ ad, na = some ad → p0 + 1 ≤ ad.block) : RowB ((((w5.setCell ⟨p0, i1, none⟩ v1).setCell ⟨p0, i2, none⟩ v2).setCell ⟨p0, i3, none⟩ v3).setCell ⟨p0, i4, none⟩ v4) na N1 := by
  refine (row_set3 (i1 := i1) (i2 := i2) (i3 := i3) (v1 := v1) (v2 := v2) (v3 := v3) h hf).keep (by simp) fun ad e _ => ?_
  have := hf ad e
  rw [Below.heap_setCell _ _ _ _ (by simp only; omega)]

section
variable {w : World} {F : Nat → Prop} {a : Option Addr} {n c : Nat} {am : Bool} {s : Nat → Pt}
set_option maxRecDepth 100000 in
set_option maxHeartbeats 1600000 in
theorem trimR_ok (h : Dd w F a n s) (hF : ∀ b, F b → b < w.heap.size) (I A : Int) (j : Nat) (hi : inD n I = true) (hE : dnR am n s I = 0) (hct : (s I.toNat).c + 1 ≤ 4611686018427387904) (hA : A = ((s I.toNat).B : Int) + (j : Int)) (hj : j ≤ (s I.toNat).k) : Calls Try.prog 55 #[valD a n c am, .int .i64 I, .int .i64 A] w fun e w' => ∃ v, e = .returned (.tuple #[v, .int .i64 0]) ∧ NewD w F n am (upd s I.toNat { s I.toNat with B := (s I.toNat).B + j, bs := (s I.toNat).bs.drop j, k := (s I.toNat).k - j, c := (s I.toNat).c + 1 }) v w' := by
  have hb0 : Below w.heap.size w ((w.alloc (.cells #[.slice a n c, .bool am] 45)).alloc (.cells #[.slice none 0 0, .bool false] 45)) := ((Below.refl _ _).alloc (Nat.le_refl _) _).alloc (by simp) _
  have hh := downR (c := c) (am := am) (h.below hb0) I
  rw [hE] at hh
  obtain ⟨i1, i2⟩ := inD_iff hi
  have x1 : 0 ≤ I := by omega
  have x2 : I < (n : Int) := by omega
  have hok := h.ok I.toNat i2
  have hd := hide_it (h.beside (w.heap.size + 1) (by omega))
  have HI := hide_it hi
  have HF : Hid (∀ b, (F b ∨ b = w.heap.size + 1) → b < w.heap.size + 1 + 1) := hide_it fun b hb => by
    rcases hb with hb | hb
    · have := hF b hb; omega
    · omega
  clear h i1 hE hi hF
  obtain ⟨y, hy⟩ : ∃ y, y = s I.toNat := ⟨_, rfl⟩
  rw [← hy] at hok hct hA hj
  rw [← hy]
  have HY := hide_it hy
  clear hy
  have hw1 : IntKind.i64.wrap ((y.c : Int) + 1) = ((y.c + 1 : Nat) : Int) := by rw [IntKind.wrap_i64]; omega
  obtain ⟨C1, hC1⟩ : ∃ C, C = y.c + 1 := ⟨_, rfl⟩
  obtain ⟨N1, hN1⟩ : ∃ N, N = y.bs.drop j := ⟨_, rfl⟩
  have hNl : N1.length = y.bs.length - j := by rw [hN1]; simp
  obtain ⟨K1, hK1⟩ : ∃ K, K = y.k - j := ⟨_, rfl⟩
  obtain ⟨M, hM⟩ : ∃ M, M = y.bs.length - j := ⟨_, rfl⟩
  have hro := hok.room
  have hkl := hok.le
  have hle := hok.len
  have hw2 : IntKind.i64.wrap ((y.B : Int) + (y.k : Int)) = ((y.B + y.k : Nat) : Int) := by rw [IntKind.wrap_i64]; omega
  obtain ⟨P2, hP2⟩ : ∃ p, p = y.B + y.k := ⟨_, rfl⟩
  rw [← hP2] at hw2
  have hw4 : IntKind.i64.wrap (A - (y.B : Int)) = (j : Int) := by rw [IntKind.wrap_i64]; omega
  have hw5 : IntKind.i64.wrap ((y.k : Int) - (j : Int)) = (K1 : Int) := by rw [IntKind.wrap_i64]; omega
  have hjl2 : j ≤ y.bs.length := by omega
  have h2 : ¬ A < (y.B : Int) := by omega
  have h3 : ¬ (P2 : Int) < A := by omega
  have hjl : Hid (y.bs.length ≤ 211106232532800) := hide_it (by omega)
  rw [← hC1] at hw1 hct
  rw [← hC1, ← hN1, ← hK1]
  obtain ⟨y', hy'⟩ : ∃ z : Pt, z = { y with B := y.B + j, bs := N1, k := K1, c := C1 } := ⟨_, rfl⟩
  rw [← hy']
  have HOK : Hid (PtOk y') := hide_it (by rw [hy']; exact ⟨by simp only; omega, (fun z hz => by rw [hN1] at hz; exact hok.all z (List.mem_of_mem_drop hz)), by simp only; omega, by simp only; omega, hct, hok.ft⟩)
  have HNN := hide_it hN1
  have HNL := hide_it hNl
  have HY' := hide_it hy'
  have HK := hide_it hK1
  have HJ := hide_it hj
  have HA := hide_it hA
  have HM := hide_it (hNl.trans hM.symm)
  clear hok hC1 hct hN1 hNl hy' hro hle hP2 hA hK1 hkl hj hM
  go_enter Try.func55, Try.ntmps55
  go_wp2_with fail
  refine hh.mono ?_
  rintro e w1 ⟨rfl, hb1⟩
  have hbw := hb0.trans (hb1.mono hb0.size)
  obtain ⟨hB, hZ⟩ := box2 w a n c am (by simpa using hb1)
  have hls : w.heap.size + 1 + 1 ≤ w1.heap.size := by simpa using hb1.size
  have hl0 : w.heap.size < w1.heap.size := by omega
  have hl1 : w.heap.size + 1 < w1.heap.size := by omega
  have d0 := cell_of_row _ _ 0 _ _ _ hB
  have d1 := cell_of_row _ _ 1 _ _ _ hB
  simp only [List.getElem?_toArray, List.getElem?_cons_zero, List.getElem?_cons_succ] at d0 d1
  have HD1 := hide_it (hd.out.below hbw)
  have HBD := hide_it hB
  obtain ⟨b, o, hab, hbl, _, hrr⟩ := (hd.out.below hbw).row
  subst hab
  obtain ⟨ra, rc, hv, hrow, hfar, hrc, hnil⟩ := hrr I.toNat i2
  rw [← HY.out] at hv hrow hfar hrc hnil
  obtain ⟨c0, c1, c2, c3, c4, c5, c6⟩ := hv
  have hpc := rowB_drop hrow hrc j hjl2
  rw [← HNN.out] at hpc
  have hnil2 : (if rc = j then ra else ra.map (·.add j)) = none → N1.length = 0 ∧ rc - j = 0 := fun e => by
    have hra : ra = none := by
      split at e
      · exact e
      · simpa using e
    have := hnil hra
    rw [HNL.out]
    omega
  obtain ⟨ad, had⟩ : ∃ x, (if rc = j then ra else ra.map (·.add j)) = x := ⟨_, rfl⟩
  rw [had] at hpc hnil2
  have HNI := hide_it hnil2
  clear hnil2
  have HX : Hid (Below w1.heap.size w1 (w1.alloc (.cells #[.int .i64 (y.B : Int), .int .i64 (y.k : Int), .int .i64 (y.c : Int), .slice ra y.bs.length rc, .int .i64 y.fd, .int .i64 y.fk, .int .u8 (y.ft : Int)] 108))) := hide_it ((Below.refl _ _).alloc (Nat.le_refl _) _)
  have HRA : Hid (RowB ((w1.alloc (.cells #[.int .i64 (y.B : Int), .int .i64 (y.k : Int), .int .i64 (y.c : Int), .slice ra y.bs.length rc, .int .i64 y.fd, .int .i64 y.fk, .int .u8 (y.ft : Int)] 108)).alloc (.cells #[] 5)) ad N1) := hide_it (RowB.below hpc (((Below.refl _ _).alloc (Nat.le_refl _) _).alloc (by simp) _))
  have hE := owb_empty (w1.alloc (.cells #[.int .i64 (y.B : Int), .int .i64 (y.k : Int), .int .i64 (y.c : Int), .slice ra y.bs.length rc, .int .i64 y.fd, .int .i64 y.fk, .int .u8 (y.ft : Int)] 108))
  rw [World.size_alloc] at hE
  have HE := hide_it hE
  have HRW := hide_it (And.intro hrow (And.intro hfar (And.intro hrc hnil)))
  have HZ := hide_it hZ
  clear hh hB hZ hrr hb1 hrow hfar hnil hd hE hpc
  go_wp2_with (at_builtin; refine wpList_appendB _ rfl _ _ rfl (w1.heap.size + 1) _ [] rfl HE.out ad (rc - j) N1 (by rw [HNL.out]; rfl) HRA.out HNI.out (by have := hjl.out; have := HNL.out; simp; omega) (by simp) ?_; intro v5 w5 hown5 hg5 hat5; rw [List.nil_append] at hown5; have hb5 : Below (w1.heap.size + 1) (w1.alloc (.cells #[.int .i64 (y.B : Int), .int .i64 (y.k : Int), .int .i64 (y.c : Int), .slice ra y.bs.length rc, .int .i64 y.fd, .int .i64 y.fk, .int .u8 (y.ft : Int)] 108)) w5 := ((Below.refl _ _).alloc (by simp) _).grown hg5 (by simp) (fun k e => by have e2 : some (w1.heap.size + 1) = some k := e; have := Option.some.inj e2; omega); obtain ⟨na, nc, hv5, hrow5, hnc5, _, hnn5⟩ := hown5.row; rw [HM.out] at hv5; subst hv5; have hs5 := hb5.size; rw [World.size_alloc] at hs5; have hA5 := (hb5.block w1.heap.size (by omega)).trans (heap_alloc_new w1 _); have hD5 := (hb5.block w.heap.size (by omega)).trans ((Below.heap_alloc w1 _ _ hl0).trans HBD.out); have HA5 := hide_it hA5; have p0 := cell_of_row _ _ 0 _ _ _ hA5; have p1 := cell_of_row _ _ 1 _ _ _ hA5; have p2 := cell_of_row _ _ 2 _ _ _ hA5; have p3 := cell_of_row _ _ 3 _ _ _ hA5; have p4 := cell_of_row _ _ 4 _ _ _ hA5; have p5 := cell_of_row _ _ 5 _ _ _ hA5; have p6 := cell_of_row _ _ 6 _ _ _ hA5; have q0 := frozen_of_row _ _ 0 _ _ hA5; have q1 := frozen_of_row _ _ 1 _ _ hA5; have q2 := frozen_of_row _ _ 2 _ _ hA5; have q3 := frozen_of_row _ _ 3 _ _ hA5; have d0' := cell_of_row _ _ 0 _ _ _ hD5; have d1' := cell_of_row _ _ 1 _ _ _ hD5; simp only [List.getElem?_toArray, List.getElem?_cons_zero, List.getElem?_cons_succ] at d0' d1' p0 p1 p2 p3 p4 p5 p6; have HO5 := hide_it hown5; have HB5 := hide_it hb5; have HR5 := hide_it (And.intro hrow5 (And.intro hnc5 hnn5)); clear hown5 hg5 hat5 hb5 hrow5 hnc5 hnn5 hA5 hD5)
  have hs1 : w1.heap.size ≤ w1.heap.size + 1 := Nat.le_succ _
  have hna := far_own HO5.out HM.out
  have hcall := withX (c := c) (am := am) (X := ((((w5.setCell ⟨w1.heap.size, 3, none⟩ (.slice na M nc)).setCell ⟨w1.heap.size, 1, none⟩ (.int .i64 (K1 : Int))).setCell ⟨w1.heap.size, 0, none⟩ (.int .i64 A)).setCell ⟨w1.heap.size, 2, none⟩ (.int .i64 (C1 : Int)))) HD1.out (fun b hb => Nat.lt_of_lt_of_le (HF.out b hb) hls) (((((HX.out.trans (HB5.out.mono hs1)).setCell (p := ⟨w1.heap.size, 3, none⟩) (Nat.le_refl _) _).setCell (p := ⟨w1.heap.size, 1, none⟩) (Nat.le_refl _) _).setCell (p := ⟨w1.heap.size, 0, none⟩) (Nat.le_refl _) _).setCell (p := ⟨w1.heap.size, 2, none⟩) (Nat.le_refl _) _) I HI.out y' HOK.out na nc (by rw [HY'.out]; exact row_set4 HR5.out.1 hna) (fun ad e => Nat.le_of_succ_le (hna ad e)) (by rw [HY'.out]; exact HR5.out.2.1) (by rw [HY'.out]; exact HR5.out.2.2) (B := A) (k := (K1 : Int)) (C := (C1 : Int)) (j := M) (fd := y.fd) (fk := y.fk) (ft := (y.ft : Int)) (by rw [HY'.out, HA.out]; simp) (by rw [HY'.out]) (by rw [HY'.out]) (by rw [HY'.out]; exact HM.out) (by rw [HY'.out]) (by rw [HY'.out]) (by rw [HY'.out])
  clear hna hs1 HO5 HB5 HR5 HA5 HX HRA HE HRW HBD HD1 HOK HY HI HNN HNL HK HJ hjl HNI HM HA
  refine hcall.mono ?_
  rintro e w6 ⟨a6, c6', rfl, hD6, hb6⟩
  have hb6' := hbw.trans (hb6.mono hbw.size)
  have hZ6 := (hb6.block _ hl1).trans HZ.out
  have z0 := cell_of_row _ _ 0 _ _ _ hZ6
  have z1 := cell_of_row _ _ 1 _ _ _ hZ6
  have f0 := frozen_of_row _ _ 0 _ _ hZ6
  have f1 := frozen_of_row _ _ 1 _ _ hZ6
  simp only [List.getElem?_toArray, List.getElem?_cons_zero, List.getElem?_cons_succ] at z0 z1
  have HD6 := hide_it hD6
  have HB6 := hide_it hb6'
  clear hcall hZ6 hD6 hb6 hb6' hbw HZ
  go_wp2_with fail
  have hch : Chg (fun b => F b ∨ b = w.heap.size + 1) w6 ((w6.setCell ⟨w.heap.size + 1, 0, none⟩ (.slice a6 n c6')).setCell ⟨w.heap.size + 1, 1, none⟩ (.bool am)) := ((Chg.refl _ w6).setCell _ _ (fun _ => .inr rfl)).setCell _ _ (fun _ => .inr rfl)
  exact bodyPost_ret (v := .tuple #[valD a6 n c6' am, .int .i64 0]) (by simp [results, Try.results55, go_sem, z0, z1]) rfl ⟨_, rfl, ⟨_, _, rfl, (HD6.out.chg hch).anti (fun b hb => .inl hb)⟩, (HB6.out.setCell (p := ⟨w.heap.size + 1, 0, none⟩) (by simp) _).setCell (p := ⟨w.heap.size + 1, 1, none⟩) (by simp) _⟩
end

end Go.Proofs.Ytdodnegdpdhbiaa

namespace Go.Proofs.Ytdodnegdpdhbiaa
open Go.RowKit

/-- What an operation of a disk answers and leaves. -/
def opR (am : Bool) (n : Nat) (s : Nat → Pt) (kd : Nat) (I A : Int) (zs : List Nat) : Int × (Nat → Pt) :=
  if inD n I = true then ((opS am (s I.toNat) kd A zs).1, upd s I.toNat (opS am (s I.toNat) kd A zs).2) else (81, s)
section
variable {am : Bool} {n : Nat} {s : Nat → Pt} {I : Int}
theorem opR_out (kd : Nat) (A : Int) (zs : List Nat) (hi : ¬ inD n I = true) : opR am n s kd I A zs = (81, s) := if_neg hi
theorem opR_down (kd : Nat) (A : Int) (zs : List Nat) (hi : inD n I = true) (hd : down am (s I.toNat) = true) : opR am n s kd I A zs = (80, s) := by
  unfold opR opS; rw [if_pos hi, if_pos hd, upd_self]
theorem opR_in (kd : Nat) (A : Int) (zs : List Nat) (hi : inD n I = true) (hd : ¬ down am (s I.toNat) = true) : opR am n s kd I A zs = ((opX (s I.toNat) kd A zs).1, upd s I.toNat (opX (s I.toNat) kd A zs).2) := by
  unfold opR opS; rw [if_pos hi, if_neg hd]
theorem dnR_out (hi : ¬ inD n I = true) : dnR am n s I = 81 := if_neg hi
theorem dnR_down (hi : inD n I = true) (hd : down am (s I.toNat) = true) : dnR am n s I = 80 := by unfold dnR; rw [if_pos hi, if_pos hd]
theorem dnR_in (hi : inD n I = true) (hd : ¬ down am (s I.toNat) = true) : dnR am n s I = 0 := by unfold dnR; rw [if_pos hi, if_neg hd]
end

section
variable {w : World} {F : Nat → Prop} {a : Option Addr} {n c : Nat} {am : Bool} {s : Nat → Pt}
/-- What a call of an operation leaves. -/
def OpTo (w : World) (F : Nat → Prop) (n : Nat) (am : Bool) (r : Int × (Nat → Pt)) (e : Ending) (w' : World) : Prop := ∃ v, e = .returned (.tuple #[v, .int .i64 r.1]) ∧ NewD w F n am r.2 v w'

theorem syncR (h : Dd w F a n s) (hF : ∀ b, F b → b < w.heap.size) (I A : Int) (zs : List Nat) (hct : ∀ i, i < n → (s i).c + 1 ≤ 4611686018427387904) :
    Calls Try.prog 53 #[valD a n c am, .int .i64 I] w fun e w' => OpTo w F n am (opR am n s 1 I A zs) e w' := by
  by_cases hi : inD n I = true
  · by_cases hd : down am (s I.toNat) = true
    · rw [opR_down 1 A zs hi hd]
      have := syncR_no (c := c) h I (am := am) (by rw [dnR_down hi hd]; decide)
      rw [dnR_down hi hd] at this
      exact this
    · rw [opR_in 1 A zs hi hd]
      exact syncR_ok h hF I hi (dnR_in hi hd) (hct _ (inD_iff hi).2)
  · rw [opR_out 1 A zs hi]
    have := syncR_no (c := c) h I (am := am) (by rw [dnR_out hi]; decide)
    rw [dnR_out hi] at this
    exact this
theorem appendR (h : Dd w F a n s) (hF : ∀ b, F b → b < w.heap.size) (I A : Int) (za : Option Addr) (zc : Nat) (zs : List Nat) (hz : RowB w za zs) (hzn : za = none → zs.length = 0 ∧ zc = 0) (h8 : All8 zs) (hct : ∀ i, i < n → (s i).c + 1 ≤ 4611686018427387904) (hlen : ∀ i, i < n → (s i).bs.length + zs.length ≤ 211106232532800) (hroom : ∀ i, i < n → (s i).B + ((s i).bs.length + zs.length) ≤ 9223372036854775807) :
    Calls Try.prog 52 #[valD a n c am, .int .i64 I, .slice za zs.length zc] w fun e w' => OpTo w F n am (opR am n s 0 I A zs) e w' := by
  by_cases hi : inD n I = true
  · by_cases hd : down am (s I.toNat) = true
    · rw [opR_down 0 A zs hi hd]
      have := appendR_no (c := c) h I (.slice za zs.length zc) (am := am) (by rw [dnR_down hi hd]; decide)
      rw [dnR_down hi hd] at this
      exact this
    · rw [opR_in 0 A zs hi hd]
      have hl := (inD_iff hi).2
      exact appendR_ok h hF I za zc zs hz hzn h8 hi (dnR_in hi hd) (hct _ hl) (hlen _ hl) (hroom _ hl)
  · rw [opR_out 0 A zs hi]
    have := appendR_no (c := c) h I (.slice za zs.length zc) (am := am) (by rw [dnR_out hi]; decide)
    rw [dnR_out hi] at this
    exact this
theorem cutR (h : Dd w F a n s) (hF : ∀ b, F b → b < w.heap.size) (I A : Int) (zs : List Nat) (hct : ∀ i, i < n → (s i).c + 1 ≤ 4611686018427387904) :
    Calls Try.prog 54 #[valD a n c am, .int .i64 I, .int .i64 A] w fun e w' => OpTo w F n am (opR am n s 2 I A zs) e w' := by
  by_cases hi : inD n I = true
  · by_cases hd : down am (s I.toNat) = true
    · rw [opR_down 2 A zs hi hd]
      have := cutR_no (c := c) h I A (am := am) (by rw [dnR_down hi hd]; decide)
      rw [dnR_down hi hd] at this
      exact this
    · rw [opR_in 2 A zs hi hd]
      have hX : opX (s I.toNat) 2 A zs = if A < ((s I.toNat).B : Int) ∨ ((s I.toNat).B : Int) + ((s I.toNat).bs.length : Int) < A then (70, s I.toNat) else (0, { s I.toNat with bs := (s I.toNat).bs.take (A - ((s I.toNat).B : Int)).toNat, k := min (s I.toNat).k (A - ((s I.toNat).B : Int)).toNat, c := (s I.toNat).c + 1 }) := rfl
      rw [hX]
      by_cases hr : A < ((s I.toNat).B : Int) ∨ ((s I.toNat).B : Int) + ((s I.toNat).bs.length : Int) < A
      · rw [if_pos hr]
        simp only [upd_self]
        exact cutR_out h I A hi (dnR_in hi hd) hr
      · rw [if_neg hr]
        exact cutR_ok h hF I A (A - ((s I.toNat).B : Int)).toNat hi (dnR_in hi hd) (hct _ (inD_iff hi).2) (by omega) (by omega)
  · rw [opR_out 2 A zs hi]
    have := cutR_no (c := c) h I A (am := am) (by rw [dnR_out hi]; decide)
    rw [dnR_out hi] at this
    exact this
theorem trimR (h : Dd w F a n s) (hF : ∀ b, F b → b < w.heap.size) (I A : Int) (zs : List Nat) (hct : ∀ i, i < n → (s i).c + 1 ≤ 4611686018427387904) :
    Calls Try.prog 55 #[valD a n c am, .int .i64 I, .int .i64 A] w fun e w' => OpTo w F n am (opR am n s 3 I A zs) e w' := by
  by_cases hi : inD n I = true
  · by_cases hd : down am (s I.toNat) = true
    · rw [opR_down 3 A zs hi hd]
      have := trimR_no (c := c) h I A (am := am) (by rw [dnR_down hi hd]; decide)
      rw [dnR_down hi hd] at this
      exact this
    · rw [opR_in 3 A zs hi hd]
      have hX : opX (s I.toNat) 3 A zs = if A < ((s I.toNat).B : Int) ∨ ((s I.toNat).B : Int) + ((s I.toNat).k : Int) < A then (70, s I.toNat) else (0, { s I.toNat with B := (s I.toNat).B + (A - ((s I.toNat).B : Int)).toNat, bs := (s I.toNat).bs.drop (A - ((s I.toNat).B : Int)).toNat, k := (s I.toNat).k - (A - ((s I.toNat).B : Int)).toNat, c := (s I.toNat).c + 1 }) := rfl
      rw [hX]
      by_cases hr : A < ((s I.toNat).B : Int) ∨ ((s I.toNat).B : Int) + ((s I.toNat).k : Int) < A
      · rw [if_pos hr]
        simp only [upd_self]
        exact trimR_out h I A hi (dnR_in hi hd) hr
      · rw [if_neg hr]
        exact trimR_ok h hF I A (A - ((s I.toNat).B : Int)).toNat hi (dnR_in hi hd) (hct _ (inD_iff hi).2) (by omega) (by omega)
  · rw [opR_out 3 A zs hi]
    have := trimR_no (c := c) h I A (am := am) (by rw [dnR_out hi]; decide)
    rw [dnR_out hi] at this
    exact this
/-- Read, of every place. -/
theorem readR (h : Dd w F a n s) (I A N : Int) (hA : A ≤ 9223372036854775807) : Calls Try.prog 56 #[valD a n c am, .int .i64 I, .int .i64 A, .int .i64 N] w fun e w' => Tells w (readA n s I A N).P (readA n s I A N).E e w' := by
  by_cases hi : inD n I = true
  · by_cases hr : rdB (s I.toNat) A N = true
    · have e : readA n s I A N = { ans0 0 with P := ((s I.toNat).bs.take ((A - ((s I.toNat).B : Int)).toNat + N.toNat)).drop (A - ((s I.toNat).B : Int)).toNat } := by unfold readA; rw [if_pos hi, if_pos hr]
      have hr2 : ¬ (N < 0 ∨ A < ((s I.toNat).B : Int) ∨ ((s I.toNat).B : Int) + ((s I.toNat).bs.length : Int) < A + N) := of_decide_eq_true hr
      rw [e]
      have := readR_ok (c := c) (am := am) h I A (A - ((s I.toNat).B : Int)).toNat N.toNat hi (by omega) (by omega)
      rw [show ((N.toNat : Nat) : Int) = N by omega] at this
      exact this
    · have e : readA n s I A N = ans0 70 := by unfold readA; rw [if_pos hi, if_neg hr]
      rw [e]
      have hr2 : ¬ ¬ (N < 0 ∨ A < ((s I.toNat).B : Int) ∨ ((s I.toNat).B : Int) + ((s I.toNat).bs.length : Int) < A + N) := fun h => hr (decide_eq_true h)
      exact readR_no h I A N hA hi (Classical.not_not.1 hr2)
  · have e : readA n s I A N = ans0 81 := by unfold readA; rw [if_neg hi]
    rw [e]
    exact readR_none I A N hi
end
end Go.Proofs.Ytdodnegdpdhbiaa
