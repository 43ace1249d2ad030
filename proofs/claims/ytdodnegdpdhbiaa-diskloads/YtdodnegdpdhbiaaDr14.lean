/- The document's disk: Arm. -/
import Derived.Test.YtdodnegdpdhbiaaDr9
namespace Go.Proofs.Ytdodnegdpdhbiaa
open Go.RowKit

section
variable {F : Nat → Prop} {a : Option Addr} {n c : Nat} {am : Bool} {s : Nat → Pt}
/-- 'with' of an area whose bytes lie where they lay. -/
theorem withY {w1 X : World} (hd : Dd w1 F a n s) (hF : ∀ b, F b → b < w1.heap.size) (hX : Below w1.heap.size w1 X) (I : Int) (hi : inD n I = true) (y' : Pt) (hok : PtOk y') (na : Option Addr) (nc : Nat) (hr : RowB w1 na y'.bs) (hna : y'.bs.length = 0 ∨ farA F na) (hlB : y'.bs.length ≤ nc) (hlN : na = none → y'.bs.length = 0 ∧ nc = 0)
    {B k C fd fk ft : Int} {j : Nat} (e1 : (y'.B : Int) = B) (e2 : (y'.k : Int) = k) (e3 : (y'.c : Int) = C) (e4 : y'.bs.length = j) (e5 : y'.fd = fd) (e6 : y'.fk = fk) (e7 : (y'.ft : Int) = ft) :
    Calls Try.prog 81 #[valD a n c am, .int .i64 I, .agg #[.int .i64 B, .int .i64 k, .int .i64 C, .slice na j nc, .int .i64 fd, .int .i64 fk, .int .u8 ft]] X fun e w' => ∃ a6 c6, e = .returned (valD a6 n c6 am) ∧ Dd w' F a6 n (upd s I.toNat y') ∧ Below w1.heap.size w1 w' := by
  have h := withD (c := c) (am := am) (hd.below hX) (fun b hb => by have := hF b hb; have := hX.size; omega) I hi y' hok na nc (RowB.below hr hX) hna hlB hlN
  unfold valA at h
  subst e1 e2 e3 e4 e5 e6 e7
  refine h.mono ?_
  rintro e w6 ⟨v, rfl, ⟨a6, c6, rfl, hD6⟩, hb6⟩
  exact ⟨_, _, rfl, hD6, hX.trans (hb6.mono hX.size)⟩
end

theorem armX_ok {x : Pt} (h : PtOk x) (m : Nat) (f : Nat → Fte) (i : Nat) (hft : ∀ i, i < m → (f i).t < 256) : PtOk (armX x m f i) := by
  refine ⟨h.le, h.all, h.len, h.room, by unfold armX; simp, ?_⟩
  unfold armX
  simp only
  split
  · exact hft _ ‹_›
  · omega

/-- While the areas are gone through: the box (block p) of the disk as it is now, the box of the answer behind it. -/
structure ArmI (w : World) (G : Nat → Prop) (am : Bool) (n : Nat) (S : Nat → Pt) (wr : World) (a : Option Addr) (c : Nat) : Prop where
  box : wr.heap[w.heap.size]? = some (.cells #[.slice a n c, .bool am] 45)
  zero : wr.heap[w.heap.size + 1]? = some (.cells #[.slice none 0 0, .bool false] 45)
  dd : Dd wr G a n S
  bel : Below w.heap.size w wr
  size : w.heap.size + 1 + 1 ≤ wr.heap.size
section
variable {w wr w6 : World} {G : Nat → Prop} {am : Bool} {n : Nat} {S S' : Nat → Pt} {a a6 : Option Addr} {c c6 : Nat}
theorem ArmI.step (h : ArmI w G am n S wr a c) (hG : G w.heap.size) (hb : Below wr.heap.size wr w6) (hD : Dd w6 G a6 n S') : ArmI w G am n S' ((w6.setCell ⟨w.heap.size, 0, none⟩ (.slice a6 n c6)).setCell ⟨w.heap.size, 1, none⟩ (.bool am)) a6 c6 := by
  have hs := h.size
  have h6 := hb.size
  refine ⟨?_, ?_, hD.chg (((Chg.refl _ w6).setCell _ _ (fun _ => hG)).setCell _ _ (fun _ => hG)), ?_, ?_⟩
  · exact (heap_setCell_same _ _ 1 _ _ _ (heap_setCell_same _ _ 0 _ _ _ ((hb.block _ (by omega)).trans h.box))).trans rfl
  · rw [Below.heap_setCell _ _ _ _ (by simp), Below.heap_setCell _ _ _ _ (by simp)]
    exact (hb.block _ (by omega)).trans h.zero
  · exact ((h.bel.trans (hb.mono h.bel.size)).setCell (p := ⟨w.heap.size, 0, none⟩) (Nat.le_refl _) _).setCell (p := ⟨w.heap.size, 1, none⟩) (Nat.le_refl _) _
  · simp; omega
end

section
variable {w : World} {F : Nat → Prop} {a : Option Addr} {n c : Nat} {am : Bool} {s : Nat → Pt}
set_option maxRecDepth 100000 in
set_option maxHeartbeats 1600000 in
theorem armR (h : Dd w F a n s) (hF : ∀ b, F b → b < w.heap.size) (fa : Option Addr) (m cap : Nat) (f : Nat → Fte) (hfs : RowF w fa m f) (hft : ∀ i, i < m → (f i).t < 256) :
    Calls Try.prog 59 #[valD a n c am, .slice fa m cap] w fun e w' => ∃ v, e = .returned v ∧ NewD w F n true (armTo s m f n) v w' := by
  have hb0 : Below w.heap.size w ((w.alloc (.cells #[.slice a n c, .bool am] 45)).alloc (.cells #[.slice none 0 0, .bool false] 45)) := ((Below.refl _ _).alloc (Nat.le_refl _) _).alloc (by simp) _
  obtain ⟨hB, hZ⟩ := box2 w a n c am (W := ((w.alloc (.cells #[.slice a n c, .bool am] 45)).alloc (.cells #[.slice none 0 0, .bool false] 45))) (by simpa using Below.refl _ _)
  obtain ⟨G, hG⟩ : ∃ G : Nat → Prop, G = fun b => (F b ∨ b = w.heap.size) ∨ b = w.heap.size + 1 := ⟨_, rfl⟩
  have hd : Hid (Dd w G a n s) := hide_it (by rw [hG]; exact (h.beside _ (Nat.le_refl _)).beside _ (by omega))
  have HG : Hid (∀ b, G b → b < w.heap.size + 1 + 1) := hide_it (by
    rw [hG]
    rintro b ((hb | hb) | hb)
    · have := hF b hb; omega
    · omega
    · omega)
  have HG2 : Hid (G w.heap.size ∧ G (w.heap.size + 1) ∧ ∀ b, F b → G b) := hide_it (by rw [hG]; exact ⟨.inl (.inr rfl), .inr rfl, fun b hb => .inl (.inl hb)⟩)
  have hn := h.few.2
  have HFS := hide_it hfs
  have HFT := hide_it hft
  have HB0 := hide_it hb0
  have HBX := hide_it hB
  have HZX := hide_it hZ
  clear h hF hG hfs hft hb0 hB hZ
  go_enter Try.func59, Try.ntmps59
  go_wp2_with fail
  go_loopw [10, 5, 6] (fun i _ _ wr => ∃ j : Nat, j ≤ n ∧ i = .int .i64 (j : Int) ∧ Hid (∃ a' c', ArmI w G am n (armTo s m f j) wr a' c')) (fun i _ _ _ => n - (intOf i).toNat)
  case atStart => exact ⟨0, by omega, rfl, a, c, HBX.out, HZX.out, by rw [armTo_zero]; exact hd.out.below HB0.out, HB0.out, by simp⟩
  case round =>
    obtain ⟨j, hj, rfl, hR⟩ := hrel
    obtain ⟨a', c', hI⟩ := hR.out
    have HI := hide_it hI
    obtain ⟨hBr, hZr, hDr, hbr, hsr⟩ := hI
    clear hR
    have hl0 : w.heap.size < wr.heap.size := by omega
    have hl1 : w.heap.size + 1 < wr.heap.size := by omega
    by_cases hlt : j < n
    · obtain ⟨b, o, hab, hbl, _, hrr⟩ := (hd.out.below hbr).row
      subst hab
      obtain ⟨ra, rc, hv, hrow, hfar, hrc, hnil⟩ := hrr j hlt
      have hok := armX_ok (hd.out.ok j hlt) m f j HFT.out
      obtain ⟨y, hy⟩ : ∃ y, y = s j := ⟨_, rfl⟩
      rw [← hy] at hv hrow hfar hrc hnil hok
      have HY := hide_it hy
      obtain ⟨c0, c1, c2, c3, c4, c5, c6⟩ := hv
      have d0 := cell_of_row _ _ 0 _ _ _ hBr
      have d1 := cell_of_row _ _ 1 _ _ _ hBr
      simp only [List.getElem?_toArray, List.getElem?_cons_zero, List.getElem?_cons_succ] at d0 d1
      have HBr := hide_it hBr
      have HDr := hide_it hDr
      have Hbr := hide_it hbr
      have HRW := hide_it (And.intro hrow (And.intro hfar (And.intro hrc hnil)))
      have HOK := hide_it hok
      clear hBr hZr hDr hbr hrow hfar hrc hnil hrr hok hy
      by_cases hjm : j < m
      · have hfs5 := RowF.below HFS.out Hbr.out
        obtain ⟨fb, fo, rfl, hfb, hfc⟩ := hfs5.resolve_left (by omega)
        obtain ⟨f1, f2, f3⟩ := hfc j hjm
        clear hfs5 hfc
        go_wp2_with fail
        clear f1 f2 f3
        have hcall := withY (c := c') (am := am) (X := wr.alloc (.cells #[.int .i64 (y.B : Int), .int .i64 (y.k : Int), .int .i64 0, .slice ra y.bs.length rc, .int .i64 (f j).d, .int .i64 (f j).k, .int .u8 ((f j).t : Int)] 108)) HDr.out (fun b hb => Nat.lt_of_lt_of_le (HG.out b hb) hsr) ((Below.refl _ _).alloc (Nat.le_refl _) _) (j : Int) (by unfold inD; simp; omega) (armX y m f j) HOK.out ra rc HRW.out.1 HRW.out.2.1 HRW.out.2.2.1 HRW.out.2.2.2 (B := (y.B : Int)) (k := (y.k : Int)) (C := 0) (j := y.bs.length) (fd := (f j).d) (fk := (f j).k) (ft := ((f j).t : Int)) rfl rfl rfl rfl (by unfold armX; simp [hjm]) (by unfold armX; simp [hjm]) (by unfold armX; simp [hjm])
        refine hcall.mono ?_
        rintro e w6 ⟨a6, c6', rfl, hD6, hb6⟩
        rw [Int.toNat_natCast, HY.out, armTo_succ] at hD6
        have hB6 := (hb6.block _ hl0).trans HBr.out
        have hst := hide_it (HI.out.step (c6 := c6') HG2.out.1 hb6 hD6)
        have z0 := cell_of_row _ _ 0 _ _ _ hB6
        have z1 := cell_of_row _ _ 1 _ _ _ hB6
        have f0 := frozen_of_row _ _ 0 _ _ hB6
        have f1 := frozen_of_row _ _ 1 _ _ hB6
        simp only [List.getElem?_toArray, List.getElem?_cons_zero, List.getElem?_cons_succ] at z0 z1
        clear hcall hD6 hb6 hB6 HBr HDr HRW HOK HI d0 d1 c0 c1 c2 c3 c4 c5 c6 Hbr
        go_wp2_with fail
        go_roundw
        case rel => exact ⟨j + 1, by omega, by go_num, a6, c6', hst.out⟩
        case measure => simp [intOf]; omega
      · go_wp2_with fail
        have hcall := withY (c := c') (am := am) (X := wr.alloc (.cells #[.int .i64 (y.B : Int), .int .i64 (y.k : Int), .int .i64 0, .slice ra y.bs.length rc, .int .i64 0, .int .i64 0, .int .u8 0] 108)) HDr.out (fun b hb => Nat.lt_of_lt_of_le (HG.out b hb) hsr) ((Below.refl _ _).alloc (Nat.le_refl _) _) (j : Int) (by unfold inD; simp; omega) (armX y m f j) HOK.out ra rc HRW.out.1 HRW.out.2.1 HRW.out.2.2.1 HRW.out.2.2.2 (B := (y.B : Int)) (k := (y.k : Int)) (C := 0) (j := y.bs.length) (fd := 0) (fk := 0) (ft := 0) rfl rfl rfl rfl (by unfold armX; simp [hjm]) (by unfold armX; simp [hjm]) (by unfold armX; simp [hjm])
        refine hcall.mono ?_
        rintro e w6 ⟨a6, c6', rfl, hD6, hb6⟩
        rw [Int.toNat_natCast, HY.out, armTo_succ] at hD6
        have hB6 := (hb6.block _ hl0).trans HBr.out
        have hst := hide_it (HI.out.step (c6 := c6') HG2.out.1 hb6 hD6)
        have z0 := cell_of_row _ _ 0 _ _ _ hB6
        have z1 := cell_of_row _ _ 1 _ _ _ hB6
        have f0 := frozen_of_row _ _ 0 _ _ hB6
        have f1 := frozen_of_row _ _ 1 _ _ hB6
        simp only [List.getElem?_toArray, List.getElem?_cons_zero, List.getElem?_cons_succ] at z0 z1
        clear hcall hD6 hb6 hB6 HBr HDr HRW HOK HI d0 d1 c0 c1 c2 c3 c4 c5 c6 Hbr
        go_wp2_with fail
        go_roundw
        case rel => exact ⟨j + 1, by omega, by go_num, a6, c6', hst.out⟩
        case measure => simp [intOf]; omega
    · obtain rfl : j = n := by omega
      have d0 := cell_of_row _ _ 0 _ _ _ hBr
      have d1 := cell_of_row _ _ 1 _ _ _ hBr
      have q1 := frozen_of_row _ _ 1 _ _ hBr
      have z0 := cell_of_row _ _ 0 _ _ _ hZr
      have z1 := cell_of_row _ _ 1 _ _ _ hZr
      have f0 := frozen_of_row _ _ 0 _ _ hZr
      have f1 := frozen_of_row _ _ 1 _ _ hZr
      simp only [List.getElem?_toArray, List.getElem?_cons_zero, List.getElem?_cons_succ] at d0 d1 z0 z1
      have HDr := hide_it hDr
      have Hbr := hide_it hbr
      clear hBr hZr hDr hbr
      go_wp2_with fail
      have hch : Chg G wr (((wr.setCell ⟨w.heap.size, 1, none⟩ (.bool true)).setCell ⟨w.heap.size + 1, 0, none⟩ (.slice a' j c')).setCell ⟨w.heap.size + 1, 1, none⟩ (.bool true)) := (((Chg.refl _ wr).setCell _ _ (fun _ => HG2.out.1)).setCell _ _ (fun _ => HG2.out.2.1)).setCell _ _ (fun _ => HG2.out.2.1)
      exact bodyPost_ret (v := valD a' j c' true) (by simp [results, Try.results59, go_sem, z0, z1]) rfl ⟨_, rfl, ⟨_, _, rfl, (HDr.out.chg hch).anti HG2.out.2.2⟩, ((Hbr.out.setCell (p := ⟨w.heap.size, 1, none⟩) (Nat.le_refl _) _).setCell (p := ⟨w.heap.size + 1, 0, none⟩) (by simp) _).setCell (p := ⟨w.heap.size + 1, 1, none⟩) (by simp) _⟩
end

end Go.Proofs.Ytdodnegdpdhbiaa
