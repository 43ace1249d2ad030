/- The document's reader: a number of a fixed width. -/
import Derived.Test.YtfhinodieghklaaRd10
import Derived.Test.YtfhinodieghklaaBy5
namespace Go.Proofs.Ytfhinodieghklaa
open Go.RowKit

/-- The document's reader as a value: its bytes, its place, its fault. -/
def refV (a : Option Addr) (n cap at_ f : Nat) : Value := .agg #[.slice a n cap, .int .i64 (at_ : Int), .int .i64 (f : Int)]
/-- It stands ahead of the bytes s.1, with the fault s.2. -/
structure RefIs (w : World) (a : Option Addr) (B : List Nat) (cap at_ : Nat) (s : List Nat × Nat) : Prop where
  row : RowB w a B
  all : All8 B
  size : B.length ≤ 140737488355328
  fits : B.length ≤ cap
  capm : cap ≤ maxLen
  none : a = none → B.length = 0 ∧ cap = 0
  le : at_ ≤ B.length
  left : s.1 = B.drop at_
  fault : s.2 ≤ 100
theorem RefIs.below {w w' : World} {a : Option Addr} {B : List Nat} {cap at_ : Nat} {s : List Nat × Nat} (h : RefIs w a B cap at_ s) (hb : Below w.heap.size w w') : RefIs w' a B cap at_ s :=
  ⟨h.row.below hb, h.all, h.size, h.fits, h.capm, h.none, h.le, h.left, h.fault⟩

theorem three_cells {w : World} {g : Nat} {cs : Array Value} {t : TypeId} (h : w.heap[g]? = some (.cells cs t (0, 0))) : w.cell? ⟨g, 0, none⟩ = cs[0]? ∧ w.cell? ⟨g, 1, none⟩ = cs[1]? ∧ w.cell? ⟨g, 2, none⟩ = cs[2]? :=
  ⟨cell_of_row _ _ _ _ _ _ h, cell_of_row _ _ _ _ _ _ h, cell_of_row _ _ _ _ _ _ h⟩
theorem three_soft {w : World} {g : Nat} {cs : Array Value} {t : TypeId} (h : w.heap[g]? = some (.cells cs t (0, 0))) : w.frozen? ⟨g, 0, none⟩ = false ∧ w.frozen? ⟨g, 1, none⟩ = false ∧ w.frozen? ⟨g, 2, none⟩ = false :=
  ⟨frozen_of_row w g 0 _ _ h, frozen_of_row w g 1 _ _ h, frozen_of_row w g 2 _ _ h⟩

theorem set3 {w : World} {g : Nat} {x y z : Value} {t : TypeId} (h : w.heap[g]? = some (.cells #[x, y, z] t (0, 0))) (a b c : Value) : (((w.setCell ⟨g, 0, none⟩ a).setCell ⟨g, 1, none⟩ b).setCell ⟨g, 2, none⟩ c).heap[g]? = some (.cells #[a, b, c] t (0, 0)) := by
  have h1 := heap_setCell_same w g 0 _ _ a h
  have h2 := heap_setCell_same _ g 1 _ _ b h1
  have h3 := heap_setCell_same _ g 2 _ _ c h2
  rw [h3]; rfl
theorem below3 {B g : Nat} {v w : World} (h : Below B v w) (hg : B ≤ g) (a b c : Value) : Below B v (((w.setCell ⟨g, 0, none⟩ a).setCell ⟨g, 1, none⟩ b).setCell ⟨g, 2, none⟩ c) :=
  ((h.setCell hg a).setCell hg b).setCell hg c

set_option maxRecDepth 100000 in
set_option maxHeartbeats 400000 in
theorem rleft_any (a : Option Addr) (B : List Nat) (cap at_ : Nat) (s : List Nat × Nat) (w : World) (h : RefIs w a B cap at_ s) :
    Calls Try.prog 28 #[refV a B.length cap at_ s.2] w fun e w' => e = .returned (.int .i64 (s.1.length : Int)) ∧ Below w.heap.size w w' := by
  have hl := h.le
  have hsz := h.size
  have HS : Hid ((s.1.length : Int) = (B.length : Int) - (at_ : Int)) := by unfold Hid; rw [h.left]; simp; omega
  have hbx : Below w.heap.size w (w.alloc (.cells #[.slice a B.length cap, .int .i64 (at_ : Int), .int .i64 (s.2 : Int)] 42)) := (Below.refl _ _).alloc (Nat.le_refl _) _
  clear h
  unfold refV
  go_enter Try.func28, Try.ntmps28
  go_wp2
  go_ret
  refine ⟨?_, hbx⟩
  rw [HS.out]
  rfl

/-- What comes of a call of the document's reader: an answer, and the reader behind it. -/
def RefRead {A : Type} (val : A → Value) (a : Option Addr) (B : List Nat) (cap : Nat) (w : World) (r : A × (List Nat × Nat)) (e : Ending) (w' : World) : Prop :=
  ∃ at_, e = .returned (.tuple #[val r.1, refV a B.length cap at_ r.2.2]) ∧ RefIs w' a B cap at_ r.2 ∧ Below w.heap.size w w'

set_option maxRecDepth 100000 in
set_option maxHeartbeats 400000 in
theorem rtake_any (a : Option Addr) (B : List Nat) (cap at_ W : Nat) (s : List Nat × Nat) (w : World) (h : RefIs w a B cap at_ s) (hW : W ≤ 8) :
    Calls Try.prog 44 #[refV a B.length cap at_ s.2, .int .i64 (W : Int)] w fun e w' => RefRead (fun v => .int .u64 ((v : Nat) : Int)) a B cap w (rdOf 0 (takeFixed W) s) e w' := by
  have hH := hide_it h
  have hl := h.le
  have hsz := h.size
  have hr := h.row
  clear h
  obtain ⟨bs, f⟩ := s
  by_cases hf : f = 0
  · subst hf
    by_cases hlt : B.length - at_ < W
    · have hR : Hid (rdOf 0 (takeFixed W) (bs, 0) = (0, (bs, 20))) := by
        unfold Hid rdOf takeFixed
        rw [if_neg (by simp), if_pos (by have e : bs = _ := hH.out.left; simp only [e]; simp; omega)]
      have hd : decide ((B.length : Int) - (at_ : Int) < (W : Int)) = true := by simp; omega
      unfold refV
      clear hr
      go_enter Try.func44, Try.ntmps44
      go_wp2
      go_region
      all_goals go_wp2_with fail
      refine bodyPost_ret (v := .tuple #[.int .u64 0, .agg #[.slice a B.length cap, .int .i64 (at_ : Int), .int .i64 20]]) (by simp [results, Try.results44, go_sem]) rfl ?_
      rw [hR.out]
      have hbb : ∀ (x y z : Obj), Below w.heap.size w (((w.alloc x).alloc y).alloc z).drew := fun x y z => ((((Below.refl _ _).alloc (Nat.le_refl _) x).alloc (by simp) y).alloc (by simp; omega) z).drew
      have h9 := hH.out.below (hbb (.cells #[] 0) (.cells #[] 0) (.cells #[] 0))
      exact ⟨at_, rfl, ⟨hH.out.row.below (hbb _ _ _), h9.all, h9.size, h9.fits, h9.capm, h9.none, h9.le, h9.left, by show 20 ≤ 100; omega⟩, hbb _ _ _⟩
    · have hR : Hid (rdOf 0 (takeFixed W) (bs, 0) = (beVal (bs.take W), (bs.drop W, 0))) := by
        unfold Hid rdOf takeFixed
        rw [if_neg (by simp), if_neg (by have e : bs = _ := hH.out.left; simp only [e]; simp; omega)]
      have hd : decide ((B.length : Int) - (at_ : Int) < (W : Int)) = false := by simp; omega
      unfold refV
      go_enter Try.func44, Try.ntmps44
      have h8 := hH.out.all
      have hle : bs = B.drop at_ := hH.out.left
      have hbb : Below w.heap.size w (((w.alloc (.cells #[.slice a B.length cap, .int .i64 (at_ : Int), .int .i64 0] 42)).alloc (.cells #[.slice none 0 0, .int .i64 0, .int .i64 0] 42)).alloc (.cells #[.slice a B.length cap, .int .i64 (at_ : Int), .int .i64 0] 42)) := (((Below.refl _ _).alloc (Nat.le_refl _) _).alloc (by simp) _).alloc (by simp; omega) _
      obtain ⟨W3, hW3⟩ : ∃ W3, W3 = (((w.alloc (.cells #[.slice a B.length cap, .int .i64 (at_ : Int), .int .i64 0] 42)).alloc (.cells #[.slice none 0 0, .int .i64 0, .int .i64 0] 42)).alloc (.cells #[.slice a B.length cap, .int .i64 (at_ : Int), .int .i64 0] 42)) := ⟨_, rfl⟩
      go_wp2
      go_loopw [6, 7] (fun v i wr => ∃ k m : Nat, k ≤ W ∧ i = .int .i64 (k : Int) ∧ v = .int .u64 ((beVal (bs.take k) : Nat) : Int) ∧ wr = W3.drewN m) (fun _ i _ => W - (intOf i).toNat)
      case atStart => exact ⟨0, 0, by omega, rfl, by simp [beVal], by rw [hW3]; rfl⟩
      case round =>
        obtain ⟨k, m, hk, rfl, rfl, hwr⟩ := hrel
        have h31 : W3.heap[w.heap.size]? = some (.cells #[.slice a B.length cap, .int .i64 (at_ : Int), .int .i64 0] 42 (0, 0)) := by
          rw [hW3, Below.heap_alloc _ _ _ (by simp; omega), Below.heap_alloc _ _ _ (by simp)]; exact heap_alloc_new w _
        have h32 : W3.heap[w.heap.size + 1]? = some (.cells #[.slice none 0 0, .int .i64 0, .int .i64 0] 42 (0, 0)) := by
          rw [hW3, Below.heap_alloc _ _ _ (by simp)]
          have e := heap_alloc_new (w.alloc (.cells #[.slice a B.length cap, .int .i64 (at_ : Int), .int .i64 0] 42)) (.cells #[.slice none 0 0, .int .i64 0, .int .i64 0] 42)
          simp only [World.size_alloc] at e
          exact e
        rw [← hW3] at hbb
        have hsz3 : w.heap.size + 3 = W3.heap.size := by rw [hW3]; simp
        have hdr : Below W3.heap.size W3 wr := by rw [hwr]; exact below_drewN (Below.refl _ _) _
        have h1 : wr.heap[w.heap.size]? = some (.cells #[.slice a B.length cap, .int .i64 (at_ : Int), .int .i64 0] 42 (0, 0)) := by rw [hdr.block _ (by omega)]; exact h31
        have h2 : wr.heap[w.heap.size + 1]? = some (.cells #[.slice none 0 0, .int .i64 0, .int .i64 0] 42 (0, 0)) := by rw [hdr.block _ (by omega)]; exact h32
        have hbr : Below w.heap.size w wr := hbb.trans (hdr.mono hbb.size)
        have c0 : wr.cell? ⟨w.heap.size, 0, none⟩ = some (.slice a B.length cap) := by rw [cell_of_row _ _ _ _ _ _ h1]; rfl
        have c1 : wr.cell? ⟨w.heap.size, 1, none⟩ = some (.int .i64 (at_ : Int)) := by rw [cell_of_row _ _ _ _ _ _ h1]; rfl
        have HWR := hide_it hwr
        clear hwr h31 h32 hsz3 hdr hW3
        by_cases hkW : k < W
        · obtain ⟨b, o, rfl, _, hcc⟩ := (hr.below hbr).here (i := at_ + k) (by omega)
          have hck := hcc (at_ + k) (by omega)
          have hat : at0 B (at_ + k) = at0 bs k := by rw [hle, at0_drop]
          rw [hat] at hck
          have h8b : All8 bs := by rw [hle]; exact h8.drop _
          have hx8 := h8b.at k
          have hkl : k < bs.length := by rw [hle]; simp; omega
          have hvl := beVal_lt h8b k (by omega)
          have hp : 256 ^ k ≤ 256 ^ 7 := Nat.pow_le_pow_right (by decide) (by omega)
          have hv7 : beVal (bs.take k) < 72057594037927936 := Nat.lt_of_lt_of_le hvl hp
          have HS := hide_it (show beVal (bs.take (k + 1)) = beVal (bs.take k) * 256 + at0 bs k by rw [take_snoc hkl, beVal_snoc])
          clear hcc hvl hp hat h8b hle
          generalize at0 bs k = x at *
          generalize beVal (bs.take k) = y at *
          have hd1 : decide ((k : Int) < (W : Int)) = true := by simp; omega
          have hi1 : (at_ : Int) + (k : Int) < (B.length : Int) := by omega
          go_wp2_with fail
          go_roundw
          case rel => exact ⟨k + 1, m, by omega, by go_num, by rw [HS.out]; simp, HWR.out⟩
          case measure => simp [intOf]; omega
        · have hkW2 : k = W := by omega
          subst hkW2
          have hd1 : decide ((k : Int) < (k : Int)) = false := by simp
          have z1 := frozen_of_row wr w.heap.size 1 _ _ h1
          have g1 := heap_setCell_same wr w.heap.size 1 _ _ (.int .i64 ((at_ : Int) + (k : Int))) h1
          have g2 : (wr.setCell ⟨w.heap.size, 1, none⟩ (.int .i64 ((at_ : Int) + (k : Int)))).heap[w.heap.size + 1]? = some (.cells #[.slice none 0 0, .int .i64 0, .int .i64 0] 42 (0, 0)) := by rw [Below.heap_setCell _ _ _ _ (show w.heap.size + 1 ≠ w.heap.size by omega)]; exact h2
          have b4 : Below w.heap.size w (wr.setCell ⟨w.heap.size, 1, none⟩ (.int .i64 ((at_ : Int) + (k : Int)))) := hbr.setCell (Nat.le_refl _) _
          have HB4 := hide_it b4
          obtain ⟨p0, p1, p2⟩ := three_cells g1
          obtain ⟨q0, q1, q2⟩ := three_cells g2
          obtain ⟨y0, y1, y2⟩ := three_soft g2
          have HG2 := hide_it g2
          clear h1 h2 g1 g2 hbr hbb b4 c0
          go_wp2_with fail
          go_region
          all_goals go_wp2_with fail
          have g5 := set3 HG2.out (.slice a B.length cap) (.int .i64 ((at_ : Int) + (k : Int))) (.int .i64 0)
          obtain ⟨r0, r1, r2⟩ := three_cells g5
          have e5 : (at_ : Int) + (k : Int) = ((at_ + k : Nat) : Int) := by simp
          refine bodyPost_ret (v := .tuple #[.int .u64 ((beVal (bs.take k) : Nat) : Int), .agg #[.slice a B.length cap, .int .i64 ((at_ : Int) + (k : Int)), .int .i64 0]]) (by simp [results, Try.results44, go_sem, r0, r1, r2]) rfl ?_
          rw [hR.out]
          have b5 := (below3 HB4.out (show w.heap.size ≤ w.heap.size + 1 by omega) (.slice a B.length cap) (.int .i64 ((at_ : Int) + (k : Int))) (.int .i64 0)).drew
          have hO := hH.out
          refine ⟨at_ + k, by rw [e5]; rfl, ⟨hO.row.below b5, hO.all, hO.size, hO.fits, hO.capm, hO.none, by omega, ?_, by show 0 ≤ 100; omega⟩, b5⟩
          show bs.drop k = _
          rw [hle, List.drop_drop]
  · have hd : ((f : Int) == 0) = false := by simp; omega
    have hR : Hid (rdOf 0 (takeFixed W) (bs, f) = (0, (bs, f))) := if_pos hf
    unfold refV
    clear hr
    go_enter Try.func44, Try.ntmps44
    go_wp2_with fail
    go_region
    all_goals go_wp2_with fail
    refine bodyPost_ret (v := .tuple #[.int .u64 0, .agg #[.slice a B.length cap, .int .i64 (at_ : Int), .int .i64 (f : Int)]]) (by simp [results, Try.results44, go_sem]) rfl ?_
    rw [hR.out]
    exact ⟨at_, rfl, hH.out.below (((Below.refl _ _).alloc (Nat.le_refl _) _).alloc (by simp) _).drew, (((Below.refl _ _).alloc (Nat.le_refl _) _).alloc (by simp) _).drew⟩
end Go.Proofs.Ytfhinodieghklaa
