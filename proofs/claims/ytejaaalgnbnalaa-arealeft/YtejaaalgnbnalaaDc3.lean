/- The document's area, walked: End, SafeEnd, Sync. -/
import Derived.Test.YtejaaalgnbnalaaDc2
namespace Go.Proofs.Ytejaaalgnbnalaa
open Go.RowKit

/-- The marks of n bytes, k of which are safe. -/
def sfs (n k : Nat) : List Bool := List.replicate k true ++ List.replicate (n - k) false
theorem sfs_len {n k : Nat} (h : k ≤ n) : (sfs n k).length = n := by simp [sfs]; omega
theorem sfs_at {n k i : Nat} (h : i < n) : atF (sfs n k) i = decide (i < k) := by
  unfold atF sfs
  rw [List.getD_eq_getElem?_getD]
  by_cases hk : i < k
  · rw [List.getElem?_append_left (by simpa using hk), List.getElem?_replicate, if_pos hk]; simp [hk]
  · rw [List.getElem?_append_right (by simpa using hk), List.getElem?_replicate, List.length_replicate, if_pos (by omega)]; simp [hk]
theorem sfs_more {n k m : Nat} (h : k ≤ n) : sfs n k ++ List.replicate m false = sfs (n + m) k := by
  unfold sfs
  rw [List.append_assoc, List.replicate_append_replicate, show n - k + m = n + m - k by omega]
theorem sfs_take {n k m : Nat} (h : m ≤ n) : (sfs n k).take m = sfs m (min k m) := by
  unfold sfs
  rw [List.take_append, List.take_replicate, List.take_replicate, List.length_replicate]
  congr 2 <;> omega
theorem sfs_drop {n k m : Nat} (h : m ≤ k) : (sfs n k).drop m = sfs (n - m) (k - m) := by
  unfold sfs
  rw [List.drop_append, List.drop_replicate, List.drop_replicate, List.length_replicate]
  congr 2; omega
theorem sfs_all (n : Nat) : sfs n n = List.replicate n true := by simp [sfs]

/-- The document's area as a value: its bytes, its marks. -/
structure Dv (w : World) (da sa : Value) (bs : List Nat) (k : Nat) : Prop where
  by_ : OwB w 0 da bs
  sf : OwO w 0 sa (sfs bs.length k)
  le : k ≤ bs.length
/-- .. in memory that is new. -/
structure Dn (w : World) (da sa : Value) (bs : List Nat) (k : Nat) (w' : World) : Prop where
  by_ : OwB w' w.heap.size da bs
  sf : OwO w' w.heap.size sa (sfs bs.length k)
  le : k ≤ bs.length
  bel : Below w.heap.size w w'
section
variable {w w' : World} {da sa : Value} {bs : List Nat} {k : Nat}
theorem Dn.dv (h : Dn w da sa bs k w') : Dv w' da sa bs k := ⟨h.by_.mono (Nat.zero_le _), h.sf.mono (Nat.zero_le _), h.le⟩
theorem Dv.below (h : Dv w da sa bs k) (hb : Below w.heap.size w w') : Dv w' da sa bs k := ⟨h.by_.below hb, h.sf.below hb, h.le⟩
theorem Dv.open (h : Dv w da sa bs k) : ∃ a1 c1 a2 c2, da = .slice a1 bs.length c1 ∧ sa = .slice a2 bs.length c2 ∧ RowB w a1 bs ∧ RowO w a2 (sfs bs.length k) ∧ bs.length ≤ c1 ∧ bs.length ≤ c2 ∧ (a1 = none → bs.length = 0 ∧ c1 = 0) ∧ (a2 = none → (sfs bs.length k).length = 0 ∧ c2 = 0) := by
  obtain ⟨a1, c1, h1, h2, h3, _, h4⟩ := h.by_.row
  obtain ⟨a2, c2, j1, j2, j3, _, j4⟩ := h.sf.row
  rw [sfs_len h.le] at j1 j3
  exact ⟨a1, c1, a2, c2, h1, j1, h2, j2, h3, j3, h4, j4⟩
theorem Dv.more (h : Dv w da sa bs k) (B : Int) (a : Option Addr) (cap : Nat) (zs : List Nat) (hr : RowB w a zs) (hnil : a = none → zs.length = 0 ∧ cap = 0) (hl : bs.length + zs.length ≤ 211106232532800) :
    Calls Try.prog 23 #[.agg #[.int .i64 B, da, sa], .slice a zs.length cap] w fun e w' => ∃ da' sa', e = .returned (.agg #[.int .i64 B, da', sa']) ∧ Dn w da' sa' (bs ++ zs) k w' := by
  obtain ⟨a1, c1, a2, c2, rfl, rfl, h1, h2, _, _, h3, h4⟩ := h.open
  refine (rappend_any B a1 a2 c1 c2 bs (sfs bs.length k) bs.length rfl (sfs_len h.le) w h1 h2 h3 h4 a cap zs hr hnil hl).mono ?_
  rintro e w' ⟨v, rfl, ⟨da', sa', rfl, h5, h6⟩, hb⟩
  refine ⟨da', sa', rfl, h5, ?_, ?_, hb⟩
  · rw [List.length_append, ← sfs_more h.le]; exact h6
  · rw [List.length_append]; have := h.le; omega
theorem Dv.copy (h : Dv w da sa bs k) (B : Int) (hl : bs.length ≤ 211106232532800) :
    Calls Try.prog 23 #[.agg #[.int .i64 B, da, sa], .slice none 0 0] w fun e w' => ∃ da' sa', e = .returned (.agg #[.int .i64 B, da', sa']) ∧ Dn w da' sa' bs k w' := by
  refine (h.more B none 0 [] (.inl rfl) (fun _ => ⟨rfl, rfl⟩) (by simpa using hl)).mono ?_
  rintro e w' ⟨da', sa', rfl, h5⟩
  rw [List.append_nil] at h5
  exact ⟨da', sa', rfl, h5⟩
end

theorem thawS {w : World} {base : Nat} {e : TypeId} {sz n m g o2 cap : Nat} {xs : List Value} (h : OwnS w base e sz (.slice (some ⟨g, o2, none⟩) n cap) m xs) (i : Nat) : w.frozen? ⟨g, i, none⟩ = false := by
  rcases h.2 with ⟨h2, _⟩ | ⟨g', o', cap', cur, e1, hb, hh, _⟩
  · cases h2
  · cases e1; exact frozen_of_row _ _ _ _ _ hh

section
variable {w W0 wr : World} {q r : Nat} {B : Int} {da sa : Value} {bs : List Nat} {fs : List Bool}
/-- The struct handed back. -/
theorem Cp.ret (hC : Cp W0 W0.heap.size wr q B da sa bs fs) (hb0 : Below w.heap.size w W0) (hr : BoxD W0 r 0 (.slice none 0 0) (.slice none 0 0)) (hwr : w.heap.size ≤ r) :
    BoxD wr r 0 (.slice none 0 0) (.slice none 0 0) ∧ BoxD (((wr.setCell ⟨r, 0, none⟩ (.int .i64 B)).setCell ⟨r, 1, none⟩ da).setCell ⟨r, 2, none⟩ sa) r B da sa ∧
      DocOut w (.agg #[.int .i64 B, da, sa]) B bs fs (((wr.setCell ⟨r, 0, none⟩ (.int .i64 B)).setCell ⟨r, 1, none⟩ da).setCell ⟨r, 2, none⟩ sa) := by
  have hlt := hr.lt
  have hs := hb0.size
  have hbr : BoxD wr r 0 (.slice none 0 0) (.slice none 0 0) := hr.keep (hC.bel.block r hlt)
  have hk : ∀ j, W0.heap.size ≤ j → (((wr.setCell ⟨r, 0, none⟩ (.int .i64 B)).setCell ⟨r, 1, none⟩ da).setCell ⟨r, 2, none⟩ sa).heap[j]? = wr.heap[j]? := fun j hj => by
    have hne : j ≠ r := by omega
    exact (Below.heap_setCell _ _ _ _ hne).trans ((Below.heap_setCell _ _ _ _ hne).trans (Below.heap_setCell _ _ _ _ hne))
  refine ⟨hbr, hbr.all B da sa, ⟨_, _, rfl, (hC.by_.keep fun j hj => hk j (hC.by_.inside j hj).1).mono hs, (hC.sf.keep fun j hj => hk j (hC.sf.inside j hj).1).mono hs⟩, ?_⟩
  exact (((hb0.trans (hC.bel.mono hs)).setCell hwr _).setCell hwr _).setCell hwr _
/-- A value of the document's, laid into a new struct. -/
theorem Dn.box {k : Nat} (h : Dn W0 da sa bs k wr) (B : Int) : Cp W0 W0.heap.size (wr.alloc (.cells #[.int .i64 B, da, sa] 52)) wr.heap.size B da sa bs (sfs bs.length k) :=
  ⟨h.bel.alloc h.bel.size _, BoxD.new _ _ _ _, OwnS.alloc h.by_ _, OwnS.alloc h.sf _, h.bel.size, by have := h.bel.size; simp; omega⟩
theorem Cp.lower {w1 : World} (hC : Cp w1 w1.heap.size wr q B da sa bs fs) (hb : Below W0.heap.size W0 w1) : Cp W0 W0.heap.size wr q B da sa bs fs :=
  ⟨hb.trans (hC.bel.mono hb.size), hC.box, hC.by_.mono hb.size, hC.sf.mono hb.size, Nat.le_trans hb.size hC.low, Nat.le_trans hb.size hC.bas⟩
/-- Other slices laid into the struct. -/
theorem Cp.lay {base : Nat} {w0 : World} {da' sa' : Value} {bs' : List Nat} {fs' : List Bool} (hC : Cp w0 base wr q B da sa bs fs) (h1 : OwB wr base da' bs') (h2 : OwO wr base sa' fs') :
    Cp w0 base ((wr.setCell ⟨q, 1, none⟩ da').setCell ⟨q, 2, none⟩ sa') q B da' sa' bs' fs' := by
  have hk : ∀ j, j ≠ q → ((wr.setCell ⟨q, 1, none⟩ da').setCell ⟨q, 2, none⟩ sa').heap[j]? = wr.heap[j]? := fun j hj =>
    (Below.heap_setCell _ _ _ _ hj).trans (Below.heap_setCell _ _ _ _ hj)
  exact ⟨(hC.bel.setCell hC.low _).setCell hC.low _, (hC.box.set1 da').set2 sa', h1.keep fun j hj => hk j fun e => by subst e; exact h1.not_box hC.box hj, h2.keep fun j hj => hk j fun e => by subst e; exact h2.not_box hC.box hj, hC.low, by simpa using hC.bas⟩
/-- One mark set. -/
theorem Cp.mark {g o2 c n : Nat} (hC : Cp W0 W0.heap.size wr q B da (.slice (some ⟨g, o2, none⟩) n c) bs fs) (hn : fs.length = n) {i : Nat} (hi : i < n) (b : Bool) :
    Cp W0 W0.heap.size (wr.setCell ⟨g, o2 + i, none⟩ (.bool b)) q B da (.slice (some ⟨g, o2, none⟩) n c) bs (fs.set i b) := by
  subst hn
  have hgq : q ≠ g := fun e => hC.sf.not_box hC.box (by rw [e]; rfl)
  have hg := hC.sf.inside g rfl
  refine ⟨hC.bel.setCell hg.1 _, hC.box.keep (Below.heap_setCell _ _ _ _ hgq), hC.by_.keep fun j hj => Below.heap_setCell _ _ _ _ fun e => hC.sf.not_B hC.by_ (j := g) rfl (by rw [← show j = g from e]; exact hj), ?_, hC.low, by simpa using hC.bas⟩
  have h2 := OwnS.set hC.sf i (by simpa using hi) (.bool b)
  unfold OwO
  rw [List.length_set, List.map_set]
  exact h2
end

set_option maxRecDepth 100000 in
set_option maxHeartbeats 400000 in
theorem rend_any {da sa : Value} {bs : List Nat} {k : Nat} (B : Nat) (w : World) (h : Dv w da sa bs k) (hr : B + bs.length ≤ 9223372036854775807) :
    Calls Try.prog 30 #[.agg #[.int .i64 (B : Int), da, sa]] w fun e w' => e = .returned (.int .i64 ((B + bs.length : Nat) : Int)) ∧ Below w.heap.size w w' := by
  obtain ⟨a1, c1, a2, c2, rfl, rfl, _⟩ := h.open
  have hb := (Below.refl w.heap.size w).alloc (Nat.le_refl _) (.cells #[.int .i64 (B : Int), .slice a1 bs.length c1, .slice a2 bs.length c2] 52)
  have hw : IntKind.i64.wrap ((B : Int) + (bs.length : Int)) = ((B + bs.length : Nat) : Int) := by rw [IntKind.wrap_i64]; omega
  obtain ⟨E, hE⟩ : ∃ E, E = B + bs.length := ⟨_, rfl⟩
  rw [← hE] at hw
  rw [← hE]
  clear h hr hE
  go_enter Try.func30, Try.ntmps30
  go_wp2
  go_ret
  exact ⟨rfl, hb⟩

set_option maxRecDepth 100000 in
set_option maxHeartbeats 800000 in
theorem rsafe_any {da sa : Value} {bs : List Nat} {k : Nat} (B : Nat) (w : World) (h : Dv w da sa bs k) (hr : B + bs.length ≤ 9223372036854775807) :
    Calls Try.prog 29 #[.agg #[.int .i64 (B : Int), da, sa]] w fun e w' => e = .returned (.int .i64 ((B + k : Nat) : Int)) ∧ Below w.heap.size w w' := by
  have hk := h.le
  obtain ⟨a1, c1, a2, c2, rfl, rfl, _, h2, _, _⟩ := h.open
  obtain ⟨W0, hW0⟩ : ∃ W0, W0 = w.alloc (.cells #[.int .i64 (B : Int), .slice a1 bs.length c1, .slice a2 bs.length c2] 52) := ⟨_, rfl⟩
  have hb0 : Below w.heap.size w W0 := by rw [hW0]; exact (Below.refl _ _).alloc (Nat.le_refl _) _
  have hq : BoxD W0 w.heap.size (B : Int) (.slice a1 bs.length c1) (.slice a2 bs.length c2) := by rw [hW0]; exact BoxD.new w _ _ _
  obtain ⟨x0, x1, x2, _⟩ := hq.cells
  have hw : IntKind.i64.wrap ((B : Int) + (k : Int)) = ((B + k : Nat) : Int) := by rw [IntKind.wrap_i64]; omega
  have hrow := h2.below hb0
  have hlen := sfs_len hk
  obtain ⟨E, hE⟩ : ∃ E, E = B + k := ⟨_, rfl⟩
  obtain ⟨n, hn⟩ : ∃ n, n = bs.length := ⟨_, rfl⟩
  have hnb : n ≤ 9223372036854775807 := by omega
  rw [← hE] at hw
  rw [← hE]
  rw [← hn] at hrow hk x1 x2 hW0 hlen
  rw [← hn]
  have hnb := hide_it (show n < 9223372036854775807 ∨ n = 9223372036854775807 by omega)
  clear h h2 hr hE hn hq
  go_enter Try.func29, Try.ntmps29
  go_wp2_with fail
  rw [← hW0]
  clear hW0
  go_loopw [3, 4] (fun c i wr => ∃ m : Nat, m ≤ n ∧ i = .int .i64 (m : Int) ∧ c = .int .i64 ((min m k : Nat) : Int) ∧ wr = W0) (fun _ i _ => n - (intOf i).toNat)
  case atStart => exact ⟨0, by omega, rfl, by simp, rfl⟩
  case round =>
    obtain ⟨m, hm, rfl, rfl, hq⟩ := hrel
    subst hq
    by_cases hlt : m < n
    · obtain ⟨bk, off, rfl, hbk, hc⟩ := hrow.here (i := m) (by rw [hlen]; exact hlt)
      have hz := hc m (by rw [hlen]; exact hlt)
      rw [sfs_at hlt] at hz
      have hms : m < 9223372036854775807 := by have := hnb.out; omega
      have hwm : IntKind.i64.wrap ((m : Int) + 1) = ((m + 1 : Nat) : Int) := by rw [IntKind.wrap_i64]; omega
      replace hms := hide_it hms
      clear hc hrow hnb
      by_cases hmk : m < k
      · have e1 : min m k = m := by omega
        have e2 : Hid (min (m + 1) k = m + 1) := by unfold Hid; omega
        rw [e1]
        simp only [hmk, decide_true] at hz
        go_wp2_with fail
        go_roundw
        case rel => exact ⟨m + 1, by omega, by first | rfl | go_num, by rw [e2.out] <;> simp, by first | rfl | trivial⟩
        case measure => simp [intOf]; omega
      · have e1 : min m k = k := by omega
        have e2 : Hid (min (m + 1) k = k) := by unfold Hid; omega
        rw [e1]
        simp only [hmk, decide_false] at hz
        go_wp2_with fail
        go_roundw
        case rel => exact ⟨m + 1, by omega, by first | rfl | go_num, by rw [e2.out] <;> simp, by first | rfl | trivial⟩
        case measure => simp [intOf]; omega
    · have hmn : m = n := by omega
      have e1 : min m k = k := by omega
      rw [e1]
      subst hmn
      clear hrow
      go_wp2_with fail
      go_ret
      exact ⟨rfl, hb0⟩

end Go.Proofs.Ytejaaalgnbnalaa
