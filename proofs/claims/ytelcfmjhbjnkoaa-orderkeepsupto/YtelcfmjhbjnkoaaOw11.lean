/- A text taken off a text by the program's reader. -/
import Derived.Test.YtelcfmjhbjnkoaaOw10
namespace Go.Proofs.Ytelcfmjhbjnkoaa
open Go.RowKit

theorem RdO.size_le {w : World} {g : Nat} {s : ByteArray} {b : Bool} (_ : RdO w g s b) {t : List Nat} (h : strNat s = t) : s.size = t.length := by rw [← h, strNat_len]

/-- How what is left of a text is read, when some bytes of it are there. -/
def txtTo (pre l : List Nat) : Option (List Nat × List Nat) := (takeT l).map fun p => (pre ++ p.1, p.2)
theorem txtTo_nz {z : Nat} (h : z ≠ 0) (pre l : List Nat) : txtTo pre (z :: l) = txtTo (pre ++ [z]) l := by
  unfold txtTo
  rw [takeT_nz h]
  cases takeT l <;> simp
theorem txtTo_go (pre l : List Nat) : txtTo pre (0 :: 255 :: l) = txtTo (pre ++ [0]) l := by
  unfold txtTo
  rw [takeT_z, if_neg (by decide), if_pos rfl]
  cases takeT l <;> simp
theorem txtTo_end (pre l : List Nat) : txtTo pre (0 :: 1 :: l) = some (pre, l) := by
  unfold txtTo
  rw [takeT_z, if_pos rfl]; simp
theorem txtTo_bad {y : Nat} (h1 : y ≠ 1) (h2 : y ≠ 255) (pre l : List Nat) : txtTo pre (0 :: y :: l) = none := by
  unfold txtTo
  rw [takeT_z, if_neg h1, if_neg h2]; rfl
theorem txtTo_nil (pre : List Nat) : txtTo pre [] = none := by simp [txtTo, takeT]
theorem txtTo_cut (pre : List Nat) : txtTo pre [0] = none := by simp [txtTo, takeT]

theorem grown_own {w W w4 : World} {g : Nat} {v : Value} {pre : List Nat} (hg : w.grownBy W (some g)) (how : OwnB W w.heap.size v pre) (h4 : W.grownBy w4 v.ownBlock) : w.grownBy w4 (some g) := by
  refine ⟨h4.os.trans hg.os, h4.tape.trans hg.tape, h4.output.trans hg.output, Nat.le_trans hg.size h4.size, fun k hk hne => ?_⟩
  rw [h4.block k (Nat.lt_of_lt_of_le hk hg.size) ?_, hg.block k hk hne]
  intro e
  have := how.ge e.symm
  omega
/-- What is known behind a byte that was laid down. -/
theorem laid {w W w4 : World} {g z : Nat} {v : Value} {pre : List Nat} {s' : ByteArray} {b : Bool} (hgl : g < w.heap.size) (hg : w.grownBy W (some g)) (how : OwnB W w.heap.size v pre) (hr : RdO W g s' b)
    (h4 : (W.alloc (.cells #[.int .u8 (z : Int)] 5)).grownBy w4 v.ownBlock) : RdO w4 g s' b ∧ w.grownBy w4 (some g) := by
  have hb : Below W.heap.size W (W.alloc (.cells #[.int .u8 (z : Int)] 5)) := (Below.refl _ _).alloc (Nat.le_refl _) _
  have h5 := grown_of (grown_below hb _) h4 (.inl rfl)
  refine ⟨hr.grown h5 (fun e => ?_), grown_own hg how h5⟩
  have := how.ge e
  omega
/-- How much is left to do. -/
def todo (g : Nat) (wr : World) : Nat := match wr.cell? ⟨g, 1, none⟩ with | some (.bool true) => 0 | _ => (match wr.cell? ⟨g, 0, none⟩ with | some (.string q) => q.size + 1 | _ => 0)
theorem todo_at {g : Nat} {wr : World} {s : ByteArray} {b : Bool} (h : RdO wr g s b) : todo g wr = if b then 0 else s.size + 1 := by
  obtain ⟨c0, c1, _⟩ := h.cells
  unfold todo
  rw [c0, c1]
  cases b <;> rfl

set_option maxRecDepth 100000 in
set_option maxHeartbeats 1000000 in
theorem text_any (g : Nat) (s : ByteArray) (w : World) (hr : RdO w g s false) (hl : s.size ≤ 140737488351232) :
    Calls Try.prog 42 #[.pointer (some ⟨g, 0, none⟩)] w fun e w' => Rdg (takeT (strNat s)) (fun p => .string (strOf p)) (fun v => ∃ q, v = .string q) g false w e w' := by
  have hsl : (strNat s).length = s.size := strNat_len s
  obtain ⟨res, hres⟩ : ∃ z, z = takeT (strNat s) := ⟨_, rfl⟩
  rw [← hres]
  have hlt := hr.lt
  have hstart : Hid (res = txtTo [] (strNat s)) := by unfold Hid txtTo; rw [← hres]; cases res <;> simp
  clear hres
  have HR := hide_it hr
  clear hr
  go_enter Try.func42, Try.ntmps42
  go_wp2_with fail
  go_loopw [3] (fun v wr => ∃ (pre : List Nat) (s' : ByteArray) (b : Bool), OwnB wr w.heap.size v pre ∧ RdO wr g s' b ∧ w.grownBy wr (some g) ∧ s'.size ≤ s.size ∧ (b = false → pre.length + s'.size ≤ s.size) ∧ Hid (b = false → res = txtTo pre (strNat s')) ∧ Hid (b = true → res = none)) (fun _ wr => todo g wr)
  case atStart => exact ⟨[], s, false, World.ownsRow_nil _ _ _ _, HR.out, grown_refl _ _, Nat.le_refl _, by simp, fun _ => hstart.out, fun h => by cases h⟩
  case round =>
    obtain ⟨pre, s', b, how, hr, hg, hln, hln2, hto, hno⟩ := hrel
    have hm0 := todo_at hr
    have hgs := hg.size
    have hsl' : (strNat s').length = s'.size := strNat_len s'
    cases b with
    | true =>
      obtain ⟨c0, c1, f0, f1⟩ := hr.cells
      have hn := hno.out rfl
      have HR2 := hide_it hr
      clear hr hm0
      go_wp2_with fail
      go_ret
      exact ⟨hg, _, s', rfl, ⟨_, rfl⟩, HR2.out, by omega⟩
    | false =>
      have hln3 := hln2 rfl
      have hto2 := hide_it (hto.out rfl)
      obtain ⟨c0, c1, f0, f1⟩ := hr.cells
      clear hln2 hto hno
      cases hs : strNat s' with
      | nil =>
        rw [hs] at hsl'
        have hs0 : s'.size = 0 := by simpa using hsl'.symm
        have o1 := octet_nil g s' false wr hr hs0
        have hr1 := hr.set1 true
        have o2 := octet_nil g s' true _ hr1 hs0
        have hr2 := hr1.set1 true
        have hr3 := hr2.set1 true
        obtain ⟨c0', c1', f0', f1'⟩ := hr2.cells
        have how3 := ((how.set_old hlt 1 (.bool true)).set_old hlt 1 (.bool true)).set_old hlt 1 (.bool true)
        have hg3 := grown_cell (grown_cell (grown_cell hg 1 (.bool true)) 1 (.bool true)) 1 (.bool true)
        have HR3 := hide_it hr3
        clear hr hr1 hr2 hr3
        go_wp2_with fail
        refine o1.mono ?_
        rintro e w1 ⟨rfl, rfl⟩
        go_wp2_with fail
        refine o2.mono ?_
        rintro e w2 ⟨rfl, rfl⟩
        clear o1 o2 how
        go_wp2_with (at_builtin; refine wpList_append_byte _ rfl _ _ rfl w.heap.size _ _ rfl how3 0 (by first | rfl | (show Value.slice (some ⟨_, 0, none⟩) 1 1 = _; simp)) (by first | omega | (simp; omega)) (by first | omega | (simp; omega)) ?_; intro v4 w4 hown4 hg4 hat4)
        obtain ⟨hr4, hgw4⟩ := laid hlt hg3 how3 HR3.out hg4
        go_roundw
        case rel => exact ⟨pre ++ [0], s', true, hown4, hr4, hgw4, by omega, (fun h => by cases h), (fun h => by cases h), fun _ => by rw [hto2.out, hs, txtTo_nil]⟩
        case measure => rw [todo_at hr4, hm0]; simp
      | cons z t =>
        have hz8 : z < 256 := strNat_all s' z (by rw [hs]; exact List.mem_cons_self)
        have hst : s'.size = t.length + 1 := by rw [← hsl', hs]; simp
        have o1 := octet_cons g z t s' false wr hr (by omega) hs
        by_cases hz : z = 0
        · subst hz
          go_wp2_with fail
          refine o1.mono ?_
          rintro e w1 ⟨q, hq, rfl, hw1⟩
          have hr1 : RdO w1 g q false := by rw [hw1]; exact hr.set0 q
          have how1 : OwnB w1 w.heap.size u3 pre := by rw [hw1]; exact how.set_old hlt 0 (.string q)
          have hg1 : w.grownBy w1 (some g) := by rw [hw1]; exact grown_cell hg _ _
          have hqs : q.size = t.length := by rw [← strNat_len, hq]
          clear hw1 o1 c0 c1 f0 f1 how hg
          have hgs1 := hg1.size
          cases ht : t with
          | nil =>
            rw [ht] at hqs hst hs
            have hq0 : q.size = 0 := by simpa using hqs
            have o2 := octet_nil g q false _ hr1 hq0
            have hr2 := hr1.set1 true
            have hr3 := hr2.set1 true
            obtain ⟨c0', c1', f0', f1'⟩ := hr2.cells
            have how3 := (how1.set_old hlt 1 (.bool true)).set_old hlt 1 (.bool true)
            have hg3 := grown_cell (grown_cell hg1 1 (.bool true)) 1 (.bool true)
            have HR3 := hide_it hr3
            clear hr hr1 hr2 hr3 how1
            go_wp2_with fail
            refine o2.mono ?_
            rintro e w2 ⟨rfl, rfl⟩
            clear o2
            go_wp2_with (at_builtin; refine wpList_append_byte _ rfl _ _ rfl w.heap.size _ _ rfl how3 0 (by first | rfl | (show Value.slice (some ⟨_, 0, none⟩) 1 1 = _; simp)) (by first | omega | (simp; omega)) (by first | omega | (simp; omega)) ?_; intro v4 w4 hown4 hg4 hat4)
            obtain ⟨hr4, hgw4⟩ := laid hlt hg3 how3 HR3.out hg4
            go_roundw
            case rel => exact ⟨pre ++ [0], q, true, hown4, hr4, hgw4, by omega, (fun h => by cases h), (fun h => by cases h), fun _ => by rw [hto2.out, hs, txtTo_cut]⟩
            case measure => rw [todo_at hr4, hm0]; simp
          | cons y m =>
            rw [ht] at hqs hst hs hq
            have hy8 : y < 256 := strNat_all q y (by rw [hq]; exact List.mem_cons_self)
            have hqs2 : q.size = m.length + 1 := by simpa using hqs
            have o2 := octet_cons g y m q false _ hr1 (by omega) hq
            go_wp2_with fail
            refine o2.mono ?_
            rintro e w2 ⟨q2, hq2, rfl, hw2⟩
            have hr2 : RdO w2 g q2 false := by rw [hw2]; exact hr1.set0 q2
            have how2 : OwnB w2 w.heap.size u3 pre := by rw [hw2]; exact how1.set_old hlt 0 (.string q2)
            have hg2 : w.grownBy w2 (some g) := by rw [hw2]; exact grown_cell hg1 _ _
            have hgs2 := hg2.size
            have hqs3 : q2.size = m.length := by rw [← strNat_len, hq2]
            clear hw2 o2 hr1 how1 hg1 hr
            by_cases h1 : y = 1
            · subst h1
              obtain ⟨p1, c1, hv1, hp1, _, _, hn1⟩ := how2.row
              subst hv1
              have hcv := conv_row hp1 hn1
              have HR2 := hide_it hr2
              clear hr2 how2
              go_wp2_with fail
              go_ret
              have hfin := hto2.out
              rw [hs, txtTo_end] at hfin
              rw [hfin]
              exact ⟨hg2, rfl, q2, HR2.out, hq2, by omega⟩
            · have hd1 : ((y : Int) == 1) = false := by simp; omega
              by_cases h2 : y = 255
              · subst h2
                have HR2 := hide_it hr2
                clear hr2
                go_wp2_with (at_builtin; refine wpList_append_byte _ rfl _ _ rfl w.heap.size _ _ rfl how2 0 (by first | rfl | (show Value.slice (some ⟨_, 0, none⟩) 1 1 = _; simp)) (by first | omega | (simp; omega)) (by first | omega | (simp; omega)) ?_; intro v4 w4 hown4 hg4 hat4)
                obtain ⟨hr4, hgw4⟩ := laid hlt hg2 how2 HR2.out hg4
                go_roundw
                case rel => exact ⟨pre ++ [0], q2, false, hown4, hr4, hgw4, by omega, (fun _ => by simp; omega), (fun _ => by rw [hto2.out, hs, hq2, txtTo_go]), fun h => by cases h⟩
                case measure => rw [todo_at hr4, hm0]; simp; omega
              · have hd2 : ((y : Int) == 255) = false := by simp; omega
                obtain ⟨c0', c1', f0', f1'⟩ := hr2.cells
                have how3 := how2.set_old hlt 1 (.bool true)
                have hg3 := grown_cell hg2 1 (.bool true)
                have HR3 := hide_it (hr2.set1 true)
                clear hr2 how2
                go_wp2_with (at_builtin; refine wpList_append_byte _ rfl _ _ rfl w.heap.size _ _ rfl how3 0 (by first | rfl | (show Value.slice (some ⟨_, 0, none⟩) 1 1 = _; simp)) (by first | omega | (simp; omega)) (by first | omega | (simp; omega)) ?_; intro v4 w4 hown4 hg4 hat4)
                obtain ⟨hr4, hgw4⟩ := laid hlt hg3 how3 HR3.out hg4
                go_roundw
                case rel => exact ⟨pre ++ [0], q2, true, hown4, hr4, hgw4, by omega, (fun h => by cases h), (fun h => by cases h), fun _ => by rw [hto2.out, hs, txtTo_bad h1 h2]⟩
                case measure => rw [todo_at hr4, hm0]; simp
        · have hd : ((z : Int) == 0) = false := by simp; omega
          go_wp2_with fail
          refine o1.mono ?_
          rintro e w1 ⟨q, hq, rfl, hw1⟩
          have HR1 : Hid (RdO w1 g q false) := by rw [hw1]; exact hr.set0 q
          have how2 : OwnB w1 w.heap.size u3 pre := by rw [hw1]; exact how.set_old hlt 0 (.string q)
          have hg1 : w.grownBy w1 (some g) := by rw [hw1]; exact grown_cell hg _ _
          have hqs : q.size = t.length := by rw [← strNat_len, hq]
          have hgs1 := hg1.size
          clear hw1 o1 c0 c1 f0 f1 how hg hr
          go_wp2_with (at_builtin; refine wpList_append_byte _ rfl _ _ rfl w.heap.size _ _ rfl how2 z (by first | rfl | (show Value.slice (some ⟨_, 0, none⟩) 1 1 = _; simp)) (by first | omega | (simp; omega)) (by first | omega | (simp; omega)) ?_; intro v4 w4 hown4 hg4 hat4)
          obtain ⟨hr4, hgw4⟩ := laid hlt hg1 how2 HR1.out hg4
          go_roundw
          case rel => exact ⟨pre ++ [z], q, false, hown4, hr4, hgw4, by omega, (fun _ => by simp; omega), (fun _ => by rw [hto2.out, hs, hq, txtTo_nz hz]), fun h => by cases h⟩
          case measure => rw [todo_at hr4, hm0]; simp; omega

end Go.Proofs.Ytelcfmjhbjnkoaa
