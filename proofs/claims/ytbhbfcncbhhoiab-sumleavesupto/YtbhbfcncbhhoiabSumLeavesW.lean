/- The law on memory, walked. -/
import Derived.Test.YtbhbfcncbhhoiabSm5
import Derived.Test.YtbhbfcncbhhoiabOpenB
import Derived.Test.YtbhbfcncbhhoiabReg2
namespace Go.Proofs.Ytbhbfcncbhhoiab.sumLeaves
open Go.RowKit

/-- The four slices of the call's own. -/
structure Kp (w : World) (gl cl gm cm gw cw gv cv : Nat) (L M L' M' : List Nat) (wr : World) : Prop where
  l : Ow wr gl cl L
  m : Ow wr gm cm M
  was : Ow wr gw cw L'
  wasm : Ow wr gv cv M'
  bel : Below w.heap.size w wr
theorem Kp.below {w : World} {gl cl gm cm gw cw gv cv : Nat} {L M L' M' : List Nat} {wr wr' : World} (h : Kp w gl cl gm cm gw cw gv cv L M L' M' wr) (hb : Below wr.heap.size wr wr') : Kp w gl cl gm cm gw cw gv cv L M L' M' wr' :=
  ⟨h.l.keep (hb.block _ h.l.lt), h.m.keep (hb.block _ h.m.lt), h.was.keep (hb.block _ h.was.lt), h.wasm.keep (hb.block _ h.wasm.lt), h.bel.trans (hb.mono h.bel.size)⟩
theorem Kp.grown {w : World} {gl cl gm cm gw cw gv cv p : Nat} {L M L' M' : List Nat} {wr wr' : World} (h : Kp w gl cl gm cm gw cw gv cv L M L' M' wr) (hg : wr.grownBy wr' (some p)) (hl : gl < p) (hm : gm < p) (hw : gw < p) (hv : gv < p) (hp : w.heap.size ≤ p) : Kp w gl cl gm cm gw cw gv cv L M L' M' wr' :=
  ⟨h.l.keep (hg.block _ h.l.lt (fun e => by cases e; omega)), h.m.keep (hg.block _ h.m.lt (fun e => by cases e; omega)), h.was.keep (hg.block _ h.was.lt (fun e => by cases e; omega)), h.wasm.keep (hg.block _ h.wasm.lt (fun e => by cases e; omega)), h.bel.grown hg h.bel.size (fun j e => by cases e; exact hp)⟩
theorem take_pre (xs ys : List Nat) : (xs ++ ys).take xs.length = xs := by simp
theorem rep_8 {n x : Nat} (hx : x < 256) : All8 (List.replicate n x) := fun z hz => by rw [List.eq_of_mem_replicate hz]; exact hx
theorem Strm.keep {w w' : World} {p : Nat} {C : Array Value} {t : TypeId} {o n s : Nat} (h : Strm w p C t o n s) (e : w'.heap[p]? = w.heap[p]?) : Strm w' p C t o n s := ⟨e.trans h.blk, h.len, h.sum⟩

theorem Ow.soft {w : World} {g c : Nat} {zs : List Nat} (h : Ow w g c zs) {i : Nat} (hi : i < zs.length) : w.cell? ⟨g, i, none⟩ = some (.int .u8 ((at0 zs i : Nat) : Int)) ∧ w.frozen? ⟨g, i, none⟩ = false := by
  obtain ⟨g', cur, e, _, _, hh, hc⟩ := h.own.at h.pos
  cases e
  exact ⟨(cell_of_row _ _ _ _ _ _ hh).trans (hc i hi), frozen_of_row _ _ _ _ _ hh⟩
theorem Kp.setl {w : World} {gl cl gm cm gw cw gv cv : Nat} {L M L' M' : List Nat} {wr : World} (h : Kp w gl cl gm cm gw cw gv cv L M L' M' wr) {i : Nat} (hi : i < L.length) (x : Nat) (hm : gm ≠ gl) (hw : gw ≠ gl) (hv : gv ≠ gl) (hp : w.heap.size ≤ gl) : Kp w gl cl gm cm gw cw gv cv (L.set i x) M L' M' (wr.setCell ⟨gl, i, none⟩ (.int .u8 (x : Int))) :=
  ⟨h.l.set hi x, h.m.keep (Below.heap_setCell _ _ _ _ hm), h.was.keep (Below.heap_setCell _ _ _ _ hw), h.wasm.keep (Below.heap_setCell _ _ _ _ hv), h.bel.setCell hp _⟩
theorem Kp.setm {w : World} {gl cl gm cm gw cw gv cv : Nat} {L M L' M' : List Nat} {wr : World} (h : Kp w gl cl gm cm gw cw gv cv L M L' M' wr) {i : Nat} (hi : i < M.length) (x : Nat) (hl : gl ≠ gm) (hw : gw ≠ gm) (hv : gv ≠ gm) (hp : w.heap.size ≤ gm) : Kp w gl cl gm cm gw cw gv cv L (M.set i x) L' M' (wr.setCell ⟨gm, i, none⟩ (.int .u8 (x : Int))) :=
  ⟨h.l.keep (Below.heap_setCell _ _ _ _ hl), h.m.set hi x, h.was.keep (Below.heap_setCell _ _ _ _ hw), h.wasm.keep (Below.heap_setCell _ _ _ _ hv), h.bel.setCell hp _⟩

theorem grownAll {w : World} {gl cl gm cm gw cw gv cv p : Nat} {L M L' M' : List Nat} {wr wr' : World} {C : Array Value} {t : TypeId} {N S : Nat} {v : Value} {zs : List Nat} (h : Kp w gl cl gm cm gw cw gv cv L M L' M' wr) (hs : Strm wr p C t 0 N S) (ho : OwnB wr (p + 1) v zs) (hg : wr.grownBy wr' v.ownBlock) (hl : gl < p) (hm : gm < p) (hw : gw < p) (hv : gv < p) (hp : w.heap.size ≤ p) : Kp w gl cl gm cm gw cw gv cv L M L' M' wr' ∧ Strm wr' p C t 0 N S := by
  have hk : ∀ g, g ≤ p → g < wr.heap.size → wr'.heap[g]? = wr.heap[g]? := fun g h1 h2 => hg.block g h2 (fun e => by have := ho.ge e.symm; omega)
  exact ⟨⟨h.l.keep (hk _ (by omega) h.l.lt), h.m.keep (hk _ (by omega) h.m.lt), h.was.keep (hk _ (by omega) h.was.lt), h.wasm.keep (hk _ (by omega) h.wasm.lt), h.bel.grown hg h.bel.size (fun j e => by have := ho.ge e; omega)⟩, Strm.keep hs (hk p (Nat.le_refl _) hs.plt)⟩

set_option maxRecDepth 100000 in
set_option maxHeartbeats 8000000 in
theorem walk (a : Option Addr) (ca : Nat) (xs : List Nat) (b : Option Addr) (cb : Nat) (ys : List Nat) (f : Nat) (hf : f < 4294967296) (w : World) (hx : Came8 w a ca xs) (lx : xs.length ≤ 1048576) (hy : Came8 w b cb ys) (ly : ys.length ≤ 1048576) :
    Calls Try.prog 3 #[.slice a xs.length ca, .slice b ys.length cb, .int .u32 (f : Int)] w fun e w' => e = .returned (.bool true) ∧ Below w.heap.size w w' := by
  have hx8 := hx.all
  have hy8 := hy.all
  have hxn := hx.none
  have hyn := hy.none
  have hxr := hx.row
  have hyr := hy.row
  have mx : xs.length ≤ maxLen := by unfold maxLen; omega
  have my : ys.length ≤ maxLen := by unfold maxLen; omega
  clear hx hy
  obtain ⟨L, hL⟩ : ∃ L, L = xs ++ marks 70 := ⟨_, rfl⟩
  obtain ⟨M, hM⟩ : ∃ M, M = ys ++ marks 70 := ⟨_, rfl⟩
  have lL : L.length = xs.length + 70 := by rw [hL]; simp [marks_len]
  have lM : M.length = ys.length + 70 := by rw [hM]; simp [marks_len]
  have tL : L.take xs.length = xs := by rw [hL]; exact take_pre _ _
  have tM : M.take ys.length = ys := by rw [hM]; exact take_pre _ _
  have LL := hide_it lL
  have LM := hide_it lM
  have TL := hide_it tL
  have TM := hide_it tM
  have HL := hide_it hL
  have HM := hide_it hM
  clear lL lM tL tM hL hM
  have iL : xs.length ≤ L.length := by have := LL.out; omega
  have iM : ys.length ≤ M.length := by have := LM.out; omega
  have bL : L.length ≤ 1048646 := by have := LL.out; omega
  have bM : M.length ≤ 1048646 := by have := LM.out; omega
  have pL : 0 < L.length := by have := LL.out; omega
  have pM : 0 < M.length := by have := LM.out; omega
  go_enter Try.func3, Try.ntmps3
  go_wp2_with fail
  refine (head_any _).mono ?_
  rintro e w1 ⟨rfl, hb1⟩
  -- lent(a)
  go_wp2_with fail
  refine (lent_any a ca xs w1 (hxr.below hb1) (by omega) hxn).mono ?_
  rintro e w2 ⟨⟨r2, rfl, ho2⟩, hb2⟩
  rw [← HL.out] at ho2
  obtain ⟨gl, cl, hv, hgl, hl2⟩ := ho2.block pL
  subst hv
  have hbl2 := hb1.trans (hb2.mono hb1.size)
  have s1 := hb1.size
  clear ho2 hb1 hb2
  -- lent(b)
  go_wp2_with fail
  refine (lent_any b cb ys w2 (hyr.below hbl2) (by omega) hyn).mono ?_
  rintro e w3 ⟨⟨r3, rfl, ho3⟩, hb3⟩
  rw [← HM.out] at ho3
  obtain ⟨gm, cm, hv, hgm, hm3⟩ := ho3.block pM
  subst hv
  have hl3 := hl2.keep (hb3.block _ hl2.lt)
  have hbl3 := hbl2.trans (hb3.mono hbl2.size)
  have q2 := hl2.lt
  clear ho3 hb3 hl2 hbl2
  -- copied(l)
  go_wp2_with fail
  refine (copied_any (some ⟨gl, 0, none⟩) cl L w3 hl3.row (by omega) (fun e => by cases e)).mono ?_
  rintro e w4 ⟨⟨r4, rfl, ho4⟩, hb4⟩
  obtain ⟨gw, cw, hv, hgw, hw4⟩ := ho4.block pL
  subst hv
  have hl4 := hl3.keep (hb4.block _ hl3.lt)
  have hm4 := hm3.keep (hb4.block _ hm3.lt)
  have hbl4 := hbl3.trans (hb4.mono hbl3.size)
  have q3 := hm3.lt
  clear ho4 hb4 hl3 hm3 hbl3
  -- copied(m)
  go_wp2_with fail
  refine (copied_any (some ⟨gm, 0, none⟩) cm M w4 hm4.row (by omega) (fun e => by cases e)).mono ?_
  rintro e w5 ⟨⟨r5, rfl, ho5⟩, hb5⟩
  obtain ⟨gv, cv, hv, hgv, hv5⟩ := ho5.block pM
  subst hv
  have K5 : Kp w gl cl gm cm gw cw gv cv L M L M w5 := ⟨hl4.keep (hb5.block _ hl4.lt), hm4.keep (hb5.block _ hm4.lt), hw4.keep (hb5.block _ hw4.lt), hv5, hbl4.trans (hb5.mono hbl4.size)⟩
  have q4 := hw4.lt
  clear ho5 hb5 hl4 hm4 hw4 hv5 hbl4
  -- the document's
  have hof := rof_any a ca xs w5 (hxr.below K5.bel) hx8 mx
  obtain ⟨S1, hS1⟩ : ∃ S, S = moreN 0 xs := ⟨_, rfl⟩
  have HS1 := hide_it hS1
  rw [← hS1] at hof
  clear hS1
  go_wp2_with fail
  refine hof.mono ?_
  rintro e w6 ⟨rfl, hq⟩
  have hq2 := hq.symm
  subst hq2
  clear hq hof
  have hmo := rmore_any f hf b cb ys w5 (hyr.below K5.bel) hy8 my
  obtain ⟨S2, hS2⟩ : ∃ S, S = moreN f ys := ⟨_, rfl⟩
  have HS2 := hide_it hS2
  rw [← hS2] at hmo
  clear hS2
  go_wp2_with fail
  refine hmo.mono ?_
  rintro e w6 ⟨rfl, hq⟩
  have hq2 := hq.symm
  subst hq2
  clear hq hmo
  -- Of(l[:len(a)])
  have kl := K5.l.fits
  have km := K5.m.fits
  have kw := K5.was.fits
  have kv := K5.wasm.fits
  have ixl : (xs.length : Int) ≤ (cl : Int) := by omega
  have iym : (ys.length : Int) ≤ (cm : Int) := by omega
  have q5 := K5.wasm.lt
  have hs0 : Strm (w5.alloc (.cells #[.int .i64 0, .int .u32 0] 31)) w5.heap.size #[.int .i64 0, .int .u32 0] 31 0 0 0 := ⟨heap_alloc_new w5 _, rfl, rfl⟩
  have K6 := K5.below ((Below.refl _ _).alloc (Nat.le_refl _) (.cells #[.int .i64 0, .int .u32 0] 31))
  have rl6 := RowB.take K6.l.row xs.length
  rw [TL.out] at rl6
  have hof := of_any _ cl xs _ rl6 hx8 mx
  rw [← HS1.out] at hof
  have wb := K5.bel.size
  obtain ⟨p, hp⟩ : ∃ p, p = w5.heap.size := ⟨_, rfl⟩
  obtain ⟨W6, hW6⟩ : ∃ W6, W6 = w5.alloc (.cells #[.int .i64 0, .int .u32 0] 31) := ⟨_, rfl⟩
  clear rl6 K5
  go_wp2_with fail
  rw [← hW6] at hof K6 hs0
  rw [← hp] at hs0 q5 wb
  rw [← hp, ← hW6]
  clear hp hW6
  refine hof.mono ?_
  rintro e w7 ⟨rfl, hb7⟩
  have K7 := K6.below hb7
  have hs7 := Strm.keep hs0 (hb7.block _ hs0.plt)
  clear hof hs0 K6 hb7
  -- More(first, m[:len(b)])
  have rm7 := RowB.take K7.m.row ys.length
  rw [TM.out] at rm7
  have hmo := more_any f hf _ cm ys _ rm7 hy8 my
  rw [← HS2.out] at hmo
  clear rm7
  go_wp2_with fail
  refine hmo.mono ?_
  rintro e w8 ⟨rfl, hb8⟩
  have K8 := K7.below hb8
  have hs8 := Strm.keep hs7 (hb8.block _ hs7.plt)
  clear hmo hs7 K7 hb8
  -- Write(l[:len(a)])
  have rl8 := RowB.take K8.l.row xs.length
  rw [TL.out] at rl8
  have hwr := write_any p 0 0 0 _ _ _ cl xs _ hs8 (by unfold W32; omega) rl8 hx8 (.inr fun x e => by cases e; show gl ≠ p; omega) (by omega) mx
  rw [← HS1.out, Nat.zero_add] at hwr
  clear rl8
  go_wp2_with fail
  refine hwr.mono ?_
  rintro e w9 ⟨rfl, hs9, hg9⟩
  have K9 := K8.grown hg9 (by omega) (by omega) (by omega) (by omega) (by omega)
  clear hwr hs8 K8 hg9
  -- Write(m[:len(b)])
  have h32 : W32 S1 := by rw [HS1.out]; exact more32 (by unfold W32; omega) hx8
  have rm9 := RowB.take K9.m.row ys.length
  rw [TM.out] at rm9
  have hwr := write_any p 0 xs.length S1 _ _ _ cm ys _ hs9 h32 rm9 hy8 (.inr fun x e => by cases e; show gm ≠ p; omega) (by omega) my
  obtain ⟨S3, hS3⟩ : ∃ S, S = moreN S1 ys := ⟨_, rfl⟩
  have HS3 := hide_it hS3
  rw [← hS3] at hwr
  clear rm9 hS3
  go_wp2_with fail
  refine hwr.mono ?_
  rintro e w10 ⟨rfl, hs10, hg10⟩
  have K10 := K9.grown hg10 (by omega) (by omega) (by omega) (by omega) (by omega)
  clear hwr hs9 K9 hg10
  -- all the same
  have hd1 : ((S1 : Int) != (S1 : Int)) = false := by simp
  have hd2 : ((S2 : Int) != (S2 : Int)) = false := by simp
  go_wp2_with fail
  refine (same_any _ _ cl cw L _ K10.l.row K10.was.row (fun e => by cases e) (fun e => by cases e)).mono ?_
  rintro e w11 ⟨rfl, hq⟩
  have hq2 := hq.symm
  subst hq2
  clear hq
  go_wp2_with fail
  refine (same_any _ _ cm cv M _ K10.m.row K10.wasm.row (fun e => by cases e) (fun e => by cases e)).mono ?_
  rintro e w11 ⟨rfl, hq⟩
  have hq2 := hq.symm
  subst hq2
  clear hq
  go_wp2_with fail
  obtain ⟨C, hC⟩ : ∃ C, C = put2 (put2 #[.int .i64 0, .int .u32 0] 0 xs.length S1) 0 (xs.length + ys.length) S3 := ⟨_, rfl⟩
  rw [← hC] at hs10
  obtain ⟨N, hN⟩ : ∃ N, N = xs.length + ys.length := ⟨_, rfl⟩
  rw [← hN] at hs10
  have HN := hide_it hN
  clear hC hN
  go_loopw [78] (fun i wr => ∃ k : Nat, k ≤ L.length ∧ i = .int .i64 (k : Int) ∧ Kp w gl cl gm cm gw cw gv cv (List.replicate k 7 ++ L.drop k) M L M wr ∧ Strm wr p C 31 0 N S3) (fun i _ => L.length - (intOf i).toNat)
  case atStart => exact ⟨0, by omega, rfl, by simpa using K10, hs10⟩
  case round =>
    obtain ⟨k, hk, rfl, K11, hs11⟩ := hrel
    clear K10 hs10
    by_cases hlt : k < L.length
    · have hi1 : (k : Int) < (L.length : Int) := by omega
      have hkl : k < (List.replicate k 7 ++ L.drop k).length := by rw [fill_len (by omega)]; exact hlt
      obtain ⟨c1, f1⟩ := Ow.soft K11.l hkl
      have K12 := K11.setl hkl 7 (by omega) (by omega) (by omega) (by omega)
      rw [fill_step hlt] at K12
      have hs12 := Strm.keep (w' := wr.setCell ⟨gl, k, none⟩ (.int .u8 ((7 : Nat) : Int))) hs11 (Below.heap_setCell _ _ _ _ (show p ≠ gl by omega))
      clear K11 hs11
      go_wp2_with fail
      go_roundw
      case rel => exact ⟨k + 1, by omega, by go_num, K12, hs12⟩
      case measure => simp [intOf]; omega
    · have hkl : k = L.length := by omega
      subst hkl
      rw [List.drop_length, List.append_nil] at K11
      go_wp2_with fail
      go_loopw [87] (fun i wr => ∃ k : Nat, k ≤ M.length ∧ i = .int .i64 (k : Int) ∧ Kp w gl cl gm cm gw cw gv cv (List.replicate L.length 7) (List.replicate k 9 ++ M.drop k) L M wr ∧ Strm wr p C 31 0 N S3) (fun i _ => M.length - (intOf i).toNat)
      case atStart => exact ⟨0, by omega, rfl, by simpa using K11, hs11⟩
      case round =>
        obtain ⟨k, hk, rfl, K13, hs13⟩ := hrel
        clear K11 hs11
        by_cases hlt : k < M.length
        · have hi1 : (k : Int) < (M.length : Int) := by omega
          have hkl : k < (List.replicate k 9 ++ M.drop k).length := by rw [fill_len (by omega)]; exact hlt
          obtain ⟨c1, f1⟩ := Ow.soft K13.m hkl
          have K14 := K13.setm hkl 9 (by omega) (by omega) (by omega) (by omega)
          rw [fill_step hlt] at K14
          have hs14 := Strm.keep (w' := wr.setCell ⟨gm, k, none⟩ (.int .u8 ((9 : Nat) : Int))) hs13 (Below.heap_setCell _ _ _ _ (show p ≠ gm by omega))
          clear K13 hs13
          go_wp2_with fail
          go_roundw
          case rel => exact ⟨k + 1, by omega, by go_num, K14, hs14⟩
          case measure => simp [intOf]; omega
        · have hkl : k = M.length := by omega
          subst hkl
          rw [List.drop_length, List.append_nil] at K13
          -- again
          have tR : (List.replicate L.length 7).take xs.length = List.replicate xs.length 7 := by rw [List.take_replicate]; congr 1; omega
          have rl13 := RowB.take K13.l.row xs.length
          rw [tR] at rl13
          have hof := of_any _ cl _ _ rl13 (rep_8 (n := xs.length) (by omega)) (by rw [List.length_replicate]; exact mx)
          rw [List.length_replicate] at hof
          obtain ⟨S4, hS4⟩ : ∃ S, S = moreN 0 (List.replicate xs.length 7) := ⟨_, rfl⟩
          have HS4 := hide_it hS4
          have TR := hide_it tR
          rw [← hS4] at hof
          clear rl13 hS4 tR
          go_wp2_with fail
          refine hof.mono ?_
          rintro e w14 ⟨rfl, hb14⟩
          have K14 := K13.below hb14
          have hs14 := Strm.keep hs13 (hb14.block _ hs13.plt)
          clear hof hb14 K13 hs13
          have ixw : (xs.length : Int) ≤ (cw : Int) := by omega
          have iyv : (ys.length : Int) ≤ (cv : Int) := by omega
          go_wp2_with fail
          refine wp_region_held_drew (S := (fun w' => Kp w gl cl gm cm gw cw gv cv (List.replicate L.length 7) (List.replicate M.length 9) L M w' ∧ Strm w' p C 31 0 N S3)) (by kernel_rfl) ?_ (fun hHeld => ?_)
          · exact ⟨K14.below (Below.refl _ _).drew, Strm.keep hs14 rfl⟩
          refine take_on (i := 0) (v := ?_) rfl rfl (by kernel_rfl) (by kernel_rfl) (by kernel_rfl) (fun _ _ _ h => h) rfl ?_ hHeld ?_
          rotate_left
          · (intro wq hSq; skip; go_simp <;> first | with_reducible rfl | rfl)
          simp only [Act.put, List.setIfInBounds_toArray, List.set_cons_zero, List.set_cons_succ]
          refine take_on (i := 1) (v := ?_) rfl rfl (by kernel_rfl) (by kernel_rfl) (by kernel_rfl) (fun _ _ _ h => h) rfl ?_ hHeld ?_
          rotate_left
          · (intro wq hSq; skip; go_simp <;> first | with_reducible rfl | rfl)
          simp only [Act.put, List.setIfInBounds_toArray, List.set_cons_zero, List.set_cons_succ]
          refine take_on (i := 2) (v := ?_) rfl rfl (by kernel_rfl) (by kernel_rfl) (by kernel_rfl) (fun _ _ _ h => h) rfl ?_ hHeld ?_
          rotate_left
          · (intro wq hSq; skip; go_simp <;> first | with_reducible rfl | rfl)
          simp only [Act.put, List.setIfInBounds_toArray, List.set_cons_zero, List.set_cons_succ]
          refine take_on (i := 3) (v := ?_) rfl rfl (by kernel_rfl) (by kernel_rfl) (by kernel_rfl) (fun _ _ _ h => h) rfl ?_ hHeld ?_
          rotate_left
          · (intro wq hSq; skip; go_simp <;> first | with_reducible rfl | rfl)
          simp only [Act.put, List.setIfInBounds_toArray, List.set_cons_zero, List.set_cons_succ]
          refine take_on (i := 5) (v := ?_) rfl rfl (by kernel_rfl) (by kernel_rfl) (by kernel_rfl) (fun _ _ _ h => h) rfl ?_ hHeld ?_
          rotate_left
          · (intro wq hSq; skip; go_simp <;> first | with_reducible rfl | rfl)
          simp only [Act.put, List.setIfInBounds_toArray, List.set_cons_zero, List.set_cons_succ]
          refine take_on (i := 6) (v := ?_) rfl rfl (by kernel_rfl) (by kernel_rfl) (by kernel_rfl) (fun _ _ _ h => h) rfl ?_ hHeld ?_
          rotate_left
          · (intro wq hSq; skip; go_simp <;> first | with_reducible rfl | rfl)
          simp only [Act.put, List.setIfInBounds_toArray, List.set_cons_zero, List.set_cons_succ]
          refine take_on (i := 7) (v := ?_) rfl rfl (by kernel_rfl) (by kernel_rfl) (by kernel_rfl) (fun _ _ _ h => h) rfl ?_ hHeld ?_
          rotate_left
          · (intro wq hSq; skip; go_simp <;> first | with_reducible rfl | rfl)
          simp only [Act.put, List.setIfInBounds_toArray, List.set_cons_zero, List.set_cons_succ]
          refine take_on (i := 8) (v := ?_) rfl rfl (by kernel_rfl) (by kernel_rfl) (by kernel_rfl) (fun _ _ _ h => h) rfl ?_ hHeld ?_
          rotate_left
          · (intro wq hSq; skip; go_simp <;> first | with_reducible rfl | rfl)
          simp only [Act.put, List.setIfInBounds_toArray, List.set_cons_zero, List.set_cons_succ]
          refine take_one (i := 4) rfl (by kernel_rfl) (fun K hK => ?_)
          go_simp
          have rw1 := RowB.take hHeld.1.was.row xs.length; rw [TL.out] at rw1; refine (copied_any (some ⟨gw, 0, none⟩) cw xs _ rw1 (by omega) (fun e => by cases e)).mono ?_; rintro e y1 ⟨⟨r1, rfl, ho1⟩, hb1⟩; have hS1 : Kp w gl cl gm cm gw cw gv cv (List.replicate L.length 7) (List.replicate M.length 9) L M y1 ∧ Strm y1 p C 31 0 N S3 := ⟨hHeld.1.below hb1, Strm.keep hHeld.2 (hb1.block _ hHeld.2.plt)⟩; have q6 := hHeld.2.plt; have ho2 : OwnB y1 (p + 1) r1 xs := ho1.mono q6; clear ho1 hb1 rw1
          try go_wp2_with fail
          refine hK.out _ _ ?_ (fun hHeld => ?_)
          · exact hS1
          clear hK K
          try simp only [Act.put, List.setIfInBounds_toArray, List.set_cons_zero, List.set_cons_succ]
          refine take_one (i := 9) rfl (by kernel_rfl) (fun K hK => ?_)
          have rv1 := RowB.take hHeld.1.wasm.row ys.length
          rw [TM.out] at rv1
          obtain ⟨v2, y2, hrun, ho3, hg3, _⟩ := run_append_rowB _ (p + 1) r1 xs 22 ho2 _ cv ys rv1 (by omega) hHeld.2.plt
          refine step_append_run rfl _ _ _ rfl _ _ _ _ rfl rfl hrun ?_
          have hS2 : Kp w gl cl gm cm gw cw gv cv (List.replicate L.length 7) (List.replicate M.length 9) L M y2 ∧ Strm y2 p C 31 0 N S3 := grownAll hHeld.1 hHeld.2 ho2 hg3 (by omega) (by omega) (by omega) (by omega) (by omega)
          refine hK.out _ _ ?_ (fun hHeld => ?_)
          · exact hS2
          clear hK K
          try simp only [Act.put, List.setIfInBounds_toArray, List.set_cons_zero, List.set_cons_succ]
          refine take_on (i := 10) (v := ?_) rfl rfl (by kernel_rfl) (by kernel_rfl) (by kernel_rfl) (fun _ _ _ h => h) rfl ?_ hHeld ?_
          rotate_left
          · (intro wq hSq; skip; go_simp <;> first | with_reducible rfl | rfl)
          simp only [Act.put, List.setIfInBounds_toArray, List.set_cons_zero, List.set_cons_succ]
          refine wpAnyH_done (by kernel_rfl) ?_ _
          obtain ⟨Z, hZ⟩ : ∃ Z, Z = xs ++ ys := ⟨_, rfl⟩
          rw [← hZ] at ho3
          have hZ8 : All8 Z := by
            rw [hZ]
            intro z hz
            rcases List.mem_append.1 hz with h | h
            · exact hx8 z h
            · exact hy8 z h
          have hZl : Z.length = N := by rw [hZ, List.length_append, HN.out]
          have hZS : moreN 0 Z = S3 := by rw [hZ, more_append, ← HS1.out, ← HS3.out]
          obtain ⟨p3, q3', hv3, hr3, _, _, _⟩ := ho3.row
          subst hv3
          have hof := rof_any p3 q3' Z y2 hr3 hZ8 (by rw [hZl, HN.out]; unfold maxLen; omega)
          rw [hZS] at hof
          have hd3 : ((S3 : Int) == (S3 : Int)) = true := by simp
          have hd4 : ((N : Int) == (Z.length : Int)) = true := by rw [hZl]; simp
          have hd5 : ((S4 : Int) == (S4 : Int)) = true := by simp
          obtain ⟨hK, hS⟩ := hHeld
          clear hZ hZ8 hZl hZS hr3 ho3 hS2 hrun hg3 ho2 rv1 hS1 K14 hs14
          go_wp2_with fail
          refine (sum_any p 0 _ _ C _ _ hS).mono ?_
          rintro e y3 ⟨rfl, hq⟩
          have hq2 := hq.symm
          subst hq2
          clear hq
          go_wp2_with fail
          refine hof.mono ?_
          rintro e y3 ⟨rfl, hq⟩
          have hq2 := hq.symm
          subst hq2
          clear hq hof
          go_wp2_with fail
          refine (len_any p 0 _ _ C _ _ hS).mono ?_
          rintro e y3 ⟨rfl, hq⟩
          have hq2 := hq.symm
          subst hq2
          clear hq
          have rl := RowB.take hK.l.row xs.length
          rw [TR.out] at rl
          have hof := rof_any _ cl _ _ rl (rep_8 (n := xs.length) (by omega)) (by rw [List.length_replicate]; exact mx)
          rw [List.length_replicate, ← HS4.out] at hof
          clear rl
          go_wp2_with fail
          refine hof.mono ?_
          rintro e y3 ⟨rfl, hq⟩
          have hq2 := hq.symm
          subst hq2
          clear hq hof
          go_wp2_with fail
          go_ret
          exact ⟨rfl, hK.bel⟩
end Go.Proofs.Ytbhbfcncbhhoiab.sumLeaves
