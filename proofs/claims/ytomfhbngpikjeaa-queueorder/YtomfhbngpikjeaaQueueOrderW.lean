/- The walk of the law QueueOrder. -/
import Derived.Test.YtomfhbngpikjeaaQuFix
import Derived.Test.YtomfhbngpikjeaaQu8I
import Derived.Test.YtomfhbngpikjeaaQuEqI
import Derived.Test.YtomfhbngpikjeaaStpQ
namespace Go.Proofs.Ytomfhbngpikjeaa.queueOrder
open Go.RowKit

/-- The queue, what was laid, what has gone. -/
structure Ord (w0 w : World) (b g most : Nat) (vl vg : Value) (laid gone xs : List Int) : Prop where
  qu : QuI w b g most xs
  ol : OwI w w0.heap.size vl laid
  og : OwI w w0.heap.size vg gone
  eq : laid = gone ++ xs
  offl : ∀ j, vl.ownBlock = some j → j ≠ b ∧ j ≠ g
  offg : ∀ j, vg.ownBlock = some j → j ≠ b ∧ j ≠ g
  far : ∀ j, vl.ownBlock = some j → vg.ownBlock ≠ some j
  bge : w0.heap.size ≤ b
  gge : w0.heap.size ≤ g
theorem Ord.below {w0 w w' : World} {b g most : Nat} {vl vg : Value} {laid gone xs : List Int} (h : Ord w0 w b g most vl vg laid gone xs) (hb : Below w.heap.size w w') : Ord w0 w' b g most vl vg laid gone xs :=
  ⟨h.qu.below hb, h.ol.below hb, h.og.below hb, h.eq, h.offl, h.offg, h.far, h.bge, h.gge⟩
/-- Behind a call of the queue alone. -/
theorem Ord.call {w0 w w' : World} {b g g' most : Nat} {vl vg : Value} {laid gone xs : List Int} (h : Ord w0 w b g most vl vg laid gone xs) (ho : Only b g w w') (hg : g' = g ∨ w.heap.size ≤ g') :
    OwI w' w0.heap.size vl laid ∧ OwI w' w0.heap.size vg gone ∧ (∀ j, vl.ownBlock = some j → j ≠ b ∧ j ≠ g') ∧ (∀ j, vg.ownBlock = some j → j ≠ b ∧ j ≠ g') ∧ (w0.heap.size ≤ w.heap.size → w0.heap.size ≤ g') := by
  have il := h.ol.inside
  have ig := h.og.inside
  refine ⟨h.ol.heap fun j hj => ho.block j (il j hj) (h.offl j hj).1 (h.offl j hj).2, h.og.heap fun j hj => ho.block j (ig j hj) (h.offg j hj).1 (h.offg j hj).2, fun j hj => ?_, fun j hj => ?_, fun hw => ?_⟩
  · have := il j hj; have := h.offl j hj; exact ⟨this.1, by rcases hg with e | e <;> omega⟩
  · have := ig j hj; have := h.offg j hj; exact ⟨this.1, by rcases hg with e | e <;> omega⟩
  · have := h.gge; rcases hg with e | e <;> omega

/-- Behind a Pop. -/
theorem gone_more {w0 w w6 w7 : World} {b g most : Nat} {vl vg v7 : Value} {laid gone r : List Int} {x : Int} (h : Ord w0 w b g most vl vg laid gone (x :: r)) (hB : Below w0.heap.size w0 w) (ho : Only b g w w6) (hq : QuI w6 b g most r)
    (h1 : OwI w6 w0.heap.size vl laid) (h2 : OwI w6 w0.heap.size vg gone) (h3 : ∀ j, vl.ownBlock = some j → j ≠ b ∧ j ≠ g) (h4 : ∀ j, vg.ownBlock = some j → j ≠ b ∧ j ≠ g) (hs : w0.heap.size ≤ w6.heap.size)
    (hown : OwI w7 w0.heap.size v7 (gone ++ [x])) (hgr : (w6.alloc (.cells #[.int .i64 x] 3)).grownBy w7 vg.ownBlock) (hat : v7.ownBlock = vg.ownBlock ∨ v7.ownBlock = some (w6.heap.size + 1)) :
    Ord w0 w7 b g most vl v7 laid (gone ++ [x]) r ∧ Below w0.heap.size w0 w7 := by
  have hlt := hq.lt
  have hk : ∀ k, k < w6.heap.size → vg.ownBlock ≠ some k → w7.heap[k]? = w6.heap[k]? := fun k h5 h6 =>
    (hgr.block k (by simp; omega) (fun e => h6 e.symm)).trans (Below.heap_alloc _ _ _ h5)
  have hq7 : QuI w7 b g most r := hq.keep (hk b hlt.1 (fun e => (h4 b e).1 rfl)) (hk g hlt.2 (fun e => (h4 g e).2 rfl))
  have hfar := h.far
  refine ⟨⟨hq7, h1.heap fun j hj => hk j (h1.inside j hj) (fun e => hfar j hj e), hown, by rw [h.eq]; simp, h3, ?_, ?_, h.bge, h.gge⟩, ?_⟩
  · intro j hj
    rcases hat with e | e
    · rw [e] at hj; exact h4 j hj
    · rw [e] at hj; have := Option.some.inj hj; exact ⟨by omega, by omega⟩
  · intro j hj e2
    have hin := h1.inside j hj
    rcases hat with e | e
    · rw [e] at e2; exact hfar j hj e2
    · rw [e] at e2; have := Option.some.inj e2; omega
  · have z := hB.trans (ho.below (B := w0.heap.size) h.bge h.gge hB.size)
    exact (z.alloc hs _).grown hgr (by simp; omega) (fun k e => h2.ge e)
/-- Behind a Push that was OK. -/
theorem laid_more {w0 w w6 w7 : World} {b g g6 most : Nat} {vl vg v7 : Value} {laid gone xs : List Int} {x : Int} (h : Ord w0 w b g most vl vg laid gone xs) (hB : Below w0.heap.size w0 w) (ho : Only b g w w6) (hq : QuI w6 b g6 most (xs ++ [x]))
    (h1 : OwI w6 w0.heap.size vl laid) (h2 : OwI w6 w0.heap.size vg gone) (h3 : ∀ j, vl.ownBlock = some j → j ≠ b ∧ j ≠ g6) (h4 : ∀ j, vg.ownBlock = some j → j ≠ b ∧ j ≠ g6) (hg : w0.heap.size ≤ g6) (hs : w0.heap.size ≤ w6.heap.size)
    (hown : OwI w7 w0.heap.size v7 (laid ++ [x])) (hgr : (w6.alloc (.cells #[.int .i64 x] 3)).grownBy w7 vl.ownBlock) (hat : v7.ownBlock = vl.ownBlock ∨ v7.ownBlock = some (w6.heap.size + 1)) :
    Ord w0 w7 b g6 most v7 vg (laid ++ [x]) gone (xs ++ [x]) ∧ Below w0.heap.size w0 w7 ∧ QuI w7 b g6 most (xs ++ [x]) := by
  have hlt := hq.lt
  have hk : ∀ k, k < w6.heap.size → vl.ownBlock ≠ some k → w7.heap[k]? = w6.heap[k]? := fun k h5 h6 =>
    (hgr.block k (by simp; omega) (fun e => h6 e.symm)).trans (Below.heap_alloc _ _ _ h5)
  have hq7 : QuI w7 b g6 most (xs ++ [x]) := hq.keep (hk b hlt.1 (fun e => (h3 b e).1 rfl)) (hk g6 hlt.2 (fun e => (h3 g6 e).2 rfl))
  have hfar := h.far
  refine ⟨⟨hq7, hown, h2.heap fun j hj => hk j (h2.inside j hj) (fun e => hfar j e hj), by rw [h.eq, List.append_assoc], ?_, h4, ?_, h.bge, hg⟩, ?_, hq7⟩
  · intro j hj
    rcases hat with e | e
    · rw [e] at hj; exact h3 j hj
    · rw [e] at hj; have := Option.some.inj hj; exact ⟨by omega, by omega⟩
  · intro j hj e2
    have hin := h2.inside j e2
    rcases hat with e | e
    · rw [e] at hj; exact hfar j hj e2
    · rw [e] at hj; have := Option.some.inj hj; omega
  · have z := hB.trans (ho.below (B := w0.heap.size) h.bge h.gge hB.size)
    exact (z.alloc hs _).grown hgr (by simp; omega) (fun k e => h1.ge e)

set_option maxRecDepth 100000 in
set_option maxHeartbeats 2000000 in
theorem walk_out (most : Int) (hm : most < 0 ∨ 65536 < most) (a : Option Addr) (n cap : Nat) (w : World) :
    Calls Try.prog 8 #[.int .i64 most, .slice a n cap] w fun e w' => e = .returned (.bool true) ∧ Below w.heap.size w w' := by
  by_cases h1 : most < 0
  · clear hm
    go_enter Try.func8, Try.ntmps8
    go_wp2_with fail
    refine (fixed_any w).mono ?_
    rintro e w1 ⟨rfl, hb1⟩
    go_wp2
    go_ret
    exact ⟨rfl, hb1⟩
  · have h2 : 65536 < most := by omega
    clear hm
    go_enter Try.func8, Try.ntmps8
    go_wp2_with fail
    refine (fixed_any w).mono ?_
    rintro e w1 ⟨rfl, hb1⟩
    go_wp2
    go_ret
    exact ⟨rfl, hb1⟩

set_option maxRecDepth 100000 in
set_option maxHeartbeats 4000000 in
theorem walk_in (N : Nat) (hN : N ≤ 65536) (a : Option Addr) (n cap : Nat) (A : Nat → Sp) (w : World) (hcame : CameT w a n A) :
    Calls Try.prog 8 #[.int .i64 (N : Int), .slice a n cap] w fun e w' => e = .returned (.bool true) ∧ Below w.heap.size w w' := by
  have hrow := hcame.row
  have hnl := hcame.size
  clear hcame
  have i1 : ¬ (N : Int) < 0 := by omega
  have i2 : ¬ (65536 : Int) < (N : Int) := by omega
  go_enter Try.func8, Try.ntmps8
  go_wp2_with fail
  refine (fixed_any w).mono ?_
  rintro e w1 ⟨rfl, hb1⟩
  have hnew := newI_any N w1 hN
  have HB1 := hide_it hb1
  clear hb1
  go_wp2_with fail
  refine hnew.mono ?_
  rintro e w2 ⟨rfl, hq2, hb2⟩
  obtain ⟨b, hb⟩ : ∃ b, b = w1.heap.size := ⟨_, rfl⟩
  rw [← hb] at hq2 ⊢
  have hs1 := HB1.out.size
  have hp2 : Ord w w2 b b N (.slice none 0 0) (.slice none 0 0) [] [] [] :=
    ⟨hq2, OwI.nil _ _, OwI.nil _ _, rfl, (fun j e => by cases e), (fun j e => by cases e), (fun j e => by cases e), by omega, by omega⟩
  have HP2 := hide_it hp2
  have HB2 := hide_it (HB1.out.trans (hb2.mono hs1))
  clear hnew hq2 hb2 hb hp2 i1 i2 HB1 hs1
  go_wp2_with fail
  go_loopw [7, 8, 34] (fun vl vg i wr => ∃ k : Nat, k ≤ n ∧ i = .int .i64 k ∧ Hid (∃ g laid gone xs, laid.length ≤ k ∧ Ord w wr b g N vl vg laid gone xs) ∧ Hid (Below w.heap.size w wr)) (fun _ _ i _ => n - (intOf i).toNat)
  case atStart => exact ⟨0, Nat.zero_le _, rfl, ⟨b, [], [], [], Nat.le_refl _, HP2.out⟩, HB2⟩
  case round =>
    obtain ⟨k, hk, rfl, HP, HB⟩ := hrel
    clear HP2 HB2
    obtain ⟨g, laid, gone, xs, hlk, hp⟩ := HP.out
    have hbl := HB.out
    have hsz := hbl.size
    clear HP
    obtain ⟨la, lc, hvl, hlr, _, hln⟩ := hp.ol.row
    obtain ⟨ga, gc, hvg, hgr, _, hgn⟩ := hp.og.row
    obtain ⟨LL, hLL⟩ : ∃ LL, LL = laid.length := ⟨_, rfl⟩
    obtain ⟨GL, hGL⟩ : ∃ GL, GL = gone.length := ⟨_, rfl⟩
    obtain ⟨XL, hXL⟩ : ∃ XL, XL = xs.length := ⟨_, rfl⟩
    have hsum : LL = GL + XL := by rw [hLL, hp.eq, List.length_append]; omega
    have hxN := hp.qu.len
    rw [← hLL] at hvl hlk
    rw [← hGL] at hvg
    rw [← hXL] at hxN
    subst hvl
    subst hvg
    have HLR := hide_it hlr
    have HGR := hide_it hgr
    have HLL := hide_it hLL
    have HGL := hide_it hGL
    have HXL := hide_it hXL
    have HSUM := hide_it hsum
    clear hlr hgr hLL hGL hXL hln hgn hsum
    by_cases hlt : k < n
    · have hki : (k : Int) < (n : Int) := by omega
      have hw1 : IntKind.i64.wrap ((k : Int) + 1) = (k : Int) + 1 := i64_in (by omega) (by omega)
      obtain ⟨rb, ro, rfl, hrl, r0, r1⟩ := hrow.here hlt
      have s0 := (hbl.cell (p := ⟨rb, ro + k * 2, none⟩) hrl).trans r0
      have s1 := (hbl.cell (p := ⟨rb, ro + k * 2 + 1, none⟩) hrl).trans r1
      obtain ⟨K, hK⟩ : ∃ K, K = (A k).k := ⟨_, rfl⟩
      obtain ⟨S, hS⟩ : ∃ S, S = (A k).s := ⟨_, rfl⟩
      rw [← hK] at s0
      rw [← hS] at s1
      obtain ⟨Wr, hWr⟩ : ∃ Wr, Wr = wr.alloc (.cells #[.int .i64 K, .string S] 38) := ⟨_, rfl⟩
      have hbr : Below wr.heap.size wr Wr := by rw [hWr]; exact (Below.refl _ _).alloc (Nat.le_refl _) _
      have hpr := hp.below hbr
      have hblr : Below w.heap.size w Wr := hbl.trans (hbr.mono hsz)
      have HPR := hide_it hpr
      have HBR := hide_it hblr
      have HWr := hide_it hWr
      clear hK hS hrow hp hbr hbl hpr hblr r0 r1 HB hWr
      by_cases hK0 : K = 0
      · subst hK0
        have hle : Calls Try.prog 20 #[.pointer (some ⟨b, 0, none⟩)] Wr fun e w' => e = .returned (.int .i64 (XL : Int)) ∧ w' = Wr := by
          rw [HXL.out]; exact lenI_any b g N xs Wr HPR.out.qu
        by_cases hf : XL = N
        · obtain rfl : N = XL := hf.symm
          have hpu := pushI_full b g N xs (k : Int) Wr HPR.out.qu HXL.out.symm
          go_wp2_with fail
          rw [← HWr.out]
          refine hle.mono ?_
          rintro e w5 ⟨rfl, hq⟩
          have hq2 := hq.symm
          subst hq2
          clear hq hle
          go_wp2_with fail
          refine hpu.mono ?_
          rintro e w6 ⟨rfl, hb6⟩
          have hz6 := HPR.out.below hb6
          have hB6 := HBR.out.trans (hb6.mono HBR.out.size)
          clear hpu hb6
          have hle6 : Calls Try.prog 20 #[.pointer (some ⟨b, 0, none⟩)] w6 fun e w' => e = .returned (.int .i64 (N : Int)) ∧ w' = w6 := by
            rw [HXL.out]; exact lenI_any b g N xs w6 hz6.qu
          have hsb : IntKind.i64.wrap ((LL : Int) - (GL : Int)) = (N : Int) := by rw [HSUM.out]; simp only [Int.natCast_add]; rw [Int.add_comm, Int.add_sub_cancel]; exact i64_in (by omega) (by omega)
          have hxn : ¬ (N : Int) < (N : Int) := by omega
          have HZ6 := hide_it hz6
          have HB6 := hide_it hB6
          clear hz6 hB6
          go_wp2_with fail
          refine hle6.mono ?_
          rintro e w7 ⟨rfl, hq⟩
          have hq2 := hq.symm
          subst hq2
          clear hq
          go_wp2_with fail
          refine hle6.mono ?_
          rintro e w7 ⟨rfl, hq⟩
          have hq2 := hq.symm
          subst hq2
          clear hq hle6
          go_wp2
          go_roundw
          case rel => exact ⟨k + 1, by omega, by go_num, ⟨g, laid, gone, xs, by rw [← HLL.out]; omega, HZ6.out⟩, HB6⟩
          case measure => simp [intOf]; omega
        · have hfi : ¬ (XL : Int) = (N : Int) := by omega
          have hpu := pushI_any b g N xs (k : Int) Wr HPR.out.qu (by rw [← HXL.out]; omega)
          go_wp2_with fail
          rw [← HWr.out]
          refine hle.mono ?_
          rintro e w5 ⟨rfl, hq⟩
          have hq2 := hq.symm
          subst hq2
          clear hq hle
          go_wp2_with fail
          refine hpu.mono ?_
          rintro e w6 ⟨rfl, ⟨g6, hg6, hq6⟩, ho6⟩
          obtain ⟨o1, o2, o3, o4, o5⟩ := HPR.out.call ho6 hg6
          have HQ6 := hide_it hq6
          have HO6 := hide_it ho6
          have HO1 := hide_it o1
          have HO2 := hide_it o2
          have HO3 := hide_it o3
          have HO4 := hide_it o4
          have hg6w : w.heap.size ≤ g6 := o5 HBR.out.size
          have hs6 : w.heap.size ≤ w6.heap.size := Nat.le_trans HBR.out.size ho6.size
          have hll1 : LL + 1 ≤ n := by omega
          have hfi2 : ((XL : Int) == (N : Int)) = false := by simp; omega
          clear hpu hq6 ho6 o1 o2 o3 o4 o5 hg6
          go_wp2_with (at_builtin; refine wpList_append_oneI w6 rfl _ _ rfl w.heap.size (.slice la LL lc) laid rfl HO1.out (k : Int) rfl (by rw [← HLL.out]; omega) hs6 ?_; intro v7 w7 hown7 hg7 hat7; obtain ⟨z7, hB7, hle7⟩ := laid_more HPR.out HBR.out HO6.out HQ6.out HO1.out HO2.out HO3.out HO4.out hg6w hs6 hown7 hg7 hat7; obtain ⟨a7, c7, hv7, _⟩ := hown7.row; rw [List.length_append, List.length_singleton, ← HLL.out] at hv7; subst hv7; have HZ7 := hide_it z7; have HB7 := hide_it hB7; clear hown7 hg7 hat7 z7 hB7)
          have HZ := HZ7
          have hle6 : Calls Try.prog 20 #[.pointer (some ⟨b, 0, none⟩)] w7 fun e w' => e = .returned (.int .i64 ((XL : Int) + 1)) ∧ w' = w7 := by
            have := lenI_any b g6 N (xs ++ [(k : Int)]) w7 HZ.out.qu
            simpa [HXL.out] using this
          have hsb : IntKind.i64.wrap ((LL : Int) + 1 - (GL : Int)) = (XL : Int) + 1 := by have := HSUM.out; exact (congrArg _ (by omega)).trans (i64_in (n := (XL : Int) + 1) (by omega) (by omega))
          have hxn : ¬ (N : Int) < (XL : Int) + 1 := by omega
          go_wp2_with fail
          refine hle6.mono ?_
          rintro e w8 ⟨rfl, hq⟩
          have hq2 := hq.symm
          subst hq2
          clear hq
          go_wp2_with fail
          refine hle6.mono ?_
          rintro e w8 ⟨rfl, hq⟩
          have hq2 := hq.symm
          subst hq2
          clear hq hle6
          go_wp2
          go_roundw
          case rel => exact ⟨k + 1, by omega, by go_num, ⟨g6, laid ++ [(k : Int)], gone, xs ++ [(k : Int)], by rw [List.length_append, ← HLL.out]; simp; omega, HZ7.out⟩, HB7⟩
          case measure => simp [intOf]; omega
      · cases xs with
        | nil =>
          have hX0 : XL = 0 := HXL.out
          have hpo := popI_nil b g N Wr HPR.out.qu
          have hng : ¬ (GL : Int) < (LL : Int) := by have := HSUM.out; omega
          have hngn : ¬ GL < LL := by have := HSUM.out; omega
          subst hX0
          go_wp2_with fail
          rw [← HWr.out]
          refine hpo.mono ?_
          rintro e w6 ⟨rfl, hq⟩
          have hq2 := hq.symm
          subst hq2
          clear hq hpo
          have HZ := HPR
          have hle6 : Calls Try.prog 20 #[.pointer (some ⟨b, 0, none⟩)] Wr fun e w' => e = .returned (.int .i64 (0)) ∧ w' = Wr := by
            have := lenI_any b g N [] Wr HZ.out.qu
            simpa using this
          have hsb : IntKind.i64.wrap ((LL : Int) - (GL : Int)) = (0 : Int) := by have := HSUM.out; exact (congrArg _ (by omega)).trans (i64_in (n := (0 : Int)) (by omega) (by omega))
          have hxn : ¬ (N : Int) < (0 : Int) := by omega
          go_wp2_with fail
          refine hle6.mono ?_
          rintro e w8 ⟨rfl, hq⟩
          have hq2 := hq.symm
          subst hq2
          clear hq
          go_wp2_with fail
          refine hle6.mono ?_
          rintro e w8 ⟨rfl, hq⟩
          have hq2 := hq.symm
          subst hq2
          clear hq hle6
          go_wp2
          go_roundw
          case rel => exact ⟨k + 1, by omega, by go_num, ⟨g, laid, gone, [], by rw [← HLL.out]; omega, HPR.out⟩, HBR⟩
          case measure => simp [intOf]; omega
        | cons x r =>
          have hpo := popI_cons b g N x r Wr HPR.out.qu
          obtain ⟨RL, hRL⟩ : ∃ RL, RL = r.length := ⟨_, rfl⟩
          have hX0 : XL = RL + 1 := by rw [HXL.out, hRL]; rfl
          subst hX0
          have HRL := hide_it hRL
          clear hRL
          go_wp2_with fail
          rw [← HWr.out]
          refine hpo.mono ?_
          rintro e w6 ⟨rfl, hq6, ho6⟩
          obtain ⟨o1, o2, o3, o4, o5⟩ := HPR.out.call ho6 (.inl rfl)
          have HQ6 := hide_it hq6
          have HO6 := hide_it ho6
          have HO1 := hide_it o1
          have HO2 := hide_it o2
          have HO3 := hide_it o3
          have HO4 := hide_it o4
          have hs6 : w.heap.size ≤ w6.heap.size := Nat.le_trans HBR.out.size ho6.size
          have hgl1 : GL + 1 ≤ n := by have := HSUM.out; omega
          clear hpo hq6 ho6 o1 o2 o3 o4 o5
          go_wp2_with (at_builtin; refine wpList_append_oneI w6 rfl _ _ rfl w.heap.size (.slice ga GL gc) gone rfl HO2.out x rfl (by rw [← HGL.out]; omega) hs6 ?_; intro v7 w7 hown7 hg7 hat7; obtain ⟨z7, hB7⟩ := gone_more HPR.out HBR.out HO6.out HQ6.out HO1.out HO2.out HO3.out HO4.out hs6 hown7 hg7 hat7; obtain ⟨a7, c7, hv7, _⟩ := hown7.row; rw [List.length_append, List.length_singleton, ← HGL.out] at hv7; subst hv7; have HZ7 := hide_it z7; have HB7 := hide_it hB7; clear hown7 hg7 hat7 z7 hB7)
          have HZ := HZ7
          have hle6 : Calls Try.prog 20 #[.pointer (some ⟨b, 0, none⟩)] w7 fun e w' => e = .returned (.int .i64 ((RL : Int))) ∧ w' = w7 := by
            have := lenI_any b g N r w7 HZ.out.qu
            simpa [HRL.out] using this
          have hsb : IntKind.i64.wrap ((LL : Int) - ((GL : Int) + 1)) = (RL : Int) := by have := HSUM.out; exact (congrArg _ (by omega)).trans (i64_in (n := (RL : Int)) (by omega) (by omega))
          have hxn : ¬ (N : Int) < (RL : Int) := by omega
          go_wp2_with fail
          refine hle6.mono ?_
          rintro e w8 ⟨rfl, hq⟩
          have hq2 := hq.symm
          subst hq2
          clear hq
          go_wp2_with fail
          refine hle6.mono ?_
          rintro e w8 ⟨rfl, hq⟩
          have hq2 := hq.symm
          subst hq2
          clear hq hle6
          go_wp2
          go_roundw
          case rel => exact ⟨k + 1, by omega, by go_num, ⟨g, laid, gone ++ [x], r, by rw [← HLL.out]; omega, HZ7.out⟩, HB7⟩
          case measure => simp [intOf]; omega
    · have hwa := walkedI_any (some ⟨b, 0, none⟩) g N xs wr (.inr ⟨b, rfl, hp.qu⟩)
      have HPP := hide_it hp
      clear hp hrow
      go_wp2_with fail
      refine hwa.mono ?_
      rintro e w5 ⟨v5, rfl, how5, hb5⟩
      obtain ⟨a5, c5, hv5, hr5, _, hn5⟩ := how5.row
      rw [← HXL.out] at hv5
      subst hv5
      have HR5 := hide_it hr5
      have HN5 := hide_it hn5
      have HO5 := hide_it how5
      have HB5 := hide_it hb5
      clear hwa hb5 hr5 how5 hn5
      have hol := HPP.out.ol.below HB5.out
      have hog := HPP.out.og.below HB5.out
      have hs5 : w.heap.size ≤ w5.heap.size := Nat.le_trans hsz HB5.out.size
      have HOL := hide_it hol
      have HOG := hide_it hog
      clear hol hog
      go_wp2_with (at_builtin; refine append_rowgI w5 rfl _ _ rfl w.heap.size (.slice ga GL gc) gone rfl HOG.out a5 c5 xs (by rw [← HXL.out]; rfl) HR5.out HN5.out (by rw [← HGL.out, ← HXL.out]; have := HSUM.out; omega) hs5 ?_; intro v7 w7 hown7 hg7; obtain ⟨a7, c7, hv7, hr7, _, _⟩ := hown7.row; rw [List.length_append, ← HGL.out, ← HXL.out, ← HSUM.out] at hv7; subst hv7; have HR7 := hide_it hr7; have HG7 := hide_it hg7; clear hown7 hg7 hr7)
      have hl7 : RwI w7 la laid := by
        obtain ⟨la2, lc2, e2, hl2, _, _⟩ := (HOL.out.heap (w' := w7) fun j hj => by
          have hin := HOL.out.inside j hj
          exact HG7.out.block j hin (fun e => HPP.out.far j hj e.symm)).row
        cases e2
        exact hl2
      have heq : Calls Try.prog 24 #[.slice a7 LL c7, .slice la LL lc] w7 fun e w' => e = .returned (.bool true) ∧ Below w7.heap.size w7 w' := by
        have h7 := equalI_any a7 la c7 lc (gone ++ xs) laid w7 HR7.out hl7 (by rw [← HPP.out.eq, ← HLL.out]; omega)
        rw [← HPP.out.eq, ← HLL.out] at h7
        exact h7.mono fun e w' ⟨h1, h2⟩ => ⟨by rw [h1]; simp, h2⟩
      clear hl7
      refine heq.mono ?_
      rintro e w8 ⟨rfl, hb8⟩
      have HB8 := hide_it hb8
      clear hb8 heq
      go_wp2
      go_ret
      refine ⟨rfl, ?_⟩
      have z5 := hbl.trans (HB5.out.mono hsz)
      have z7 := z5.grown HG7.out hs5 (fun k e => HOG.out.ge e)
      exact z7.trans (HB8.out.mono z7.size)

theorem walk (most : Int) (_ : -9223372036854775808 ≤ most ∧ most ≤ 9223372036854775807) (a : Option Addr) (n cap : Nat) (A : Nat → Sp) (w : World) (hcame : CameT w a n A) :
    Calls Try.prog 8 #[.int .i64 most, .slice a n cap] w fun e w' => e = .returned (.bool true) ∧ Below w.heap.size w w' := by
  by_cases h : most < 0 ∨ 65536 < most
  · exact walk_out most h a n cap w
  · obtain ⟨N, rfl⟩ : ∃ N : Nat, most = (N : Int) := ⟨most.toNat, by omega⟩
    exact walk_in N (by omega) a n cap A w hcame

end Go.Proofs.Ytomfhbngpikjeaa.queueOrder
