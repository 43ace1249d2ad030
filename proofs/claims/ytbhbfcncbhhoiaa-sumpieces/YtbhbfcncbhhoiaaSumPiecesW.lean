/- The law on pieces, walked. -/
import Derived.Test.YtbhbfcncbhhoiaaSm4
import Derived.Test.YtbhbfcncbhhoiaaOpenP
namespace Go.Proofs.Ytbhbfcncbhhoiaa.sumPieces
open Go.RowKit

/-- The first k pieces behind one another. -/
def cat (A : Nat → Pc) : Nat → List Nat
  | 0 => []
  | k + 1 => cat A k ++ (A k).p
/-- How much they are. -/
def tot (A : Nat → Pc) : Nat → Nat
  | 0 => 0
  | k + 1 => tot A k + (1 + (A k).p.length)
theorem tot_mono (A : Nat → Pc) {k n : Nat} (h : k ≤ n) : tot A k ≤ tot A n := by
  induction h with
  | refl => exact Nat.le_refl _
  | step _ ih => exact Nat.le_trans ih (by simp only [tot]; omega)
theorem cat_len (A : Nat → Pc) (k : Nat) : (cat A k).length ≤ tot A k := by
  induction k with
  | zero => exact Nat.le_refl _
  | succ k ih => simp only [cat, tot, List.length_append]; omega
theorem cat_8 {A : Nat → Pc} {n : Nat} (h : ∀ i, i < n → All8 (A i).p) {k : Nat} (hk : k ≤ n) : All8 (cat A k) := by
  induction k with
  | zero => intro z hz; cases hz
  | succ k ih =>
    intro z hz
    rcases List.mem_append.1 hz with h1 | h1
    · exact ih (by omega) z h1
    · exact h k (by omega) z h1

/-- What 'vast' answers. -/
def Vast (A : Nat → Pc) (n : Nat) (e : Ending) : Prop := ∃ b, e = .returned (.bool b) ∧ (b = false → tot A n ≤ 1073741824)

set_option maxRecDepth 100000 in
set_option maxHeartbeats 400000 in
theorem vast_any (a : Option Addr) (n cap : Nat) (A : Nat → Pc) (w : World) (hc : CameP w a n A) :
    Calls Try.prog 20 #[.slice a n cap] w fun e w' => Vast A n e ∧ w' = w := by
  have hn := hc.size
  go_enter Try.func20, Try.ntmps20
  go_wp2
  go_loop [3, 8] (fun x i => ∃ k : Nat, k ≤ n ∧ i = .int .i64 (k : Int) ∧ x = .int .i64 ((tot A k : Nat) : Int) ∧ tot A k ≤ 1073741824) (fun _ i => n - (intOf i).toNat)
  case atStart => exact ⟨0, by omega, rfl, rfl, by simp [tot]⟩
  case round =>
    obtain ⟨k, hk, rfl, rfl, ht⟩ := hrel
    by_cases hlt : k < n
    · have hi1 : (k : Int) < (n : Int) := by omega
      obtain ⟨b, o, rfl, _, hck⟩ := hc.row.here hlt
      have hpl := (hc.each k hlt).size
      have HT := hide_it (show tot A (k + 1) = tot A k + (1 + (A k).p.length) from rfl)
      obtain ⟨L, hL⟩ : ∃ L, L = (A k).p.length := ⟨_, rfl⟩
      obtain ⟨T, hT⟩ : ∃ T, T = tot A k := ⟨_, rfl⟩
      rw [← hL] at hck hpl HT
      rw [← hT] at ht HT
      rw [← hT]
      clear hL hT hc
      by_cases hbig : T + (1 + L) ≤ 1073741824
      · have hd : decide ((1073741824 : Int) < (T : Int) + (1 + (L : Int))) = false := by simp; omega
        have hd2 : ¬ (1073741824 : Int) < (T : Int) + (1 + (L : Int)) := by omega
        go_wp2
        go_round
        case rel => exact ⟨k + 1, by omega, by go_num, by rw [HT.out]; go_num, by rw [HT.out]; exact hbig⟩
        case measure => simp [intOf]; omega
      · have hd2 : (1073741824 : Int) < (T : Int) + (1 + (L : Int)) := by omega
        go_wp2
        go_ret
        exact ⟨⟨true, rfl, fun h => by cases h⟩, rfl⟩
    · have hkn : k = n := by omega
      subst hkn
      go_wp2
      go_ret
      exact ⟨⟨false, rfl, fun _ => ht⟩, rfl⟩

/-- What stands behind k pieces. -/
structure At (w : World) (p : Nat) (t : TypeId) (A : Nat → Pc) (k : Nat) (v : Value) (wr : World) : Prop where
  own : OwnB wr (p + 1) v (cat A k)
  str : ∃ C, Strm wr p C t 0 (cat A k).length (moreN 0 (cat A k))
  bel : Below w.heap.size w wr

theorem OwnB.not_p {w : World} {p : Nat} {v : Value} {zs : List Nat} (h : OwnB w (p + 1) v zs) {j : Nat} (hj : v.ownBlock = some j) : j ≠ p := by have := h.ge hj; omega
theorem Strm.keep {w w' : World} {p : Nat} {C : Array Value} {t : TypeId} {o n s : Nat} (h : Strm w p C t o n s) (e : w'.heap[p]? = w.heap[p]?) : Strm w' p C t o n s := ⟨e.trans h.blk, h.len, h.sum⟩
theorem off_of_own {w : World} {base p : Nat} {a : Option Addr} {n c : Nat} {zs : List Nat} (h : OwnB w base (.slice a n c) zs) (hp : p < base) : Off a zs p := .inr fun x e => by
  subst e
  have := h.ge (j := x.block) rfl
  omega

set_option maxRecDepth 100000 in
set_option maxHeartbeats 4000000 in
theorem walk (a : Option Addr) (n cap : Nat) (A : Nat → Pc) (w : World) (hc : CameP w a n A) :
    Calls Try.prog 6 #[.slice a n cap] w fun e w' => e = .returned (.bool true) ∧ Below w.heap.size w w' := by
  have hn := hc.size
  have hva := vast_any a n cap A w hc
  go_enter Try.func6, Try.ntmps6
  go_wp2_with fail
  refine hva.mono ?_
  rintro e w0 ⟨⟨b, rfl, hb⟩, hq⟩
  have hq2 := hq.symm
  subst hq2
  clear hq hva
  cases b with
  | true =>
    go_wp2_with fail
    go_ret
    exact ⟨rfl, Below.refl _ _⟩
  | false =>
    have htot := hb rfl
    clear hb
    go_wp2_with fail
    refine (head_any _).mono ?_
    rintro e w1 ⟨rfl, hb1⟩
    have hs1 := hb1.size
    go_wp2_with fail
    have h0 : At w w1.heap.size 35 A 0 (.slice (some ⟨w1.heap.size + 1, 0, none⟩) 0 0) ((w1.alloc (.cells #[.int .i64 0, .int .u32 0] 35)).alloc (.cells #[] 5)) := by
      refine ⟨?_, ⟨#[.int .i64 0, .int .u32 0], ?_, rfl, by rw [show moreN 0 (cat A 0) = 0 from more_nil 0]; rfl⟩, (hb1.alloc hs1 _).alloc (by simp; omega) _⟩
      · have := own_empty (w1.alloc (.cells #[.int .i64 0, .int .u32 0] 35))
        simpa [cat] using this
      · rw [Below.heap_alloc _ _ _ (by simp)]; exact heap_alloc_new w1 _
    obtain ⟨p, hp⟩ : ∃ p, p = w1.heap.size := ⟨_, rfl⟩
    rw [← hp] at h0 hs1 ⊢
    obtain ⟨W0, hW0⟩ : ∃ W0, W0 = (w1.alloc (.cells #[.int .i64 0, .int .u32 0] 35)).alloc (.cells #[] 5) := ⟨_, rfl⟩
    rw [← hW0] at h0 ⊢
    clear hW0 hp hb1
    go_loopw [4, 5, 16] (fun v x i wr => ∃ k : Nat, k ≤ n ∧ i = .int .i64 (k : Int) ∧ x = .int .u32 ((moreN 0 (cat A k) : Nat) : Int) ∧ At w p 35 A k v wr) (fun _ _ i _ => n - (intOf i).toNat)
    case atStart => exact ⟨0, by omega, rfl, by rw [show moreN 0 (cat A 0) = 0 from more_nil 0]; rfl, h0⟩
    case round =>
      obtain ⟨k, hk, rfl, rfl, hat⟩ := hrel
      clear h0
      have h8k : All8 (cat A k) := cat_8 (fun i hi => (hc.each i hi).all) hk
      have h32 : W32 (moreN 0 (cat A k)) := more32 (by unfold W32; omega) h8k
      have hlk : (cat A k).length ≤ 1073741824 := Nat.le_trans (cat_len A k) (Nat.le_trans (tot_mono A hk) htot)
      obtain ⟨hown, ⟨C, hst⟩, hbl⟩ := hat
      have hplt := hst.plt
      by_cases hlt : k < n
      · have hi1 : (k : Int) < (n : Int) := by omega
        have hlk1 : (cat A k).length + (A k).p.length ≤ 1073741824 := by
          have := Nat.le_trans (cat_len A (k + 1)) (Nat.le_trans (tot_mono A (show k + 1 ≤ n from hlt)) htot)
          simpa [cat] using this
        obtain ⟨bb, oo, rfl, hbb, hck⟩ := hc.row.here hlt
        have hok := (hc.each k hlt)
        have HM := hide_it (more_append 0 (cat A k) (A k).p)
        have HC := hide_it (show cat A (k + 1) = cat A k ++ (A k).p from rfl)
        have hckr := (hbl.cell (p := ⟨bb, oo + k, none⟩) hbb).trans hck
        have hp8 := hok.all
        have hpl : (A k).p.length ≤ maxLen := by unfold maxLen; omega
        have hpn := hok.none
        have hpr0 := hok.row
        obtain ⟨⟨pa, pc, ps⟩, hpk⟩ : ∃ x, x = A k := ⟨_, rfl⟩
        rw [← hpk] at hlk1 HM HC hckr hp8 hpl hpn hpr0
        simp only at hlk1 HM HC hckr hp8 hpl hpn hpr0
        obtain ⟨Z, hZ⟩ : ∃ Z, Z = cat A k := ⟨_, rfl⟩
        rw [← hZ] at h8k h32 hlk hown hst hlk1 HM HC
        rw [← hZ]
        obtain ⟨S, hS⟩ : ∃ S, S = moreN 0 Z := ⟨_, rfl⟩
        rw [← hS] at h32 hst HM
        rw [← hS]
        have hpr := hpr0.below hbl
        have hpz : p + 1 ≤ wr.heap.size := by omega
        clear hpk hZ hS hck hok
        go_wp2_with (at_builtin; refine wpList_append_row _ rfl _ _ rfl (p + 1) _ Z rfl hown pa pc ps rfl hpr hpn (by omega) hpz ?_; intro v1 x1 ho1 hg1 hat1)
        have hst1 := Strm.keep hst (hg1.block p hplt (fun e => OwnB.not_p hown e.symm rfl))
        have hbl1 : Below w.heap.size w x1 := hbl.grown hg1 (by omega) (fun j e => by have := hown.ge e; omega)
        clear hown hst hg1 hat1 hbl hpr hpz hplt hckr
        have hplt1 := hst1.plt
        refine (copied_any pa pc ps x1 (hpr0.below hbl1) (by omega) hpn).mono ?_
        rintro e x2 ⟨⟨r2, rfl, ho2⟩, hb2⟩
        have hst2 := Strm.keep hst1 (hb2.block p hplt1)
        have hbl2 := hbl1.trans (hb2.mono hbl1.size)
        have hv2 := ho1.below hb2
        have hplt2 := hst2.plt
        obtain ⟨p2, q2, hv, hrow2, _, _, _⟩ := ho2.row
        subst hv
        clear ho2 hb2 hst1 ho1 hbl1 hplt1
        go_wp2_with fail
        refine (more_any S h32 p2 q2 ps x2 hrow2 hp8 hpl).mono ?_
        rintro e x3 ⟨rfl, hb3⟩
        rw [← HM.out]
        have hst3 := Strm.keep hst2 (hb3.block p hplt2)
        have hbl3 := hbl2.trans (hb3.mono hbl2.size)
        have hv3 := hv2.below hb3
        have hplt3 := hst3.plt
        clear hrow2 hb3 hst2 hv2 hbl2 hplt2
        go_wp2_with fail
        refine (copied_any pa pc ps x3 (hpr0.below hbl3) (by omega) hpn).mono ?_
        rintro e x4 ⟨⟨r4, rfl, ho4⟩, hb4⟩
        have hst4 := Strm.keep hst3 (hb4.block p hplt3)
        have hbl4 := hbl3.trans (hb4.mono hbl3.size)
        have hv4 := hv3.below hb4
        have hplt4 := hst4.plt
        obtain ⟨p4, q4, hv, hrow4, _, _, _⟩ := ho4.row
        subst hv
        have hoff := off_of_own ho4 hplt3
        clear ho4 hb4 hst3 hv3 hbl3 hplt3
        go_wp2_with fail
        refine (write_any p 0 Z.length S C _ p4 q4 ps x4 hst4 h32 hrow4 hp8 hoff (by omega) hpl).mono ?_
        rintro e x5 ⟨rfl, hst5, hg5⟩
        rw [← HM.out] at hst5
        have hbl5 : Below w.heap.size w x5 := hbl4.grown hg5 hbl4.size (fun j e => by cases e; omega)
        have hv5 := hv4.keep hg5 (fun j e h => OwnB.not_p hv4 e (by cases h; rfl))
        clear hst4 hbl4 hv4 hplt4 hrow4 hoff hg5
        go_wp2_with fail
        go_roundw
        case rel => exact ⟨k + 1, by omega, by go_num, by rw [HC.out], ⟨by rw [HC.out]; exact hv5, ⟨_, by rw [HC.out, List.length_append]; exact hst5⟩, hbl5⟩⟩
        case measure => simp [intOf]; omega
      · have hkn : k = n := by omega
        subst hkn
        obtain ⟨Z, hZ⟩ : ∃ Z, Z = cat A k := ⟨_, rfl⟩
        rw [← hZ] at h8k h32 hlk hown hst
        rw [← hZ]
        obtain ⟨S, hS⟩ : ∃ S, S = moreN 0 Z := ⟨_, rfl⟩
        rw [← hS] at h32 hst
        rw [← hS]
        obtain ⟨p1, q1, hv, hrow, _, _, hnil⟩ := hown.row
        subst hv
        have HS := hide_it hS
        have hd1 : ((S : Int) == (S : Int)) = true := by simp
        have hd2 : ((Z.length : Int) == (Z.length : Int)) = true := by simp
        clear hS hZ hown hc
        go_wp2_with fail
        refine (copied_any p1 q1 Z wr hrow (by omega) hnil).mono ?_
        rintro e x2 ⟨⟨r2, rfl, ho2⟩, hb2⟩
        have hst2 := Strm.keep hst (hb2.block p hplt)
        have hbl2 := hbl.trans (hb2.mono hbl.size)
        obtain ⟨p2, q2, hv, hrow2, _, _, _⟩ := ho2.row
        subst hv
        have hof := of_any p2 q2 Z x2 hrow2 h8k (by unfold maxLen; omega)
        rw [← HS.out] at hof
        have hplt2 := hst2.plt
        clear ho2 hb2 hst hbl hplt hrow
        go_wp2_with fail
        refine hof.mono ?_
        rintro e x3 ⟨rfl, hb3⟩
        have hst3 := Strm.keep hst2 (hb3.block p hplt2)
        have hbl3 := hbl2.trans (hb3.mono hbl2.size)
        clear hof hb3 hst2 hbl2 hrow2
        go_wp2_with fail
        refine (sum_any p 0 _ _ C _ x3 hst3).mono ?_
        rintro e x4 ⟨rfl, rfl⟩
        go_wp2_with fail
        refine (len_any p 0 _ _ C _ x4 hst3).mono ?_
        rintro e x5 ⟨rfl, rfl⟩
        go_wp2_with fail
        go_ret
        exact ⟨rfl, hbl3⟩
end Go.Proofs.Ytbhbfcncbhhoiaa.sumPieces
