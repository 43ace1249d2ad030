/- The law on streams in turns, walked. -/
import Derived.Test.YtbhbfcncbhhoiaaSm4
import Derived.Test.YtbhbfcncbhhoiaaOpenO
import Derived.Test.YtbhbfcncbhhoiaaReg2
namespace Go.Proofs.Ytbhbfcncbhhoiaa.sumStream
open Go.RowKit

/-- How much the first k calls write. -/
def tot (A : Nat → Cl) : Nat → Nat
  | 0 => 0
  | k + 1 => tot A k + (1 + (A k).x.p.length)
theorem tot_mono (A : Nat → Cl) {k n : Nat} (h : k ≤ n) : tot A k ≤ tot A n := by
  induction h with
  | refl => exact Nat.le_refl _
  | step _ ih => exact Nat.le_trans ih (by simp only [tot]; omega)
/-- What 'written' answers. -/
def Vast (A : Nat → Cl) (n : Nat) (e : Ending) : Prop := ∃ b, e = .returned (.bool b) ∧ (b = false → tot A n ≤ 1073741824)

set_option maxRecDepth 100000 in
set_option maxHeartbeats 400000 in
theorem written_any (a : Option Addr) (n cap : Nat) (A : Nat → Cl) (w : World) (hc : CameO w a n A) :
    Calls Try.prog 15 #[.slice a n cap] w fun e w' => Vast A n e ∧ Below w.heap.size w w' := by
  have hn := hc.size
  go_enter Try.func15, Try.ntmps15
  go_wp2
  go_loopw [3, 8] (fun x i wr => ∃ k : Nat, k ≤ n ∧ i = .int .i64 (k : Int) ∧ x = .int .i64 ((tot A k : Nat) : Int) ∧ tot A k ≤ 1073741824 ∧ Below w.heap.size w wr) (fun _ i _ => n - (intOf i).toNat)
  case atStart => exact ⟨0, by omega, rfl, rfl, by simp [tot], Below.refl _ _⟩
  case round =>
    obtain ⟨k, hk, rfl, rfl, ht, hbl⟩ := hrel
    by_cases hlt : k < n
    · have hi1 : (k : Int) < (n : Int) := by omega
      obtain ⟨b, o, rfl, hbb, d1, d2, d3⟩ := hc.row.here hlt
      have hpl := (hc.each k hlt).x.size
      have c1 := (hbl.cell (p := ⟨b, o + k * 3, none⟩) hbb).trans d1
      have c2 := (hbl.cell (p := ⟨b, o + k * 3 + 1, none⟩) hbb).trans d2
      have c3 := (hbl.cell (p := ⟨b, o + k * 3 + 2, none⟩) hbb).trans d3
      have HT := hide_it (show tot A (k + 1) = tot A k + (1 + (A k).x.p.length) from rfl)
      obtain ⟨L, hL⟩ : ∃ L, L = (A k).x.p.length := ⟨_, rfl⟩
      obtain ⟨T, hT⟩ : ∃ T, T = tot A k := ⟨_, rfl⟩
      rw [← hL] at c3 hpl HT
      rw [← hT] at ht HT
      rw [← hT]
      have hba : ∀ o, Below w.heap.size w (wr.alloc o) := fun o => hbl.alloc hbl.size o
      clear hL hT hc d1 d2 d3
      by_cases hbig : T + (1 + L) ≤ 1073741824
      · have hd2 : ¬ (1073741824 : Int) < (T : Int) + (1 + (L : Int)) := by omega
        go_wp2
        go_roundw
        case rel => exact ⟨k + 1, by omega, by go_num, by rw [HT.out]; go_num, by rw [HT.out]; exact hbig, hba _⟩
        case measure => simp [intOf]; omega
      · have hd2 : (1073741824 : Int) < (T : Int) + (1 + (L : Int)) := by omega
        go_wp2
        go_ret
        exact ⟨⟨true, rfl, fun h => by cases h⟩, hba _⟩
    · have hkn : k = n := by omega
      subst hkn
      go_wp2
      go_ret
      exact ⟨⟨false, rfl, fun _ => ht⟩, hbl⟩

/-- What stands in memory: three streams, and what was written to each. -/
structure St (w : World) (ph pa : Nat) (Zh Za : Nat → List Nat) (wr : World) : Prop where
  here : ∃ C, C.size = 6 ∧ wr.heap[ph]? = some (.cells C 36 (0, 0)) ∧ ∀ i, i < 3 → C[i * 2]? = some (.int .i64 ((Zh i).length : Int)) ∧ C[i * 2 + 1]? = some (.int .u32 ((moreN 0 (Zh i) : Nat) : Int))
  all : ∃ D, D.size = 3 ∧ wr.heap[pa]? = some (.cells D 38 (0, 0)) ∧ ∀ i, i < 3 → ∃ a c, D[i]? = some (.slice a (Za i).length c) ∧ OwnB wr (pa + 1) (.slice a (Za i).length c) (Za i)
  bel : Below w.heap.size w wr
  low : w.heap.size ≤ ph ∧ ph < pa

def upd (Z : Nat → List Nat) (J : Nat) (x : List Nat) (i : Nat) : List Nat := if i = J then x else Z i
theorem upd_at (Z : Nat → List Nat) (J : Nat) (x : List Nat) : upd Z J x J = x := if_pos rfl
theorem upd_ne (Z : Nat → List Nat) {J i : Nat} (x : List Nat) (h : i ≠ J) : upd Z J x i = Z i := if_neg h

theorem St.plt {w : World} {ph pa : Nat} {Zh Za : Nat → List Nat} {wr : World} (h : St w ph pa Zh Za wr) : pa < wr.heap.size := by
  obtain ⟨D, _, hb, _⟩ := h.all
  exact (Array.getElem?_eq_some_iff.1 hb).1
theorem St.below {w : World} {ph pa : Nat} {Zh Za : Nat → List Nat} {wr wr' : World} (h : St w ph pa Zh Za wr) (hb : Below wr.heap.size wr wr') : St w ph pa Zh Za wr' := by
  have hp := h.plt
  have hl := h.low
  obtain ⟨C, h1, h2, h3⟩ := h.here
  obtain ⟨D, k1, k2, k3⟩ := h.all
  refine ⟨⟨C, h1, (hb.block _ (by omega)).trans h2, h3⟩, ⟨D, k1, (hb.block _ hp).trans k2, fun i hi => ?_⟩, h.bel.trans (hb.mono h.bel.size), hl⟩
  obtain ⟨a, c, e, o⟩ := k3 i hi
  exact ⟨a, c, e, o.below hb⟩
theorem St.strm {w : World} {ph pa : Nat} {Zh Za : Nat → List Nat} {wr : World} (h : St w ph pa Zh Za wr) {J : Nat} (hJ : J < 3) : ∃ C, C.size = 6 ∧ (∀ i, i < 3 → C[i * 2]? = some (.int .i64 ((Zh i).length : Int)) ∧ C[i * 2 + 1]? = some (.int .u32 ((moreN 0 (Zh i) : Nat) : Int))) ∧ Strm wr ph C 36 (J * 2) (Zh J).length (moreN 0 (Zh J)) := by
  obtain ⟨C, h1, h2, h3⟩ := h.here
  exact ⟨C, h1, h3, h2, (h3 J hJ).1, (h3 J hJ).2⟩
/-- A stream was changed. -/
theorem St.wrote {w : World} {ph pa : Nat} {Zh Za : Nat → List Nat} {wr wr' : World} (h : St w ph pa Zh Za wr) {J : Nat} (hJ : J < 3) {C : Array Value} (h6 : C.size = 6) (hC : ∀ i, i < 3 → C[i * 2]? = some (.int .i64 ((Zh i).length : Int)) ∧ C[i * 2 + 1]? = some (.int .u32 ((moreN 0 (Zh i) : Nat) : Int))) {x : List Nat}
    (hs : wr'.heap[ph]? = some (.cells (put2 C (J * 2) x.length (moreN 0 x)) 36 (0, 0))) (hg : wr.grownBy wr' (some ph)) : St w ph pa (upd Zh J x) Za wr' := by
  have hp := h.plt
  have hl := h.low
  obtain ⟨D, k1, k2, k3⟩ := h.all
  refine ⟨⟨_, by rw [put2_size]; exact h6, hs, fun i hi => ?_⟩, ⟨D, k1, (hg.block _ hp (fun e => by cases e; omega)).trans k2, fun i hi => ?_⟩, h.bel.grown hg h.bel.size (fun j e => by cases e; exact hl.1), hl⟩
  · by_cases e : i = J
    · subst e
      rw [upd_at]
      exact ⟨put2_len (by omega), put2_sum (by omega)⟩
    · rw [upd_ne _ _ e, put2_else (by omega) (by omega), put2_else (by omega) (by omega)]
      exact hC i hi
  · obtain ⟨a, c, e, o⟩ := k3 i hi
    exact ⟨a, c, e, o.keep hg (fun j e h => by cases h; have := o.ge e; omega)⟩
/-- What was written to a stream was laid down. -/
theorem St.laid {w : World} {ph pa : Nat} {Zh Za : Nat → List Nat} {wr : World} (h : St w ph pa Zh Za wr) {J : Nat} (hJ : J < 3) {a : Option Addr} {c : Nat} {x : List Nat} (ho : OwnB wr (pa + 1) (.slice a x.length c) x) : St w ph pa Zh (upd Za J x) (wr.setCell ⟨pa, J, none⟩ (.slice a x.length c)) := by
  have hp := h.plt
  have hl := h.low
  obtain ⟨C, h1, h2, h3⟩ := h.here
  obtain ⟨D, k1, k2, k3⟩ := h.all
  refine ⟨⟨C, h1, (Below.heap_setCell _ _ _ _ (show ph ≠ pa by omega)).trans h2, h3⟩, ⟨_, ?_, heap_setCell_same wr pa J _ _ _ k2, fun i hi => ?_⟩, h.bel.setCell (show w.heap.size ≤ pa by omega) _, hl⟩
  · simpa using k1
  · by_cases e : i = J
    · subst e
      rw [upd_at]
      exact ⟨a, c, by rw [Array.getElem?_setIfInBounds_self_of_lt (by omega)], ho.set_old (by omega) _ _⟩
    · rw [upd_ne _ _ e]
      obtain ⟨a', c', e', o'⟩ := k3 i hi
      exact ⟨a', c', by rw [Array.getElem?_setIfInBounds_ne (by omega)]; exact e', o'.set_old (by omega) _ _⟩
/-- The world behind the copy of a call, and an empty list. -/
def two (wr : World) (K I : Int) (v : Value) : World := (wr.alloc (.cells #[.int .i64 K, .int .i64 I, v] 40)).alloc (.cells #[] 5)
structure Two (wr W2 : World) (K I : Int) (v : Value) : Prop where
  bel : Below wr.heap.size wr W2
  blk : W2.heap[wr.heap.size]? = some (.cells #[.int .i64 K, .int .i64 I, v] 40 (0, 0))
  own : OwnB W2 (wr.heap.size + 1) (.slice (some ⟨wr.heap.size + 1, 0, none⟩) 0 0) []
theorem two_ok (wr : World) (K I : Int) (v : Value) : Two wr (two wr K I v) K I v := by
  refine ⟨((Below.refl _ _).alloc (Nat.le_refl _) _).alloc (by simp) _, (Below.heap_alloc _ _ _ (by simp)).trans (heap_alloc_new wr _), ?_⟩
  have := own_empty (wr.alloc (.cells #[.int .i64 K, .int .i64 I, v] 40))
  unfold two
  simpa using this
theorem cells3 {W : World} {q : Nat} {a b c : Value} {t : TypeId} (h : W.heap[q]? = some (.cells #[a, b, c] t (0, 0))) : W.cell? ⟨q, 0, none⟩ = some a ∧ W.cell? ⟨q, 1, none⟩ = some b ∧ W.cell? ⟨q, 2, none⟩ = some c :=
  ⟨(cell_of_row _ _ _ _ _ _ h).trans rfl, (cell_of_row _ _ _ _ _ _ h).trans rfl, (cell_of_row _ _ _ _ _ _ h).trans rfl⟩

theorem run_append_opt (w : World) (base : Nat) (v : Value) (xs : List Nat) (ty : TypeId) (hown : OwnB w base v xs) (a : Option Addr) (cap : Nat) (zs : List Nat) (hr : RowB w a zs) (hnil : a = none → zs.length = 0 ∧ cap = 0) (hl : xs.length + zs.length ≤ 140737488355328) (hbase : base ≤ w.heap.size) :
    ∃ v' w', (Builtin.append_ #[22, 22] ty #[v, .slice a zs.length cap]).run Try.prog w = .ok v' w' ∧ OwnB w' base v' (xs ++ zs) ∧ w.grownBy w' v.ownBlock := by
  obtain ⟨i0, hi, hz0, hz1, hz2⟩ := info_parts infoB
  cases a with
  | none =>
    obtain ⟨h1, h2⟩ := hnil rfl
    have hzs : zs = [] := List.eq_nil_of_length_eq_zero h1
    subst hzs
    subst h2
    have hr := run_append_owned_none (P := Try.prog) (w := w) base 22 ty 5 i0 1 Try.underlying22 hi v xs.length (xs.map encB) hown
    exact ⟨v, w, hr, by rw [List.append_nil]; exact hown, ⟨rfl, rfl, rfl, Nat.le_refl _, fun _ _ _ => rfl⟩⟩
  | some ad =>
    have hnews : ∀ j u, (zs.map encB)[j]? = some u → w.cell? (ad.add j) = some u := fun j u hu => by
      have hj : j < zs.length := by have := (List.getElem?_eq_some_iff.1 hu).1; simpa using this
      obtain ⟨b, o, e, hlt, hc⟩ := hr.here hj
      cases e
      rw [Addr.add_lit, hc j hj]
      exact (mapB_at hj).symm.trans hu
    have hone : ∀ u ∈ zs.map encB, u.oneCell' = true := fun u hu => by
      obtain ⟨z, _, rfl⟩ := List.mem_map.1 hu
      rfl
    obtain ⟨v4, w4, hrun, hown4, hgrow4, hnil4, hat4⟩ := run_append_own_at (P := Try.prog) w base 22 ty 5 i0 (.int .u8 0) 1 1 Try.underlying22 hi hz0 hz1 hz2 rfl (by omega) v xs.length (xs.map encB) hown ad zs.length cap (zs.map encB) (by simp) hnews hone (by unfold maxLen; omega) (by omega) hbase
    exact ⟨v4, w4, hrun, by unfold OwnB; simpa using hown4, hgrow4⟩

set_option maxRecDepth 100000 in
set_option maxHeartbeats 8000000 in
theorem walk (a : Option Addr) (n cap : Nat) (A : Nat → Cl) (w : World) (hc : CameO w a n A) :
    Calls Try.prog 5 #[.slice a n cap] w fun e w' => e = .returned (.bool true) ∧ Below w.heap.size w w' := by
  have hn := hc.size
  have hva := written_any a n cap A w hc
  go_enter Try.func5, Try.ntmps5
  go_wp2_with fail
  refine hva.mono ?_
  rintro e w0 ⟨⟨b, rfl, hb⟩, hb0⟩
  clear hva
  cases b with
  | true =>
    go_wp2_with fail
    go_ret
    exact ⟨rfl, hb0⟩
  | false =>
    have htot := hb rfl
    clear hb
    go_wp2_with fail
    refine (head_any _).mono ?_
    rintro e w1 ⟨rfl, hb1⟩
    have hbl1 := hb0.trans (hb1.mono hb0.size)
    clear hb0 hb1
    go_wp2_with fail
    have h0 : St w w1.heap.size (w1.heap.size + 1) (fun _ => []) (fun _ => []) ((w1.alloc (.cells #[.int .i64 0, .int .u32 0, .int .i64 0, .int .u32 0, .int .i64 0, .int .u32 0] 36)).alloc (.cells #[.slice none 0 0, .slice none 0 0, .slice none 0 0] 38)) := by
      refine ⟨⟨_, ?_, (Below.heap_alloc _ _ _ (by simp)).trans (heap_alloc_new w1 _), fun i hi => ?_⟩, ⟨#[.slice none 0 0, .slice none 0 0, .slice none 0 0], ?_, ?_, fun i hi => ⟨none, 0, ?_, ⟨rfl, .inl ⟨rfl, rfl⟩⟩⟩⟩, (hbl1.alloc hbl1.size _).alloc (by have := hbl1.size; simp; omega) _, hbl1.size, by omega⟩
      · rfl
      · rw [show moreN 0 [] = 0 from more_nil 0]
        match i, hi with
        | 0, _ => exact ⟨rfl, rfl⟩
        | 1, _ => exact ⟨rfl, rfl⟩
        | 2, _ => exact ⟨rfl, rfl⟩
      · rfl
      · have := heap_alloc_new (w1.alloc (.cells #[.int .i64 0, .int .u32 0, .int .i64 0, .int .u32 0, .int .i64 0, .int .u32 0] 36)) (.cells #[.slice none 0 0, .slice none 0 0, .slice none 0 0] 38)
        simpa using this
      · match i, hi with
        | 0, _ => rfl
        | 1, _ => rfl
        | 2, _ => rfl
    have wph := hbl1.size
    obtain ⟨ph, hph⟩ : ∃ p, p = w1.heap.size := ⟨_, rfl⟩
    rw [← hph] at h0 wph ⊢
    obtain ⟨pa, hpa⟩ : ∃ p, p = ph + 1 := ⟨_, rfl⟩
    rw [← hpa] at h0 ⊢
    have php : ph < pa := by omega
    obtain ⟨W0, hW0⟩ : ∃ W0, W0 = (w1.alloc (.cells #[.int .i64 0, .int .u32 0, .int .i64 0, .int .u32 0, .int .i64 0, .int .u32 0] 36)).alloc (.cells #[.slice none 0 0, .slice none 0 0, .slice none 0 0] 38) := ⟨_, rfl⟩
    rw [← hW0] at h0 ⊢
    clear hW0 hph hpa hbl1
    go_loopw [18] (fun i wr => ∃ (k : Nat) (Z : Nat → List Nat), k ≤ n ∧ i = .int .i64 (k : Int) ∧ St w ph pa Z Z wr ∧ (∀ i, All8 (Z i) ∧ (Z i).length ≤ tot A k)) (fun i _ => n - (intOf i).toNat)
    case atStart => exact ⟨0, _, by omega, rfl, h0, fun i => ⟨(fun z hz => by cases hz), by simp⟩⟩
    case round =>
      obtain ⟨k, Z, hk, rfl, hst, hZ⟩ := hrel
      clear h0
      by_cases hlt : k < n
      · have hi1 : (k : Int) < (n : Int) := by omega
        obtain ⟨b, o, rfl, hbb, d1, d2, d3⟩ := hc.row.here hlt
        have hok := hc.each k hlt
        have HT := hide_it (show tot A (k + 1) = tot A k + (1 + (A k).x.p.length) from rfl)
        have c1 := (hst.bel.cell (p := ⟨b, o + k * 3, none⟩) hbb).trans d1
        have c2 := (hst.bel.cell (p := ⟨b, o + k * 3 + 1, none⟩) hbb).trans d2
        have c3 := (hst.bel.cell (p := ⟨b, o + k * 3 + 2, none⟩) hbb).trans d3
        obtain ⟨⟨K, I, ⟨xa, xc, xs⟩⟩, hA⟩ : ∃ x, x = A k := ⟨_, rfl⟩
        rw [← hA] at hok HT c1 c2 c3
        simp only at HT c1 c2 c3
        clear hA d1 d2 d3
        have hxs := hok.x
        have hx8 : All8 xs := hxs.all
        have hxr : RowB w xa xs := hxs.row
        have hxn : xa = none → xs.length = 0 ∧ xc = 0 := hxs.none
        have htk : tot A k + (1 + xs.length) ≤ 1073741824 := by
          have := Nat.le_trans (tot_mono A (show k + 1 ≤ n from hlt)) htot
          rw [HT.out] at this; exact this
        have hxm : xs.length ≤ maxLen := by unfold maxLen; omega
        have htw := two_ok wr K I (.slice xa xs.length xc)
        have hst2 := hst.below htw.bel
        have hq := hst.plt
        obtain ⟨W2, hW2⟩ : ∃ W2, W2 = two wr K I (.slice xa xs.length xc) := ⟨_, rfl⟩
        have HW2 := hide_it hW2
        rw [← hW2] at htw hst2
        obtain ⟨b0, b1, b2⟩ := cells3 htw.blk
        have hblk := htw.blk
        have hpass : ∀ i, All8 (Z i) ∧ (Z i).length ≤ tot A (k + 1) := fun i => ⟨(hZ i).1, by rw [HT.out]; have := (hZ i).2; omega⟩
        clear hxs hok hW2 hc
        by_cases hI : 0 ≤ I ∧ I < 3
        · obtain ⟨J, rfl⟩ := Int.eq_ofNat_of_zero_le hI.1
          have hJ : J < 3 := by omega
          have hJi : (J : Int) < 3 := hI.2
          clear hI
          obtain ⟨D, hD3, hDb, hDc⟩ := hst2.all
          obtain ⟨za, zc, hDJ, hDo⟩ := hDc J hJ
          have e1 := (cell_of_row W2 pa J D _ _ hDb).trans hDJ
          rw [HW2.out] at e1
          unfold two at e1
          have HD := hide_it hDo
          clear hDo hDb hDc hDJ hD3
          have hE : (wr.alloc (.cells #[.int .i64 K, .int .i64 (J : Int), .slice xa xs.length xc] 40)).alloc (.cells #[] 5) = W2 := HW2.out.symm
          have HE := hide_it hE
          clear hE
          have hZ8 := (hZ J).1
          have hZl := (hZ J).2
          have hZm : (Z J).length ≤ maxLen := by unfold maxLen; omega
          have h32 : W32 (moreN 0 (Z J)) := more32 (by unfold W32; omega) hZ8
          obtain ⟨C, hC6, hCc, hS⟩ := hst2.strm hJ
          have hrowZ : RowB W2 za (Z J) := by
            obtain ⟨_, _, e, hr, _⟩ := HD.out.row
            cases e; exact hr
          have hnilZ : za = none → (Z J).length = 0 ∧ zc = 0 := by
            obtain ⟨_, _, e, _, _, _, hn⟩ := HD.out.row
            cases e; exact hn
          by_cases hk0 : K = 0
          · subst hk0
            have hcp := copied_any xa xc xs W2 (hxr.below hst2.bel) (by omega) hxn
            go_wp2_with fail
            rw [HE.out]
            refine hcp.mono ?_
            rintro e W3 ⟨⟨r3, rfl, ho3⟩, hb3⟩
            obtain ⟨p3, q3, hv, hrow3, _, _, _⟩ := ho3.row
            subst hv
            have hst3 := hst2.below hb3
            have hS3 : Strm W3 ph C _ (J * 2) (Z J).length (moreN 0 (Z J)) := ⟨(hb3.block _ hS.plt).trans hS.blk, hS.len, hS.sum⟩
            have hplt3 := hst2.plt
            have hoff : Off p3 xs ph := .inr fun x e => by
              subst e
              have := ho3.ge (j := x.block) rfl
              have := hst2.low
              omega
            have hblk3 : W3.heap[wr.heap.size]? = _ := (hb3.block _ (by have := (Array.getElem?_eq_some_iff.1 hblk).1; exact this)).trans hblk
            have hqlt := (Array.getElem?_eq_some_iff.1 hblk).1
            have hD3 := HD.out.below hb3
            clear ho3 hb3 hcp hS hrowZ hblk b0 b1 b2 e1
            go_wp2_with fail
            refine (write_any ph (J * 2) _ _ C _ p3 q3 xs W3 hS3 h32 hrow3 hx8 hoff (by omega) hxm).mono ?_
            rintro e W4 ⟨rfl, hS4, hg4⟩
            have hM : moreN (moreN 0 (Z J)) xs = moreN 0 (Z J ++ xs) := (more_append 0 (Z J) xs).symm
            have hL : (Z J).length + xs.length = (Z J ++ xs).length := by rw [List.length_append]
            rw [hM, hL] at hS4
            have hst4 := hst3.wrote hJ hC6 hCc (x := Z J ++ xs) hS4.blk hg4
            have hblk4 : W4.heap[wr.heap.size]? = _ := (hg4.block wr.heap.size (by have := hst2.low; exact (Array.getElem?_eq_some_iff.1 hblk3).1) (fun e => by cases e; have := hst2.low; omega)).trans hblk3
            have hD4 := hD3.keep hg4 (fun j e h => by cases h; have := hD3.ge e; have := hst2.low; omega)
            have hrow4 : RowB W4 za (Z J) := by
              obtain ⟨_, _, e, hr, _⟩ := hD4.row
              cases e; exact hr
            have hxr4 := hxr.below hst4.bel
            have HBK := hide_it hblk4
            obtain ⟨b0, b1, b2⟩ := cells3 hblk4
            have hnew : ∀ i, All8 (upd Z J (Z J ++ xs) i) ∧ (upd Z J (Z J ++ xs) i).length ≤ tot A (k + 1) := fun i => by
              by_cases e : i = J
              · subst e
                rw [upd_at]
                refine ⟨fun z hz => ?_, by rw [List.length_append, HT.out]; omega⟩
                rcases List.mem_append.1 hz with h | h
                · exact hZ8 z h
                · exact hx8 z h
              · rw [upd_ne _ _ e]; exact hpass i
            clear hM hL hS4 hg4 hst3 hS3 hrow3 hoff hblk3 hD3 hD4 hblk4 hCc
            go_wp2_with fail
            refine wp_region_held_drew (S := (fun w' => w'.heap[wr.heap.size]? = some (.cells #[.int .i64 0, .int .i64 (J : Int), .slice xa xs.length xc] 40 (0, 0)))) (by kernel_rfl) ?_ (fun hHeld => ?_)
            · exact HBK.out
            refine take_on (i := 0) (v := ?_) rfl rfl (by kernel_rfl) (by kernel_rfl) (by kernel_rfl) (fun _ _ _ h => h) rfl ?_ hHeld ?_
            rotate_left
            · (intro wq hSq; obtain ⟨b0, b1, b2⟩ := cells3 hSq; go_simp <;> first | with_reducible rfl | rfl)
            simp only [Act.put, List.setIfInBounds_toArray, List.set_cons_zero, List.set_cons_succ]
            refine take_on (i := 1) (v := ?_) rfl rfl (by kernel_rfl) (by kernel_rfl) (by kernel_rfl) (fun _ _ _ h => h) rfl ?_ hHeld ?_
            rotate_left
            · (intro wq hSq; obtain ⟨b0, b1, b2⟩ := cells3 hSq; go_simp <;> first | with_reducible rfl | rfl)
            simp only [Act.put, List.setIfInBounds_toArray, List.set_cons_zero, List.set_cons_succ]
            refine take_on (i := 2) (v := ?_) rfl rfl (by kernel_rfl) (by kernel_rfl) (by kernel_rfl) (fun _ _ _ h => h) rfl ?_ hHeld ?_
            rotate_left
            · (intro wq hSq; obtain ⟨b0, b1, b2⟩ := cells3 hSq; go_simp <;> first | with_reducible rfl | rfl)
            simp only [Act.put, List.setIfInBounds_toArray, List.set_cons_zero, List.set_cons_succ]
            refine take_on (i := 4) (v := ?_) rfl rfl (by kernel_rfl) (by kernel_rfl) (by kernel_rfl) (fun _ _ _ h => h) rfl ?_ hHeld ?_
            rotate_left
            · (intro wq hSq; obtain ⟨b0, b1, b2⟩ := cells3 hSq; go_simp <;> first | with_reducible rfl | rfl)
            simp only [Act.put, List.setIfInBounds_toArray, List.set_cons_zero, List.set_cons_succ]
            refine take_on (i := 5) (v := ?_) rfl rfl (by kernel_rfl) (by kernel_rfl) (by kernel_rfl) (fun _ _ _ h => h) rfl ?_ hHeld ?_
            rotate_left
            · (intro wq hSq; obtain ⟨b0, b1, b2⟩ := cells3 hSq; go_simp <;> first | with_reducible rfl | rfl)
            simp only [Act.put, List.setIfInBounds_toArray, List.set_cons_zero, List.set_cons_succ]
            refine take_one (i := 3) rfl (by kernel_rfl) (fun K hK => ?_)
            go_simp
            refine (copied_any za zc (Z J) _ (hrow4.below (Below.refl _ _).drew) (by omega) hnilZ).mono ?_; rintro e y1 ⟨⟨r1, rfl, ho1⟩, hb1⟩; have hbk1 : Below W4.heap.size W4 y1 := (Below.refl _ _).drew.trans hb1; have hz1 : W4.heap.size ≤ y1.heap.size := hbk1.size; have hk1 := (hbk1.block wr.heap.size (Array.getElem?_eq_some_iff.1 HBK.out).1).trans HBK.out
            try go_wp2_with fail
            refine hK.out _ _ ?_ (fun hHeld => ?_)
            · exact hk1
            clear hK K
            try simp only [Act.put, List.setIfInBounds_toArray, List.set_cons_zero, List.set_cons_succ]
            refine take_one (i := 6) rfl (by kernel_rfl) (fun K hK => ?_)
            obtain ⟨v2, y2, hrun, ho2, hg2⟩ := run_append_opt _ W4.heap.size r1 (Z J) 22 ho1 xa xc xs (hxr4.below hbk1) hxn (by omega) hz1
            refine step_append_run rfl _ _ _ rfl _ _ _ _ rfl rfl hrun ?_
            have hbk2 : Below W4.heap.size W4 y2 := hbk1.grown hg2 hz1 (fun j e => ho1.ge e)
            have hk2 := (hbk2.block wr.heap.size (Array.getElem?_eq_some_iff.1 HBK.out).1).trans HBK.out
            have st6 := hst4.below hbk2
            have pa6 := hst4.plt
            have ho6 : OwnB y2 (pa + 1) v2 (Z J ++ xs) := ho2.mono pa6
            obtain ⟨a2, c2, hv2, _⟩ := ho6.row
            subst hv2
            obtain ⟨D6, hD6, hDb6, _⟩ := st6.all
            have fr6 := frozen_of_row y2 pa J _ _ hDb6
            obtain ⟨u6, hu6⟩ : ∃ u, D6[J]? = some u := ⟨_, Array.getElem?_eq_getElem (by omega)⟩
            have ce6 := (cell_of_row y2 pa J _ _ _ hDb6).trans hu6
            have st8 := st6.laid hJ ho6
            have hk8 : (y2.setCell ⟨pa, J, none⟩ (.slice a2 (Z J ++ xs).length c2)).heap[wr.heap.size]? = _ := (Below.heap_setCell _ _ _ _ (show wr.heap.size ≠ pa by omega)).trans hk2
            rw [List.length_append] at hk8 st8
            refine hK.out _ _ ?_ (fun hHeld => ?_)
            · exact hk2
            clear hK K
            try simp only [Act.put, List.setIfInBounds_toArray, List.set_cons_zero, List.set_cons_succ]
            refine take_on (i := 7) (v := ?_) rfl rfl (by kernel_rfl) (by kernel_rfl) (by kernel_rfl) (fun _ _ _ h => h) rfl ?_ hHeld ?_
            rotate_left
            · (intro wq hSq; obtain ⟨b0, b1, b2⟩ := cells3 hSq; go_simp <;> first | with_reducible rfl | rfl)
            simp only [Act.put, List.setIfInBounds_toArray, List.set_cons_zero, List.set_cons_succ]
            refine take_one (i := 8) rfl (by kernel_rfl) (fun K hK => ?_)
            go_simp
            refine hK.out _ _ ?_ (fun hHeld => ?_)
            · exact hk8
            clear hK K
            try simp only [Act.put, List.setIfInBounds_toArray, List.set_cons_zero, List.set_cons_succ]
            refine wpAnyH_done (by kernel_rfl) ?_ _
            go_wp2_with fail
            go_roundw
            case rel => exact ⟨k + 1, upd Z J (Z J ++ xs), by omega, by go_num, st8, hnew⟩
            case measure => simp [intOf]; omega
          · have hd0 : (K == 0) = false := by simpa using hk0
            by_cases hk1 : K = 1
            · subst hk1
              have hof := rof_any za zc (Z J) W2 hrowZ hZ8 hZm
              have hdd : (((moreN 0 (Z J) : Nat) : Int) != ((moreN 0 (Z J) : Nat) : Int)) = false := by simp
              go_wp2_with fail
              rw [HE.out]
              refine (sum_any ph (J * 2) _ _ C _ W2 hS).mono ?_
              rintro e W3 ⟨rfl, hq3⟩
              have hq4 := hq3.symm
              subst hq4
              clear hq3
              go_wp2_with fail
              refine hof.mono ?_
              rintro e W3 ⟨rfl, hq3⟩
              have hq4 := hq3.symm
              subst hq4
              clear hq3
              go_wp2_with fail
              go_roundw
              case rel => exact ⟨k + 1, Z, by omega, by go_num, hst2, hpass⟩
              case measure => simp [intOf]; omega
            · have hd1 : (K == 1) = false := by simpa using hk1
              by_cases hk2 : K = 2
              · subst hk2
                have hdd : ((((Z J).length : Nat) : Int) != (((Z J).length : Nat) : Int)) = false := by simp
                go_wp2_with fail
                rw [HE.out]
                refine (len_any ph (J * 2) _ _ C _ W2 hS).mono ?_
                rintro e W3 ⟨rfl, hq3⟩
                have hq4 := hq3.symm
                subst hq4
                clear hq3
                go_wp2_with fail
                go_roundw
                case rel => exact ⟨k + 1, Z, by omega, by go_num, hst2, hpass⟩
                case measure => simp [intOf]; omega
              · have hd2 : (K == 2) = false := by simpa using hk2
                by_cases hk3 : K = 3
                · subst hk3
                  go_wp2_with fail
                  rw [HE.out]
                  refine (reset_any ph (J * 2) _ _ C _ W2 hS).mono ?_
                  rintro e W3 ⟨rfl, hS3, hg3⟩
                  have hst3 := hst2.wrote hJ hC6 hCc (x := []) (by rw [show moreN 0 [] = 0 from more_nil 0]; exact hS3.blk) hg3
                  have hqlt := (Array.getElem?_eq_some_iff.1 hblk).1
                  have hblk3 : W3.heap[wr.heap.size]? = _ := (hg3.block wr.heap.size hqlt (fun e => by cases e; have := hst2.low; omega)).trans hblk
                  obtain ⟨D6, hD6, hDb6, _⟩ := hst3.all
                  have fr6 := frozen_of_row W3 pa J _ _ hDb6
                  obtain ⟨u6, hu6⟩ : ∃ u, D6[J]? = some u := ⟨_, Array.getElem?_eq_getElem (by omega)⟩
                  have ce6 := (cell_of_row W3 pa J _ _ _ hDb6).trans hu6
                  have st8 := hst3.laid hJ (a := none) (c := 0) (x := []) ⟨rfl, .inl ⟨rfl, rfl⟩⟩
                  have hnew : ∀ i, All8 (upd Z J [] i) ∧ (upd Z J [] i).length ≤ tot A (k + 1) := fun i => by
                    by_cases e : i = J
                    · subst e
                      rw [upd_at]
                      exact ⟨(fun z hz => by cases hz), by simp⟩
                    · rw [upd_ne _ _ e]; exact hpass i
                  clear b0 b1 b2
                  obtain ⟨b0, b1, b2⟩ := cells3 hblk3
                  clear hS3 hg3 hst3 hblk3 hblk hDb6 hu6
                  go_wp2_with fail
                  go_roundw
                  case rel => exact ⟨k + 1, upd Z J [], by omega, by go_num, st8, hnew⟩
                  case measure => simp [intOf]; omega
                · have hd3 : (K == 3) = false := by simpa using hk3
                  rw [HW2.out] at hst2
                  unfold two at hst2
                  go_wp2_with fail
                  go_roundw
                  case rel => exact ⟨k + 1, Z, by omega, by go_num, hst2, hpass⟩
                  case measure => simp [intOf]; omega
        · by_cases hI0 : 0 ≤ I
          · have hI3 : ¬ I < 3 := fun h => hI ⟨hI0, h⟩
            clear hI
            have hE : (wr.alloc (.cells #[.int .i64 K, .int .i64 I, .slice xa xs.length xc] 40)).alloc (.cells #[] 5) = W2 := HW2.out.symm
            have HE := hide_it hE
            clear hE
            have hrowE : RowB W2 (some ⟨wr.heap.size + 1, 0, none⟩) [] := .inl rfl
            have hof := rof_any _ 0 [] W2 hrowE (fun z hz => by cases hz) (by simp)
            rw [show moreN 0 [] = 0 from more_nil 0] at hof
            by_cases hk0 : K = 0
            · subst hk0
              have hcp := copied_any xa xc xs W2 (hxr.below hst2.bel) (by omega) hxn
              go_wp2_with fail
              rw [HE.out]
              refine hcp.mono ?_
              rintro e W3 ⟨⟨r3, rfl, ho3⟩, hb3⟩
              have hst3 := hst2.below hb3
              clear ho3 hb3 hcp b0 b1 b2
              go_wp2_with fail
              refine (write_nil r3 W3).mono ?_
              rintro e W4 ⟨rfl, rfl⟩
              go_wp2_with fail
              go_roundw
              case rel => exact ⟨k + 1, Z, by omega, by go_num, hst3, hpass⟩
              case measure => simp [intOf]; omega
            · have hd0 : (K == 0) = false := by simpa using hk0
              by_cases hk1 : K = 1
              · subst hk1
                go_wp2_with fail
                rw [HE.out]
                refine (sum_nil W2).mono ?_
                rintro e W3 ⟨rfl, rfl⟩
                go_wp2_with fail
                refine hof.mono ?_
                rintro e W3 ⟨rfl, rfl⟩
                go_wp2_with fail
                go_roundw
                case rel => exact ⟨k + 1, Z, by omega, by go_num, hst2, hpass⟩
                case measure => simp [intOf]; omega
              · have hd1 : (K == 1) = false := by simpa using hk1
                by_cases hk2 : K = 2
                · subst hk2
                  go_wp2_with fail
                  rw [HE.out]
                  refine (len_nil W2).mono ?_
                  rintro e W3 ⟨rfl, rfl⟩
                  go_wp2_with fail
                  go_roundw
                  case rel => exact ⟨k + 1, Z, by omega, by go_num, hst2, hpass⟩
                  case measure => simp [intOf]; omega
                · have hd2 : (K == 2) = false := by simpa using hk2
                  by_cases hk3 : K = 3
                  · subst hk3
                    go_wp2_with fail
                    rw [HE.out]
                    refine (reset_nil W2).mono ?_
                    rintro e W3 ⟨rfl, rfl⟩
                    go_wp2_with fail
                    go_roundw
                    case rel => exact ⟨k + 1, Z, by omega, by go_num, hst2, hpass⟩
                    case measure => simp [intOf]; omega
                  · have hd3 : (K == 3) = false := by simpa using hk3
                    rw [HW2.out] at hst2
                    unfold two at hst2
                    go_wp2_with fail
                    go_roundw
                    case rel => exact ⟨k + 1, Z, by omega, by go_num, hst2, hpass⟩
                    case measure => simp [intOf]; omega
          · clear hI
            have hE : (wr.alloc (.cells #[.int .i64 K, .int .i64 I, .slice xa xs.length xc] 40)).alloc (.cells #[] 5) = W2 := HW2.out.symm
            have HE := hide_it hE
            clear hE
            have hrowE : RowB W2 (some ⟨wr.heap.size + 1, 0, none⟩) [] := .inl rfl
            have hof := rof_any _ 0 [] W2 hrowE (fun z hz => by cases hz) (by simp)
            rw [show moreN 0 [] = 0 from more_nil 0] at hof
            by_cases hk0 : K = 0
            · subst hk0
              have hcp := copied_any xa xc xs W2 (hxr.below hst2.bel) (by omega) hxn
              go_wp2_with fail
              rw [HE.out]
              refine hcp.mono ?_
              rintro e W3 ⟨⟨r3, rfl, ho3⟩, hb3⟩
              have hst3 := hst2.below hb3
              clear ho3 hb3 hcp b0 b1 b2
              go_wp2_with fail
              refine (write_nil r3 W3).mono ?_
              rintro e W4 ⟨rfl, rfl⟩
              go_wp2_with fail
              go_roundw
              case rel => exact ⟨k + 1, Z, by omega, by go_num, hst3, hpass⟩
              case measure => simp [intOf]; omega
            · have hd0 : (K == 0) = false := by simpa using hk0
              by_cases hk1 : K = 1
              · subst hk1
                go_wp2_with fail
                rw [HE.out]
                refine (sum_nil W2).mono ?_
                rintro e W3 ⟨rfl, rfl⟩
                go_wp2_with fail
                refine hof.mono ?_
                rintro e W3 ⟨rfl, rfl⟩
                go_wp2_with fail
                go_roundw
                case rel => exact ⟨k + 1, Z, by omega, by go_num, hst2, hpass⟩
                case measure => simp [intOf]; omega
              · have hd1 : (K == 1) = false := by simpa using hk1
                by_cases hk2 : K = 2
                · subst hk2
                  go_wp2_with fail
                  rw [HE.out]
                  refine (len_nil W2).mono ?_
                  rintro e W3 ⟨rfl, rfl⟩
                  go_wp2_with fail
                  go_roundw
                  case rel => exact ⟨k + 1, Z, by omega, by go_num, hst2, hpass⟩
                  case measure => simp [intOf]; omega
                · have hd2 : (K == 2) = false := by simpa using hk2
                  by_cases hk3 : K = 3
                  · subst hk3
                    go_wp2_with fail
                    rw [HE.out]
                    refine (reset_nil W2).mono ?_
                    rintro e W3 ⟨rfl, rfl⟩
                    go_wp2_with fail
                    go_roundw
                    case rel => exact ⟨k + 1, Z, by omega, by go_num, hst2, hpass⟩
                    case measure => simp [intOf]; omega
                  · have hd3 : (K == 3) = false := by simpa using hk3
                    rw [HW2.out] at hst2
                    unfold two at hst2
                    go_wp2_with fail
                    go_roundw
                    case rel => exact ⟨k + 1, Z, by omega, by go_num, hst2, hpass⟩
                    case measure => simp [intOf]; omega
      · clear hc
        go_wp2_with fail
        go_loopw [11] (fun i wq => ∃ m : Nat, m ≤ 3 ∧ i = .int .i64 (m : Int) ∧ St w ph pa Z Z wq) (fun i _ => 3 - (intOf i).toNat)
        case atStart => exact ⟨0, by omega, rfl, hst⟩
        case round =>
          obtain ⟨m, hm, rfl, hsm⟩ := hrel
          clear hst
          by_cases hm3 : m < 3
          · have hmi : (m : Int) < 3 := by omega
            have hZ8 := (hZ m).1
            have hZl := (hZ m).2
            have htk := tot_mono A hk
            have hZm : (Z m).length ≤ maxLen := by unfold maxLen; omega
            obtain ⟨C, hC6, hCc, hS⟩ := hsm.strm hm3
            obtain ⟨D, hD3, hDb, hDc⟩ := hsm.all
            obtain ⟨za, zc, hDJ, hDo⟩ := hDc m hm3
            have e1 := (cell_of_row _ pa m D _ _ hDb).trans hDJ
            have hrowZ : RowB wr za (Z m) := by
              obtain ⟨_, _, e, hr, _⟩ := hDo.row
              cases e; exact hr
            have hplt := hsm.plt
            have hdd : (((moreN 0 (Z m) : Nat) : Int) != ((moreN 0 (Z m) : Nat) : Int)) = false := by simp
            have hdl : ((((Z m).length : Nat) : Int) != (((Z m).length : Nat) : Int)) = false := by simp
            clear hCc hDb hDc hDJ hDo hD3
            go_wp2_with fail
            refine wp_region_held_drew (S := (fun w' => Below wr.heap.size wr w')) (by kernel_rfl) ?_ (fun hHeld => ?_)
            · exact (Below.refl _ _).drew
            refine take_on (i := 0) (v := ?_) rfl rfl (by kernel_rfl) (by kernel_rfl) (by kernel_rfl) (fun _ _ _ h => h) rfl ?_ hHeld ?_
            rotate_left
            · (intro wq hSq; have hq1 := (hSq.cell (p := ⟨pa, m, none⟩) hplt).trans e1; go_simp <;> first | with_reducible rfl | rfl)
            simp only [Act.put, List.setIfInBounds_toArray, List.set_cons_zero, List.set_cons_succ]
            refine take_on (i := 1) (v := ?_) rfl rfl (by kernel_rfl) (by kernel_rfl) (by kernel_rfl) (fun _ _ _ h => h) rfl ?_ hHeld ?_
            rotate_left
            · (intro wq hSq; have hq1 := (hSq.cell (p := ⟨pa, m, none⟩) hplt).trans e1; go_simp <;> first | with_reducible rfl | rfl)
            simp only [Act.put, List.setIfInBounds_toArray, List.set_cons_zero, List.set_cons_succ]
            refine take_on (i := 3) (v := ?_) rfl rfl (by kernel_rfl) (by kernel_rfl) (by kernel_rfl) (fun _ _ _ h => h) rfl ?_ hHeld ?_
            rotate_left
            · (intro wq hSq; have hq1 := (hSq.cell (p := ⟨pa, m, none⟩) hplt).trans e1; go_simp <;> first | with_reducible rfl | rfl)
            simp only [Act.put, List.setIfInBounds_toArray, List.set_cons_zero, List.set_cons_succ]
            refine take_on (i := 4) (v := ?_) rfl rfl (by kernel_rfl) (by kernel_rfl) (by kernel_rfl) (fun _ _ _ h => h) rfl ?_ hHeld ?_
            rotate_left
            · (intro wq hSq; have hq1 := (hSq.cell (p := ⟨pa, m, none⟩) hplt).trans e1; go_simp <;> first | with_reducible rfl | rfl)
            simp only [Act.put, List.setIfInBounds_toArray, List.set_cons_zero, List.set_cons_succ]
            refine take_on (i := 5) (v := ?_) rfl rfl (by kernel_rfl) (by kernel_rfl) (by kernel_rfl) (fun _ _ _ h => h) rfl ?_ hHeld ?_
            rotate_left
            · (intro wq hSq; have hq1 := (hSq.cell (p := ⟨pa, m, none⟩) hplt).trans e1; go_simp <;> first | with_reducible rfl | rfl)
            simp only [Act.put, List.setIfInBounds_toArray, List.set_cons_zero, List.set_cons_succ]
            refine take_one (i := 2) rfl (by kernel_rfl) (fun K hK => ?_)
            go_simp
            refine (sum_any ph (m * 2) _ _ C _ _ ⟨(hHeld.block _ hS.plt).trans hS.blk, hS.len, hS.sum⟩).mono ?_; rintro e y1 ⟨rfl, hq3⟩; have hq4 := hq3.symm; subst hq4; clear hq3
            try go_wp2_with fail
            refine hK.out _ _ ?_ (fun hHeld => ?_)
            · exact hHeld
            clear hK K
            try simp only [Act.put, List.setIfInBounds_toArray, List.set_cons_zero, List.set_cons_succ]
            refine take_one (i := 6) rfl (by kernel_rfl) (fun K hK => ?_)
            go_simp
            refine (rof_any za zc (Z m) _ (hrowZ.below hHeld) hZ8 hZm).mono ?_; rintro e y1 ⟨rfl, hq3⟩; have hq4 := hq3.symm; subst hq4; clear hq3
            try go_wp2_with fail
            refine hK.out _ _ ?_ (fun hHeld => ?_)
            · exact hHeld
            clear hK K
            try simp only [Act.put, List.setIfInBounds_toArray, List.set_cons_zero, List.set_cons_succ]
            refine take_on (i := 7) (v := ?_) rfl rfl (by kernel_rfl) (by kernel_rfl) (by kernel_rfl) (fun _ _ _ h => h) rfl ?_ hHeld ?_
            rotate_left
            · (intro wq hSq; have hq1 := (hSq.cell (p := ⟨pa, m, none⟩) hplt).trans e1; go_simp <;> first | with_reducible rfl | rfl)
            simp only [Act.put, List.setIfInBounds_toArray, List.set_cons_zero, List.set_cons_succ]
            refine take_on (i := 8) (v := ?_) rfl rfl (by kernel_rfl) (by kernel_rfl) (by kernel_rfl) (fun _ _ _ h => h) rfl ?_ hHeld ?_
            rotate_left
            · (intro wq hSq; have hq1 := (hSq.cell (p := ⟨pa, m, none⟩) hplt).trans e1; go_simp <;> first | with_reducible rfl | rfl)
            simp only [Act.put, List.setIfInBounds_toArray, List.set_cons_zero, List.set_cons_succ]
            refine take_on (i := 9) (v := ?_) rfl rfl (by kernel_rfl) (by kernel_rfl) (by kernel_rfl) (fun _ _ _ h => h) rfl ?_ hHeld ?_
            rotate_left
            · (intro wq hSq; have hq1 := (hSq.cell (p := ⟨pa, m, none⟩) hplt).trans e1; go_simp <;> first | with_reducible rfl | rfl)
            simp only [Act.put, List.setIfInBounds_toArray, List.set_cons_zero, List.set_cons_succ]
            refine take_on (i := 10) (v := ?_) rfl rfl (by kernel_rfl) (by kernel_rfl) (by kernel_rfl) (fun _ _ _ h => h) rfl ?_ hHeld ?_
            rotate_left
            · (intro wq hSq; have hq1 := (hSq.cell (p := ⟨pa, m, none⟩) hplt).trans e1; go_simp <;> first | with_reducible rfl | rfl)
            simp only [Act.put, List.setIfInBounds_toArray, List.set_cons_zero, List.set_cons_succ]
            refine take_on (i := 12) (v := ?_) rfl rfl (by kernel_rfl) (by kernel_rfl) (by kernel_rfl) (fun _ _ _ h => h) rfl ?_ hHeld ?_
            rotate_left
            · (intro wq hSq; have hq1 := (hSq.cell (p := ⟨pa, m, none⟩) hplt).trans e1; go_simp <;> first | with_reducible rfl | rfl)
            simp only [Act.put, List.setIfInBounds_toArray, List.set_cons_zero, List.set_cons_succ]
            refine take_on (i := 13) (v := ?_) rfl rfl (by kernel_rfl) (by kernel_rfl) (by kernel_rfl) (fun _ _ _ h => h) rfl ?_ hHeld ?_
            rotate_left
            · (intro wq hSq; have hq1 := (hSq.cell (p := ⟨pa, m, none⟩) hplt).trans e1; go_simp <;> first | with_reducible rfl | rfl)
            simp only [Act.put, List.setIfInBounds_toArray, List.set_cons_zero, List.set_cons_succ]
            refine take_on (i := 14) (v := ?_) rfl rfl (by kernel_rfl) (by kernel_rfl) (by kernel_rfl) (fun _ _ _ h => h) rfl ?_ hHeld ?_
            rotate_left
            · (intro wq hSq; have hq1 := (hSq.cell (p := ⟨pa, m, none⟩) hplt).trans e1; go_simp <;> first | with_reducible rfl | rfl)
            simp only [Act.put, List.setIfInBounds_toArray, List.set_cons_zero, List.set_cons_succ]
            refine take_on (i := 15) (v := ?_) rfl rfl (by kernel_rfl) (by kernel_rfl) (by kernel_rfl) (fun _ _ _ h => h) rfl ?_ hHeld ?_
            rotate_left
            · (intro wq hSq; have hq1 := (hSq.cell (p := ⟨pa, m, none⟩) hplt).trans e1; go_simp <;> first | with_reducible rfl | rfl)
            simp only [Act.put, List.setIfInBounds_toArray, List.set_cons_zero, List.set_cons_succ]
            refine take_one (i := 11) rfl (by kernel_rfl) (fun K hK => ?_)
            go_simp
            refine (len_any ph (m * 2) _ _ C _ _ ⟨(hHeld.block _ hS.plt).trans hS.blk, hS.len, hS.sum⟩).mono ?_; rintro e y1 ⟨rfl, hq3⟩; have hq4 := hq3.symm; subst hq4; clear hq3
            try go_wp2_with fail
            refine hK.out _ _ ?_ (fun hHeld => ?_)
            · exact hHeld
            clear hK K
            try simp only [Act.put, List.setIfInBounds_toArray, List.set_cons_zero, List.set_cons_succ]
            refine take_on (i := 16) (v := ?_) rfl rfl (by kernel_rfl) (by kernel_rfl) (by kernel_rfl) (fun _ _ _ h => h) rfl ?_ hHeld ?_
            rotate_left
            · (intro wq hSq; have hq1 := (hSq.cell (p := ⟨pa, m, none⟩) hplt).trans e1; go_simp <;> first | with_reducible rfl | rfl)
            simp only [Act.put, List.setIfInBounds_toArray, List.set_cons_zero, List.set_cons_succ]
            refine take_on (i := 17) (v := ?_) rfl rfl (by kernel_rfl) (by kernel_rfl) (by kernel_rfl) (fun _ _ _ h => h) rfl ?_ hHeld ?_
            rotate_left
            · (intro wq hSq; have hq1 := (hSq.cell (p := ⟨pa, m, none⟩) hplt).trans e1; go_simp <;> first | with_reducible rfl | rfl)
            simp only [Act.put, List.setIfInBounds_toArray, List.set_cons_zero, List.set_cons_succ]
            refine wpAnyH_done (by kernel_rfl) ?_ _
            have hsn := hsm.below hHeld
            go_wp2_with fail
            go_roundw
            case rel => exact ⟨m + 1, by omega, by go_num, hsn⟩
            case measure => simp [intOf]; omega
          · have hm3' : m = 3 := by omega
            subst hm3'
            go_wp2_with fail
            go_ret
            exact ⟨rfl, hsm.bel⟩
end Go.Proofs.Ytbhbfcncbhhoiaa.sumStream
