/- The law on Prune, walked. -/
import Derived.Test.YtncmnhomloanaaaHq2
import Derived.Test.YtncmnhomloanaaaOpenIn
namespace Go.Proofs.Ytncmnhomloanaaa.chainPruned
open Go.RowKit

theorem ab_two {w w1 w2 : World} {pa pb : Nat} {va vb : Value} {xs : List Lk} (b1 : Below w.heap.size w w1) (b2 : Below w1.heap.size w1 w2) (ha : Hn w1 (Fc pa va) pa va xs) (la : ∀ j, Fc pa va j → w.heap.size ≤ j) (hb : Hn w2 (Fc pb vb) pb vb xs) (lb : ∀ j, Fc pb vb j → w1.heap.size ≤ j) : Ab w w2 pa xs pb xs := by
  have lt : ∀ {z : World} {p : Nat} {v : Value}, Hn z (Fc p v) p v xs → ∀ j, Fc p v j → j < z.heap.size := fun h j hj => by
    rcases hj with e | e
    · exact e ▸ h.lt
    · exact (OwnS.inside h.own j e).2
  have h2 := b2.size
  have h1 := b1.size
  exact ⟨⟨_, _, va, vb, ha.below b2, hb, fun j a b => by have := lt ha j a; have := lb j b; omega, fun j hj => ⟨la j hj, by have := lt ha j hj; omega⟩, fun j hj => ⟨by have := lb j hj; omega, lt hb j hj⟩⟩, b1.trans (b2.mono h1)⟩

set_option maxRecDepth 100000 in
set_option maxHeartbeats 4000000 in
theorem walk (a : Option Addr) (n c : Nat) (A : Nat → Stc) (h : Int) (_ : -9223372036854775808 ≤ h ∧ h ≤ 9223372036854775807) (b : Option Addr) (cb : Nat) (ps : List Int) (w : World) (ha : CameStc w a n A) (hb : CameI w b cb ps) :
    Calls Try.prog 7 #[.slice a n c, .int .i64 h, .slice b ps.length cb] w fun e w' => e = .returned (.bool true) ∧ Below w.heap.size w w' := by
  have hn := ha.size
  have hps := hb.size
  have hrow := hb.row
  obtain ⟨L, hL⟩ : ∃ L, L = ps.length := ⟨_, rfl⟩
  have HL := hide_it hL
  rw [← hL] at hps ⊢
  have hp1 := played_any a n c A w ha
  have hp2 := fun z (hz : Below w.heap.size w z) => played_any a n c A z (ha.below hz)
  have hxl := runL_len A n
  clear ha hb hL
  go_enter Try.func7, Try.ntmps7
  go_wp2_with fail
  refine hp1.mono ?_
  rintro e w1 ⟨⟨pa, va, rfl, h1, l1⟩, b1⟩
  have hp2 := hp2 w1 b1
  clear hp1
  go_wp2_with fail
  refine hp2.mono ?_
  rintro e w2 ⟨⟨pb, vb, rfl, h2, l2⟩, b2⟩
  have hgood := h1.good
  have hab := ab_two b1 b2 h1 l1 h2 l2
  obtain ⟨X, hX⟩ : ∃ X, X = runL A n := ⟨_, rfl⟩
  rw [← hX] at hab hgood hxl
  have HG := hide_it hgood
  have hpr := hab.prune (by omega) h
  have hplen := pru_len X h
  obtain ⟨g, hg⟩ : ∃ g, g = pruN X h := ⟨_, rfl⟩
  rw [← hg] at hpr hplen
  clear hp2 h1 l1 h2 l2 b1 b2 hX hab hgood hg
  go_wp2_with fail
  refine hpr.mono ?_
  rintro e w3 ⟨rfl, hab⟩
  have HY := hide_it (pru_twice HG.out h)
  have HAT : Hid (∀ s, h ≤ s → lastK (pruL X h) (upN (pruL X h) s) = lastK X (upN X s) ∧ decide (0 < upN (pruL X h) s) = decide (0 < upN X s)) := hide_it fun s hs => pru_at HG.out hs
  have HLA := hide_it (pru_last (xs := X) h)
  obtain ⟨Y, hY⟩ : ∃ Y, Y = pruL X h := ⟨_, rfl⟩
  rw [← hY] at hab hplen HY HAT HLA
  have haw := awake_any w3
  clear hpr hY
  go_wp2_with fail
  refine haw.mono ?_
  rintro e w4 ⟨rfl, b4⟩
  have hab := hab.below b4
  have hla := hab.lenA
  have hlb := hab.lenB
  have hpr := hab.prune (by omega) h
  rw [HY.out.1, HY.out.2] at hpr
  have hg0 : ¬ (g : Int) < 0 := by omega
  have hwg : IntKind.i64.wrap ((Y.length : Int) + (g : Int)) = (X.length : Int) := by rw [i64_in (by omega) (by omega)]; omega
  have hgt : decide (0 < (Y.length : Int)) = decide (0 < (X.length : Int)) := by
    have h9 := HLA.out.2
    by_cases e : 0 < X.length
    · rw [decide_eq_true e] at h9
      have := of_decide_eq_true h9
      rw [decide_eq_true (by omega), decide_eq_true (by omega)]
    · rw [decide_eq_false e] at h9
      have := of_decide_eq_false h9
      rw [decide_eq_false (by omega), decide_eq_false (by omega)]
  have HGT := hide_it hgt
  have HLx := hide_it hxl
  have HLy : Hid (Y.length ≤ n) := hide_it (by omega)
  obtain ⟨ly, hly⟩ : ∃ z, z = (Y.length : Int) := ⟨_, rfl⟩
  obtain ⟨lx, hlx⟩ : ∃ z, z = (X.length : Int) := ⟨_, rfl⟩
  rw [← hly] at hla hwg HGT
  rw [← hlx] at hlb hwg HGT
  replace hly := hide_it hly
  replace hlx := hide_it hlx
  clear haw b4 hab hgt hplen hxl
  go_wp2_with fail
  refine hla.mono ?_
  rintro e w5 ⟨rfl, e5⟩
  obtain rfl := e5.symm
  clear hla e5
  go_wp2_with fail
  refine hlb.mono ?_
  rintro e w6 ⟨rfl, e6⟩
  obtain rfl := e6.symm
  clear hlb e6
  go_wp2_with fail
  refine hpr.mono ?_
  rintro e w7 ⟨rfl, hab7⟩
  have HAB := hide_it hab7
  clear hpr hab7 hwg hg0
  go_wp2_with fail
  go_loopw [10] (fun i wr => ∃ k : Nat, k ≤ L ∧ i = .int .i64 (k : Int) ∧ Hid (Ab w wr pa Y pb X)) (fun i _ => L - (intOf i).toNat)
  case atStart => exact ⟨0, by omega, rfl, HAB⟩
  case round =>
    clear HAB
    obtain ⟨k, hk, rfl, HAB⟩ := hrel
    by_cases hlt : k < L
    · have hki : (k : Int) < (L : Int) := by omega
      have hkx : k < ps.length := by have := HL.out; omega
      have hw1 : IntKind.i64.wrap ((k : Int) + 1) = (k : Int) + 1 := i64_in (by omega) (by omega)
      obtain ⟨b1, o1, rfl, l1, da⟩ := (hrow.below HAB.out.bel).here hkx
      have d0 := da k hkx
      clear da
      have l1w : b1 < wr.heap.size := by have := HAB.out.bel.size; omega
      generalize atI ps k = s at *
      by_cases hs : s < h
      · go_wp2
        go_roundw
        case rel => exact ⟨k + 1, by omega, by go_num, HAB⟩
        case measure => simp [intOf]; omega
      · have h1 := HAB.out.atA (by have := HLy.out; omega) s
        have hat := HAT.out s (by omega)
        rw [hat.1, hat.2] at h1
        have h2 := fun z (hz : Below wr.heap.size wr z) => (HAB.out.below hz).atB (by have := HLx.out; omega) s
        generalize lastK X (upN X s) = Z at *
        generalize decide (0 < upN X s) = bb at *
        unfold tellL lkV at h1 h2
        clear hat
        go_wp2_with fail
        refine h1.mono ?_
        rintro e z1 ⟨rfl, y1⟩
        obtain ⟨Z1, hZ1⟩ : ∃ W, W = z1.alloc (.cells #[.int .i64 Z.n, .string Z.v, .bool Z.d] 38) := ⟨_, rfl⟩
        obtain ⟨B1, hB1⟩ : ∃ B, B = z1.heap.size := ⟨_, rfl⟩
        have k1 : Z1.heap[B1]? = some (.cells #[.int .i64 Z.n, .string Z.v, .bool Z.d] 38 (0, 0)) := by rw [hZ1, hB1]; exact heap_alloc_new z1 _
        have yy1 : Below wr.heap.size wr Z1 := by rw [hZ1]; exact y1.trans (((Below.refl _ _).alloc (Nat.le_refl _) _).mono y1.size)
        have lB1 := (Array.getElem?_eq_some_iff.1 k1).1
        have d1 := (y1.cell (p := ⟨b1, o1 + k, none⟩) l1w).trans d0
        have l1z : b1 < z1.heap.size := by have := y1.size; omega
        have h2 := h2 Z1 yy1
        clear h1 y1 d0
        go_wp2_with fail
        rw [← hZ1, ← hB1]
        clear hZ1 hB1
        refine h2.mono ?_
        rintro e z2 ⟨rfl, y2⟩
        have k2 := (y2.block B1 lB1).trans k1
        have q0 : z2.cell? ⟨B1, 0, none⟩ = some (.int .i64 Z.n) := cell_of_row _ _ _ _ _ _ k2
        have q1 : z2.cell? ⟨B1, 1, none⟩ = some (.string Z.v) := cell_of_row _ _ _ _ _ _ k2
        have q2 : z2.cell? ⟨B1, 2, none⟩ = some (.bool Z.d) := cell_of_row _ _ _ _ _ _ k2
        have lB2 := (Array.getElem?_eq_some_iff.1 k2).1
        have hy2 := yy1.trans (y2.mono yy1.size)
        have HA2 := hide_it (HAB.out.below (hy2.trans (((Below.refl _ _).alloc (Nat.le_refl _) (.cells #[.int .i64 Z.n, .string Z.v, .bool Z.d] 38)).mono hy2.size)))
        have e1 : (Z.n == Z.n) = true := by simp
        have e2 : (Z.v.toList == Z.v.toList) = true := by simp
        have e3 : (Z.d == Z.d) = true := by simp
        have e4 : (bb != bb) = false := by simp
        clear h2 y2 k1 k2 d1 yy1 hy2
        go_wp2
        go_roundw
        case rel => exact ⟨k + 1, by omega, by go_num, HA2⟩
        case measure => simp [intOf]; omega
    · have h1 := HAB.out.lastA (by have := HLy.out; omega)
      rw [HLA.out.1, HLA.out.2] at h1
      have h2 := fun z (hz : Below wr.heap.size wr z) => (HAB.out.below hz).lastB (by have := HLx.out; omega)
      have h3 := fun z (hz : Below wr.heap.size wr z) => (HAB.out.below hz).lenA
      have h4 := fun z (hz : Below wr.heap.size wr z) => (HAB.out.below hz).lenB
      simp only [← hly.out] at h3
      simp only [← hlx.out] at h4
      have hB := HAB.out.bel
      generalize lastK X X.length = Z at *
      generalize decide (0 < X.length) = bb at *
      unfold tellL lkV at h1 h2
      have HB := hide_it hB
      clear hrow HAB hB HAT HLA HY
      go_wp2_with fail
      refine h1.mono ?_
      rintro e z1 ⟨rfl, y1⟩
      obtain ⟨Z1, hZ1⟩ : ∃ W, W = z1.alloc (.cells #[.int .i64 Z.n, .string Z.v, .bool Z.d] 38) := ⟨_, rfl⟩
      obtain ⟨B1, hB1⟩ : ∃ B, B = z1.heap.size := ⟨_, rfl⟩
      have k1 : Z1.heap[B1]? = some (.cells #[.int .i64 Z.n, .string Z.v, .bool Z.d] 38 (0, 0)) := by rw [hZ1, hB1]; exact heap_alloc_new z1 _
      have yy1 : Below wr.heap.size wr Z1 := by rw [hZ1]; exact y1.trans (((Below.refl _ _).alloc (Nat.le_refl _) _).mono y1.size)
      have lB1 := (Array.getElem?_eq_some_iff.1 k1).1
      have h2 := h2 Z1 yy1
      clear h1 y1
      go_wp2_with fail
      rw [← hZ1, ← hB1]
      clear hZ1 hB1
      refine h2.mono ?_
      rintro e z2 ⟨rfl, y2⟩
      obtain ⟨Z2, hZ2⟩ : ∃ W, W = z2.alloc (.cells #[.int .i64 Z.n, .string Z.v, .bool Z.d] 38) := ⟨_, rfl⟩
      obtain ⟨B2, hB2⟩ : ∃ B, B = z2.heap.size := ⟨_, rfl⟩
      have k2 : Z2.heap[B2]? = some (.cells #[.int .i64 Z.n, .string Z.v, .bool Z.d] 38 (0, 0)) := by rw [hZ2, hB2]; exact heap_alloc_new z2 _
      have y22 : Below Z1.heap.size Z1 Z2 := by rw [hZ2]; exact y2.trans (((Below.refl _ _).alloc (Nat.le_refl _) _).mono y2.size)
      have k12 := (y2.block B1 lB1).trans k1
      have lB12 := (Array.getElem?_eq_some_iff.1 k12).1
      have hy2 := yy1.trans (y22.mono yy1.size)
      have q0 : z2.cell? ⟨B1, 0, none⟩ = some (.int .i64 Z.n) := cell_of_row _ _ _ _ _ _ k12
      have q1 : z2.cell? ⟨B1, 1, none⟩ = some (.string Z.v) := cell_of_row _ _ _ _ _ _ k12
      have q2 : z2.cell? ⟨B1, 2, none⟩ = some (.bool Z.d) := cell_of_row _ _ _ _ _ _ k12
      have h3 := h3 Z2 hy2
      have h4 := h4 Z2 hy2
      have e1 : (Z.n == Z.n) = true := by simp
      have e2 : (Z.v.toList == Z.v.toList) = true := by simp
      have e3 : (Z.d == Z.d) = true := by simp
      have e4 : (bb == bb) = true := by simp
      have HB2 := hide_it (HB.out.trans (hy2.mono HB.out.size))
      clear h2 y2 y22 k1 k2 k12 yy1 hy2
      go_wp2_with fail
      rw [← hZ2, ← hB2]
      clear hZ2 hB2
      refine h3.mono ?_
      rintro e z3 ⟨rfl, e3'⟩
      obtain rfl := e3'.symm
      clear h3 e3'
      go_wp2_with fail
      refine h4.mono ?_
      rintro e z4 ⟨rfl, e4'⟩
      obtain rfl := e4'.symm
      have hgt2 : (decide (0 < ly) == decide (0 < lx)) = true := by rw [HGT.out]; simp
      clear h4 e4' q0 q1 q2
      go_wp2
      go_ret
      exact ⟨rfl, HB2.out⟩
end Go.Proofs.Ytncmnhomloanaaa.chainPruned
