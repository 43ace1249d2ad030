/- distinct of every list of labels. -/
import Derived.Test.YthclmkmajlinhabCmp1
namespace Go.Proofs.Ythclmkmajlinhab
open Go.RowKit

set_option maxHeartbeats 400000 in
theorem clone_wide (a : Option Addr) (cap : Nat) (zs : List Nat) (w : World) (hr : Row w a zs) (hl : 8 * zs.length ≤ 140737488355328) (hnil : a = none → zs.length = 0 ∧ cap = 0) :
    Calls Try.prog 33 #[.slice a zs.length cap] w fun e w' => (∃ v, e = .returned v ∧ w'.ownsRow w.heap.size 36 1 v zs.length (zs.map encU)) ∧ Below w.heap.size w w' := by
  obtain ⟨i0, hi, hz0, hz1, hz2⟩ := info_parts infoLab
  have hn1 := fun (w : World) (a : Option Addr) (n c : Nat) => Lib.run_eql_slice_nil (P := Try.prog) w 22 36 a n c 0 0 Try.underlying22
  cases a with
  | none =>
    obtain ⟨h1, h2⟩ := hnil rfl
    rw [h1, h2]
    go_enter Try.func33, Try.ntmps33
    go_wp2
    go_ret
    refine ⟨⟨_, rfl, ?_⟩, Below.refl _ _⟩
    rw [List.eq_nil_of_length_eq_zero h1]
    exact World.ownsRow_nil _ _ _ _
  | some ad =>
    go_enter Try.func33, Try.ntmps33
    have hnews : ∀ j u, (zs.map encU)[j]? = some u → (w.alloc (.cells #[] 36)).cell? (ad.add j) = some u := fun j u hu => by
      have hj : j < zs.length := by have := (List.getElem?_eq_some_iff.1 hu).1; simpa using this
      obtain ⟨b, o, e, hb, hc⟩ := hr.here hj
      cases e
      have hb2 : Below w.heap.size w (w.alloc (.cells #[] 36)) := (Below.refl _ _).alloc (Nat.le_refl _) _
      rw [Addr.add_lit, hb2.cell (p := ⟨b, o + j, none⟩) hb, hc j hj]
      have := map_at0 (q := .u64) hj []
      rw [List.append_nil] at this
      exact this.symm.trans hu
    have hone : ∀ u ∈ zs.map encU, u.oneCell' = true := fun u hu => by
      obtain ⟨z, _, rfl⟩ := List.mem_map.1 hu
      rfl
    have hn63 : 0 + zs.length ≤ maxLen := by unfold maxLen; omega
    have hown0 : (w.alloc (.cells #[] 36)).ownsRow w.heap.size 36 1 (.slice (some ⟨w.heap.size, 0, none⟩) 0 0) 0 [] := ⟨rfl, .inr ⟨_, _, _, rfl, Nat.le_refl _, heap_alloc_new w _, Nat.le_refl _, by unfold maxLen; omega, rfl, rfl⟩⟩
    have hlm : (zs.map encU).length = zs.length * 1 := by simp
    clear hr
    go_wp2_with (first | (at_builtin; refine wpList_append_own_at _ rfl _ _ 22 rfl w.heap.size 36 i0 (.int .u64 0) 1 8 Try.underlying22 hi hz0 hz1 hz2 rfl (by omega) _ _ _ rfl hown0 ad zs.length cap (zs.map encU) rfl hlm hnews hone hn63 (by omega) (by simp) ?_; intro v4 w4 hown4 hgrow4 hnil4 hat4))
    go_ret
    have hg5 : (w.alloc (.cells #[] 36)).grownBy w4 (some w.heap.size) := hgrow4
    exact ⟨⟨v4, rfl, by simpa using hown4⟩, ((Below.refl _ _).alloc (Nat.le_refl _) _).grown hg5 (by simp) (fun j e => by cases e; exact Nat.le_refl _)⟩

set_option maxHeartbeats 400000 in
theorem distinct_any (N : Nat) (hN : SortsL N) (zs : List Nat) (hlN : zs.length ≤ N) (hl : 8 * zs.length ≤ 140737488355328) : DistinctOk zs := by
  intro a cap w hr hnil
  go_enter Try.func21, Try.ntmps21
  go_wp2_with fail
  refine (clone_wide a cap zs w hr hl hnil).mono ?_
  rintro e w1 ⟨⟨v, rfl, hown⟩, hb1⟩
  rcases hown.2 with ⟨rfl, hz⟩ | ⟨g, cp, cur, rfl, _⟩
  · have hzs : zs = [] := List.eq_nil_of_length_eq_zero hz
    subst hzs
    go_wp2_with fail
    refine (sort_none none 0 _).mono ?_
    rintro e w2 ⟨rfl, rfl⟩
    go_wp2_with fail
    refine (compact_any none 0 [] _ (.inl rfl) (by unfold maxLen; simp) (fun i hi => by simp at hi)).mono ?_
    rintro e w3 ⟨rfl, q, rfl⟩
    go_wp2_with fail
    go_ret
    exact ⟨⟨_, [], rfl, fun x => Iff.rfl, fun i hi => by simp at hi, Nat.le_refl _, World.ownsRow_nil _ _ _ _⟩, below_drewN hb1 _⟩
  · obtain ⟨rest, hB, hnn, hr2, hcp, hcm, hbs⟩ := blk_of_row hown
    have hcs := hN g zs.length cp zs rest w1 hB rfl hlN
    clear hown hB
    go_wp2_with fail
    refine hcs.mono ?_
    rintro e w2 ⟨rfl, C, hp, hso, hB2, hg2⟩
    have hle : C.length = zs.length := hp.length_eq
    have hb2 := hb1.grown hg2 hb1.size (fun j e => by cases e; exact hbs)
    have hcc := compact_sorted g zs.length cp C rest w2 hB2 hle hso hcp (by omega)
    clear hcs hB2
    go_wp2_with fail
    refine hcc.mono ?_
    rintro e w3 ⟨D, rest', rfl, hm, hst, hDl, hB3, hrl, hg3⟩
    have hb3 := hb2.grown hg3 hb2.size (fun j e => by cases e; exact hbs)
    have hrow3 := row_of_blk (base := w.heap.size) hB3 rfl (cap := cp) (by omega) (by omega) hcm hbs
    have HM := hidec hm
    have HS := hidec hst
    clear hcc hm hst
    go_wp2_with fail
    go_ret
    exact ⟨⟨_, D, rfl, fun x => (HM.out x).trans hp.mem_iff, HS.out, by omega, hrow3⟩, hb3⟩

end Go.Proofs.Ythclmkmajlinhab
