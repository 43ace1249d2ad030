/- append to a slice of one's own, once more: what lay in it lies where it lay. -/
import Derived.Test.YthaknohnccmfoaaSl1
import Derived.Test.YthaknohnccmfoaaReg2
namespace Go.Proofs.Ythaknohnccmfoaa
open Go.RowKit

/-- The cells of a slice lie where they lay. -/
def Lies (w w' : World) (e : TypeId) (v : Value) (xs : List Value) : Prop :=
  ∀ g o n c cur, v = .slice (some ⟨g, o, none⟩) n c → w.heap[g]? = some (.cells cur e (0, 0)) → (∀ i, i < xs.length → cur[o + i]? = xs[i]?) → ∃ cur', w'.heap[g]? = some (.cells cur' e (0, 0)) ∧ ∀ i, i < xs.length → cur'[o + i]? = xs[i]?

section
variable {P : Program} {w : World} {base : Nat} {e : TypeId} {sz bytes : Nat} {v : Value} {n : Nat} {xs : List Value}
theorem run_append_S2 (t tx ty : TypeId) (z : Value) (ht : P.underlying t = some (.slice e)) (hinfo : (P.info? e).map (fun i => (i.zero, i.size, i.bytes)) = some (some z, sz, bytes)) (hzs : z.cells.size = sz)
    (hown : OwnS w base e sz v n xs) (x : Value) (m : Nat) (news : List Value) (hsrc : Src P sz tx x m news w) (h63 : n + m ≤ maxLen) (hbytes : ((n + m) + (n + m) / 4 + 192) * bytes ≤ 281474976710656) (hbase : base ≤ w.heap.size) :
    ∃ v' w', (Builtin.append_ #[t, tx] ty #[v, x]).run P w = .ok v' w' ∧ OwnS w' base e sz v' (n + m) (xs ++ news) ∧ w.grownBy w' v.ownBlock ∧ (v'.ownBlock = v.ownBlock ∨ v'.ownBlock = some w.heap.size) ∧ Lies w w' e v xs := by
  obtain ⟨v', w', hr, ho, hg, hat⟩ := run_append_S (P := P) t tx ty z ht hinfo hzs hown x m news hsrc h63 hbytes hbase
  refine ⟨v', w', hr, ho, hg, hat, ?_⟩
  intro g o n' c cur hv hh hc
  subst hv
  -- in place, or to new memory
  rcases hown.2 with ⟨h2, _⟩ | ⟨g', o', cap, cur', e1, hbg, hg', hnc, hcm, hcs, hat'⟩
  · cases h2
  · cases e1
    rw [hh] at hg'; cases hg'
    obtain ⟨i, hi, hz, hsz, hby⟩ := info_parts hinfo
    subst hsz
    by_cases hroom : n + m ≤ c
    · have hl := hsrc.newsLen
      have h1 : (n + m) * i.size ≤ c * i.size := Nat.mul_le_mul_right _ hroom
      rw [Nat.add_mul] at h1
      have hxl := hown.1
      have hr2 := run_append_room_src (P := P) w t tx ty e i ht hi g o n c x m news hsrc hroom
        (fun j hj => by rw [cell_of_row _ _ _ _ _ _ hh, Array.getElem?_eq_getElem (by omega)]; rfl) (fun j hj => frozen_of_row _ _ _ _ _ hh)
      rw [hr2] at hr
      cases hr
      refine ⟨_, heap_setCells g e news _ w cur hh, fun j hj => ?_⟩
      rw [putL_out _ _ _ _ (by omega)]
      exact hc j hj
    · refine ⟨cur, ?_, hc⟩
      have hold : (Builtin.firstCells i.size n (.slice (some ⟨g, o, none⟩) n c)).run P w.drew = .ok xs.toArray w.drew :=
        run_firstCells_some w.drew i.size n _ n c xs hown.1 (fun j u hu => by
          have hj := (List.getElem?_eq_some_iff.1 hu).1
          rw [Addr.add_lit]
          show w.cell? _ = _
          rw [cell_of_row _ _ _ _ _ _ hh, hc j hj]
          exact hu)
      have h63' : ((n + m : Nat) : Int) ≤ 9223372036854775807 := by simp only [maxLen] at h63; omega
      subst hby
      have hr2 := run_append_grow_src (P := P) w t tx ty e i z ht hi hz (some ⟨g, o, none⟩) n c xs hold x m news hsrc (by omega) h63' (growslice_fits_wide (by omega) hbytes)
      rw [hr2] at hr
      cases hr
      exact (Below.heap_alloc w.drew _ g (Array.getElem?_eq_some_iff.1 hh).1).trans hh
end

end Go.Proofs.Ythaknohnccmfoaa
