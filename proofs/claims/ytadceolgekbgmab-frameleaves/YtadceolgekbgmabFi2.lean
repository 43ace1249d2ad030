/- The program's Count, walked. -/
import Derived.Test.YtadceolgekbgmabFi1
namespace Go.Proofs.Ytadceolgekbgmab
open Go.RowKit Go.Shelf

attribute [local go_sem] Oper.semAt_some

/-- Where the last one ends. -/
def lastE (l : List (Nat × List Nat)) : Nat := (l.getLast?.map Prod.fst).getD 0
theorem lastE_snoc (l : List (Nat × List Nat)) (x : Nat × List Nat) : lastE (l ++ [x]) = x.1 := by simp [lastE]

set_option maxRecDepth 100000 in
set_option maxHeartbeats 2000000 in
theorem count_any (a : Option Addr) (cap : Nat) (bs : List Nat) (w : World) (hr : RowB w a bs) (h8 : All8 bs) (hl : bs.length ≤ 140737488355328) (hnil : a = none → bs.length = 0 ∧ cap = 0) :
    Calls Try.prog 17 #[.slice a bs.length cap] w fun e w' => e = .returned (.tuple #[.int .i64 ((frs bs).length : Int), .int .i64 ((lastE (frs bs) : Nat) : Int)]) ∧ Below w.heap.size w w' := by
  have hfl := frs_len bs
  obtain ⟨U, hU⟩ : ∃ U, U = (w.alloc (.cells #[.int .i64 0] 3)).alloc (.cells #[.int .i64 0] 3) := ⟨_, rfl⟩
  have hzU : U.heap.size = w.heap.size + 1 + 1 := by rw [hU]; simp
  have hbU : Below w.heap.size w U := by rw [hU]; exact ((Below.refl _ w).alloc (Nat.le_refl _) _).alloc (by simp) _
  have b0 : Boxed U w.heap.size 3 (.int .i64 0) := by rw [hU]; exact (Boxed.new w _ _).alloc _
  have b1 : Boxed U (w.heap.size + 1) 3 (.int .i64 0) := by
    have := Boxed.new (w.alloc (.cells #[.int .i64 0] 3)) 3 (.int .i64 0)
    rw [hU]; simpa using this
  have hall := all_any a cap bs U (hr.below hbU) hl hnil
  refine (callsIn_wide (n := 3)).1 ?_
  refine callsIn_of_wp_marks Try.func17 rfl trivial ?_ rfl
  simp only [Try.ntmps17, List.size_toArray, List.length_cons, List.length_nil, Nat.reduceAdd, Nat.reduceSub, Array.replicate_succ, Array.replicate_zero, List.push_toArray, List.append_toArray, List.nil_append, List.cons_append]
  gi_wp2_with fail
  rw [← hU]
  clear hU hr
  refine ⟨trivial, (callsIn_wide.2 hall).mono ?_⟩
  rintro e w1 ⟨v, Bq, rfl, hbx, hown, hBq, hb1⟩
  have hbw1 := hbU.trans (hb1.mono (by omega))
  have hz1 := hb1.size
  have c0 : Boxed w1 w.heap.size 3 (.int .i64 ((0 : Nat) : Int)) := b0.kept (grown_none hb1) (by simp)
  have c1 : Boxed w1 (w.heap.size + 1) 3 (.int .i64 ((0 : Nat) : Int)) := b1.kept (grown_none hb1) (by simp)
  have hBl := hbx.lt
  have hvl := hown.inside
  have hvg : ∀ j, v.ownBlock = some j → U.heap.size ≤ j := fun j hj => hown.ge hj
  clear hall b0 b1 hbU
  gi_wp2_with fail
  generalize hact : ({ tmps := _, defers := [] } : Act) = act0
  refine range_tells (F := Fence.wide) rfl (by omega) (gf := 30) (lb := #[.pointer (some ⟨Bq, 0, none⟩)]) (by rw [← hact]; rfl) trivial (enters_of Try.func30 (by kernel_rfl) rfl)
    (tellsF _ Bq U.heap.size v bs w1 hbx hown h8 (by omega) hl) (Below.refl _ _) kpF_t (kpF_b hBl hvl) (fun _ _ _ _ _ _ _ _ h1 h2 h3 => h3.put h1 h2) (fun _ => rfl)
    (fun pre W => Boxed W w.heap.size 3 (.int .i64 ((pre.length : Nat) : Int)) ∧ Boxed W (w.heap.size + 1) 3 (.int .i64 ((lastE (pre.map tl) : Nat) : Int)) ∧ Below w.heap.size w W)
    (fun _ _ _ => False) ?hI (fun _ _ _ _ _ hs _ _ => hs) ⟨c0, c1, hbw1⟩
    (fun x => { tmps := ((act0.tmps.setIfInBounds 9 (.int .i64 (x.1 : Int))).setIfInBounds 10 x.2.1).setIfInBounds 6 (.int .i64 (x.1 : Int)), defers := [] }) ?assign ?body ?done ?stop
  case hI =>
    exact OwnFrom.and (Own.from (boxed_own _ _ (fun pre : List Hand => .int .i64 ((pre.length : Nat) : Int))) _) (OwnFrom.and (Own.from (boxed_own _ _ (fun pre : List Hand => .int .i64 ((lastE (pre.map tl) : Nat) : Int))) _) (ownFrom_below (Nat.le_refl _) hbw1.size))
  case assign =>
    subst hact
    intro l x W K hK
    gi_wp2
    simp only [List.setIfInBounds_toArray, List.set_cons_zero, List.set_cons_succ] at hK
    exact hK
  case body =>
    subst hact
    rintro l pre x X W hlw ⟨o, hlo, hoc⟩ ⟨i0, i1, hB⟩ hg hG
    have hpl : pre.length < (frs bs).length := (List.getElem?_eq_some_iff.1 hG.1).1
    have j0 := i0.kept hg (by simp; omega)
    have j1 := i1.kept hg (by simp; omega)
    have q0 := j0.cell
    have q1 := j1.cell
    have f0 := j0.frozen
    have f1 := j1.frozen
    have hBW : Below w.heap.size w W := hB.grown hg hB.size (fun j e => by cases e; omega)
    have HJ0 := hide_it j0
    have HJ1 := hide_it j1
    have HL := hide_it (lastE_snoc (pre.map tl) (tl x))
    obtain ⟨y, u, zs⟩ := x
    clear j0 j1 i0 i1 hB hg hG hlo
    generalize lastE (pre.map tl) = LE at *
    have hw1 : IntKind.i64.wrap ((pre.length : Int) + 1) = (pre.length : Int) + 1 := i64_in (by omega) (by omega)
    gi_wp2
    refine ⟨((KeepsOthers.setCell _ _ _).trans (KeepsOthers.setCell _ _ _)).from _, ⟨by simp, ?_, fun j hj => ?_⟩, ?_, ?_, ?_⟩
    · rw [Below.heap_setCell _ _ _ _ (by simp; omega), Below.heap_setCell _ _ _ _ (by simp; omega)]
    · have := hvg j hj
      rw [Below.heap_setCell _ _ _ _ (by simp; omega), Below.heap_setCell _ _ _ _ (by simp; omega)]
    · have := (HJ0.out.set (.int .i64 ((pre.length : Int) + 1))).other (B' := w.heap.size + 1) (by omega) (.int .i64 (y : Int))
      simpa using this
    · have := (HJ1.out.other (B' := w.heap.size) (by omega) (.int .i64 ((pre.length : Int) + 1))).set (.int .i64 (y : Int))
      rw [List.map_append, show List.map tl [(y, u, zs)] = [tl (y, u, zs)] from rfl, HL.out]
      exact this
    · exact (hBW.setCell (p := ⟨w.heap.size, 0, none⟩) (Nat.le_refl _) _).setCell (p := ⟨w.heap.size + 1, 0, none⟩) (by simp) _
  case done =>
    subst hact
    rintro D xs W hD hS ⟨i0, i1, hB⟩ hK
    have hlen : xs.length = (frs bs).length := by rw [← hS, List.length_map]
    rw [hlen] at i0
    rw [hS] at i1
    have q0 := i0.cell
    have q1 := i1.cell
    clear i0 i1 hS hlen hfl
    obtain ⟨N, hN⟩ : ∃ N, N = (frs bs).length := ⟨_, rfl⟩
    obtain ⟨LE, hLE⟩ : ∃ LE, LE = lastE (frs bs) := ⟨_, rfl⟩
    rw [← hN] at q0
    rw [← hLE] at q1
    replace hN := hide_it hN
    replace hLE := hide_it hLE
    gi_wp2
    gi_region
    all_goals gi_wp2
    all_goals refine ⟨by simp, .inl ⟨_, _, rfl, run_takeDeferred (w := W.drew) hK, ?_⟩⟩
    all_goals refine ⟨.tuple #[.int .i64 (N : Int), .int .i64 (LE : Int)], by simp [results, Try.results17, go_sem], by rw [hN.out, hLE.out], ?_⟩
    all_goals exact hB.drew.trans (belowK_b (w := w) (Nat.le_refl _) _ D _ _ (by omega) hK rfl rfl)
  case stop =>
    rintro D c pre W _ _ h _
    exact h.elim

end Go.Proofs.Ytadceolgekbgmab
