/- A chain that is not there. -/
import Derived.Test.YtncmnhomloanaaaHl2
namespace Go.Proofs.Ytncmnhomloanaaa
open Go.RowKit Go.Shelf

attribute [local go_sem] Oper.semAt_some

set_option maxRecDepth 100000 in
set_option maxHeartbeats 400000 in
theorem last_none (w : World) : Calls Try.prog 12 #[.pointer none] w fun e w' => e = tellL zeroLk false ∧ Below w.heap.size w w' := by
  obtain ⟨W, hW⟩ : ∃ W, W = w.alloc (.cells #[.int .i64 0, .string ⟨#[]⟩, .bool false] 38) := ⟨_, rfl⟩
  have hb : Below w.heap.size w W := by rw [hW]; exact (Below.refl _ _).alloc (Nat.le_refl _) _
  have hlt : w.heap.size < W.heap.size := by rw [hW]; simp
  have c0 : ∀ z, Below W.heap.size W z → z.heap[w.heap.size]? = some (.cells #[.int .i64 0, .string ⟨#[]⟩, .bool false] 38 (0, 0)) := fun z hz => by
    rw [hz.block w.heap.size hlt, hW]; exact heap_alloc_new w _
  have hlen := len_none W
  have hla := lastOf_zero none W
  go_enter Try.func12, Try.ntmps12
  go_wp2_with fail
  rw [← hW]
  clear hW
  refine hlen.mono ?_
  rintro e w1 ⟨rfl, hw1⟩
  obtain rfl := hw1.symm
  clear hlen hw1
  go_wp2_with fail
  refine hla.mono ?_
  rintro e w2 ⟨rfl, hb2⟩
  have k0 := c0 w2 hb2
  have f0 : ∀ j, w2.frozen? ⟨w.heap.size, j, none⟩ = false := fun j => frozen_of_row _ _ _ _ _ k0
  have d0 : w2.cell? ⟨w.heap.size, 0, none⟩ = some (.int .i64 0) := cell_of_row _ _ _ _ _ _ k0
  have d1 : w2.cell? ⟨w.heap.size, 1, none⟩ = some (.string ⟨#[]⟩) := cell_of_row _ _ _ _ _ _ k0
  have d2 : w2.cell? ⟨w.heap.size, 2, none⟩ = some (.bool false) := cell_of_row _ _ _ _ _ _ k0
  have hz := hb2.size
  have HB := hide_it (hb.trans (hb2.mono hb.size))
  clear c0 hla hb2 k0
  unfold tellL lkV zeroLk
  go_wp2
  refine bodyPost_ret (v := .tuple #[.agg #[.int .i64 0, .string ⟨#[]⟩, .bool false], .bool false]) (by simp [results, Try.results12, d0, d1, d2, go_sem]) rfl ⟨rfl, ?_⟩
  exact ((HB.out.setCell (p := ⟨w.heap.size, 0, none⟩) (Nat.le_refl _) _).setCell (p := ⟨w.heap.size, 1, none⟩) (Nat.le_refl _) _).setCell (p := ⟨w.heap.size, 2, none⟩) (Nat.le_refl _) _

set_option maxRecDepth 100000 in
set_option maxHeartbeats 1000000 in
theorem upTo_none (s : Int) (w : World) :
    Calls Try.prog 26 #[.pointer none, .int .i64 s] w fun e w' => e = .returned (.int .i64 0) ∧ Below w.heap.size w w' := by
  obtain ⟨W, hW⟩ : ∃ W, W = (w.alloc (.cells #[.pointer none] 25)).alloc (.cells #[.int .i64 s] 3) := ⟨_, rfl⟩
  have hb : Below w.heap.size w W := by rw [hW]; exact ((Below.refl _ _).alloc (Nat.le_refl _) _).alloc (by simp) _
  have c0 : W.cell? ⟨w.heap.size, 0, none⟩ = some (.pointer none) := by
    rw [hW, cell_of_row _ _ _ _ _ _ (show ((w.alloc _).alloc _).heap[w.heap.size]? = _ by rw [Below.heap_alloc _ _ _ (by simp)]; exact heap_alloc_new w _)]; rfl
  have hlen := len_none W
  have hs := search_any w.heap.size (w.heap.size + 1) 0 (fun _ => false) W (by omega) (hide_it fun a b _ h => by omega) (hide_it fun z i _ h => by omega)
  have hmf : ∀ (fn : Fn) (first cap : Array Value) (w : World), (Instr.makeFunc fn first cap).run Try.prog w = .ok (.func fn first cap) w := fun _ _ _ _ => rfl
  go_enter Try.func26, Try.ntmps26
  go_wp2_with fail
  rw [← hW]
  clear hW
  refine hlen.mono ?_
  rintro e w1 ⟨rfl, hw1⟩
  obtain rfl := hw1.symm
  clear hlen hw1
  go_wp2_with fail
  refine hs.mono ?_
  rintro e w2 ⟨⟨J, rfl, hJ, _, _⟩, hb2⟩
  obtain rfl : J = 0 := by omega
  have HB := hide_it (hb.trans (hb2.mono hb.size))
  clear hs hb2 hJ
  go_wp2_with fail
  go_ret
  exact ⟨rfl, HB.out⟩

set_option maxRecDepth 100000 in
set_option maxHeartbeats 400000 in
theorem at_none (s : Int) (w : World) : Calls Try.prog 11 #[.pointer none, .int .i64 s] w fun e w' => e = tellL zeroLk false ∧ Below w.heap.size w w' := by
  obtain ⟨W, hW⟩ : ∃ W, W = w.alloc (.cells #[.int .i64 0, .string ⟨#[]⟩, .bool false] 38) := ⟨_, rfl⟩
  have hb : Below w.heap.size w W := by rw [hW]; exact (Below.refl _ _).alloc (Nat.le_refl _) _
  have hlt : w.heap.size < W.heap.size := by rw [hW]; simp
  have c0 : ∀ z, Below W.heap.size W z → z.heap[w.heap.size]? = some (.cells #[.int .i64 0, .string ⟨#[]⟩, .bool false] 38 (0, 0)) := fun z hz => by
    rw [hz.block w.heap.size hlt, hW]; exact heap_alloc_new w _
  have hup := upTo_none s W
  have hla := fun z => lastOf_zero none z
  go_enter Try.func11, Try.ntmps11
  go_wp2_with fail
  rw [← hW]
  clear hW
  refine hup.mono ?_
  rintro e w1 ⟨rfl, hb1⟩
  clear hup
  go_wp2_with fail
  refine (hla w1).mono ?_
  rintro e w2 ⟨rfl, hb2⟩
  have hz1 := hb1.size
  have hb12 := hb1.trans (hb2.mono hb1.size)
  have k0 := c0 w2 hb12
  have f0 : ∀ j, w2.frozen? ⟨w.heap.size, j, none⟩ = false := fun j => frozen_of_row _ _ _ _ _ k0
  have d0 : w2.cell? ⟨w.heap.size, 0, none⟩ = some (.int .i64 0) := cell_of_row _ _ _ _ _ _ k0
  have d1 : w2.cell? ⟨w.heap.size, 1, none⟩ = some (.string ⟨#[]⟩) := cell_of_row _ _ _ _ _ _ k0
  have d2 : w2.cell? ⟨w.heap.size, 2, none⟩ = some (.bool false) := cell_of_row _ _ _ _ _ _ k0
  have hz := hb2.size
  have HB := hide_it (hb.trans (hb12.mono hb.size))
  clear c0 hla hb1 hb2 hb12 k0
  unfold tellL lkV zeroLk
  go_wp2
  refine bodyPost_ret (v := .tuple #[.agg #[.int .i64 0, .string ⟨#[]⟩, .bool false], .bool false]) (by simp [results, Try.results11, d0, d1, d2, go_sem]) rfl ⟨rfl, ?_⟩
  exact ((HB.out.setCell (p := ⟨w.heap.size, 0, none⟩) (Nat.le_refl _) _).setCell (p := ⟨w.heap.size, 1, none⟩) (Nat.le_refl _) _).setCell (p := ⟨w.heap.size, 2, none⟩) (Nat.le_refl _) _

set_option maxRecDepth 100000 in
theorem prune_none (s : Int) (w : World) : Calls Try.prog 15 #[.pointer none, .int .i64 s] w fun e w' => e = .returned (.int .i64 0) ∧ Below w.heap.size w w' := by
  have hup := upTo_none s w
  go_enter Try.func15, Try.ntmps15
  go_wp2_with (refine hup.mono ?_; rintro e w1 ⟨rfl, hb1⟩)
  have HB := hide_it hb1
  clear hup hb1
  go_wp2
  go_ret
  exact ⟨rfl, HB.out⟩

set_option maxRecDepth 100000 in
set_option maxHeartbeats 2000000 in
theorem walk_none (w : World) :
    Calls Try.prog 17 #[.pointer none, .int .i64 (-1)] w fun e w' => (∃ a c, e = .returned (.slice a 0 c)) ∧ Below w.heap.size w w' := by
  have hfn : ∀ (fn : Fn) (a b : Array Value) (w : World), (binOp .eql 63 (.func fn a b) .nilFunc).run Try.prog w = .ok (.bool false) w := fun _ _ _ _ => rfl
  obtain ⟨U, hU⟩ : ∃ U, U = (w.alloc (.cells #[.int .i64 (-1)] 3)).alloc (.cells #[.slice none 0 0] 26) := ⟨_, rfl⟩
  have hbU : Below w.heap.size w U := by rw [hU]; exact ((Below.refl _ _).alloc (Nat.le_refl _) _).alloc (by simp) _
  have hzU : U.heap.size = w.heap.size + 1 + 1 := by rw [hU]; simp
  have bM : Boxed U w.heap.size 3 (.int .i64 (-1)) := by rw [hU]; exact (Boxed.new w _ _).alloc _
  have bO : Boxed U (w.heap.size + 1) 26 (.slice none 0 0) := by
    have := Boxed.new (w.alloc (.cells #[.int .i64 (-1)] 3)) 26 (.slice none 0 0)
    rw [hU]; simpa using this
  obtain ⟨W1, hW1⟩ : ∃ W1, W1 = U.alloc (.cells #[.pointer none] 25) := ⟨_, rfl⟩
  have hb1 : Below U.heap.size U W1 := by rw [hW1]; exact (Below.refl _ _).alloc (Nat.le_refl _) _
  have bQ : Boxed W1 (w.heap.size + 1 + 1) 25 (.pointer none) := by rw [hW1, ← hzU]; exact Boxed.new U _ _
  have hbw1 := hbU.trans (hb1.mono (by omega))
  have hL1 : Lay w W1 (w.heap.size + 1) w.heap.size (-1) [] (.slice none 0 0) := ⟨by rw [hW1]; exact bO.alloc _, OwnS.nil _ _ _ _, by rw [hW1]; exact bM.alloc _, hbw1⟩
  have hall := all_any none U
  rw [← hW1] at hall
  have c0 : W1.cell? ⟨w.heap.size, 0, none⟩ = some (.int .i64 (-1)) := hL1.most.cell
  have htell : Tells Fence.wide (3 - 1) Try.prog 31 #[.pointer (some ⟨w.heap.size + 1 + 1, 0, none⟩)] (fun x : Lk => #[lkV x]) (fun _ _ _ _ => False) (fun _ _ => True) (fun ys => ys = []) (fun _ => False) W1 := fun l J Jx W hW _ h0 =>
    (walkN_any _ l (w.heap.size + 1 + 1) W ((hW.cell (p := ⟨_, 0, none⟩) bQ.lt).trans bQ.cell)).mono fun e W' ⟨h1, h2⟩ => ⟨h1, .inl ⟨[], W, rfl, h0, by rw [h2]; exact Below.refl _ _⟩⟩
  clear bM bO hb1 hW1
  refine (callsIn_wide (n := 3)).1 ?_
  refine callsIn_of_wp_marks Try.func17 rfl trivial ?_ rfl
  simp only [Try.ntmps17, List.size_toArray, List.length_cons, List.length_nil, Nat.reduceAdd, Nat.reduceSub, Array.replicate_succ, Array.replicate_zero, List.push_toArray, List.append_toArray, List.nil_append, List.cons_append]
  gi_wp2_with fail
  rw [← hU]
  clear hU
  refine ⟨trivial, (callsIn_wide.2 hall).mono ?_⟩
  rintro e w1 ⟨rfl, hw1⟩
  obtain rfl := hw1.symm
  clear hall hw1
  gi_wp2_with fail
  generalize hact : ({ tmps := _, defers := [] } : Act) = act0
  refine range_tellsA (F := Fence.wide) rfl (by omega) (gf := 31) (lb := #[.pointer (some ⟨w.heap.size + 1 + 1, 0, none⟩)]) (by rw [← hact]; rfl) trivial (enters_of Try.func31 (by kernel_rfl) rfl)
    htell (Below.refl _ _) (fun _ _ => trivial) (fun _ _ _ _ _ _ _ => trivial) (fun _ _ _ _ _ _ _ _ _ _ h3 => h3) (fun _ => rfl)
    (fun pre W => ∃ v, Lay w W (w.heap.size + 1) w.heap.size (-1) pre v) (fun _ _ _ => False) (Lay.from hbw1.size) (fun _ _ _ _ _ h _ _ => h) ⟨_, hL1⟩
    (fun x => .cells #[.int .i64 x.n, .string x.v, .bool x.d] 38) (fun x b => { tmps := (act0.tmps.setIfInBounds 17 (lkV x)).setIfInBounds 7 (.pointer (some ⟨b, 0, none⟩)), defers := [] }) (fun _ _ => trivial) (fun _ _ _ _ _ h => h) ?assign ?body ?done ?stop
  case assign =>
    subst hact
    intro l x W K hK
    unfold lkV at *
    gi_wp2
    simp only [List.setIfInBounds_toArray, List.set_cons_zero, List.set_cons_succ] at hK
    exact hK
  case body =>
    rintro l b pre x X W _ _ _ _ _ _ hG
    exact hG.elim
  case done =>
    subst hact
    rintro D ys W hD hS ⟨v, hL⟩ hK
    subst hS
    have c5 := hL.box.cell
    have HBe := hide_it hL.bel
    obtain ⟨va, vc, ev, _⟩ := hL.own.open
    subst ev
    have HKK := hide_it hK
    clear hL hK hL1
    gi_wp2
    refine ⟨by simp, .inl ⟨_, _, rfl, run_takeDeferred (w := W) HKK.out, ?_⟩⟩
    have hsw := hbw1.size
    exact ⟨.slice va 0 vc, by simp [results, Try.results17, go_sem], ⟨_, _, rfl⟩, HBe.out.trans (belowK_b (w := w) (Nat.le_refl _) _ D _ _ (by omega) HKK.out rfl rfl)⟩
  case stop =>
    rintro D c pre W _ h
    exact h.elim

end Go.Proofs.Ytncmnhomloanaaa
