/- What a scan tells of what has no map; the calls of a store that is not there. -/
import Derived.Test.YthaknohnccmfoaaSo20
namespace Go.Proofs.Ythaknohnccmfoaa
open Go.RowKit Go.Maps Go.Shelf

attribute [local go_sem] Oper.semAt_some

set_option maxRecDepth 100000 in
set_option maxHeartbeats 2000000 in
theorem walk0_any (m l B : Nat) (p : Option Addr) (fr to : ByteArray) (n : Int) (W : World) (hs : Sc4 W B p fr to n) (hf : Calls Try.prog 54 #[.pointer p, .string fr, .string to, .int .i64 n] W fun e w' => e = .returned (.slice none 0 0) ∧ Below W.heap.size W w') :
    CallsIn Fence.wide m Try.prog 53 #[.func (.yield l) #[] #[], .pointer (some ⟨B, 0, none⟩), .pointer (some ⟨B + 1, 0, none⟩), .pointer (some ⟨B + 2, 0, none⟩), .pointer (some ⟨B + 3, 0, none⟩)] W fun e W' => (∃ v, e = .returned v) ∧ Below W.heap.size W W' := by
  have c0 := hs.b0.cell
  have c1 := hs.b1.cell
  have c2 := hs.b2.cell
  have c3 := hs.b3.cell
  clear hs
  refine callsIn_of_wp Try.func53 rfl trivial ?_ rfl
  simp only [Try.ntmps53, List.size_toArray, List.length_cons, List.length_nil, Nat.reduceAdd, Nat.reduceSub, Array.replicate_succ, Array.replicate_zero, List.push_toArray, List.append_toArray, List.nil_append, List.cons_append]
  gi_wp2_with fail
  refine ⟨trivial, (fun h => by cases h), (callsIn_wide.2 hf).mono ?_⟩
  rintro e w1 ⟨rfl, hb⟩
  have HB := hide_it hb
  clear hf hb c0 c1 c2 c3
  gi_wp2
  gi_loopw [14] (fun i wr => i = .int .i64 0 ∧ wr = w1) (fun _ _ => 0)
  case atStart => exact ⟨rfl, rfl⟩
  case round =>
    obtain ⟨rfl, rfl⟩ := hrel
    gi_wp2
    go_end0
    exact ⟨⟨_, rfl⟩, HB.out⟩

set_option maxRecDepth 100000 in
set_option maxHeartbeats 4000000 in
theorem scanned_nil (p : Option Addr) (fr to : ByteArray) (n : Int) (w : World) (ha : ∀ z, Below w.heap.size w z → Calls Try.prog 41 #[.pointer p] z fun e w' => e = .returned (.map none) ∧ w' = z) :
    Calls Try.prog 24 #[.pointer p, .string fr, .string to, .int .i64 n] w fun e w' => e = .returned (.slice none 0 0) ∧ Below w.heap.size w w' := by
  have hfn : ∀ (fn : Fn) (a b : Array Value) (w : World), (binOp .eql 70 (.func fn a b) .nilFunc).run Try.prog w = .ok (.bool false) w := fun _ _ _ _ => rfl
  obtain ⟨U, hU⟩ : ∃ U, U = w.alloc (.cells #[.slice none 0 0] 33) := ⟨_, rfl⟩
  have hbU : Below w.heap.size w U := by rw [hU]; exact (Below.refl _ _).alloc (Nat.le_refl _) _
  have bO : Boxed U w.heap.size 33 (.slice none 0 0) := by rw [hU]; exact Boxed.new w _ _
  have hsc := scan_any p fr to n U
  have HB := hide_it hbU
  have HO := hide_it bO
  have HA := hide_it ha
  clear hbU bO ha
  refine (callsIn_wide (n := 5)).1 ?_
  refine callsIn_of_wp_marks Try.func24 rfl trivial ?_ rfl
  simp only [Try.ntmps24, List.size_toArray, List.length_cons, List.length_nil, Nat.reduceAdd, Nat.reduceSub, Array.replicate_succ, Array.replicate_zero, List.push_toArray, List.append_toArray, List.nil_append, List.cons_append]
  gi_wp2_with fail
  rw [← hU]
  clear hU
  refine ⟨trivial, (callsIn_wide.2 hsc).mono ?_⟩
  rintro e W1 ⟨rfl, h4, hb1⟩
  have hbw1 := HB.out.trans (hb1.mono HB.out.size)
  have hO1 : Boxed W1 w.heap.size 33 (.slice none 0 0) := (hb1.block _ HO.out.lt).trans HO.out
  have HB1 := hide_it hbw1
  have HO1 := hide_it hO1
  have H4 := hide_it h4
  clear hsc h4 hb1 hbw1 hO1
  gi_wp2_with fail
  generalize hact : ({ tmps := _, defers := [] } : Act) = act0
  refine range_tellsH (α := Pn) (F := Fence.wide) rfl (by omega) (gf := 53) (lb := #[.pointer (some ⟨U.heap.size, 0, none⟩), .pointer (some ⟨U.heap.size + 1, 0, none⟩), .pointer (some ⟨U.heap.size + 2, 0, none⟩), .pointer (some ⟨U.heap.size + 3, 0, none⟩)]) (by rw [← hact]; rfl) trivial (enters_of Try.func53 (by kernel_rfl) rfl)
    (encs := fun x : Pn => #[.agg #[.string x.k, .slice x.a x.z.length x.c]]) (G := fun _ _ _ _ => False) (Kp := fun _ _ => True) (S := fun xs => xs = []) (Sp := fun _ => False) (w0 := W1) ?seq (Below.refl _ _) (fun _ _ => trivial) (fun _ _ _ _ _ _ _ => trivial) (fun _ _ _ _ _ _ _ _ _ _ h3 => h3) (fun _ => rfl)
    (fun _ W => Boxed W w.heap.size 33 (.slice none 0 0) ∧ Below w.heap.size w W) (fun _ _ _ => False) ?hI ?hIx ⟨HO1.out, HB1.out⟩
    (fun x => .cells #[.string x.k, .slice x.a x.z.length x.c] 60) (fun x b => { tmps := (act0.tmps.setIfInBounds 23 (.agg #[.string x.k, .slice x.a x.z.length x.c])).setIfInBounds 11 (.pointer (some ⟨b, 0, none⟩)), defers := [] }) (fun _ _ => trivial) (fun _ _ _ _ _ h => h) ?assign ?body ?done ?stop
  case seq =>
    intro l J Jx W hW _ h0
    have hbW := HB1.out.trans (hW.mono HB1.out.size)
    refine (walk0_any _ l U.heap.size p fr to n W (H4.out.below hW) (found_nil p fr to n W (HA.out W hbW))).mono ?_
    rintro e W' ⟨h1, h2⟩
    exact ⟨h1, .inl ⟨[], W, rfl, h0, h2⟩⟩
  case hI =>
    have hz := HB1.out.size
    refine OwnFrom.and ((boxed_own w.heap.size 33 (fun _ => .slice none 0 0)).from _) fun _ X Y row h hg hr => h.grown hg h.size fun k e => by have := (hr k e).1; omega
  case hIx => exact fun c _ _ _ _ h => h.elim
  case assign =>
    subst hact
    intro l x W K hK
    gi_wp2
    simp only [List.setIfInBounds_toArray, List.set_cons_zero, List.set_cons_succ] at hK
    exact hK
  case body =>
    rintro l b pre x X W _ _ _ _ _ _ _ h
    exact h.elim
  case done =>
    subst hact
    rintro D xs W hD _ ⟨hO, hb⟩ hK
    have c5 := hO.cell
    have HBe := hide_it hb
    have HKK := hide_it hK
    have hz := HB1.out.size
    clear hO hb hK
    gi_wp2
    refine ⟨by simp, .inl ⟨_, _, rfl, run_takeDeferred (w := W) HKK.out, ?_⟩⟩
    exact ⟨.slice none 0 0, by simp [results, Try.results24, go_sem], rfl, HBe.out.trans (belowK_b (w := w) (Nat.le_refl _) _ D _ _ (by omega) HKK.out rfl rfl)⟩
  case stop =>
    rintro D c pre W _ h
    exact h.elim

end Go.Proofs.Ythaknohnccmfoaa
