/- What Close of the program answers, of every list. -/
import Derived.Test.YthclmkmajlinhabClose
namespace Go.Proofs.Ythclmkmajlinhab
open Go.RowKit Go.Maps

/-- There are seventeen labels in the closure. -/
def Many (zs : List Nat) : Prop := ∃ X : List Nat, X.Nodup ∧ X.length = 17 ∧ ∀ x ∈ X, InCl zs x
/-- C is the closure, rising. -/
structure IsCl (zs C : List Nat) : Prop where
  mem : ∀ x, x ∈ C ↔ InCl zs x
  nodup : C.Nodup
  len : C.length ≤ 16
  rising : sortedR C 0 C.length

set_option maxHeartbeats 1000000 in
theorem close_any (N : Nat) (hN : SortsL N) (a : Option Addr) (cap : Nat) (zs : List Nat) (w : World) (hr : Row w a zs) (h64 : All64 zs) (hl : zs.length ≤ maxLen)
    (hsm : ∀ S : List Nat, S.Nodup → S.length ≤ 16 → (∀ x ∈ S, InCl zs x) → S.length ≤ N) :
    Calls Try.prog 9 #[.slice a zs.length cap] w fun e w' => Below w.heap.size w w' ∧
      ((e = .returned (.tuple #[.slice none 0 0, .int .i64 10]) ∧ (zs = [] ∨ Many zs)) ∨
       (∃ v C, e = .returned (.tuple #[v, .int .i64 0]) ∧ zs ≠ [] ∧ IsCl zs C ∧ w'.ownsRow w.heap.size 36 1 v C.length (C.map encU))) := by
  have hmm := @run_makeMap Try.prog
  have hl' := hl
  unfold maxLen at hl'
  go_enter Try.func9, Try.ntmps9
  go_wp2
  clear hmm
  go_loopw [10] (fun i wr => ∃ (k : Nat) (S : List Nat) (D : DataW Unit), k ≤ zs.length ∧ i = .int .i64 k ∧ (wr.ownsMap Try.prog 36 (unitElem (H := Unit)) w.heap.size S.length D ∧ SetIs D S ∧ S.length ≤ 16 ∧ ClosedL S ∧ (∀ j, j < k → at0 zs j ∈ S) ∧ (∀ x ∈ S, InCl zs x)) ∧ Below w.heap.size w wr) (fun i _ => zs.length - (intOf i).toNat)
  case atStart =>
    exact ⟨0, [], .map [], by omega, rfl, ⟨World.ownsMap_made _ _ _ _, SetIs.empty, by simp, fun x hx => (by cases hx), fun j hj => (by omega), fun x hx => (by cases hx)⟩, (Below.refl _ _).alloc (Nat.le_refl _) _⟩
  case round =>
    obtain ⟨k, S, D, hk, rfl, ⟨hown, hS, h16, hcl, hin, hto⟩, hbl⟩ := hrel
    by_cases hlt : k < zs.length
    · obtain ⟨b, o, rfl, _, hc⟩ := (hr.below hbl).here hlt
      have hck := hc k hlt
      clear hc
      obtain ⟨z, hz⟩ : ∃ z, z = at0 zs k := ⟨_, rfl⟩
      have hz64 : W64 z := hz ▸ h64.at k
      have hzin : z ∈ zs := hz ▸ at0_mem hlt
      have HZ : Hid (z = at0 zs k) := hz
      rw [← hz] at hck
      clear hz
      have hcg := grow_any w.heap.size z D S wr hz64 hown hS hcl h16
      have hup : ∀ x, InCl (z :: S) x → InCl zs x := fun x hx => hx.mono (fun y hy => by
        rcases List.mem_cons.1 hy with e | hy
        · subst e; exact .base hzin
        · exact hto y hy)
      have HH : Hid ((∀ x, InCl (z :: S) x → InCl zs x) ∧ (∀ j, j < k → at0 zs j ∈ S)) := ⟨hup, hin⟩
      clear hup hin hown hS hcl hto
      go_wp2_with fail
      refine hcg.mono ?_
      rintro e w1 ⟨hg1, h⟩
      have hbl1 : Below w.heap.size w w1 := hbl.grown hg1 hbl.size (fun j e => by cases e; exact Nat.le_refl _)
      rcases h with ⟨rfl, D', S', q1, q2, q3, q4, q5, q6⟩ | ⟨rfl, X, x1, x2, x3⟩
      · have HQ : Hid (w1.ownsMap Try.prog 36 (unitElem (H := Unit)) w.heap.size S'.length D' ∧ SetIs D' S' ∧ S'.length ≤ 16 ∧ ClosedL S' ∧ (∀ x ∈ z :: S, x ∈ S') ∧ ∀ x ∈ S', InCl (z :: S) x) := ⟨q1, q2, q3, q4, q5, q6⟩
        clear q1 q2 q3 q4 q5 q6 hcg
        go_wp2
        go_roundw
        case rel =>
          obtain ⟨q1, q2, q3, q4, q5, q6⟩ := HQ.out
          refine ⟨k + 1, S', D', by omega, by go_num, ⟨q1, q2, q3, q4, fun j hj => ?_, fun x hx => HH.out.1 x (q6 x hx)⟩, hbl1⟩
          by_cases e : j = k
          · subst e; rw [← HZ.out]; exact q5 z List.mem_cons_self
          · exact q5 _ (List.mem_cons_of_mem _ (HH.out.2 j (by omega)))
        case measure => simp [intOf]; omega
      · clear hcg
        go_wp2
        go_ret2
        exact ⟨hbl1, .inl ⟨rfl, .inr ⟨X, x1, x2, fun x hx => HH.out.1 x (x3 x hx)⟩⟩⟩
    · have he : k = zs.length := by omega
      subst he
      have hsz := hS.size
      by_cases h0 : S.length = 0
      · have hd : ((S.length : Int) == 0) = true := by simp [h0]
        go_wp2_with (first | (at_len; refine wpList_len_own _ rfl _ 54 rfl 36 60 Try.underlying54 _ w.heap.size S.length D rfl hown ?_))
        go_ret2
        refine ⟨hbl, .inl ⟨rfl, .inl ?_⟩⟩
        cases zs with
        | nil => rfl
        | cons z t =>
          have := hin 0 (by simp)
          rw [List.eq_nil_of_length_eq_zero h0] at this
          cases this
      · have hd : ((S.length : Int) == 0) = false := by simp; intro e; exact h0 (by simp [e])
        have hne : zs ≠ [] := fun e => by
          subst e
          cases S with
          | nil => exact h0 rfl
          | cons s t => exact (hto s List.mem_cons_self (fun _ => False) (fun b hb => (by cases hb)) (fun _ _ h _ => h.elim)).elim
        have hlN := hsm S hS.nodup h16 hto
        have HQ : Hid (SetIs D S ∧ ClosedL S ∧ (∀ j, j < zs.length → at0 zs j ∈ S) ∧ ∀ x ∈ S, InCl zs x) := ⟨hS, hcl, hin, hto⟩
        clear hcl hin hto h0
        go_wp2_with (first | (at_len; refine wpList_len_own _ rfl _ 54 rfl 36 60 Try.underlying54 _ w.heap.size S.length D rfl hown ?_))
        refine (callsIn_wide.1 (keys_in Fence.wide 1 trivial rfl (some w.heap.size) wr)).mono ?_
        rintro e w1 ⟨rfl, rfl⟩
        have hcs := sorted_any N hN wr.heap.size w.heap.size D S (wr.alloc (.cells #[.map (some w.heap.size)] 54)) (by simp) (Boxed.new wr _ _).cell (hown.alloc _) hS (by omega) hlN
        clear hown hS
        go_wp2_with fail
        refine hcs.mono ?_
        rintro e w2 ⟨v, ss, rfl, hp, hso, hrow, hb2⟩
        go_wp2
        go_ret2
        obtain ⟨q1, q2, q3, q4⟩ := HQ.out
        have hba : Below w.heap.size w (wr.alloc (.cells #[.map (some w.heap.size)] 54)) := hbl.alloc hbl.size _
        refine ⟨hba.trans (hb2.mono hba.size), .inr ⟨v, ss, rfl, hne, ⟨fun x => ?_, hp.nodup_iff.2 q1.nodup, by rw [hp.length_eq]; exact h16, hso⟩, ?_⟩⟩
        · rw [hp.mem_iff]
          exact ⟨q4 x, fun hx => hx.mem (fun b hb => by obtain ⟨i, hi, rfl⟩ := mem_at0 hb; exact q3 i hi) q2⟩
        · refine ⟨hrow.1, ?_⟩
          rcases hrow.2 with h | ⟨g, cp, cur, e, hbs, r⟩
          · exact .inl h
          · exact .inr ⟨g, cp, cur, e, Nat.le_trans hba.size hbs, r⟩

end Go.Proofs.Ythclmkmajlinhab
