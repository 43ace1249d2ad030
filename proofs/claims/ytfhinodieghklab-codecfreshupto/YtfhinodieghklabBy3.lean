/- An append onto bytes of the call's own, as one step of a walk; the document's Put: the lowest W bytes of a number, the highest first. -/
import Derived.Test.YtfhinodieghklabBy2
namespace Go.Proofs.Ytfhinodieghklab
open Go.RowKit

theorem wpList_append_row (w : World) {ops : Array Oper} {rest : List Oper} {o : Oper} {act : Act} {Q : Exit → Act → World → Prop} (hgd : o.guard = none) (s x : Operand)
    (ho : o.op = .call { callee := .builtin .append, args := #[s, x], argTypes := #[23, 23] })
    (base : Nat) (v : Value) (xs : List Nat) (hs : act.eval s = v) (hown : OwnB w base v xs) (a : Option Addr) (cap : Nat) (zs : List Nat) (hx : act.eval x = .slice a zs.length cap) (hr : RowB w a zs) (hnil : a = none → zs.length = 0 ∧ cap = 0)
    (hl : xs.length + zs.length ≤ 140737488355328) (hbase : base ≤ w.heap.size)
    (h : ∀ v' w', OwnB w' base v' (xs ++ zs) → w.grownBy w' v.ownBlock → (v'.ownBlock = v.ownBlock ∨ v'.ownBlock = some w.heap.size) → wpList Try.prog ops Q rest (act.put o.dst v') w') :
    wpList Try.prog ops Q (o :: rest) act w := by
  obtain ⟨i0, hi, hz0, hz1, hz2⟩ := info_parts infoB
  cases a with
  | none =>
    obtain ⟨h1, h2⟩ := hnil rfl
    have hzs : zs = [] := List.eq_nil_of_length_eq_zero h1
    subst hzs
    subst h2
    refine wpList_append_own_none hgd s x 23 ho base 5 i0 1 Try.underlying23 hi v xs.length (xs.map encB) hs hown hx ?_
    exact h v w (by rw [List.append_nil]; exact hown) ⟨rfl, rfl, rfl, Nat.le_refl _, fun _ _ _ => rfl⟩ (.inl rfl)
  | some ad =>
    have hnews : ∀ j u, (zs.map encB)[j]? = some u → w.cell? (ad.add j) = some u := fun j u hu => by
      have hj : j < zs.length := by have := (List.getElem?_eq_some_iff.1 hu).1; simpa using this
      obtain ⟨b, o, e, hlt, hc⟩ := hr.here hj
      cases e
      rw [Addr.add_lit, hc j hj]
      exact (mapB_at hj).symm.trans hu
    have hone : ∀ u ∈ zs.map encB, u.oneCell' = true := fun u hu => by
      obtain ⟨z, _, rfl⟩ := List.mem_map.1 hu
      rfl
    refine wpList_append_own_at _ hgd s x 23 ho base 5 i0 (.int .u8 0) 1 1 Try.underlying23 hi hz0 hz1 hz2 rfl (by omega) v xs.length (xs.map encB) hs hown ad zs.length cap (zs.map encB) hx (by simp) hnews hone (by unfold maxLen; omega) (by omega) hbase ?_
    intro v4 w4 hown4 hgrow4 hnil4 hat4
    exact h v4 w4 (by unfold OwnB; simpa using hown4) hgrow4 hat4

theorem wpList_append_byte (w : World) {ops : Array Oper} {rest : List Oper} {o : Oper} {act : Act} {Q : Exit → Act → World → Prop} (hgd : o.guard = none) (s x : Operand)
    (ho : o.op = .call { callee := .builtin .append, args := #[s, x], argTypes := #[23, 23] })
    (base : Nat) (v : Value) (xs : List Nat) (hs : act.eval s = v) (hown : OwnB w base v xs) (z : Nat)
    (hx : act.eval x = .slice (some ⟨w.heap.size, 0, none⟩) 1 1)
    (hl : xs.length + 1 ≤ 140737488355328) (hbase : base ≤ w.heap.size)
    (h : ∀ v' w', OwnB w' base v' (xs ++ [z]) → (w.alloc (.cells #[.int .u8 (z : Int)] 5)).grownBy w' v.ownBlock → (v'.ownBlock = v.ownBlock ∨ v'.ownBlock = some (w.heap.size + 1)) → wpList Try.prog ops Q rest (act.put o.dst v') w') :
    wpList Try.prog ops Q (o :: rest) act (w.alloc (.cells #[.int .u8 (z : Int)] 5)) := by
  obtain ⟨i0, hi, hz0, hz1, hz2⟩ := info_parts infoB
  have hone : ∀ u ∈ [Value.int .u8 (z : Int)], u.oneCell' = true := by simp [Value.oneCell']
  refine wpList_append_own_at _ hgd s x 23 ho base 5 i0 (.int .u8 0) 1 1 Try.underlying23 hi hz0 hz1 hz2 rfl (by omega) v xs.length (xs.map encB) hs (hown.alloc _) ⟨w.heap.size, 0, none⟩ 1 1 [.int .u8 (z : Int)] hx rfl (cell_one_new _ _ _) hone (by unfold maxLen; omega) (by omega) (by simp; omega) ?_
  intro v4 w4 hown4 hgrow4 hnil4 hat4
  exact h v4 w4 (OwnB.snoc hown4) hgrow4 (by simpa using hat4)

theorem own_empty (w : World) : OwnB (w.alloc (.cells #[] 5)) w.heap.size (.slice (some ⟨w.heap.size, 0, none⟩) 0 0) [] :=
  ⟨rfl, .inr ⟨_, _, _, rfl, Nat.le_refl _, heap_alloc_new w _, Nat.le_refl _, by unfold maxLen; omega, rfl, rfl⟩⟩

set_option maxRecDepth 100000 in
set_option maxHeartbeats 400000 in
theorem rput_any (a : Option Addr) (cap v W : Nat) (zs : List Nat) (w : World) (hv : W64 v) (hW : W ≤ 8) (hr : RowB w a zs) (hl : zs.length + 8 ≤ 140737488355328) (hnil : a = none → zs.length = 0 ∧ cap = 0) :
    Calls Try.prog 59 #[.slice a zs.length cap, .int .u64 (v : Int), .int .i64 (W : Int)] w fun e w' => (∃ r, e = .returned r ∧ OwnB w' w.heap.size r (zs ++ beP W v W)) ∧ Below w.heap.size w w' := by
  have hb0 : Below w.heap.size w (w.alloc (.cells #[] 5)) := (Below.refl _ _).alloc (Nat.le_refl _) _
  have hr0 := hr.below hb0
  clear hr
  go_enter Try.func59, Try.ntmps59
  go_wp2_with (at_builtin; refine wpList_append_row _ rfl _ _ rfl w.heap.size _ [] rfl (own_empty w) a cap zs rfl hr0 hnil (by simp; omega) hb0.size ?_; intro v1 w1 hown1 hg1 hat1)
  have hb1 : Below w.heap.size w w1 := hb0.grown hg1 hb0.size (fun j e => by cases e; exact Nat.le_refl _)
  clear hr0 hg1 hnil
  go_loopw [7, 8] (fun r i wr => ∃ m : Nat, m ≤ W ∧ i = .int .i64 (m : Int) ∧ OwnB wr w.heap.size r (zs ++ beP W v (W - m)) ∧ Below w.heap.size w wr) (fun _ i _ => (intOf i).toNat)
  case atStart => exact ⟨W, by omega, rfl, by simpa [beP] using hown1, hb1⟩
  case round =>
    obtain ⟨m, hm, rfl, hown, hbl⟩ := hrel
    clear hown1 hb1 hat1
    cases m with
    | zero =>
      go_wp2
      go_ret
      exact ⟨⟨_, rfl, hown⟩, hbl⟩
    | succ n =>
      have hbs := hbl.size
      have hlen : (zs ++ beP W v (W - (n + 1))).length ≤ zs.length + 7 := by simp [beP_len]; omega
      have HS := hide_it (beP_step (v := v) (W := W) (n := n) (by omega))
      have how := hown
      clear hown
      go_wp2_with fail
      go_loop [9, 10] (fun x j => ∃ q : Nat, q ≤ n ∧ j = .int .i64 ((q : Int) + 1) ∧ x = .int .u64 ((v / 256 ^ q : Nat) : Int)) (fun _ j => n + 1 - (intOf j).toNat)
      case atStart => exact ⟨0, by omega, rfl, by simp⟩
      case round =>
        obtain ⟨q, hq, rfl, rfl⟩ := hrel
        have hy : W64 (v / 256 ^ q) := Nat.lt_of_le_of_lt (Nat.div_le_self _ _) hv
        have hyq : v / 256 ^ (q + 1) = v / 256 ^ q / 256 := by rw [Nat.pow_succ, Nat.div_div_eq_div_mul]
        have HYQ := hide_it hyq
        clear hyq
        have hqn : (q : Int) + 1 ≤ 9 := by omega
        by_cases hlt : q < n
        · generalize v / 256 ^ q = y at *
          have hd : decide ((q : Int) + 1 < (n : Int) + 1) = true := by simp; omega
          unfold W64 at hy
          go_wp2_with fail
          go_round
          case rel => exact ⟨q + 1, by omega, by go_num, by rw [HYQ.out]; simp⟩
          case measure => simp [intOf]; omega
        · have hqe : q = n := by omega
          subst hqe
          generalize v / 256 ^ q = y at *
          have hd : decide ((q : Int) + 1 < (q : Int) + 1) = false := by simp
          have hwr : IntKind.u8.wrap ((y : Int) % 256) = ((y % 256 : Nat) : Int) := by
            have := wrap_byte (y % 256); simpa using this
          unfold W64 at hy
          go_wp2_with (at_builtin; refine wpList_append_byte _ rfl _ _ rfl w.heap.size _ _ rfl how (y % 256) rfl (by omega) hbs ?_; intro v4 w4 hown4 hg4 hat4)
          go_roundw
          case rel =>
            refine ⟨q, by omega, by go_num, ?_, (hbl.alloc hbs _).grown hg4 (by simp; omega) (fun j e => how.ge e)⟩
            rw [HS.out, ← List.append_assoc]
            exact hown4
          case measure => simp [intOf]
end Go.Proofs.Ytfhinodieghklab
