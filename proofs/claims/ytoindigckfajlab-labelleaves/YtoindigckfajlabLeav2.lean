/- Accounts and sessions of the call's own, with some behind them; where a label stands, whatever comes of it. -/
import Derived.Test.YtoindigckfajlabLeav1
namespace Go.Proofs.Ytoindigckfajlab
open Go.RowKit

theorem infoA2 : (Try.prog.info? 50).map (fun i => (i.zero, i.size, i.bytes)) = some (some (.agg #[.int .i64 0, .int .i64 0, .int .i64 0, .int .i64 0, .int .i64 0]), 5, 40) := by kernel_rfl

theorem cells_new (w : World) (T : TypeId) (news : List Value) : ∀ j u, news[j]? = some u → (w.alloc (.cells news.toArray T)).cell? ((⟨w.heap.size, 0, none⟩ : Addr).add j) = some u := fun j u h => by
  rw [Addr.add_lit, Nat.zero_add, cell_of_row _ _ _ _ _ _ (heap_alloc_new w _), List.getElem?_toArray]; exact h

theorem wpList_append_rowA (w : World) {ops : Array Oper} {rest : List Oper} {o : Oper} {act : Act} {Q : Exit → Act → World → Prop} (hgd : o.guard = none) (s x : Operand)
    (ho : o.op = .call { callee := .builtin .append, args := #[s, x], argTypes := #[41, 41] })
    (base : Nat) (hs : act.eval s = .slice none 0 0) (a : Option Addr) (n cap : Nat) (A : Nat → Nat → Int) (hx : act.eval x = .slice a n cap) (hr : RowA w a n A) (hnil : a = none → n = 0 ∧ cap = 0)
    (hl : n * 40 ≤ 140737488355328) (hbase : base ≤ w.heap.size)
    (h : ∀ v' w', w'.ownsRow base 50 5 v' n (accsL A n) → w.grownBy w' none → wpList Try.prog ops Q rest (act.put o.dst v') w') :
    wpList Try.prog ops Q (o :: rest) act w := by
  obtain ⟨i0, hi, hz0, hz1, hz2⟩ := info_parts infoA2
  cases a with
  | none =>
    obtain ⟨h1, h2⟩ := hnil rfl
    subst h1
    subst h2
    refine wpList_append_own_none hgd s x 41 ho base 50 i0 5 Try.underlying41 hi (.slice none 0 0) 0 [] hs (World.ownsRow_nil _ _ _ _) hx ?_
    exact h _ w (World.ownsRow_nil _ _ _ _) ⟨rfl, rfl, rfl, Nat.le_refl _, fun _ _ _ => rfl⟩
  | some ad =>
    have hnews : ∀ j u, (accsL A n)[j]? = some u → w.cell? (ad.add j) = some u := fun j u hu => by
      have hj : j < n * 5 := by have := (List.getElem?_eq_some_iff.1 hu).1; rw [accsL_len] at this; exact this
      obtain ⟨b, o, e, hlt, hc⟩ := hr.here (i := j / 5) (by omega)
      cases e
      have h5 := hc (j / 5) (by omega) (j % 5) (by omega)
      rw [Addr.add_lit, show o + j = o + j / 5 * 5 + j % 5 by omega, h5, ← hu]
      rw [← accsL_at A n (j / 5) (j % 5) (by omega) (by omega), show j / 5 * 5 + j % 5 = j by omega]
    have hone : ∀ u ∈ accsL A n, u.oneCell' = true := fun u hu => by
      obtain ⟨i, _, hi⟩ := List.mem_flatMap.1 hu
      simp [accL] at hi
      rcases hi with rfl | rfl | rfl | rfl | rfl <;> rfl
    refine wpList_append_own_at _ hgd s x 41 ho base 50 i0 (.agg #[.int .i64 0, .int .i64 0, .int .i64 0, .int .i64 0, .int .i64 0]) 5 40 Try.underlying41 hi hz0 hz1 hz2 rfl (by omega) (.slice none 0 0) 0 [] hs (World.ownsRow_nil _ _ _ _) ad n cap (accsL A n) hx (accsL_len A n) hnews hone (by unfold maxLen; omega) (by omega) hbase ?_
    intro v4 w4 hown4 hgrow4 hnil4 hat4
    rw [Nat.zero_add, List.nil_append] at hown4
    exact h v4 w4 hown4 hgrow4

theorem wpList_append_rowZ (w : World) {ops : Array Oper} {rest : List Oper} {o : Oper} {act : Act} {Q : Exit → Act → World → Prop} (hgd : o.guard = none) (s x : Operand)
    (ho : o.op = .call { callee := .builtin .append, args := #[s, x], argTypes := #[42, 42] })
    (base : Nat) (hs : act.eval s = .slice none 0 0) (a : Option Addr) (n cap : Nat) (S : Nat → Int) (hx : act.eval x = .slice a n cap) (hr : RowZ w a n S) (hnil : a = none → n = 0 ∧ cap = 0)
    (hl : n * 8 ≤ 140737488355328) (hbase : base ≤ w.heap.size)
    (h : ∀ v' w', w'.ownsRow base 3 1 v' n (sesL S n) → w.grownBy w' none → wpList Try.prog ops Q rest (act.put o.dst v') w') :
    wpList Try.prog ops Q (o :: rest) act w := by
  obtain ⟨i0, hi, hz0, hz1, hz2⟩ := info_parts infoIntM
  cases a with
  | none =>
    obtain ⟨h1, h2⟩ := hnil rfl
    subst h1
    subst h2
    refine wpList_append_own_none hgd s x 42 ho base 3 i0 1 Try.underlying42 hi (.slice none 0 0) 0 [] hs (World.ownsRow_nil _ _ _ _) hx ?_
    exact h _ w (World.ownsRow_nil _ _ _ _) ⟨rfl, rfl, rfl, Nat.le_refl _, fun _ _ _ => rfl⟩
  | some ad =>
    have hnews : ∀ j u, (sesL S n)[j]? = some u → w.cell? (ad.add j) = some u := fun j u hu => by
      have hj : j < n := by have := (List.getElem?_eq_some_iff.1 hu).1; rw [sesL_len] at this; exact this
      obtain ⟨b, o, e, hb, hc⟩ := hr.here hj
      cases e
      rw [Addr.add_lit, hc j hj, ← sesL_at hj]; exact hu
    have hone : ∀ u ∈ sesL S n, u.oneCell' = true := fun u hu => by
      obtain ⟨z, _, rfl⟩ := List.mem_map.1 hu
      rfl
    refine wpList_append_own_at _ hgd s x 42 ho base 3 i0 (.int .i64 0) 1 8 Try.underlying42 hi hz0 hz1 hz2 rfl (by omega) (.slice none 0 0) 0 [] hs (World.ownsRow_nil _ _ _ _) ad n cap (sesL S n) hx (by rw [sesL_len]; omega) hnews hone (by unfold maxLen; omega) (by omega) hbase ?_
    intro v4 w4 hown4 hgrow4 hnil4 hat4
    rw [Nat.zero_add, List.nil_append] at hown4
    exact h v4 w4 hown4 hgrow4

/-- The accounts with two behind them; the sessions with three. -/
def accs2 (A : Nat → Nat → Int) (n i j : Nat) : Int := if i < n then A i j else if j = 0 then 11 + (i : Int) - (n : Int) else 0
def sess3 (S : Nat → Int) (k i : Nat) : Int := if i < k then S i else 91 + (i : Int) - (k : Int)
def two2 : List Value := [.int .i64 11, .int .i64 0, .int .i64 0, .int .i64 0, .int .i64 0, .int .i64 12, .int .i64 0, .int .i64 0, .int .i64 0, .int .i64 0]
def three3 : List Value := [.int .i64 91, .int .i64 92, .int .i64 93]
theorem accsL_congr {A B : Nat → Nat → Int} {n : Nat} (h : ∀ i, i < n → ∀ j, j < 5 → A i j = B i j) : accsL A n = accsL B n := by
  unfold accsL
  rw [List.flatMap_def, List.flatMap_def]
  congr 1
  apply List.map_congr_left
  intro i hi
  have hi := List.mem_range.1 hi
  unfold accL
  rw [h i hi 0 (by omega), h i hi 1 (by omega), h i hi 2 (by omega), h i hi 3 (by omega), h i hi 4 (by omega)]
theorem accs2_all (A : Nat → Nat → Int) (n : Nat) : accsL A n ++ two2 = accsL (accs2 A n) (n + 2) := by
  rw [show n + 2 = n + 1 + 1 from rfl, accsL_succ, accsL_succ, accsL_congr (A := accs2 A n) (B := A) (fun i hi j _ => by unfold accs2; rw [if_pos hi])]
  rw [List.append_assoc]
  congr 1
  simp [accL, accs2, two2]
  omega
theorem sess3_all (S : Nat → Int) (k : Nat) : sesL S k ++ three3 = sesL (sess3 S k) (k + 3) := by
  unfold sesL
  rw [show k + 3 = k + 1 + 1 + 1 from rfl, List.range_succ, List.range_succ, List.range_succ]
  simp only [List.map_append, List.map_cons, List.map_nil]
  rw [List.append_assoc, List.append_assoc]
  congr 1
  · apply List.map_congr_left
    intro i hi
    have hi := List.mem_range.1 hi
    unfold sess3; rw [if_pos hi]
  · simp [sess3, three3]
    omega
theorem rowA_of_ownsT {T : TypeId} {w : World} {base n : Nat} {v : Value} {A : Nat → Nat → Int} (h : w.ownsRow base T 5 v n (accsL A n)) : ∃ a cap, v = .slice a n cap ∧ n ≤ cap ∧ RowA w a n A := by
  rcases h.2 with ⟨rfl, h0⟩ | ⟨g, cap, cur, rfl, _, hh, hn, _, _, ht⟩
  · exact ⟨none, 0, by rw [h0], by omega, .inl h0⟩
  · refine ⟨_, cap, rfl, hn, .inr ⟨g, 0, rfl, (Array.getElem?_eq_some_iff.1 hh).1, fun i hi j hj => ?_⟩⟩
    rw [Nat.zero_add, cell_of_row _ _ _ _ _ _ hh]
    have h3 : (cur.toList.take (n * 5))[i * 5 + j]? = (accsL A n)[i * 5 + j]? := by rw [ht]
    rw [List.getElem?_take_of_lt (by omega)] at h3
    rw [← Array.getElem?_toList, h3]
    exact accsL_at A n i j hi hj
theorem rowZ_of_ownsT {w : World} {base k : Nat} {v : Value} {S : Nat → Int} (h : w.ownsRow base 3 1 v k (sesL S k)) : ∃ a cap, v = .slice a k cap ∧ k ≤ cap ∧ RowZ w a k S := by
  rcases h.2 with ⟨rfl, h0⟩ | ⟨g, cap, cur, rfl, _, hh, hn, _, _, ht⟩
  · exact ⟨none, 0, by rw [h0], by omega, .inl h0⟩
  · refine ⟨_, cap, rfl, hn, .inr ⟨g, 0, rfl, (Array.getElem?_eq_some_iff.1 hh).1, fun i hi => ?_⟩⟩
    rw [Nat.zero_add, cell_of_row _ _ _ _ _ _ hh]
    have h3 : (cur.toList.take (k * 1))[i]? = (sesL S k)[i]? := by rw [ht]
    rw [List.getElem?_take_of_lt (by omega)] at h3
    rw [← Array.getElem?_toList, h3]
    exact sesL_at hi

set_option maxHeartbeats 400000 in
theorem place_some (a : Option Addr) (cap : Nat) (zs : List Nat) (x : Nat) (w : World) (hr : Row w a zs) (hl : zs.length ≤ maxLen) :
    Calls Try.prog 17 #[.slice a zs.length cap, .int .u64 (x : Int)] w fun e w' => (∃ v, e = .returned v) ∧ w' = w := by
  have hi := index_any a cap zs x w hr hl
  by_cases h0 : idx zs x < 0
  · generalize idx zs x = n at *
    have hd : decide (n < 0) = true := by simpa using h0
    clear hr
    go_enter Try.func17, Try.ntmps17
    go_wp2_with (go_at_call 38; refine hi.mono ?_; rintro e w' ⟨rfl, rfl⟩)
    go_ret2
    exact ⟨⟨_, rfl⟩, rfl⟩
  · generalize idx zs x = n at *
    have hd : decide (n < 0) = false := by simpa using h0
    clear hr
    go_enter Try.func17, Try.ntmps17
    go_wp2_with (go_at_call 38; refine hi.mono ?_; rintro e w' ⟨rfl, rfl⟩)
    go_ret2
    exact ⟨⟨_, rfl⟩, rfl⟩
theorem may_congr {zs : List Nat} {n k : Nat} {A B : Nat → Nat → Int} {S T : Nat → Int} (hA : ∀ i, i < n → A i = B i) (hS : ∀ i, i < k → S i = T i) : MayP zs n A k S ↔ MayP zs n B k T :=
  ⟨fun h => ⟨h.chk, h.cnt, h.few, fun i hi => by rw [← hA i hi]; exact h.acc i hi, fun i hi => by rw [← hS i hi]; exact h.ses i hi⟩, fun h => ⟨h.chk, h.cnt, h.few, fun i hi => by rw [hA i hi]; exact h.acc i hi, fun i hi => by rw [hS i hi]; exact h.ses i hi⟩⟩
end Go.Proofs.Ytoindigckfajlab
