/- One call of both queues, whichever it is. -/
import Derived.Test.YtomfhbngpikjeaaQuDo4
namespace Go.Proofs.Ytomfhbngpikjeaa
open Go.RowKit

theorem does_any (b g most base : Nat) (v : Value) (xs : List ByteArray) (k : Int) (s : ByteArray) (w : World) (h : Both w b g most base v xs) (hbase : base ≤ w.heap.size) :
    Calls Try.prog 15 #[.pointer (some ⟨b, 0, none⟩), .agg #[.int .i64 (most : Int), v], .agg #[.int .i64 k, .string s]] w fun e w' => Did w w' b g most base v (nxt most xs k s) e := by
  unfold nxt
  by_cases h0 : k = 0
  · subst h0
    rw [if_pos rfl]
    by_cases hl : xs.length < most
    · rw [if_pos hl]
      exact does_push b g most base v xs s w h hbase hl
    · rw [if_neg hl]
      exact does_full b g base v xs s w most (by have := h.qu.len; omega) h
  rw [if_neg h0]
  by_cases h1 : k = 1
  · subst h1
    rw [if_pos rfl]
    cases xs with
    | nil => exact does_pop_nil b g most base v [] s w h hbase rfl
    | cons x r => exact does_pop_cons b g most base v x r (x :: r) s w h hbase rfl
  rw [if_neg h1]
  by_cases h5 : k = 5
  · subst h5
    rw [if_pos rfl]
    exact does_clear b g most base v xs s w h hbase
  rw [if_neg h5]
  by_cases h2 : k = 2
  · subst h2
    cases xs with
    | nil => exact does_first_nil b g most base v [] s w h rfl
    | cons x r => exact does_first_cons b g most base v x r (x :: r) s w h rfl
  by_cases h3 : k = 3
  · subst h3
    exact does_len b g most base v xs s w h hbase
  by_cases h4 : k = 4
  · subst h4
    exact does_all b g most base v xs s w h hbase
  exact does_else b g most base v xs k s w h h0 h1 h2 h3 h4 h5

end Go.Proofs.Ytomfhbngpikjeaa
