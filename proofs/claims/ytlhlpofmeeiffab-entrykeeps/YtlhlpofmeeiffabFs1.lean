/- Slices of bytes of the call's own at any place of their block, appended to beyond 2^47 bytes. -/
import Derived.Test.YtlhlpofmeeiffabSl1
import Derived.Test.YtlhlpofmeeiffabBt1
namespace Go.Proofs.Ytlhlpofmeeiffab
open Go.RowKit

/-- v is a slice of bytes bs in a block from base on that nobody else writes. -/
def OwB (w : World) (base : Nat) (v : Value) (bs : List Nat) : Prop := OwnS w base 5 1 v bs.length (bs.map encB)

theorem OwB.row {w : World} {base : Nat} {v : Value} {zs : List Nat} (h : OwB w base v zs) : ∃ a cap, v = .slice a zs.length cap ∧ RowB w a zs ∧ zs.length ≤ cap ∧ cap ≤ maxLen ∧ (a = none → zs.length = 0 ∧ cap = 0) := by
  obtain ⟨a, cap, hv, hn, hm, h0, hc⟩ := OwnS.open h
  refine ⟨a, cap, hv, ?_, hn, hm, h0⟩
  cases a with
  | none => exact .inl (h0 rfl).1
  | some b =>
    obtain ⟨h1, h2, _, h4⟩ := hc b rfl
    refine .inr ⟨b.block, b.off, by cases b; simp_all, h2, fun i hi => ?_⟩
    rw [h4 i (by simpa using hi)]
    exact mapB_at hi

theorem srcB {w : World} {a : Option Addr} {cap : Nat} {zs : List Nat} (hr : RowB w a zs) (hnil : a = none → zs.length = 0 ∧ cap = 0) : Src Try.prog 1 22 (.slice a zs.length cap) zs.length (zs.map encB) w := by
  cases a with
  | none =>
    obtain ⟨h1, h2⟩ := hnil rfl
    have hzs : zs = [] := List.eq_nil_of_length_eq_zero h1
    subst hzs
    exact Src.ofNil w Try.underlying22 cap
  | some ad =>
    refine Src.ofSlice w Try.underlying22 ad zs.length cap _ (by simp) (fun j u hu => ?_) (fun u hu => ?_)
    · have hj : j < zs.length := by have := (List.getElem?_eq_some_iff.1 hu).1; simpa using this
      obtain ⟨b, o, e, hlt, hc⟩ := hr.here hj
      cases e
      rw [Addr.add_lit, hc j hj]
      exact (mapB_at hj).symm.trans hu
    · obtain ⟨z, _, rfl⟩ := List.mem_map.1 hu
      rfl
--%IF cloisterref07.Append

theorem run_appendB (w : World) (ty : TypeId) (base : Nat) (v : Value) (xs : List Nat) (hown : OwB w base v xs) (a : Option Addr) (cap : Nat) (zs : List Nat) (hr : RowB w a zs) (hnil : a = none → zs.length = 0 ∧ cap = 0)
    (hl : xs.length + zs.length ≤ 211106232532800) (hbase : base ≤ w.heap.size) :
    ∃ v' w', (Builtin.append_ #[22, 22] ty #[v, .slice a zs.length cap]).run Try.prog w = .ok v' w' ∧ OwB w' base v' (xs ++ zs) ∧ w.grownBy w' v.ownBlock ∧ (v'.ownBlock = v.ownBlock ∨ v'.ownBlock = some w.heap.size) := by
  obtain ⟨v', w', h1, h2, h3, h4⟩ := run_append_S (P := Try.prog) 22 22 ty (.int .u8 0) Try.underlying22 infoB rfl hown _ _ _ (srcB hr hnil) (by unfold maxLen; omega) (by omega) hbase
  exact ⟨v', w', h1, by unfold OwB; simpa using h2, h3, h4⟩

theorem wpList_appendB (w : World) {ops : Array Oper} {rest : List Oper} {o : Oper} {act : Act} {Q : Exit → Act → World → Prop} (hgd : o.guard = none) (s x : Operand)
    (ho : o.op = .call { callee := .builtin .append, args := #[s, x], argTypes := #[22, 22] })
    (base : Nat) (v : Value) (xs : List Nat) (hs : act.eval s = v) (hown : OwB w base v xs) (a : Option Addr) (cap : Nat) (zs : List Nat) (hx : act.eval x = .slice a zs.length cap) (hr : RowB w a zs) (hnil : a = none → zs.length = 0 ∧ cap = 0)
    (hl : xs.length + zs.length ≤ 211106232532800) (hbase : base ≤ w.heap.size)
    (h : ∀ v' w', OwB w' base v' (xs ++ zs) → w.grownBy w' v.ownBlock → (v'.ownBlock = v.ownBlock ∨ v'.ownBlock = some w.heap.size) → wpList Try.prog ops Q rest (act.put o.dst v') w') :
    wpList Try.prog ops Q (o :: rest) act w :=
  wpList_append_S hgd s x 22 22 ho (.int .u8 0) Try.underlying22 infoB rfl hs hown _ hx _ _ (srcB hr hnil) (by unfold maxLen; omega) (by omega) hbase
    fun v' w' h2 h3 h4 => h v' w' (by unfold OwB; simpa using h2) h3 h4

theorem OwB.nil (w : World) (base : Nat) : OwB w base (.slice none 0 0) [] := OwnS.nil _ _ _ _

theorem OwB.keep {w w' : World} {base : Nat} {v : Value} {zs : List Nat} (h : OwB w base v zs) (hk : ∀ j, v.ownBlock = some j → w'.heap[j]? = w.heap[j]?) : OwB w' base v zs := OwnS.keep h hk

theorem OwB.inside {w : World} {base : Nat} {v : Value} {zs : List Nat} (h : OwB w base v zs) : ∀ j, v.ownBlock = some j → base ≤ j ∧ j < w.heap.size := OwnS.inside h

theorem OwB.mono {w : World} {base base' : Nat} {v : Value} {zs : List Nat} (h : OwB w base v zs) (hb : base' ≤ base) : OwB w base' v zs := OwnS.mono h hb

theorem OwB.below {w w' : World} {base : Nat} {v : Value} {zs : List Nat} (h : OwB w base v zs) (hb : Below w.heap.size w w') : OwB w' base v zs := OwnS.below h hb

theorem OwB.take {w : World} {base : Nat} {a : Option Addr} {cap m : Nat} {zs : List Nat} (h : OwB w base (.slice a zs.length cap) zs) (hm : m ≤ zs.length) : OwB w base (.slice a m cap) (zs.take m) := by
  have h2 := OwnS.take h hm
  unfold OwB
  rw [List.length_take, Nat.min_eq_left hm, List.map_take]
  simpa using h2

theorem OwB.drop {w : World} {base : Nat} {a : Option Addr} {cap m : Nat} {zs : List Nat} (h : OwB w base (.slice a zs.length cap) zs) (hm : m ≤ zs.length) : OwB w base (.slice (if cap = m then a else a.map (·.add m)) (zs.length - m) (cap - m)) (zs.drop m) := by
  have h2 := OwnS.drop h hm
  unfold OwB
  rw [List.length_drop, List.map_drop]
  simpa using h2

end Go.Proofs.Ytlhlpofmeeiffab
