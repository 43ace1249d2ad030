/- Slices of bytes and of truth values of a holder's own, at whatever place of their block: read, copied, laid behind, as a text. -/
import Derived.Test.YtncmnhomloanaabBt1
import Derived.Test.YtncmnhomloanaabSl1
import Derived.Laws.BytesString
import Derived.Laws.Cells
namespace Go.Proofs.Ytncmnhomloanaab
open Go.RowKit

/-- v is a slice of bytes bs in a block from base on that nobody else writes. -/
def OwB (w : World) (base : Nat) (v : Value) (bs : List Nat) : Prop := OwnS w base 5 1 v bs.length (bs.map encB)
/-- .. of truth values. -/
def OwO (w : World) (base : Nat) (v : Value) (fs : List Bool) : Prop := OwnS w base 4 1 v fs.length (fs.map Value.bool)

/-- The element i of a list, false beyond its end. -/
def atF (zs : List Bool) (i : Nat) : Bool := zs.getD i false
theorem atF_get {zs : List Bool} {i : Nat} (hi : i < zs.length) : zs[i] = atF zs i := by
  unfold atF; rw [List.getD_eq_getElem?_getD, List.getElem?_eq_getElem hi]; rfl
theorem mapO_at {zs : List Bool} {i : Nat} (h : i < zs.length) : (zs.map Value.bool)[i]? = some (.bool (atF zs i)) := by
  rw [List.getElem?_map, List.getElem?_eq_getElem h, atF_get h]; rfl
/-- A row of truth values: the slice's address and its elements (none: whatever the address). -/
def RowO (w : World) (a : Option Addr) (zs : List Bool) : Prop :=
  zs.length = 0 ∨ ∃ b o, a = some ⟨b, o, none⟩ ∧ b < w.heap.size ∧ ∀ i, i < zs.length → w.cell? ⟨b, o + i, none⟩ = some (.bool (atF zs i))
theorem RowO.below {w w' : World} {a : Option Addr} {zs : List Bool} (h : RowO w a zs) (hb : Below w.heap.size w w') : RowO w' a zs := by
  rcases h with h | ⟨b, o, e, hlt, hc⟩
  · exact .inl h
  · exact .inr ⟨b, o, e, Nat.lt_of_lt_of_le hlt hb.size, fun i hi => by rw [hb.cell (p := ⟨b, o + i, none⟩) hlt]; exact hc i hi⟩
theorem RowO.here {w : World} {a : Option Addr} {zs : List Bool} (h : RowO w a zs) {i : Nat} (hi : i < zs.length) :
    ∃ b o, a = some ⟨b, o, none⟩ ∧ b < w.heap.size ∧ ∀ i, i < zs.length → w.cell? ⟨b, o + i, none⟩ = some (.bool (atF zs i)) := by
  rcases h with h | h
  · omega
  · exact h

theorem OwB.row {w : World} {base : Nat} {v : Value} {zs : List Nat} (h : OwB w base v zs) : ∃ a cap, v = .slice a zs.length cap ∧ RowB w a zs ∧ zs.length ≤ cap ∧ cap ≤ maxLen ∧ (a = none → zs.length = 0 ∧ cap = 0) := by
  obtain ⟨a, cap, hv, hn, hm, h0, hc⟩ := OwnS.open h
  refine ⟨a, cap, hv, ?_, hn, hm, h0⟩
  cases a with
  | none => exact .inl (h0 rfl).1
  | some b =>
    obtain ⟨h1, h2, _, h4⟩ := hc b rfl
    refine .inr ⟨b.block, b.off, by cases b; simp_all, h2, fun i hi => ?_⟩
    rw [h4 i (by simpa using hi)]
    exact mapB_at hi
theorem OwO.row {w : World} {base : Nat} {v : Value} {zs : List Bool} (h : OwO w base v zs) : ∃ a cap, v = .slice a zs.length cap ∧ RowO w a zs ∧ zs.length ≤ cap ∧ cap ≤ maxLen ∧ (a = none → zs.length = 0 ∧ cap = 0) := by
  obtain ⟨a, cap, hv, hn, hm, h0, hc⟩ := OwnS.open h
  refine ⟨a, cap, hv, ?_, hn, hm, h0⟩
  cases a with
  | none => exact .inl (h0 rfl).1
  | some b =>
    obtain ⟨h1, h2, _, h4⟩ := hc b rfl
    refine .inr ⟨b.block, b.off, by cases b; simp_all, h2, fun i hi => ?_⟩
    rw [h4 i (by simpa using hi)]
    exact mapO_at hi

theorem infoO : (Try.prog.info? 4).map (fun i => (i.zero, i.size, i.bytes)) = some (some (.bool false), 1, 1) := by kernel_rfl

theorem srcB {w : World} {a : Option Addr} {cap : Nat} {zs : List Nat} (hr : RowB w a zs) (hnil : a = none → zs.length = 0 ∧ cap = 0) : Src Try.prog 1 37 (.slice a zs.length cap) zs.length (zs.map encB) w := by
  cases a with
  | none =>
    obtain ⟨h1, h2⟩ := hnil rfl
    have hzs : zs = [] := List.eq_nil_of_length_eq_zero h1
    subst hzs
    exact Src.ofNil w Try.underlying37 cap
  | some ad =>
    refine Src.ofSlice w Try.underlying37 ad zs.length cap _ (by simp) (fun j u hu => ?_) (fun u hu => ?_)
    · have hj : j < zs.length := by have := (List.getElem?_eq_some_iff.1 hu).1; simpa using this
      obtain ⟨b, o, e, hlt, hc⟩ := hr.here hj
      cases e
      rw [Addr.add_lit, hc j hj]
      exact (mapB_at hj).symm.trans hu
    · obtain ⟨z, _, rfl⟩ := List.mem_map.1 hu
      rfl



















theorem run_appendB (w : World) (ty : TypeId) (base : Nat) (v : Value) (xs : List Nat) (hown : OwB w base v xs) (a : Option Addr) (cap : Nat) (zs : List Nat) (hr : RowB w a zs) (hnil : a = none → zs.length = 0 ∧ cap = 0)
    (hl : xs.length + zs.length ≤ 211106232532800) (hbase : base ≤ w.heap.size) :
    ∃ v' w', (Builtin.append_ #[37, 37] ty #[v, .slice a zs.length cap]).run Try.prog w = .ok v' w' ∧ OwB w' base v' (xs ++ zs) ∧ w.grownBy w' v.ownBlock ∧ (v'.ownBlock = v.ownBlock ∨ v'.ownBlock = some w.heap.size) := by
  obtain ⟨v', w', h1, h2, h3, h4⟩ := run_append_S (P := Try.prog) 37 37 ty (.int .u8 0) Try.underlying37 infoB rfl hown _ _ _ (srcB hr hnil) (by unfold maxLen; omega) (by omega) hbase
  exact ⟨v', w', h1, by unfold OwB; simpa using h2, h3, h4⟩
theorem wpList_appendB (w : World) {ops : Array Oper} {rest : List Oper} {o : Oper} {act : Act} {Q : Exit → Act → World → Prop} (hgd : o.guard = none) (s x : Operand)
    (ho : o.op = .call { callee := .builtin .append, args := #[s, x], argTypes := #[37, 37] })
    (base : Nat) (v : Value) (xs : List Nat) (hs : act.eval s = v) (hown : OwB w base v xs) (a : Option Addr) (cap : Nat) (zs : List Nat) (hx : act.eval x = .slice a zs.length cap) (hr : RowB w a zs) (hnil : a = none → zs.length = 0 ∧ cap = 0)
    (hl : xs.length + zs.length ≤ 211106232532800) (hbase : base ≤ w.heap.size)
    (h : ∀ v' w', OwB w' base v' (xs ++ zs) → w.grownBy w' v.ownBlock → (v'.ownBlock = v.ownBlock ∨ v'.ownBlock = some w.heap.size) → wpList Try.prog ops Q rest (act.put o.dst v') w') :
    wpList Try.prog ops Q (o :: rest) act w :=
  wpList_append_S hgd s x 37 37 ho (.int .u8 0) Try.underlying37 infoB rfl hs hown _ hx _ _ (srcB hr hnil) (by unfold maxLen; omega) (by omega) hbase
    fun v' w' h2 h3 h4 => h v' w' (by unfold OwB; simpa using h2) h3 h4

theorem OwB.nil (w : World) (base : Nat) : OwB w base (.slice none 0 0) [] := OwnS.nil _ _ _ _
theorem OwB.keep {w w' : World} {base : Nat} {v : Value} {zs : List Nat} (h : OwB w base v zs) (hk : ∀ j, v.ownBlock = some j → w'.heap[j]? = w.heap[j]?) : OwB w' base v zs := OwnS.keep h hk
theorem OwB.inside {w : World} {base : Nat} {v : Value} {zs : List Nat} (h : OwB w base v zs) : ∀ j, v.ownBlock = some j → base ≤ j ∧ j < w.heap.size := OwnS.inside h
theorem OwB.mono {w : World} {base base' : Nat} {v : Value} {zs : List Nat} (h : OwB w base v zs) (hb : base' ≤ base) : OwB w base' v zs := OwnS.mono h hb
theorem OwB.below {w w' : World} {base : Nat} {v : Value} {zs : List Nat} (h : OwB w base v zs) (hb : Below w.heap.size w w') : OwB w' base v zs := OwnS.below h hb
theorem OwB.take {w : World} {base : Nat} {a : Option Addr} {cap m : Nat} {zs : List Nat} (h : OwB w base (.slice a zs.length cap) zs) (hm : m ≤ zs.length) : OwB w base (.slice a m cap) (zs.take m) := by
  have h2 := OwnS.take h hm
  unfold OwB
  rw [List.length_take, Nat.min_eq_left hm, List.map_take]
  simpa using h2
theorem OwB.drop {w : World} {base : Nat} {a : Option Addr} {cap m : Nat} {zs : List Nat} (h : OwB w base (.slice a zs.length cap) zs) (hm : m ≤ zs.length) : OwB w base (.slice (if cap = m then a else a.map (·.add m)) (zs.length - m) (cap - m)) (zs.drop m) := by
  have h2 := OwnS.drop h hm
  unfold OwB
  rw [List.length_drop, List.map_drop]
  simpa using h2
theorem OwO.nil (w : World) (base : Nat) : OwO w base (.slice none 0 0) [] := OwnS.nil _ _ _ _
theorem OwO.keep {w w' : World} {base : Nat} {v : Value} {zs : List Bool} (h : OwO w base v zs) (hk : ∀ j, v.ownBlock = some j → w'.heap[j]? = w.heap[j]?) : OwO w' base v zs := OwnS.keep h hk
theorem OwO.inside {w : World} {base : Nat} {v : Value} {zs : List Bool} (h : OwO w base v zs) : ∀ j, v.ownBlock = some j → base ≤ j ∧ j < w.heap.size := OwnS.inside h
theorem OwO.mono {w : World} {base base' : Nat} {v : Value} {zs : List Bool} (h : OwO w base v zs) (hb : base' ≤ base) : OwO w base' v zs := OwnS.mono h hb
theorem OwO.below {w w' : World} {base : Nat} {v : Value} {zs : List Bool} (h : OwO w base v zs) (hb : Below w.heap.size w w') : OwO w' base v zs := OwnS.below h hb
theorem OwO.take {w : World} {base : Nat} {a : Option Addr} {cap m : Nat} {zs : List Bool} (h : OwO w base (.slice a zs.length cap) zs) (hm : m ≤ zs.length) : OwO w base (.slice a m cap) (zs.take m) := by
  have h2 := OwnS.take h hm
  unfold OwO
  rw [List.length_take, Nat.min_eq_left hm, List.map_take]
  simpa using h2
theorem OwO.drop {w : World} {base : Nat} {a : Option Addr} {cap m : Nat} {zs : List Bool} (h : OwO w base (.slice a zs.length cap) zs) (hm : m ≤ zs.length) : OwO w base (.slice (if cap = m then a else a.map (·.add m)) (zs.length - m) (cap - m)) (zs.drop m) := by
  have h2 := OwnS.drop h hm
  unfold OwO
  rw [List.length_drop, List.map_drop]
  simpa using h2

/-- The text of bytes. -/
def strOf (p : List Nat) : ByteArray := (p.map fun n : Nat => (n : Int)).foldl (fun r n => r.push (UInt8.ofNat n.toNat)) ByteArray.empty
theorem conv_row {w : World} {a : Option Addr} {cap : Nat} {p : List Nat} (hr : RowB w a p) (hn : a = none → p.length = 0 ∧ cap = 0) :
    (convert 37 9 (.slice a p.length cap)).run Try.prog w = .ok (.string (strOf p)) w := by
  rw [run_convert_bytes_string w _ _ _ _ _ _ Try.underlying37 Try.underlying5 Try.underlying9]
  cases a with
  | none =>
    obtain ⟨h1, h2⟩ := hn rfl
    have e : p = [] := List.eq_nil_of_length_eq_zero h1
    subst e
    subst h2
    rfl
  | some ad =>
    unfold strOf
    refine run_bytesToString w ad p.length cap (p.map fun n : Nat => (n : Int)) ?_
    have h := run_loadCells_list (P := Try.prog) (w := w) ad (p.map encB) (fun j v hv => ?_)
    · have e : (p.map encB) = (p.map fun n : Nat => (n : Int)).map (Value.int .u8) := by simp [encB]
      rw [List.length_map, e] at h
      exact h
    · have hj : j < p.length := by have := (List.getElem?_eq_some_iff.1 hv).1; simpa using this
      obtain ⟨b, o, e, hlt, hc⟩ := hr.here hj
      cases e
      rw [Addr.add_lit, hc j hj]
      exact (mapB_at hj).symm.trans hv

end Go.Proofs.Ytncmnhomloanaab
