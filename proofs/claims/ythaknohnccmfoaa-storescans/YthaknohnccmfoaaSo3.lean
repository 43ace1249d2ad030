/- Apply: what is wrong with a version; a key that has none begins a chain. -/
import Derived.Test.YthaknohnccmfoaaSo2
import Derived.Lib.Strings
import Derived.Lib.Walk
import Derived.Lib.BufferWrite
import Derived.Lib.UnsafeStr
import Derived.Laws.MakeOwn
namespace Go.Proofs.Ythaknohnccmfoaa
open Go.RowKit Go.Maps

set_option maxHeartbeats 2000000 in
set_option maxRecDepth 100000 in
/-- A copy of a text is that text; one block is made. -/
theorem textCopy_any (s : ByteArray) (w : World) (hlim : s.size ≤ 140737488355328) : Calls Try.prog 92 #[.string s] w fun e w' => e = .returned (.string s) ∧ Below w.heap.size w w' := by
  by_cases h0 : s.size = 0
  · have hs : s = ⟨#[]⟩ := by
      apply ByteArray.ext
      exact Array.eq_empty_of_size_eq_zero h0
    subst hs
    go_enter Try.func92, Try.ntmps92
    go_wp2
    go_ret
    exact ⟨rfl, Below.refl _ _⟩
  · obtain ⟨i0, hi, hz0, hz1, hz2⟩ := info_parts infoB
    have hinfo : (Try.prog.info? 5).map (·.size) = some 1 := by rw [hi]; simp [hz1]
    have hco : Try.prog.cellsOf 5 = 1 := by simp [Program.cellsOf, hi, hz1]
    obtain ⟨M, hM⟩ : ∃ M, M = madeCells (Value.int .u8 0).cells (((s.size : Nat) : Int).toNat * i0.size) := ⟨_, rfl⟩
    have hMs : M.size = s.size := by rw [hM, size_madeCells, hz1]; simp
    have hmk : ∀ W : World, (Instr.makeSlice 28 (.int .i64 (s.size : Int)) (.int .i64 (s.size : Int))).run Try.prog W = .ok (.slice (some ⟨W.heap.size, 0, none⟩) s.size s.size) (W.alloc (.cells M 5)) := fun W => by
      have h := run_make (P := Try.prog) W 28 5 i0 (.int .u8 0) Try.underlying28 hi hz0 .i64 .i64 (s.size : Int) (s.size : Int) (by omega) (by omega) (by rw [hz2]; omega) (by omega)
      rw [← hM] at h
      simpa using h
    clear hM
    have hcp := Lib.run_copy_row_string (P := Try.prog) (w.alloc (.cells M 5)) 28 9 3 5 w.heap.size 0 s.size s.size s M 5 Try.underlying28 hinfo (heap_alloc_new w _) (Nat.le_refl _) (by omega)
    obtain ⟨Y, hY⟩ : ∃ Y, Y = (M.toList.take 0 ++ Lib.byteCells s.data.toList ++ M.toList.drop (0 + s.size)).toArray := ⟨_, rfl⟩
    rw [← hY] at hcp
    have hYl : Y.toList = Lib.byteCells s.data.toList := by
      rw [hY, List.toList_toArray, List.take_zero, List.nil_append, List.drop_of_length_le (by rw [Array.length_toList]; omega), List.append_nil]
    have hYs : Y.size = s.size := by rw [← Array.length_toList, hYl, Lib.byteCells_length, ← Lib.size_eq]
    have hgY : ((w.alloc (.cells M 5)).setRow w.heap.size Y).heap[w.heap.size]? = some (.cells Y 5 (0, 0)) := setRow_heap _ _ M _ 5 (0, 0) (heap_alloc_new w _)
    have hne : s.data.toList ≠ [] := fun e => h0 (by rw [Lib.size_eq, e]; rfl)
    have hUS := Lib.run_unsafeString_row (P := Try.prog) ((w.alloc (.cells M 5)).setRow w.heap.size Y) 149 3 9 5 Try.underlying149 hco w.heap.size Y.size (by unfold World.shape?; rw [hgY]) s.data.toList hne (by rw [← Lib.size_eq]; omega) (by rw [← Lib.size_eq]; omega)
      (fun j x hx => Lib.cells_of_row hgY Y.size j _ (by rw [List.take_of_length_le (by rw [Array.length_toList]; exact Nat.le_refl _), hYl]; simp [Lib.byteCells, hx]))
    rw [← Lib.size_eq] at hUS
    clear hY
    go_enter Try.func92, Try.ntmps92
    go_wp2
    go_ret
    have hb1 : Below w.heap.size w (w.alloc (.cells M 5)) := (Below.refl _ w).alloc (Nat.le_refl _) _
    have hb2 : Below w.heap.size (w.alloc (.cells M 5)) ((w.alloc (.cells M 5)).setRow w.heap.size Y) := ⟨rfl, rfl, rfl, by simp, fun k hk => setRow_other _ _ _ _ (by omega)⟩
    exact ⟨rfl, Lib.below_freeze (hb1.trans hb2) (p := ⟨w.heap.size, 0, none⟩) (Nat.le_refl _) _⟩
set_option maxHeartbeats 400000 in
set_option maxRecDepth 100000 in
theorem textClone_any (s : ByteArray) (w : World) (hlim : s.size ≤ 140737488355328) : Calls Try.prog 81 #[.string s] w fun e w' => e = .returned (.string s) ∧ Below w.heap.size w w' := by
  have h := textCopy_any s w hlim
  go_enter Try.func81, Try.ntmps81
  go_wp2_with fail
  refine h.mono ?_
  rintro e w' ⟨rfl, hb⟩
  go_wp2_with fail
  go_ret
  exact ⟨rfl, hb⟩

/-! ### a version that is handed in -/
structure Vn where
  k : ByteArray
  n : Int
  a : Option Addr
  z : List Nat
  c : Nat
  d : Bool
def verV (x : Vn) : Value := .agg #[.string x.k, .int .i64 x.n, .slice x.a x.z.length x.c, .bool x.d]
structure VnOk (w : World) (x : Vn) : Prop where
  k : x.k.size ≤ maxLen
  n : -9223372036854775808 ≤ x.n ∧ x.n ≤ 9223372036854775807
  row : RowB w x.a x.z
  nil : x.a = none → x.z.length = 0 ∧ x.c = 0
  len : x.z.length ≤ 140737488355328
theorem VnOk.below {w w' : World} {x : Vn} (h : VnOk w x) (hb : Below w.heap.size w w') : VnOk w' x := ⟨h.k, h.n, h.row.below hb, h.nil, h.len⟩
/-- What is wrong with a version, whatever a store holds. -/
def checkE (x : Vn) : Int :=
  if x.k.size < 1 ∨ 255 < x.k.size then 140 else if 4096 < x.z.length ∨ (x.d = true ∧ 0 < x.z.length) then 141 else if x.n < 0 ∨ 4611686018427387904 < x.n then 2 else 0

set_option maxHeartbeats 2000000 in
set_option maxRecDepth 100000 in
theorem check_any (x : Vn) (w : World) : Calls Try.prog 55 #[verV x] w fun e w' => e = .returned (.int .i64 (checkE x)) ∧ Below w.heap.size w w' := by
  have hb : ∀ o, Below w.heap.size w (w.alloc o) := fun o => (Below.refl _ _).alloc (Nat.le_refl _) _
  obtain ⟨k, n, a, z, c, d⟩ := x
  unfold checkE verV
  simp only []
  generalize z.length = Z
  by_cases c1 : k.size < 1
  · have c1i : (k.size : Int) < 1 := by omega
    rw [if_pos (.inl c1)]
    go_enter Try.func55, Try.ntmps55
    go_wp2
    go_ret
    exact ⟨rfl, hb _⟩
  · have c1i : ¬ (k.size : Int) < 1 := by omega
    by_cases c2 : 255 < k.size
    · have c2i : (k.size : Int) > 255 := by omega
      rw [if_pos (.inr c2)]
      go_enter Try.func55, Try.ntmps55
      go_wp2
      go_ret
      exact ⟨rfl, hb _⟩
    · have c2i : ¬ (k.size : Int) > 255 := by omega
      rw [if_neg (by omega)]
      by_cases c3 : 4096 < Z
      · have c3i : (Z : Int) > 4096 := by omega
        rw [if_pos (.inl c3)]
        go_enter Try.func55, Try.ntmps55
        go_wp2
        go_ret
        exact ⟨rfl, hb _⟩
      · have c3i : ¬ (Z : Int) > 4096 := by omega
        have rest : ∀ (D : Bool), ¬ (D = true ∧ 0 < Z) → (D = true → ¬ (Z : Int) > 0) → Calls Try.prog 55 #[.agg #[.string k, .int .i64 n, .slice a Z c, .bool D]] w fun e w' => e = .returned (.int .i64 (if n < 0 ∨ 4611686018427387904 < n then 2 else 0)) ∧ Below w.heap.size w w' := fun D _ c4i => by
          by_cases c5 : n < 0
          · rw [if_pos (.inl c5)]
            cases D with
            | false =>
              go_enter Try.func55, Try.ntmps55
              go_wp2
              go_ret
              exact ⟨rfl, hb _⟩
            | true =>
              have c4 := c4i rfl
              go_enter Try.func55, Try.ntmps55
              go_wp2
              go_ret
              exact ⟨rfl, hb _⟩
          · by_cases c6 : 4611686018427387904 < n
            · have c6i : n > 4611686018427387904 := c6
              rw [if_pos (.inr c6)]
              cases D with
              | false =>
                go_enter Try.func55, Try.ntmps55
                go_wp2
                go_ret
                exact ⟨rfl, hb _⟩
              | true =>
                have c4 := c4i rfl
                go_enter Try.func55, Try.ntmps55
                go_wp2
                go_ret
                exact ⟨rfl, hb _⟩
            · have c6i : ¬ n > 4611686018427387904 := c6
              rw [if_neg (by omega)]
              cases D with
              | false =>
                go_enter Try.func55, Try.ntmps55
                go_wp2
                go_ret
                exact ⟨rfl, hb _⟩
              | true =>
                have c4 := c4i rfl
                go_enter Try.func55, Try.ntmps55
                go_wp2
                go_ret
                exact ⟨rfl, hb _⟩
        by_cases c4 : d = true ∧ 0 < Z
        · have c4i : (Z : Int) > 0 := by omega
          rw [if_pos (.inr c4)]
          obtain ⟨rfl, c4n⟩ := c4
          clear rest
          go_enter Try.func55, Try.ntmps55
          go_wp2
          go_ret
          exact ⟨rfl, hb _⟩
        · rw [if_neg (fun h => by rcases h with h | h; exact c3 h; exact c4 h)]
          exact rest d c4 (fun e h => c4 ⟨e, by omega⟩)

end Go.Proofs.Ythaknohnccmfoaa
