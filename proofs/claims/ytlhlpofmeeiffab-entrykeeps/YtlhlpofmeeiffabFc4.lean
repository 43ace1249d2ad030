/- Opening a reader; bytes as a text. -/
import Derived.Test.YtlhlpofmeeiffabFc3
import Derived.Laws.BytesString
import Derived.Laws.Cells
import Derived.Lib.SliceRun
import Derived.Lib.Strings
namespace Go.Proofs.Ytlhlpofmeeiffab
open Go.RowKit

/-- The text of bytes. -/
def strOf (p : List Nat) : ByteArray := (p.map fun n : Nat => (n : Int)).foldl (fun r n => r.push (UInt8.ofNat n.toNat)) ByteArray.empty

theorem conv_row {w : World} {a : Option Addr} {cap : Nat} {p : List Nat} (hr : RowB w a p) (hn : a = none → p.length = 0 ∧ cap = 0) :
    (convert 22 9 (.slice a p.length cap)).run Try.prog w = .ok (.string (strOf p)) w := by
  rw [run_convert_bytes_string w _ _ _ _ _ _ Try.underlying22 Try.underlying5 Try.underlying9]
  cases a with
  | none =>
    obtain ⟨h1, h2⟩ := hn rfl
    have e : p = [] := List.eq_nil_of_length_eq_zero h1
    subst e
    subst h2
    rfl
  | some ad =>
    unfold strOf
    refine run_bytesToString w ad p.length cap (p.map fun n : Nat => (n : Int)) ?_
    have h := run_loadCells_list (P := Try.prog) (w := w) ad (p.map encB) (fun j v hv => ?_)
    · have e : (p.map encB) = (p.map fun n : Nat => (n : Int)).map (Value.int .u8) := by simp [encB]
      rw [List.length_map, e] at h
      exact h
    · have hj : j < p.length := by have := (List.getElem?_eq_some_iff.1 hv).1; simpa using this
      obtain ⟨b, o, e, hlt, hc⟩ := hr.here hj
      cases e
      rw [Addr.add_lit, hc j hj]
      exact (mapB_at hj).symm.trans hv

set_option maxRecDepth 100000 in
set_option maxHeartbeats 400000 in
theorem clone_any (a : Option Addr) (cap : Nat) (zs : List Nat) (w : World) (hr : RowB w a zs) (hl : zs.length ≤ 140737488355328) (hnil : a = none → zs.length = 0 ∧ cap = 0) :
    Calls Try.prog 34 #[.slice a zs.length cap] w fun e w' => (∃ v, e = .returned v ∧ OwnB w' w.heap.size v zs) ∧ Below w.heap.size w w' := by
  have hb0 : Below w.heap.size w (w.alloc (.cells #[] 5)) := (Below.refl _ _).alloc (Nat.le_refl _) _
  have hr0 := hr.below hb0
  have hn1 := fun (w : World) (a : Option Addr) (n c : Nat) => Lib.run_eql_slice_nil (P := Try.prog) w 22 5 a n c 0 0 Try.underlying22
  cases a with
  | none =>
    obtain ⟨h1, h2⟩ := hnil rfl
    have hzs : zs = [] := List.eq_nil_of_length_eq_zero h1
    subst hzs
    subst h2
    go_enter Try.func34, Try.ntmps34
    go_wp2
    go_ret
    exact ⟨⟨_, rfl, World.ownsRow_nil _ _ _ _⟩, Below.refl _ _⟩
  | some ad =>
    clear hr
    go_enter Try.func34, Try.ntmps34
    go_wp2_with (at_builtin; refine wpList_append_row _ rfl _ _ rfl w.heap.size _ [] rfl (own_empty w) (some ad) cap zs rfl hr0 hnil (by simp; omega) hb0.size ?_; intro vc w0 hown0 hg0 hat0)
    go_ret
    exact ⟨⟨_, rfl, by rw [List.nil_append] at hown0; exact hown0⟩, hb0.grown hg0 hb0.size (fun j e => by cases e; exact Nat.le_refl _)⟩

set_option maxRecDepth 100000 in
set_option maxHeartbeats 400000 in
theorem open_any (a : Option Addr) (cap : Nat) (zs : List Nat) (w : World) (hr : RowB w a zs) (hl : zs.length ≤ 140737488355328) (hnil : a = none → zs.length = 0 ∧ cap = 0) :
    Calls Try.prog 37 #[.slice a zs.length cap] w fun e w' => ∃ p, e = .returned (.pointer (some ⟨p, 0, none⟩)) ∧ w.heap.size ≤ p ∧ Rdr w' p zs 0 ∧ Below w.heap.size w w' := by
  have hcl := clone_any a cap zs w hr hl hnil
  clear hr
  go_enter Try.func37, Try.ntmps37
  go_wp2_with fail
  refine hcl.mono ?_
  rintro e w1 ⟨⟨v, rfl, hown⟩, hb1⟩
  obtain ⟨a1, c1, rfl, hr1, h1, h2, h3⟩ := hown.row
  have HR := hide_it hr1
  have hb2 : Below w1.heap.size w1 (w1.alloc (.cells #[.slice a1 zs.length c1, .int .i64 0] 70)) := (Below.refl _ _).alloc (Nat.le_refl _) _
  clear hcl hown hr1
  go_wp2_with fail
  go_ret
  refine ⟨w1.heap.size, rfl, hb1.size, ⟨by simp, a1, c1, heap_alloc_new w1 _, HR.out.below hb2, h1, h2, h3⟩, hb1.trans (hb2.mono hb1.size)⟩

theorem strOf_data (p : List Nat) : (strOf p).data.toList = p.map UInt8.ofNat := by
  have key : ∀ (p : List Nat) (s : ByteArray), ((p.map fun n : Nat => (n : Int)).foldl (fun r n => r.push (UInt8.ofNat n.toNat)) s).data.toList = s.data.toList ++ p.map UInt8.ofNat := by
    intro p
    induction p with
    | nil => intro s; simp
    | cons x t ih => intro s; simp only [List.map_cons, List.foldl_cons]; rw [ih]; simp [ByteArray.push]
  have := key p ByteArray.empty
  simpa [strOf] using this

theorem strOf_list (p : List Nat) : (strOf p).toList = p.map UInt8.ofNat := by rw [Lib.toList_data, strOf_data]

theorem row_lit (w : World) (zs : List Nat) : RowB (w.alloc (.cells (zs.map encB).toArray 5)) (some ⟨w.heap.size, 0, none⟩) zs := by
  refine .inr ⟨w.heap.size, 0, rfl, by simp, fun i hi => ?_⟩
  rw [cell_of_row _ _ _ _ _ _ (heap_alloc_new w _), Nat.zero_add, List.getElem?_toArray]
  exact mapB_at hi

end Go.Proofs.Ytlhlpofmeeiffab
