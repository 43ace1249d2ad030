/- The document's disk: New. -/
import Derived.Test.YtdodnegdpdhbiaaDr15
namespace Go.Proofs.Ytdodnegdpdhbiaa
open Go.RowKit

theorem infoAreaR : (Try.prog.info? 108).map (fun i => (i.zero.map Value.cells, i.size, i.bytes)) = some (some #[.int .i64 0, .int .i64 0, .int .i64 0, .slice none 0 0, .int .i64 0, .int .i64 0, .int .u8 0], 7, 72) := by kernel_rfl

section
variable {w : World} {F : Nat → Prop}
set_option maxRecDepth 100000 in
set_option maxHeartbeats 800000 in
theorem newR_no (I : Int) (hI : ¬ (1 ≤ I ∧ I ≤ 16)) : Calls Try.prog 18 #[.int .i64 I] w fun e w' => e = .returned (.tuple #[valD none 0 0 false, .int .i64 2]) ∧ Below w.heap.size w w' := by
  have hb : Below w.heap.size w (w.alloc (.cells #[.slice none 0 0, .bool false] 45)) := (Below.refl _ _).alloc (Nat.le_refl _) _
  by_cases h1 : I < 1
  · go_enter Try.func18, Try.ntmps18
    go_wp2_with fail
    exact bodyPost_ret (v := .tuple #[valD none 0 0 false, .int .i64 2]) (by simp [results, Try.results18, go_sem]) rfl ⟨rfl, hb⟩
  · have h2 : 16 < I := by omega
    go_enter Try.func18, Try.ntmps18
    go_wp2_with fail
    exact bodyPost_ret (v := .tuple #[valD none 0 0 false, .int .i64 2]) (by simp [results, Try.results18, go_sem]) rfl ⟨rfl, hb⟩

set_option maxRecDepth 100000 in
set_option maxHeartbeats 800000 in
theorem newR_ok (hF : ∀ b, F b → b < w.heap.size) (n : Nat) (hn : 1 ≤ n ∧ n ≤ 16) : Calls Try.prog 18 #[.int .i64 (n : Int)] w fun e w' => ∃ v, e = .returned (.tuple #[v, .int .i64 0]) ∧ NewD w F n false (fun _ => ⟨0, [], 0, 0, 0, 0, 0⟩) v w' := by
  have hmk := mk_any 43 108 _ 7 72 Try.underlying43 infoAreaR n (by omega) (by omega) (w.alloc (.cells #[.slice none 0 0, .bool false] 45))
  have h1 : ¬ (n : Int) < 1 := by omega
  have h2 : ¬ 16 < (n : Int) := by omega
  obtain ⟨C, hC⟩ : ∃ C, C = madeCells #[.int .i64 0, .int .i64 0, .int .i64 0, .slice none 0 0, .int .i64 0, .int .i64 0, .int .u8 0] (n * 7) := ⟨_, rfl⟩
  rw [← hC] at hmk
  have HC : Hid (∀ i j, i < n → j < 7 → C[i * 7 + j]? = #[Value.int .i64 0, .int .i64 0, .int .i64 0, .slice none 0 0, .int .i64 0, .int .i64 0, .int .u8 0][j]?) := hide_it fun i j hi hj => by rw [hC]; exact made_at _ n 7 i j rfl hi hj
  have hb0 : Below w.heap.size w ((w.alloc (.cells #[.slice (some ⟨w.heap.size + 1, 0, none⟩) n n, .bool false] 45)).alloc (.cells C 108)) := ((Below.refl _ _).alloc (Nat.le_refl _) _).alloc (by simp) _
  have hnew := heap_alloc_new (w.alloc (.cells #[.slice (some ⟨w.heap.size + 1, 0, none⟩) n n, .bool false] 45)) (.cells C 108)
  rw [World.size_alloc] at hnew
  have HD : Hid (Dd ((w.alloc (.cells #[.slice (some ⟨w.heap.size + 1, 0, none⟩) n n, .bool false] 45)).alloc (.cells C 108)) F (some ⟨w.heap.size + 1, 0, none⟩) n (fun _ => ⟨0, [], 0, 0, 0, 0, 0⟩)) := hide_it (by
    refine ⟨⟨w.heap.size + 1, 0, rfl, by simp, fun hx => by have := hF _ hx; omega, fun i hi => ⟨none, 0, ?_, .inl rfl, .inl rfl, Nat.le_refl _, fun _ => ⟨rfl, rfl⟩⟩⟩, hn, fun i _ => ⟨Nat.le_refl _, (fun z hz => by cases hz), by simp, by simp, by simp, by simp⟩⟩
    have hk : ∀ j, j < 7 → ((w.alloc (.cells #[.slice (some ⟨w.heap.size + 1, 0, none⟩) n n, .bool false] 45)).alloc (.cells C 108)).cell? ⟨w.heap.size + 1, 0 + i * 7 + j, none⟩ = #[Value.int .i64 0, .int .i64 0, .int .i64 0, .slice none 0 0, .int .i64 0, .int .i64 0, .int .u8 0][j]? := fun j hj => by
      rw [cell_of_row _ _ _ _ _ _ hnew, Nat.zero_add]
      exact HC.out i j hi hj
    exact ⟨hk 0 (by omega), hk 1 (by omega), hk 2 (by omega), hk 3 (by omega), hk 4 (by omega), hk 5 (by omega), hk 6 (by omega)⟩)
  have HB := hide_it hb0
  clear hC hF hnew hb0
  go_enter Try.func18, Try.ntmps18
  go_wp2_with fail
  exact bodyPost_ret (v := .tuple #[valD (some ⟨w.heap.size + 1, 0, none⟩) n n false, .int .i64 0]) (by simp [results, Try.results18, go_sem]) rfl ⟨_, rfl, ⟨_, _, rfl, HD.out⟩, HB.out⟩
end

end Go.Proofs.Ytdodnegdpdhbiaa
