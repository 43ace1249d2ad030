/- Awake: the calls whose answers the document fixes. -/
import Derived.Test.YtbafjkanbbcbgaaXo5
import Derived.Lib.SlBytesConst
namespace Go.Proofs.Ytbafjkanbbcbgaa
open Go.RowKit Go.Maps Go.Shelf

attribute [local go_sem] Oper.semAt_some

def bt (b : UInt8) : ByteArray := { data := #[b] }
def C1 : Wc := [([98], ⟨0, [50, 50], false⟩)]
def C2 : Wc := [([97], ⟨0, [49], false⟩), ([98], ⟨0, [50, 50], false⟩)]
def C3 : Wc := [([97], ⟨0, [49], false⟩), ([98], ⟨0, [50, 50], false⟩), ([99], ⟨0, [], true⟩)]
theorem rowB_mark (w : World) (cs : Array Value) (t : TypeId) (m : Nat × Nat) (L : List Nat) (h : ∀ i, i < L.length → cs[i]? = some (.int .u8 ((at0 L i : Nat) : Int))) : RowB (w.alloc (.cells cs t m)) (some ⟨w.heap.size, 0, none⟩) L := by
  refine .inr ⟨_, _, rfl, by simp, fun i hi => ?_⟩
  rw [World.cell?_alloc_mark, Nat.zero_add]
  exact h i hi
theorem lit_two (w : World) (x y : Nat) : RowB (w.alloc (.cells #[.int .u8 x, .int .u8 y] 5 (2, 3))) (some ⟨w.heap.size, 0, none⟩) [x, y] := rowB_mark w _ _ _ _ fun i hi => by
  have : i = 0 ∨ i = 1 := by simp at hi; omega
  rcases this with rfl | rfl <;> rfl
theorem lit_one (w : World) (x : Nat) : RowB (w.alloc (.cells #[.int .u8 x] 5 (1, 2))) (some ⟨w.heap.size, 0, none⟩) [x] := rowB_mark w _ _ _ _ fun i hi => by
  obtain rfl : i = 0 := by simp at hi; omega
  rfl

theorem aw_over : (ovA C3 [] [] [([97], [120]), ([98, 98], []), ([99], [])]).map (·.1) = [([97], [49]), ([98], [50, 50]), ([98, 98], [])] := by decide +kernel
theorem build_pair (w : World) (k : ByteArray) (a : Option Addr) (n c : Nat) : (Instr.build 60 #[(0, .string k), (1, .slice a n c)]).run Try.prog w = .ok (.agg #[.string k, .slice a n c]) w := by kernel_rfl
theorem build_key (w : World) (k : ByteArray) : (Instr.build 60 #[(0, .string k)]).run Try.prog w = .ok (.agg #[.string k, .slice none 0 0]) w := by kernel_rfl
def bb : ByteArray := { data := #[98, 98] }
theorem row_three (w : World) (x y z : Pn) : RowU (w.alloc (.cells #[.string x.k, .slice x.a x.z.length x.c, .string y.k, .slice y.a y.z.length y.c, .string z.k, .slice z.a z.z.length z.c] 60)) (some ⟨w.heap.size, 0, none⟩) [x, y, z] := by
  refine .inr ⟨w.heap.size, 0, rfl, by simp, fun i hi => ?_⟩
  rw [cell_of_row _ _ _ _ _ _ (heap_alloc_new w _), cell_of_row _ _ _ _ _ _ (heap_alloc_new w _)]
  have : i = 0 ∨ i = 1 ∨ i = 2 := by simp at hi; omega
  rcases this with rfl | rfl | rfl <;> exact ⟨rfl, rfl⟩

set_option maxRecDepth 100000 in
set_option maxHeartbeats 4000000 in
theorem awake_any (w : World) : Calls Try.prog 9 #[] w fun e w' => e = .returned (.bool true) ∧ Below w.heap.size w w' := by
  have kc := fun (w : World) (C : Array Value) (n c : Nat) => Lib.run_convert_bytes_const (P := Try.prog) w 34 5 C n c Try.underlying34 Try.underlying5
  obtain ⟨W1, hW1⟩ : ∃ W1, W1 = w.alloc (.cells #[.map none] 32) := ⟨_, rfl⟩
  have h1 : Has w w.heap.size [] W1 := by rw [hW1]; exact Has.new w
  have bp := build_pair
  have bk := build_key
  have hn := new_any w
  rw [← hW1] at hn
  go_enter Try.func9, Try.ntmps9
  go_wp2_with fail
  refine hn.mono ?_
  rintro e w1 ⟨rfl, he⟩
  obtain rfl := he.symm
  clear hn he
  obtain ⟨Z1, hZ1⟩ : ∃ Z1, Z1 = W1.alloc (.cells #[.int .u8 50, .int .u8 50] 5 (2, 3)) := ⟨_, rfl⟩
  have r1 : RowB Z1 (some ⟨W1.heap.size, 0, none⟩) [50, 50] := by rw [hZ1]; exact lit_two W1 50 50
  have g1 : Has w w.heap.size [] Z1 := h1.below (by rw [hZ1]; exact (Below.refl _ _).alloc (Nat.le_refl _) _)
  have k1 := g1.put (bt 98) _ _ 2 r1 (fun h => by cases h) (by simp)
  clear h1 hW1 g1 r1
  go_wp2_with fail
  rw [← hZ1]
  clear hZ1
  refine Calls.mono k1 ?_
  rintro e w2 ⟨rfl, h2⟩
  have h2 : Has w w.heap.size C1 w2 := h2
  obtain ⟨Z2, hZ2⟩ : ∃ Z2, Z2 = w2.alloc (.cells #[.int .u8 49] 5 (1, 2)) := ⟨_, rfl⟩
  have r2 : RowB Z2 (some ⟨w2.heap.size, 0, none⟩) [49] := by rw [hZ2]; exact lit_one w2 49
  have g2 : Has w w.heap.size C1 Z2 := h2.below (by rw [hZ2]; exact (Below.refl _ _).alloc (Nat.le_refl _) _)
  have k2 := g2.put (bt 97) _ _ 1 r2 (fun h => by cases h) (by simp [C1])
  clear h2 g2 r2 k1
  rw [show errA (bt 98) [50, 50] = 0 from rfl]
  go_wp2_with fail
  rw [← hZ2]
  clear hZ2
  refine Calls.mono k2 ?_
  rintro e w3 ⟨rfl, h3⟩
  have h3 : Has w w.heap.size C2 w3 := h3
  have k3 := h3.delete (bt 99) (by simp [C2])
  clear h3 k2
  rw [show errA (bt 97) [49] = 0 from rfl]
  go_wp2_with fail
  refine Calls.mono k3 ?_
  rintro e w4 ⟨rfl, h4⟩
  have h4 : Has w w.heap.size C3 w4 := h4
  have k4 := h4.put ⟨#[]⟩ none [] 0 (.inl rfl) (fun _ => ⟨rfl, rfl⟩) (by simp [C3])
  clear h4 k3
  rw [show errA (bt 99) [] = 0 from rfl]
  go_wp2_with fail
  refine Calls.mono k4 ?_
  rintro e w5 ⟨rfl, h5⟩
  have h5 : Has w w.heap.size C3 w5 := h5
  clear k4
  rw [show errA ⟨#[]⟩ [] = 140 from rfl]
  obtain ⟨Z5, hZ5⟩ : ∃ Z, Z = w5.alloc (.cells #[.int .u8 120] 5 (1, 2)) := ⟨_, rfl⟩
  have b5 : Below w5.heap.size w5 Z5 := by rw [hZ5]; exact (Below.refl _ _).alloc (Nat.le_refl _) _
  have r5 : RowB Z5 (some ⟨w5.heap.size, 0, none⟩) [120] := by rw [hZ5]; exact lit_one w5 120
  obtain ⟨Z6, hZ6⟩ : ∃ Z, Z = Z5.alloc (.cells #[.string (bt 97), .slice (some ⟨w5.heap.size, 0, none⟩) 1 1, .string bb, .slice none 0 0, .string (bt 99), .slice none 0 0] 60) := ⟨_, rfl⟩
  have b6 : Below Z5.heap.size Z5 Z6 := by rw [hZ6]; exact (Below.refl _ _).alloc (Nat.le_refl _) _
  have r6 : RowU Z6 (some ⟨Z5.heap.size, 0, none⟩) [⟨bt 97, some ⟨w5.heap.size, 0, none⟩, [120], 1⟩, ⟨bb, none, [], 0⟩, ⟨bt 99, none, [], 0⟩] := by
    rw [hZ6]; exact row_three Z5 ⟨bt 97, some ⟨w5.heap.size, 0, none⟩, [120], 1⟩ ⟨bb, none, [], 0⟩ ⟨bt 99, none, [], 0⟩
  have h6 : Has w w.heap.size C3 Z6 := (h5.below b5).below b6
  have k6 := h6.over ⟨#[]⟩ ⟨#[]⟩ (some ⟨Z5.heap.size, 0, none⟩) 3 (-1) r6 (by simp [C3]) (fun x hx => by
    simp only [List.mem_cons, List.not_mem_nil, or_false] at hx
    rcases hx with rfl | rfl | rfl
    · show 1 ≤ maxLen; unfold maxLen; omega
    · show 2 ≤ maxLen; unfold maxLen; omega
    · show 1 ≤ maxLen; unfold maxLen; omega)
  have hval : ∀ x ∈ ([⟨bt 97, some ⟨w5.heap.size, 0, none⟩, [120], 1⟩, ⟨bb, none, [], 0⟩, ⟨bt 99, none, [], 0⟩] : List Pn), RowB Z6 x.a x.z ∧ (x.a = none → x.z.length = 0 ∧ x.c = 0) := fun x hx => by
    simp only [List.mem_cons, List.not_mem_nil, or_false] at hx
    rcases hx with rfl | rfl | rfl
    · exact ⟨r5.below b6, fun e => by cases e⟩
    · exact ⟨.inl rfl, fun _ => ⟨rfl, rfl⟩⟩
    · exact ⟨.inl rfl, fun _ => ⟨rfl, rfl⟩⟩
  have hz5 : Z5.heap.size = w5.heap.size + 1 := by rw [hZ5]; simp
  rw [hz5] at k6
  have HV := hide_it hval
  have H6 := hide_it h6
  clear h5 b5 r5 b6 r6 h6 hval hz5
  go_wp2_with fail
  rw [← hZ5]
  simp only [bt, bb] at hZ6 k6
  rw [← hZ6]
  clear hZ5 hZ6
  refine Calls.mono k6 ?_
  rintro e w6 ⟨⟨a, n, c, xs, k, rfl, ho, hv, hcase⟩, hb6⟩
  have hsay : saysP xs = [([97], [49]), ([98], [50, 50]), ([98, 98], [])] := by
    rcases hcase with ⟨h, _⟩ | ⟨_, h, _⟩ | ⟨_, h, _⟩
    · cases h
    · exact h.trans aw_over
    · omega
  have hrd : RdP w6 (.slice a n c) xs := .own ho fun x hx => by
    rcases hv x hx with h | h
    · exact ⟨(HV.out x h).1.below hb6, (HV.out x h).2⟩
    · exact h.rowN
  have h7 := H6.out.below hb6
  have kl := h7.len_
  have HR := hide_it hrd
  have H7 := hide_it h7
  have HSAY := hide_it hsay
  clear hcase hv ho hrd h7 hsay k6
  go_wp2_with fail
  refine Calls.mono kl ?_
  rintro e w7 ⟨rfl, hw7⟩
  obtain rfl := hw7.symm
  have kb := H7.out.bytes
  clear kl hw7
  rw [show (C3.length : Int) = 3 from rfl]
  go_wp2_with fail
  refine Calls.mono kb ?_
  rintro e w8 ⟨rfl, hb8⟩
  clear kb
  rw [show (bytesA C3 : Int) = 6 from rfl]
  obtain ⟨Y1, hY1⟩ : ∃ Z, Z = w8.alloc (.cells #[.int .u8 49] 5 (1, 2)) := ⟨_, rfl⟩
  obtain ⟨Y2, hY2⟩ : ∃ Z, Z = Y1.alloc (.cells #[.int .u8 50, .int .u8 50] 5 (2, 3)) := ⟨_, rfl⟩
  obtain ⟨Y3, hY3⟩ : ∃ Z, Z = Y2.alloc (.cells #[.string (bt 97), .slice (some ⟨w8.heap.size, 0, none⟩) 1 1, .string (bt 98), .slice (some ⟨Y1.heap.size, 0, none⟩) 2 2, .string bb, .slice none 0 0] 60) := ⟨_, rfl⟩
  have c1 : Below w8.heap.size w8 Y1 := by rw [hY1]; exact (Below.refl _ _).alloc (Nat.le_refl _) _
  have c2 : Below Y1.heap.size Y1 Y2 := by rw [hY2]; exact (Below.refl _ _).alloc (Nat.le_refl _) _
  have c3 : Below Y2.heap.size Y2 Y3 := by rw [hY3]; exact (Below.refl _ _).alloc (Nat.le_refl _) _
  have q1 : RowB Y1 (some ⟨w8.heap.size, 0, none⟩) [49] := by rw [hY1]; exact lit_one w8 49
  have q2 : RowB Y2 (some ⟨Y1.heap.size, 0, none⟩) [50, 50] := by rw [hY2]; exact lit_two Y1 50 50
  have q3 : RowU Y3 (some ⟨Y2.heap.size, 0, none⟩) [⟨bt 97, some ⟨w8.heap.size, 0, none⟩, [49], 1⟩, ⟨bt 98, some ⟨Y1.heap.size, 0, none⟩, [50, 50], 2⟩, ⟨bb, none, [], 0⟩] := by
    rw [hY3]; exact row_three Y2 ⟨bt 97, some ⟨w8.heap.size, 0, none⟩, [49], 1⟩ ⟨bt 98, some ⟨Y1.heap.size, 0, none⟩, [50, 50], 2⟩ ⟨bb, none, [], 0⟩
  have q4 : RdP Y3 (.slice (some ⟨Y2.heap.size, 0, none⟩) 3 3) [⟨bt 97, some ⟨w8.heap.size, 0, none⟩, [49], 1⟩, ⟨bt 98, some ⟨Y1.heap.size, 0, none⟩, [50, 50], 2⟩, ⟨bb, none, [], 0⟩] :=
    ⟨⟨_, 3, rfl, q3⟩, fun x hx => by
      simp only [List.mem_cons, List.not_mem_nil, or_false] at hx
      rcases hx with rfl | rfl | rfl
      · exact ⟨(q1.below c2).below c3, fun e => by cases e⟩
      · exact ⟨q2.below c3, fun e => by cases e⟩
      · exact ⟨.inl rfl, fun _ => ⟨rfl, rfl⟩⟩⟩
  have c123 : Below w8.heap.size w8 Y3 := c1.trans ((c2.trans (c3.mono c2.size)).mono c1.size)
  have ks := samePairs_same ((HR.out.below hb8).below c123) q4 HSAY.out (by
    have := congrArg List.length HSAY.out
    unfold saysP at this
    rw [List.length_map] at this
    rw [this]; decide)
  have hy1 : Y1.heap.size = w8.heap.size + 1 := by rw [hY1]; simp
  have hy2 : Y2.heap.size = w8.heap.size + 1 + 1 := by rw [hY2]; simp [hy1]
  rw [hy2] at ks
  rw [hy1] at hY3
  have kc2 := kc Y1 #[.int .u8 50, .int .u8 50] 2 2
  rw [hy1, hY1] at kc2
  have HB := hide_it (H7.out.bel.trans ((hb8.trans (c123.mono hb8.size)).mono H7.out.bel.size))
  clear c1 c2 c3 q1 q2 q3 q4 c123 hb8 hy1 hy2
  go_wp2_with fail
  rw [← hY1, ← hY2]
  simp only [bt, bb] at hY3
  rw [← hY3]
  clear hY1 hY2 hY3
  refine Calls.mono ks ?_
  rintro e w9 ⟨rfl, hb9⟩
  clear ks
  go_wp2_with fail
  go_ret
  exact ⟨rfl, HB.out.trans (hb9.mono HB.out.size)⟩

end Go.Proofs.Ytbafjkanbbcbgaa
