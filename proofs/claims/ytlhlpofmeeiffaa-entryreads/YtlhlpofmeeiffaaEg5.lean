/- The law's copy of an entry. -/
import Derived.Test.YtlhlpofmeeiffaaEg4
namespace Go.Proofs.Ytlhlpofmeeiffaa
open Go.RowKit

set_option maxRecDepth 100000 in
set_option maxHeartbeats 1000000 in
theorem clone10_any (x : En) (a : Option Addr) (c : Nat) (w : World) (hr : RowB w a x.val) (hl : x.val.length ≤ 140737488355328) (hnil : a = none → x.val.length = 0 ∧ c = 0) :
    Calls Try.prog 11 #[valE x a c] w fun e w' => EnTo w x e w' := by
  obtain ⟨W0, hW0⟩ : ∃ W, W = (w.alloc (.cells #[.int .i64 x.kind, .int .i64 x.stamp, .int .i64 x.count, .string x.key, .slice a x.val.length c, .bool x.dead] 25)).alloc (.cells #[.int .i64 0, .int .i64 0, .int .i64 0, .string ⟨#[]⟩, .slice none 0 0, .bool false] 25) := ⟨_, rfl⟩
  have hb0 : Below w.heap.size w W0 := by rw [hW0]; exact ((Below.refl _ _).alloc (Nat.le_refl _) _).alloc (by simp) _
  have hs0 : W0.heap.size = w.heap.size + 2 := by rw [hW0]; simp
  have hbx : BoxN W0 w.heap.size x a c := by rw [hW0]; exact (Below.heap_alloc _ _ _ (by simp)).trans (heap_alloc_new w _)
  have hrs : BoxN W0 (w.heap.size + 1) zeroEn none 0 := by
    rw [hW0]
    have e := heap_alloc_new (w.alloc (.cells #[.int .i64 x.kind, .int .i64 x.stamp, .int .i64 x.count, .string x.key, .slice a x.val.length c, .bool x.dead] 25)) (.cells #[.int .i64 0, .int .i64 0, .int .i64 0, .string ⟨#[]⟩, .slice none 0 0, .bool false] 25)
    rw [World.size_alloc] at e
    exact e
  have hr0 := hr.below hb0
  have hf : Hid (∀ (vc : Value) (w0 : World), OwnB w0 (w.heap.size + 2) vc ([] ++ x.val) → W0.grownBy w0 none → ∃ av cv, vc = .slice av x.val.length cv ∧ BoxN w0 w.heap.size x a c ∧
      BoxN (w0.setCell ⟨w.heap.size, 4, none⟩ (.slice av x.val.length cv)) w.heap.size x av cv ∧ BoxN (w0.setCell ⟨w.heap.size, 4, none⟩ (.slice av x.val.length cv)) (w.heap.size + 1) zeroEn none 0 ∧
      EnTo w x (.returned (.agg #[.int .i64 x.kind, .int .i64 x.stamp, .int .i64 x.count, .string x.key, .slice av x.val.length cv, .bool x.dead])) (fillE (w0.setCell ⟨w.heap.size, 4, none⟩ (.slice av x.val.length cv)) (w.heap.size + 1) x av cv)) := fun vc w0 ho hg => by
    rw [List.nil_append] at ho
    obtain ⟨av, cv, rfl, _⟩ := ho.row
    have hb : Below W0.heap.size W0 w0 := ⟨hg.os, hg.tape, hg.output, hg.size, fun k hk => hg.block k hk (by simp)⟩
    have h1 := hbx.under hb (by omega)
    have h2 := hrs.under hb (by omega)
    refine ⟨av, cv, rfl, h1, ?_, h2.far (by omega) _ _, ⟨av, cv, rfl, ((ho.set_old (by omega) _ _).fill (by omega) _ _ _).mono (by omega)⟩, fill_below ((hb0.trans (hb.mono (by omega))).setCell (Nat.le_refl _) _) (by omega) _ _ _⟩
    unfold BoxN
    rw [heap_setCell_same w0 w.heap.size 4 _ _ _ h1]; rfl
  clear hr hb0 hbx hrs
  obtain ⟨Q, hQ⟩ : ∃ Q, Q = EnTo w x := ⟨_, rfl⟩
  rw [← hQ] at hf ⊢
  clear hQ
  obtain ⟨kind, stamp, count, key, val, dead⟩ := x
  simp only at hr0 hl hnil hf hW0
  rw [hW0] at hr0 hf
  clear hW0 hs0
  go_enter Try.func11, Try.ntmps11
  go_wp2_with (at_builtin; refine wpList_append_row _ rfl _ _ rfl (w.heap.size + 2) _ [] rfl (World.ownsRow_nil _ _ _ _) a c val rfl hr0 hnil (by simp; omega) (by simp) ?_; intro vc w0 hown0 hg0 hat0; obtain ⟨av, cv, rfl, h1, h2, h3, h4⟩ := hf.out _ _ hown0 hg0; clear hown0 hg0 hat0 hf hr0 hl hnil; have c4' := h1.inE.c4; have hz' := h1.soft 4; obtain ⟨c0, c1, c2, c3, c4, c5⟩ := h2.inE; have hz := h2.soft; obtain ⟨d0, d1, d2, d3, d4, d5⟩ := h3.inE; have hy := h3.soft; simp only at c4' c0 c1 c2 c3 c4 c5)
  refine bodyPost_ret (v := .agg #[.int .i64 kind, .int .i64 stamp, .int .i64 count, .string key, .slice av val.length cv, .bool dead]) ?_ rfl h4
  simp [results, Try.results11, go_sem, d0, d1, d2, d3, d4, d5]
end Go.Proofs.Ytlhlpofmeeiffaa
