/- What All of a queue of texts goes through, gathered. -/
import Derived.Test.YtomfhbngpikjeaaQu7S
import Derived.Test.YtomfhbngpikjeaaQuRowS
import Derived.Maps.OwnIn
namespace Go.Proofs.Ytomfhbngpikjeaa
open Go.RowKit Go.Shelf

attribute [local go_sem] Oper.semAt_some

/-- A queue that is there, or one that is not (it holds nothing). -/
def QpS (w : World) (q : Option Addr) (g most : Nat) (xs : List ByteArray) : Prop := (q = none ∧ xs = []) ∨ ∃ b, q = some ⟨b, 0, none⟩ ∧ QuS w b g most xs
theorem QpS.below {w w' : World} {q : Option Addr} {g most : Nat} {xs : List ByteArray} (h : QpS w q g most xs) (hb : Below w.heap.size w w') : QpS w' q g most xs := by
  rcases h with h | ⟨b, e, h⟩
  · exact .inl h
  · exact .inr ⟨b, e, h.below hb⟩
theorem QpS.len {w : World} {q : Option Addr} {g most : Nat} {xs : List ByteArray} (h : QpS w q g most xs) : xs.length ≤ 65536 := by
  rcases h with ⟨_, rfl⟩ | ⟨b, e, h⟩
  · simp
  · have := h.len; omega

/-- What All answers stops, and what it goes through. -/
theorem allS_stops (n Bq g most : Nat) (q : Option Addr) (p : Addr) (xs : List ByteArray) (w : World) (h : QpS w q g most xs) (hn : 1 ≤ n) (hBq : w.cell? ⟨Bq, 0, none⟩ = some (.pointer q)) (hBl : Bq < w.heap.size)
    (hp : p.block < w.heap.size) (hpo : ∀ k, ownAt w p = some k → k < w.heap.size) :
    SeqStopsK Fence.wide n Try.prog 33 #[.pointer (some ⟨Bq, 0, none⟩)] (fun x : Nat × ByteArray => #[.int .i64 (x.1 : Int), .string x.2]) (KeepS w.heap.size p) (fun ys => ys = upTo (numS xs) xs.length) (fun pre => ∃ k, k ≤ xs.length ∧ pre = upTo (numS xs) k) xs.length w := fun l J Jx W hW hJ hJx hY h0 => by
  have hc := (hW.cell (p := ⟨Bq, 0, none⟩) hBl).trans hBq
  have hs := hW.size
  have ho : ownAt W p = ownAt w p := ownAt_block (hW.block _ hp)
  by_cases hx : xs = []
  · subst hx
    have hle : Calls Try.prog 14 #[.pointer q] W fun e w'' => e = .returned (.int .i64 0) ∧ w'' = W := by
      rcases h with ⟨rfl, _⟩ | ⟨b, rfl, h⟩
      · exact lenS_none W
      · exact lenS_any b g most [] W (h.below hW)
    exact (walkS_nil n l Bq q W hle hn hc).mono fun e W' ⟨he, hj⟩ => ⟨he, .inl ⟨_, rfl, by rw [hj]; exact h0⟩⟩
  · rcases h with ⟨_, e⟩ | ⟨b, rfl, h⟩
    · exact absurd e hx
    · exact walkS_some n l Bq b g most w.heap.size p xs W (h.below hW) hx hn hc (by omega) hs (by omega) (fun k hk => by rw [ho] at hk; have := hpo k hk; omega) J Jx hJ hY h0

/-- A round was left because its number was wrong. -/
def WrongS (pre : List (Nat × ByteArray)) : Prop := ∃ pre' x, pre = pre' ++ [x] ∧ x.1 ≠ pre'.length
theorem numS_all (xs : List ByteArray) : (upTo (numS xs) xs.length).map Prod.snd = xs := by
  apply List.ext_getElem
  · simp [upTo]
  · intro i h1 h2
    have : i < xs.length := by simpa using h2
    simp [upTo, numS, this]

set_option maxRecDepth 100000 in
set_option maxHeartbeats 2000000 in
theorem walkedS_any (q : Option Addr) (g most : Nat) (xs : List ByteArray) (w : World) (h : QpS w q g most xs) :
    Calls Try.prog 16 #[.pointer q] w fun e w' => ∃ v, e = .returned (.tuple #[v, .bool true]) ∧ OwS w' w.heap.size v xs ∧ Below w.heap.size w w' := by
  have hlen := h.len
  obtain ⟨i0, hi, hz0, hz1, hz2⟩ := info_parts infoQS
  have hfn : ∀ (fn : Fn) (a b : Array Value) (w : World), (binOp .eql 53 (.func fn a b) .nilFunc).run Try.prog w = .ok (.bool false) w := fun _ _ _ _ => rfl
  refine (callsIn_wide (n := 3)).1 ?_
  refine callsIn_of_wp_marks Try.func16 rfl trivial ?_ rfl
  simp only [Try.ntmps16, List.size_toArray, List.length_cons, List.length_nil, Nat.reduceAdd, Nat.reduceSub, Array.replicate_succ, Array.replicate_zero, List.push_toArray, List.append_toArray, List.nil_append, List.cons_append]
  gi_wp2_with (refine ⟨trivial, ?_⟩; gi_at_call 18; refine (callsIn_wide.2 (allS_any q _)).mono ?_; rintro e w' ⟨rfl, rfl⟩)
  obtain ⟨W0, hW0⟩ : ∃ W0, W0 = (((w.alloc (.cells #[.slice none 0 0] 22)).alloc (.cells #[.bool false] 4)).alloc (.cells #[.slice none 0 0] 22)).alloc (.cells #[.pointer q] 27) := ⟨_, rfl⟩
  have hz : W0.heap.size = w.heap.size + 1 + 1 + 1 + 1 := by rw [hW0]; simp
  have hB0 : Below w.heap.size w W0 := by rw [hW0]; exact ((((Below.refl _ w).alloc (Nat.le_refl _) _).alloc (by simp) _).alloc (by simp; omega) _).alloc (by simp; omega) _
  have b0 : Boxed W0 w.heap.size 22 (.slice none 0 0) := by rw [hW0]; exact (((Boxed.new w _ _).alloc _).alloc _).alloc _
  have b1 : Boxed W0 (w.heap.size + 1) 4 (.bool false) := by
    have := ((Boxed.new (w.alloc (.cells #[.slice none 0 0] 22)) 4 (.bool false)).alloc (.cells #[.slice none 0 0] 22)).alloc (.cells #[.pointer q] 27)
    rw [hW0]; simpa using this
  have b2 : Boxed W0 (w.heap.size + 1 + 1) 22 (.slice none 0 0) := by
    have := (Boxed.new ((w.alloc (.cells #[.slice none 0 0] 22)).alloc (.cells #[.bool false] 4)) 22 (.slice none 0 0)).alloc (.cells #[.pointer q] 27)
    rw [hW0]; simpa using this
  have b3 : Boxed W0 (w.heap.size + 1 + 1 + 1) 27 (.pointer q) := by
    have := Boxed.new (((w.alloc (.cells #[.slice none 0 0] 22)).alloc (.cells #[.bool false] 4)).alloc (.cells #[.slice none 0 0] 22)) 27 (.pointer q)
    rw [hW0]; simpa using this
  have hq0 : QpS W0 q g most xs := h.below hB0
  have hs0 : w.heap.size ≤ W0.heap.size := by omega
  rw [← hW0]
  have HW0 := hide_it hW0
  clear hW0 hfn
  refine wpIn_rangeFunc_ownG (F := Fence.wide) rfl (by omega) (gf := 33) (lb := #[.pointer (some ⟨w.heap.size + 1 + 1 + 1, 0, none⟩)]) rfl trivial (enters_of Try.func33 (by kernel_rfl) rfl)
    (allS_stops _ (w.heap.size + 1 + 1 + 1) g most q ⟨w.heap.size + 1 + 1, 0, none⟩ xs W0 hq0 (by omega) b3.cell (by omega) (by simp; omega) (fun k hk => by simp [ownAt, b2.cell, Value.ownBlock] at hk)) keepS_t (keepS_b (by simp; omega)) (Below.refl _ _) (fun _ => rfl)
    (fun pre W => (∃ v, Boxed W (w.heap.size + 1 + 1) 22 v ∧ OwS W w.heap.size v (pre.map Prod.snd) ∧ True) ∧ (Boxed W w.heap.size 22 (.slice none 0 0) ∧ Boxed W (w.heap.size + 1) 4 (.bool false)) ∧ Below w.heap.size w W)
    (fun c pre _ => c = .ret ∧ WrongS pre)
    (OwnFrom.and (Own.from (holdsRow_own w.heap.size (w.heap.size + 1 + 1) 22 9 1 (fun pre : List (Nat × ByteArray) => (pre.map Prod.snd).length) (fun pre => (pre.map Prod.snd).map encS) (fun _ _ => True)) _)
      (OwnFrom.and (OwnFrom.and (Own.from (boxed_own _ _ _) _) (Own.from (boxed_own _ _ _) _)) (ownFrom_below (Nat.le_refl _) hs0)))
    (fun _ _ _ _ _ hs _ _ => hs)
    ⟨⟨_, b2, World.ownsRow_nil _ _ _ _, trivial⟩, ⟨b0, b1⟩, hB0⟩
    (fun x => { tmps := #[.pointer q, undef, .pointer (some ⟨w.heap.size, 0, none⟩), .pointer (some ⟨w.heap.size + 1, 0, none⟩), .pointer (some ⟨w.heap.size + 1 + 1, 0, none⟩), .func (.func 33) #[] #[.pointer (some ⟨w.heap.size + 1 + 1 + 1, 0, none⟩)], .int .i64 (x.1 : Int), .string x.2, .pointer q, .func (.func 33) #[] #[.pointer (some ⟨w.heap.size + 1 + 1 + 1, 0, none⟩)], .func (.func 33) #[] #[.pointer (some ⟨w.heap.size + 1 + 1 + 1, 0, none⟩)], .bool false, .func (.func 33) #[] #[.pointer (some ⟨w.heap.size + 1 + 1 + 1, 0, none⟩)], .int .i64 (x.1 : Int), .string x.2, undef, undef, undef, undef, undef, undef, undef, undef, undef], defers := [] }) ?assign ?body ?done ?stop
  case assign =>
    intro l x W K hK
    gi_wp2
    exact hK
  case body =>
    rintro l pre x W ⟨⟨v, hv, hrow, _⟩, ⟨hb0, hb1⟩, hB⟩ hlt
    have hc := hv.cell
    have hsB := hB.size
    obtain ⟨a, cap, rfl, _, _, _⟩ := hrow.row
    have hla : (pre.map Prod.snd).length = pre.length := by simp
    have hr2 : W.ownsRow w.heap.size 9 1 (.slice a pre.length cap) pre.length ((pre.map Prod.snd).map encS) := by rw [← hla]; exact hrow
    rw [hla] at hc hv hrow
    obtain ⟨y, z⟩ := x
    simp only
    by_cases hx : y = pre.length
    · have HX := hide_it hx
      subst hx
      have HV := hide_it hv
      have HB0 := hide_it hb0
      have HB1 := hide_it hb1
      have HR := hide_it hr2
      have HBB := hide_it hB
      have hpl : pre.length < 65536 := by omega
      clear hrow hv hb0 hb1 hr2 hB hla
      gi_wp2_with (gi_at_builtin; refine wpListIn_append_own_at _ rfl _ _ 22 rfl w.heap.size 9 i0 (.string .empty) 1 16 Try.underlying22 hi hz0 hz1 hz2 rfl (by decide) _ _ _ rfl (HR.out.alloc _) ⟨W.heap.size, 0, none⟩ 1 1 [.string z] rfl rfl (cell_one_new _ _ _) (by simp [Value.oneCell']) (by unfold maxLen; omega) (by omega) (by simp; omega) ?_; intro v' w1 hown' hgrow _ hat; obtain ⟨g', cap', rfl⟩ := ownsRow_succ hown'; obtain ⟨hv1, hv2, hr3, hk2, hb2⟩ := HV.out.appended (by decide) HR.out (by omega) (by omega) hown' hgrow; have hc1 := hv1.cell; have hf1 := hv1.frozen; have HA := hide_it hat; have HG := hide_it hgrow; have HO := hide_it hown'; have HV1 := hide_it hv1; have HV2 := hide_it hv2; have HR3 := hide_it hr3; have HK2 := hide_it hk2; have HB2 := hide_it hb2; clear hat hgrow hown' hv1 hv2 hr3 hk2 hb2)
      refine ⟨HK2.out.from _, keepS_appended (by omega) HV.out HV2.out HG.out HA.out, ⟨_, HV2.out, ?_⟩, ⟨?_, ?_⟩, HBB.out.trans HB2.out⟩
      · have := HR3.out
        unfold OwS
        simpa [encS] using this
      · exact box_appended HB0.out (by decide) (by omega) HR.out HG.out
      · exact box_appended HB1.out (by decide) (by omega) HR.out HG.out
    · have hy : ¬ (y : Int) = (pre.length : Int) := by omega
      have f0 := hb0.frozen
      have c0 := hb0.cell
      have f1 := hb1.frozen
      have c1 := hb1.cell
      clear hb0 hb1 hrow hv hr2
      gi_wp2
      exact ⟨((KeepsOthers.setCell _ _ _).trans (KeepsOthers.setCell _ _ _)).from _, rfl, _, _, rfl, hx⟩
  case done =>
    rintro D ys W hD rfl ⟨⟨v, hv, hrow, _⟩, ⟨hb0, hb1⟩, hB⟩ hK
    rw [numS_all] at hrow
    obtain ⟨a, cap, rfl, _, _, _⟩ := hrow.row
    have c2 := hv.cell
    have f0 := hb0.frozen
    have c0 := hb0.cell
    have f1 := hb1.frozen
    have c1 := hb1.cell
    have HR := hide_it hrow
    have HBB := hide_it hB
    have HV0 := hide_it hb0
    have HV1 := hide_it hb1
    have HVV := hide_it hv
    clear hrow hB hb0 hb1 hv
    gi_wp2
    have hK2 := ((KeepsOthers.setCell W ⟨w.heap.size, 0, none⟩ (.slice a xs.length cap)).trans (KeepsOthers.setCell _ ⟨w.heap.size + 1, 0, none⟩ (.bool true))).same D _ hK rfl
    refine ⟨by simp, .inl ⟨_, _, rfl, run_takeDeferred hK2, ?_⟩⟩
    have x0 : Boxed (((W.setCell ⟨w.heap.size, 0, none⟩ (.slice a xs.length cap)).setCell ⟨w.heap.size + 1, 0, none⟩ (.bool true)).putObj D (.deferred none)) w.heap.size 22 (.slice a xs.length cap) :=
      ((HV0.out.set _).kept (grownBy_setCell' _ _ _) (by simp)).kept (grownBy_putObj' _ D _) (by simp; omega)
    have x1 : Boxed (((W.setCell ⟨w.heap.size, 0, none⟩ (.slice a xs.length cap)).setCell ⟨w.heap.size + 1, 0, none⟩ (.bool true)).putObj D (.deferred none)) (w.heap.size + 1) 4 (.bool true) :=
      ((HV1.out.kept (grownBy_setCell' _ _ _) (by simp)).set _).kept (grownBy_putObj' _ D _) (by simp; omega)
    have y0 := x0.cell
    have y1 := x1.cell
    refine ⟨.tuple #[.slice a xs.length cap, .bool true], by simp [results, Try.results16, go_sem, y0, y1], _, rfl, ?_, ?_⟩
    · refine HR.out.heap fun j hj => ?_
      have h0 := HV0.out.not_row (by decide) HR.out
      have h1 := HV1.out.not_row (by decide) HR.out
      have hd : D ≠ j := fun e => by
        subst e
        rcases HR.out.2 with ⟨e2, _⟩ | ⟨g2, cap2, cur, e2, _, hgb, _⟩
        · rw [e2] at hj; cases hj
        · rw [e2] at hj; cases hj; rw [hgb] at hK; cases hK
      rw [hj] at h0 h1
      rw [World.putObj_heap_other (fun e => hd e.symm), Below.heap_setCell _ _ _ _ (by simp; exact fun e => h1 (by rw [e])), Below.heap_setCell _ _ _ _ (by simp; exact fun e => h0 (by rw [e]))]
    · exact ((HBB.out.setCell (p := ⟨w.heap.size, 0, none⟩) (Nat.le_refl _) _).setCell (p := ⟨w.heap.size + 1, 0, none⟩) (by simp) _).trans (belowK_b (w := w) (Nat.le_refl _) _ D _ _ (by omega) hK2 rfl rfl)
  case stop =>
    rintro D c pre W _ ⟨k, hk, rfl⟩ ⟨rfl, pre', x, he, hne⟩ _
    exfalso
    cases k with
    | zero => simp [upTo] at he
    | succ k =>
      rw [upTo_succ] at he
      obtain ⟨e1, e2⟩ := List.append_inj' he rfl
      have e3 : numS xs k = x := by simpa using e2
      apply hne
      rw [← e3, ← e1, upTo_length]
      rfl

end Go.Proofs.Ytomfhbngpikjeaa
