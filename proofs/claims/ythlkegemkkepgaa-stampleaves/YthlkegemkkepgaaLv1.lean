/- Numbers that grow by eighty, what is marked, a list of pointers copied. -/
import Derived.Test.YthlkegemkkepgaaCk7
namespace Go.Proofs.Ythlkegemkkepgaa
open Go.RowKit

/-- Behind zs k times a mark. -/
def plusM (zs : List Int) (m : Int) (k : Nat) : List Int := zs ++ List.replicate k m
theorem plusM_len (zs : List Int) (m : Int) (k : Nat) : (plusM zs m k).length = zs.length + k := by simp [plusM]
theorem plusM_succ (zs : List Int) (m : Int) (k : Nat) : plusM zs m (k + 1) = plusM zs m k ++ [m] := by
  simp [plusM, List.replicate_succ']
theorem plusM_take (zs : List Int) (m : Int) (k : Nat) : (plusM zs m k).take zs.length = zs := by simp [plusM]
theorem plusM_left {zs : List Int} {m : Int} {k i : Nat} (h : i < zs.length) : atI (plusM zs m k) i = atI zs i := atI_append_left h
theorem plusM_right {zs : List Int} {m : Int} {k i : Nat} (h : zs.length ≤ i) (h2 : i < zs.length + k) : atI (plusM zs m k) i = m := by
  unfold plusM
  rw [atI_append_right h]
  unfold atI
  rw [List.getD_eq_getElem?_getD, List.getElem?_replicate_of_lt (by omega)]; rfl


set_option maxRecDepth 100000 in
set_option maxHeartbeats 1000000 in
theorem grown_any (v : Value) (zs : List Int) (m : Int) (base : Nat) (w : World) (h : OwI w base v zs) (hb : base ≤ w.heap.size) (hl : zs.length ≤ 17592186044416) :
    Calls Try.prog 19 #[v, .int .i64 m] w fun e w' => (∃ r, e = .returned r ∧ OwI w' base r (plusM zs m 80) ∧ (r.ownBlock = v.ownBlock ∨ ∀ j, r.ownBlock = some j → w.heap.size ≤ j)) ∧ Chg (fun j => v.ownBlock = some j) w w' := by
  obtain ⟨L, hL⟩ : ∃ L, L = zs.length := ⟨_, rfl⟩
  rw [← hL] at hl
  have HL := hide_it hL
  clear hL
  go_enter Try.func19, Try.ntmps19
  go_wp2_with fail
  go_loopw [0, 5] (fun u i wr => ∃ k : Nat, k ≤ 80 ∧ i = .int .i64 k ∧ OwI wr base u (plusM zs m k) ∧ (u.ownBlock = v.ownBlock ∨ ∀ j, u.ownBlock = some j → w.heap.size ≤ j) ∧ Chg (fun j => v.ownBlock = some j) w wr) (fun _ i _ => 80 - (intOf i).toNat)
  case atStart => exact ⟨0, by omega, rfl, by simpa [plusM] using h, .inl rfl, Chg.refl _ _⟩
  case round =>
    clear h
    obtain ⟨k, hk, rfl, ho, hat, hc⟩ := hrel
    by_cases hlt : k < 80
    · have hki : (k : Int) < 80 := by omega
      have hw1 : IntKind.i64.wrap ((k : Int) + 1) = (k : Int) + 1 := i64_in (by omega) (by omega)
      have hz := hc.size
      have hb9 : Below wr.heap.size wr (wr.alloc (.cells #[.int .i64 m] 3)) := (Below.refl _ _).alloc (Nat.le_refl _) _
      have ho1 := ho.below hb9
      have hr9 := row_one wr m
      have HC := hide_it (hc.alloc (.cells #[.int .i64 m] 3))
      have HAT := hide_it hat
      clear ho hc hat
      go_wp2_with (at_builtin; refine wpList_appendI _ rfl _ _ rfl base _ (plusM zs m k) rfl ho1 (some ⟨wr.heap.size, 0, none⟩) 1 [m] rfl hr9 (by simp) (by have := HL.out; simp [plusM_len]; omega) (by simp; omega) ?_; intro v1 w1 ho2 hg1 hat1)
      go_roundw
      case rel =>
        refine ⟨k + 1, by omega, by go_num, by rw [plusM_succ]; exact ho2, ?_, ?_⟩
        · rcases hat1 with e | e
          · rcases HAT.out with e2 | e2
            · exact .inl (e.trans e2)
            · exact .inr (fun j hj => e2 j (e ▸ hj))
          · exact .inr (fun j hj => by rw [e] at hj; cases hj; simp; omega)
        · refine HC.out.trans (Chg.of_grown (S := fun j => u0.ownBlock = some j) hg1 (fun j _ e => e)) (fun j hj e => ?_)
          rcases HAT.out with e2 | e2
          · exact e2.symm.trans e
          · have := e2 j e; omega
      case measure => simp [intOf]; omega
    · obtain rfl : k = 80 := by omega
      have HO := hide_it ho
      have HAT := hide_it hat
      have HC := hide_it hc
      clear ho hat hc
      go_wp2
      go_ret
      exact ⟨⟨_, rfl, HO.out, HAT.out⟩, HC.out⟩



set_option maxRecDepth 100000 in
set_option maxHeartbeats 1000000 in
theorem marked_any (a : Option Addr) (c n : Nat) (m e0 : Int) (zs : List Int) (w : World) (hr : RowI w a (plusM zs e0 80)) (hn : zs.length = n) (hz : ∀ i, i < n → atI zs i = m) (hl : n ≤ 17592186044416) :
    Calls Try.prog 25 #[.slice a (n + 80) c, .int .i64 n, .int .i64 m, .int .i64 e0] w fun e w' => e = .returned (.bool true) ∧ Below w.heap.size w w' := by
  have hlen : (plusM zs e0 80).length = n + 80 := by rw [plusM_len, hn]
  have hw0 : IntKind.i64.wrap ((n : Int) + 80) = (n : Int) + 80 := i64_in (by omega) (by omega)
  have HH := hide_it hlen
  have HN := hide_it hn
  clear hlen hn
  obtain ⟨N, hN⟩ : ∃ N, N = n + 80 := ⟨_, rfl⟩
  rw [← hN]
  have hN2 : (n : Int) + 80 = (N : Int) := by omega
  replace hw0 := hw0.trans hN2
  have HN3 := hide_it hN
  clear hN hN2
  have hee : ((N : Int) == (N : Int)) = true := by simp
  go_enter Try.func25, Try.ntmps25
  go_wp2_with fail
  go_loopw [17] (fun i wr => ∃ k : Nat, k ≤ N ∧ i = .int .i64 k ∧ wr = w) (fun i _ => N - (intOf i).toNat)
  case atStart => exact ⟨0, by omega, rfl, rfl⟩
  case round =>
    obtain ⟨k, hk, rfl, rfl⟩ := hrel
    by_cases hlt : k < N
    · have hki : (k : Int) < (N : Int) := by omega
      have hw1 : IntKind.i64.wrap ((k : Int) + 1) = (k : Int) + 1 := i64_in (by have := HN3.out; omega) (by have := HN3.out; omega)
      have hkl : k < (plusM zs e0 80).length := by have := HH.out; have := HN3.out; omega
      obtain ⟨b, o, rfl, _, hc⟩ := hr.here hkl
      have c0 := hc k hkl
      by_cases hkn : k < n
      · have hkn2 : (k : Int) < (n : Int) := by omega
        rw [plusM_left (by have := HN.out; omega), hz k hkn] at c0
        have hmm : (m == m) = true := by simp
        have hge : ¬ (n : Int) ≤ (k : Int) := by omega
        clear hz hc hr hkl
        go_wp2
        go_roundw
        case rel => exact ⟨k + 1, by omega, by go_num, trivial⟩
        case measure => simp [intOf]; omega
      · have hkn2 : ¬ (k : Int) < (n : Int) := by omega
        rw [plusM_right (by have := HN.out; omega) (by have := HN.out; have := HN3.out; omega)] at c0
        have hmm : (e0 == e0) = true := by simp
        have hge : (n : Int) ≤ (k : Int) := by omega
        clear hz hc hr hkl
        go_wp2
        go_roundw
        case rel => exact ⟨k + 1, by omega, by go_num, trivial⟩
        case measure => simp [intOf]; omega
    · clear hz hr
      go_wp2
      go_ret
      exact ⟨rfl, Below.refl _ _⟩


/-- Pointers to be laid behind others. -/
theorem srcPs {w : World} {base : Nat} {v : Value} {n : Nat} {C : Nat → Ck} {P : Nat → Nat} (h : OwnS w base 24 1 v n (celP C P n)) : Src Try.prog 1 46 v n (celP C P n) w := by
  obtain ⟨a, cap, rfl, hn, hm, h0, hc⟩ := h.open
  cases a with
  | none =>
    obtain ⟨h1, h2⟩ := h0 rfl
    subst h1
    exact Src.ofNil w Try.underlying46 cap
  | some ad =>
    obtain ⟨h1, h2, _, h4⟩ := hc ad rfl
    refine Src.ofSlice w Try.underlying46 ad n cap _ (by simp [celP]) (fun j u hu => ?_) (fun u hu => ?_)
    · have hj : j < (celP C P n).length := (List.getElem?_eq_some_iff.1 hu).1
      obtain ⟨ab, ao, sp⟩ := ad
      simp only at h1
      subst h1
      rw [Addr.add_lit, h4 j hj]; exact hu
    · obtain ⟨i, _, rfl⟩ := List.mem_map.1 hu
      exact ptrK_one _ _

/-- What lies in blocks of two spans is as it was. -/
structure Zn (W : World) (b1 b5 b7 b9 : Nat) (w : World) : Prop where
  size : W.heap.size ≤ w.heap.size
  blk : ∀ j, (b1 ≤ j ∧ j < b5) ∨ (b7 ≤ j ∧ j < b9) → w.heap[j]? = W.heap[j]?
section
variable {W w w' : World} {b1 b5 b7 b9 : Nat}
theorem Zn.below (h : Zn W b1 b5 b7 b9 w) (hb : Below w.heap.size w w') (h5 : b5 ≤ W.heap.size) (h9 : b9 ≤ W.heap.size) : Zn W b1 b5 b7 b9 w' :=
  ⟨Nat.le_trans h.size hb.size, fun j hj => (hb.block j (by have := h.size; omega)).trans (h.blk j hj)⟩
theorem Zn.chg {S : Nat → Prop} (h : Zn W b1 b5 b7 b9 w) (hc : Chg S w w') (hs : ∀ j, S j → b5 ≤ j ∧ j < b7) (h5 : b5 ≤ b7) (h7 : b7 ≤ W.heap.size) (h9 : b9 ≤ W.heap.size) : Zn W b1 b5 b7 b9 w' :=
  ⟨Nat.le_trans h.size hc.size, fun j hj => (hc.block j (by have := h.size; omega) (fun s => by have := hs j s; omega)).trans (h.blk j hj)⟩

theorem Zn.old {W5 : World} (h : Zn W b1 W5.heap.size b7 b9 w) (hb : Below W5.heap.size W5 W) {j : Nat} (h1 : b1 ≤ j) (h2 : j < W5.heap.size) : w.heap[j]? = W5.heap[j]? := (h.blk j (.inl ⟨h1, h2⟩)).trans (hb.block j h2)
end

/-- The row of pointers of a list of one's own. -/
theorem rowP_own {w : World} {base : Nat} {v : Value} {n : Nat} {C : Nat → Ck} {P : Nat → Nat} (h : OwnS w base 24 1 v n (celP C P n)) : ∃ a c, v = .slice a n c ∧ RowPt w a n C P ∧ n ≤ c := by
  obtain ⟨a, c, hv, hn, _, h0, hc⟩ := h.open
  refine ⟨a, c, hv, ?_, hn⟩
  cases a with
  | none => exact .inl (h0 rfl).1
  | some b =>
    obtain ⟨h1, h2, _, h4⟩ := hc b rfl
    refine .inr ⟨b.block, b.off, by cases b; simp_all, h2, fun i hi => ?_⟩
    rw [h4 i (by simp [celP]; exact hi)]
    exact celP_at C P hi

/-- The first k are the mark, the others as they were. -/
def fillM (xs : List Int) (m : Int) (k : Nat) : List Int := List.replicate k m ++ xs.drop k
theorem fillM_zero (xs : List Int) (m : Int) : fillM xs m 0 = xs := by simp [fillM]
theorem fillM_len {xs : List Int} {m : Int} {k : Nat} (h : k ≤ xs.length) : (fillM xs m k).length = xs.length := by simp [fillM]; omega
theorem fillM_all {xs : List Int} {m : Int} : fillM xs m xs.length = List.replicate xs.length m := by simp [fillM]
theorem fillM_succ {xs : List Int} {m : Int} {k : Nat} (h : k < xs.length) : (fillM xs m k).set k m = fillM xs m (k + 1) := by
  unfold fillM
  rw [List.set_append, if_neg (by simp), List.length_replicate, Nat.sub_self, List.drop_eq_getElem_cons h, List.set_cons_zero, List.replicate_succ', List.append_assoc]
  rfl
theorem fill_step {w : World} {base g o n cap k : Nat} {xs : List Int} {m : Int} (h : OwI w base (.slice (some ⟨g, o, none⟩) n cap) (fillM xs m k)) (hn : xs.length = n) (hk : k < n) :
    OwI (w.setCell ⟨g, o + k, none⟩ (.int .i64 m)) base (.slice (some ⟨g, o, none⟩) n cap) (fillM xs m (k + 1)) := by
  have hl : (fillM xs m k).length = n := by rw [fillM_len (by omega), hn]
  rw [← fillM_succ (by omega)]
  have h2 : OwI w base (.slice (some ⟨g, o, none⟩) (fillM xs m k).length cap) (fillM xs m k) := by rw [hl]; exact h
  have h3 := h2.set (i := k) (by omega) m
  rw [hl] at h3
  exact h3
theorem atI_rep {n i : Nat} {m : Int} (h : i < n) : atI (List.replicate n m) i = m := by
  unfold atI; rw [List.getD_eq_getElem?_getD, List.getElem?_replicate_of_lt h]; rfl
theorem under_long {xs : List Int} {m : Int} : underB xs (plusM xs m 80) = false := underB_no fun h => by
  have := h.1; rw [plusM_len] at this; omega
theorem OwI.len {w : World} {base n cap : Nat} {a : Option Addr} {zs : List Int} (h : OwI w base (.slice a n cap) zs) : zs.length = n := by
  obtain ⟨a', c', e, _⟩ := h.row
  cases e; rfl
/-- The row of one whose length has a name, and of its beginning. -/
theorem OwI.rowN {w : World} {base n cap : Nat} {a : Option Addr} {zs : List Int} (h : OwI w base (.slice a n cap) zs) : RowI w a zs ∧ n ≤ cap ∧ (a = none → zs.length = 0 ∧ cap = 0) := by
  obtain ⟨a', c', e, h1, h2, _, h3⟩ := h.row
  cases e; exact ⟨h1, h2, h3⟩
theorem RowI.beg {w : World} {a : Option Addr} {xs : List Int} {m : Int} {k : Nat} (h : RowI w a (plusM xs m k)) : RowI w a xs := by
  rcases h with h | ⟨b, o, e, l, hc⟩
  · rw [plusM_len] at h; exact .inl (by omega)
  · exact .inr ⟨b, o, e, l, fun i hi => by rw [hc i (by rw [plusM_len]; omega), plusM_left hi]⟩

end Go.Proofs.Ythlkegemkkepgaa
