/- Rows of a call's own, of whatever size: how they keep; Close of the program and of the document with what they own; lists that are written over. -/
import Derived.Test.YthclmkmajlinhabCL1
import Derived.Test.YthclmkmajlinhabKp2
import Derived.Test.YthclmkmajlinhabCv2
namespace Go.Proofs.Ythclmkmajlinhab
open Go.RowKit

theorem owns_keep {w w' : World} {B T s n : Nat} {v : Value} {xs : List Value} (h : w.ownsRow B T s v n xs) (hk : ∀ j, v.ownBlock = some j → w'.heap[j]? = w.heap[j]?) : w'.ownsRow B T s v n xs := by
  refine ⟨h.1, ?_⟩
  rcases h.2 with h2 | ⟨g, cap, cur, e, h3, hh, h4⟩
  · exact .inl h2
  · exact .inr ⟨g, cap, cur, e, h3, by rw [hk g (by rw [e]; rfl)]; exact hh, h4⟩
theorem owns_inside {w : World} {B T s n j : Nat} {v : Value} {xs : List Value} (h : w.ownsRow B T s v n xs) (hj : v.ownBlock = some j) : B ≤ j ∧ j < w.heap.size := by
  rcases h.2 with ⟨h2, _⟩ | ⟨g, cap, cur, e, h3, hh, _⟩
  · rw [h2] at hj; cases hj
  · rw [e] at hj; cases hj; exact ⟨h3, (Array.getElem?_eq_some_iff.1 hh).1⟩
theorem owns_below {w w' : World} {B T s n : Nat} {v : Value} {xs : List Value} (h : w.ownsRow B T s v n xs) (hb : Below w.heap.size w w') : w'.ownsRow B T s v n xs := owns_keep h fun _ hj => hb.block _ (owns_inside h hj).2
theorem owns_putS {w : World} {base e s g n c : Nat} {xs : List Value} (h : w.ownsRow base e s (.slice (some ⟨g, 0, none⟩) n c) n xs) (i : Nat) (u : Value) : (w.setCell ⟨g, i, none⟩ u).ownsRow base e s (.slice (some ⟨g, 0, none⟩) n c) n (xs.set i u) := by
  refine ⟨by rw [List.length_set]; exact h.1, ?_⟩
  rcases h.2 with ⟨h2, _⟩ | ⟨g', cap', cur, e', h3, hh, h4, h5, h6, h7⟩
  · cases h2
  · cases e'
    refine .inr ⟨g, c, _, rfl, h3, heap_setCell_same w g i _ _ _ hh, h4, h5, by simpa using h6, ?_⟩
    rw [Array.toList_setIfInBounds, List.take_set, h7]
theorem owns_blkS {w : World} {base e s n c : Nat} {a : Option Addr} {xs : List Value} (h : w.ownsRow base e s (.slice a n c) n xs) (h0 : 0 < n) : ∃ g cur, a = some ⟨g, 0, none⟩ ∧ base ≤ g ∧ w.heap[g]? = some (.cells cur e (0, 0)) ∧ n * s ≤ cur.size := by
  rcases h.2 with ⟨_, h2⟩ | ⟨g', cap', cur, e', h3, hh, h4, h5, h6, h7⟩
  · omega
  · cases e'
    exact ⟨g', cur, rfl, h3, hh, by rw [h6]; exact Nat.mul_le_mul_right s h4⟩
theorem close_own (N : Nat) (hN : SortsL N) (h16 : 16 ≤ N) (a : Option Addr) (cap : Nat) (zs : List Nat) (w : World) (hr : Row w a zs) (h64 : All64 zs) (hl : zs.length ≤ maxLen) :
    Calls Try.prog 9 #[.slice a zs.length cap] w fun e w' => (∃ ga gc G n, e = .returned (.tuple #[.slice ga (List.length G) gc, .int .i64 ((n : Nat) : Int)]) ∧ Res zs G n ∧ OwnLb w' w.heap.size (.slice ga G.length gc) G) ∧ Below w.heap.size w w' := by
  refine (close_any N hN a cap zs w hr h64 hl (fun S _ hs _ => by omega)).mono fun e w' ⟨hb, hor⟩ => ⟨?_, hb⟩
  rcases hor with ⟨rfl, h1⟩ | ⟨v, C, rfl, h1, h2, h3⟩
  · exact ⟨none, 0, [], 10, rfl, .inl ⟨rfl, rfl, h1⟩, ⟨rfl, .inl ⟨rfl, rfl⟩⟩⟩
  · obtain ⟨ga, gc, rfl, _, _⟩ := row_of_owns h3
    exact ⟨ga, gc, C, 0, rfl, .inr ⟨rfl, h1, h2⟩, h3⟩
theorem rclose_own (a : Option Addr) (cap : Nat) (zs : List Nat) (w : World) (hr : Row w a zs) (h64 : All64 zs) (hl : zs.length ≤ maxLen) :
    Calls Try.prog 7 #[.slice a zs.length cap] w fun e w' => (∃ ga gc G n, e = .returned (.tuple #[.slice ga (List.length G) gc, .int .i64 ((n : Nat) : Int)]) ∧ Res zs G n ∧ OwnU w' w.heap.size (.slice ga G.length gc) G) ∧ Below w.heap.size w w' := by
  refine (rclose_any a cap zs w hr h64 hl).mono fun e w' ⟨hor, hb⟩ => ⟨?_, hb⟩
  rcases hor with ⟨rfl, h1⟩ | ⟨v, C, rfl, h1, h2, h3⟩
  · exact ⟨none, 0, [], 10, rfl, .inl ⟨rfl, rfl, h1⟩, ⟨rfl, .inl ⟨rfl, rfl⟩⟩⟩
  · obtain ⟨ga, gc, rfl, _, _, _⟩ := h3.row
    exact ⟨ga, gc, C, 0, rfl, .inr ⟨rfl, h1, h2⟩, h3⟩
theorem Res.same {zs G H : List Nat} {n m : Nat} (hg : Res zs G n) (hh : Res zs H m) : H = G := (Res.unique (fun _ => Iff.rfl) hh hg).1

theorem Row.take {w : World} {a : Option Addr} {zs : List Nat} (h : Row w a zs) (n : Nat) : Row w a (zs.take n) := by
  rcases h with h | ⟨b, o, e, hlt, hc⟩
  · exact .inl (by rw [List.length_take]; omega)
  · refine .inr ⟨b, o, e, hlt, fun i hi => ?_⟩
    rw [List.length_take] at hi
    rw [hc i (by omega)]
    unfold at0
    rw [List.getD_eq_getElem?_getD, List.getD_eq_getElem?_getD, List.getElem?_take_of_lt (by omega)]
theorem at0_app {xs ys : List Nat} {i : Nat} : at0 (xs ++ ys) i = if i < xs.length then at0 xs i else at0 ys (i - xs.length) := by
  unfold at0
  by_cases h : i < xs.length
  · rw [if_pos h, List.getD_eq_getElem?_getD, List.getD_eq_getElem?_getD, List.getElem?_append_left h]
  · rw [if_neg h, List.getD_eq_getElem?_getD, List.getD_eq_getElem?_getD, List.getElem?_append_right (by omega)]
/-- The first j labels written over. -/
def over (F ls : List Nat) (j : Nat) : List Nat := ls.take j ++ F.drop j
theorem over_len {F ls : List Nat} {j : Nat} (h1 : j ≤ F.length) (h2 : j ≤ ls.length) : (over F ls j).length = F.length := by simp [over]; omega
theorem over_step {F ls : List Nat} {j : Nat} (h1 : j < F.length) (h2 : j < ls.length) : (over F ls j).set j (at0 ls j) = over F ls (j + 1) := by
  unfold over
  rw [List.set_append_right _ _ (by simp; omega)]
  simp only [List.length_take]
  rw [show j - min j ls.length = 0 by omega, List.drop_eq_getElem_cons h1, List.set_cons_zero, List.take_succ_eq_append_getElem h2, at0_get h2, List.append_assoc]
  rfl
theorem over_64 {F ls : List Nat} {j : Nat} (h1 : All64 F) (h2 : All64 ls) : All64 (over F ls j) := fun z hz => by
  rcases List.mem_append.1 hz with h | h
  · exact h2 z (List.mem_of_mem_take h)
  · exact h1 z (List.mem_of_mem_drop h)

/-- What is wanted of the lists that the law makes. -/
structure Full (u : World) (g c : Nat) (F : List Nat) : Prop where
  blk : ∃ rest, Blk .u64 36 u g F rest
  cap : F.length ≤ c
theorem Full.row {u : World} {g c : Nat} {F : List Nat} (h : Full u g c F) : Row u (some ⟨g, 0, none⟩) F := by
  obtain ⟨rest, hB⟩ := h.blk
  exact .inr ⟨g, 0, rfl, hB.lt, fun i hi => by rw [Nat.zero_add]; exact hB.cell hi⟩
theorem Full.keep {u u' : World} {g c : Nat} {F : List Nat} (h : Full u g c F) (e : u'.heap[g]? = u.heap[g]?) : Full u' g c F := by
  obtain ⟨rest, hB⟩ := h.blk
  exact ⟨⟨rest, e.trans hB⟩, h.cap⟩
theorem Full.lt {u : World} {g c : Nat} {F : List Nat} (h : Full u g c F) : g < u.heap.size := by
  obtain ⟨rest, hB⟩ := h.blk
  exact hB.lt
theorem Full.set {u : World} {g c : Nat} {F : List Nat} (h : Full u g c F) {i : Nat} (hi : i < F.length) (x : Nat) : Full (u.setCell ⟨g, i, none⟩ (.int .u64 (x : Int))) g c (F.set i x) := by
  obtain ⟨rest, hB⟩ := h.blk
  exact ⟨⟨rest, hB.set hi x⟩, by rw [List.length_set]; exact h.cap⟩
theorem full_of {u : World} {base : Nat} {v : Value} {F : List Nat} (h : OwnL u base v F) (h0 : 0 < F.length) : ∃ g c, v = .slice (some ⟨g, 0, none⟩) F.length c ∧ base ≤ g ∧ Full u g c F := by
  rcases h.2 with ⟨_, h1⟩ | ⟨g, cap, cur, hv, hb, hh, hn, hcap, hsz, htake⟩
  · omega
  · refine ⟨g, cap, hv, hb, ⟨⟨cur.toList.drop F.length, ?_⟩, hn⟩⟩
    unfold Blk
    rw [hh]
    have e2 : cur.toList.take F.length = F.map (encK .u64) := by rw [Nat.mul_one] at htake; exact htake
    rw [← e2, List.take_append_drop]

end Go.Proofs.Ythclmkmajlinhab
