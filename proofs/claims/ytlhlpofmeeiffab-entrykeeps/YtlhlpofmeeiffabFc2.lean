/- A cursor over bytes that takes a number of one byte or of four; a reader over bytes. -/
import Derived.Test.YtlhlpofmeeiffabFc1
import Derived.Defers
import Derived.Recover
import Derived.Laws.Pointers
namespace Go.Proofs.Ytlhlpofmeeiffab
open Go.RowKit

/-- A row of bytes in a block below base. -/
def RowLt (w : World) (base : Nat) (a : Option Addr) (zs : List Nat) : Prop :=
  zs.length = 0 ∨ ∃ b o, a = some ⟨b, o, none⟩ ∧ b < base ∧ b < w.heap.size ∧ ∀ i, i < zs.length → w.cell? ⟨b, o + i, none⟩ = some (.int .u8 ((at0 zs i : Nat) : Int))

theorem RowLt.row {w : World} {base : Nat} {a : Option Addr} {zs : List Nat} (h : RowLt w base a zs) : RowB w a zs := by
  rcases h with h | ⟨b, o, e, _, h2, h3⟩
  · exact .inl h
  · exact .inr ⟨b, o, e, h2, h3⟩

theorem RowLt.of_row {w : World} {a : Option Addr} {zs : List Nat} (h : RowB w a zs) : RowLt w w.heap.size a zs := by
  rcases h with h | ⟨b, o, e, h2, h3⟩
  · exact .inl h
  · exact .inr ⟨b, o, e, h2, h2, h3⟩

theorem RowLt.below {w w' : World} {base : Nat} {a : Option Addr} {zs : List Nat} (h : RowLt w base a zs) (hb : Below base w w') : RowLt w' base a zs := by
  rcases h with h | ⟨b, o, e, h1, h2, h3⟩
  · exact .inl h
  · exact .inr ⟨b, o, e, h1, Nat.lt_of_lt_of_le h2 hb.size, fun i hi => by rw [hb.cell (p := ⟨b, o + i, none⟩) h1]; exact h3 i hi⟩

/-- The cursor in block g stands ahead of the bytes bs. -/
def Cur (w : World) (base g : Nat) (bs : List Nat) : Prop :=
  base ≤ g ∧ ∃ a cap, w.heap[g]? = some (.cells #[.slice a bs.length cap] 89 (0, 0)) ∧ RowLt w base a bs ∧ bs.length ≤ cap ∧ cap ≤ maxLen ∧ (a = none → bs.length = 0 ∧ cap = 0)

theorem at0_drop (bs : List Nat) (n i : Nat) : at0 (bs.drop n) i = at0 bs (n + i) := by
  unfold at0
  rw [List.getD_eq_getElem?_getD, List.getD_eq_getElem?_getD, List.getElem?_drop]

theorem at0_take {bs : List Nat} {n i : Nat} (h : i < n) : at0 (bs.take n) i = at0 bs i := by
  unfold at0
  rw [List.getD_eq_getElem?_getD, List.getD_eq_getElem?_getD, List.getElem?_take_of_lt h]

theorem RowLt.take {w : World} {base : Nat} {a : Option Addr} {bs : List Nat} (h : RowLt w base a bs) (n : Nat) : RowLt w base a (bs.take n) := by
  rcases h with h | ⟨b, o, e, h1, h2, h3⟩
  · exact .inl (by simp [h])
  · exact .inr ⟨b, o, e, h1, h2, fun i hi => by
      have hi' : i < n ∧ i < bs.length := by simp at hi; omega
      rw [at0_take hi'.1]; exact h3 i hi'.2⟩

theorem RowLt.drop {w : World} {base : Nat} {a : Option Addr} {bs : List Nat} (h : RowLt w base a bs) (n : Nat) : RowLt w base (a.map (fun x => x.add n)) (bs.drop n) := by
  rcases h with h | ⟨b, o, rfl, h1, h2, h3⟩
  · exact .inl (by simp [h])
  · refine .inr ⟨b, o + n, by rw [Option.map_some, Addr.add_lit], h1, h2, fun i hi => ?_⟩
    have hi' : n + i < bs.length := by simp at hi; omega
    rw [at0_drop, show o + n + i = o + (n + i) by omega]; exact h3 _ hi'

theorem Cur.set {w : World} {base g : Nat} {bs : List Nat} (hc : Cur w base g bs) {a' : Option Addr} {c' : Nat} {bs' : List Nat} (hr : RowLt w base a' bs') (hl : bs'.length ≤ c') (hm : c' ≤ maxLen) (hn : a' = none → bs'.length = 0 ∧ c' = 0) :
    Cur (w.setCell ⟨g, 0, none⟩ (.slice a' bs'.length c')) base g bs' := by
  obtain ⟨hg, a, cap, hh, _⟩ := hc
  refine ⟨hg, a', c', ?_, hr.below ((Below.refl _ _).setCell hg _), hl, hm, hn⟩
  rw [heap_setCell_same w g 0 _ _ _ hh]
  rfl

set_option maxRecDepth 100000 in
set_option maxHeartbeats 400000 in
theorem next_cut (base g n : Nat) (bs : List Nat) (w : World) (hc : Cur w base g bs) (hn : bs.length < n) (_ : n ≤ maxLen) :
    Calls Try.prog 66 #[.pointer (some ⟨g, 0, none⟩), .int .i64 (n : Int)] w fun e w' => e = .panicked [{ v := .iface 31 (.int .i64 20), recovered := false }] ∧ w' = w := by
  obtain ⟨hg, a, cap, hh, hr, hl, hm, hnil⟩ := hc
  have hcell : w.cell? ⟨g, 0, none⟩ = some (.slice a bs.length cap) := by rw [cell_of_row _ _ _ _ _ _ hh]; rfl
  unfold maxLen at hm
  have hd : decide ((bs.length : Int) < (n : Int)) = true := by simp; omega
  clear hr hnil hh
  go_enter Try.func66, Try.ntmps66
  go_wp2
  exact ⟨rfl, rfl, rfl⟩

set_option maxRecDepth 100000 in
set_option maxHeartbeats 400000 in
theorem next_ok (base g n : Nat) (bs : List Nat) (w : World) (hc : Cur w base g bs) (hn : n ≤ bs.length) :
    Calls Try.prog 66 #[.pointer (some ⟨g, 0, none⟩), .int .i64 (n : Int)] w fun e w' => (∃ a cap, e = .returned (.slice a n cap) ∧ RowLt w' base a (bs.take n) ∧ (a = none → n = 0 ∧ cap = 0)) ∧ Cur w' base g (bs.drop n) ∧ Below base w w' := by
  have hcur := hide_it hc
  obtain ⟨hg, a, cap, hh, hr, hl, hm, hnil⟩ := hc
  have hb : ∀ v, Below base w (w.setCell ⟨g, 0, none⟩ v) := fun v => (Below.refl _ _).setCell hg v
  have hcell : w.cell? ⟨g, 0, none⟩ = some (.slice a bs.length cap) := by rw [cell_of_row _ _ _ _ _ _ hh]; rfl
  have hfz := frozen_of_row w g 0 _ _ hh
  unfold maxLen at hm
  have hd : decide ((bs.length : Int) < (n : Int)) = false := by simp; omega
  go_enter Try.func66, Try.ntmps66
  go_wp2
  all_goals go_ret
  · refine ⟨⟨_, _, rfl, (hr.take n).below (hb _), fun e => by have := hnil e; omega⟩, ?_, (Below.refl _ _).setCell hg _⟩
    have e0 : bs.drop n = [] := List.drop_eq_nil_of_le (by omega)
    have e1 : bs.length - n = (bs.drop n).length := by simp
    rw [e1]
    exact hcur.out.set (.inl (by rw [e0]; rfl)) (by rw [e0]; simp) (by unfold maxLen; omega) (fun _ => ⟨by rw [e0]; rfl, rfl⟩)
  · refine ⟨⟨_, _, rfl, (hr.take n).below (hb _), fun e => by have := hnil e; omega⟩, ?_, (Below.refl _ _).setCell hg _⟩
    have e1 : bs.length - n = (bs.drop n).length := by simp
    rw [e1]
    refine hcur.out.set (hr.drop n) (by simp; omega) (by unfold maxLen; omega) (fun e => ?_)
    have e2 : a = none := by cases a <;> simp_all
    have := hnil e2
    simp; omega

theorem All8.at {bs : List Nat} (h : All8 bs) (i : Nat) : at0 bs i < 256 := by
  by_cases hi : i < bs.length
  · exact h _ (at0_mem hi)
  · unfold at0; rw [List.getD_eq_getElem?_getD, List.getElem?_eq_none (by omega)]; show 0 < 256; omega

theorem All8.take {bs : List Nat} (h : All8 bs) (n : Nat) : All8 (bs.take n) := fun z hz => h z (List.mem_of_mem_take hz)

theorem All8.drop {bs : List Nat} (h : All8 bs) (n : Nat) : All8 (bs.drop n) := fun z hz => h z (List.mem_of_mem_drop hz)

/-- The number whose bytes these are, the highest first. -/
def beVal (bs : List Nat) : Nat := bs.foldl (fun v x => v * 256 + x) 0

theorem beVal_snoc (bs : List Nat) (x : Nat) : beVal (bs ++ [x]) = beVal bs * 256 + x := by unfold beVal; rw [List.foldl_append]; rfl

theorem take_snoc {bs : List Nat} {k : Nat} (hk : k < bs.length) : bs.take (k + 1) = bs.take k ++ [at0 bs k] := by rw [List.take_succ_eq_append_getElem hk, at0_get hk]

theorem beVal_lt {bs : List Nat} (h : All8 bs) : ∀ k, k ≤ bs.length → beVal (bs.take k) < 256 ^ k := by
  intro k
  induction k with
  | zero => intro _; simp [beVal]
  | succ k ih =>
    intro hk
    have := ih (by omega)
    have h2 := h.at k
    rw [take_snoc (by omega), beVal_snoc, Nat.pow_succ]
    omega

theorem or_low8 (v x : Nat) (hx : x < 256) : (v * 256 ||| x) = v * 256 + x := nat_join 8 (v * 256) x (by simp) hx

set_option maxRecDepth 100000 in
set_option maxHeartbeats 400000 in
theorem fixed_cut (base g W : Nat) (bs : List Nat) (w : World) (hc : Cur w base g bs) (hW : W ≤ 8) (hn : bs.length < W) :
    Calls Try.prog 56 #[.pointer (some ⟨g, 0, none⟩), .int .i64 (W : Int)] w fun e w' => e = .panicked [{ v := .iface 31 (.int .i64 20), recovered := false }] ∧ w' = w := by
  have hx := next_cut base g W bs w hc hn (by unfold maxLen; omega)
  clear hc
  go_enter Try.func56, Try.ntmps56
  go_wp2_with fail
  refine hx.mono ?_
  rintro e w1 ⟨rfl, hq⟩
  have hq2 := hq.symm
  subst hq2
  go_wp2_with fail
  exact ⟨rfl, rfl, rfl⟩

set_option maxRecDepth 100000 in
set_option maxHeartbeats 400000 in
theorem fixed_ok (base g W : Nat) (bs : List Nat) (w : World) (hc : Cur w base g bs) (h8 : All8 bs) (hW : W ≤ 8) (hn : W ≤ bs.length) :
    Calls Try.prog 56 #[.pointer (some ⟨g, 0, none⟩), .int .i64 (W : Int)] w fun e w' => e = .returned (.int .u64 ((beVal (bs.take W) : Nat) : Int)) ∧ Cur w' base g (bs.drop W) ∧ Below base w w' := by
  have hx := next_ok base g W bs w hc hn
  clear hc
  go_enter Try.func56, Try.ntmps56
  go_wp2_with fail
  refine hx.mono ?_
  rintro e w1 ⟨⟨a, cap, rfl, hr, _⟩, hcur, hb⟩
  have HCUR := hide_it hcur
  clear hcur hx
  go_wp2_with fail
  go_loop [5, 12] (fun v i => ∃ k : Nat, k ≤ W ∧ i = .int .i64 (k : Int) ∧ v = .int .u64 ((beVal (bs.take k) : Nat) : Int)) (fun _ i => W - (intOf i).toNat)
  case atStart => exact ⟨0, by omega, rfl, by simp [beVal]⟩
  case round =>
    obtain ⟨k, hk, rfl, rfl⟩ := hrel
    by_cases hlt : k < W
    · obtain ⟨b, o, rfl, _, _, hcc⟩ : ∃ b o, a = some ⟨b, o, none⟩ ∧ b < base ∧ b < w1.heap.size ∧ ∀ i, i < (bs.take W).length → w1.cell? ⟨b, o + i, none⟩ = some (.int .u8 ((at0 (bs.take W) i : Nat) : Int)) := by
        rcases hr with h | h
        · rw [List.length_take] at h; omega
        · exact h
      have hck := hcc k (by simp; omega)
      rw [at0_take hlt] at hck
      have hx8 := h8.at k
      have hvl := beVal_lt h8 k (by omega)
      have hp : 256 ^ k ≤ 256 ^ 7 := Nat.pow_le_pow_right (by decide) (by omega)
      have hv7 : beVal (bs.take k) < 72057594037927936 := Nat.lt_of_lt_of_le hvl hp
      have HS := hide_it (show beVal (bs.take (k + 1)) = beVal (bs.take k) * 256 + at0 bs k by rw [take_snoc (by omega), beVal_snoc])
      have hor := or_low8 (beVal (bs.take k)) (at0 bs k) hx8
      clear hcc hvl hp hr
      generalize at0 bs k = x at *
      generalize beVal (bs.take k) = y at *
      have hbits : bits .or .u64 ((y : Int) * 256) (x : Int) = ((y * 256 + x : Nat) : Int) := by
        have h := u64_or_nat (y * 256) x (by omega) (by omega)
        rw [hor] at h
        have e : ((y * 256 : Nat) : Int) = (y : Int) * 256 := by simp
        rw [e] at h
        exact h
      have hd : decide ((k : Int) < (W : Int)) = true := by simp; omega
      have hi1 : (k : Int) < (W : Int) := by omega
      clear hor
      go_wp2_with fail
      go_round
      case rel => exact ⟨k + 1, by omega, by go_num, by rw [HS.out]; simp⟩
      case measure => simp [intOf]; omega
    · have hkW : k = W := by omega
      subst hkW
      have hd : decide ((k : Int) < (k : Int)) = false := by simp
      go_wp2_with fail
      go_ret
      exact ⟨rfl, HCUR.out, hb⟩

/-- What comes of a taking: a value, the cursor behind it; or the error. -/
def Took {A : Type} (val : A → Value) (base g : Nat) (w : World) (r : Except Nat (A × List Nat)) (e : Ending) (w' : World) : Prop :=
  match r with
  | .error c => e = .panicked [{ v := .iface 31 (.int .i64 (c : Int)), recovered := false }] ∧ Below base w w'
  | .ok (f, t) => e = .returned (val f) ∧ Cur w' base g t ∧ Below base w w'

/-- The reader in block p: the bytes that are left, the fault. -/
def Rdr (w : World) (p : Nat) (bs : List Nat) (fault : Nat) : Prop :=
  p < w.heap.size ∧ ∃ a cap, w.heap[p]? = some (.cells #[.slice a bs.length cap, .int .i64 (fault : Int)] 70 (0, 0)) ∧ RowB w a bs ∧ bs.length ≤ cap ∧ cap ≤ maxLen ∧ (a = none → bs.length = 0 ∧ cap = 0)

set_option maxRecDepth 100000 in
set_option maxHeartbeats 400000 in
theorem fault_any (p : Nat) (bs : List Nat) (f : Nat) (w : World) (hr : Rdr w p bs f) :
    Calls Try.prog 50 #[.pointer (some ⟨p, 0, none⟩)] w fun e w' => e = .returned (.int .i64 (f : Int)) ∧ w' = w := by
  obtain ⟨hp, a, cap, hh, _⟩ := hr
  have h1 : w.cell? ⟨p, 1, none⟩ = some (.int .i64 (f : Int)) := by rw [cell_of_row _ _ _ _ _ _ hh]; rfl
  clear hh
  go_enter Try.func50, Try.ntmps50
  go_wp2
  go_ret
  exact ⟨rfl, rfl⟩

theorem Rdr.below {w w' : World} {p : Nat} {bs : List Nat} {f : Nat} (h : Rdr w p bs f) (hb : Below w.heap.size w w') : Rdr w' p bs f := by
  obtain ⟨hp, a, cap, hh, hr, h1, h2, h3⟩ := h
  exact ⟨Nat.lt_of_lt_of_le hp hb.size, a, cap, by rw [hb.block p hp]; exact hh, hr.below hb, h1, h2, h3⟩

theorem ta_hit (c : Int) (w : World) : (Instr.typeAssert (.iface 31 (.int .i64 c)) 20 31 true).run Try.prog w = .ok (.tuple #[.int .i64 c, .bool true]) w := by kernel_rfl

theorem ta_nil (w : World) : (Instr.typeAssert Value.nilIface 20 31 true).run Try.prog w = .ok (.tuple #[.int .i64 0, .bool false]) w := by kernel_rfl

/-- What comes of a reading: the answer and the reader behind it; of what was there before the reader's block alone has turned. -/
def Red {A : Type} (val : A → Value) (zero : Value) (p : Nat) (bs : List Nat) (w : World) (r : Except Nat (A × List Nat)) (e : Ending) (w' : World) : Prop :=
  w.grownBy w' (some p) ∧
  match r with
  | .error c => e = .returned zero ∧ Rdr w' p bs c
  | .ok (x, t) => e = .returned (val x) ∧ Rdr w' p t 0

theorem Rdr.cell1 {w : World} {p : Nat} {bs : List Nat} {f : Nat} (h : Rdr w p bs f) : w.cell? ⟨p, 1, none⟩ = some (.int .i64 (f : Int)) ∧ w.frozen? ⟨p, 1, none⟩ = false ∧ w.frozen? ⟨p, 0, none⟩ = false ∧ ∃ v, w.cell? ⟨p, 0, none⟩ = some v := by
  obtain ⟨_, a, cap, hh, _⟩ := h
  exact ⟨by rw [cell_of_row _ _ _ _ _ _ hh]; rfl, frozen_of_row w p 1 _ _ hh, frozen_of_row w p 0 _ _ hh, _, by rw [cell_of_row _ _ _ _ _ _ hh]; rfl⟩

/-- A row of bytes does not lie in the reader's block. -/
theorem RowB.not_rdr {w : World} {p : Nat} {a a' : Option Addr} {zs : List Nat} {n cap : Nat} {f : Nat} (hr : RowB w a zs) (hh : w.heap[p]? = some (.cells #[.slice a' n cap, .int .i64 (f : Int)] 70 (0, 0))) : zs.length = 0 ∨ ∃ b o, a = some ⟨b, o, none⟩ ∧ b ≠ p ∧ b < w.heap.size ∧ ∀ i, i < zs.length → w.cell? ⟨b, o + i, none⟩ = some (.int .u8 ((at0 zs i : Nat) : Int)) := by
  rcases hr with h | ⟨b, o, rfl, hlt, hc⟩
  · exact .inl h
  · by_cases h0 : zs.length = 0
    · exact .inl h0
    · refine .inr ⟨b, o, rfl, fun e => ?_, hlt, hc⟩
      subst e
      have h1 := hc 0 (by omega)
      rw [cell_of_row _ _ _ _ _ _ hh] at h1
      match o, h1 with
      | 0, h1 => simp at h1
      | 1, h1 => simp at h1
      | o + 2, h1 => simp at h1

theorem RowB.set_far {w : World} {p : Nat} {a a' : Option Addr} {zs : List Nat} {n cap : Nat} {f : Nat} (hr : RowB w a zs) (hh : w.heap[p]? = some (.cells #[.slice a' n cap, .int .i64 (f : Int)] 70 (0, 0))) (i : Nat) (v : Value) : RowB (w.setCell ⟨p, i, none⟩ v) a zs := by
  rcases hr.not_rdr hh with h | ⟨b, o, rfl, hne, hlt, hc⟩
  · exact .inl h
  · refine .inr ⟨b, o, rfl, by simpa using hlt, fun j hj => ?_⟩
    rw [World.cell?_of_block (w := w) (Below.heap_setCell w ⟨p, i, none⟩ v b hne)]
    exact hc j hj

theorem Rdr.setFault {w : World} {p : Nat} {bs : List Nat} {f : Nat} (h : Rdr w p bs f) (c : Nat) : Rdr (w.setCell ⟨p, 1, none⟩ (.int .i64 (c : Int))) p bs c := by
  obtain ⟨hp, a, cap, hh, hr, h1, h2, h3⟩ := h
  refine ⟨by simpa using hp, a, cap, ?_, hr.set_far hh _ _, h1, h2, h3⟩
  rw [heap_setCell_same w p 1 _ _ _ hh]; rfl

theorem Rdr.setRest {w : World} {p : Nat} {bs : List Nat} {f : Nat} (h : Rdr w p bs f) {a : Option Addr} {cap : Nat} {t : List Nat} (hr : RowB w a t) (h1 : t.length ≤ cap) (h2 : cap ≤ maxLen) (h3 : a = none → t.length = 0 ∧ cap = 0) : Rdr (w.setCell ⟨p, 0, none⟩ (.slice a t.length cap)) p t f := by
  obtain ⟨hp, a', cap', hh, _⟩ := h
  refine ⟨by simpa using hp, a, cap, ?_, hr.set_far hh _ _, h1, h2, h3⟩
  rw [heap_setCell_same w p 0 _ _ _ hh]; rfl

theorem grown_of_below {w w' : World} (h : Below w.heap.size w w') (p : Nat) : w.grownBy w' (some p) := ⟨h.os, h.tape, h.output, h.size, fun k hk _ => h.block k hk⟩

theorem grown_setCell {w w' : World} {g : Nat} (h : w.grownBy w' (some g)) (i : Nat) (v : Value) : w.grownBy (w'.setCell ⟨g, i, none⟩ v) (some g) :=
  ⟨h.os, h.tape, h.output, by simpa using h.size, fun k hk hne => by
    rw [Below.heap_setCell _ _ _ _ (fun e => hne (by rw [e]))]; exact h.block k hk hne⟩

/-- What taking a number of W bytes answers. -/
def takeFixed (W : Nat) (bs : List Nat) : Except Nat (Nat × List Nat) := if bs.length < W then .error 20 else .ok (beVal (bs.take W), bs.drop W)

theorem fixed_any (base g W : Nat) (bs : List Nat) (w : World) (hc : Cur w base g bs) (h8 : All8 bs) (hW : W ≤ 8) :
    Calls Try.prog 56 #[.pointer (some ⟨g, 0, none⟩), .int .i64 (W : Int)] w fun e w' => Took (fun f => .int .u64 ((f : Nat) : Int)) base g w (takeFixed W bs) e w' := by
  by_cases h : bs.length < W
  · refine (fixed_cut base g W bs w hc hW h).mono ?_
    rintro e w' ⟨rfl, rfl⟩
    rw [show takeFixed W bs = .error 20 from if_pos h]
    exact ⟨rfl, Below.refl _ _⟩
  · refine (fixed_ok base g W bs w hc h8 hW (by omega)).mono ?_
    rintro e w' ⟨rfl, h1, h2⟩
    rw [show takeFixed W bs = .ok (beVal (bs.take W), bs.drop W) from if_neg h]
    exact ⟨rfl, h1, h2⟩

theorem takeFixed_lt {W : Nat} {bs : List Nat} {v : Nat} {t : List Nat} (h8 : All8 bs) (h : takeFixed W bs = .ok (v, t)) : v < 256 ^ W := by
  unfold takeFixed at h
  split at h
  · cases h
  · next hn =>
    cases h
    exact beVal_lt h8 W (by omega)

set_option maxRecDepth 100000 in
set_option maxHeartbeats 400000 in
theorem fault_nil (w : World) : Calls Try.prog 50 #[.pointer none] w fun e w' => e = .returned (.int .i64 1) ∧ w' = w := by
  go_enter Try.func50, Try.ntmps50
  go_wp2
  go_ret
  exact ⟨rfl, rfl⟩

set_option maxRecDepth 100000 in
set_option maxHeartbeats 400000 in
theorem catchP8 (B p : Nat) (x c : Int) (older : List PanicEntry) (w : World) (hB : w.cell? ⟨B, 0, none⟩ = some (.pointer (some ⟨p, 0, none⟩))) (hc : w.cell? ⟨p, 1, none⟩ = some (.int .i64 x)) (hz : w.frozen? ⟨p, 1, none⟩ = false) :
    CallsD Try.prog 65 #[.pointer (some ⟨B, 0, none⟩)] (.panicking ({ v := .iface 31 (.int .i64 c), recovered := false } :: older)) w fun e u' w' =>
      e = .returned (.tuple #[]) ∧ u' = .panicking ({ v := .iface 31 (.int .i64 c), recovered := true } :: older) ∧ w' = w.setCell ⟨p, 1, none⟩ (.int .i64 c) := by
  refine callsD_of_wpS Try.func65 rfl fun c₀ cs hu => ?_
  apply wpS_seq
  apply wpS_region
  simp [wpOpsS, go_sem, recoverD, hu, ta_hit, Try.ntmps65, Exit.thenS]
  apply wpS_seq
  apply wpS_region
  simp [wpOpsS, go_sem, Exit.thenS]
  refine wpS_cond (t := true) (by simp [Act.eval, Array.replicate]) ?_
  simp only [if_true]
  apply wpS_region
  simp [wpOpsS, go_sem, hB, hc, hz, bodyPostS, results, Try.results65, Array.replicate]

set_option maxRecDepth 100000 in
set_option maxHeartbeats 400000 in
theorem catchI8 (B : Nat) (w : World) :
    CallsD Try.prog 65 #[.pointer (some ⟨B, 0, none⟩)] .returning w fun e u' w' => e = .returned (.tuple #[]) ∧ u' = .returning ∧ w' = w := by
  refine callsD_of_wpS Try.func65 rfl fun c₀ cs hu => ?_
  apply wpS_seq
  apply wpS_region
  simp [wpOpsS, go_sem, recoverD, hu, ta_nil, Try.ntmps65, Exit.thenS]
  apply wpS_seq
  apply wpS_region
  simp [wpOpsS, go_sem, Exit.thenS]
  refine wpS_cond (t := false) (by simp [Act.eval, Array.replicate]) ?_
  simp only [Bool.false_eq_true, if_false]
  refine wpS_of_wp (wp_skip ?_)
  cases c₀
  simp_all [bodyPostS, results, Try.results65]



set_option maxRecDepth 100000 in
set_option maxHeartbeats 1000000 in
theorem reading8 (p : Nat) (bs : List Nat) (w : World) (R : Except Nat (Nat × List Nat)) (hr : Rdr w p bs 0)
    (htake : ∀ (w2 : World) (g : Nat), Below w.heap.size w w2 → Cur w2 (w.heap.size + 1) g bs → Calls Try.prog 55 #[.pointer (some ⟨g, 0, none⟩)] w2 fun e w' => Took (fun f => .int .u8 ((f : Nat) : Int)) (w.heap.size + 1) g w2 R e w') :
    Calls Try.prog 54 #[.pointer (some ⟨p, 0, none⟩), .func (.func 55) #[] #[]] w fun e w' => Red (fun f => .int .u8 ((f : Nat) : Int)) (.int .u8 0) p bs w R e w' := by
  have hmf : ∀ (fn : Fn) (first cap : Array Value) (w : World), (Instr.makeFunc fn first cap).run Try.prog w = .ok (.func fn first cap) w := fun _ _ _ _ => rfl
  have hb1 : Below w.heap.size w (w.alloc (.cells #[.pointer (some ⟨p, 0, none⟩)] 58)) := (Below.refl _ _).alloc (Nat.le_refl _) _
  have hp0 := hr.1
  have hr1 := hr.below hb1
  have hf1 := fault_any p bs 0 _ hr1
  have hr2 := hr1.below ((Below.refl _ _).alloc (Nat.le_refl _) (.cells #[.pointer (some ⟨p, 0, none⟩)] 58))
  have hrr := hr
  obtain ⟨_, a, cap, hh, hrow, hl, hm, hnil⟩ := hr
  have hc0 : (w.alloc (.cells #[.pointer (some ⟨p, 0, none⟩)] 58)).cell? ⟨p, 0, none⟩ = some (.slice a bs.length cap) := by rw [cell_of_row _ _ _ _ _ _ (by rw [hb1.block p hp0]; exact hh)]; rfl
  have hcb : (w.alloc (.cells #[.pointer (some ⟨p, 0, none⟩)] 58)).cell? ⟨w.heap.size, 0, none⟩ = some (.pointer (some ⟨p, 0, none⟩)) := by rw [cell_of_row _ _ _ _ _ _ (heap_alloc_new w _)]; rfl
  have hb2 : Below w.heap.size w ((w.alloc (.cells #[.pointer (some ⟨p, 0, none⟩)] 58)).alloc (.cells #[.slice a bs.length cap] 89)) := hb1.alloc hb1.size _
  have hcur2 : Cur ((w.alloc (.cells #[.pointer (some ⟨p, 0, none⟩)] 58)).alloc (.cells #[.slice a bs.length cap] 89)) (w.heap.size + 1) (w.heap.size + 1) bs := by
    refine ⟨Nat.le_refl _, a, cap, ?_, ?_, hl, hm, hnil⟩
    · have e := heap_alloc_new (w.alloc (.cells #[.pointer (some ⟨p, 0, none⟩)] 58)) (.cells #[.slice a bs.length cap] 89)
      simp only [World.size_alloc] at e
      exact e
    · rcases hrow with h | ⟨b, o, e, hlt, hc⟩
      · exact .inl h
      · exact .inr ⟨b, o, e, by omega, Nat.lt_of_lt_of_le hlt hb2.size, fun i hi => by rw [hb2.cell (p := ⟨b, o + i, none⟩) hlt]; exact hc i hi⟩
  have ht := htake _ (w.heap.size + 1) hb2 hcur2
  have hcb2 : ((w.alloc (.cells #[.pointer (some ⟨p, 0, none⟩)] 58)).alloc (.cells #[.slice a bs.length cap] 89)).cell? ⟨w.heap.size, 0, none⟩ = some (.pointer (some ⟨p, 0, none⟩)) := by
    rw [World.cell?_of_block (w := w.alloc (.cells #[.pointer (some ⟨p, 0, none⟩)] 58)) (Below.heap_alloc _ _ _ (by simp))]; exact hcb
  have HCB2 := hide_it hcb2
  clear hcur2 htake hrow hh hcb2
  go_enter_defers Try.func54, Try.ntmps54
  go_wp2_with (go_at_call 50; refine hf1.mono ?_; rintro e w' ⟨rfl, hq⟩; have hq2 := hq.symm; subst hq2; clear hq)
  refine ht.mono ?_
  intro e w3 hk
  clear ht hf1 hc0 hcb hr1 hr2
  cases R with
  | error c =>
    obtain ⟨rfl, hb3⟩ := hk
    have hbw := hb2.trans (hb3.mono (by omega))
    have hr3 := hrr.below hbw
    obtain ⟨q1, q2, q3, _⟩ := hr3.cell1
    have hcb3 : w3.cell? ⟨w.heap.size, 0, none⟩ = some (.pointer (some ⟨p, 0, none⟩)) := (hb3.cell (p := ⟨w.heap.size, 0, none⟩) (by simp)).trans HCB2.out
    go_wp2_with fail
    refine leaves_cons (f := 65) (args := #[.pointer (some ⟨w.heap.size, 0, none⟩)]) (by simp) (by simp [go_sem]) ?_
    refine (catchP8 w.heap.size p 0 (c : Int) [] _ hcb3 q1 q2).mono ?_
    rintro e u' w'' ⟨rfl, rfl, rfl⟩
    simp [Leaves, settle, results, Try.results54, go_sem]
    exact ⟨grown_setCell (grown_of_below hbw p) _ _, rfl, hr3.setFault c⟩
  | ok x =>
    obtain ⟨x, t⟩ := x
    obtain ⟨rfl, hcur, hb3⟩ := hk
    have hbw := hb2.trans (hb3.mono (by omega))
    have hr3 := hrr.below hbw
    obtain ⟨q1, q2, q3, v0, q4⟩ := hr3.cell1
    have hcb3 : w3.cell? ⟨w.heap.size, 0, none⟩ = some (.pointer (some ⟨p, 0, none⟩)) := (hb3.cell (p := ⟨w.heap.size, 0, none⟩) (by simp)).trans HCB2.out
    obtain ⟨_, a', cap', hh', hrow', hl', hm', hnil'⟩ := hcur
    have hc3 : w3.cell? ⟨w.heap.size + 1, 0, none⟩ = some (.slice a' t.length cap') := by rw [cell_of_row _ _ _ _ _ _ hh']; rfl
    have HR := hide_it hrow'.row
    clear hh' hrow'
    go_wp2_with fail
    refine leaves_cons (f := 65) (args := #[.pointer (some ⟨w.heap.size, 0, none⟩)]) (by simp) (by simp [go_sem]) ?_
    refine (catchI8 w.heap.size _).mono ?_
    rintro e u' w'' ⟨rfl, rfl, rfl⟩
    simp [Leaves, settle, results, Try.results54, go_sem]
    exact ⟨grown_setCell (grown_of_below hbw p) _ _, rfl, hr3.setRest HR.out hl' hm' hnil'⟩


set_option maxRecDepth 100000 in
set_option maxHeartbeats 400000 in
theorem takeC8 (base g : Nat) (bs : List Nat) (w : World) (hc : Cur w base g bs) (h8 : All8 bs) :
    Calls Try.prog 55 #[.pointer (some ⟨g, 0, none⟩)] w fun e w' => Took (fun f => .int .u8 ((f : Nat) : Int)) base g w (takeFixed 1 bs) e w' := by
  have hf := fixed_any base g 1 bs w hc h8 (by omega)
  obtain ⟨R, hR⟩ : ∃ R, R = takeFixed 1 bs := ⟨_, rfl⟩
  have hlt := fun v t => takeFixed_lt (W := 1) (v := v) (t := t) h8
  rw [← hR] at hf hlt ⊢
  clear hR hc
  go_enter Try.func55, Try.ntmps55
  go_wp2_with (go_at_call 42; refine (width8 _).mono ?_; rintro e w' ⟨rfl, hq⟩; have hq2 := hq.symm; subst hq2; clear hq)
  refine hf.mono ?_
  intro e w1 ht
  cases R with
  | error c =>
    obtain ⟨rfl, hb⟩ := ht
    go_wp2_with fail
    exact ⟨rfl, rfl, hb⟩
  | ok x =>
    obtain ⟨v, t⟩ := x
    obtain ⟨rfl, hcur, hb⟩ := ht
    have hv : v < 256 := hlt v t rfl
    have HC := hide_it hcur
    clear hcur hlt hf
    have hw : IntKind.u8.wrap (v : Int) = (v : Int) := by simp [IntKind.wrap, IntKind.bits, IntKind.signed]; omega
    go_wp2_with fail
    go_ret
    exact ⟨rfl, HC.out, hb⟩


end Go.Proofs.Ytlhlpofmeeiffab
