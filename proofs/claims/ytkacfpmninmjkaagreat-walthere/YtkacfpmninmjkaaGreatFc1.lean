/- Numbers of 32 bits laid down as bytes, the highest first; a text of bytes. A cursor over bytes that takes a number of one byte or of four; a reader over bytes. A reader whatever it is: Take of one byte and of four. Opening a reader; bytes as a text. Bytes and numbers, there and back; texts and their bytes. -/
import Derived.Test.YtkacfpmninmjkaaGreatBt1
import Derived.Lib.AppendStr
import Derived.Lib.ConvBytes
import Derived.Defers
import Derived.Recover
import Derived.Laws.Pointers
import Derived.Test.YtkacfpmninmjkaaGreatSb1
import Derived.Laws.BytesString
import Derived.Laws.Cells
import Derived.Lib.SliceRun
import Derived.Lib.Strings
namespace Go.Proofs.YtkacfpmninmjkaaGreat
open Go.RowKit

set_option maxRecDepth 100000 in
set_option maxHeartbeats 400000 in
theorem withRoom_any (a : Option Addr) (cap more : Nat) (zs : List Nat) (w : World) (hr : RowB w a zs) (hl : zs.length + more ≤ 140737488355328) (hnil : a = none → zs.length = 0 ∧ cap = 0) :
    Calls Tryz.prog 121 #[.slice a zs.length cap, .int .i64 (more : Int)] w fun e w' => (∃ v, e = .returned v ∧ OwnB w' w.heap.size v zs) ∧ Below w.heap.size w w' := by
  obtain ⟨i0, hi, hz0, hz1, hz2⟩ := info_parts infoB
  cases a with
  | none =>
    obtain ⟨h1, h2⟩ := hnil rfl
    have hzs : zs = [] := List.eq_nil_of_length_eq_zero h1
    subst hzs
    subst h2
    go_enter Tryz.func121, Tryz.ntmps121
    go_wp2_with (first | (refine wpList_make_own _ rfl _ _ 39 rfl w.heap.size 5 i0 (.int .u8 0) 1 Tryz.underlying39 hi hz0 hz1 .i64 .i64 _ more rfl rfl (by simp) (by rw [hz2]; simp at hl; omega) (by unfold maxLen; simp at hl; omega) (Nat.le_refl _) ?_; intro w1 hown1 hg1) | (at_builtin; refine wpList_append_own_none rfl _ _ 39 rfl w.heap.size 5 i0 1 Tryz.underlying39 hi _ 0 [] rfl hown1 rfl ?_))
    go_ret
    exact ⟨⟨_, rfl, hown1⟩, (Below.refl _ _).grown hg1 (Nat.le_refl _) (fun j e => by cases e)⟩
  | some ad =>
    have hnews : ∀ w1 : World, Below w.heap.size w w1 → ∀ j u, (zs.map encB)[j]? = some u → w1.cell? (ad.add j) = some u := fun w1 hb j u hu => by
      have hj : j < zs.length := by have := (List.getElem?_eq_some_iff.1 hu).1; simpa using this
      obtain ⟨b, o, e, hlt, hc⟩ := hr.here hj
      cases e
      rw [Addr.add_lit, hb.cell (p := ⟨b, o + j, none⟩) hlt, hc j hj]
      exact (mapB_at hj).symm.trans hu
    have hone : ∀ u ∈ zs.map encB, u.oneCell' = true := fun u hu => by
      obtain ⟨z, _, rfl⟩ := List.mem_map.1 hu
      rfl
    have hlm : (zs.map encB).length = zs.length * 1 := by simp
    clear hr
    go_enter Tryz.func121, Tryz.ntmps121
    go_wp2_with (first | (refine wpList_make_own _ rfl _ _ 39 rfl w.heap.size 5 i0 (.int .u8 0) 1 Tryz.underlying39 hi hz0 hz1 .i64 .i64 _ (zs.length + more) rfl rfl (by simp) (by rw [hz2]; omega) (by unfold maxLen; omega) (Nat.le_refl _) ?_; intro w1 hown1 hg1; have hb1 : Below w.heap.size w w1 := (Below.refl _ _).grown hg1 (Nat.le_refl _) (fun j e => by cases e)) | (at_builtin; refine wpList_append_own_at _ rfl _ _ 39 rfl w.heap.size 5 i0 (.int .u8 0) 1 1 Tryz.underlying39 hi hz0 hz1 hz2 rfl (by omega) _ _ _ rfl hown1 ad zs.length cap (zs.map encB) rfl hlm (hnews _ hb1) hone (by unfold maxLen; omega) (by omega) hb1.size ?_; intro v4 w4 hown4 hgrow4 hnil4 hat4))
    go_ret
    exact ⟨⟨v4, rfl, by simpa [OwnB] using hown4⟩, hb1.grown hgrow4 hb1.size (fun j e => by cases e; exact Nat.le_refl _)⟩

/-- The highest j of W bytes of v. -/
def beP (W v j : Nat) : List Nat := (List.range j).map fun t => v / 256 ^ (W - 1 - t) % 256

theorem beP_succ (W v j : Nat) : beP W v (j + 1) = beP W v j ++ [v / 256 ^ (W - 1 - j) % 256] := by simp [beP, List.range_succ]

theorem beP_len (W v j : Nat) : (beP W v j).length = j := by simp [beP]

theorem beP_step {W v n : Nat} (h : n < W) : beP W v (W - n) = beP W v (W - (n + 1)) ++ [v / 256 ^ n % 256] := by
  have e : W - n = (W - (n + 1)) + 1 := by omega
  have e2 : W - 1 - (W - (n + 1)) = n := by omega
  rw [e, beP_succ, e2]

theorem pow8 (n : Nat) : (2 : Nat) ^ (8 * n) = 256 ^ n := by rw [Nat.pow_mul]

set_option maxRecDepth 100000 in
set_option maxHeartbeats 400000 in
theorem len64_1 (w : World) : Calls Tryz.prog 140 #[.int .u64 255] w fun e w' => e = .returned (.int .i64 8) ∧ w' = w := by
  go_enter Tryz.func140, Tryz.ntmps140
  go_wp2
  go_ret
  exact ⟨by kernel_rfl, rfl⟩


set_option maxRecDepth 100000 in
set_option maxHeartbeats 400000 in
theorem len64_4 (w : World) : Calls Tryz.prog 140 #[.int .u64 4294967295] w fun e w' => e = .returned (.int .i64 32) ∧ w' = w := by
  go_enter Tryz.func140, Tryz.ntmps140
  go_wp2
  go_ret
  exact ⟨by kernel_rfl, rfl⟩


set_option maxRecDepth 100000 in
set_option maxHeartbeats 400000 in
theorem width8 (w : World) : Calls Tryz.prog 120 #[] w fun e w' => e = .returned (.int .i64 1) ∧ w' = w := by
  go_enter Tryz.func120, Tryz.ntmps120
  go_wp2_with (go_at_call 140; refine (len64_1 _).mono ?_; rintro e w' ⟨rfl, rfl⟩)
  all_goals go_ret
  all_goals exact ⟨rfl, rfl⟩


set_option maxRecDepth 100000 in
set_option maxHeartbeats 400000 in
theorem width32 (w : World) : Calls Tryz.prog 123 #[] w fun e w' => e = .returned (.int .i64 4) ∧ w' = w := by
  go_enter Tryz.func123, Tryz.ntmps123
  go_wp2_with (go_at_call 140; refine (len64_4 _).mono ?_; rintro e w' ⟨rfl, rfl⟩)
  all_goals go_ret
  all_goals exact ⟨rfl, rfl⟩



set_option maxRecDepth 100000 in
set_option maxHeartbeats 400000 in
theorem put32 (a : Option Addr) (cap v : Nat) (zs : List Nat) (w : World) (hv : v < 4294967296) (hr : RowB w a zs) (hl : zs.length + 8 ≤ 140737488355328) (hnil : a = none → zs.length = 0 ∧ cap = 0) :
    Calls Tryz.prog 105 #[.slice a zs.length cap, .int .u32 (v : Int)] w fun e w' => (∃ r, e = .returned r ∧ OwnB w' w.heap.size r (zs ++ beP 4 v 4)) ∧ Below w.heap.size w w' := by
  obtain ⟨i0, hi, hz0, hz1, hz2⟩ := info_parts infoB
  go_enter Tryz.func105, Tryz.ntmps105
  go_wp2_with (first | (go_at_call 123; refine (width32 _).mono ?_; rintro e w' ⟨rfl, hq⟩; have hq2 := hq.symm; subst hq2; clear hq) | (go_at_call 121; refine (withRoom_any a cap 4 zs _ hr (by omega) hnil).mono ?_; rintro e w1 ⟨⟨v1, rfl, hown1⟩, hb1⟩))
  clear hr hnil
  go_loopw [6, 7] (fun r i wr => ∃ m : Nat, m ≤ 4 ∧ i = .int .i64 ((m : Int) - 1) ∧ OwnB wr w.heap.size r (zs ++ beP 4 v (4 - m)) ∧ Below w.heap.size w wr) (fun _ i _ => (intOf i + 1).toNat)
  case atStart => exact ⟨4, by omega, rfl, by simpa [beP] using hown1, hb1⟩
  case round =>
    obtain ⟨m, hm, rfl, hown, hbl⟩ := hrel
    clear hown1 hb1
    cases m with
    | zero =>
      go_wp2
      go_ret
      exact ⟨⟨_, rfl, hown⟩, hbl⟩
    | succ n =>
      have e1 : (((n + 1 : Nat) : Int) - 1) = (n : Int) := by omega
      rw [e1]
      have hbs := hbl.size
      have hlen : (zs ++ beP 4 v (4 - (n + 1))).length ≤ zs.length + 3 := by simp [beP_len] <;> omega
      have HS := hide_it (beP_step (v := v) (W := 4) (n := n) (by omega))
      obtain ⟨y, hy⟩ : ∃ y, y = v / 256 ^ n := ⟨_, rfl⟩
      have hyl : y < 4294967296 := by rw [hy]; exact Nat.lt_of_le_of_lt (Nat.div_le_self _ _) hv
      have hsh : (v : Int) / 2 ^ (8 * n) = (y : Int) := by rw [hy, ← pow8]; simp
      obtain ⟨x, hx⟩ : ∃ x, x = y % 256 := ⟨_, rfl⟩
      rw [← hy, ← hx] at HS
      have hwr : IntKind.u8.wrap (y : Int) = (x : Int) := by rw [hx]; exact wrap_byte y
      have hx8 : x < 256 := by omega
      have hn8 : (8 : Int) * (n : Int) ≤ 64 := by omega
      have how := hown
      have hone : ∀ u ∈ [Value.int .u8 (x : Int)], u.oneCell' = true := by simp [Value.oneCell']
      clear hown
      try clear hx
      try clear hy
      go_wp2_with (at_builtin; refine wpList_append_own_at _ rfl _ _ 39 rfl w.heap.size 5 i0 (.int .u8 0) 1 1 Tryz.underlying39 hi hz0 hz1 hz2 rfl (by omega) _ _ _ rfl (how.alloc _) ⟨wr.heap.size, 0, none⟩ 1 1 [.int .u8 (x : Int)] rfl rfl (cell_one_new _ _ _) hone (by unfold maxLen; omega) (by omega) (by simp; omega) ?_; intro v4 w4 hown4 hgrow4 hnil4 hat4)
      go_roundw
      case rel =>
        refine ⟨n, by omega, by go_num, ?_, (hbl.alloc hbs _).grown hgrow4 (by simp; omega) (fun j e => how.ge e)⟩
        rw [HS.out, ← List.append_assoc]
        exact OwnB.snoc hown4
      case measure => simp [intOf] <;> omega


/-- A text's bytes as numbers. -/
def strNat (s : ByteArray) : List Nat := s.data.toList.map UInt8.toNat

theorem strNat_len (s : ByteArray) : (strNat s).length = s.size := by simp [strNat]

theorem strCells_nat (s : ByteArray) : Lib.strCells s = (strNat s).map encB := by
  simp [Lib.strCells, strNat, encB]

theorem bytes_row (w : World) (s : ByteArray) : RowB (Lib.bytesWorld w 5 s) (some ⟨w.heap.size, 0, none⟩) (strNat s) := by
  refine .inr ⟨w.heap.size, 0, rfl, by rw [Lib.bytesWorld_size]; omega, fun i hi => ?_⟩
  rw [strNat_len] at hi
  rw [Nat.zero_add, Lib.bytesWorld_cell w _ s i hi]
  have h2 : i < s.data.toList.length := by simpa using hi
  unfold at0 strNat
  rw [List.getD_eq_getElem?_getD, List.getD_eq_getElem?_getD, List.getElem?_map, List.getElem?_eq_getElem h2]
  rfl

theorem bytes_below (w : World) (s : ByteArray) : Below w.heap.size w (Lib.bytesWorld w 5 s) :=
  ⟨rfl, rfl, rfl, by rw [Lib.bytesWorld_size]; omega, fun k hk => Lib.bytesWorld_at_old w _ s k hk⟩

end Go.Proofs.YtkacfpmninmjkaaGreat

namespace Go.Proofs.YtkacfpmninmjkaaGreat
open Go.RowKit

/-- A row of bytes in a block below base. -/
def RowLt (w : World) (base : Nat) (a : Option Addr) (zs : List Nat) : Prop :=
  zs.length = 0 ∨ ∃ b o, a = some ⟨b, o, none⟩ ∧ b < base ∧ b < w.heap.size ∧ ∀ i, i < zs.length → w.cell? ⟨b, o + i, none⟩ = some (.int .u8 ((at0 zs i : Nat) : Int))

theorem RowLt.row {w : World} {base : Nat} {a : Option Addr} {zs : List Nat} (h : RowLt w base a zs) : RowB w a zs := by
  rcases h with h | ⟨b, o, e, _, h2, h3⟩
  · exact .inl h
  · exact .inr ⟨b, o, e, h2, h3⟩

theorem RowLt.of_row {w : World} {a : Option Addr} {zs : List Nat} (h : RowB w a zs) : RowLt w w.heap.size a zs := by
  rcases h with h | ⟨b, o, e, h2, h3⟩
  · exact .inl h
  · exact .inr ⟨b, o, e, h2, h2, h3⟩

theorem RowLt.below {w w' : World} {base : Nat} {a : Option Addr} {zs : List Nat} (h : RowLt w base a zs) (hb : Below base w w') : RowLt w' base a zs := by
  rcases h with h | ⟨b, o, e, h1, h2, h3⟩
  · exact .inl h
  · exact .inr ⟨b, o, e, h1, Nat.lt_of_lt_of_le h2 hb.size, fun i hi => by rw [hb.cell (p := ⟨b, o + i, none⟩) h1]; exact h3 i hi⟩

/-- The cursor in block g stands ahead of the bytes bs. -/
def Cur (w : World) (base g : Nat) (bs : List Nat) : Prop :=
  base ≤ g ∧ ∃ a cap, w.heap[g]? = some (.cells #[.slice a bs.length cap] 198 (0, 0)) ∧ RowLt w base a bs ∧ bs.length ≤ cap ∧ cap ≤ maxLen ∧ (a = none → bs.length = 0 ∧ cap = 0)

theorem at0_drop (bs : List Nat) (n i : Nat) : at0 (bs.drop n) i = at0 bs (n + i) := by
  unfold at0
  rw [List.getD_eq_getElem?_getD, List.getD_eq_getElem?_getD, List.getElem?_drop]

theorem at0_take {bs : List Nat} {n i : Nat} (h : i < n) : at0 (bs.take n) i = at0 bs i := by
  unfold at0
  rw [List.getD_eq_getElem?_getD, List.getD_eq_getElem?_getD, List.getElem?_take_of_lt h]

theorem RowLt.take {w : World} {base : Nat} {a : Option Addr} {bs : List Nat} (h : RowLt w base a bs) (n : Nat) : RowLt w base a (bs.take n) := by
  rcases h with h | ⟨b, o, e, h1, h2, h3⟩
  · exact .inl (by simp [h])
  · exact .inr ⟨b, o, e, h1, h2, fun i hi => by
      have hi' : i < n ∧ i < bs.length := by simp at hi; omega
      rw [at0_take hi'.1]; exact h3 i hi'.2⟩

theorem RowLt.drop {w : World} {base : Nat} {a : Option Addr} {bs : List Nat} (h : RowLt w base a bs) (n : Nat) : RowLt w base (a.map (fun x => x.add n)) (bs.drop n) := by
  rcases h with h | ⟨b, o, rfl, h1, h2, h3⟩
  · exact .inl (by simp [h])
  · refine .inr ⟨b, o + n, by rw [Option.map_some, Addr.add_lit], h1, h2, fun i hi => ?_⟩
    have hi' : n + i < bs.length := by simp at hi; omega
    rw [at0_drop, show o + n + i = o + (n + i) by omega]; exact h3 _ hi'

theorem Cur.set {w : World} {base g : Nat} {bs : List Nat} (hc : Cur w base g bs) {a' : Option Addr} {c' : Nat} {bs' : List Nat} (hr : RowLt w base a' bs') (hl : bs'.length ≤ c') (hm : c' ≤ maxLen) (hn : a' = none → bs'.length = 0 ∧ c' = 0) :
    Cur (w.setCell ⟨g, 0, none⟩ (.slice a' bs'.length c')) base g bs' := by
  obtain ⟨hg, a, cap, hh, _⟩ := hc
  refine ⟨hg, a', c', ?_, hr.below ((Below.refl _ _).setCell hg _), hl, hm, hn⟩
  rw [heap_setCell_same w g 0 _ _ _ hh]
  rfl

set_option maxRecDepth 100000 in
set_option maxHeartbeats 400000 in
theorem next_cut (base g n : Nat) (bs : List Nat) (w : World) (hc : Cur w base g bs) (hn : bs.length < n) (_ : n ≤ maxLen) :
    Calls Tryz.prog 145 #[.pointer (some ⟨g, 0, none⟩), .int .i64 (n : Int)] w fun e w' => e = .panicked [{ v := .iface 31 (.int .i64 20), recovered := false }] ∧ w' = w := by
  obtain ⟨hg, a, cap, hh, hr, hl, hm, hnil⟩ := hc
  have hcell : w.cell? ⟨g, 0, none⟩ = some (.slice a bs.length cap) := by rw [cell_of_row _ _ _ _ _ _ hh]; rfl
  unfold maxLen at hm
  have hd : decide ((bs.length : Int) < (n : Int)) = true := by simp; omega
  clear hr hnil hh
  go_enter Tryz.func145, Tryz.ntmps145
  go_wp2
  exact ⟨rfl, rfl, rfl⟩

set_option maxRecDepth 100000 in
set_option maxHeartbeats 400000 in
theorem next_ok (base g n : Nat) (bs : List Nat) (w : World) (hc : Cur w base g bs) (hn : n ≤ bs.length) :
    Calls Tryz.prog 145 #[.pointer (some ⟨g, 0, none⟩), .int .i64 (n : Int)] w fun e w' => (∃ a cap, e = .returned (.slice a n cap) ∧ RowLt w' base a (bs.take n) ∧ (a = none → n = 0 ∧ cap = 0)) ∧ Cur w' base g (bs.drop n) ∧ Below base w w' := by
  have hcur := hide_it hc
  obtain ⟨hg, a, cap, hh, hr, hl, hm, hnil⟩ := hc
  have hb : ∀ v, Below base w (w.setCell ⟨g, 0, none⟩ v) := fun v => (Below.refl _ _).setCell hg v
  have hcell : w.cell? ⟨g, 0, none⟩ = some (.slice a bs.length cap) := by rw [cell_of_row _ _ _ _ _ _ hh]; rfl
  have hfz := frozen_of_row w g 0 _ _ hh
  unfold maxLen at hm
  have hd : decide ((bs.length : Int) < (n : Int)) = false := by simp; omega
  go_enter Tryz.func145, Tryz.ntmps145
  go_wp2
  all_goals go_ret
  · refine ⟨⟨_, _, rfl, (hr.take n).below (hb _), fun e => by have := hnil e; omega⟩, ?_, (Below.refl _ _).setCell hg _⟩
    have e0 : bs.drop n = [] := List.drop_eq_nil_of_le (by omega)
    have e1 : bs.length - n = (bs.drop n).length := by simp
    rw [e1]
    exact hcur.out.set (.inl (by rw [e0]; rfl)) (by rw [e0]; simp) (by unfold maxLen; omega) (fun _ => ⟨by rw [e0]; rfl, rfl⟩)
  · refine ⟨⟨_, _, rfl, (hr.take n).below (hb _), fun e => by have := hnil e; omega⟩, ?_, (Below.refl _ _).setCell hg _⟩
    have e1 : bs.length - n = (bs.drop n).length := by simp
    rw [e1]
    refine hcur.out.set (hr.drop n) (by simp; omega) (by unfold maxLen; omega) (fun e => ?_)
    have e2 : a = none := by cases a <;> simp_all
    have := hnil e2
    simp; omega

theorem All8.at {bs : List Nat} (h : All8 bs) (i : Nat) : at0 bs i < 256 := by
  by_cases hi : i < bs.length
  · exact h _ (at0_mem hi)
  · unfold at0; rw [List.getD_eq_getElem?_getD, List.getElem?_eq_none (by omega)]; show 0 < 256; omega

theorem All8.take {bs : List Nat} (h : All8 bs) (n : Nat) : All8 (bs.take n) := fun z hz => h z (List.mem_of_mem_take hz)

theorem All8.drop {bs : List Nat} (h : All8 bs) (n : Nat) : All8 (bs.drop n) := fun z hz => h z (List.mem_of_mem_drop hz)

/-- The number whose bytes these are, the highest first. -/
def beVal (bs : List Nat) : Nat := bs.foldl (fun v x => v * 256 + x) 0

theorem beVal_snoc (bs : List Nat) (x : Nat) : beVal (bs ++ [x]) = beVal bs * 256 + x := by unfold beVal; rw [List.foldl_append]; rfl

theorem take_snoc {bs : List Nat} {k : Nat} (hk : k < bs.length) : bs.take (k + 1) = bs.take k ++ [at0 bs k] := by rw [List.take_succ_eq_append_getElem hk, at0_get hk]

theorem beVal_lt {bs : List Nat} (h : All8 bs) : ∀ k, k ≤ bs.length → beVal (bs.take k) < 256 ^ k := by
  intro k
  induction k with
  | zero => intro _; simp [beVal]
  | succ k ih =>
    intro hk
    have := ih (by omega)
    have h2 := h.at k
    rw [take_snoc (by omega), beVal_snoc, Nat.pow_succ]
    omega

theorem or_low8 (v x : Nat) (hx : x < 256) : (v * 256 ||| x) = v * 256 + x := nat_join 8 (v * 256) x (by simp) hx

set_option maxRecDepth 100000 in
set_option maxHeartbeats 400000 in
theorem fixed_cut (base g W : Nat) (bs : List Nat) (w : World) (hc : Cur w base g bs) (hW : W ≤ 8) (hn : bs.length < W) :
    Calls Tryz.prog 127 #[.pointer (some ⟨g, 0, none⟩), .int .i64 (W : Int)] w fun e w' => e = .panicked [{ v := .iface 31 (.int .i64 20), recovered := false }] ∧ w' = w := by
  have hx := next_cut base g W bs w hc hn (by unfold maxLen; omega)
  clear hc
  go_enter Tryz.func127, Tryz.ntmps127
  go_wp2_with fail
  refine hx.mono ?_
  rintro e w1 ⟨rfl, hq⟩
  have hq2 := hq.symm
  subst hq2
  go_wp2_with fail
  exact ⟨rfl, rfl, rfl⟩

set_option maxRecDepth 100000 in
set_option maxHeartbeats 400000 in
theorem fixed_ok (base g W : Nat) (bs : List Nat) (w : World) (hc : Cur w base g bs) (h8 : All8 bs) (hW : W ≤ 8) (hn : W ≤ bs.length) :
    Calls Tryz.prog 127 #[.pointer (some ⟨g, 0, none⟩), .int .i64 (W : Int)] w fun e w' => e = .returned (.int .u64 ((beVal (bs.take W) : Nat) : Int)) ∧ Cur w' base g (bs.drop W) ∧ Below base w w' := by
  have hx := next_ok base g W bs w hc hn
  clear hc
  go_enter Tryz.func127, Tryz.ntmps127
  go_wp2_with fail
  refine hx.mono ?_
  rintro e w1 ⟨⟨a, cap, rfl, hr, _⟩, hcur, hb⟩
  have HCUR := hide_it hcur
  clear hcur hx
  go_wp2_with fail
  go_loop [5, 12] (fun v i => ∃ k : Nat, k ≤ W ∧ i = .int .i64 (k : Int) ∧ v = .int .u64 ((beVal (bs.take k) : Nat) : Int)) (fun _ i => W - (intOf i).toNat)
  case atStart => exact ⟨0, by omega, rfl, by simp [beVal]⟩
  case round =>
    obtain ⟨k, hk, rfl, rfl⟩ := hrel
    by_cases hlt : k < W
    · obtain ⟨b, o, rfl, _, _, hcc⟩ : ∃ b o, a = some ⟨b, o, none⟩ ∧ b < base ∧ b < w1.heap.size ∧ ∀ i, i < (bs.take W).length → w1.cell? ⟨b, o + i, none⟩ = some (.int .u8 ((at0 (bs.take W) i : Nat) : Int)) := by
        rcases hr with h | h
        · rw [List.length_take] at h; omega
        · exact h
      have hck := hcc k (by simp; omega)
      rw [at0_take hlt] at hck
      have hx8 := h8.at k
      have hvl := beVal_lt h8 k (by omega)
      have hp : 256 ^ k ≤ 256 ^ 7 := Nat.pow_le_pow_right (by decide) (by omega)
      have hv7 : beVal (bs.take k) < 72057594037927936 := Nat.lt_of_lt_of_le hvl hp
      have HS := hide_it (show beVal (bs.take (k + 1)) = beVal (bs.take k) * 256 + at0 bs k by rw [take_snoc (by omega), beVal_snoc])
      have hor := or_low8 (beVal (bs.take k)) (at0 bs k) hx8
      clear hcc hvl hp hr
      generalize at0 bs k = x at *
      generalize beVal (bs.take k) = y at *
      have hbits : bits .or .u64 ((y : Int) * 256) (x : Int) = ((y * 256 + x : Nat) : Int) := by
        have h := u64_or_nat (y * 256) x (by omega) (by omega)
        rw [hor] at h
        have e : ((y * 256 : Nat) : Int) = (y : Int) * 256 := by simp
        rw [e] at h
        exact h
      have hd : decide ((k : Int) < (W : Int)) = true := by simp; omega
      have hi1 : (k : Int) < (W : Int) := by omega
      clear hor
      go_wp2_with fail
      go_round
      case rel => exact ⟨k + 1, by omega, by go_num, by rw [HS.out]; simp⟩
      case measure => simp [intOf]; omega
    · have hkW : k = W := by omega
      subst hkW
      have hd : decide ((k : Int) < (k : Int)) = false := by simp
      go_wp2_with fail
      go_ret
      exact ⟨rfl, HCUR.out, hb⟩

/-- What comes of a taking: a value, the cursor behind it; or the error. -/
def Took {A : Type} (val : A → Value) (base g : Nat) (w : World) (r : Except Nat (A × List Nat)) (e : Ending) (w' : World) : Prop :=
  match r with
  | .error c => e = .panicked [{ v := .iface 31 (.int .i64 (c : Int)), recovered := false }] ∧ Below base w w'
  | .ok (f, t) => e = .returned (val f) ∧ Cur w' base g t ∧ Below base w w'

/-- The reader in block p: the bytes that are left, the fault. -/
def Rdr (w : World) (p : Nat) (bs : List Nat) (fault : Nat) : Prop :=
  p < w.heap.size ∧ ∃ a cap, w.heap[p]? = some (.cells #[.slice a bs.length cap, .int .i64 (fault : Int)] 166 (0, 0)) ∧ RowB w a bs ∧ bs.length ≤ cap ∧ cap ≤ maxLen ∧ (a = none → bs.length = 0 ∧ cap = 0)

set_option maxRecDepth 100000 in
set_option maxHeartbeats 400000 in
theorem fault_any (p : Nat) (bs : List Nat) (f : Nat) (w : World) (hr : Rdr w p bs f) :
    Calls Tryz.prog 113 #[.pointer (some ⟨p, 0, none⟩)] w fun e w' => e = .returned (.int .i64 (f : Int)) ∧ w' = w := by
  obtain ⟨hp, a, cap, hh, _⟩ := hr
  have h1 : w.cell? ⟨p, 1, none⟩ = some (.int .i64 (f : Int)) := by rw [cell_of_row _ _ _ _ _ _ hh]; rfl
  clear hh
  go_enter Tryz.func113, Tryz.ntmps113
  go_wp2
  go_ret
  exact ⟨rfl, rfl⟩

theorem Rdr.below {w w' : World} {p : Nat} {bs : List Nat} {f : Nat} (h : Rdr w p bs f) (hb : Below w.heap.size w w') : Rdr w' p bs f := by
  obtain ⟨hp, a, cap, hh, hr, h1, h2, h3⟩ := h
  exact ⟨Nat.lt_of_lt_of_le hp hb.size, a, cap, by rw [hb.block p hp]; exact hh, hr.below hb, h1, h2, h3⟩

theorem ta_hit (c : Int) (w : World) : (Instr.typeAssert (.iface 31 (.int .i64 c)) 20 31 true).run Tryz.prog w = .ok (.tuple #[.int .i64 c, .bool true]) w := by kernel_rfl

theorem ta_nil (w : World) : (Instr.typeAssert Value.nilIface 20 31 true).run Tryz.prog w = .ok (.tuple #[.int .i64 0, .bool false]) w := by kernel_rfl

/-- What comes of a reading: the answer and the reader behind it; of what was there before the reader's block alone has turned. -/
def Red {A : Type} (val : A → Value) (zero : Value) (p : Nat) (bs : List Nat) (w : World) (r : Except Nat (A × List Nat)) (e : Ending) (w' : World) : Prop :=
  w.grownBy w' (some p) ∧
  match r with
  | .error c => e = .returned zero ∧ Rdr w' p bs c
  | .ok (x, t) => e = .returned (val x) ∧ Rdr w' p t 0

theorem Rdr.cell1 {w : World} {p : Nat} {bs : List Nat} {f : Nat} (h : Rdr w p bs f) : w.cell? ⟨p, 1, none⟩ = some (.int .i64 (f : Int)) ∧ w.frozen? ⟨p, 1, none⟩ = false ∧ w.frozen? ⟨p, 0, none⟩ = false ∧ ∃ v, w.cell? ⟨p, 0, none⟩ = some v := by
  obtain ⟨_, a, cap, hh, _⟩ := h
  exact ⟨by rw [cell_of_row _ _ _ _ _ _ hh]; rfl, frozen_of_row w p 1 _ _ hh, frozen_of_row w p 0 _ _ hh, _, by rw [cell_of_row _ _ _ _ _ _ hh]; rfl⟩

/-- A row of bytes does not lie in the reader's block. -/
theorem RowB.not_rdr {w : World} {p : Nat} {a a' : Option Addr} {zs : List Nat} {n cap : Nat} {f : Nat} (hr : RowB w a zs) (hh : w.heap[p]? = some (.cells #[.slice a' n cap, .int .i64 (f : Int)] 166 (0, 0))) : zs.length = 0 ∨ ∃ b o, a = some ⟨b, o, none⟩ ∧ b ≠ p ∧ b < w.heap.size ∧ ∀ i, i < zs.length → w.cell? ⟨b, o + i, none⟩ = some (.int .u8 ((at0 zs i : Nat) : Int)) := by
  rcases hr with h | ⟨b, o, rfl, hlt, hc⟩
  · exact .inl h
  · by_cases h0 : zs.length = 0
    · exact .inl h0
    · refine .inr ⟨b, o, rfl, fun e => ?_, hlt, hc⟩
      subst e
      have h1 := hc 0 (by omega)
      rw [cell_of_row _ _ _ _ _ _ hh] at h1
      match o, h1 with
      | 0, h1 => simp at h1
      | 1, h1 => simp at h1
      | o + 2, h1 => simp at h1

theorem RowB.set_far {w : World} {p : Nat} {a a' : Option Addr} {zs : List Nat} {n cap : Nat} {f : Nat} (hr : RowB w a zs) (hh : w.heap[p]? = some (.cells #[.slice a' n cap, .int .i64 (f : Int)] 166 (0, 0))) (i : Nat) (v : Value) : RowB (w.setCell ⟨p, i, none⟩ v) a zs := by
  rcases hr.not_rdr hh with h | ⟨b, o, rfl, hne, hlt, hc⟩
  · exact .inl h
  · refine .inr ⟨b, o, rfl, by simpa using hlt, fun j hj => ?_⟩
    rw [World.cell?_of_block (w := w) (Below.heap_setCell w ⟨p, i, none⟩ v b hne)]
    exact hc j hj

theorem Rdr.setFault {w : World} {p : Nat} {bs : List Nat} {f : Nat} (h : Rdr w p bs f) (c : Nat) : Rdr (w.setCell ⟨p, 1, none⟩ (.int .i64 (c : Int))) p bs c := by
  obtain ⟨hp, a, cap, hh, hr, h1, h2, h3⟩ := h
  refine ⟨by simpa using hp, a, cap, ?_, hr.set_far hh _ _, h1, h2, h3⟩
  rw [heap_setCell_same w p 1 _ _ _ hh]; rfl

theorem Rdr.setRest {w : World} {p : Nat} {bs : List Nat} {f : Nat} (h : Rdr w p bs f) {a : Option Addr} {cap : Nat} {t : List Nat} (hr : RowB w a t) (h1 : t.length ≤ cap) (h2 : cap ≤ maxLen) (h3 : a = none → t.length = 0 ∧ cap = 0) : Rdr (w.setCell ⟨p, 0, none⟩ (.slice a t.length cap)) p t f := by
  obtain ⟨hp, a', cap', hh, _⟩ := h
  refine ⟨by simpa using hp, a, cap, ?_, hr.set_far hh _ _, h1, h2, h3⟩
  rw [heap_setCell_same w p 0 _ _ _ hh]; rfl

theorem grown_of_below {w w' : World} (h : Below w.heap.size w w') (p : Nat) : w.grownBy w' (some p) := ⟨h.os, h.tape, h.output, h.size, fun k hk _ => h.block k hk⟩

theorem grown_setCell {w w' : World} {g : Nat} (h : w.grownBy w' (some g)) (i : Nat) (v : Value) : w.grownBy (w'.setCell ⟨g, i, none⟩ v) (some g) :=
  ⟨h.os, h.tape, h.output, by simpa using h.size, fun k hk hne => by
    rw [Below.heap_setCell _ _ _ _ (fun e => hne (by rw [e]))]; exact h.block k hk hne⟩

/-- What taking a number of W bytes answers. -/
def takeFixed (W : Nat) (bs : List Nat) : Except Nat (Nat × List Nat) := if bs.length < W then .error 20 else .ok (beVal (bs.take W), bs.drop W)

theorem fixed_any (base g W : Nat) (bs : List Nat) (w : World) (hc : Cur w base g bs) (h8 : All8 bs) (hW : W ≤ 8) :
    Calls Tryz.prog 127 #[.pointer (some ⟨g, 0, none⟩), .int .i64 (W : Int)] w fun e w' => Took (fun f => .int .u64 ((f : Nat) : Int)) base g w (takeFixed W bs) e w' := by
  by_cases h : bs.length < W
  · refine (fixed_cut base g W bs w hc hW h).mono ?_
    rintro e w' ⟨rfl, rfl⟩
    rw [show takeFixed W bs = .error 20 from if_pos h]
    exact ⟨rfl, Below.refl _ _⟩
  · refine (fixed_ok base g W bs w hc h8 hW (by omega)).mono ?_
    rintro e w' ⟨rfl, h1, h2⟩
    rw [show takeFixed W bs = .ok (beVal (bs.take W), bs.drop W) from if_neg h]
    exact ⟨rfl, h1, h2⟩

theorem takeFixed_lt {W : Nat} {bs : List Nat} {v : Nat} {t : List Nat} (h8 : All8 bs) (h : takeFixed W bs = .ok (v, t)) : v < 256 ^ W := by
  unfold takeFixed at h
  split at h
  · cases h
  · next hn =>
    cases h
    exact beVal_lt h8 W (by omega)

set_option maxRecDepth 100000 in
set_option maxHeartbeats 400000 in
theorem fault_nil (w : World) : Calls Tryz.prog 113 #[.pointer none] w fun e w' => e = .returned (.int .i64 1) ∧ w' = w := by
  go_enter Tryz.func113, Tryz.ntmps113
  go_wp2
  go_ret
  exact ⟨rfl, rfl⟩

set_option maxRecDepth 100000 in
set_option maxHeartbeats 400000 in
theorem catchP8 (B p : Nat) (x c : Int) (older : List PanicEntry) (w : World) (hB : w.cell? ⟨B, 0, none⟩ = some (.pointer (some ⟨p, 0, none⟩))) (hc : w.cell? ⟨p, 1, none⟩ = some (.int .i64 x)) (hz : w.frozen? ⟨p, 1, none⟩ = false) :
    CallsD Tryz.prog 146 #[.pointer (some ⟨B, 0, none⟩)] (.panicking ({ v := .iface 31 (.int .i64 c), recovered := false } :: older)) w fun e u' w' =>
      e = .returned (.tuple #[]) ∧ u' = .panicking ({ v := .iface 31 (.int .i64 c), recovered := true } :: older) ∧ w' = w.setCell ⟨p, 1, none⟩ (.int .i64 c) := by
  refine callsD_of_wpS Tryz.func146 rfl fun c₀ cs hu => ?_
  apply wpS_seq
  apply wpS_region
  simp [wpOpsS, go_sem, recoverD, hu, ta_hit, Tryz.ntmps146, Exit.thenS]
  apply wpS_seq
  apply wpS_region
  simp [wpOpsS, go_sem, Exit.thenS]
  refine wpS_cond (t := true) (by simp [Act.eval, Array.replicate]) ?_
  simp only [if_true]
  apply wpS_region
  simp [wpOpsS, go_sem, hB, hc, hz, bodyPostS, results, Tryz.results146, Array.replicate]

set_option maxRecDepth 100000 in
set_option maxHeartbeats 400000 in
theorem catchI8 (B : Nat) (w : World) :
    CallsD Tryz.prog 146 #[.pointer (some ⟨B, 0, none⟩)] .returning w fun e u' w' => e = .returned (.tuple #[]) ∧ u' = .returning ∧ w' = w := by
  refine callsD_of_wpS Tryz.func146 rfl fun c₀ cs hu => ?_
  apply wpS_seq
  apply wpS_region
  simp [wpOpsS, go_sem, recoverD, hu, ta_nil, Tryz.ntmps146, Exit.thenS]
  apply wpS_seq
  apply wpS_region
  simp [wpOpsS, go_sem, Exit.thenS]
  refine wpS_cond (t := false) (by simp [Act.eval, Array.replicate]) ?_
  simp only [Bool.false_eq_true, if_false]
  refine wpS_of_wp (wp_skip ?_)
  cases c₀
  simp_all [bodyPostS, results, Tryz.results146]


set_option maxRecDepth 100000 in
set_option maxHeartbeats 400000 in
theorem catchP32 (B p : Nat) (x c : Int) (older : List PanicEntry) (w : World) (hB : w.cell? ⟨B, 0, none⟩ = some (.pointer (some ⟨p, 0, none⟩))) (hc : w.cell? ⟨p, 1, none⟩ = some (.int .i64 x)) (hz : w.frozen? ⟨p, 1, none⟩ = false) :
    CallsD Tryz.prog 144 #[.pointer (some ⟨B, 0, none⟩)] (.panicking ({ v := .iface 31 (.int .i64 c), recovered := false } :: older)) w fun e u' w' =>
      e = .returned (.tuple #[]) ∧ u' = .panicking ({ v := .iface 31 (.int .i64 c), recovered := true } :: older) ∧ w' = w.setCell ⟨p, 1, none⟩ (.int .i64 c) := by
  refine callsD_of_wpS Tryz.func144 rfl fun c₀ cs hu => ?_
  apply wpS_seq
  apply wpS_region
  simp [wpOpsS, go_sem, recoverD, hu, ta_hit, Tryz.ntmps144, Exit.thenS]
  apply wpS_seq
  apply wpS_region
  simp [wpOpsS, go_sem, Exit.thenS]
  refine wpS_cond (t := true) (by simp [Act.eval, Array.replicate]) ?_
  simp only [if_true]
  apply wpS_region
  simp [wpOpsS, go_sem, hB, hc, hz, bodyPostS, results, Tryz.results144, Array.replicate]



set_option maxRecDepth 100000 in
set_option maxHeartbeats 400000 in
theorem catchI32 (B : Nat) (w : World) :
    CallsD Tryz.prog 144 #[.pointer (some ⟨B, 0, none⟩)] .returning w fun e u' w' => e = .returned (.tuple #[]) ∧ u' = .returning ∧ w' = w := by
  refine callsD_of_wpS Tryz.func144 rfl fun c₀ cs hu => ?_
  apply wpS_seq
  apply wpS_region
  simp [wpOpsS, go_sem, recoverD, hu, ta_nil, Tryz.ntmps144, Exit.thenS]
  apply wpS_seq
  apply wpS_region
  simp [wpOpsS, go_sem, Exit.thenS]
  refine wpS_cond (t := false) (by simp [Act.eval, Array.replicate]) ?_
  simp only [Bool.false_eq_true, if_false]
  refine wpS_of_wp (wp_skip ?_)
  cases c₀
  simp_all [bodyPostS, results, Tryz.results144]


set_option maxRecDepth 100000 in
set_option maxHeartbeats 1000000 in
theorem reading8 (p : Nat) (bs : List Nat) (w : World) (R : Except Nat (Nat × List Nat)) (hr : Rdr w p bs 0)
    (htake : ∀ (w2 : World) (g : Nat), Below w.heap.size w w2 → Cur w2 (w.heap.size + 1) g bs → Calls Tryz.prog 129 #[.pointer (some ⟨g, 0, none⟩)] w2 fun e w' => Took (fun f => .int .u8 ((f : Nat) : Int)) (w.heap.size + 1) g w2 R e w') :
    Calls Tryz.prog 128 #[.pointer (some ⟨p, 0, none⟩), .func (.func 129) #[] #[]] w fun e w' => Red (fun f => .int .u8 ((f : Nat) : Int)) (.int .u8 0) p bs w R e w' := by
  have hmf : ∀ (fn : Fn) (first cap : Array Value) (w : World), (Instr.makeFunc fn first cap).run Tryz.prog w = .ok (.func fn first cap) w := fun _ _ _ _ => rfl
  have hb1 : Below w.heap.size w (w.alloc (.cells #[.pointer (some ⟨p, 0, none⟩)] 139)) := (Below.refl _ _).alloc (Nat.le_refl _) _
  have hp0 := hr.1
  have hr1 := hr.below hb1
  have hf1 := fault_any p bs 0 _ hr1
  have hr2 := hr1.below ((Below.refl _ _).alloc (Nat.le_refl _) (.cells #[.pointer (some ⟨p, 0, none⟩)] 139))
  have hrr := hr
  obtain ⟨_, a, cap, hh, hrow, hl, hm, hnil⟩ := hr
  have hc0 : (w.alloc (.cells #[.pointer (some ⟨p, 0, none⟩)] 139)).cell? ⟨p, 0, none⟩ = some (.slice a bs.length cap) := by rw [cell_of_row _ _ _ _ _ _ (by rw [hb1.block p hp0]; exact hh)]; rfl
  have hcb : (w.alloc (.cells #[.pointer (some ⟨p, 0, none⟩)] 139)).cell? ⟨w.heap.size, 0, none⟩ = some (.pointer (some ⟨p, 0, none⟩)) := by rw [cell_of_row _ _ _ _ _ _ (heap_alloc_new w _)]; rfl
  have hb2 : Below w.heap.size w ((w.alloc (.cells #[.pointer (some ⟨p, 0, none⟩)] 139)).alloc (.cells #[.slice a bs.length cap] 198)) := hb1.alloc hb1.size _
  have hcur2 : Cur ((w.alloc (.cells #[.pointer (some ⟨p, 0, none⟩)] 139)).alloc (.cells #[.slice a bs.length cap] 198)) (w.heap.size + 1) (w.heap.size + 1) bs := by
    refine ⟨Nat.le_refl _, a, cap, ?_, ?_, hl, hm, hnil⟩
    · have e := heap_alloc_new (w.alloc (.cells #[.pointer (some ⟨p, 0, none⟩)] 139)) (.cells #[.slice a bs.length cap] 198)
      simp only [World.size_alloc] at e
      exact e
    · rcases hrow with h | ⟨b, o, e, hlt, hc⟩
      · exact .inl h
      · exact .inr ⟨b, o, e, by omega, Nat.lt_of_lt_of_le hlt hb2.size, fun i hi => by rw [hb2.cell (p := ⟨b, o + i, none⟩) hlt]; exact hc i hi⟩
  have ht := htake _ (w.heap.size + 1) hb2 hcur2
  have hcb2 : ((w.alloc (.cells #[.pointer (some ⟨p, 0, none⟩)] 139)).alloc (.cells #[.slice a bs.length cap] 198)).cell? ⟨w.heap.size, 0, none⟩ = some (.pointer (some ⟨p, 0, none⟩)) := by
    rw [World.cell?_of_block (w := w.alloc (.cells #[.pointer (some ⟨p, 0, none⟩)] 139)) (Below.heap_alloc _ _ _ (by simp))]; exact hcb
  have HCB2 := hide_it hcb2
  clear hcur2 htake hrow hh hcb2
  go_enter_defers Tryz.func128, Tryz.ntmps128
  go_wp2_with (go_at_call 113; refine hf1.mono ?_; rintro e w' ⟨rfl, hq⟩; have hq2 := hq.symm; subst hq2; clear hq)
  refine ht.mono ?_
  intro e w3 hk
  clear ht hf1 hc0 hcb hr1 hr2
  cases R with
  | error c =>
    obtain ⟨rfl, hb3⟩ := hk
    have hbw := hb2.trans (hb3.mono (by omega))
    have hr3 := hrr.below hbw
    obtain ⟨q1, q2, q3, _⟩ := hr3.cell1
    have hcb3 : w3.cell? ⟨w.heap.size, 0, none⟩ = some (.pointer (some ⟨p, 0, none⟩)) := (hb3.cell (p := ⟨w.heap.size, 0, none⟩) (by simp)).trans HCB2.out
    go_wp2_with fail
    refine leaves_cons (f := 146) (args := #[.pointer (some ⟨w.heap.size, 0, none⟩)]) (by simp) (by simp [go_sem]) ?_
    refine (catchP8 w.heap.size p 0 (c : Int) [] _ hcb3 q1 q2).mono ?_
    rintro e u' w'' ⟨rfl, rfl, rfl⟩
    simp [Leaves, settle, results, Tryz.results128, go_sem]
    exact ⟨grown_setCell (grown_of_below hbw p) _ _, rfl, hr3.setFault c⟩
  | ok x =>
    obtain ⟨x, t⟩ := x
    obtain ⟨rfl, hcur, hb3⟩ := hk
    have hbw := hb2.trans (hb3.mono (by omega))
    have hr3 := hrr.below hbw
    obtain ⟨q1, q2, q3, v0, q4⟩ := hr3.cell1
    have hcb3 : w3.cell? ⟨w.heap.size, 0, none⟩ = some (.pointer (some ⟨p, 0, none⟩)) := (hb3.cell (p := ⟨w.heap.size, 0, none⟩) (by simp)).trans HCB2.out
    obtain ⟨_, a', cap', hh', hrow', hl', hm', hnil'⟩ := hcur
    have hc3 : w3.cell? ⟨w.heap.size + 1, 0, none⟩ = some (.slice a' t.length cap') := by rw [cell_of_row _ _ _ _ _ _ hh']; rfl
    have HR := hide_it hrow'.row
    clear hh' hrow'
    go_wp2_with fail
    refine leaves_cons (f := 146) (args := #[.pointer (some ⟨w.heap.size, 0, none⟩)]) (by simp) (by simp [go_sem]) ?_
    refine (catchI8 w.heap.size _).mono ?_
    rintro e u' w'' ⟨rfl, rfl, rfl⟩
    simp [Leaves, settle, results, Tryz.results128, go_sem]
    exact ⟨grown_setCell (grown_of_below hbw p) _ _, rfl, hr3.setRest HR.out hl' hm' hnil'⟩


set_option maxRecDepth 100000 in
set_option maxHeartbeats 1000000 in
theorem reading32 (p : Nat) (bs : List Nat) (w : World) (R : Except Nat (Nat × List Nat)) (hr : Rdr w p bs 0)
    (htake : ∀ (w2 : World) (g : Nat), Below w.heap.size w w2 → Cur w2 (w.heap.size + 1) g bs → Calls Tryz.prog 126 #[.pointer (some ⟨g, 0, none⟩)] w2 fun e w' => Took (fun f => .int .u32 ((f : Nat) : Int)) (w.heap.size + 1) g w2 R e w') :
    Calls Tryz.prog 125 #[.pointer (some ⟨p, 0, none⟩), .func (.func 126) #[] #[]] w fun e w' => Red (fun f => .int .u32 ((f : Nat) : Int)) (.int .u32 0) p bs w R e w' := by
  have hmf : ∀ (fn : Fn) (first cap : Array Value) (w : World), (Instr.makeFunc fn first cap).run Tryz.prog w = .ok (.func fn first cap) w := fun _ _ _ _ => rfl
  have hb1 : Below w.heap.size w (w.alloc (.cells #[.pointer (some ⟨p, 0, none⟩)] 139)) := (Below.refl _ _).alloc (Nat.le_refl _) _
  have hp0 := hr.1
  have hr1 := hr.below hb1
  have hf1 := fault_any p bs 0 _ hr1
  have hr2 := hr1.below ((Below.refl _ _).alloc (Nat.le_refl _) (.cells #[.pointer (some ⟨p, 0, none⟩)] 139))
  have hrr := hr
  obtain ⟨_, a, cap, hh, hrow, hl, hm, hnil⟩ := hr
  have hc0 : (w.alloc (.cells #[.pointer (some ⟨p, 0, none⟩)] 139)).cell? ⟨p, 0, none⟩ = some (.slice a bs.length cap) := by rw [cell_of_row _ _ _ _ _ _ (by rw [hb1.block p hp0]; exact hh)]; rfl
  have hcb : (w.alloc (.cells #[.pointer (some ⟨p, 0, none⟩)] 139)).cell? ⟨w.heap.size, 0, none⟩ = some (.pointer (some ⟨p, 0, none⟩)) := by rw [cell_of_row _ _ _ _ _ _ (heap_alloc_new w _)]; rfl
  have hb2 : Below w.heap.size w ((w.alloc (.cells #[.pointer (some ⟨p, 0, none⟩)] 139)).alloc (.cells #[.slice a bs.length cap] 198)) := hb1.alloc hb1.size _
  have hcur2 : Cur ((w.alloc (.cells #[.pointer (some ⟨p, 0, none⟩)] 139)).alloc (.cells #[.slice a bs.length cap] 198)) (w.heap.size + 1) (w.heap.size + 1) bs := by
    refine ⟨Nat.le_refl _, a, cap, ?_, ?_, hl, hm, hnil⟩
    · have e := heap_alloc_new (w.alloc (.cells #[.pointer (some ⟨p, 0, none⟩)] 139)) (.cells #[.slice a bs.length cap] 198)
      simp only [World.size_alloc] at e
      exact e
    · rcases hrow with h | ⟨b, o, e, hlt, hc⟩
      · exact .inl h
      · exact .inr ⟨b, o, e, by omega, Nat.lt_of_lt_of_le hlt hb2.size, fun i hi => by rw [hb2.cell (p := ⟨b, o + i, none⟩) hlt]; exact hc i hi⟩
  have ht := htake _ (w.heap.size + 1) hb2 hcur2
  have hcb2 : ((w.alloc (.cells #[.pointer (some ⟨p, 0, none⟩)] 139)).alloc (.cells #[.slice a bs.length cap] 198)).cell? ⟨w.heap.size, 0, none⟩ = some (.pointer (some ⟨p, 0, none⟩)) := by
    rw [World.cell?_of_block (w := w.alloc (.cells #[.pointer (some ⟨p, 0, none⟩)] 139)) (Below.heap_alloc _ _ _ (by simp))]; exact hcb
  have HCB2 := hide_it hcb2
  clear hcur2 htake hrow hh hcb2
  go_enter_defers Tryz.func125, Tryz.ntmps125
  go_wp2_with (go_at_call 113; refine hf1.mono ?_; rintro e w' ⟨rfl, hq⟩; have hq2 := hq.symm; subst hq2; clear hq)
  refine ht.mono ?_
  intro e w3 hk
  clear ht hf1 hc0 hcb hr1 hr2
  cases R with
  | error c =>
    obtain ⟨rfl, hb3⟩ := hk
    have hbw := hb2.trans (hb3.mono (by omega))
    have hr3 := hrr.below hbw
    obtain ⟨q1, q2, q3, _⟩ := hr3.cell1
    have hcb3 : w3.cell? ⟨w.heap.size, 0, none⟩ = some (.pointer (some ⟨p, 0, none⟩)) := (hb3.cell (p := ⟨w.heap.size, 0, none⟩) (by simp)).trans HCB2.out
    go_wp2_with fail
    refine leaves_cons (f := 144) (args := #[.pointer (some ⟨w.heap.size, 0, none⟩)]) (by simp) (by simp [go_sem]) ?_
    refine (catchP32 w.heap.size p 0 (c : Int) [] _ hcb3 q1 q2).mono ?_
    rintro e u' w'' ⟨rfl, rfl, rfl⟩
    simp [Leaves, settle, results, Tryz.results125, go_sem]
    exact ⟨grown_setCell (grown_of_below hbw p) _ _, rfl, hr3.setFault c⟩
  | ok x =>
    obtain ⟨x, t⟩ := x
    obtain ⟨rfl, hcur, hb3⟩ := hk
    have hbw := hb2.trans (hb3.mono (by omega))
    have hr3 := hrr.below hbw
    obtain ⟨q1, q2, q3, v0, q4⟩ := hr3.cell1
    have hcb3 : w3.cell? ⟨w.heap.size, 0, none⟩ = some (.pointer (some ⟨p, 0, none⟩)) := (hb3.cell (p := ⟨w.heap.size, 0, none⟩) (by simp)).trans HCB2.out
    obtain ⟨_, a', cap', hh', hrow', hl', hm', hnil'⟩ := hcur
    have hc3 : w3.cell? ⟨w.heap.size + 1, 0, none⟩ = some (.slice a' t.length cap') := by rw [cell_of_row _ _ _ _ _ _ hh']; rfl
    have HR := hide_it hrow'.row
    clear hh' hrow'
    go_wp2_with fail
    refine leaves_cons (f := 144) (args := #[.pointer (some ⟨w.heap.size, 0, none⟩)]) (by simp) (by simp [go_sem]) ?_
    refine (catchI32 w.heap.size _).mono ?_
    rintro e u' w'' ⟨rfl, rfl, rfl⟩
    simp [Leaves, settle, results, Tryz.results125, go_sem]
    exact ⟨grown_setCell (grown_of_below hbw p) _ _, rfl, hr3.setRest HR.out hl' hm' hnil'⟩


set_option maxRecDepth 100000 in
set_option maxHeartbeats 400000 in
theorem takeC8 (base g : Nat) (bs : List Nat) (w : World) (hc : Cur w base g bs) (h8 : All8 bs) :
    Calls Tryz.prog 129 #[.pointer (some ⟨g, 0, none⟩)] w fun e w' => Took (fun f => .int .u8 ((f : Nat) : Int)) base g w (takeFixed 1 bs) e w' := by
  have hf := fixed_any base g 1 bs w hc h8 (by omega)
  obtain ⟨R, hR⟩ : ∃ R, R = takeFixed 1 bs := ⟨_, rfl⟩
  have hlt := fun v t => takeFixed_lt (W := 1) (v := v) (t := t) h8
  rw [← hR] at hf hlt ⊢
  clear hR hc
  go_enter Tryz.func129, Tryz.ntmps129
  go_wp2_with (go_at_call 120; refine (width8 _).mono ?_; rintro e w' ⟨rfl, hq⟩; have hq2 := hq.symm; subst hq2; clear hq)
  refine hf.mono ?_
  intro e w1 ht
  cases R with
  | error c =>
    obtain ⟨rfl, hb⟩ := ht
    go_wp2_with fail
    exact ⟨rfl, rfl, hb⟩
  | ok x =>
    obtain ⟨v, t⟩ := x
    obtain ⟨rfl, hcur, hb⟩ := ht
    have hv : v < 256 := hlt v t rfl
    have HC := hide_it hcur
    clear hcur hlt hf
    have hw : IntKind.u8.wrap (v : Int) = (v : Int) := by simp [IntKind.wrap, IntKind.bits, IntKind.signed]; omega
    go_wp2_with fail
    go_ret
    exact ⟨rfl, HC.out, hb⟩


set_option maxRecDepth 100000 in
set_option maxHeartbeats 400000 in
theorem takeC32 (base g : Nat) (bs : List Nat) (w : World) (hc : Cur w base g bs) (h8 : All8 bs) :
    Calls Tryz.prog 126 #[.pointer (some ⟨g, 0, none⟩)] w fun e w' => Took (fun f => .int .u32 ((f : Nat) : Int)) base g w (takeFixed 4 bs) e w' := by
  have hf := fixed_any base g 4 bs w hc h8 (by omega)
  obtain ⟨R, hR⟩ : ∃ R, R = takeFixed 4 bs := ⟨_, rfl⟩
  have hlt := fun v t => takeFixed_lt (W := 4) (v := v) (t := t) h8
  rw [← hR] at hf hlt ⊢
  clear hR hc
  go_enter Tryz.func126, Tryz.ntmps126
  go_wp2_with (go_at_call 123; refine (width32 _).mono ?_; rintro e w' ⟨rfl, hq⟩; have hq2 := hq.symm; subst hq2; clear hq)
  refine hf.mono ?_
  intro e w1 ht
  cases R with
  | error c =>
    obtain ⟨rfl, hb⟩ := ht
    go_wp2_with fail
    exact ⟨rfl, rfl, hb⟩
  | ok x =>
    obtain ⟨v, t⟩ := x
    obtain ⟨rfl, hcur, hb⟩ := ht
    have hv : v < 4294967296 := hlt v t rfl
    have HC := hide_it hcur
    clear hcur hlt hf
    have hw : IntKind.u32.wrap (v : Int) = (v : Int) := by simp [IntKind.wrap, IntKind.bits, IntKind.signed]; omega
    go_wp2_with fail
    go_ret
    exact ⟨rfl, HC.out, hb⟩


end Go.Proofs.YtkacfpmninmjkaaGreat

namespace Go.Proofs.YtkacfpmninmjkaaGreat
open Go.RowKit

/-- The reader that a pointer points to (none: a reader that is not there): the bytes left, the fault. -/
def Rst (w : World) (rp : Option Addr) (s : List Nat × Nat) : Prop := (rp = none ∧ s = ([], 1)) ∨ ∃ p, rp = some ⟨p, 0, none⟩ ∧ Rdr w p s.1 s.2 ∧ All8 s.1

theorem Rst.below {w w' : World} {rp : Option Addr} {s : List Nat × Nat} (h : Rst w rp s) (hb : Below w.heap.size w w') : Rst w' rp s := by
  rcases h with h | ⟨p, h1, h2, h3⟩
  · exact .inl h
  · exact .inr ⟨p, h1, h2.below hb, h3⟩

theorem Red.ret {A : Type} {val : A → Value} {zero : Value} {p : Nat} {bs : List Nat} {w w' : World} {r : Except Nat (A × List Nat)} {e : Ending} (h : Red val zero p bs w r e w') : ∃ v, e = .returned v := by
  obtain ⟨_, h⟩ := h
  cases r with
  | error c => exact ⟨_, h.1⟩
  | ok x => exact ⟨_, h.1⟩

theorem fault_st (rp : Option Addr) (s : List Nat × Nat) (w : World) (h : Rst w rp s) :
    Calls Tryz.prog 113 #[.pointer rp] w fun e w' => e = .returned (.int .i64 (s.2 : Int)) ∧ w' = w := by
  rcases h with ⟨rfl, rfl⟩ | ⟨p, rfl, h2, _⟩
  · exact fault_nil w
  · exact fault_any p s.1 s.2 w h2

/-- What a reading makes of a reader. -/
def rdOf {A : Type} (zero : A) (take : List Nat → Except Nat (A × List Nat)) (s : List Nat × Nat) : A × (List Nat × Nat) :=
  if s.2 ≠ 0 then (zero, s) else
  match take s.1 with
  | .error c => (zero, (s.1, c))
  | .ok (x, t) => (x, (t, 0))

/-- What comes of a reading: the answer; the reader behind it; of what was there the reader's block alone has turned. -/
def Read {A : Type} (val : A → Value) (rp : Option Addr) (w : World) (r : A × (List Nat × Nat)) (e : Ending) (w' : World) : Prop :=
  e = .returned (val r.1) ∧ Rst w' rp r.2 ∧ w.grownBy w' (rp.map (·.block))

theorem Read.of_shut {A : Type} {val : A → Value} {zero : A} {take : List Nat → Except Nat (A × List Nat)} {rp : Option Addr} {s : List Nat × Nat} {w w' : World} {e : Ending} (hs : Rst w rp s) (hf : s.2 ≠ 0) (he : e = .returned (val zero)) (hb : Below w.heap.size w w') : Read val rp w (rdOf zero take s) e w' := by
  have e1 : rdOf zero take s = (zero, s) := if_pos hf
  rw [e1]
  exact ⟨he, hs.below hb, hb.os, hb.tape, hb.output, hb.size, fun k hk _ => hb.block k hk⟩

theorem Read.of_red {A : Type} {val : A → Value} {zero : A} {take : List Nat → Except Nat (A × List Nat)} {p : Nat} {bs : List Nat} {w w' : World} {e : Ending} (h : Red val (val zero) p bs w (take bs) e w') (h8 : All8 bs) (h8' : ∀ x t, take bs = .ok (x, t) → All8 t) : Read val (some ⟨p, 0, none⟩) w (rdOf zero take (bs, 0)) e w' := by
  obtain ⟨hg, h⟩ := h
  unfold rdOf
  rw [if_neg (by simp)]
  cases ht : take bs with
  | error c => rw [ht] at h; exact ⟨h.1, .inr ⟨p, rfl, h.2, h8⟩, hg⟩
  | ok x =>
    obtain ⟨x, t⟩ := x
    rw [ht] at h; exact ⟨h.1, .inr ⟨p, rfl, h.2, h8' x t ht⟩, hg⟩

theorem grown_pre {w w1 w' : World} {r : Option Nat} (hb : Below w.heap.size w w1) (hg : w1.grownBy w' r) : w.grownBy w' r :=
  ⟨hg.os.trans hb.os, hg.tape.trans hb.tape, hg.output.trans hb.output, Nat.le_trans hb.size hg.size, fun k hk hne => (hg.block k (Nat.lt_of_lt_of_le hk hb.size) hne).trans (hb.block k hk)⟩

theorem Read.pre {A : Type} {val : A → Value} {rp : Option Addr} {w w1 w' : World} {r : A × (List Nat × Nat)} {e : Ending} (hb : Below w.heap.size w w1) (h : Read val rp w1 r e w') : Read val rp w r e w' :=
  ⟨h.1, h.2.1, grown_pre hb h.2.2⟩

theorem takeFixed_all {W : Nat} {bs : List Nat} (h8 : All8 bs) : ∀ x t, takeFixed W bs = .ok (x, t) → All8 t := fun x t h => by
  unfold takeFixed at h
  split at h
  · cases h
  · cases h; exact h8.drop W

set_option maxRecDepth 100000 in
set_option maxHeartbeats 400000 in
theorem shut8 (rp : Option Addr) (K : Nat) (caps : Array Value) (s : List Nat × Nat) (w : World) (hs : Rst w rp s) (hf : s.2 ≠ 0) :
    Calls Tryz.prog 128 #[.pointer rp, .func (.func K) #[] caps] w fun e w' => e = .returned (.int .u8 0) ∧ Below w.heap.size w w' := by
  have hb1 : Below w.heap.size w (w.alloc (.cells #[.pointer rp] 139)) := (Below.refl _ _).alloc (Nat.le_refl _) _
  have hf1 := fault_st rp s _ (hs.below hb1)
  have hne : ((s.2 : Int) == 0) = false := by simp; omega
  clear hf hs
  generalize s.2 = f at *
  go_enter_defers Tryz.func128, Tryz.ntmps128
  go_wp2_with fail
  refine hf1.mono ?_
  rintro e w' ⟨rfl, hq⟩
  have hq2 := hq.symm
  subst hq2
  clear hq hf1
  go_wp2_with fail
  simp [bodyPostD, Leaves, results, Tryz.results128, go_sem]
  exact hb1


set_option maxRecDepth 100000 in
set_option maxHeartbeats 400000 in
theorem shut32 (rp : Option Addr) (K : Nat) (caps : Array Value) (s : List Nat × Nat) (w : World) (hs : Rst w rp s) (hf : s.2 ≠ 0) :
    Calls Tryz.prog 125 #[.pointer rp, .func (.func K) #[] caps] w fun e w' => e = .returned (.int .u32 0) ∧ Below w.heap.size w w' := by
  have hb1 : Below w.heap.size w (w.alloc (.cells #[.pointer rp] 139)) := (Below.refl _ _).alloc (Nat.le_refl _) _
  have hf1 := fault_st rp s _ (hs.below hb1)
  have hne : ((s.2 : Int) == 0) = false := by simp; omega
  clear hf hs
  generalize s.2 = f at *
  go_enter_defers Tryz.func125, Tryz.ntmps125
  go_wp2_with fail
  refine hf1.mono ?_
  rintro e w' ⟨rfl, hq⟩
  have hq2 := hq.symm
  subst hq2
  clear hq hf1
  go_wp2_with fail
  simp [bodyPostD, Leaves, results, Tryz.results125, go_sem]
  exact hb1


set_option maxRecDepth 100000 in
set_option maxHeartbeats 400000 in
theorem take8 (rp : Option Addr) (s : List Nat × Nat) (w : World) (hs : Rst w rp s) :
    Calls Tryz.prog 109 #[.pointer rp] w fun e w' => Read (fun f => .int .u8 ((f : Nat) : Int)) rp w (rdOf 0 (takeFixed 1) s) e w' := by
  have hmf : ∀ (fn : Fn) (first cap : Array Value) (w : World), (Instr.makeFunc fn first cap).run Tryz.prog w = .ok (.func fn first cap) w := fun _ _ _ _ => rfl
  have hx : Calls Tryz.prog 128 #[.pointer rp, .func (.func 129) #[] #[]] w fun e w' => Read (fun f => .int .u8 ((f : Nat) : Int)) rp w (rdOf 0 (takeFixed 1) s) e w' := by
    by_cases hf : s.2 = 0
    · rcases hs with ⟨_, rfl⟩ | ⟨p, rfl, h2, h8⟩
      · cases hf
      · obtain ⟨bs, f⟩ := s
        cases hf
        exact (reading8 p bs w (takeFixed 1 bs) h2 (fun w2 g _ hc => takeC8 _ g bs w2 hc h8)).mono fun e w' h => Read.of_red (zero := 0) h h8 (takeFixed_all h8)
    · exact (shut8 rp _ _ s w hs hf).mono fun e w' h => Read.of_shut (zero := 0) hs hf h.1 h.2
  clear hs
  go_enter Tryz.func109, Tryz.ntmps109
  go_wp2_with fail
  refine hx.mono ?_
  rintro e w1 ⟨rfl, hk⟩
  go_wp2_with fail
  go_ret
  exact ⟨rfl, hk⟩


set_option maxRecDepth 100000 in
set_option maxHeartbeats 400000 in
theorem take32 (rp : Option Addr) (s : List Nat × Nat) (w : World) (hs : Rst w rp s) :
    Calls Tryz.prog 108 #[.pointer rp] w fun e w' => Read (fun f => .int .u32 ((f : Nat) : Int)) rp w (rdOf 0 (takeFixed 4) s) e w' := by
  have hmf : ∀ (fn : Fn) (first cap : Array Value) (w : World), (Instr.makeFunc fn first cap).run Tryz.prog w = .ok (.func fn first cap) w := fun _ _ _ _ => rfl
  have hx : Calls Tryz.prog 125 #[.pointer rp, .func (.func 126) #[] #[]] w fun e w' => Read (fun f => .int .u32 ((f : Nat) : Int)) rp w (rdOf 0 (takeFixed 4) s) e w' := by
    by_cases hf : s.2 = 0
    · rcases hs with ⟨_, rfl⟩ | ⟨p, rfl, h2, h8⟩
      · cases hf
      · obtain ⟨bs, f⟩ := s
        cases hf
        exact (reading32 p bs w (takeFixed 4 bs) h2 (fun w2 g _ hc => takeC32 _ g bs w2 hc h8)).mono fun e w' h => Read.of_red (zero := 0) h h8 (takeFixed_all h8)
    · exact (shut32 rp _ _ s w hs hf).mono fun e w' h => Read.of_shut (zero := 0) hs hf h.1 h.2
  clear hs
  go_enter Tryz.func108, Tryz.ntmps108
  go_wp2_with fail
  refine hx.mono ?_
  rintro e w1 ⟨rfl, hk⟩
  go_wp2_with fail
  go_ret
  exact ⟨rfl, hk⟩


end Go.Proofs.YtkacfpmninmjkaaGreat

namespace Go.Proofs.YtkacfpmninmjkaaGreat
open Go.RowKit

theorem Rst.all {w : World} {rp : Option Addr} {s : List Nat × Nat} (h : Rst w rp s) : All8 s.1 := by
  rcases h with ⟨_, rfl⟩ | ⟨p, _, _, h⟩
  · intro z hz; cases hz
  · exact h

set_option maxRecDepth 100000 in
set_option maxHeartbeats 400000 in
theorem clone_any (a : Option Addr) (cap : Nat) (zs : List Nat) (w : World) (hr : RowB w a zs) (hl : zs.length ≤ 140737488355328) (hnil : a = none → zs.length = 0 ∧ cap = 0) :
    Calls Tryz.prog 79 #[.slice a zs.length cap] w fun e w' => (∃ v, e = .returned v ∧ OwnB w' w.heap.size v zs) ∧ Below w.heap.size w w' := by
  have hb0 : Below w.heap.size w (w.alloc (.cells #[] 5)) := (Below.refl _ _).alloc (Nat.le_refl _) _
  have hr0 := hr.below hb0
  have hn1 := fun (w : World) (a : Option Addr) (n c : Nat) => Lib.run_eql_slice_nil (P := Tryz.prog) w 39 5 a n c 0 0 Tryz.underlying39
  cases a with
  | none =>
    obtain ⟨h1, h2⟩ := hnil rfl
    have hzs : zs = [] := List.eq_nil_of_length_eq_zero h1
    subst hzs
    subst h2
    go_enter Tryz.func79, Tryz.ntmps79
    go_wp2
    go_ret
    exact ⟨⟨_, rfl, World.ownsRow_nil _ _ _ _⟩, Below.refl _ _⟩
  | some ad =>
    clear hr
    go_enter Tryz.func79, Tryz.ntmps79
    go_wp2_with (at_builtin; refine wpList_append_row _ rfl _ _ rfl w.heap.size _ [] rfl (own_empty w) (some ad) cap zs rfl hr0 hnil (by simp; omega) hb0.size ?_; intro vc w0 hown0 hg0 hat0)
    go_ret
    exact ⟨⟨_, rfl, by rw [List.nil_append] at hown0; exact hown0⟩, hb0.grown hg0 hb0.size (fun j e => by cases e; exact Nat.le_refl _)⟩

set_option maxRecDepth 100000 in
set_option maxHeartbeats 400000 in
theorem open_any (a : Option Addr) (cap : Nat) (zs : List Nat) (w : World) (hr : RowB w a zs) (hl : zs.length ≤ 140737488355328) (hnil : a = none → zs.length = 0 ∧ cap = 0) :
    Calls Tryz.prog 82 #[.slice a zs.length cap] w fun e w' => ∃ p, e = .returned (.pointer (some ⟨p, 0, none⟩)) ∧ w.heap.size ≤ p ∧ Rdr w' p zs 0 ∧ Below w.heap.size w w' := by
  have hcl := clone_any a cap zs w hr hl hnil
  clear hr
  go_enter Tryz.func82, Tryz.ntmps82
  go_wp2_with fail
  refine hcl.mono ?_
  rintro e w1 ⟨⟨v, rfl, hown⟩, hb1⟩
  obtain ⟨a1, c1, rfl, hr1, h1, h2, h3⟩ := hown.row
  have HR := hide_it hr1
  have hb2 : Below w1.heap.size w1 (w1.alloc (.cells #[.slice a1 zs.length c1, .int .i64 0] 166)) := (Below.refl _ _).alloc (Nat.le_refl _) _
  clear hcl hown hr1
  go_wp2_with fail
  go_ret
  refine ⟨w1.heap.size, rfl, hb1.size, ⟨by simp, a1, c1, heap_alloc_new w1 _, HR.out.below hb2, h1, h2, h3⟩, hb1.trans (hb2.mono hb1.size)⟩

theorem strOf_data (p : List Nat) : (strOf p).data.toList = p.map UInt8.ofNat := by
  have key : ∀ (p : List Nat) (s : ByteArray), ((p.map fun n : Nat => (n : Int)).foldl (fun r n => r.push (UInt8.ofNat n.toNat)) s).data.toList = s.data.toList ++ p.map UInt8.ofNat := by
    intro p
    induction p with
    | nil => intro s; simp
    | cons x t ih => intro s; simp only [List.map_cons, List.foldl_cons]; rw [ih]; simp [ByteArray.push]
  have := key p ByteArray.empty
  simpa [strOf] using this

theorem strOf_list (p : List Nat) : (strOf p).toList = p.map UInt8.ofNat := by rw [Lib.toList_data, strOf_data]

theorem row_lit (w : World) (zs : List Nat) : RowB (w.alloc (.cells (zs.map encB).toArray 5)) (some ⟨w.heap.size, 0, none⟩) zs := by
  refine .inr ⟨w.heap.size, 0, rfl, by simp, fun i hi => ?_⟩
  rw [cell_of_row _ _ _ _ _ _ (heap_alloc_new w _), Nat.zero_add, List.getElem?_toArray]
  exact mapB_at hi

end Go.Proofs.YtkacfpmninmjkaaGreat

namespace Go.Proofs.YtkacfpmninmjkaaGreat
open Go.RowKit

theorem beVal_append (xs : List Nat) : ∀ ys : List Nat, beVal (xs ++ ys) = beVal xs * 256 ^ ys.length + beVal ys := by
  intro ys
  have key : ∀ (ys : List Nat) (v : Nat), ys.foldl (fun v x => v * 256 + x) v = v * 256 ^ ys.length + ys.foldl (fun v x => v * 256 + x) 0 := by
    intro ys
    induction ys with
    | nil => intro v; simp
    | cons y t ih =>
      intro v
      simp only [List.foldl_cons, List.length_cons]
      rw [ih (v * 256 + y), ih (0 * 256 + y), Nat.pow_succ, Nat.add_mul, Nat.mul_assoc, Nat.mul_comm 256, Nat.zero_mul, Nat.zero_add, Nat.add_assoc]
  unfold beVal
  rw [List.foldl_append]
  exact key ys _

theorem beVal_bound {l : List Nat} (h : All8 l) : beVal l < 256 ^ l.length := by
  have := beVal_lt h l.length (Nat.le_refl _)
  rwa [List.take_length] at this

theorem be_form {l : List Nat} (h8 : All8 l) : beP l.length (beVal l) l.length = l := by
  apply eq_of_at (beP_len _ _ _)
  intro k hk
  rw [beP_len] at hk
  have hat : at0 (beP l.length (beVal l) l.length) k = beVal l / 256 ^ (l.length - 1 - k) % 256 := by
    rw [← at0_get (by rw [beP_len]; exact hk)]
    simp [beP]
  have hd : (l.drop (k + 1)).length = l.length - 1 - k := by simp; omega
  have hb := beVal_bound (h8.drop (k + 1))
  have ha := beVal_append (l.take (k + 1)) (l.drop (k + 1))
  rw [List.take_append_drop] at ha
  rw [hat, ha, hd] at *
  rw [Nat.mul_comm, Nat.mul_add_div (Nat.pow_pos (by decide)), Nat.div_eq_of_lt hb, Nat.add_zero, take_snoc hk, beVal_snoc]
  have := h8.at k
  omega

theorem be_back {W v : Nat} (hv : v < 256 ^ W) : ∀ j, j ≤ W → beVal (beP W v j) = v / 256 ^ (W - j) := by
  intro j
  induction j with
  | zero => intro _; rw [Nat.sub_zero, Nat.div_eq_of_lt hv]; rfl
  | succ j ih =>
    intro hj
    rw [beP_succ, beVal_snoc, ih (by omega)]
    have e : W - j = (W - 1 - j) + 1 := by omega
    have e2 : W - (j + 1) = W - 1 - j := by omega
    rw [e2, e, Nat.pow_succ, ← Nat.div_div_eq_div_mul]
    omega

theorem be_whole {W v : Nat} (hv : v < 256 ^ W) : beVal (beP W v W) = v := by
  rw [be_back hv W (Nat.le_refl _), Nat.sub_self]; simp

theorem strNat_strOf {p : List Nat} (h8 : All8 p) : strNat (strOf p) = p := by
  unfold strNat
  rw [strOf_data, List.map_map]
  have : ∀ z ∈ p, (UInt8.toNat ∘ UInt8.ofNat) z = z := fun z hz => by
    have := h8 z hz
    simp; omega
  rw [List.map_congr_left this]; simp

theorem strOf_size (p : List Nat) : (strOf p).size = p.length := by
  have h := congrArg List.length (strOf_data p)
  simp at h
  exact h

theorem grown_post {w w1 w2 : World} {r : Option Nat} (hg : w.grownBy w1 r) (hb : Below w1.heap.size w1 w2) : w.grownBy w2 r :=
  ⟨hb.os.trans hg.os, hb.tape.trans hg.tape, hb.output.trans hg.output, Nat.le_trans hg.size hb.size, fun k hk hne => (hb.block k (Nat.lt_of_lt_of_le hk hg.size)).trans (hg.block k hk hne)⟩

end Go.Proofs.YtkacfpmninmjkaaGreat
