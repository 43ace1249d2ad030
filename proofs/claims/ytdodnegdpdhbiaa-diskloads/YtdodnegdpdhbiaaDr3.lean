/- The document's disk: Read. The document's disk: Read, where it tells bytes. The document's disk: a row of areas laid behind an empty one. The document's disk: 'with', the disk with an area as it is now. The document's disk: 'with' as a whole; Sync. The document's disk: Sync. -/
import Derived.Test.YtdodnegdpdhbiaaDr2
import Derived.Test.YtdodnegdpdhbiaaBy8
namespace Go.Proofs.Ytdodnegdpdhbiaa
open Go.RowKit

/-- A piece of a row of bytes. -/
theorem RowB.piece {w : World} {ra : Option Addr} {bs : List Nat} {rc : Nat} (h : RowB w ra bs) (hc : bs.length ≤ rc) (j m : Nat) (hm : j + m ≤ bs.length) : RowB w (if rc = j then ra else ra.map (·.add j)) ((bs.take (j + m)).drop j) := by
  have hlen : ((bs.take (j + m)).drop j).length = m := by simp; omega
  by_cases h0 : m = 0
  · exact .inl (by omega)
  · obtain ⟨b, o, rfl, hb, hcell⟩ := h.here (i := 0) (by omega)
    rw [if_neg (by omega)]
    refine .inr ⟨b, o + j, by simp [Addr.add_lit], hb, fun i hi => ?_⟩
    have h1 := hcell (j + i) (by omega)
    rw [show o + j + i = o + (j + i) by omega, h1]
    have h2 : at0 ((bs.take (j + m)).drop j) i = at0 bs (j + i) := by
      unfold at0
      rw [List.getD_eq_getElem?_getD, List.getD_eq_getElem?_getD, List.getElem?_drop, List.getElem?_take_of_lt (by omega)]
    rw [h2]

section
variable {w : World} {F : Nat → Prop} {a : Option Addr} {n c : Nat} {am : Bool} {s : Nat → Pt}
set_option maxRecDepth 100000 in
set_option maxHeartbeats 1600000 in
theorem readR_none (I A N : Int) (hi : ¬ inD n I = true) : Calls Try.prog 56 #[valD a n c am, .int .i64 I, .int .i64 A, .int .i64 N] w fun e w' => Tells w [] 81 e w' := by
  have hb0 : Below w.heap.size w (w.alloc (.cells #[.slice a n c, .bool am] 45)) := (Below.refl _ _).alloc (Nat.le_refl _) _
  have hh := has_any (a := a) (n := n) (c := c) (am := am) I (w.alloc (.cells #[.slice a n c, .bool am] 45))
  have hi' : inD n I = false := by simpa using hi
  rw [hi'] at hh
  go_enter Try.func56, Try.ntmps56
  go_wp2_with fail
  refine hh.mono ?_
  rintro e w1 ⟨rfl, hb1⟩
  have hbw := hb0.trans (hb1.mono hb0.size)
  clear hh
  go_wp2_with fail
  go_ret2
  exact ⟨⟨_, rfl, OwB.nil _ _⟩, hbw⟩

set_option maxRecDepth 100000 in
set_option maxHeartbeats 1600000 in
theorem readR_no (h : Dd w F a n s) (I A N : Int) (hA : A ≤ 9223372036854775807) (hi : inD n I = true) (hr : N < 0 ∨ A < ((s I.toNat).B : Int) ∨ ((s I.toNat).B : Int) + ((s I.toNat).bs.length : Int) < A + N) :
    Calls Try.prog 56 #[valD a n c am, .int .i64 I, .int .i64 A, .int .i64 N] w fun e w' => Tells w [] 70 e w' := by
  have hb0 : Below w.heap.size w (w.alloc (.cells #[.slice a n c, .bool am] 45)) := (Below.refl _ _).alloc (Nat.le_refl _) _
  have hh := has_any (a := a) (n := n) (c := c) (am := am) I (w.alloc (.cells #[.slice a n c, .bool am] 45))
  rw [hi] at hh
  obtain ⟨i1, i2⟩ := inD_iff hi
  have x1 : 0 ≤ I := by omega
  have x2 : I < (n : Int) := by omega
  have hok := h.ok I.toNat i2
  have hd := hide_it h
  clear h i1 hi
  obtain ⟨y, hy⟩ : ∃ y, y = s I.toNat := ⟨_, rfl⟩
  rw [← hy] at hok hr
  have hro := hok.room
  have hw2 : IntKind.i64.wrap ((y.B : Int) + (y.bs.length : Int)) = ((y.B + y.bs.length : Nat) : Int) := by rw [IntKind.wrap_i64]; omega
  obtain ⟨P2, hP2⟩ : ∃ p, p = y.B + y.bs.length := ⟨_, rfl⟩
  rw [← hP2] at hw2
  have hr' : N < 0 ∨ (¬ N < 0 ∧ A < (y.B : Int)) ∨ (¬ N < 0 ∧ ¬ A < (y.B : Int) ∧ (P2 : Int) < A) ∨ (¬ N < 0 ∧ ¬ A < (y.B : Int) ∧ ¬ (P2 : Int) < A ∧ (P2 : Int) - A < N) := by omega
  have hw3 : ¬ A < (y.B : Int) → IntKind.i64.wrap ((P2 : Int) - A) = (P2 : Int) - A := fun h => by rw [IntKind.wrap_i64]; omega
  replace hw3 := hide_it hw3
  clear hok hro hP2 hr
  go_enter Try.func56, Try.ntmps56
  go_wp2_with fail
  refine hh.mono ?_
  rintro e w1 ⟨rfl, hb1⟩
  have hbw := hb0.trans (hb1.mono hb0.size)
  obtain ⟨e0, e1⟩ := boxD w a n c am (by simpa using hb1)
  obtain ⟨b, o, hab, hbl, _, hrr⟩ := (hd.out.below hbw).row
  subst hab
  obtain ⟨ra, rc, hv, _⟩ := hrr I.toNat i2
  rw [← hy] at hv
  obtain ⟨c0, c1, c2, c3, c4, c5, c6⟩ := hv
  have hfin := hbw.alloc hbw.size (.cells #[.int .i64 (y.B : Int), .int .i64 (y.k : Int), .int .i64 (y.c : Int), .slice ra y.bs.length rc, .int .i64 y.fd, .int .i64 y.fk, .int .u8 (y.ft : Int)] 108)
  clear hh hd hy hrr hb1
  rcases hr' with h1 | ⟨h1, h2⟩ | ⟨h1, h2, h3⟩ | ⟨h1, h2, h3, h4⟩
  · go_wp2_with fail
    go_ret2
    exact ⟨⟨_, rfl, OwB.nil _ _⟩, hfin⟩
  · go_wp2_with fail
    go_ret2
    exact ⟨⟨_, rfl, OwB.nil _ _⟩, hfin⟩
  · go_wp2_with fail
    go_ret2
    exact ⟨⟨_, rfl, OwB.nil _ _⟩, hfin⟩
  · have hw4 := hw3.out h2
    go_wp2_with fail
    go_ret2
    exact ⟨⟨_, rfl, OwB.nil _ _⟩, hfin⟩
end

end Go.Proofs.Ytdodnegdpdhbiaa

namespace Go.Proofs.Ytdodnegdpdhbiaa
open Go.RowKit

section
variable {w : World} {F : Nat → Prop} {a : Option Addr} {n c : Nat} {am : Bool} {s : Nat → Pt}
set_option maxRecDepth 100000 in
set_option maxHeartbeats 1600000 in
theorem readR_ok (h : Dd w F a n s) (I A : Int) (j m : Nat) (hi : inD n I = true) (hA : A = ((s I.toNat).B : Int) + (j : Int)) (hjm : j + m ≤ (s I.toNat).bs.length) :
    Calls Try.prog 56 #[valD a n c am, .int .i64 I, .int .i64 A, .int .i64 (m : Int)] w fun e w' => Tells w (((s I.toNat).bs.take (j + m)).drop j) 0 e w' := by
  have hb0 : Below w.heap.size w (w.alloc (.cells #[.slice a n c, .bool am] 45)) := (Below.refl _ _).alloc (Nat.le_refl _) _
  have hh := has_any (a := a) (n := n) (c := c) (am := am) I (w.alloc (.cells #[.slice a n c, .bool am] 45))
  rw [hi] at hh
  obtain ⟨i1, i2⟩ := inD_iff hi
  have x1 : 0 ≤ I := by omega
  have x2 : I < (n : Int) := by omega
  have hok := h.ok I.toNat i2
  have hd := hide_it h
  clear h i1 hi
  obtain ⟨y, hy⟩ : ∃ y, y = s I.toNat := ⟨_, rfl⟩
  rw [← hy] at hok hA hjm
  rw [← hy]
  have hro := hok.room
  have hle := hok.len
  have hw2 : IntKind.i64.wrap ((y.B : Int) + (y.bs.length : Int)) = ((y.B + y.bs.length : Nat) : Int) := by rw [IntKind.wrap_i64]; omega
  obtain ⟨P2, hP2⟩ : ∃ p, p = y.B + y.bs.length := ⟨_, rfl⟩
  rw [← hP2] at hw2
  have hw3 : IntKind.i64.wrap ((P2 : Int) - A) = (P2 : Int) - A := by rw [IntKind.wrap_i64]; omega
  have hw4 : IntKind.i64.wrap (A - (y.B : Int)) = (j : Int) := by rw [IntKind.wrap_i64]; omega
  have hw5 : IntKind.i64.wrap ((j : Int) + (m : Int)) = ((j + m : Nat) : Int) := by rw [IntKind.wrap_i64]; omega
  have h1 : ¬ (m : Int) < 0 := by omega
  have h2 : ¬ A < (y.B : Int) := by omega
  have h3 : ¬ (P2 : Int) < A := by omega
  have h4 : ¬ (P2 : Int) - A < (m : Int) := by omega
  obtain ⟨J, hJ⟩ : ∃ J, J = j + m := ⟨_, rfl⟩
  rw [← hJ] at hw5
  have hJi : J - j = m := by omega
  have hJj : j ≤ J := by omega
  obtain ⟨zs, hzs⟩ : ∃ zs, zs = (y.bs.take (j + m)).drop j := ⟨_, rfl⟩
  have hzl : zs.length = m := by rw [hzs]; simp; omega
  rw [← hzs]
  clear hok hro hP2 hA
  go_enter Try.func56, Try.ntmps56
  go_wp2_with fail
  refine hh.mono ?_
  rintro e w1 ⟨rfl, hb1⟩
  have hbw := hb0.trans (hb1.mono hb0.size)
  obtain ⟨e0, e1⟩ := boxD w a n c am (by simpa using hb1)
  obtain ⟨b, o, hab, hbl, _, hrr⟩ := (hd.out.below hbw).row
  subst hab
  obtain ⟨ra, rc, hv, hrow, _, hrc, hnil⟩ := hrr I.toNat i2
  rw [← hy] at hv hrow hrc hnil
  obtain ⟨c0, c1, c2, c3, c4, c5, c6⟩ := hv
  have hJc : J ≤ rc := by omega
  have hpc := RowB.piece hrow hrc j m hjm
  have hnil2 : (if rc = j then ra else ra.map (·.add j)) = none → ((y.bs.take (j + m)).drop j).length = 0 ∧ rc - j = 0 := fun e => by
    have hra : ra = none := by
      split at e
      · exact e
      · simpa using e
    have := hnil hra
    constructor
    · simp; omega
    · omega
  obtain ⟨ad, had⟩ : ∃ x, (if rc = j then ra else ra.map (·.add j)) = x := ⟨_, rfl⟩
  rw [had] at hpc hnil2
  rw [← hzs] at hpc hnil2
  have hfin := hbw.alloc hbw.size (.cells #[.int .i64 (y.B : Int), .int .i64 (y.k : Int), .int .i64 (y.c : Int), .slice ra y.bs.length rc, .int .i64 y.fd, .int .i64 y.fk, .int .u8 (y.ft : Int)] 108)
  have hpc2 : RowB ((w1.alloc (.cells #[.int .i64 (y.B : Int), .int .i64 (y.k : Int), .int .i64 (y.c : Int), .slice ra y.bs.length rc, .int .i64 y.fd, .int .i64 y.fk, .int .u8 (y.ft : Int)] 108)).alloc (.cells #[] 5)) ad zs := RowB.below hpc (((Below.refl _ _).alloc (Nat.le_refl _) _).alloc (by simp) _)
  have hfe := hfin.alloc hfin.size (.cells #[] 5)
  have hoe := owb_empty (w1.alloc (.cells #[.int .i64 (y.B : Int), .int .i64 (y.k : Int), .int .i64 (y.c : Int), .slice ra y.bs.length rc, .int .i64 y.fd, .int .i64 y.fk, .int .u8 (y.ft : Int)] 108))
  rw [World.size_alloc] at hoe
  have hH0 : Hid (m ≤ 211106232532800) := hide_it (by omega)
  have hH1 := hide_it hfe
  have hH2 := hide_it hoe
  have hH3 := hide_it hpc2
  clear hh hd hy hrr hb1 hrow hpc hnil hrc hzs hjm hfin hfe hoe hpc2
  go_wp2_with (at_builtin; refine wpList_appendB _ rfl _ _ rfl (w1.heap.size + 1) _ [] rfl hH2.out ad (rc - j) zs (by rw [show zs.length = j + m - j by omega]; rfl) hH3.out hnil2 (by have := hH0.out; simp; omega) (by simp) ?_; intro v7 w7 hown7 hg7 hat7)
  go_ret2
  exact ⟨⟨_, rfl, (by simpa using hown7 : OwB w7 (w1.heap.size + 1) v7 zs).mono (by have := hbw.size; omega)⟩, hH1.out.grown hg7 hH1.out.size (fun k e => by have e2 : some (w1.heap.size + 1) = some k := e; have := Option.some.inj e2; have := hbw.size; omega)⟩
end

end Go.Proofs.Ytdodnegdpdhbiaa

namespace Go.Proofs.Ytdodnegdpdhbiaa
open Go.RowKit

theorem infoAr : (Try.prog.info? 108).map (fun i => (i.zero, i.size, i.bytes)) = some (some (.agg #[.int .i64 0, .int .i64 0, .int .i64 0, .slice none 0 0, .int .i64 0, .int .i64 0, .int .u8 0]), 7, 72) := by kernel_rfl

/-- What lies from place o on, m cells. -/
def cellsD (w : World) (b o m : Nat) : List Value := (List.range m).map fun q => (w.cell? ⟨b, o + q, none⟩).getD (.bool false)
theorem cellsD_len (w : World) (b o m : Nat) : (cellsD w b o m).length = m := by simp [cellsD]
theorem cellsD_at (w : World) (b o m : Nat) {q : Nat} (hq : q < m) : (cellsD w b o m)[q]? = some ((w.cell? ⟨b, o + q, none⟩).getD (.bool false)) := by
  unfold cellsD
  rw [List.getElem?_map, List.getElem?_range hq]; rfl

/-- Every cell of an area of the row. -/
theorem Sev.any {w : World} {b o : Nat} {x : Pt} {ra : Option Addr} {rc : Nat} (h : Sev w b o x ra rc) {r : Nat} (hr : r < 7) : ∃ u, w.cell? ⟨b, o + r, none⟩ = some u ∧ u.oneCell' = true := by
  obtain ⟨c0, c1, c2, c3, c4, c5, c6⟩ := h
  match r, hr with
  | 0, _ => exact ⟨_, c0, rfl⟩
  | 1, _ => exact ⟨_, c1, rfl⟩
  | 2, _ => exact ⟨_, c2, rfl⟩
  | 3, _ => exact ⟨_, c3, rfl⟩
  | 4, _ => exact ⟨_, c4, rfl⟩
  | 5, _ => exact ⟨_, c5, rfl⟩
  | 6, _ => exact ⟨_, c6, rfl⟩
/-- .. of the whole row. -/
theorem row_any {w : World} {b o n : Nat} {s : Nat → Pt} (h : ∀ i, i < n → ∃ ra rc, Sev w b (o + i * 7) (s i) ra rc) {q : Nat} (hq : q < n * 7) : ∃ u, w.cell? ⟨b, o + q, none⟩ = some u ∧ u.oneCell' = true := by
  obtain ⟨ra, rc, hs⟩ := h (q / 7) (by omega)
  have := hs.any (r := q % 7) (by omega)
  rw [show o + q / 7 * 7 + q % 7 = o + q by omega] at this
  exact this
theorem srcD {w : World} {b o n : Nat} {s : Nat → Pt} (c : Nat) (h : ∀ i, i < n → ∃ ra rc, Sev w b (o + i * 7) (s i) ra rc) : Src Try.prog 7 43 (.slice (some ⟨b, o, none⟩) n c) n (cellsD w b o (n * 7)) w := by
  refine Src.ofSlice w Try.underlying43 ⟨b, o, none⟩ n c _ (cellsD_len _ _ _ _) (fun j u hu => ?_) (fun u hu => ?_)
  · have hj : j < n * 7 := by have := (List.getElem?_eq_some_iff.1 hu).1; rwa [cellsD_len] at this
    obtain ⟨u', h1, _⟩ := row_any h hj
    rw [cellsD_at _ _ _ _ hj, h1] at hu
    rw [Addr.add_lit, h1]
    exact hu
  · unfold cellsD at hu
    obtain ⟨q, hq, rfl⟩ := List.mem_map.1 hu
    obtain ⟨u', h1, h2⟩ := row_any h (List.mem_range.1 hq)
    rw [h1]
    exact h2

theorem ownD_empty (w : World) : OwnS (w.alloc (.cells #[] 108)) w.heap.size 108 7 (.slice (some ⟨w.heap.size, 0, none⟩) 0 0) 0 [] :=
  ⟨by simp, .inr ⟨w.heap.size, 0, 0, #[], rfl, Nat.le_refl _, heap_alloc_new w _, Nat.le_refl _, by simp [maxLen], by simp, fun i hi => by simp at hi⟩⟩

theorem wpList_appendD (w : World) {ops : Array Oper} {rest : List Oper} {p : Oper} {act : Act} {Q : Exit → Act → World → Prop} (hgd : p.guard = none) (u x : Operand)
    (ho : p.op = .call { callee := .builtin .append, args := #[u, x], argTypes := #[43, 43] })
    (base : Nat) (v : Value) (hs : act.eval u = v) (hown : OwnS w base 108 7 v 0 []) (b o n c : Nat) (s : Nat → Pt) (hx : act.eval x = .slice (some ⟨b, o, none⟩) n c) (hr : ∀ i, i < n → ∃ ra rc, Sev w b (o + i * 7) (s i) ra rc) (hn : n ≤ 16) (hbase : base ≤ w.heap.size)
    (h : ∀ v' w', OwnS w' base 108 7 v' n (cellsD w b o (n * 7)) → w.grownBy w' v.ownBlock → (v'.ownBlock = v.ownBlock ∨ v'.ownBlock = some w.heap.size) → wpList Try.prog ops Q rest (act.put p.dst v') w') :
    wpList Try.prog ops Q (p :: rest) act w :=
  wpList_append_S hgd u x 43 43 ho _ Try.underlying43 infoAr rfl hs hown _ hx _ _ (srcD c hr) (by unfold maxLen; omega) (by omega) hbase
    fun v' w' h2 h3 h4 => h v' w' (by simpa using h2) h3 h4

end Go.Proofs.Ytdodnegdpdhbiaa

namespace Go.Proofs.Ytdodnegdpdhbiaa
open Go.RowKit

theorem grown_keptD {w w' : World} {r : Option Nat} (hg : w.grownBy w' r) {k : Nat} {o : Obj} (hk : w.heap[k]? = some o) (hne : r ≠ some k) : w'.heap[k]? = some o :=
  (hg.block k (Array.getElem?_eq_some_iff.1 hk).1 (fun e => hne e.symm)).trans hk
theorem ownD_open {w : World} {base : Nat} {e : TypeId} {v : Value} {n : Nat} {xs : List Value} (h : OwnS w base e 7 v n xs) (hn : 1 ≤ n) : ∃ g q cp cur, v = .slice (some ⟨g, q, none⟩) n cp ∧ base ≤ g ∧ g < w.heap.size ∧ w.heap[g]? = some (.cells cur e (0, 0)) ∧ ∀ i, i < xs.length → w.cell? ⟨g, q + i, none⟩ = xs[i]? := by
  rcases h.2 with ⟨_, h0⟩ | ⟨g, q, cp, cur, rfl, hb, hh, _, _, _, ht⟩
  · omega
  · exact ⟨g, q, cp, cur, rfl, hb, (Array.getElem?_eq_some_iff.1 hh).1, hh, fun i hi => (cell_of_row _ _ _ _ _ _ hh).trans (ht i hi)⟩

theorem ne_addr {g g' o o' : Nat} (h : g ≠ g' ∨ o ≠ o') : (⟨g, o, none⟩ : Addr) ≠ ⟨g', o', none⟩ := fun e => by
  have e1 := congrArg Addr.block e
  have e2 := congrArg Addr.off e
  simp only at e1 e2
  omega

section
variable {w : World} {F : Nat → Prop} {a : Option Addr} {n c : Nat} {am : Bool} {s : Nat → Pt}
set_option maxRecDepth 100000 in
set_option maxHeartbeats 1600000 in
theorem withR {b o : Nat} (hbl : b < w.heap.size) (hrr : ∀ i, i < n → ∃ ra rc, Sev w b (o + i * 7) (s i) ra rc) (h1 : 1 ≤ n) (hn : n ≤ 16) (I : Int) (hi : inD n I = true) (x : Pt) (ra : Option Addr) (rc : Nat) :
    Calls Try.prog 81 #[valD (some ⟨b, o, none⟩) n c am, .int .i64 I, .agg #[.int .i64 (x.B : Int), .int .i64 (x.k : Int), .int .i64 (x.c : Int), .slice ra x.bs.length rc, .int .i64 x.fd, .int .i64 x.fk, .int .u8 (x.ft : Int)]] w fun e w' => ∃ g q cp, e = .returned (valD (some ⟨g, q, none⟩) n cp am) ∧ w.heap.size ≤ g ∧ g < w'.heap.size ∧ Below w.heap.size w w' ∧ Sev w' g (q + I.toNat * 7) x ra rc ∧ ∀ i, i < n → i ≠ I.toNat → ∀ r, r < 7 → w'.cell? ⟨g, q + i * 7 + r, none⟩ = w.cell? ⟨b, o + i * 7 + r, none⟩ := by
  obtain ⟨i1, i2⟩ := inD_iff hi
  have x1 : 0 ≤ I := by omega
  have x2 : I < (n : Int) := by omega
  clear hi i1
  have hbW : Below w.heap.size w ((((w.alloc (.cells #[.slice (some ⟨b, o, none⟩) n c, .bool am] 45)).alloc (.cells #[.int .i64 (x.B : Int), .int .i64 (x.k : Int), .int .i64 (x.c : Int), .slice ra x.bs.length rc, .int .i64 x.fd, .int .i64 x.fk, .int .u8 (x.ft : Int)] 108)).alloc (.cells #[.slice none 0 0, .bool false] 45)).alloc (.cells #[] 108)) := ((((Below.refl _ _).alloc (Nat.le_refl _) _).alloc (by simp) _).alloc (by simp; omega) _).alloc (by simp; omega) _
  have hR : Hid (∀ i, i < n → ∃ r1 r2, Sev ((((w.alloc (.cells #[.slice (some ⟨b, o, none⟩) n c, .bool am] 45)).alloc (.cells #[.int .i64 (x.B : Int), .int .i64 (x.k : Int), .int .i64 (x.c : Int), .slice ra x.bs.length rc, .int .i64 x.fd, .int .i64 x.fk, .int .u8 (x.ft : Int)] 108)).alloc (.cells #[.slice none 0 0, .bool false] 45)).alloc (.cells #[] 108)) b (o + i * 7) (s i) r1 r2) := hide_it fun i hi => by
    obtain ⟨r1, r2, h⟩ := hrr i hi
    exact ⟨r1, r2, h.keep (hbW.block b hbl)⟩
  have hE := ownD_empty (((w.alloc (.cells #[.slice (some ⟨b, o, none⟩) n c, .bool am] 45)).alloc (.cells #[.int .i64 (x.B : Int), .int .i64 (x.k : Int), .int .i64 (x.c : Int), .slice ra x.bs.length rc, .int .i64 x.fd, .int .i64 x.fk, .int .u8 (x.ft : Int)] 108)).alloc (.cells #[.slice none 0 0, .bool false] 45))
  rw [World.size_alloc, World.size_alloc, World.size_alloc] at hE
  have hbD : ((((w.alloc (.cells #[.slice (some ⟨b, o, none⟩) n c, .bool am] 45)).alloc (.cells #[.int .i64 (x.B : Int), .int .i64 (x.k : Int), .int .i64 (x.c : Int), .slice ra x.bs.length rc, .int .i64 x.fd, .int .i64 x.fk, .int .u8 (x.ft : Int)] 108)).alloc (.cells #[.slice none 0 0, .bool false] 45)).alloc (.cells #[] 108)).heap[w.heap.size]? = some (.cells #[.slice (some ⟨b, o, none⟩) n c, .bool am] 45) := (Below.heap_alloc _ _ _ (by simp; omega)).trans ((Below.heap_alloc _ _ _ (by simp; omega)).trans ((Below.heap_alloc _ _ _ (by simp)).trans (heap_alloc_new w _)))
  have hbA : ((((w.alloc (.cells #[.slice (some ⟨b, o, none⟩) n c, .bool am] 45)).alloc (.cells #[.int .i64 (x.B : Int), .int .i64 (x.k : Int), .int .i64 (x.c : Int), .slice ra x.bs.length rc, .int .i64 x.fd, .int .i64 x.fk, .int .u8 (x.ft : Int)] 108)).alloc (.cells #[.slice none 0 0, .bool false] 45)).alloc (.cells #[] 108)).heap[w.heap.size + 1]? = some (.cells #[.int .i64 (x.B : Int), .int .i64 (x.k : Int), .int .i64 (x.c : Int), .slice ra x.bs.length rc, .int .i64 x.fd, .int .i64 x.fk, .int .u8 (x.ft : Int)] 108) := (Below.heap_alloc _ _ _ (by simp)).trans ((Below.heap_alloc _ _ _ (by simp)).trans (by have := heap_alloc_new (w.alloc (.cells #[.slice (some ⟨b, o, none⟩) n c, .bool am] 45)) (.cells #[.int .i64 (x.B : Int), .int .i64 (x.k : Int), .int .i64 (x.c : Int), .slice ra x.bs.length rc, .int .i64 x.fd, .int .i64 x.fk, .int .u8 (x.ft : Int)] 108); rwa [World.size_alloc] at this))
  have hbZ : ((((w.alloc (.cells #[.slice (some ⟨b, o, none⟩) n c, .bool am] 45)).alloc (.cells #[.int .i64 (x.B : Int), .int .i64 (x.k : Int), .int .i64 (x.c : Int), .slice ra x.bs.length rc, .int .i64 x.fd, .int .i64 x.fk, .int .u8 (x.ft : Int)] 108)).alloc (.cells #[.slice none 0 0, .bool false] 45)).alloc (.cells #[] 108)).heap[w.heap.size + 1 + 1]? = some (.cells #[.slice none 0 0, .bool false] 45) := (Below.heap_alloc _ _ _ (by simp)).trans (by have := heap_alloc_new ((w.alloc (.cells #[.slice (some ⟨b, o, none⟩) n c, .bool am] 45)).alloc (.cells #[.int .i64 (x.B : Int), .int .i64 (x.k : Int), .int .i64 (x.c : Int), .slice ra x.bs.length rc, .int .i64 x.fd, .int .i64 x.fk, .int .u8 (x.ft : Int)] 108)) (.cells #[.slice none 0 0, .bool false] 45); rwa [World.size_alloc, World.size_alloc] at this)
  have HE := hide_it hE
  have HD := hide_it hbD
  have HA := hide_it hbA
  have HZ := hide_it hbZ
  have HW := hide_it hbW
  have HR0 := hide_it hrr
  clear hE hbD hbA hbZ hbW hrr
  go_enter Try.func81, Try.ntmps81
  go_wp2_with (at_builtin; refine wpList_appendD _ rfl _ _ rfl (w.heap.size + 1 + 1 + 1) _ rfl HE.out b o n c s rfl hR.out hn (by simp) ?_; intro v4 w4 hown4 hg4 hat4; obtain ⟨g, q, cp, cur, hv4, hg, hgs, hcur, hcel⟩ := ownD_open hown4 h1; subst hv4; have hB := grown_keptD hg4 HD.out (fun e => by have e2 : some (w.heap.size + 1 + 1 + 1) = some w.heap.size := e; have := Option.some.inj e2; omega); have hA := grown_keptD hg4 HA.out (fun e => by have e2 : some (w.heap.size + 1 + 1 + 1) = some (w.heap.size + 1) := e; have := Option.some.inj e2; omega); have hZ := grown_keptD hg4 HZ.out (fun e => by have e2 : some (w.heap.size + 1 + 1 + 1) = some (w.heap.size + 1 + 1) := e; have := Option.some.inj e2; omega); have hgS := hg4.size; rw [World.size_alloc, World.size_alloc, World.size_alloc, World.size_alloc] at hgS; have HG4 := hide_it hg4; have HC4 := hide_it hcel; have HB4 := hide_it hB; have HA4 := hide_it hA; have HZ4 := hide_it hZ; have HU := hide_it hcur; have d0 := cell_of_row _ _ 0 _ _ _ hB; have d1 := cell_of_row _ _ 1 _ _ _ hB; have fd := frozen_of_row _ _ 0 _ _ hB; have a0 := cell_of_row _ _ 0 _ _ _ hA; have a1 := cell_of_row _ _ 1 _ _ _ hA; have a2 := cell_of_row _ _ 2 _ _ _ hA; have a3 := cell_of_row _ _ 3 _ _ _ hA; have a4 := cell_of_row _ _ 4 _ _ _ hA; have a5 := cell_of_row _ _ 5 _ _ _ hA; have a6 := cell_of_row _ _ 6 _ _ _ hA; have z0 := cell_of_row _ _ 0 _ _ _ hZ; have fz0 := frozen_of_row _ _ 0 _ _ hZ; have z1 := cell_of_row _ _ 1 _ _ _ hZ; have fz1 := frozen_of_row _ _ 1 _ _ hZ; simp only [List.getElem?_toArray, List.getElem?_cons_zero, List.getElem?_cons_succ] at d0 d1 a0 a1 a2 a3 a4 a5 a6 z0 z1; obtain ⟨u0, k0⟩ : ∃ u, w4.cell? ⟨g, q + I.toNat * 7, none⟩ = some u := (by rw [hcel (I.toNat * 7) (by rw [cellsD_len]; omega), cellsD_at _ _ _ _ (by omega)]; exact ⟨_, rfl⟩); have f0 := frozen_of_row _ _ (q + I.toNat * 7) _ _ hcur; obtain ⟨u1, k1⟩ : ∃ u, w4.cell? ⟨g, q + I.toNat * 7 + 1, none⟩ = some u := (by rw [Nat.add_assoc q, hcel (I.toNat * 7 + 1) (by rw [cellsD_len]; omega), cellsD_at _ _ _ _ (by omega)]; exact ⟨_, rfl⟩); have f1 := frozen_of_row _ _ (q + I.toNat * 7 + 1) _ _ hcur; obtain ⟨u2, k2⟩ : ∃ u, w4.cell? ⟨g, q + I.toNat * 7 + 2, none⟩ = some u := (by rw [Nat.add_assoc q, hcel (I.toNat * 7 + 2) (by rw [cellsD_len]; omega), cellsD_at _ _ _ _ (by omega)]; exact ⟨_, rfl⟩); have f2 := frozen_of_row _ _ (q + I.toNat * 7 + 2) _ _ hcur; obtain ⟨u3, k3⟩ : ∃ u, w4.cell? ⟨g, q + I.toNat * 7 + 3, none⟩ = some u := (by rw [Nat.add_assoc q, hcel (I.toNat * 7 + 3) (by rw [cellsD_len]; omega), cellsD_at _ _ _ _ (by omega)]; exact ⟨_, rfl⟩); have f3 := frozen_of_row _ _ (q + I.toNat * 7 + 3) _ _ hcur; obtain ⟨u4, k4⟩ : ∃ u, w4.cell? ⟨g, q + I.toNat * 7 + 4, none⟩ = some u := (by rw [Nat.add_assoc q, hcel (I.toNat * 7 + 4) (by rw [cellsD_len]; omega), cellsD_at _ _ _ _ (by omega)]; exact ⟨_, rfl⟩); have f4 := frozen_of_row _ _ (q + I.toNat * 7 + 4) _ _ hcur; obtain ⟨u5, k5⟩ : ∃ u, w4.cell? ⟨g, q + I.toNat * 7 + 5, none⟩ = some u := (by rw [Nat.add_assoc q, hcel (I.toNat * 7 + 5) (by rw [cellsD_len]; omega), cellsD_at _ _ _ _ (by omega)]; exact ⟨_, rfl⟩); have f5 := frozen_of_row _ _ (q + I.toNat * 7 + 5) _ _ hcur; obtain ⟨u6, k6⟩ : ∃ u, w4.cell? ⟨g, q + I.toNat * 7 + 6, none⟩ = some u := (by rw [Nat.add_assoc q, hcel (I.toNat * 7 + 6) (by rw [cellsD_len]; omega), cellsD_at _ _ _ _ (by omega)]; exact ⟨_, rfl⟩); have f6 := frozen_of_row _ _ (q + I.toNat * 7 + 6) _ _ hcur; clear hown4 hat4 hg4 hcel hB hA hZ hcur)
  refine bodyPost_ret (v := valD (some ⟨g, q, none⟩) n cp am) (by simp [results, Try.results81, go_sem, z0, z1]) rfl ⟨g, q, cp, rfl, by omega, by simpa using hgs, ?_, ?_, ?_⟩
  · have hb4 := HW.out.grown HG4.out HW.out.size (fun k e => by have e2 : some (w.heap.size + 1 + 1 + 1) = some k := e; have := Option.some.inj e2; omega)
    exact (((((((((hb4.setCell (p := ⟨w.heap.size, 0, none⟩) (Nat.le_refl _) _).setCell (p := ⟨g, q + I.toNat * 7, none⟩) (by simp; omega) _).setCell (p := ⟨g, q + I.toNat * 7 + 1, none⟩) (by simp; omega) _).setCell (p := ⟨g, q + I.toNat * 7 + 2, none⟩) (by simp; omega) _).setCell (p := ⟨g, q + I.toNat * 7 + 3, none⟩) (by simp; omega) _).setCell (p := ⟨g, q + I.toNat * 7 + 4, none⟩) (by simp; omega) _).setCell (p := ⟨g, q + I.toNat * 7 + 5, none⟩) (by simp; omega) _).setCell (p := ⟨g, q + I.toNat * 7 + 6, none⟩) (by simp; omega) _).setCell (p := ⟨w.heap.size + 1 + 1, 0, none⟩) (by simp; omega) _).setCell (p := ⟨w.heap.size + 1 + 1, 1, none⟩) (by simp; omega) _
  · exact ⟨(by rw [World.cell?_setCell_other _ _ _ _ (ne_addr (by omega)), World.cell?_setCell_other _ _ _ _ (ne_addr (by omega)), World.cell?_setCell_other _ _ _ _ (ne_addr (by omega)), World.cell?_setCell_other _ _ _ _ (ne_addr (by omega)), World.cell?_setCell_other _ _ _ _ (ne_addr (by omega)), World.cell?_setCell_other _ _ _ _ (ne_addr (by omega)), World.cell?_setCell_other _ _ _ _ (ne_addr (by omega)), World.cell?_setCell_other _ _ _ _ (ne_addr (by omega))]; exact World.cell?_setCell_same _ _ _ (u := u0) (by rw [World.cell?_setCell_other _ _ _ _ (ne_addr (by omega))]; exact k0)), (by rw [World.cell?_setCell_other _ _ _ _ (ne_addr (by omega)), World.cell?_setCell_other _ _ _ _ (ne_addr (by omega)), World.cell?_setCell_other _ _ _ _ (ne_addr (by omega)), World.cell?_setCell_other _ _ _ _ (ne_addr (by omega)), World.cell?_setCell_other _ _ _ _ (ne_addr (by omega)), World.cell?_setCell_other _ _ _ _ (ne_addr (by omega)), World.cell?_setCell_other _ _ _ _ (ne_addr (by omega))]; exact World.cell?_setCell_same _ _ _ (u := u1) (by rw [World.cell?_setCell_other _ _ _ _ (ne_addr (by omega)), World.cell?_setCell_other _ _ _ _ (ne_addr (by omega))]; exact k1)), (by rw [World.cell?_setCell_other _ _ _ _ (ne_addr (by omega)), World.cell?_setCell_other _ _ _ _ (ne_addr (by omega)), World.cell?_setCell_other _ _ _ _ (ne_addr (by omega)), World.cell?_setCell_other _ _ _ _ (ne_addr (by omega)), World.cell?_setCell_other _ _ _ _ (ne_addr (by omega)), World.cell?_setCell_other _ _ _ _ (ne_addr (by omega))]; exact World.cell?_setCell_same _ _ _ (u := u2) (by rw [World.cell?_setCell_other _ _ _ _ (ne_addr (by omega)), World.cell?_setCell_other _ _ _ _ (ne_addr (by omega)), World.cell?_setCell_other _ _ _ _ (ne_addr (by omega))]; exact k2)), (by rw [World.cell?_setCell_other _ _ _ _ (ne_addr (by omega)), World.cell?_setCell_other _ _ _ _ (ne_addr (by omega)), World.cell?_setCell_other _ _ _ _ (ne_addr (by omega)), World.cell?_setCell_other _ _ _ _ (ne_addr (by omega)), World.cell?_setCell_other _ _ _ _ (ne_addr (by omega))]; exact World.cell?_setCell_same _ _ _ (u := u3) (by rw [World.cell?_setCell_other _ _ _ _ (ne_addr (by omega)), World.cell?_setCell_other _ _ _ _ (ne_addr (by omega)), World.cell?_setCell_other _ _ _ _ (ne_addr (by omega)), World.cell?_setCell_other _ _ _ _ (ne_addr (by omega))]; exact k3)), (by rw [World.cell?_setCell_other _ _ _ _ (ne_addr (by omega)), World.cell?_setCell_other _ _ _ _ (ne_addr (by omega)), World.cell?_setCell_other _ _ _ _ (ne_addr (by omega)), World.cell?_setCell_other _ _ _ _ (ne_addr (by omega))]; exact World.cell?_setCell_same _ _ _ (u := u4) (by rw [World.cell?_setCell_other _ _ _ _ (ne_addr (by omega)), World.cell?_setCell_other _ _ _ _ (ne_addr (by omega)), World.cell?_setCell_other _ _ _ _ (ne_addr (by omega)), World.cell?_setCell_other _ _ _ _ (ne_addr (by omega)), World.cell?_setCell_other _ _ _ _ (ne_addr (by omega))]; exact k4)), (by rw [World.cell?_setCell_other _ _ _ _ (ne_addr (by omega)), World.cell?_setCell_other _ _ _ _ (ne_addr (by omega)), World.cell?_setCell_other _ _ _ _ (ne_addr (by omega))]; exact World.cell?_setCell_same _ _ _ (u := u5) (by rw [World.cell?_setCell_other _ _ _ _ (ne_addr (by omega)), World.cell?_setCell_other _ _ _ _ (ne_addr (by omega)), World.cell?_setCell_other _ _ _ _ (ne_addr (by omega)), World.cell?_setCell_other _ _ _ _ (ne_addr (by omega)), World.cell?_setCell_other _ _ _ _ (ne_addr (by omega)), World.cell?_setCell_other _ _ _ _ (ne_addr (by omega))]; exact k5)), (by rw [World.cell?_setCell_other _ _ _ _ (ne_addr (by omega)), World.cell?_setCell_other _ _ _ _ (ne_addr (by omega))]; exact World.cell?_setCell_same _ _ _ (u := u6) (by rw [World.cell?_setCell_other _ _ _ _ (ne_addr (by omega)), World.cell?_setCell_other _ _ _ _ (ne_addr (by omega)), World.cell?_setCell_other _ _ _ _ (ne_addr (by omega)), World.cell?_setCell_other _ _ _ _ (ne_addr (by omega)), World.cell?_setCell_other _ _ _ _ (ne_addr (by omega)), World.cell?_setCell_other _ _ _ _ (ne_addr (by omega)), World.cell?_setCell_other _ _ _ _ (ne_addr (by omega))]; exact k6))⟩
  · intro i hi hne r hr
    have hii : i * 7 + r < n * 7 := by omega
    rw [World.cell?_setCell_other _ _ _ _ (ne_addr (by omega)), World.cell?_setCell_other _ _ _ _ (ne_addr (by omega)), World.cell?_setCell_other _ _ _ _ (ne_addr (by omega)), World.cell?_setCell_other _ _ _ _ (ne_addr (by omega)), World.cell?_setCell_other _ _ _ _ (ne_addr (by omega)), World.cell?_setCell_other _ _ _ _ (ne_addr (by omega)), World.cell?_setCell_other _ _ _ _ (ne_addr (by omega)), World.cell?_setCell_other _ _ _ _ (ne_addr (by omega)), World.cell?_setCell_other _ _ _ _ (ne_addr (by omega)), World.cell?_setCell_other _ _ _ _ (ne_addr (by omega)), Nat.add_assoc q, HC4.out (i * 7 + r) (by rw [cellsD_len]; exact hii), cellsD_at _ _ _ _ hii]
    obtain ⟨u, hu, _⟩ := row_any hR.out hii
    obtain ⟨u', hu', _⟩ := row_any HR0.out hii
    rw [hu, Option.getD_some, Nat.add_assoc o, ← hu]
    exact World.cell?_of_block (w := w) (a := ⟨b, o + (i * 7 + r), none⟩) (HW.out.block b hbl)
end

end Go.Proofs.Ytdodnegdpdhbiaa

namespace Go.Proofs.Ytdodnegdpdhbiaa
open Go.RowKit

/-- The seven cells of an area, as a value. -/
abbrev valA (x : Pt) (ra : Option Addr) (rc : Nat) : Value := .agg #[.int .i64 (x.B : Int), .int .i64 (x.k : Int), .int .i64 (x.c : Int), .slice ra x.bs.length rc, .int .i64 x.fd, .int .i64 x.fk, .int .u8 (x.ft : Int)]
/-- A call that answers a disk: new memory. -/
structure NewD (w : World) (F : Nat → Prop) (n : Nat) (am : Bool) (s : Nat → Pt) (v : Value) (w' : World) : Prop where
  ex : ∃ a c, v = valD a n c am ∧ Dd w' F a n s
  bel : Below w.heap.size w w'

section
variable {w : World} {F : Nat → Prop} {a : Option Addr} {n c : Nat} {am : Bool} {s : Nat → Pt}
theorem withD (h : Dd w F a n s) (hF : ∀ b, F b → b < w.heap.size) (I : Int) (hi : inD n I = true) (x : Pt) (hx : PtOk x) (ra : Option Addr) (rc : Nat) (hr : RowB w ra x.bs) (hf : x.bs.length = 0 ∨ farA F ra) (hc : x.bs.length ≤ rc) (hnil : ra = none → x.bs.length = 0 ∧ rc = 0) :
    Calls Try.prog 81 #[valD a n c am, .int .i64 I, valA x ra rc] w fun e w' => ∃ v, e = .returned v ∧ NewD w F n am (upd s I.toNat x) v w' := by
  obtain ⟨b, o, rfl, hbl, hnF, hrr⟩ := h.row
  refine (withR (c := c) (am := am) hbl (fun i hi => by obtain ⟨r1, r2, h1, _⟩ := hrr i hi; exact ⟨r1, r2, h1⟩) h.few.1 h.few.2 I hi x ra rc).mono ?_
  rintro e w' ⟨g, q, cp, rfl, hg, hgs, hb, hsv, hot⟩
  refine ⟨_, rfl, ⟨_, _, rfl, ⟨g, q, rfl, hgs, fun hx => by have := hF g hx; omega, fun i hin => ?_⟩, h.few, fun i hin => ?_⟩, hb⟩
  · by_cases e : i = I.toNat
    · subst e
      rw [upd_at]
      exact ⟨ra, rc, hsv, RowB.below hr hb, hf, hc, hnil⟩
    · rw [upd_ne _ _ _ e]
      obtain ⟨r1, r2, h1, h2, h3⟩ := hrr i hin
      have hh := hot i hin e
      exact ⟨r1, r2, ⟨(hh 0 (by omega)).trans h1.c0, (hh 1 (by omega)).trans h1.c1, (hh 2 (by omega)).trans h1.c2, (hh 3 (by omega)).trans h1.c3, (hh 4 (by omega)).trans h1.c4, (hh 5 (by omega)).trans h1.c5, (hh 6 (by omega)).trans h1.c6⟩, RowB.below h2 hb, h3⟩
  · by_cases e : i = I.toNat
    · subst e; rw [upd_at]; exact hx
    · rw [upd_ne _ _ _ e]; exact h.ok i hin
end

end Go.Proofs.Ytdodnegdpdhbiaa

namespace Go.Proofs.Ytdodnegdpdhbiaa
open Go.RowKit

/-- The two boxes that an operation begins with. -/
theorem box2 (w : World) (a : Option Addr) (n c : Nat) (am : Bool) {W : World} (hb : Below (w.heap.size + 1 + 1) ((w.alloc (.cells #[.slice a n c, .bool am] 45)).alloc (.cells #[.slice none 0 0, .bool false] 45)) W) : W.heap[w.heap.size]? = some (.cells #[.slice a n c, .bool am] 45) ∧ W.heap[w.heap.size + 1]? = some (.cells #[.slice none 0 0, .bool false] 45) := by
  constructor
  · exact (hb.block _ (by omega)).trans ((Below.heap_alloc _ _ _ (by simp)).trans (heap_alloc_new w _))
  · exact (hb.block _ (by omega)).trans (by have := heap_alloc_new (w.alloc (.cells #[.slice a n c, .bool am] 45)) (.cells #[.slice none 0 0, .bool false] 45); rwa [World.size_alloc] at this)

theorem Dd.anti {w : World} {F G : Nat → Prop} {a : Option Addr} {n : Nat} {s : Nat → Pt} (h : Dd w F a n s) (hg : ∀ b, G b → F b) : Dd w G a n s := by
  obtain ⟨b, o, e, hl, hF, hr⟩ := h.row
  refine ⟨⟨b, o, e, hl, fun x => hF (hg b x), fun i hi => ?_⟩, h.few, h.ok⟩
  obtain ⟨ra, rc, h1, h2, h3, h4⟩ := hr i hi
  exact ⟨ra, rc, h1, h2, h3.imp (fun e => e) fun h3 ad e x => h3 ad e (hg _ x), h4⟩
/-- .. beside one more block, that is new. -/
theorem Dd.beside {w : World} {F : Nat → Prop} {a : Option Addr} {n : Nat} {s : Nat → Pt} (h : Dd w F a n s) (k : Nat) (hk : w.heap.size ≤ k) : Dd w (fun b => F b ∨ b = k) a n s :=
  h.grow.anti fun b hb => hb.imp (fun e => e) fun e => by omega

section
variable {w : World} {F : Nat → Prop} {a : Option Addr} {n c : Nat} {am : Bool} {s : Nat → Pt}
set_option maxRecDepth 100000 in
set_option maxHeartbeats 1600000 in
theorem syncR_no (h : Dd w F a n s) (I : Int) (hE : dnR am n s I ≠ 0) : Calls Try.prog 53 #[valD a n c am, .int .i64 I] w fun e w' => ∃ v, e = .returned (.tuple #[v, .int .i64 (dnR am n s I)]) ∧ NewD w F n am s v w' := by
  have hb0 : Below w.heap.size w ((w.alloc (.cells #[.slice a n c, .bool am] 45)).alloc (.cells #[.slice none 0 0, .bool false] 45)) := ((Below.refl _ _).alloc (Nat.le_refl _) _).alloc (by simp) _
  have hh := downR (c := c) (am := am) (h.below hb0) I
  obtain ⟨E, hEq⟩ : ∃ E, E = dnR am n s I := ⟨_, rfl⟩
  rw [← hEq] at hh hE
  rw [← hEq]
  have hd := hide_it h
  clear hEq h
  go_enter Try.func53, Try.ntmps53
  go_wp2_with fail
  refine hh.mono ?_
  rintro e w1 ⟨rfl, hb1⟩
  have hbw := hb0.trans (hb1.mono hb0.size)
  obtain ⟨hB, hZ⟩ := box2 w a n c am (by simpa using hb1)
  have d0 := cell_of_row _ _ 0 _ _ _ hB
  have d1 := cell_of_row _ _ 1 _ _ _ hB
  have z0 := cell_of_row _ _ 0 _ _ _ hZ
  have z1 := cell_of_row _ _ 1 _ _ _ hZ
  have f0 := frozen_of_row _ _ 0 _ _ hZ
  have f1 := frozen_of_row _ _ 1 _ _ hZ
  simp only [List.getElem?_toArray, List.getElem?_cons_zero, List.getElem?_cons_succ] at d0 d1 z0 z1
  clear hh hB hZ
  go_wp2_with fail
  have hfin := (hbw.setCell (p := ⟨w.heap.size + 1, 0, none⟩) (by simp) (.slice a n c)).setCell (p := ⟨w.heap.size + 1, 1, none⟩) (by simp) (.bool am)
  refine bodyPost_ret (v := .tuple #[valD a n c am, .int .i64 E]) (by simp [results, Try.results53, go_sem, z0, z1]) rfl ⟨_, rfl, ⟨_, _, rfl, hd.out.below hfin⟩, hfin⟩

set_option maxRecDepth 100000 in
set_option maxHeartbeats 1600000 in
theorem syncR_ok (h : Dd w F a n s) (hF : ∀ b, F b → b < w.heap.size) (I : Int) (hi : inD n I = true) (hE : dnR am n s I = 0) (hct : (s I.toNat).c + 1 ≤ 4611686018427387904) : Calls Try.prog 53 #[valD a n c am, .int .i64 I] w fun e w' => ∃ v, e = .returned (.tuple #[v, .int .i64 0]) ∧ NewD w F n am (upd s I.toNat { s I.toNat with k := (s I.toNat).bs.length, c := (s I.toNat).c + 1 }) v w' := by
  have hb0 : Below w.heap.size w ((w.alloc (.cells #[.slice a n c, .bool am] 45)).alloc (.cells #[.slice none 0 0, .bool false] 45)) := ((Below.refl _ _).alloc (Nat.le_refl _) _).alloc (by simp) _
  have hh := downR (c := c) (am := am) (h.below hb0) I
  rw [hE] at hh
  obtain ⟨i1, i2⟩ := inD_iff hi
  have x1 : 0 ≤ I := by omega
  have x2 : I < (n : Int) := by omega
  have hok := h.ok I.toNat i2
  have hd := hide_it (h.beside (w.heap.size + 1) (by omega))
  have HI := hide_it hi
  have HF : Hid (∀ b, (F b ∨ b = w.heap.size + 1) → b < w.heap.size + 1 + 1) := hide_it fun b hb => by
    rcases hb with hb | hb
    · have := hF b hb; omega
    · omega
  clear h i1 hE hi hF
  obtain ⟨y, hy⟩ : ∃ y, y = s I.toNat := ⟨_, rfl⟩
  rw [← hy] at hok hct
  rw [← hy]
  have HY := hide_it hy
  clear hy
  have hw1 : IntKind.i64.wrap ((y.c : Int) + 1) = ((y.c + 1 : Nat) : Int) := by rw [IntKind.wrap_i64]; omega
  have HO := hide_it hok
  clear hok
  obtain ⟨y', hy'⟩ : ∃ z : Pt, z = { y with k := y.bs.length, c := y.c + 1 } := ⟨_, rfl⟩
  rw [← hy']
  obtain ⟨C1, hC1⟩ : ∃ C, C = y.c + 1 := ⟨_, rfl⟩
  rw [← hC1] at hw1 hy'
  have HC := hide_it hC1
  have HCT := hide_it hct
  clear hC1 hct
  replace hy' := hide_it hy'
  go_enter Try.func53, Try.ntmps53
  go_wp2_with fail
  refine hh.mono ?_
  rintro e w1 ⟨rfl, hb1⟩
  have hbw := hb0.trans (hb1.mono hb0.size)
  obtain ⟨hB, hZ⟩ := box2 w a n c am (by simpa using hb1)
  have hls : w.heap.size + 1 + 1 ≤ w1.heap.size := by simpa using hb1.size
  have hl0 : w.heap.size < w1.heap.size := by omega
  have hl1 : w.heap.size + 1 < w1.heap.size := by omega
  have d0 := cell_of_row _ _ 0 _ _ _ hB
  have d1 := cell_of_row _ _ 1 _ _ _ hB
  simp only [List.getElem?_toArray, List.getElem?_cons_zero, List.getElem?_cons_succ] at d0 d1
  have HD1 := hide_it (hd.out.below hbw)
  obtain ⟨b, o, hab, hbl, _, hrr⟩ := (hd.out.below hbw).row
  subst hab
  obtain ⟨ra, rc, hv, hrow, hfar, hrc, hnil⟩ := hrr I.toNat i2
  rw [← HY.out] at hv hrow hfar hrc hnil
  obtain ⟨c0, c1, c2, c3, c4, c5, c6⟩ := hv
  have HRW := hide_it (And.intro hrow (And.intro hfar (And.intro hrc hnil)))
  have HZ := hide_it hZ
  clear hh hB hZ hrr hb1 hrow hfar hrc hnil hd
  go_wp2_with fail
  have hbA : Below w1.heap.size w1 (w1.alloc (.cells #[.int .i64 (y.B : Int), .int .i64 (y.bs.length : Int), .int .i64 (C1 : Int), .slice ra y.bs.length rc, .int .i64 y.fd, .int .i64 y.fk, .int .u8 (y.ft : Int)] 108)) := (Below.refl _ _).alloc (Nat.le_refl _) _
  have hcall := withD (c := c) (am := am) (HD1.out.below hbA) (fun b hb => by have := HF.out b hb; have := hbA.size; omega) I HI.out y' (by rw [hy'.out, HC.out]; have := HO.out; exact ⟨Nat.le_refl _, this.all, this.len, this.room, HCT.out, this.ft⟩) ra rc (by rw [hy'.out]; exact RowB.below HRW.out.1 hbA) (by rw [hy'.out]; exact HRW.out.2.1) (by rw [hy'.out]; exact HRW.out.2.2.1) (by rw [hy'.out]; exact HRW.out.2.2.2)
  unfold valA at hcall
  rw [hy'.out] at hcall
  simp only at hcall
  rw [← hy'.out] at hcall
  refine hcall.mono ?_
  rintro e w6 ⟨v, rfl, ⟨a6, c6', rfl, hD6⟩, hb6⟩
  have hb6' := hbw.trans ((hbA.trans (hb6.mono hbA.size)).mono hbw.size)
  have hZ6 := ((hbA.trans (hb6.mono hbA.size)).block _ hl1).trans HZ.out
  have z0 := cell_of_row _ _ 0 _ _ _ hZ6
  have z1 := cell_of_row _ _ 1 _ _ _ hZ6
  have f0 := frozen_of_row _ _ 0 _ _ hZ6
  have f1 := frozen_of_row _ _ 1 _ _ hZ6
  simp only [List.getElem?_toArray, List.getElem?_cons_zero, List.getElem?_cons_succ] at z0 z1
  have HD6 := hide_it hD6
  have HB6 := hide_it hb6'
  clear hcall hZ6 hD6 hb6 hb6' hbA
  go_wp2_with fail
  have hch : Chg (fun b => F b ∨ b = w.heap.size + 1) w6 ((w6.setCell ⟨w.heap.size + 1, 0, none⟩ (.slice a6 n c6')).setCell ⟨w.heap.size + 1, 1, none⟩ (.bool am)) := ((Chg.refl _ w6).setCell _ _ (fun _ => .inr rfl)).setCell _ _ (fun _ => .inr rfl)
  exact bodyPost_ret (v := .tuple #[valD a6 n c6' am, .int .i64 0]) (by simp [results, Try.results53, go_sem, z0, z1]) rfl ⟨_, rfl, ⟨_, _, rfl, (HD6.out.chg hch).anti (fun b hb => .inl hb)⟩, (HB6.out.setCell (p := ⟨w.heap.size + 1, 0, none⟩) (by simp) _).setCell (p := ⟨w.heap.size + 1, 1, none⟩) (by simp) _⟩
end

end Go.Proofs.Ytdodnegdpdhbiaa
