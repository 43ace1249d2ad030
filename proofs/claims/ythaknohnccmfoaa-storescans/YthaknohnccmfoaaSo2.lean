/- What a store is asked: the chain of a key; Get, Newest. -/
import Derived.Test.YthaknohnccmfoaaSo1
import Derived.StringKeys
namespace Go.Proofs.Ythaknohnccmfoaa
open Go.RowKit Go.Maps

set_option maxRecDepth 100000 in
set_option maxHeartbeats 400000 in
theorem bclone_any (a : Option Addr) (cap : Nat) (zs : List Nat) (w : World) (hr : RowB w a zs) (hl : zs.length ≤ 140737488355328) (hnil : a = none → zs.length = 0 ∧ cap = 0) :
    Calls Try.prog 44 #[.slice a zs.length cap] w fun e w' => (∃ v, e = .returned v ∧ OwnB w' w.heap.size v zs) ∧ Below w.heap.size w w' := by
  have hb0 : Below w.heap.size w (w.alloc (.cells #[] 5)) := (Below.refl _ _).alloc (Nat.le_refl _) _
  have hr0 := hr.below hb0
  have hn1 := fun (w : World) (a : Option Addr) (n c : Nat) => Lib.run_eql_slice_nil (P := Try.prog) w 28 5 a n c 0 0 Try.underlying28
  cases a with
  | none =>
    obtain ⟨h1, h2⟩ := hnil rfl
    have hzs : zs = [] := List.eq_nil_of_length_eq_zero h1
    subst hzs
    subst h2
    go_enter Try.func44, Try.ntmps44
    go_wp2
    go_ret
    exact ⟨⟨_, rfl, World.ownsRow_nil _ _ _ _⟩, Below.refl _ _⟩
  | some ad =>
    clear hr
    go_enter Try.func44, Try.ntmps44
    go_wp2_with (at_builtin; refine wpList_append_row _ rfl _ _ rfl w.heap.size _ [] rfl (own_empty w) (some ad) cap zs rfl hr0 hnil (by simp; omega) hb0.size ?_; intro vc w0 hown0 hg0 hat0)
    go_ret
    exact ⟨⟨_, rfl, by rw [List.nil_append] at hown0; exact hown0⟩, hb0.grown hg0 hb0.size (fun j e => by cases e; exact Nat.le_refl _)⟩

/-! ### a chain that is not there -/
set_option maxRecDepth 100000 in
set_option maxHeartbeats 400000 in
theorem last_none (w : World) : Calls Try.prog 46 #[.pointer none] w fun e w' => e = kY.tellL kY.zeroLk false ∧ Below w.heap.size w w' := by
  obtain ⟨W, hW⟩ : ∃ W, W = w.alloc (.cells #[.int .i64 0, .slice none 0 0, .bool false] 95) := ⟨_, rfl⟩
  have hb : Below w.heap.size w W := by rw [hW]; exact (Below.refl _ _).alloc (Nat.le_refl _) _
  have hlt : w.heap.size < W.heap.size := by rw [hW]; simp
  have c0 : ∀ z, Below W.heap.size W z → z.heap[w.heap.size]? = some (.cells #[.int .i64 0, .slice none 0 0, .bool false] 95 (0, 0)) := fun z hz => by
    rw [hz.block w.heap.size hlt, hW]; exact heap_alloc_new w _
  have hlen := kY.len_none W
  have hla := kY.lastOf_zero none W
  go_enter Try.func46, Try.ntmps46
  go_wp2_with fail
  rw [← hW]
  clear hW
  refine hlen.mono ?_
  rintro e w1 ⟨rfl, hw1⟩
  obtain rfl := hw1.symm
  clear hlen hw1
  go_wp2_with fail
  refine hla.mono ?_
  rintro e w2 ⟨rfl, hb2⟩
  have k0 := c0 w2 hb2
  have f0 : ∀ j, w2.frozen? ⟨w.heap.size, j, none⟩ = false := fun j => frozen_of_row _ _ _ _ _ k0
  have d0 : w2.cell? ⟨w.heap.size, 0, none⟩ = some (.int .i64 0) := cell_of_row _ _ _ _ _ _ k0
  have d1 : w2.cell? ⟨w.heap.size, 1, none⟩ = some (.slice none 0 0) := cell_of_row _ _ _ _ _ _ k0
  have d2 : w2.cell? ⟨w.heap.size, 2, none⟩ = some (.bool false) := cell_of_row _ _ _ _ _ _ k0
  have hz := hb2.size
  have HB := hide_it (hb.trans (hb2.mono hb.size))
  clear c0 hla hb2 k0
  unfold kY.tellL kY.lkV kY.zeroLk
  go_wp2
  refine bodyPost_ret (v := .tuple #[.agg #[.int .i64 0, .slice none 0 0, .bool false], .bool false]) (by simp [results, Try.results46, d0, d1, d2, go_sem]) rfl ⟨rfl, ?_⟩
  exact ((HB.out.setCell (p := ⟨w.heap.size, 0, none⟩) (Nat.le_refl _) _).setCell (p := ⟨w.heap.size, 1, none⟩) (Nat.le_refl _) _).setCell (p := ⟨w.heap.size, 2, none⟩) (Nat.le_refl _) _

set_option maxRecDepth 100000 in
set_option maxHeartbeats 1000000 in
theorem upTo_none (s : Int) (w : World) :
    Calls Try.prog 65 #[.pointer none, .int .i64 s] w fun e w' => e = .returned (.int .i64 0) ∧ Below w.heap.size w w' := by
  obtain ⟨W, hW⟩ : ∃ W, W = (w.alloc (.cells #[.pointer none] 88)).alloc (.cells #[.int .i64 s] 3) := ⟨_, rfl⟩
  have hb : Below w.heap.size w W := by rw [hW]; exact ((Below.refl _ _).alloc (Nat.le_refl _) _).alloc (by simp) _
  have c0 : W.cell? ⟨w.heap.size, 0, none⟩ = some (.pointer none) := by
    rw [hW, cell_of_row _ _ _ _ _ _ (show ((w.alloc _).alloc _).heap[w.heap.size]? = _ by rw [Below.heap_alloc _ _ _ (by simp)]; exact heap_alloc_new w _)]; rfl
  have hlen := kY.len_none W
  have hs := kY.search_any w.heap.size (w.heap.size + 1) 0 (fun _ => false) W (by omega) (hide_it fun a b _ h => by omega) (hide_it fun z i _ h => by omega)
  have hmf : ∀ (fn : Fn) (first cap : Array Value) (w : World), (Instr.makeFunc fn first cap).run Try.prog w = .ok (.func fn first cap) w := fun _ _ _ _ => rfl
  go_enter Try.func65, Try.ntmps65
  go_wp2_with fail
  rw [← hW]
  clear hW
  refine hlen.mono ?_
  rintro e w1 ⟨rfl, hw1⟩
  obtain rfl := hw1.symm
  clear hlen hw1
  go_wp2_with fail
  refine hs.mono ?_
  rintro e w2 ⟨⟨J, rfl, hJ, _, _⟩, hb2⟩
  obtain rfl : J = 0 := by omega
  have HB := hide_it (hb.trans (hb2.mono hb.size))
  clear hs hb2 hJ
  go_wp2_with fail
  go_ret
  exact ⟨rfl, HB.out⟩

set_option maxRecDepth 100000 in
set_option maxHeartbeats 400000 in
theorem at_none (s : Int) (w : World) : Calls Try.prog 50 #[.pointer none, .int .i64 s] w fun e w' => e = kY.tellL kY.zeroLk false ∧ Below w.heap.size w w' := by
  obtain ⟨W, hW⟩ : ∃ W, W = w.alloc (.cells #[.int .i64 0, .slice none 0 0, .bool false] 95) := ⟨_, rfl⟩
  have hb : Below w.heap.size w W := by rw [hW]; exact (Below.refl _ _).alloc (Nat.le_refl _) _
  have hlt : w.heap.size < W.heap.size := by rw [hW]; simp
  have c0 : ∀ z, Below W.heap.size W z → z.heap[w.heap.size]? = some (.cells #[.int .i64 0, .slice none 0 0, .bool false] 95 (0, 0)) := fun z hz => by
    rw [hz.block w.heap.size hlt, hW]; exact heap_alloc_new w _
  have hup := upTo_none s W
  have hla := fun z => kY.lastOf_zero none z
  go_enter Try.func50, Try.ntmps50
  go_wp2_with fail
  rw [← hW]
  clear hW
  refine hup.mono ?_
  rintro e w1 ⟨rfl, hb1⟩
  clear hup
  go_wp2_with fail
  refine (hla w1).mono ?_
  rintro e w2 ⟨rfl, hb2⟩
  have hz1 := hb1.size
  have hb12 := hb1.trans (hb2.mono hb1.size)
  have k0 := c0 w2 hb12
  have f0 : ∀ j, w2.frozen? ⟨w.heap.size, j, none⟩ = false := fun j => frozen_of_row _ _ _ _ _ k0
  have d0 : w2.cell? ⟨w.heap.size, 0, none⟩ = some (.int .i64 0) := cell_of_row _ _ _ _ _ _ k0
  have d1 : w2.cell? ⟨w.heap.size, 1, none⟩ = some (.slice none 0 0) := cell_of_row _ _ _ _ _ _ k0
  have d2 : w2.cell? ⟨w.heap.size, 2, none⟩ = some (.bool false) := cell_of_row _ _ _ _ _ _ k0
  have hz := hb2.size
  have HB := hide_it (hb.trans (hb12.mono hb.size))
  clear c0 hla hb1 hb2 hb12 k0
  unfold kY.tellL kY.lkV kY.zeroLk
  go_wp2
  refine bodyPost_ret (v := .tuple #[.agg #[.int .i64 0, .slice none 0 0, .bool false], .bool false]) (by simp [results, Try.results50, d0, d1, d2, go_sem]) rfl ⟨rfl, ?_⟩
  exact ((HB.out.setCell (p := ⟨w.heap.size, 0, none⟩) (Nat.le_refl _) _).setCell (p := ⟨w.heap.size, 1, none⟩) (Nat.le_refl _) _).setCell (p := ⟨w.heap.size, 2, none⟩) (Nat.le_refl _) _

/-! ### whatever chain -/
/-- What a pointer of the map leads to. -/
def At (M : List Ky) (k : List UInt8) (q : Option Addr) : Prop := (kyOf M k = none ∧ q = none) ∨ ∃ e, kyOf M k = some e ∧ q = some ⟨e.c, 0, none⟩
/-- A link that is told: none, or one that reads as a version. -/
def TellsL (w : World) (F : Nat → Prop) (x : kY.Lk) (b : Bool) (l : Ver) : Prop := (b = false ∧ x = kY.zeroLk) ∨ (b = true ∧ LinkIs w F x l)

theorem upN_ls {w : World} {F : Nat → Prop} {e : Ky} (h : KyOk w F e) (s : Int) : kY.upN e.xs s = upV e.ls s := by
  have hm : e.xs.map (·.n) = e.ls.map (·.n) := by
    apply List.ext_getElem (by simp [h.len])
    intro i h1 h2
    have hi : i < e.xs.length := by simpa using h1
    have hj : i < e.ls.length := by rw [← h.len]; exact hi
    rw [List.getElem_map, List.getElem_map, kY.lk_get hi, vr_get hj]
    exact (h.at_ i hi).n
  have e1 : kY.upN e.xs s = ((e.xs.map (·.n)).filter fun n => decide (n ≤ s)).length := by unfold kY.upN; rw [List.filter_map, List.length_map]; rfl
  have e2 : upV e.ls s = ((e.ls.map (·.n)).filter fun n => decide (n ≤ s)).length := by unfold upV; rw [List.filter_map, List.length_map]; rfl
  rw [e1, e2, hm]

theorem lsOf_at {M : List Ky} {k : List UInt8} {q : Option Addr} (h : At M k q) : (q = none ∧ lsOf (abs M) k = []) ∨ ∃ e, e ∈ M ∧ e.k = k ∧ q = some ⟨e.c, 0, none⟩ ∧ lsOf (abs M) k = e.ls := by
  rcases h with ⟨h1, h2⟩ | ⟨e, h1, h2⟩
  · exact .inl ⟨h2, by rw [lsOf_abs, h1]; rfl⟩
  · exact .inr ⟨e, (kyOf_some h1).1, (kyOf_some h1).2, h2, by rw [lsOf_abs, h1]; rfl⟩

/-- How many versions there are. -/
def tot (A : Cont) : Nat := (A.map fun e => e.2.length).sum
theorem ls_le_tot {M : List Ky} {e : Ky} (he : e ∈ M) : e.ls.length ≤ tot (abs M) := by
  unfold tot abs
  rw [List.map_map]
  induction M with
  | nil => cases he
  | cons f r ih =>
    rw [List.map_cons, List.sum_cons]
    rcases List.mem_cons.1 he with e1 | he'
    · rw [e1]; exact Nat.le_add_right _ _
    · exact Nat.le_trans (ih he') (Nat.le_add_left _ _)

section
variable {w : World} {F : Nat → Prop} {s : Nat} {mb : Option Nat} {M : List Ky}
theorem chAt_any (h : Sto w F s mb M) {k : List UInt8} {q : Option Addr} (hq : At M k q) (ht : tot (abs M) ≤ 4000000000000) (n : Int) :
    Calls Try.prog 50 #[.pointer q, .int .i64 n] w fun e w' => ∃ x, e = kY.tellL x (decide (0 < upV (lsOf (abs M) k) n)) ∧ Below w.heap.size w w' ∧ TellsL w' F x (decide (0 < upV (lsOf (abs M) k) n)) (vr (lsOf (abs M) k) (upV (lsOf (abs M) k) n - 1)) := by
  rcases lsOf_at hq with ⟨rfl, h2⟩ | ⟨e, he, _, rfl, h2⟩
  · rw [h2]
    exact (at_none n w).mono fun e w' ⟨h3, h4⟩ => ⟨_, h3, h4, .inl ⟨rfl, rfl⟩⟩
  · have hk := h.each e he
    have := ls_le_tot he
    rw [h2]
    refine (kY.at_any hk.hn (by rw [hk.len]; omega) n).mono ?_
    rintro e' w' ⟨rfl, hb⟩
    rw [upN_ls hk]
    refine ⟨_, rfl, hb, ?_⟩
    have hle := upV_le e.ls n
    unfold kY.lastK
    by_cases h0 : upV e.ls n = 0
    · exact .inl ⟨by simp [h0], by rw [if_pos h0]⟩
    · refine .inr ⟨by simp; omega, ?_⟩
      rw [if_neg h0]
      exact (hk.at_ _ (by rw [hk.len]; omega)).hold fun j hj => hb.block j (h.lt j hj)
theorem chLast_any (h : Sto w F s mb M) {k : List UInt8} {q : Option Addr} (hq : At M k q) (ht : tot (abs M) ≤ 4000000000000) :
    Calls Try.prog 46 #[.pointer q] w fun e w' => ∃ x, e = kY.tellL x (decide (0 < (lsOf (abs M) k).length)) ∧ Below w.heap.size w w' ∧ TellsL w' F x (decide (0 < (lsOf (abs M) k).length)) (vr (lsOf (abs M) k) ((lsOf (abs M) k).length - 1)) := by
  rcases lsOf_at hq with ⟨rfl, h2⟩ | ⟨e, he, _, rfl, h2⟩
  · rw [h2]
    exact (last_none w).mono fun e w' ⟨h3, h4⟩ => ⟨_, h3, h4, .inl ⟨rfl, rfl⟩⟩
  · have hk := h.each e he
    have := ls_le_tot he
    rw [h2]
    refine (kY.last_any hk.hn (by rw [hk.len]; omega)).mono ?_
    rintro e' w' ⟨rfl, hb⟩
    rw [hk.len]
    refine ⟨_, rfl, hb, ?_⟩
    unfold kY.lastK
    by_cases h0 : e.ls.length = 0
    · exact .inl ⟨by simp [h0], by rw [if_pos h0]⟩
    · refine .inr ⟨by simp; omega, ?_⟩
      rw [if_neg h0]
      exact (hk.at_ _ (by rw [hk.len]; omega)).hold fun j hj => hb.block j (h.lt j hj)

theorem zeroPtr (w : World) : (zeroValue 88).run Try.prog w = .ok (.pointer none) w := by kernel_rfl

set_option maxRecDepth 100000 in
set_option maxHeartbeats 400000 in
theorem all_any (h : Sto w F s mb M) : Calls Try.prog 41 #[.pointer (some ⟨s, 0, none⟩)] w fun e w' => e = .returned (.map mb) ∧ w' = w := by
  obtain ⟨c0, _⟩ := h.cell
  clear h
  go_enter Try.func41, Try.ntmps41
  go_wp2
  go_ret
  exact ⟨rfl, rfl⟩
theorem all_none (w : World) : Calls Try.prog 41 #[.pointer none] w fun e w' => e = .returned (.map none) ∧ w' = w := by
  go_enter Try.func41, Try.ntmps41
  go_wp2
  go_ret
  exact ⟨rfl, rfl⟩
theorem look_any (h : Sto w F s mb M) (key : ByteArray) (hk : key.size ≤ maxLen) : ∃ q, (Instr.lookup 73 (.map mb) (.string key) false).run Try.prog w = .ok (.pointer q) w ∧ At M key.data.toList q := by
  have hkey := WideMaps.keyOf_string_mk (P := Try.prog) Try.underlying9 hk
  cases mb with
  | none =>
    have hM := h.nomap rfl
    subst hM
    exact ⟨none, Maps.look_nil false law_string Try.underlying73 (zeroPtr w) hkey, .inl ⟨rfl, rfl⟩⟩
  | some b =>
    obtain ⟨hown, _⟩ := h.map b rfl
    obtain ⟨v, ps, hrun, hR⟩ := hown.lookup law_string Try.underlying73 (zeroPtr w) (show ptrR (.pointer none) = some (.nil, []) from rfl) hkey
    rw [atKey_datM] at hR
    cases he : kyOf M key.data.toList with
    | none =>
      rw [he] at hR
      obtain rfl := ptrR_nil hR
      exact ⟨none, hrun, .inl ⟨he, rfl⟩⟩
    | some e =>
      rw [he] at hR
      obtain ⟨c, rfl, hc⟩ := ptrR_int hR
      obtain rfl : c = e.c := by omega
      exact ⟨_, hrun, .inr ⟨e, he, rfl⟩⟩
set_option maxRecDepth 100000 in
set_option maxHeartbeats 400000 in
theorem of_any (h : Sto w F s mb M) (key : ByteArray) (hk : key.size ≤ maxLen) : Calls Try.prog 42 #[.pointer (some ⟨s, 0, none⟩), .string key] w fun e w' => (∃ q, e = .returned (.pointer q) ∧ At M key.data.toList q) ∧ w' = w := by
  have ha := all_any h
  obtain ⟨q, hl, hq⟩ := look_any h key hk
  have HQ := hide_it hq
  clear h hq
  go_enter Try.func42, Try.ntmps42
  go_wp2_with (refine ha.mono ?_; rintro e w1 ⟨rfl, hw⟩; obtain rfl := hw.symm; clear hw)
  go_ret
  exact ⟨⟨q, rfl, HQ.out⟩, rfl⟩
end

end Go.Proofs.Ythaknohnccmfoaa
