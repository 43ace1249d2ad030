/- Get, Newest. -/
import Derived.Test.YthaknohnccmfoaaSo6
namespace Go.Proofs.Ythaknohnccmfoaa
open Go.RowKit Go.Maps

/-- The version of a key that counts at a stamp; the newest one. -/
def atA (A : Cont) (k : List UInt8) (n : Int) : Option Ver := if upV (lsOf A k) n = 0 then none else some (vr (lsOf A k) (upV (lsOf A k) n - 1))
def lastA (A : Cont) (k : List UInt8) : Option Ver := if (lsOf A k).length = 0 then none else some (vr (lsOf A k) ((lsOf A k).length - 1))
/-- What is found: the bytes of a version that is not dead. -/
def live (o : Option Ver) : Option (List Nat) := match o with | none => none | some l => if l.d then none else some l.b
def getA (A : Cont) (k : List UInt8) (n : Int) : Option (List Nat) := live (atA A k n)
def newestA (A : Cont) (k : List UInt8) : Int × Bool := match lastA A k with | none => (0, false) | some l => (l.n, true)

/-- A link that counts, or none. -/
structure TellsO (w : World) (F : Nat → Prop) (x : kY.Lk) (b : Bool) (o : Option Ver) : Prop where
  is : b = o.isSome
  none_ : o = none → x = kY.zeroLk
  some_ : ∀ l, o = some l → LinkIs w F x l
section
variable {w : World} {F : Nat → Prop} {s : Nat} {mb : Option Nat} {M : List Ky}
theorem chAtO (h : Sto w F s mb M) {k : List UInt8} {q : Option Addr} (hq : At M k q) (ht : tot (abs M) ≤ 4000000000000) (n : Int) :
    Calls Try.prog 50 #[.pointer q, .int .i64 n] w fun e w' => ∃ x b, e = kY.tellL x b ∧ Below w.heap.size w w' ∧ TellsO w' F x b (atA (abs M) k n) := by
  refine (chAt_any h hq ht n).mono ?_
  rintro e w' ⟨x, rfl, hb, ht⟩
  refine ⟨x, _, rfl, hb, ?_⟩
  unfold atA
  rcases ht with ⟨h1, h2⟩ | ⟨h1, h2⟩
  · have h0 : upV (lsOf (abs M) k) n = 0 := by simpa using h1
    rw [if_pos h0]
    exact ⟨by rw [h1]; rfl, fun _ => h2, fun l e => by cases e⟩
  · have h0 : ¬ upV (lsOf (abs M) k) n = 0 := by have := of_decide_eq_true h1; omega
    rw [if_neg h0]
    exact ⟨by rw [h1]; rfl, (fun e => by cases e), fun l e => by cases e; exact h2⟩
theorem chLastO (h : Sto w F s mb M) {k : List UInt8} {q : Option Addr} (hq : At M k q) (ht : tot (abs M) ≤ 4000000000000) :
    Calls Try.prog 46 #[.pointer q] w fun e w' => ∃ x b, e = kY.tellL x b ∧ Below w.heap.size w w' ∧ TellsO w' F x b (lastA (abs M) k) := by
  refine (chLast_any h hq ht).mono ?_
  rintro e w' ⟨x, rfl, hb, ht⟩
  refine ⟨x, _, rfl, hb, ?_⟩
  unfold lastA
  rcases ht with ⟨h1, h2⟩ | ⟨h1, h2⟩
  · have h0 : (lsOf (abs M) k).length = 0 := by have := of_decide_eq_false h1; omega
    rw [if_pos h0]
    exact ⟨by rw [h1]; rfl, fun _ => h2, fun l e => by cases e⟩
  · have h0 : ¬ (lsOf (abs M) k).length = 0 := by have := of_decide_eq_true h1; omega
    rw [if_neg h0]
    exact ⟨by rw [h1]; rfl, (fun e => by cases e), fun l e => by cases e; exact h2⟩

/-- A value that is told: bytes in new memory, and whether there are any. -/
def GotB (B : Nat) (w' : World) (o : Option (List Nat)) (e : Ending) : Prop := ∃ v, e = .returned (.tuple #[v, .bool o.isSome]) ∧ OwnB w' B v (o.getD [])

set_option maxRecDepth 100000 in
set_option maxHeartbeats 4000000 in
/-- Get, over whatever 'of' and At answer. -/
theorem get_of {W0 : World} {p q : Option Addr} {key : ByteArray} {n : Int} {o : Option Ver} (hof : Calls Try.prog 42 #[.pointer p, .string key] W0 fun e w' => e = .returned (.pointer q) ∧ w' = W0)
    (hat : Calls Try.prog 50 #[.pointer q, .int .i64 n] W0 fun e w' => ∃ x b, e = kY.tellL x b ∧ Below W0.heap.size W0 w' ∧ TellsO w' F x b o) (hlen : ∀ l, o = some l → l.b.length ≤ 140737488355328) :
    Calls Try.prog 25 #[.pointer p, .string key, .int .i64 n] W0 fun e w' => GotB W0.heap.size w' (live o) e ∧ Below W0.heap.size W0 w' := by
  go_enter Try.func25, Try.ntmps25
  go_wp2_with fail
  refine hof.mono ?_
  rintro e w1 ⟨rfl, hw1⟩
  obtain rfl := hw1.symm
  clear hof hw1
  go_wp2_with fail
  refine hat.mono ?_
  rintro e w2 ⟨x, b, rfl, hb2, hT⟩
  unfold kY.tellL kY.lkV
  have hbx : ∀ z : World, Below z.heap.size z (z.alloc (.cells #[.int .i64 x.n, .slice x.v.1 x.v.2.1 x.v.2.2, .bool x.d] 95)) := fun z => (Below.refl _ _).alloc (Nat.le_refl _) _
  have HB := hide_it (hb2.trans ((hbx w2).mono hb2.size))
  have hz2 := hb2.size
  cases o with
  | none =>
    have e1 := hT.is
    obtain rfl : b = false := e1
    clear hat hb2 hT hbx
    go_wp2
    exact bodyPost_ret (v := .tuple #[.slice none 0 0, .bool false]) (by simp [results, Try.results25, go_sem]) rfl ⟨⟨_, rfl, World.ownsRow_nil _ _ _ _⟩, HB.out⟩
  | some l =>
    have e1 := hT.is
    obtain rfl : b = true := e1
    have hl := hT.some_ l rfl
    cases hd : l.d with
    | true =>
      have e2 : x.d = true := hl.d.trans hd
      have HL : Hid (live (some l) = none) := by unfold live; simp only [hd]; exact hide_it rfl
      rw [e2] at HB
      clear hat hb2 hT hbx hl hd hlen
      go_wp2
      exact bodyPost_ret (v := .tuple #[.slice none 0 0, .bool false]) (by simp [results, Try.results25, go_sem]) rfl ⟨⟨_, by rw [HL.out]; rfl, by rw [HL.out]; exact World.ownsRow_nil _ _ _ _⟩, HB.out⟩
    | false =>
      have e2 : x.d = false := hl.d.trans hd
      have HL : Hid (live (some l) = some l.b) := by unfold live; simp only [hd]; exact hide_it rfl
      obtain ⟨a, c, ev, hrow, hc1, hc2, hnil⟩ := hl.b.row
      injection ev with ev1 ev2 ev3
      have hcl := fun z (hz : Below w2.heap.size w2 z) => bclone_any a c l.b z (hrow.below hz) (hlen l rfl) hnil
      have hcl := hcl (w2.alloc (.cells #[.int .i64 x.n, .slice x.v.1 x.v.2.1 x.v.2.2, .bool x.d] 95)) (hbx w2)
      rw [← ev1, ← ev2, ← ev3] at hcl
      clear hat hb2 hT hbx hl hd hlen ev1 ev2 ev3 hrow hnil
      rw [e2] at hcl HB
      go_wp2_with fail
      refine hcl.mono ?_
      rintro e w3 ⟨⟨v, rfl, hv⟩, hb3⟩
      have HB3 := hide_it (HB.out.trans (hb3.mono HB.out.size))
      have HV := hide_it (hv.mono HB.out.size)
      clear hcl hb3 hv
      go_wp2
      exact bodyPost_ret (v := .tuple #[v, .bool true]) (by simp [results, Try.results25, go_sem]) rfl ⟨⟨_, by rw [HL.out]; rfl, by rw [HL.out]; exact HV.out⟩, HB3.out⟩

set_option maxRecDepth 100000 in
set_option maxHeartbeats 4000000 in
theorem newest_of {W0 : World} {p q : Option Addr} {key : ByteArray} {o : Option Ver} (hof : Calls Try.prog 42 #[.pointer p, .string key] W0 fun e w' => e = .returned (.pointer q) ∧ w' = W0)
    (hat : Calls Try.prog 46 #[.pointer q] W0 fun e w' => ∃ x b, e = kY.tellL x b ∧ Below W0.heap.size W0 w' ∧ TellsO w' F x b o) :
    Calls Try.prog 27 #[.pointer p, .string key] W0 fun e w' => e = .returned (.tuple #[.int .i64 ((o.map (·.n)).getD 0), .bool o.isSome]) ∧ Below W0.heap.size W0 w' := by
  go_enter Try.func27, Try.ntmps27
  go_wp2_with fail
  refine hof.mono ?_
  rintro e w1 ⟨rfl, hw1⟩
  obtain rfl := hw1.symm
  clear hof hw1
  go_wp2_with fail
  refine hat.mono ?_
  rintro e w2 ⟨x, b, rfl, hb2, hT⟩
  unfold kY.tellL kY.lkV
  have hbx : Below w2.heap.size w2 (w2.alloc (.cells #[.int .i64 x.n, .slice x.v.1 x.v.2.1 x.v.2.2, .bool x.d] 95)) := (Below.refl _ _).alloc (Nat.le_refl _) _
  have HB := hide_it (hb2.trans (hbx.mono hb2.size))
  have HN : Hid (x.n = (o.map (·.n)).getD 0 ∧ b = o.isSome) := by
    refine hide_it ⟨?_, hT.is⟩
    cases o with
    | none => rw [hT.none_ rfl]; rfl
    | some l => exact (hT.some_ l rfl).n
  clear hat hb2 hT hbx
  go_wp2
  exact bodyPost_ret (v := .tuple #[.int .i64 x.n, .bool b]) (by simp [results, Try.results27, go_sem]) rfl ⟨by rw [HN.out.1, HN.out.2], HB.out⟩
end

/-- What is known of all versions of a store. -/
structure Fine (A : Cont) : Prop where
  tot : tot A ≤ 4000000000000
  keys : A.length ≤ 4000000000000
  kl : ∀ e ∈ A, e.1.length ≤ 255
  vl : ∀ e ∈ A, ∀ l ∈ e.2, l.b.length ≤ 4096
theorem vr_mem {ls : List Ver} {i : Nat} (h : i < ls.length) : vr ls i ∈ ls := by rw [← vr_get h]; exact List.getElem_mem h
theorem lsOf_in {A : Cont} {k : List UInt8} : lsOf A k = [] ∨ ∃ e ∈ A, e.1 = k ∧ e.2 = lsOf A k := by
  unfold lsOf
  cases h : A.find? (fun e => e.1 == k) with
  | none => exact .inl rfl
  | some e => exact .inr ⟨e, List.mem_of_find?_eq_some h, by simpa using List.find?_some h, rfl⟩
theorem Fine.at_ {A : Cont} (h : Fine A) {k : List UInt8} {i : Nat} (hi : i < (lsOf A k).length) : (vr (lsOf A k) i).b.length ≤ 4096 := by
  rcases lsOf_in (A := A) (k := k) with h0 | ⟨e, he, _, h2⟩
  · rw [h0] at hi; simp at hi
  · exact h.vl e he _ (by rw [h2]; exact vr_mem hi)
theorem Fine.atA {A : Cont} (h : Fine A) {k : List UInt8} {n : Int} {l : Ver} (hl : atA A k n = some l) : l.b.length ≤ 4096 := by
  unfold Proofs.Ythaknohnccmfoaa.atA at hl
  split at hl
  · cases hl
  · cases hl
    have := upV_le (lsOf A k) n
    exact h.at_ (by omega)
section
variable {w : World} {F : Nat → Prop} {s : Nat} {mb : Option Nat} {M : List Ky}
theorem get_any (h : Sto w F s mb M) (hf : Fine (abs M)) (key : ByteArray) (hk : key.size ≤ maxLen) (n : Int) :
    Calls Try.prog 25 #[.pointer (some ⟨s, 0, none⟩), .string key, .int .i64 n] w fun e w' => GotB w.heap.size w' (getA (abs M) key.data.toList n) e ∧ Below w.heap.size w w' := by
  obtain ⟨q, hl, hq⟩ := look_any h key hk
  have hof : Calls Try.prog 42 #[.pointer (some ⟨s, 0, none⟩), .string key] w fun e w' => e = .returned (.pointer q) ∧ w' = w := by
    have ha := all_any h
    clear h hf hq
    go_enter Try.func42, Try.ntmps42
    go_wp2_with (refine ha.mono ?_; rintro e w1 ⟨rfl, hw⟩; obtain rfl := hw.symm; clear hw)
    go_ret
    exact ⟨rfl, rfl⟩
  exact get_of hof (chAtO h hq hf.tot n) fun l e => by have := hf.atA e; omega
theorem newest_any (h : Sto w F s mb M) (hf : Fine (abs M)) (key : ByteArray) (hk : key.size ≤ maxLen) :
    Calls Try.prog 27 #[.pointer (some ⟨s, 0, none⟩), .string key] w fun e w' => e = .returned (.tuple #[.int .i64 (newestA (abs M) key.data.toList).1, .bool (newestA (abs M) key.data.toList).2]) ∧ Below w.heap.size w w' := by
  obtain ⟨q, hl, hq⟩ := look_any h key hk
  have hof : Calls Try.prog 42 #[.pointer (some ⟨s, 0, none⟩), .string key] w fun e w' => e = .returned (.pointer q) ∧ w' = w := by
    have ha := all_any h
    clear h hf hq
    go_enter Try.func42, Try.ntmps42
    go_wp2_with (refine ha.mono ?_; rintro e w1 ⟨rfl, hw⟩; obtain rfl := hw.symm; clear hw)
    go_ret
    exact ⟨rfl, rfl⟩
  refine (newest_of hof (chLastO h hq hf.tot)).mono ?_
  rintro e w' ⟨rfl, hb⟩
  refine ⟨?_, hb⟩
  unfold newestA
  cases lastA (abs M) key.data.toList <;> rfl
end
/-! ### a store that is not there -/
theorem look_none (key : ByteArray) (hk : key.size ≤ maxLen) (w : World) : (Instr.lookup 73 (.map none) (.string key) false).run Try.prog w = .ok (.pointer none) w :=
  Maps.look_nil false law_string Try.underlying73 (zeroPtr w) (WideMaps.keyOf_string_mk (P := Try.prog) Try.underlying9 hk)
theorem of_none (key : ByteArray) (hk : key.size ≤ maxLen) (w : World) : Calls Try.prog 42 #[.pointer none, .string key] w fun e w' => e = .returned (.pointer none) ∧ w' = w := by
  have ha := all_none w
  have hl := look_none key hk w
  go_enter Try.func42, Try.ntmps42
  go_wp2_with (refine ha.mono ?_; rintro e w1 ⟨rfl, hw⟩; obtain rfl := hw.symm; clear hw)
  go_ret
  exact ⟨rfl, rfl⟩
theorem get_none (key : ByteArray) (hk : key.size ≤ maxLen) (n : Int) (w : World) : Calls Try.prog 25 #[.pointer none, .string key, .int .i64 n] w fun e w' => GotB w.heap.size w' none e ∧ Below w.heap.size w w' :=
  get_of (F := fun _ => False) (o := none) (of_none key hk w) ((at_none n w).mono fun _ _ ⟨h1, h2⟩ => ⟨_, _, h1, h2, rfl, fun _ => rfl, fun _ e => by cases e⟩) fun _ e => by cases e
theorem newest_none (key : ByteArray) (hk : key.size ≤ maxLen) (w : World) : Calls Try.prog 27 #[.pointer none, .string key] w fun e w' => e = .returned (.tuple #[.int .i64 0, .bool false]) ∧ Below w.heap.size w w' :=
  newest_of (F := fun _ => False) (o := none) (of_none key hk w) ((last_none w).mono fun _ _ ⟨h1, h2⟩ => ⟨_, _, h1, h2, rfl, fun _ => rfl, fun _ e => by cases e⟩)
set_option maxRecDepth 100000 in
set_option maxHeartbeats 400000 in
theorem apply_none (x : Vn) (w : World) : Calls Try.prog 31 #[.pointer none, verV x] w fun e w' => e = .returned (.int .i64 1) ∧ Below w.heap.size w w' := by
  unfold verV
  go_enter Try.func31, Try.ntmps31
  go_wp2
  go_ret
  exact ⟨rfl, (Below.refl _ _).alloc (Nat.le_refl _) _⟩

end Go.Proofs.Ythaknohnccmfoaa
