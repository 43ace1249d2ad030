/- Vacuum. -/
import Derived.Test.YthaknohnccmfoaaSo9
namespace Go.Proofs.Ythaknohnccmfoaa
open Go.RowKit Go.Maps

/-- How many of a key's versions go; those that stay. -/
def goneV (ls : List Ver) (n : Int) : Nat := upV ls n - 1
def pruV (ls : List Ver) (n : Int) : List Ver := ls.drop (goneV ls n)
def vacA (A : Cont) (n : Int) : Cont := A.map fun e => (e.1, pruV e.2 n)
def goneA (A : Cont) (n : Int) : Nat := (A.map fun e => goneV e.2 n).sum
/-- The keys of ks are done. -/
def pruA (A : Cont) (ks : List (List UInt8)) (n : Int) : Cont := A.map fun e => if e.1 ∈ ks then (e.1, pruV e.2 n) else e
theorem pruA_nil (A : Cont) (n : Int) : pruA A [] n = A := by unfold pruA; simp
theorem pruA_step {M : List Ky} (hr : M.Pairwise fun e f => bytesBefore e.k f.k = true) {e : Ky} (he : e ∈ M) {ks : List (List UInt8)} (hk : e.k ∉ ks) (n : Int) : setA (pruA (abs M) ks n) e.k (pruV e.ls n) = pruA (abs M) (ks ++ [e.k]) n := by
  unfold setA pruA abs
  rw [List.map_map, List.map_map, List.map_map]
  refine List.map_congr_left fun f hf => ?_
  simp only [Function.comp]
  by_cases h1 : f.k = e.k
  · obtain rfl := one_key hr hf he h1
    simp [hk]
  · by_cases h2 : f.k ∈ ks
    · simp [h2, h1]
    · simp [h2, h1]
theorem pruA_all {M vs : List Ky} (hp : vs.Perm M) (n : Int) : pruA (abs M) (vs.map (·.k)) n = vacA (abs M) n := by
  unfold pruA vacA
  refine List.map_congr_left fun f hf => ?_
  obtain ⟨e, he, rfl⟩ := List.mem_map.1 hf
  rw [if_pos (List.mem_map.2 ⟨e, hp.mem_iff.2 he, rfl⟩)]
theorem goneA_abs (M : List Ky) (n : Int) : goneA (abs M) n = (M.map fun e => goneV e.ls n).sum := by unfold goneA abs; rw [List.map_map]; rfl
theorem gone_le (M : List Ky) (n : Int) : (M.map fun e => goneV e.ls n).sum ≤ tot (abs M) := by
  unfold tot abs
  rw [List.map_map]
  induction M with
  | nil => simp
  | cons e r ih =>
    rw [List.map_cons, List.map_cons, List.sum_cons, List.sum_cons]
    have : goneV e.ls n ≤ e.ls.length := by unfold goneV; have := upV_le e.ls n; omega
    exact Nat.add_le_add this ih
theorem Seen.sub {M : List Ky} {left : Lit → Bool} {vs : List Ky} (h : Seen M left vs) {e : Ky} (he : e ∈ vs) : e ∈ M := by
  obtain ⟨rs, hp, _⟩ := h
  exact hp.mem_iff.1 (List.mem_append_left _ he)

section
variable {w w' : World} {F : Nat → Prop} {s : Nat} {mb : Option Nat} {M : List Ky}
theorem sto_pruned (h : Sto w F s mb M) {e : Ky} (he : e ∈ M) {n : Int} (k : kY.HnTo w (Fc e.c e.v) e.c e.v e.xs (kY.pruL e.xs n) w') : ∃ v' xs', Sto w' (kY.upto F w w') s mb (setM M e.k v' xs' (pruV e.ls n)) := by
  have hk := h.each e he
  obtain ⟨v', hv⟩ := k.hn
  have eg : kY.pruN e.xs n = goneV e.ls n := by unfold kY.pruN goneV; rw [upN_ls hk]
  have el : kY.pruL e.xs n = e.xs.drop (goneV e.ls n) := by unfold kY.pruL; rw [eg]
  rw [el] at hv
  refine ⟨v', _, h.turn he k.chg hv (ls' := pruV e.ls n) (by unfold pruV; rw [List.length_drop, List.length_drop, hk.len]) fun i hi => ?_⟩
  rw [List.length_drop] at hi
  unfold pruV
  rw [kY.lk_drop, vr_drop]
  exact links_keep hk h.lt k.chg _ (by omega)

/-- Where a Vacuum stands: the keys of vs are done. r: the block of what goes through the map. -/
structure Vac (w0 : World) (F : Nat → Prop) (s b r : Nat) (M : List Ky) (n : Int) (vs : List Ky) (wr : World) : Prop where
  st : ∃ Mc, Sto wr (kY.upto F w0 wr) s (some b) Mc ∧ datM Mc = datM M ∧ abs Mc = pruA (abs M) (vs.map (·.k)) n
  chg : Chg (fun j => F j ∨ j = r) w0 wr
theorem Vac.next {w0 wr w1 : World} {b r : Nat} {n : Int} {vs : List Ky} (h : Vac w0 F s b r M n vs wr) (hg : wr.grownBy w1 (some r)) (hs : w1.heap.size = wr.heap.size) (hrF : ¬ F r) (hr0 : r < w0.heap.size) : Vac w0 F s b r M n vs w1 := by
  obtain ⟨Mc, h1, h2, h3⟩ := h.st
  have hne : ∀ j, kY.upto F w0 wr j → j ≠ r := fun j hj e => by
    subst e
    rcases hj with hj | hj
    · exact hrF hj
    · omega
  refine ⟨⟨Mc, (h1.hold (w' := w1) (fun j hj => hg.block j (h1.lt j hj) (fun e => hne j hj (by cases e; rfl))) (by omega)).mono (fun j hj => hj.imp id fun e => ⟨e.1, by omega⟩) (fun j hj => ?_), h2, h3⟩, ?_⟩
  · have := h1.lt j (hj.imp id fun e => ⟨e.1, by omega⟩); omega
  · exact h.chg.trans (Chg.of_grown (S := fun j => j = r) hg fun k _ e => by cases e; rfl) fun j _ e => .inr e
theorem Vac.call {w0 w1 : World} {b r : Nat} {n : Int} {vs : List Ky} (h : Vac w0 F s b r M n vs w1) (hrise : M.Pairwise fun e f => bytesBefore e.k f.k = true) {e : Ky} (he : e ∈ M) (hnv : e.k ∉ vs.map (·.k)) (ht : tot (abs M) ≤ 4000000000000) (hrF : ¬ F r) (hr0 : r < w0.heap.size) (hr1 : r < w1.heap.size) :
    Calls Try.prog 49 #[.pointer (some ⟨e.c, 0, none⟩), .int .i64 n] w1 fun e' w2 => e' = .returned (.int .i64 (goneV e.ls n : Int)) ∧ Vac w0 F s b r M n (vs ++ [e]) w2 ∧ w2.heap[b]? = w1.heap[b]? ∧ w2.heap[r]? = w1.heap[r]? := by
  obtain ⟨Mc, h1, h2, h3⟩ := h.st
  have hmem : (e.k, e.ls) ∈ abs Mc := by
    rw [h3]; unfold pruA
    exact List.mem_map.2 ⟨(e.k, e.ls), List.mem_map.2 ⟨e, he, rfl⟩, by simp only [if_neg hnv]⟩
  obtain ⟨f, hf, ef⟩ := List.mem_map.1 hmem
  have ek : f.k = e.k := (Prod.mk.injEq .. ▸ ef).1
  have el : f.ls = e.ls := (Prod.mk.injEq .. ▸ ef).2
  have ec : f.c = e.c := by
    have a1 := atKey_datM Mc f.k .nil
    have a2 := atKey_datM M e.k .nil
    rw [kyOf_mem h1.rise hf] at a1
    rw [kyOf_mem hrise he] at a2
    rw [h2, ek, a2] at a1
    have : ((e.c : Int)) = (f.c : Int) := by simpa using a1
    omega
  have hk := h1.each f hf
  have hle : f.xs.length ≤ 4000000000000 := by rw [hk.len, el]; exact Nat.le_trans (ls_le_tot he) ht
  have hgn : kY.pruN f.xs n = goneV e.ls n := by unfold kY.pruN goneV; rw [upN_ls hk, el]
  rw [← ec]
  refine (kY.prune_any hk.hn hle n).mono ?_
  rintro e' w2 ⟨rfl, kk⟩
  have hrn : ¬ kY.upto F w0 w1 r := fun hj => by
    rcases hj with hj | hj
    · exact hrF hj
    · omega
  obtain ⟨v', xs', hs'⟩ := sto_pruned h1 hf kk
  have hbl := h1.lt b (h1.map b rfl).2
  refine ⟨by rw [hgn], ⟨⟨_, hs'.mono (fun j hj => ?_) (fun j hj => ?_), by rw [datM_setM]; exact h2, ?_⟩, ?_⟩, kk.chg.block b hbl (h1.fc_ne_map hf rfl), kk.chg.block r hr1 fun hj => hrn (hk.fc r hj)⟩
  · exact upto_step (fun _ hj => hj) h.chg.size kk.chg.size j hj
  · rcases hj with hj | hj
    · exact Nat.lt_of_lt_of_le (h1.lt j (.inl hj)) kk.chg.size
    · exact hj.2
  · rw [abs_setM, h3, ek, el, pruA_step hrise he hnv]; simp
  · exact h.chg.trans kk.chg fun j hj hF => by
      rcases hk.fc j hF with h4 | h4
      · exact .inl h4
      · omega
set_option maxRecDepth 100000 in
set_option maxHeartbeats 4000000 in
theorem vacuum_some {b : Nat} (h : Sto w F s (some b) M) (ht : tot (abs M) ≤ 4000000000000) (n : Int) :
    Calls Try.prog 23 #[.pointer (some ⟨s, 0, none⟩), .int .i64 n] w fun e w' => e = .returned (.int .i64 (goneA (abs M) n : Int)) ∧ (∃ M', Sto w' (kY.upto F w w') s (some b) M' ∧ abs M' = vacA (abs M) n) ∧ Chg F w w' := by
  have ha0 := all_any h
  obtain ⟨hown, hFb⟩ := h.map b rfl
  have hrF : ¬ F w.heap.size := fun e => by have := h.lt _ e; omega
  have HTT := hide_it (goneA_abs M n)
  have HTL := hide_it (Nat.le_trans (gone_le M n) ht)
  have HH := hide_it h
  have HT := hide_it ht
  clear h ht
  go_enter Try.func23, Try.ntmps23
  go_wp2_with fail
  refine ha0.mono ?_
  rintro e w1 ⟨rfl, hw1⟩
  obtain rfl := hw1.symm
  clear ha0 hw1
  go_wp2_with (first | (at_range; refine wpList_range_own _ rfl _ 73 rfl 9 88 law_string Try.underlying73 _ b M.length _ rfl hown ?_; intro w0 hrg0 hg0 hs0) | go_in)
  go_frame
  have hb0 : Below w.heap.size w w0 := (Below.refl _ w).grown hg0 (Nat.le_refl _) fun k e => by cases e
  have hV0 : Vac w0 F s b w.heap.size M n [] w0 := ⟨⟨M, (HH.out.below hb0).mono (fun _ hj => .inl hj) (fun j hj => by rcases hj with hj | hj; exact Nat.lt_of_lt_of_le (HH.out.lt j hj) hb0.size; exact hj.2), rfl, (pruA_nil _ _).symm⟩, Chg.refl _ _⟩
  have HB0 := hide_it hb0
  have HV0 := hide_it hV0
  clear hb0 hV0
  go_loopw [5, 7] (fun t5 _ wr => ∃ (left : Lit → Bool) (cnt : Nat) (vs : List Ky), wr.ranges Try.prog 9 ptrR b w.heap.size M.length (datM M) left cnt ∧ Hid (Seen M left vs) ∧ (∃ T5 : Nat, t5 = .int .i64 (T5 : Int) ∧ Hid (T5 = (vs.map fun e => goneV e.ls n).sum)) ∧ Hid (Vac w0 F s b w.heap.size M n vs wr))
    (fun _ _ wr => wr.rangeLeft b w.heap.size)
  case atStart => exact ⟨_, _, [], hrg0, hide_it (Seen.start M), ⟨0, rfl, hide_it rfl⟩, HV0⟩
  case round =>
    obtain ⟨left, cnt, vs, hrg, hS, ⟨T5, rfl, hT5⟩, hV⟩ := hrel
    clear hrg0 hg0 hown HV0
    go_wp2_with (first | (at_next; refine wpList_next_ranges _ rfl _ rfl 9 law_string ptrR encStr Value.pointer invK_str invV_ptr b w.heap.size M.length _ _ _ rfl hrg ?_ ?_) | go_in)
    · intro hc0 hl0
      have hp := hS.out.done hl0
      have hres : Hid (T5 = goneA (abs M) n) := by rw [hT5.out, HTT.out]; exact hide_it (hp.map _).sum_nat
      have HP := hide_it hp
      clear hp hT5 hS hrg
      go_wp2
      go_ret
      obtain ⟨Mc, h1, h2, h3⟩ := hV.out.st
      have hz := hV.out.chg.size
      refine ⟨by rw [← hres.out]; rfl, ⟨Mc, h1.mono (fun j hj => hj.imp id fun e => ⟨by omega, e.2⟩) (fun j hj => ?_), by rw [h3, pruA_all HP.out]⟩, (Chg.new HB0.out).trans hV.out.chg fun j hj e => ?_⟩
      · rcases hj with hj | hj
        · have := HH.out.lt j hj; omega
        · exact hj.2
      · rcases e with e | e
        · exact e
        · omega
    · intro x c kl yd yp w1 cnt1 hkey hlk hv hat hrg1 hlt hg1 hs1 hen
      obtain ⟨_, e, he, rfl, rfl, hnv, hS1⟩ := hS.out.step HH.out.rise hkey hlk hv hat
      have hV1 := hV.out.next hg1 hs1 hrF (by omega)
      have hnk : e.k ∉ vs.map (·.k) := fun hm => by
        obtain ⟨f, hf, ef⟩ := List.mem_map.1 hm
        exact hnv (one_key HH.out.rise (hS.out.sub hf) he ef ▸ hf)
      have hr1 : w.heap.size < w1.heap.size := by have := hV1.chg.size; omega
      have hcl := hV1.call HH.out.rise he hnk HT.out hrF (by omega) hr1
      have hbd := Nat.le_trans (hS1.sum fun e => goneV e.ls n) HTL.out
      have hsum : ((vs ++ [e]).map fun e => goneV e.ls n).sum = T5 + goneV e.ls n := by rw [hT5.out]; simp
      rw [hsum] at hbd
      have hw9 : IntKind.i64.wrap ((T5 : Int) + (goneV e.ls n : Int)) = ((T5 + goneV e.ls n : Nat) : Int) := by rw [i64_in (by omega) (by omega)]; omega
      have HW9 := hide_it hw9
      have HS1 := hide_it hS1
      have HSM := hide_it hsum
      have hm : w1.rangeLeft b w.heap.size < wr.rangeLeft b w.heap.size := by rw [hrg1.left_eq, hrg.left_eq]; exact hlt
      have hml := hrg1.left_eq
      have HM : Hid (∀ z : World, z.heap[b]? = w1.heap[b]? → z.heap[w.heap.size]? = w1.heap[w.heap.size]? → z.ranges Try.prog 9 ptrR b w.heap.size M.length (datM M) (fun z => left z && !z.sameKey kl) cnt1 ∧ z.rangeLeft b w.heap.size < wr.rangeLeft b w.heap.size) := hide_it fun z h1 h2 => by
        have h3 := ranges_hold hrg1 h1 h2
        exact ⟨h3, by rw [h3.left_eq, ← hml]; exact hm⟩
      clear hS hS1 hT5 hsum hbd hkey hlk hv hat hnv hnk hs1 hg1 hrg hrg1 hlt hV hV1 hml hm
      go_wp2_with fail
      refine hcl.mono ?_
      rintro e' w2 ⟨rfl, hV2, hb2, hr2⟩
      obtain ⟨HRG, HML⟩ := HM.out w2 hb2 hr2
      replace HRG := hide_it HRG
      replace HML := hide_it HML
      replace hV2 := hide_it hV2
      clear hcl HM hb2 hr2
      go_wp2
      go_roundw
      case rel => exact ⟨_, _, vs ++ [e], HRG.out, HS1, ⟨T5 + goneV e.ls n, by first | rfl | exact congrArg (Value.int .i64) HW9.out, hide_it HSM.out.symm⟩, hV2⟩
      case measure => exact HML.out
theorem vacuum_any (h : Sto w F s mb M) (ht : tot (abs M) ≤ 4000000000000) (n : Int) :
    Calls Try.prog 23 #[.pointer (some ⟨s, 0, none⟩), .int .i64 n] w fun e w' => e = .returned (.int .i64 (goneA (abs M) n : Int)) ∧ (∃ M', Sto w' (kY.upto F w w') s mb M' ∧ abs M' = vacA (abs M) n) ∧ Chg F w w' := by
  cases mb with
  | some b => exact vacuum_some h ht n
  | none =>
    obtain rfl := h.nomap rfl
    refine (vacuum_nil _ n w (all_any h)).mono ?_
    rintro e w' ⟨rfl, hb⟩
    exact ⟨rfl, ⟨[], (h.below hb).mono (fun _ hj => .inl hj) (upto_in h.lt hb.size), rfl⟩, .new hb⟩
end

end Go.Proofs.Ythaknohnccmfoaa
