/- Going through the map in whatever order: what was met; Len, Live. -/
import Derived.Test.YthaknohnccmfoaaSo7
namespace Go.Proofs.Ythaknohnccmfoaa
open Go.RowKit Go.Maps

/-- vs were met, in this order; the others are still to come. -/
def Seen (M : List Ky) (left : Lit → Bool) (vs : List Ky) : Prop := ∃ rs, (vs ++ rs).Perm M ∧ (∀ e ∈ vs, left (.string e.k) = false) ∧ ∀ e ∈ rs, left (.string e.k) = true
theorem has_datM (M : List Ky) {e : Ky} (he : e ∈ M) : Maps.has (datM M) (.string e.k) = true := by
  unfold Maps.has datM
  simp only [List.any_map, List.any_eq_true]
  exact ⟨e, he, by simp [Lit.sameKey]⟩
theorem Seen.start (M : List Ky) : Seen M (Maps.has (datM M)) [] := ⟨M, List.Perm.refl _, (fun e he => by cases he), fun _ he => has_datM M he⟩
theorem Seen.done {M : List Ky} {left : Lit → Bool} {vs : List Ky} (h : Seen M left vs) (hl : ∀ kl, left kl = false) : vs.Perm M := by
  obtain ⟨rs, hp, _, h2⟩ := h
  cases rs with
  | nil => simpa using hp
  | cons e r => have := h2 e (List.mem_cons_self ..); rw [hl] at this; cases this
theorem Seen.sum {M : List Ky} {left : Lit → Bool} {vs : List Ky} (h : Seen M left vs) (f : Ky → Nat) : (vs.map f).sum ≤ (M.map f).sum := by
  obtain ⟨rs, hp, _⟩ := h
  rw [← (hp.map f).sum_nat, List.map_append, List.sum_append]
  exact Nat.le_add_right _ _
theorem Seen.len {M : List Ky} {left : Lit → Bool} {vs : List Ky} (h : Seen M left vs) : vs.length ≤ M.length := by
  obtain ⟨rs, hp, _⟩ := h
  rw [← hp.length_eq, List.length_append]; exact Nat.le_add_right _ _
/-- The next one: which it is. -/
theorem Seen.step {M : List Ky} (hr : M.Pairwise fun e f => bytesBefore e.k f.k = true) {left : Lit → Bool} {vs : List Ky} (h : Seen M left vs) {x : List UInt8} {c : Option Addr} {kl : Lit} {y : DataW Unit × List MemPlace}
    (hkey : keyOf Try.prog 9 (encStr x) = some kl) (hlk : left kl = true) (hv : ptrR (.pointer c) = some y) (hat : ∀ zd, (datM M).atKey kl zd = y.1) :
    kl = .string x ∧ ∃ e, e ∈ M ∧ e.k = x ∧ c = some ⟨e.c, 0, none⟩ ∧ e ∉ vs ∧ Seen M (fun z => left z && !z.sameKey kl) (vs ++ [e]) := by
  obtain ⟨x', ex, rfl, _⟩ := Maps.keyOf_str Try.underlying9 hkey
  obtain rfl : x = x' := encStr_inj ex
  refine ⟨rfl, ?_⟩
  have h0 := hat .nil
  have h1 := hat (.slice [] [])
  rw [atKey_datM] at h0 h1
  cases hk : kyOf M x with
  | none => rw [hk] at h0 h1; rw [← h1] at h0; cases h0
  | some e =>
    rw [hk] at h0
    obtain ⟨he, rfl⟩ := kyOf_some hk
    have hy : y = (.lit (.int .i64 (e.c : Int)), y.2) := Prod.ext h0.symm rfl
    obtain ⟨b, eb, hb⟩ := ptrR_int (hv.trans (congrArg some hy))
    obtain rfl : b = e.c := by omega
    cases eb
    obtain ⟨rs, hp, h1', h2⟩ := h
    have hnv : e ∉ vs := fun hm => by rw [h1' e hm] at hlk; cases hlk
    refine ⟨e, he, rfl, rfl, hnv, ?_⟩
    have hm : e ∈ rs := by
      rcases List.mem_append.1 (hp.mem_iff.2 he) with hm | hm
      · exact absurd hm hnv
      · exact hm
    obtain ⟨a, b', rfl⟩ := List.append_of_mem hm
    refine ⟨a ++ b', ?_, fun f hf => ?_, fun f hf => ?_⟩
    · refine List.Perm.trans ?_ hp
      rw [List.append_assoc]
      refine List.Perm.append_left vs ?_
      simpa using (List.perm_middle (a := e) (l₁ := a) (l₂ := b')).symm
    · rcases List.mem_append.1 hf with hf | hf
      · show (left _ && !_) = _
        rw [h1' f hf]; rfl
      · simp at hf; subst hf; simp [Lit.sameKey]
    · have hne : f.k ≠ e.k := by
        have hpw := (hp.pairwise_iff (R := fun e f : Ky => e.k ≠ f.k) (fun {_ _} hh => Ne.symm hh)).2 (rise_ne hr)
        have h3 := (List.pairwise_append.1 hpw).2.1
        have h4 := (List.pairwise_append.1 h3)
        have h5 := List.pairwise_cons.1 h4.2.1
        rcases List.mem_append.1 hf with hf | hf
        · exact h4.2.2 f hf e (List.mem_cons_self ..)
        · exact (h5.1 f hf).symm
      have := h2 f (by rcases List.mem_append.1 hf with hf | hf; exact List.mem_append_left _ hf; exact List.mem_append_right _ (List.mem_cons_of_mem _ hf))
      show (left _ && !_) = _
      rw [this]; simp [Lit.sameKey, hne]
theorem ranges_hold {w w' : World} {b r n : Nat} {D : DataW Unit} {left : Lit → Bool} {cnt : Nat} (h : w.ranges Try.prog 9 ptrR b r n D left cnt) (hb : w'.heap[b]? = w.heap[b]?) (hr : w'.heap[r]? = w.heap[r]?) : w'.ranges Try.prog 9 ptrR b r n D left cnt := by
  obtain ⟨es, clock, since, seen, c0, h1, h2, h3, h4, h5, h6⟩ := h
  exact ⟨es, clock, since, seen, c0, hb.trans h1, h2, h3, h4, hr.trans h5, h6⟩
theorem invK_str : ∀ key kl, keyOf Try.prog 9 key = some kl → ∃ x : List UInt8, key = encStr x := fun key kl hk => by
  obtain ⟨x, hx, _⟩ := Maps.keyOf_str Try.underlying9 hk; exact ⟨x, hx⟩
theorem invV_ptr : ∀ v y, ptrR v = some y → ∃ c : Option Addr, v = .pointer c := fun v y hv => by
  unfold ptrR at hv
  split at hv
  · exact ⟨_, rfl⟩
  · exact ⟨_, rfl⟩
  · cases hv
theorem size_datM (M : List Ky) : Maps.size (datM M) = M.length := by simp [Maps.size, datM]
theorem grown_below {w w' : World} {r B : Nat} (h : w.grownBy w' (some r)) (hr : B ≤ r) (hB : B ≤ w.heap.size) : Below B w w' := (Below.refl B w).grown h hB fun k e => by cases e; exact hr

section
variable {w : World} {F : Nat → Prop} {s : Nat} {M : List Ky}
set_option maxRecDepth 100000 in
set_option maxHeartbeats 4000000 in
theorem len_some {b : Nat} (h : Sto w F s (some b) M) (hf : Fine (abs M)) :
    Calls Try.prog 22 #[.pointer (some ⟨s, 0, none⟩)] w fun e w' => e = .returned (.tuple #[.int .i64 (M.length : Int), .int .i64 (tot (abs M) : Int)]) ∧ Below w.heap.size w w' := by
  have hall := fun z (hz : Below w.heap.size w z) => all_any (h.below hz)
  have ha0 := hall w (Below.refl _ _)
  obtain ⟨hown, hFb⟩ := h.map b rfl
  have hbl := h.lt b hFb
  have hrise := h.rise
  have hlen : ∀ e ∈ M, ∀ z, Below w.heap.size w z → Calls Try.prog 48 #[.pointer (some ⟨e.c, 0, none⟩)] z fun e' w' => e' = .returned (.int .i64 (e.ls.length : Int)) ∧ w' = z := fun e he z hz => by
    have hk := (h.below hz).each e he
    have := kY.len_any hk.hn
    rwa [hk.len] at this
  have htot : ∀ vs : List Ky, (vs.map fun e => e.ls.length).sum ≤ (M.map fun e => e.ls.length).sum → (vs.map fun e => e.ls.length).sum ≤ 4000000000000 := fun vs hvs => Nat.le_trans hvs (by have := hf.tot; unfold tot abs at this; rw [List.map_map] at this; exact this)
  have hT : tot (abs M) = (M.map fun e => e.ls.length).sum := by unfold tot abs; rw [List.map_map]; rfl
  have HL := hide_it hlen
  have HT := hide_it htot
  have HTT := hide_it hT
  have HR := hide_it hrise
  have HA := hide_it hall
  clear h hf hlen htot hT hrise hall
  go_enter Try.func22, Try.ntmps22
  go_wp2_with fail
  refine ha0.mono ?_
  rintro e w1 ⟨rfl, hw1⟩
  obtain rfl := hw1.symm
  clear ha0 hw1
  go_wp2_with (first | (at_range; refine wpList_range_own _ rfl _ 73 rfl 9 88 law_string Try.underlying73 _ b M.length _ rfl hown ?_; intro w0 hrg0 hg0 hs0) | go_in)
  go_frame
  go_loopw [4, 6] (fun t4 _ wr => ∃ (left : Lit → Bool) (cnt : Nat) (vs : List Ky), wr.ranges Try.prog 9 ptrR b w.heap.size M.length (datM M) left cnt ∧ Hid (Seen M left vs) ∧ (∃ T4 : Nat, t4 = .int .i64 (T4 : Int) ∧ Hid (T4 = (vs.map fun e => e.ls.length).sum)) ∧ Below w.heap.size w wr)
    (fun _ _ wr => wr.rangeLeft b w.heap.size)
  case atStart => exact ⟨_, _, [], hrg0, hide_it (Seen.start M), ⟨0, rfl, hide_it rfl⟩, (Below.refl _ w).grown hg0 (Nat.le_refl _) fun k e => by cases e⟩
  case round =>
    obtain ⟨left, cnt, vs, hrg, hS, ⟨T4, rfl, hT4⟩, hbw⟩ := hrel
    clear hrg0 hg0 hs0 hown
    go_wp2_with (first | (at_next; refine wpList_next_ranges _ rfl _ rfl 9 law_string ptrR encStr Value.pointer invK_str invV_ptr b w.heap.size M.length _ _ _ rfl hrg ?_ ?_) | go_in)
    · intro hc0 hl0
      have hp := hS.out.done hl0
      have hres : Hid (T4 = tot (abs M)) := by rw [hT4.out, HTT.out]; exact hide_it (hp.map _).sum_nat
      have ha1 := HA.out wr hbw
      have hln : ∀ ty, (Builtin.len_ #[73] ty #[.map (some b)]).run Try.prog wr = .ok (.int .i64 (M.length : Int)) wr := fun ty => by
        have := hrg.owns.len Try.underlying73 ty; rwa [size_datM] at this
      have HBW := hide_it hbw
      clear hp hT4 hS hbw hrg
      go_wp2_with fail
      refine ha1.mono ?_
      rintro e w2 ⟨rfl, hw2⟩
      obtain rfl := hw2.symm
      clear ha1 hw2
      go_wp2
      exact bodyPost_ret (v := .tuple #[.int .i64 (M.length : Int), .int .i64 (T4 : Int)]) (by simp [results, Try.results22, go_sem]) rfl ⟨by rw [hres.out], HBW.out⟩
    · intro x c kl yd yp w1 cnt1 hkey hlk hv hat hrg1 hlt hg1 hs1 hen
      obtain ⟨_, e, he, rfl, rfl, hnv, hS1⟩ := hS.out.step HR.out hkey hlk hv hat
      have hb1 : Below w.heap.size w w1 := hbw.trans (grown_below hg1 (Nat.le_refl _) hbw.size)
      have hcl := HL.out e he w1 hb1
      have hbd := HT.out _ (hS1.sum fun e => e.ls.length)
      have hsum : ((vs ++ [e]).map fun e => e.ls.length).sum = T4 + e.ls.length := by rw [hT4.out]; simp
      rw [hsum] at hbd
      have hw9 : IntKind.i64.wrap ((T4 : Int) + (e.ls.length : Int)) = ((T4 + e.ls.length : Nat) : Int) := by rw [i64_in (by omega) (by omega)]; omega
      have HS1 := hide_it hS1
      have HB1 := hide_it hb1
      have HSM := hide_it hsum
      have HM : Hid (w1.rangeLeft b w.heap.size < wr.rangeLeft b w.heap.size) := by rw [hrg1.left_eq, hrg.left_eq]; exact hide_it hlt
      have HRG := hide_it hrg1
      clear hS hS1 hT4 hbd hsum hkey hlk hv hat hnv hs1 hg1 hrg hrg1 hlt hb1 hbw
      go_wp2_with fail
      refine hcl.mono ?_
      rintro e' w2 ⟨rfl, hw2⟩
      obtain rfl := hw2.symm
      clear hcl hw2
      go_wp2
      go_roundw
      case rel => exact ⟨_, _, vs ++ [e], HRG.out, HS1, ⟨T4 + e.ls.length, by first | rfl | (congr 1), hide_it HSM.out.symm⟩, HB1.out⟩
      case measure => exact HM.out
end

end Go.Proofs.Ythaknohnccmfoaa
