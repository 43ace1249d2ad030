/- A call of a script on a store: what it answers, and what the store is then. -/
import Derived.Test.YthaknohnccmfoaaSo23
namespace Go.Proofs.Ythaknohnccmfoaa
open Go.RowKit Go.Maps

/-- Is a key within bounds? What a scan tells. -/
def inK (fr to k : List UInt8) : Bool := !(bytesBefore k fr) && (to.isEmpty || bytesBefore k to)
def scanA (A : Cont) (fr to : List UInt8) (n : Int) : List (List UInt8 × List Nat) := (A.filter fun e => inK fr to e.1).filterMap fun e => (live (if upV e.2 n = 0 then none else some (vr e.2 (upV e.2 n - 1)))).map fun z => (e.1, z)
/-- What a step is answered, and what is there behind it. -/
def tdA (A : Cont) (x : Stv) : Td :=
  if x.k = 0 then ⟨applyE A (vnOf x), 0, 0, false, [], [], []⟩
  else if x.k = 1 then ⟨0, 0, 0, (getA A x.key.data.toList x.stamp).isSome, (getA A x.key.data.toList x.stamp).getD [], [], []⟩
  else if x.k = 2 then ⟨0, (newestA A x.key.data.toList).1, 0, (newestA A x.key.data.toList).2, [], [], []⟩
  else if x.k = 3 then ⟨0, 0, 0, false, [], scanA A x.key.data.toList x.to.data.toList x.stamp, []⟩
  else if x.k = 4 then ⟨0, goneA A x.stamp, 0, false, [], [], []⟩
  else if x.k = 5 then ⟨0, liveA A, 0, false, [], [], []⟩
  else if x.k = 6 then ⟨0, A.length, tot A, false, [], [], []⟩
  else if x.k = 7 then ⟨0, 0, 0, false, [], [], versA A⟩
  else ⟨0, 0, 0, false, [], [], []⟩
def nextA (A : Cont) (x : Stv) : Cont := if x.k = 0 then applyA A (vnOf x) else if x.k = 4 then vacA A x.stamp else A
theorem vnOf_ok {w : World} {x : Stv} (h : StvOk w x) : VnOk w (vnOf x) :=
  ⟨by have := h.key; show x.key.size ≤ _; unfold maxLen; omega, h.stamp, h.val.row, h.val.none, by have := h.val.size; show x.val.p.length ≤ _; omega⟩

/-- What a call does to a store. -/
structure CallTo (w : World) (F : Nat → Prop) (s : Nat) (A : Cont) (w' : World) : Prop where
  st : ∃ mb M, Sto w' (kY.upto F w w') s mb M ∧ abs M = A
  chg : Chg F w w'
theorem CallTo.tc {w W' w' : World} {F : Nat → Prop} {s : Nat} {mb : Option Nat} {M : List Ky} {x : Stv} {A : Cont} (hl : ∀ j, F j → j < w.heap.size) (hs : Sto W' (kY.upto F (Wc w x) W') s mb M) (hg : Chg F (Wc w x) W') (ha : abs M = A) (hc : Chg (Tc w) W' w') : CallTo w F s A w' := by
  have hz := wc_size w x
  have hzW := hg.size
  have hzw := hc.size
  have hn : ∀ j, Tc w j → ¬ kY.upto F (Wc w x) W' j := fun j hj hu => by
    rcases hu with hu | hu
    · have := hl j hu; rcases hj with hj | hj <;> omega
    · rcases hj with hj | hj <;> omega
  refine ⟨⟨mb, M, (hs.chg hc hn).mono (fun j hj => ?_) (fun j hj => ?_), ha⟩, ⟨hc.os.trans (hg.os.trans (wc_below w x).os), hc.tape.trans (hg.tape.trans (wc_below w x).tape), hc.output.trans (hg.output.trans (wc_below w x).output), by omega, fun j hj hF =>
    (hc.block j (by omega) fun e => by rcases e with e | e <;> omega).trans ((hg.block j (by omega) hF).trans ((wc_below w x).block j hj))⟩⟩
  · rcases hj with hj | hj
    · exact .inl hj
    · exact .inr ⟨by omega, by omega⟩
  · rcases hj with hj | hj
    · have := hl j hj; omega
    · omega

theorem CallTo.same {w W' w' : World} {F : Nat → Prop} {s : Nat} {mb : Option Nat} {M : List Ky} {x : Stv} (hs : Sto w F s mb M) (hb : Below (Wc w x).heap.size (Wc w x) W') (hc : Chg (Tc w) W' w') : CallTo w F s (abs M) w' := by
  have h1 := (hs.below (wc_below w x)).below hb
  exact CallTo.tc (x := x) hs.lt (h1.mono (fun _ hj => .inl hj) (upto_in (fun j hj => by have := hs.lt j hj; have := wc_size w x; omega) hb.size)) (Chg.new hb) rfl hc

/-- An answer in new memory: it stands whatever happens to what lay below. -/
def TdNew (w' : World) (B : Nat) (v : Value) (t : Td) : Prop := ∀ (S : Nat → Prop) (w'' : World), Chg S w' w'' → (∀ j, S j → j < B) → TdIs w'' v t
theorem TdNew.is {w' : World} {B : Nat} {v : Value} {t : Td} (h : TdNew w' B v t) : TdIs w' v t := h (fun _ => False) w' (Chg.refl _ _) fun _ e => e.elim
theorem new_keep {w W' w' w'' : World} {x : Stv} {S : Nat → Prop} (k : Kc w W' x) (hc : Chg (Tc w) W' w') (hS : Chg S w' w'') (hs : ∀ j, S j → j < w.heap.size) {j : Nat} {cur : Array Value} {t : TypeId} (hj : W'.heap[j]? = some (.cells cur t (0, 0))) (ht : t ≠ 35) (hB : w.heap.size ≤ j) : w''.heap[j]? = W'.heap[j]? := by
  have h1 := tc_keep k hc hj ht
  have hl : j < w'.heap.size := Nat.lt_of_lt_of_le (Array.getElem?_eq_some_iff.1 hj).1 hc.size
  exact (hS.block j hl fun e => by have := hs j e; omega).trans h1
section
variable {w W' w' w'' : World} {x : Stv} {S : Nat → Prop}
theorem new_bytes {v : Value} {zs : List Nat} {B : Nat} (hv : OwnB W' B v zs) (hB : w.heap.size ≤ B) (k : Kc w W' x) (hc : Chg (Tc w) W' w') (hS : Chg S w' w'') (hs : ∀ j, S j → j < w.heap.size) : OwnB w'' 0 v zs :=
  (hv.hold fun j hj => by
    obtain ⟨cur, h5⟩ := hv.typed hj
    exact new_keep k hc hS hs h5 (by decide) (Nat.le_trans hB (hv.ge hj))).mono (Nat.zero_le _)
theorem new_rowV {v : Value} {ys : List Vn} {B : Nat} (ho : OwV W' B v ys) (hv : ValV W' B ys) (hB : w.heap.size ≤ B) (k : Kc w W' x) (hc : Chg (Tc w) W' w') (hS : Chg S w' w'') (hs : ∀ j, S j → j < w.heap.size) : RowV w'' v ys :=
  ⟨OwnS.mono (OwnS.keep ho fun j hj => by
    obtain ⟨cur, h5⟩ := OwnS.type ho hj
    exact new_keep k hc hS hs h5 (by decide) (Nat.le_trans hB (OwnS.inside ho j hj).1)) (Nat.zero_le _), fun y hy => new_bytes (hv y hy) hB k hc hS hs⟩
theorem new_rowP {v : Value} {ys : List Pn} {B : Nat} (ho : OwP W' B v ys) (hv : ValP W' B ys) (hB : w.heap.size ≤ B) (k : Kc w W' x) (hc : Chg (Tc w) W' w') (hS : Chg S w' w'') (hs : ∀ j, S j → j < w.heap.size) : RowP w'' v ys :=
  ⟨OwnS.mono (OwnS.keep ho fun j hj => by
    obtain ⟨cur, h5⟩ := OwnS.type ho hj
    exact new_keep k hc hS hs h5 (by decide) (Nat.le_trans hB (OwnS.inside ho j hj).1)) (Nat.zero_le _), fun y hy => new_bytes (hv y hy) hB k hc hS hs⟩
end

theorem call_any {w : World} {F : Nat → Prop} {s : Nat} {mb : Option Nat} {M : List Ky} (h : Sto w F s mb M) (hf : Fine (abs M)) (x : Stv) (hx : StvOk w x) (hfar : ∀ b o, 0 < x.val.p.length → x.val.a = some ⟨b, o, none⟩ → ¬ F b)
    (hsc : x.k = 3 → Calls Try.prog 24 #[.pointer (some ⟨s, 0, none⟩), .string x.key, .string x.to, .int .i64 x.stamp] (Wc w x) fun e W' => ∃ a n c, e = .returned (.slice a n c) ∧ (∃ zp, OwP W' (Wc w x).heap.size (.slice a n c) zp ∧ ValP W' (Wc w x).heap.size zp ∧ saysP zp = scanA (abs M) x.key.data.toList x.to.data.toList x.stamp) ∧ Below (Wc w x).heap.size (Wc w x) W') :
    Calls Try.prog 13 #[.pointer (some ⟨s, 0, none⟩), stepV x] w fun e w' => (∃ v, e = .returned v ∧ TdNew w' w.heap.size v (tdA (abs M) x)) ∧ CallTo w F s (nextA (abs M) x) w' := by
  have hkey : x.key.size ≤ maxLen := by have := hx.key; unfold maxLen; omega
  have hbw : Below w.heap.size w (Wc w x) := wc_below w x
  have hW := h.below hbw
  have hBz : w.heap.size ≤ (Wc w x).heap.size := hbw.size
  by_cases h0 : x.k = 0
  · have hap := apply_any hW (vnOf x) (vnOf_ok (show StvOk (Wc w x) x from ⟨hx.k, hx.key, hx.stamp, hx.val.below hbw, trivial, hx.to⟩)) hfar hf.tot (by have := hf.keys; simpa [abs] using this)
    have en : nextA (abs M) x = applyA (abs M) (vnOf x) := if_pos h0
    have et : tdA (abs M) x = ⟨applyE (abs M) (vnOf x), 0, 0, false, [], [], []⟩ := if_pos h0
    rw [en, et]
    refine (call_apply x h0 (R := fun E W' => E = applyE (abs M) (vnOf x) ∧ AppTo (Wc w x) F s (abs M) (vnOf x) W') (hap.mono fun e W' ⟨h1, h2⟩ => ⟨_, h1, Kc.chg h2.chg h.lt, rfl, h2⟩)).mono ?_
    rintro e w' ⟨E, W', rfl, ⟨rfl, h2⟩, hc⟩
    obtain ⟨mb', M', hs', ha'⟩ := h2.st
    exact ⟨⟨_, rfl, fun S w'' _ _ => ⟨_, _, _, rfl, tdAt_zero w'' _ 0 0 false⟩⟩, CallTo.tc h.lt hs' h2.chg ha' hc⟩
  · by_cases h1 : x.k = 1
    · have en : nextA (abs M) x = abs M := by unfold nextA; rw [if_neg h0, if_neg (by omega)]
      have et : tdA (abs M) x = ⟨0, 0, 0, (getA (abs M) x.key.data.toList x.stamp).isSome, (getA (abs M) x.key.data.toList x.stamp).getD [], [], []⟩ := by unfold tdA; rw [if_neg h0, if_pos h1]
      rw [en, et]
      have hg := get_any hW hf x.key hkey x.stamp
      generalize getA (abs M) x.key.data.toList x.stamp = o at *
      refine (call_get x h1 (R := fun a n c b W' => b = o.isSome ∧ OwnB W' (Wc w x).heap.size (.slice a n c) (o.getD []) ∧ Below (Wc w x).heap.size (Wc w x) W') (hg.mono ?_)).mono ?_
      · rintro e W' ⟨⟨v, rfl, hv⟩, g2⟩
        obtain ⟨a, c, ev, _⟩ := hv.row
        subst ev
        exact ⟨_, _, _, _, rfl, Kc.below g2, rfl, hv, g2⟩
      · rintro e w' ⟨a, n, c, b, W', rfl, ⟨rfl, hv, hb⟩, hc⟩
        exact ⟨⟨_, rfl, fun S w'' h8 h9 => ⟨_, _, _, rfl, new_bytes hv hBz (Kc.below hb) hc h8 h9, ⟨[], rowP_nil _, rfl⟩, ⟨[], rowV_nil _, rfl⟩⟩⟩, CallTo.same h hb hc⟩
    · by_cases h2 : x.k = 2
      · have en : nextA (abs M) x = abs M := by unfold nextA; rw [if_neg h0, if_neg (by omega)]
        have et : tdA (abs M) x = ⟨0, (newestA (abs M) x.key.data.toList).1, 0, (newestA (abs M) x.key.data.toList).2, [], [], []⟩ := by unfold tdA; rw [if_neg h0, if_neg h1, if_pos h2]
        rw [en, et]
        refine (call_newest x h2 (R := fun n b W' => n = (newestA (abs M) x.key.data.toList).1 ∧ b = (newestA (abs M) x.key.data.toList).2 ∧ Below (Wc w x).heap.size (Wc w x) W') ((newest_any hW hf x.key hkey).mono fun e W' ⟨g1, g2⟩ => ⟨_, _, g1, Kc.below g2, rfl, rfl, g2⟩)).mono ?_
        rintro e w' ⟨n, b, W', rfl, ⟨rfl, rfl, hb⟩, hc⟩
        exact ⟨⟨_, rfl, fun S w'' _ _ => ⟨_, _, _, rfl, tdAt_zero w'' 0 _ 0 _⟩⟩, CallTo.same h hb hc⟩
      · by_cases h3 : x.k = 3
        · have en : nextA (abs M) x = abs M := by unfold nextA; rw [if_neg h0, if_neg (by omega)]
          have et : tdA (abs M) x = ⟨0, 0, 0, false, [], scanA (abs M) x.key.data.toList x.to.data.toList x.stamp, []⟩ := by unfold tdA; rw [if_neg h0, if_neg h1, if_neg h2, if_pos h3]
          rw [en, et]
          refine (call_scan x h3 (R := fun a n c W' => (∃ zp, OwP W' (Wc w x).heap.size (.slice a n c) zp ∧ ValP W' (Wc w x).heap.size zp ∧ saysP zp = scanA (abs M) x.key.data.toList x.to.data.toList x.stamp) ∧ Below (Wc w x).heap.size (Wc w x) W') ((hsc h3).mono fun e W' ⟨a, n, c, g1, g2, g3⟩ => ⟨_, _, _, g1, Kc.below g3, g2, g3⟩)).mono ?_
          rintro e w' ⟨a, n, c, W', rfl, ⟨⟨zp, ho, hv, hs⟩, hb⟩, hc⟩
          exact ⟨⟨_, rfl, fun S w'' h8 h9 => ⟨_, _, _, rfl, World.ownsRow_nil _ _ _ _, ⟨zp, new_rowP ho hv hBz (Kc.below hb) hc h8 h9, hs⟩, ⟨[], rowV_nil _, rfl⟩⟩⟩, CallTo.same h hb hc⟩
        · by_cases h4 : x.k = 4
          · have en : nextA (abs M) x = vacA (abs M) x.stamp := by unfold nextA; rw [if_neg h0, if_pos h4]
            have et : tdA (abs M) x = ⟨0, goneA (abs M) x.stamp, 0, false, [], [], []⟩ := by unfold tdA; rw [if_neg h0, if_neg h1, if_neg h2, if_neg h3, if_pos h4]
            rw [en, et]
            refine (call_vacuum x h4 (R := fun n W' => n = (goneA (abs M) x.stamp : Int) ∧ (∃ M', Sto W' (kY.upto F (Wc w x) W') s mb M' ∧ abs M' = vacA (abs M) x.stamp) ∧ Chg F (Wc w x) W') ((vacuum_any hW hf.tot x.stamp).mono fun e W' ⟨g1, g2, g3⟩ => ⟨_, g1, Kc.chg g3 h.lt, rfl, g2, g3⟩)).mono ?_
            rintro e w' ⟨n, W', rfl, ⟨rfl, ⟨M', hs', ha'⟩, hg⟩, hc⟩
            exact ⟨⟨_, rfl, fun S w'' _ _ => ⟨_, _, _, rfl, tdAt_zero w'' 0 _ 0 false⟩⟩, CallTo.tc h.lt hs' hg ha' hc⟩
          · have en : nextA (abs M) x = abs M := by unfold nextA; rw [if_neg h0, if_neg h4]
            rw [en]
            by_cases h5 : x.k = 5
            · have et : tdA (abs M) x = ⟨0, liveA (abs M), 0, false, [], [], []⟩ := by unfold tdA; rw [if_neg h0, if_neg h1, if_neg h2, if_neg h3, if_neg h4, if_pos h5]
              rw [et]
              refine (call_live x h5 (R := fun n W' => n = (liveA (abs M) : Int) ∧ Below (Wc w x).heap.size (Wc w x) W') ((live_any hW hf).mono fun e W' ⟨g1, g2⟩ => ⟨_, g1, Kc.below g2, rfl, g2⟩)).mono ?_
              rintro e w' ⟨n, W', rfl, ⟨rfl, hb⟩, hc⟩
              exact ⟨⟨_, rfl, fun S w'' _ _ => ⟨_, _, _, rfl, tdAt_zero w'' 0 _ 0 false⟩⟩, CallTo.same h hb hc⟩
            · by_cases h6 : x.k = 6
              · have et : tdA (abs M) x = ⟨0, (abs M).length, tot (abs M), false, [], [], []⟩ := by unfold tdA; rw [if_neg h0, if_neg h1, if_neg h2, if_neg h3, if_neg h4, if_neg h5, if_pos h6]
                rw [et]
                refine (call_len x h6 (R := fun n m W' => n = ((abs M).length : Int) ∧ m = (tot (abs M) : Int) ∧ Below (Wc w x).heap.size (Wc w x) W') ((len_any hW hf).mono fun e W' ⟨g1, g2⟩ => ⟨_, _, g1, Kc.below g2, rfl, rfl, g2⟩)).mono ?_
                rintro e w' ⟨n, m, W', rfl, ⟨rfl, rfl, hb⟩, hc⟩
                exact ⟨⟨_, rfl, fun S w'' _ _ => ⟨_, _, _, rfl, tdAt_zero w'' 0 _ _ false⟩⟩, CallTo.same h hb hc⟩
              · by_cases h7 : x.k = 7
                · have et : tdA (abs M) x = ⟨0, 0, 0, false, [], [], versA (abs M)⟩ := by unfold tdA; rw [if_neg h0, if_neg h1, if_neg h2, if_neg h3, if_neg h4, if_neg h5, if_neg h6, if_pos h7]
                  rw [et]
                  refine (call_versions x h7 (R := fun a n c W' => (∃ ys, OwV W' (Wc w x).heap.size (.slice a n c) ys ∧ ValV W' (Wc w x).heap.size ys ∧ saysV ys = versA (abs M)) ∧ Below (Wc w x).heap.size (Wc w x) W') ((versions_any hW hf).mono ?_)).mono ?_
                  · rintro e W' ⟨⟨v, ys, rfl, ho, hv, hs⟩, g2⟩
                    obtain ⟨a, c, ev, _⟩ := OwnS.open ho
                    subst ev
                    exact ⟨_, _, _, rfl, Kc.below g2, ⟨ys, ho, hv, hs⟩, g2⟩
                  · rintro e w' ⟨a, n, c, W', rfl, ⟨⟨ys, ho, hv, hs⟩, hb⟩, hc⟩
                    exact ⟨⟨_, rfl, fun S w'' h8 h9 => ⟨_, _, _, rfl, World.ownsRow_nil _ _ _ _, ⟨[], rowP_nil _, rfl⟩, ⟨ys, new_rowV ho hv hBz (Kc.below hb) hc h8 h9, hs⟩⟩⟩, CallTo.same h hb hc⟩
                · have et : tdA (abs M) x = ⟨0, 0, 0, false, [], [], []⟩ := by unfold tdA; rw [if_neg h0, if_neg h1, if_neg h2, if_neg h3, if_neg h4, if_neg h5, if_neg h6, if_neg h7]
                  rw [et]
                  refine (call_other x (by omega)).mono ?_
                  rintro e w' ⟨W', rfl, rfl, hc⟩
                  exact ⟨⟨_, rfl, fun S w'' _ _ => ⟨_, _, _, rfl, tdAt_zero w'' 0 0 0 false⟩⟩, CallTo.same h (Below.refl _ _) hc⟩

end Go.Proofs.Ythaknohnccmfoaa
