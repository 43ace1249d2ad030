/- A call, as a step says it, whole. -/
import Derived.Test.YtdodnegdpdhbiaaCa9
import Derived.Test.YtdodnegdpdhbiaaCa10
import Derived.Test.YtdodnegdpdhbiaaCa11
namespace Go.Proofs.Ytdodnegdpdhbiaa
open Go.RowKit

/-- Is there an area of this number? -/
def inD (n : Nat) (I : Int) : Bool := decide (0 ≤ I ∧ I < (n : Int))
/-- May so much be read? -/
def rdB (x : Pt) (A N : Int) : Bool := decide (¬ (N < 0 ∨ A < (x.B : Int) ∨ (x.B : Int) + (x.bs.length : Int) < A + N))
def readA (n : Nat) (s : Nat → Pt) (I A N : Int) : Ans :=
  if inD n I = true then (if rdB (s I.toNat) A N = true then { ans0 0 with P := ((s I.toNat).bs.take ((A - ((s I.toNat).B : Int)).toNat + N.toNat)).drop (A - ((s I.toNat).B : Int)).toNat } else ans0 70) else ans0 81
def boundsA (n : Nat) (s : Nat → Pt) (I : Int) : Ans :=
  if inD n I = true then { ans0 0 with X := ((s I.toNat).B : Int), Y := (((s I.toNat).B + (s I.toNat).k : Nat) : Int), Z := (((s I.toNat).B + (s I.toNat).bs.length : Nat) : Int) } else ans0 81
def doneA (n : Nat) (s : Nat → Pt) (I : Int) : Int := if inD n I = true then ((s I.toNat).c : Int) else 0
/-- What a call answers, whether the disk is armed behind it, and its areas behind it. -/
def calS (am : Bool) (n : Nat) (s : Nat → Pt) (x : Cal) : Ans × Bool × (Nat → Pt) :=
  if 0 ≤ x.k ∧ x.k ≤ 3 then
    (if inD n x.i = true then (ans0 (opS am (s x.i.toNat) x.k.toNat x.a x.p.p).1, am, upd s x.i.toNat (opS am (s x.i.toNat) x.k.toNat x.a x.p.p).2) else (ans0 81, am, s))
  else if x.k = 4 then (readA n s x.i x.a x.b, am, s)
  else if x.k = 5 then (boundsA n s x.i, am, s)
  else if x.k = 6 then ({ ans0 0 with X := doneA n s x.i }, am, s)
  else if x.k = 7 then (ans0 0, true, armTo s x.fn x.f n)
  else if x.k = 8 then (ans0 0, false, strS s n)
  else if x.k = 9 then ({ ans0 0 with n := n, T := safeT s }, am, s)
  else if x.k = 10 then ({ ans0 0 with X := (n : Int) }, am, s)
  else (ans0 0, am, s)

/-- How great a disk is at most. -/
structure Bnd (M n : Nat) (s : Nat → Pt) : Prop where
  len : ∀ i, i < n → (s i).bs.length ≤ 140737488351232 + M
  room : ∀ i, i < n → (s i).B + (s i).bs.length ≤ 4611686018427387904 + 140737488351232 + M
  cnt : ∀ i, i < n → (s i).c ≤ M

section
variable {w : World} {F : Nat → Prop} {p : Nat} {am : Bool} {n : Nat} {s : Nat → Pt}

theorem callW_below (w : World) (x : Cal) : Below w.heap.size w (callW w x) := (((Below.refl _ _).alloc (Nat.le_refl _) _).alloc (by simp) _).alloc (by simp; omega) _
theorem callW_size (w : World) (x : Cal) : (callW w x).heap.size = w.heap.size + 1 + 1 + 1 := by simp [callW]
theorem callW_box (w : World) (x : Cal) : BoxT (callW w x) (w.heap.size + 1) ∧ BoxT (callW w x) (w.heap.size + 1 + 1) := by
  constructor
  · refine (Below.heap_alloc _ _ _ (by simp)).trans ?_
    have := heap_alloc_new (w.alloc (.cells #[.int .i64 x.k, .int .i64 x.i, .int .i64 x.a, .int .i64 x.b, .slice x.p.a x.p.p.length x.p.c, .slice x.fa x.fn x.fc] 61)) (.cells #[.int .i64 0, .int .i64 0, .int .i64 0, .int .i64 0, .slice none 0 0, .slice none 0 0] 63)
    simpa using this
  · have := heap_alloc_new ((w.alloc (.cells #[.int .i64 x.k, .int .i64 x.i, .int .i64 x.a, .int .i64 x.b, .slice x.p.a x.p.p.length x.p.c, .slice x.fa x.fn x.fc] 61)).alloc (.cells #[.int .i64 0, .int .i64 0, .int .i64 0, .int .i64 0, .slice none 0 0, .slice none 0 0] 63)) (.cells #[.int .i64 0, .int .i64 0, .int .i64 0, .int .i64 0, .slice none 0 0, .slice none 0 0] 63)
    simpa [BoxT] using this
theorem box_chg {w1 : World} (x : Cal) (hF : ∀ b, F b → b < w.heap.size) (hc : Chg F (callW w x) w1) : BoxT w1 (w.heap.size + 1) ∧ BoxT w1 (w.heap.size + 1 + 1) := by
  obtain ⟨h1, h2⟩ := callW_box w x
  have hs := callW_size w x
  exact ⟨(hc.block _ (by omega) (fun h => by have := hF _ h; omega)).trans h1, (hc.block _ (by omega) (fun h => by have := hF _ h; omega)).trans h2⟩
theorem past_call {w1 w' : World} {am' : Bool} {s' : Nat → Pt} (x : Cal) (hF : ∀ b, F b → b < w.heap.size) (h : Went (callW w x) F p am' n s' w1) (hc : Chg (fun b => b = w.heap.size + 1 ∨ b = w.heap.size + 1 + 1) w1 w') : Went w F p am' n s' w' :=
  Went.past (callW_below w x) hF h (hc.mono fun b _ hb => by have := callW_size w x; omega)
theorem tv0 (w : World) (base : Nat) (E X Y Z : Int) : TV w base (.agg #[.int .i64 E, .int .i64 X, .int .i64 Y, .int .i64 Z, .slice none 0 0, .slice none 0 0]) ⟨E, X, Y, Z, [], 0, fun _ => (0, [])⟩ :=
  ⟨⟨none, 0, none, 0, rfl, .inl rfl, (fun _ e => by cases e), .inl rfl, Nat.le_refl _⟩, by simp, by simp, fun i hi => by simp at hi⟩
theorem inD_iff {I : Int} (h : inD n I = true) : I = ((I.toNat : Nat) : Int) ∧ I.toNat < n := by
  unfold inD at h
  simp at h
  omega
theorem inD_no {I : Int} (h : ¬ inD n I = true) : I < 0 ∨ (n : Int) ≤ I := by
  unfold inD at h
  simp at h
  omega

theorem call_any (h : Dsk w F p am n s) (x : Cal) (hx : CalOk w x) (hfar : x.fn = 0 ∨ farA F x.fa) (M : Nat) (hB : Bnd M n s) (hM : M + 1 + x.p.p.length ≤ 70368744177664) :
    Calls Try.prog 26 #[.pointer (some ⟨p, 0, none⟩), valC x] w fun e w' => Cald w F p (calS am n s x).2.1 n (calS am n s x).2.2 (calS am n s x).1 e w' := by
  have hF := h.lt
  have hbW := callW_below w x
  have hW := h.below hbW
  have hxW := hx.below hbW
  have hsW := callW_size w x
  have hpn : ∀ W1, Below (callW w x).heap.size (callW w x) W1 → ¬ inD n x.i = true → Calls Try.prog 67 #[.pointer (some ⟨p, 0, none⟩), .int .i64 x.i] W1 fun e w' => e = .returned (.tuple #[.pointer none, .int .i64 81]) ∧ w' = W1 := fun W1 hb hi => by
    obtain ⟨g, C, q, v, h1⟩ := hW.below hb
    exact part_no h1 x.i (inD_no hi)
  have hop : ∀ (E : Int) (s' : Nat → Pt) (e : Ending) (w' : World), (e = .returned (.agg #[.int .i64 E, .int .i64 0, .int .i64 0, .int .i64 0, .slice none 0 0, .slice none 0 0]) ∧ ∃ w1, Went (callW w x) F p am n s' w1 ∧ Chg (fun b => b = w.heap.size + 1 ∨ b = w.heap.size + 1 + 1) w1 w') → Cald w F p am n s' (ans0 E) e w' := by
    rintro E s' e w' ⟨rfl, w1, h1, h2⟩
    exact ⟨⟨_, rfl, tv0 _ _ _ _ _ _⟩, past_call x hF h1 h2⟩
  unfold calS
  by_cases hk : 0 ≤ x.k ∧ x.k ≤ 3
  · rw [if_pos hk]
    by_cases hi : inD n x.i = true
    · rw [if_pos hi]
      obtain ⟨hi1, hi2⟩ := inD_iff hi
      obtain ⟨i, hie⟩ : ∃ i, i = x.i.toNat := ⟨_, rfl⟩
      rw [← hie] at hi1 hi2 ⊢
      have b1 := hB.len i hi2
      have b2 := hB.room i hi2
      have b3 := hB.cnt i hi2
      show Calls _ _ _ _ fun e w' => Cald w F p am n (upd s i (opS am (s i) x.k.toNat x.a x.p.p).2) (ans0 (opS am (s i) x.k.toNat x.a x.p.p).1) e w'
      have h4 : x.k = 0 ∨ x.k = 1 ∨ x.k = 2 ∨ x.k = 3 := by omega
      rcases h4 with e | e | e | e
      · rw [show x.k.toNat = 0 by rw [e]; rfl]
        refine (call_append _ x e w _ _ (fun w1 (h1 : Went (callW w x) F p am n _ w1) => box_chg x hF h1.chg) ?_).mono (hop _ _)
        rw [hi1]
        exact (opAppend hW i hi2 x.a x.p.a x.p.c x.p.p hxW.p.row hxW.p.all hxW.p.none (by omega) (by omega) (by omega)).mono fun e w' hq => ⟨hq.ans, hq.went⟩
      · rw [show x.k.toNat = 1 by rw [e]; rfl]
        refine (call_sync _ x e w _ _ (fun w1 (h1 : Went (callW w x) F p am n _ w1) => box_chg x hF h1.chg) ?_).mono (hop _ _)
        rw [hi1]
        exact (opSync hW i hi2 x.a x.p.p (by omega)).mono fun e w' hq => ⟨hq.ans, hq.went⟩
      · rw [show x.k.toNat = 2 by rw [e]; rfl]
        refine (call_cut _ x e w _ _ (fun w1 (h1 : Went (callW w x) F p am n _ w1) => box_chg x hF h1.chg) ?_).mono (hop _ _)
        rw [hi1]
        exact (opCut hW i hi2 x.a x.p.p (by omega)).mono fun e w' hq => ⟨hq.ans, hq.went⟩
      · rw [show x.k.toNat = 3 by rw [e]; rfl]
        refine (call_trim _ x e w _ _ (fun w1 (h1 : Went (callW w x) F p am n _ w1) => box_chg x hF h1.chg) ?_).mono (hop _ _)
        rw [hi1]
        exact (opTrim hW i hi2 x.a x.p.p (by omega)).mono fun e w' hq => ⟨hq.ans, hq.went⟩
    · rw [if_neg hi]
      show Calls _ _ _ _ fun e w' => Cald w F p am n s (ans0 81) e w'
      have h4 : x.k = 0 ∨ x.k = 1 ∨ x.k = 2 ∨ x.k = 3 := by omega
      rcases h4 with e | e | e | e
      · refine (call_append _ x e w _ _ (fun w1 (h1 : Went (callW w x) F p am n s w1) => box_chg x hF h1.chg) ?_).mono (hop _ _)
        exact (append_none _ 81 (by omega) x.i x.p.a x.p.p.length x.p.c _ (fun W1 hb => hpn W1 hb hi)).mono fun e w' hq => ⟨hq.1, Went.of_below hW hq.2⟩
      · refine (call_sync _ x e w _ _ (fun w1 (h1 : Went (callW w x) F p am n s w1) => box_chg x hF h1.chg) ?_).mono (hop _ _)
        exact (sync_none _ 81 (by omega) x.i _ (fun W1 hb => hpn W1 hb hi)).mono fun e w' hq => ⟨hq.1, Went.of_below hW hq.2⟩
      · refine (call_cut _ x e w _ _ (fun w1 (h1 : Went (callW w x) F p am n s w1) => box_chg x hF h1.chg) ?_).mono (hop _ _)
        exact (cut_none _ 81 (by omega) x.i x.a _ (fun W1 hb => hpn W1 hb hi)).mono fun e w' hq => ⟨hq.1, Went.of_below hW hq.2⟩
      · refine (call_trim _ x e w _ _ (fun w1 (h1 : Went (callW w x) F p am n s w1) => box_chg x hF h1.chg) ?_).mono (hop _ _)
        exact (trim_none _ 81 (by omega) x.i x.a _ (fun W1 hb => hpn W1 hb hi)).mono fun e w' hq => ⟨hq.1, Went.of_below hW hq.2⟩
  · rw [if_neg hk]
    by_cases e4 : x.k = 4
    · rw [if_pos e4]
      show Calls _ _ _ _ fun e w' => Cald w F p am n s (readA n s x.i x.a x.b) e w'
      have hrd : ∀ (zs : List Nat) (E : Int), zs.length ≤ 211106232532800 → Calls Try.prog 32 #[.pointer (some ⟨p, 0, none⟩), .int .i64 x.i, .int .i64 x.a, .int .i64 x.b] (callW w x) (fun e w1 => (∃ ra rc, e = .returned (.tuple #[.slice ra zs.length rc, .int .i64 E]) ∧ (RowB w1 ra zs ∧ lowA (callW w x).heap.size ra)) ∧ Below (callW w x).heap.size (callW w x) w1) →
          Calls Try.prog 26 #[.pointer (some ⟨p, 0, none⟩), valC x] w fun e w' => Cald w F p am n s { ans0 E with P := zs } e w' := fun zs E hzs hc => by
        refine (call_read _ x e4 w (fun w1 => Below (callW w x).heap.size (callW w x) w1) E zs.length (fun ra rc w1 => RowB w1 ra zs ∧ lowA (callW w x).heap.size ra) (fun w1 h1 => box_chg x hF (Chg.new h1)) hc).mono ?_
        rintro e w' ⟨ra, rc, rfl, w1, ⟨h1, h2⟩, h3, h4⟩
        refine ⟨⟨_, rfl, ⟨ra, rc, none, 0, rfl, h1.keep h4.size (fun ad e9 hl => h4.block _ hl (fun hb => ?_)), fun ad e9 => ?_, .inl rfl, Nat.le_refl _⟩, hzs, by simp [ans0], fun i hi => by simp [ans0] at hi⟩, past_call x hF (Went.of_below hW h3) h4⟩
        · have := h2 ad e9; omega
        · have := h2 ad e9; omega
      unfold readA
      by_cases hi : inD n x.i = true
      · rw [if_pos hi]
        obtain ⟨hi1, hi2⟩ := inD_iff hi
        obtain ⟨i, hie⟩ : ∃ i, i = x.i.toNat := ⟨_, rfl⟩
        rw [← hie] at hi1 hi2 ⊢
        have b1 := hB.len i hi2
        by_cases hr : rdB (s i) x.a x.b = true
        · rw [if_pos hr]
          have hr2 : ¬ (x.b < 0 ∨ x.a < ((s i).B : Int) ∨ ((s i).B : Int) + ((s i).bs.length : Int) < x.a + x.b) := by unfold rdB at hr; simpa using hr
          refine hrd _ 0 (by simp; omega) ?_
          have := readD_ok hW i hi2 (x.a - ((s i).B : Int)).toNat x.b.toNat (by omega) x.a (by omega)
          rw [show ((x.b.toNat : Nat) : Int) = x.b by omega, ← hi1] at this
          refine this.mono ?_
          rintro e w1 ⟨⟨r, rfl, ho⟩, hb⟩
          obtain ⟨ra, rc, er, h1, _⟩ := ho.row
          exact ⟨⟨ra, rc, by rw [er], h1, fun ad ha => (ho.inside ad.block (by rw [er, ha]; rfl)).1⟩, hb⟩
        · rw [if_neg hr]
          have hr2 : x.b < 0 ∨ x.a < ((s i).B : Int) ∨ ((s i).B : Int) + ((s i).bs.length : Int) < x.a + x.b := by unfold rdB at hr; rw [decide_eq_true_eq] at hr; exact Classical.not_not.1 hr
          refine hrd [] 70 (by simp) ?_
          have := readD_no hW i hi2 x.a x.b hx.a.2 hr2
          rw [← hi1] at this
          exact this.mono fun e w1 hq => ⟨⟨none, 0, hq.1, .inl rfl, fun _ e => by cases e⟩, hq.2⟩
      · rw [if_neg hi]
        refine hrd [] 81 (by simp) ?_
        exact (readD_none _ 81 (by omega) x.i x.a x.b _ (hpn _ (Below.refl _ _) hi)).mono fun e w1 hq => ⟨⟨none, 0, hq.1, .inl rfl, fun _ e => by cases e⟩, by rw [hq.2]; exact Below.refl _ _⟩
    · rw [if_neg e4]
      by_cases e5 : x.k = 5
      · rw [if_pos e5]
        show Calls _ _ _ _ fun e w' => Cald w F p am n s (boundsA n s x.i) e w'
        have hbd : ∀ (E X Y Z : Int), Calls Try.prog 49 #[.pointer (some ⟨p, 0, none⟩), .int .i64 x.i] (callW w x) (fun e w1 => e = .returned (.tuple #[.int .i64 X, .int .i64 Y, .int .i64 Z, .int .i64 E]) ∧ Below (callW w x).heap.size (callW w x) w1) →
            Calls Try.prog 26 #[.pointer (some ⟨p, 0, none⟩), valC x] w fun e w' => Cald w F p am n s { ans0 E with X := X, Y := Y, Z := Z } e w' := fun E X Y Z hc => by
          refine (call_bounds _ x e5 w (fun w1 => Below (callW w x).heap.size (callW w x) w1) E X Y Z (fun w1 h1 => box_chg x hF (Chg.new h1)) hc).mono ?_
          rintro e w' ⟨rfl, w1, h3, h4⟩
          exact ⟨⟨_, rfl, tv0 _ _ _ _ _ _⟩, past_call x hF (Went.of_below hW h3) h4⟩
        unfold boundsA
        by_cases hi : inD n x.i = true
        · rw [if_pos hi]
          obtain ⟨hi1, hi2⟩ := inD_iff hi
          obtain ⟨i, hie⟩ : ∃ i, i = x.i.toNat := ⟨_, rfl⟩
          rw [← hie] at hi1 hi2 ⊢
          refine hbd 0 _ _ _ ?_
          rw [hi1]
          exact bounds_ok hW i hi2
        · rw [if_neg hi]
          refine hbd 81 0 0 0 ?_
          exact (bounds_no _ 81 (by omega) x.i _ (hpn _ (Below.refl _ _) hi)).mono fun e w1 hq => ⟨hq.1, by rw [hq.2]; exact Below.refl _ _⟩
      · rw [if_neg e5]
        by_cases e6 : x.k = 6
        · rw [if_pos e6]
          show Calls _ _ _ _ fun e w' => Cald w F p am n s { ans0 0 with X := doneA n s x.i } e w'
          refine (call_done _ x e6 w (fun w1 => Below (callW w x).heap.size (callW w x) w1) (doneA n s x.i) (fun w1 h1 => box_chg x hF (Chg.new h1)) ?_).mono ?_
          · unfold doneA
            by_cases hi : inD n x.i = true
            · rw [if_pos hi]
              obtain ⟨hi1, hi2⟩ := inD_iff hi
              obtain ⟨i, hie⟩ : ∃ i, i = x.i.toNat := ⟨_, rfl⟩
              rw [← hie] at hi1 hi2 ⊢
              rw [hi1]
              exact (done_ok hW i hi2).mono fun e w1 hq => ⟨hq.1, by rw [hq.2]; exact Below.refl _ _⟩
            · rw [if_neg hi]
              exact (done_no _ 81 (by omega) x.i _ (hpn _ (Below.refl _ _) hi)).mono fun e w1 hq => ⟨hq.1, by rw [hq.2]; exact Below.refl _ _⟩
          · rintro e w' ⟨rfl, w1, h3, h4⟩
            exact ⟨⟨_, rfl, tv0 _ _ _ _ _ _⟩, past_call x hF (Went.of_below hW h3) h4⟩
        · rw [if_neg e6]
          by_cases e7 : x.k = 7
          · rw [if_pos e7]
            show Calls _ _ _ _ fun e w' => Cald w F p true n (armTo s x.fn x.f n) (ans0 0) e w'
            refine (call_arm _ x e7 w (fun w1 => Went (callW w x) F p true n (armTo s x.fn x.f n) w1) (fun w1 h1 => box_chg x hF h1.chg) (arm_ok hW x.fa x.fn x.fc x.f hxW.f.row hfar (fun i hi => (hx.f.each i hi).t))).mono ?_
            rintro e w' ⟨rfl, w1, h3, h4⟩
            exact ⟨⟨_, rfl, tv0 _ _ _ _ _ _⟩, past_call x hF h3 h4⟩
          · rw [if_neg e7]
            by_cases e8 : x.k = 8
            · rw [if_pos e8]
              show Calls _ _ _ _ fun e w' => Cald w F p false n (strS s n) (ans0 0) e w'
              refine (call_strike _ x e8 w (fun w1 => Went (callW w x) F p false n (strS s n) w1) (fun w1 h1 => box_chg x hF h1.chg) (strike_ok hW)).mono ?_
              rintro e w' ⟨rfl, w1, h3, h4⟩
              exact ⟨⟨_, rfl, tv0 _ _ _ _ _ _⟩, past_call x hF h3 h4⟩
            · rw [if_neg e8]
              by_cases e9 : x.k = 9
              · rw [if_pos e9]
                show Calls _ _ _ _ fun e w' => Cald w F p am n s { ans0 0 with n := n, T := safeT s } e w'
                refine (call_image _ x e9 w (fun w1 => Below (callW w x).heap.size (callW w x) w1) n (fun ra rc w1 => RowT w1 (callW w x).heap.size ra n (safeT s) ∧ n ≤ rc) (fun w1 h1 => box_chg x hF (Chg.new h1)) ?_).mono ?_
                · refine (imageD_ok hW).mono ?_
                  rintro e w1 ⟨⟨X, r, rfl, hS⟩, hb⟩
                  exact ⟨⟨_, _, rfl, hS.rowT, Nat.le_refl _⟩, hb⟩
                · rintro e w' ⟨ra, rc, rfl, w1, ⟨h1, h1c⟩, h3, h4⟩
                  have h5 := h1.keep h4.size (fun b hb hl => h4.block b hl (fun hx => by omega))
                  refine ⟨⟨_, rfl, ⟨none, 0, ra, rc, rfl, .inl rfl, (fun _ e => by cases e), ?_, h1c⟩, by simp [ans0], h.few.2, fun i hi => ?_⟩, past_call x hF (Went.of_below hW h3) h4⟩
                  · rcases h5 with h5 | ⟨b, o, q1, q2, q3, q4⟩
                    · exact .inl h5
                    · refine .inr ⟨b, o, q1, q2, by omega, fun i hi => ?_⟩
                      obtain ⟨ra, rc, r1, r2, r3, r4⟩ := q4 i hi
                      exact ⟨ra, rc, r1, r2, r3, fun ad hd => by have := r4 ad hd; omega⟩
                  · have := (h.room i hi).1
                    simp [safeT]
                    omega
              · rw [if_neg e9]
                by_cases e10 : x.k = 10
                · rw [if_pos e10]
                  show Calls _ _ _ _ fun e w' => Cald w F p am n s { ans0 0 with X := (n : Int) } e w'
                  refine (call_areas _ x e10 w (fun w1 => Below (callW w x).heap.size (callW w x) w1) (n : Int) (fun w1 h1 => box_chg x hF (Chg.new h1)) ((areas_ok hW).mono fun e w1 hq => ⟨hq.1, by rw [hq.2]; exact Below.refl _ _⟩)).mono ?_
                  rintro e w' ⟨rfl, w1, h3, h4⟩
                  exact ⟨⟨_, rfl, tv0 _ _ _ _ _ _⟩, past_call x hF (Went.of_below hW h3) h4⟩
                · rw [if_neg e10]
                  show Calls _ _ _ _ fun e w' => Cald w F p am n s (ans0 0) e w'
                  refine (call_other _ x (by omega) w).mono ?_
                  rintro e w' ⟨rfl, hb⟩
                  exact ⟨⟨_, rfl, tv0 _ _ _ _ _ _⟩, Went.of_below h hb⟩
end

/-- A step's box. -/
def BoxC (w : World) (b : Nat) (x : Cal) : Prop := w.heap[b]? = some (.cells #[.int .i64 x.k, .int .i64 x.i, .int .i64 x.a, .int .i64 x.b, .slice x.p.a x.p.p.length x.p.c, .slice x.fa x.fn x.fc] 61 (0, 0))
theorem BoxC.cells {w : World} {b : Nat} {x : Cal} (h : BoxC w b x) : w.cell? ⟨b, 0, none⟩ = some (.int .i64 x.k) ∧ w.cell? ⟨b, 1, none⟩ = some (.int .i64 x.i) ∧ w.cell? ⟨b, 2, none⟩ = some (.int .i64 x.a) ∧ w.cell? ⟨b, 3, none⟩ = some (.int .i64 x.b) ∧ w.cell? ⟨b, 4, none⟩ = some (.slice x.p.a x.p.p.length x.p.c) ∧ w.cell? ⟨b, 5, none⟩ = some (.slice x.fa x.fn x.fc) :=
  ⟨cell_of_row _ _ _ _ _ _ h, cell_of_row _ _ _ _ _ _ h, cell_of_row _ _ _ _ _ _ h, cell_of_row _ _ _ _ _ _ h, cell_of_row _ _ _ _ _ _ h, cell_of_row _ _ _ _ _ _ h⟩

end Go.Proofs.Ytdodnegdpdhbiaa
