/- A log of one's own over a disk of one area, made since w0. -/
import Derived.Test.YtkacfpmninmjkaaGreatWl3
namespace Go.Proofs.YtkacfpmninmjkaaGreat
open Go.RowKit

/-- The disk's block p, the log's block L, the disk's blocks F; x: its area. -/
structure Nl (w0 w : World) (F : Nat → Prop) (L p : Nat) (am : Bool) (x : Pt) : Prop where
  dsk : ∃ s : Nat → Pt, s 0 = x ∧ Dsk w F p am 1 s
  log : Lg w L p 0
  far : ¬ F L
  own : ∀ b, F b → w0.heap.size ≤ b
  ge : w0.heap.size ≤ L
  bel : Below w0.heap.size w0 w
section
variable {w0 w w' : World} {F : Nat → Prop} {L p : Nat} {am : Bool} {x : Pt}
theorem Nl.lt (h : Nl w0 w F L p am x) : ∀ b, F b → b < w.heap.size := by
  obtain ⟨s, _, h1⟩ := h.dsk
  exact h1.lt
theorem Nl.below (h : Nl w0 w F L p am x) (hb : Below w.heap.size w w') : Nl w0 w' F L p am x := by
  obtain ⟨s, h0, h1⟩ := h.dsk
  exact ⟨⟨s, h0, h1.below hb⟩, h.log.below hb, h.far, h.own, h.ge, h.bel.trans (hb.mono h.bel.size)⟩
theorem Nl.room (h : Nl w0 w F L p am x) : x.k ≤ x.bs.length ∧ x.bs.length ≤ 211106232532800 ∧ x.B + x.bs.length ≤ 9223372036854775807 ∧ All8 x.bs ∧ x.ft < 256 := by
  obtain ⟨s, h0, h1⟩ := h.dsk
  have h2 := h1.le 0 (by omega)
  have h3 := h1.room 0 (by omega)
  have h4 := h1.ft 0 (by omega)
  rw [h0] at h2 h3 h4
  exact ⟨h2, h3.1, h3.2.1, h3.2.2, h4⟩
theorem Nl.went {am' : Bool} {s' : Nat → Pt} {y : Pt} (h : Nl w0 w F L p am x) (hw : Went w F p am' 1 s' w') (hy : s' 0 = y) : Nl w0 w' (upto F w w') L p am' y := by
  have hs := h.bel.size
  refine ⟨⟨s', hy, hw.dsk⟩, (hw.chg.block L h.log.lt h.far).trans h.log, upto_not h.far h.log.lt, fun b hb => ?_, h.ge, h.bel.trans (hw.chg.below h.own hs)⟩
  rcases hb with hb | hb
  · exact h.own b hb
  · omega
/-- What a call of the log or the disk leaves. -/
structure Nlo (w0 w : World) (F : Nat → Prop) (L p : Nat) (am : Bool) (R : Int × Pt) (e : Ending) (w' : World) : Prop where
  ans : e = .returned (.int .i64 R.1)
  nl : Nl w0 w' (upto F w w') L p am R.2
  chg : Chg F w w'
theorem Nl.opd {am' : Bool} {s' : Nat → Pt} {R : Int × Pt} {e : Ending} (h : Nl w0 w F L p am x) (ho : Opd w F p am' 1 s' R.1 e w') (hy : s' 0 = R.2) : Nlo w0 w F L p am' R e w' := ⟨ho.ans, h.went ho.went hy, ho.went.chg⟩

theorem Nl.write (h : Nl w0 w F L p am x) (a : Option Addr) (cap : Nat) (xs : List Ent) (hx : Ets w F a xs) (hl : x.bs.length + 4402 * xs.length ≤ 211106232532800) (hB : x.B + x.bs.length + 4402 * xs.length ≤ 9223372036854775807) (hcb : x.c + xs.length ≤ 4611686018427387904) :
    Calls Tryz.prog 22 #[.pointer (some ⟨L, 0, none⟩), .slice a xs.length cap] w fun e w' => Nlo w0 w F L p am (wrX am x (xs.map Ent.en)) e w' := by
  obtain ⟨s, rfl, h1⟩ := h.dsk
  exact (write_any h1 (by omega) h.log h.far a cap xs hx hl hB hcb).mono fun e w' ho => h.opd ho (upd_at _ _ _)
theorem Nl.group (h : Nl w0 w F L p am x) (a : Option Addr) (cap : Nat) (xs : List Ent) (hx : Ets w F a xs) (hl : x.bs.length + 4402 * xs.length ≤ 211106232532800) (hB : x.B + x.bs.length + 4402 * xs.length ≤ 9223372036854775807) (hcb : x.c + xs.length ≤ 4611686018427387904) :
    Calls Tryz.prog 21 #[.pointer (some ⟨L, 0, none⟩), .slice a xs.length cap] w fun e w' => Nlo w0 w F L p am (grX am x (xs.map Ent.en)) e w' := by
  obtain ⟨s, rfl, h1⟩ := h.dsk
  exact (group_any h1 (by omega) h.log h.far a cap xs hx hl hB hcb).mono fun e w' ho => h.opd ho (upd_at _ _ _)
theorem Nl.cut (h : Nl w0 w F L p am x) (A : Int) (hcb : x.c ≤ 4611686018427387904) :
    Calls Tryz.prog 30 #[.pointer (some ⟨L, 0, none⟩), .int .i64 A] w fun e w' => Nlo w0 w F L p am (opS am x 2 A []) e w' := by
  obtain ⟨s, rfl, h1⟩ := h.dsk
  exact (lcut_any h1 (by omega) h.log h.far hcb A).mono fun e w' ho => h.opd ho (upd_at _ _ _)
theorem Nl.trim (h : Nl w0 w F L p am x) (A : Int) (hcb : x.c ≤ 4611686018427387904) :
    Calls Tryz.prog 28 #[.pointer (some ⟨L, 0, none⟩), .int .i64 A] w fun e w' => Nlo w0 w F L p am (opS am x 3 A []) e w' := by
  obtain ⟨s, rfl, h1⟩ := h.dsk
  exact (ltrim_any h1 (by omega) h.log h.far hcb A).mono fun e w' ho => h.opd ho (upd_at _ _ _)
theorem Nl.bounds (h : Nl w0 w F L p am x) :
    Calls Tryz.prog 24 #[.pointer (some ⟨L, 0, none⟩)] w fun e w' => e = .returned (.tuple #[.int .i64 (x.B : Int), .int .i64 ((x.B + x.k : Nat) : Int), .int .i64 ((x.B + x.bs.length : Nat) : Int)]) ∧ Below w.heap.size w w' := by
  obtain ⟨s, rfl, h1⟩ := h.dsk
  exact lbounds_any h1 (by omega) h.log
theorem Nl.entries (h : Nl w0 w F L p am x) (hl : x.bs.length ≤ 17592186044416) :
    Calls Tryz.prog 23 #[.pointer (some ⟨L, 0, none⟩)] w fun e w' => TelE w x.bs x.B e w' := by
  obtain ⟨s, rfl, h1⟩ := h.dsk
  exact entries_any h1 (by omega) h.log hl
theorem Nl.done (h : Nl w0 w F L p am x) : Calls Tryz.prog 18 #[.pointer (some ⟨p, 0, none⟩), .int .i64 0] w fun e w' => e = .returned (.int .i64 (x.c : Int)) ∧ w' = w := by
  obtain ⟨s, rfl, h1⟩ := h.dsk
  exact done_ok h1 0 (by omega)
theorem Nl.append (h : Nl w0 w F L p am x) (a : Option Addr) (cap : Nat) (zs : List Nat) (hr : RowB w a zs) (h8 : All8 zs) (hnil : a = none → zs.length = 0 ∧ cap = 0) (hl : x.bs.length + zs.length ≤ 211106232532800) (hB : x.B + x.bs.length + zs.length ≤ 9223372036854775807) (hcb : x.c ≤ 4611686018427387904) :
    Calls Tryz.prog 46 #[.pointer (some ⟨p, 0, none⟩), .int .i64 0, .slice a zs.length cap] w fun e w' => Nlo w0 w F L p am (opS am x 0 0 zs) e w' := by
  obtain ⟨s, rfl, h1⟩ := h.dsk
  exact (opAppend h1 0 (by omega) 0 a cap zs hr h8 hnil hl hB hcb).mono fun e w' ho => h.opd ho (upd_at _ _ _)
/-- An area behind Arm; behind Strike. -/
def armP (x : Pt) (f : Fte) : Pt := { x with fd := f.d, fk := f.k, ft := f.t, c := 0 }
def strP (x : Pt) : Pt := { strX x with fd := 0, fk := 0, ft := 0, c := 0 }
theorem Nl.arm (h : Nl w0 w F L p am x) (fa : Option Addr) (cap : Nat) (f : Fte) (hfs : RowF w fa 1 (fun _ => f)) (hfar : farA F fa) (hft : f.t < 256) :
    Calls Tryz.prog 26 #[.pointer (some ⟨p, 0, none⟩), .slice fa 1 cap] w fun e w' => e = .returned (.tuple #[]) ∧ Nl w0 w' (upto F w w') L p true (armP x f) ∧ Chg F w w' := by
  obtain ⟨s, rfl, h1⟩ := h.dsk
  exact (arm_ok h1 fa 1 cap (fun _ => f) hfs (.inr hfar) (fun _ _ => hft)).mono fun e w' ⟨he, hw⟩ => ⟨he, h.went hw rfl, hw.chg⟩
theorem Nl.strike (h : Nl w0 w F L p am x) :
    Calls Tryz.prog 27 #[.pointer (some ⟨p, 0, none⟩)] w fun e w' => e = .returned (.tuple #[]) ∧ Nl w0 w' (upto F w w') L p false (strP x) ∧ Chg F w w' := by
  obtain ⟨s, rfl, h1⟩ := h.dsk
  exact (strike_ok h1).mono fun e w' ⟨he, hw⟩ => ⟨he, h.went hw rfl, hw.chg⟩
/-- The area of a new disk. -/
def zeroPt : Pt := ⟨0, [], 0, 0, 0, 0, 0⟩
/-- A new disk and its log. -/
theorem made_log {w1 : World} (hb : Below w0.heap.size w0 w) (h : MadeD w 1 (fun _ => zeroPt) (.returned (.tuple #[.pointer (some ⟨p, 0, none⟩), .int .i64 0])) w1) :
    Calls Tryz.prog 11 #[.pointer (some ⟨p, 0, none⟩), .int .i64 0] w1 fun e w' => ∃ L F, e = .returned (.tuple #[.pointer (some ⟨L, 0, none⟩), .int .i64 0]) ∧ Nl w0 w' F L p false zeroPt ∧ (∀ b, F b → w.heap.size ≤ b) ∧ w1.heap.size ≤ L ∧ Below w1.heap.size w1 w' := by
  obtain ⟨⟨p', he, hd⟩, hb1⟩ := h
  cases he
  refine (open_log hd (i := 0) (by omega)).mono fun e w' ⟨L, he, hL, hlg, hb2⟩ => ⟨L, (fun b => w.heap.size ≤ b ∧ b < w1.heap.size), he, ⟨⟨(fun _ => zeroPt), rfl, hd.below hb2⟩, hlg, fun hx => by omega, fun b hx => by have := hb.size; omega, by have := hb.size; have := hb1.size; omega, hb.trans ((hb1.trans (hb2.mono hb1.size)).mono hb.size)⟩, fun b hx => hx.1, hL, hb2⟩
end

/-- A list of entries of one's own, as one that is handed over. -/
theorem DocN.ets {W : World} {N : Nat} {v : Value} {ts : List Ent} {F : Nat → Prop} (h : DocN W N v ts) (hF : ∀ b, F b → b < N) : ∃ a c, v = .slice a ts.length c ∧ Ets W F a ts ∧ ts.length ≤ c ∧ c ≤ maxLen ∧ (a = none → ts.length = 0 ∧ c = 0) := by
  have he : ∀ t ∈ ts, PcOk W t.val ∧ (t.val.p.length = 0 ∨ farA F t.val.a) := fun t ht => by
    have ho := h.each t ht
    obtain ⟨a, c, e, hr, hc, hm, hn⟩ := ho.row
    cases e
    refine ⟨⟨hr, (h.all t ht).1, (h.all t ht).2, hn⟩, .inr fun ad e hx => ?_⟩
    have h1 := ho.ge (j := ad.block) (by unfold valP; rw [e]; rfl)
    have := hF _ hx
    omega
  rcases h.list.2 with ⟨rfl, h0⟩ | ⟨g, cap, cur, rfl, hb, hh, hn, hm, _, hat⟩
  · exact ⟨none, 0, by rw [h0], ⟨.inl h0, he⟩, by omega, by simp [maxLen], fun _ => ⟨h0, rfl⟩⟩
  · refine ⟨_, cap, rfl, ⟨.inr ⟨g, 0, rfl, (Array.getElem?_eq_some_iff.1 hh).1, fun hx => by have := hF _ hx; omega, fun i x hi => ?_⟩, he⟩, hn, hm, fun e => by cases e⟩
    have hcl := celN_len ts
    have hil : i < ts.length := (List.getElem?_eq_some_iff.1 hi).1
    have key : ∀ j, j < 6 → W.cell? ⟨g, 0 + i * 6 + j, none⟩ = (sixL x)[j]? := fun j hj => by
      rw [cell_of_row _ _ _ _ _ _ hh, Nat.zero_add, ← celN_at ts i x j hi hj, ← hat, List.getElem?_take_of_lt (by omega), Array.getElem?_toList]
    exact ⟨key 0 (by omega), key 1 (by omega), key 2 (by omega), key 3 (by omega), key 4 (by omega), key 5 (by omega)⟩

end Go.Proofs.YtkacfpmninmjkaaGreat
