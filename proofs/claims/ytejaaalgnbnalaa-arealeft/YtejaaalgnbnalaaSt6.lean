/- Every step of both areas; two pairs beside one another; the last looks. -/
import Derived.Test.YtejaaalgnbnalaaSt5
namespace Go.Proofs.Ytejaaalgnbnalaa
open Go.RowKit

/-- An area as the document has it: its base, its bytes, how many are safe. -/
structure As where
  B : Nat
  bs : List Nat
  k : Nat
/-- The byte of a number. -/
def byteOf (b : Int) : Nat := (b % 256).toNat
/-- How many loose bytes are kept. -/
def kept (a : Int) (x : As) : Nat := min a.toNat (x.bs.length - x.k)
/-- An area behind a step. -/
def nxt (s : Stp) (x : As) : As :=
  if s.k = 1 then ⟨x.B, x.bs ++ s.d.p, x.k⟩
  else if s.k = 2 then ⟨x.B, x.bs, x.bs.length⟩
  else if s.k = 3 then (if (x.B : Int) ≤ s.a ∧ s.a ≤ (x.B : Int) + (x.bs.length : Int) then ⟨x.B, x.bs.take (s.a - (x.B : Int)).toNat, min x.k (s.a - (x.B : Int)).toNat⟩ else x)
  else if s.k = 4 then (if (x.B : Int) ≤ s.a ∧ s.a ≤ (x.B : Int) + (x.k : Int) then ⟨x.B + (s.a - (x.B : Int)).toNat, x.bs.drop (s.a - (x.B : Int)).toNat, x.k - (s.a - (x.B : Int)).toNat⟩ else x)
  else if s.k = 7 then ⟨x.B, crashB x.bs x.k (kept s.a x) (byteOf s.b), x.k + kept s.a x⟩
  else if s.k = 9 then (if 0 ≤ s.a ∧ s.a ≤ 4611686018427387904 then ⟨s.a.toNat, s.d.p, s.d.p.length⟩ else x)
  else x
/-- Not too large. -/
structure Inv (T : Nat) (x : As) : Prop where
  len : x.bs.length ≤ T
  room : x.B + x.bs.length ≤ 4611686018427387904 + T
  le : x.k ≤ x.bs.length
theorem Inv.next {T : Nat} {x : As} (h : Inv T x) (s : Stp) : Inv (T + (1 + s.d.p.length)) (nxt s x) := by
  obtain ⟨h1, h2, h3⟩ := h
  have hc : ∀ t, (crashB x.bs x.k (kept s.a x) t).length = x.k + kept s.a x := fun t => crashB_len _ _ _ _ (by unfold kept; omega)
  have hkp : kept s.a x ≤ x.bs.length - x.k := Nat.min_le_right _ _
  unfold nxt
  repeat' split
  · refine ⟨?_, ?_, ?_⟩ <;> (simp only [List.length_append]; omega)
  · refine ⟨?_, ?_, ?_⟩ <;> (simp only; omega)
  · refine ⟨?_, ?_, ?_⟩ <;> (simp only [List.length_take]; omega)
  · exact ⟨by omega, by omega, h3⟩
  · refine ⟨?_, ?_, ?_⟩ <;> (simp only [List.length_drop]; omega)
  · exact ⟨by omega, by omega, h3⟩
  · refine ⟨?_, ?_, ?_⟩ <;> (simp only [hc]; omega)
  · refine ⟨?_, ?_, ?_⟩ <;> (simp only; omega)
  · exact ⟨by omega, by omega, h3⟩
  · exact ⟨by omega, by omega, h3⟩

theorem read_tells {p : Nat} {v : Value} {B : Nat} {bs : List Nat} {k : Nat} (W : World) (h : Ar W p 0 v B bs k) (E N : Int) (hEb : E ≤ 9223372036854775807) (hE : N < 0 ∨ E < (B : Int) ∨ (B : Int) + (bs.length : Int) < E + N) :
    Calls Try.prog 15 #[.pointer (some ⟨p, 0, none⟩), .int .i64 E, .int .i64 N] W fun e w' => Tells W [] 70 e w' := by
  refine (read_no W h E N hEb hE).mono ?_
  rintro e w' ⟨rfl, hb⟩
  exact ⟨⟨_, rfl, OwB.nil _ _⟩, hb⟩
theorem rread_tells {da sa : Value} {B : Nat} {bs : List Nat} {k : Nat} (W : World) (h : Dv W da sa bs k) (hr : B + bs.length ≤ 9223372036854775807) (E N : Int) (hEb : E ≤ 9223372036854775807) (hE : N < 0 ∨ E < (B : Int) ∨ (B : Int) + (bs.length : Int) < E + N) :
    Calls Try.prog 28 #[.agg #[.int .i64 (B : Int), da, sa], .int .i64 E, .int .i64 N] W fun e w' => Tells W [] 70 e w' := by
  refine (rread_no B W h hr E N hEb hE).mono ?_
  rintro e w' ⟨rfl, hb⟩
  exact ⟨⟨_, rfl, OwB.nil _ _⟩, hb⟩

/-- Reading: both tell the same. -/
theorem step5_any (a b : Int) (d : Pc) (w : World) (F : Nat → Prop) (pp B : Nat) (bs : List Nat) (k : Nat) (h : Pm w F pp B bs k) (ha : a ≤ 9223372036854775807) :
    Calls Try.prog 17 #[.pointer (some ⟨pp, 0, none⟩), valS ⟨5, a, b, d⟩] w fun e w' => e = .returned (.bool true) ∧ Below w.heap.size w w' := by
  obtain ⟨p, v, da, sa, hM⟩ := h
  have hro := hM.ar.room
  have hl := hM.ar.len
  have h : Pm w F pp B bs k := ⟨p, v, da, sa, hM⟩
  by_cases hb : b < 0 ∨ a < (B : Int) ∨ (B : Int) + (bs.length : Int) < a + b
  · exact step5 a b d w F pp B bs k h 70 [] (fun W p v hA => read_tells W hA a b ha hb) (fun W da sa hD => rread_tells W hD hro a b ha hb)
  · obtain ⟨i, hi⟩ : ∃ i : Nat, a = (B : Int) + (i : Int) := ⟨(a - (B : Int)).toNat, by omega⟩
    obtain ⟨m, rfl⟩ : ∃ m : Nat, b = (m : Int) := ⟨b.toNat, by omega⟩
    exact step5 a m d w F pp B bs k h 0 _ (fun W p v hA => read_ok W hA i m (by omega) a hi) (fun W da sa hD => rread_ok B W hD hro hl i m (by omega) a hi)

theorem Stepd.looked {w w' : World} {F : Nat → Prop} {pp B : Nat} {bs : List Nat} {k : Nat} {e : Ending} (h : Pm w F pp B bs k) (he : e = .returned (.bool true)) (hb : Below w.heap.size w w') : Stepd w F pp B bs k e w' := by
  obtain ⟨p, v, da, sa, hM⟩ := h
  subst he
  exact Stepd.look hM hb

/-- Every step. -/
theorem step_any (s : Stp) (x : As) (w : World) (F : Nat → Prop) (hd : ∀ w', Chg F w w' → StpOk w' s) (pp : Nat) (h : Pm w F pp x.B x.bs x.k) {T : Nat} (hI : Inv T x) (hT : T + (1 + s.d.p.length) ≤ 1073741824) :
    Calls Try.prog 17 #[.pointer (some ⟨pp, 0, none⟩), valS s] w fun e w' => Stepd w F pp (nxt s x).B (nxt s x).bs (nxt s x).k e w' := by
  have hok := hd w (Chg.refl _ _)
  obtain ⟨K, a, b, d⟩ := s
  have hI1 := hI.len
  have hI2 := hI.room
  have hle := hI.le
  simp only at hT
  have ha2 := hok.a.2
  simp only at ha2
  by_cases e1 : K = 1
  · subst e1
    exact step1 a b d w F (fun w' hc => (hd w' hc).d) pp x.B x.bs x.k h (by omega) (by omega)
  by_cases e2 : K = 2
  · subst e2
    exact step2 a b d w F pp x.B x.bs x.k h (by omega)
  by_cases e3 : K = 3
  · subst e3
    by_cases hin : (x.B : Int) ≤ a ∧ a ≤ (x.B : Int) + (x.bs.length : Int)
    · have hn : nxt ⟨3, a, b, d⟩ x = ⟨x.B, x.bs.take (a - (x.B : Int)).toNat, min x.k (a - (x.B : Int)).toNat⟩ := by simp [nxt, hin]
      rw [hn]
      have hm : (a - (x.B : Int)).toNat ≤ x.bs.length := by omega
      have hE : a = (x.B : Int) + ((a - (x.B : Int)).toNat : Int) := by omega
      refine step3 a b d w F pp x.B x.bs x.k h 0 _ _ _ (fun W p v hA => cut_ok W hA _ hm a hE) (fun W da sa hD => ?_)
      refine (rcut_ok x.B W hD (by omega) (by omega) _ hm a hE).mono ?_
      rintro e w' ⟨da', sa', rfl, hn⟩
      exact ⟨da', sa', rfl, hn.dr _ _⟩
    · have hn : nxt ⟨3, a, b, d⟩ x = x := by simp [nxt, hin]
      rw [hn]
      have hout : a < (x.B : Int) ∨ (x.B : Int) + (x.bs.length : Int) < a := by omega
      refine step3 a b d w F pp x.B x.bs x.k h 70 _ _ _ (fun W p v hA => cut_no W hA a hout) (fun W da sa hD => ?_)
      refine (rcut_no x.B W hD (by omega) a hout).mono ?_
      rintro e w' ⟨rfl, hb⟩
      exact ⟨da, sa, rfl, hD.dr hb⟩
  by_cases e4 : K = 4
  · subst e4
    by_cases hin : (x.B : Int) ≤ a ∧ a ≤ (x.B : Int) + (x.k : Int)
    · have hn : nxt ⟨4, a, b, d⟩ x = ⟨x.B + (a - (x.B : Int)).toNat, x.bs.drop (a - (x.B : Int)).toNat, x.k - (a - (x.B : Int)).toNat⟩ := by simp [nxt, hin]
      rw [hn]
      have hm : (a - (x.B : Int)).toNat ≤ x.k := by omega
      have hE : a = (x.B : Int) + ((a - (x.B : Int)).toNat : Int) := by omega
      have hE2 : a = ((x.B + (a - (x.B : Int)).toNat : Nat) : Int) := by omega
      refine step4 a b d w F pp x.B x.bs x.k h 0 _ _ _ (fun W p v hA => trim_ok W hA hle _ hm a hE) (fun W da sa hD => ?_)
      refine (rtrim_ok x.B W hD (by omega) (by omega) _ hm a hE).mono ?_
      rintro e w' ⟨da', sa', rfl, hn⟩
      exact ⟨da', sa', by rw [← hE2], hn.dr _ _⟩
    · have hn : nxt ⟨4, a, b, d⟩ x = x := by simp [nxt, hin]
      rw [hn]
      have hout : a < (x.B : Int) ∨ (x.B : Int) + (x.k : Int) < a := by omega
      refine step4 a b d w F pp x.B x.bs x.k h 70 _ _ _ (fun W p v hA => trim_no W hA hle a hout) (fun W da sa hD => ?_)
      refine (rtrim_no x.B W hD (by omega) a hout).mono ?_
      rintro e w' ⟨rfl, hb⟩
      exact ⟨da, sa, rfl, hD.dr hb⟩
  by_cases e5 : K = 5
  · subst e5
    refine (step5_any a b d w F pp x.B x.bs x.k h ha2).mono ?_
    rintro e w' ⟨he, hb⟩
    exact Stepd.looked h he hb
  by_cases e6 : K = 6
  · subst e6
    refine (step6 a b d w F pp x.B x.bs x.k h).mono ?_
    rintro e w' ⟨he, hb⟩
    exact Stepd.looked h he hb
  by_cases e7 : K = 7
  · subst e7
    exact step7 a b d w F pp x.B x.bs x.k h (byteOf b) (kept a x) (by unfold byteOf; omega) rfl
  by_cases e8 : K = 8
  · subst e8
    refine (step8 a b d w F pp x.B x.bs x.k h).mono ?_
    rintro e w' ⟨he, hb⟩
    exact Stepd.looked h he hb
  by_cases e9 : K = 9
  · subst e9
    by_cases hin : 0 ≤ a ∧ a ≤ 4611686018427387904
    · have hn : nxt ⟨9, a, b, d⟩ x = ⟨a.toNat, d.p, d.p.length⟩ := by simp [nxt, hin]
      rw [hn]
      obtain ⟨B', rfl⟩ : ∃ B' : Nat, a = (B' : Int) := ⟨a.toNat, by omega⟩
      exact step9_ok b d w F hok.d pp x.B x.bs x.k h B' (by omega)
    · have hn : nxt ⟨9, a, b, d⟩ x = x := by simp [nxt, hin]
      rw [hn]
      exact step9_no a b d w F hok.d pp x.B x.bs x.k h (by omega)
  have hn : nxt ⟨K, a, b, d⟩ x = x := by simp [nxt, e1, e2, e3, e4, e7, e9]
  rw [hn]
  exact stepX K a b d w F pp x.B x.bs x.k h e1 e2 e3 e4 e5 e6 e7 e8 e9

end Go.Proofs.Ytejaaalgnbnalaa
