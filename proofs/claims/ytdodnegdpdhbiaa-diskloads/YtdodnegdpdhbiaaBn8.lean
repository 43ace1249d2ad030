/- How great a disk is behind a call. -/
import Derived.Test.YtdodnegdpdhbiaaCa12
import Derived.Test.YtdodnegdpdhbiaaVa8
namespace Go.Proofs.Ytdodnegdpdhbiaa
open Go.RowKit

theorem opX_small (x : Pt) (kd : Nat) (A : Int) (zs : List Nat) (hk : x.k ≤ x.bs.length) : (opX x kd A zs).2.bs.length ≤ x.bs.length + zs.length ∧ (opX x kd A zs).2.B + (opX x kd A zs).2.bs.length ≤ x.B + x.bs.length + zs.length ∧ (opX x kd A zs).2.c ≤ x.c + 1 := by
  unfold opX
  split
  · simp; omega
  · split
    · simp
    · split
      · split
        · simp
        · simp; omega
      · split
        · simp
        · simp; omega
theorem opS_small (am : Bool) (x : Pt) (kd : Nat) (A : Int) (zs : List Nat) (hk : x.k ≤ x.bs.length) : (opS am x kd A zs).2.bs.length ≤ x.bs.length + zs.length ∧ (opS am x kd A zs).2.B + (opS am x kd A zs).2.bs.length ≤ x.B + x.bs.length + zs.length ∧ (opS am x kd A zs).2.c ≤ x.c + 1 := by
  unfold opS
  split
  · simp
  · exact opX_small x kd A zs hk
theorem strX_small (x : Pt) (hk : x.k ≤ x.bs.length) : (strX x).bs.length ≤ x.bs.length ∧ (strX x).B = x.B ∧ (strX x).c = x.c := by
  unfold strX
  refine ⟨?_, rfl, rfl⟩
  have h : x.k + kpt x ≤ x.bs.length := by unfold kpt; omega
  show (crashB x.bs x.k (kpt x) x.ft).length ≤ _
  rw [crashB_len _ _ _ _ h]
  exact h
theorem Bnd.mono {M M' n : Nat} {s : Nat → Pt} (h : Bnd M n s) (hm : M ≤ M') : Bnd M' n s := ⟨fun i hi => by have := h.len i hi; omega, fun i hi => by have := h.room i hi; omega, fun i hi => by have := h.cnt i hi; omega⟩
theorem Bnd.op {M n : Nat} {s : Nat → Pt} (h : Bnd M n s) (am : Bool) {i : Nat} (kd : Nat) (A : Int) (zs : List Nat) (hle : ∀ i, i < n → (s i).k ≤ (s i).bs.length) : Bnd (M + 1 + zs.length) n (upd s i (opS am (s i) kd A zs).2) := by
  refine ⟨fun j hj => ?_, fun j hj => ?_, fun j hj => ?_⟩
  all_goals
    by_cases e : j = i
    · subst e
      rw [upd_at]
      have h1 := opS_small am (s j) kd A zs (hle j hj)
      have := h.len j hj; have := h.room j hj; have := h.cnt j hj
      omega
    · rw [upd_ne _ _ _ e]
      have := h.len j hj; have := h.room j hj; have := h.cnt j hj
      omega
theorem Bnd.arm {M n : Nat} {s : Nat → Pt} (h : Bnd M n s) (m : Nat) (f : Nat → Fte) (j : Nat) : Bnd M n (armTo s m f j) := by
  refine ⟨fun i hi => ?_, fun i hi => ?_, fun i hi => ?_⟩
  · unfold armTo; split
    · exact h.len i hi
    · exact h.len i hi
  · unfold armTo; split
    · exact h.room i hi
    · exact h.room i hi
  · unfold armTo; split
    · exact Nat.zero_le _
    · exact h.cnt i hi
theorem Bnd.strike {M n : Nat} {s : Nat → Pt} (h : Bnd M n s) (hle : ∀ i, i < n → (s i).k ≤ (s i).bs.length) : Bnd M n (strS s n) := by
  refine Bnd.arm ⟨fun i hi => ?_, fun i hi => ?_, fun i hi => ?_⟩ 0 _ n
  all_goals
    have h1 := strX_small (s i) (hle i hi)
    have := h.len i hi; have := h.room i hi; have := h.cnt i hi
    unfold strTo
    rw [if_pos hi]
    omega
theorem Bnd.call {M n : Nat} {s : Nat → Pt} (h : Bnd M n s) (am : Bool) (x : Cal) (hle : ∀ i, i < n → (s i).k ≤ (s i).bs.length) : Bnd (M + 1 + x.p.p.length) n (calS am n s x).2.2 := by
  have h0 : Bnd (M + 1 + x.p.p.length) n s := h.mono (by omega)
  unfold calS
  split
  · split
    · exact h.op am x.k.toNat x.a x.p.p hle
    · exact h0
  · split
    · exact h0
    · split
      · exact h0
      · split
        · exact h0
        · split
          · exact h0.arm x.fn x.f n
          · split
            · exact h0.strike hle
            · split
              · exact h0
              · split
                · exact h0
                · exact h0
theorem Bnd.new (n : Nat) : Bnd 0 n (fun _ => ⟨0, [], 0, 0, 0, 0, 0⟩) := ⟨fun _ _ => by simp, fun _ _ => by simp, fun _ _ => by simp⟩

/-- A call of a disk of one's own: a step that came in. -/
theorem Nd.call {w0 w : World} {p : Nat} {am : Bool} {n : Nat} {s : Nat → Pt} (h : Nd w0 w p am n s) (x : Cal) (hx : CalOk w x) (hfar : x.fn = 0 ∨ ∀ ad, x.fa = some ad → ad.block < w0.heap.size) (M : Nat) (hB : Bnd M n s) (hM : M + 1 + x.p.p.length ≤ 70368744177664) :
    Calls Try.prog 26 #[.pointer (some ⟨p, 0, none⟩), valC x] w fun e w' => (∃ v, e = .returned v ∧ TV w' w.heap.size v (calS am n s x).1) ∧ Nd w0 w' p (calS am n s x).2.1 n (calS am n s x).2.2 := by
  obtain ⟨F, h1, h2⟩ := h.ex
  exact (call_any h1 x hx (hfar.imp (fun e => e) fun hfar ad e hF => by have := h2 _ hF; have := hfar ad e; omega) M hB hM).mono fun e w' hq => ⟨hq.ex, h.went h2 hq.went⟩
/-- The fates of a step that came in lie where they came from. -/
theorem CameCal.low {w : World} {a : Option Addr} {n : Nat} {A : Nat → Cal} (h : CameCal w a n A) {i : Nat} (hi : i < n) : (A i).fn = 0 ∨ ∀ ad, (A i).fa = some ad → ad.block < w.heap.size := by
  rcases (h.each i hi).f.row with h1 | ⟨b, o, e1, e2, _⟩
  · exact .inl h1
  · refine .inr fun ad e => ?_
    rw [e1] at e
    cases e
    exact e2

end Go.Proofs.Ytdodnegdpdhbiaa
