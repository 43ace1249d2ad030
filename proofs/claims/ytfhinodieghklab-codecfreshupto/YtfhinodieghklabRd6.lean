/- A reader's readings of numbers: what Take answers at each kind; a reader that has a fault, or is not there. -/
import Derived.Test.YtfhinodieghklabRd5
namespace Go.Proofs.Ytfhinodieghklab
open Go.RowKit

/-- What taking a number of W bytes answers. -/
def takeFixed (W : Nat) (bs : List Nat) : Except Nat (Nat × List Nat) := if bs.length < W then .error 20 else .ok (beVal (bs.take W), bs.drop W)
theorem fixed_any (base g W : Nat) (bs : List Nat) (w : World) (hc : Cur w base g bs) (h8 : All8 bs) (hW : W ≤ 8) :
    Calls Try.prog 50 #[.pointer (some ⟨g, 0, none⟩), .int .i64 (W : Int)] w fun e w' => Took (fun f => .int .u64 ((f : Nat) : Int)) base g w (takeFixed W bs) e w' := by
  by_cases h : bs.length < W
  · refine (fixed_cut base g W bs w hc hW h).mono ?_
    rintro e w' ⟨rfl, rfl⟩
    rw [show takeFixed W bs = .error 20 from if_pos h]
    exact ⟨rfl, Below.refl _ _⟩
  · refine (fixed_ok base g W bs w hc h8 hW (by omega)).mono ?_
    rintro e w' ⟨rfl, h1, h2⟩
    rw [show takeFixed W bs = .ok (beVal (bs.take W), bs.drop W) from if_neg h]
    exact ⟨rfl, h1, h2⟩
theorem takeFixed_lt {W : Nat} {bs : List Nat} {v : Nat} {t : List Nat} (h8 : All8 bs) (h : takeFixed W bs = .ok (v, t)) : v < 256 ^ W := by
  unfold takeFixed at h
  split at h
  · cases h
  · next hn =>
    cases h
    exact beVal_lt h8 W (by omega)

set_option maxRecDepth 100000 in
set_option maxHeartbeats 400000 in
theorem takeC8 (base g : Nat) (bs : List Nat) (w : World) (hc : Cur w base g bs) (h8 : All8 bs) :
    Calls Try.prog 57 #[.pointer (some ⟨g, 0, none⟩)] w fun e w' => Took (fun f => .int .u8 ((f : Nat) : Int)) base g w (takeFixed 1 bs) e w' := by
  have hf := fixed_any base g 1 bs w hc h8 (by omega)
  obtain ⟨R, hR⟩ : ∃ R, R = takeFixed 1 bs := ⟨_, rfl⟩
  have hlt := fun v t => takeFixed_lt (W := 1) (v := v) (t := t) h8
  rw [← hR] at hf hlt ⊢
  clear hR hc
  go_enter Try.func57, Try.ntmps57
  go_wp2_with (go_at_call 55; refine (width8 _).mono ?_; rintro e w' ⟨rfl, hq⟩; have hq2 := hq.symm; subst hq2; clear hq)
  refine hf.mono ?_
  intro e w1 ht
  cases R with
  | error c =>
    obtain ⟨rfl, hb⟩ := ht
    go_wp2_with fail
    exact ⟨rfl, rfl, hb⟩
  | ok x =>
    obtain ⟨v, t⟩ := x
    obtain ⟨rfl, hcur, hb⟩ := ht
    have hv : v < 256 := hlt v t rfl
    have HC := hide_it hcur
    clear hcur hlt hf
    have hw : IntKind.u8.wrap (v : Int) = (v : Int) := by simp [IntKind.wrap, IntKind.bits, IntKind.signed]; omega
    go_wp2_with fail
    go_ret
    exact ⟨rfl, HC.out, hb⟩

set_option maxRecDepth 100000 in
set_option maxHeartbeats 400000 in
theorem takeC16 (base g : Nat) (bs : List Nat) (w : World) (hc : Cur w base g bs) (h8 : All8 bs) :
    Calls Try.prog 62 #[.pointer (some ⟨g, 0, none⟩)] w fun e w' => Took (fun f => .int .u16 ((f : Nat) : Int)) base g w (takeFixed 2 bs) e w' := by
  have hf := fixed_any base g 2 bs w hc h8 (by omega)
  obtain ⟨R, hR⟩ : ∃ R, R = takeFixed 2 bs := ⟨_, rfl⟩
  have hlt := fun v t => takeFixed_lt (W := 2) (v := v) (t := t) h8
  rw [← hR] at hf hlt ⊢
  clear hR hc
  go_enter Try.func62, Try.ntmps62
  go_wp2_with (go_at_call 54; refine (width16 _).mono ?_; rintro e w' ⟨rfl, hq⟩; have hq2 := hq.symm; subst hq2; clear hq)
  refine hf.mono ?_
  intro e w1 ht
  cases R with
  | error c =>
    obtain ⟨rfl, hb⟩ := ht
    go_wp2_with fail
    exact ⟨rfl, rfl, hb⟩
  | ok x =>
    obtain ⟨v, t⟩ := x
    obtain ⟨rfl, hcur, hb⟩ := ht
    have hv : v < 65536 := hlt v t rfl
    have HC := hide_it hcur
    clear hcur hlt hf
    have hw : IntKind.u16.wrap (v : Int) = (v : Int) := by simp [IntKind.wrap, IntKind.bits, IntKind.signed]; omega
    go_wp2_with fail
    go_ret
    exact ⟨rfl, HC.out, hb⟩

set_option maxRecDepth 100000 in
set_option maxHeartbeats 400000 in
theorem takeCW (base g : Nat) (bs : List Nat) (w : World) (hc : Cur w base g bs) (h8 : All8 bs) :
    Calls Try.prog 78 #[.pointer (some ⟨g, 0, none⟩)] w fun e w' => Took (fun f => .int .u16 ((f : Nat) : Int)) base g w (takeFixed 2 bs) e w' := by
  have hf := fixed_any base g 2 bs w hc h8 (by omega)
  obtain ⟨R, hR⟩ : ∃ R, R = takeFixed 2 bs := ⟨_, rfl⟩
  have hlt := fun v t => takeFixed_lt (W := 2) (v := v) (t := t) h8
  rw [← hR] at hf hlt ⊢
  clear hR hc
  go_enter Try.func78, Try.ntmps78
  go_wp2_with (go_at_call 79; refine (widthw _).mono ?_; rintro e w' ⟨rfl, hq⟩; have hq2 := hq.symm; subst hq2; clear hq)
  refine hf.mono ?_
  intro e w1 ht
  cases R with
  | error c =>
    obtain ⟨rfl, hb⟩ := ht
    go_wp2_with fail
    exact ⟨rfl, rfl, hb⟩
  | ok x =>
    obtain ⟨v, t⟩ := x
    obtain ⟨rfl, hcur, hb⟩ := ht
    have hv : v < 65536 := hlt v t rfl
    have HC := hide_it hcur
    clear hcur hlt hf
    have hw : IntKind.u16.wrap (v : Int) = (v : Int) := by simp [IntKind.wrap, IntKind.bits, IntKind.signed]; omega
    go_wp2_with fail
    go_ret
    exact ⟨rfl, HC.out, hb⟩

set_option maxRecDepth 100000 in
set_option maxHeartbeats 400000 in
theorem takeC32 (base g : Nat) (bs : List Nat) (w : World) (hc : Cur w base g bs) (h8 : All8 bs) :
    Calls Try.prog 49 #[.pointer (some ⟨g, 0, none⟩)] w fun e w' => Took (fun f => .int .u32 ((f : Nat) : Int)) base g w (takeFixed 4 bs) e w' := by
  have hf := fixed_any base g 4 bs w hc h8 (by omega)
  obtain ⟨R, hR⟩ : ∃ R, R = takeFixed 4 bs := ⟨_, rfl⟩
  have hlt := fun v t => takeFixed_lt (W := 4) (v := v) (t := t) h8
  rw [← hR] at hf hlt ⊢
  clear hR hc
  go_enter Try.func49, Try.ntmps49
  go_wp2_with (go_at_call 51; refine (width32 _).mono ?_; rintro e w' ⟨rfl, hq⟩; have hq2 := hq.symm; subst hq2; clear hq)
  refine hf.mono ?_
  intro e w1 ht
  cases R with
  | error c =>
    obtain ⟨rfl, hb⟩ := ht
    go_wp2_with fail
    exact ⟨rfl, rfl, hb⟩
  | ok x =>
    obtain ⟨v, t⟩ := x
    obtain ⟨rfl, hcur, hb⟩ := ht
    have hv : v < 4294967296 := hlt v t rfl
    have HC := hide_it hcur
    clear hcur hlt hf
    have hw : IntKind.u32.wrap (v : Int) = (v : Int) := by simp [IntKind.wrap, IntKind.bits, IntKind.signed]; omega
    go_wp2_with fail
    go_ret
    exact ⟨rfl, HC.out, hb⟩

set_option maxRecDepth 100000 in
set_option maxHeartbeats 400000 in
theorem takeC64 (base g : Nat) (bs : List Nat) (w : World) (hc : Cur w base g bs) (h8 : All8 bs) :
    Calls Try.prog 64 #[.pointer (some ⟨g, 0, none⟩)] w fun e w' => Took (fun f => .int .u64 ((f : Nat) : Int)) base g w (takeFixed 8 bs) e w' := by
  have hf := fixed_any base g 8 bs w hc h8 (by omega)
  obtain ⟨R, hR⟩ : ∃ R, R = takeFixed 8 bs := ⟨_, rfl⟩
  have hlt := fun v t => takeFixed_lt (W := 8) (v := v) (t := t) h8
  rw [← hR] at hf hlt ⊢
  clear hR hc
  go_enter Try.func64, Try.ntmps64
  go_wp2_with (go_at_call 53; refine (width64 _).mono ?_; rintro e w' ⟨rfl, hq⟩; have hq2 := hq.symm; subst hq2; clear hq)
  refine hf.mono ?_
  intro e w1 ht
  cases R with
  | error c =>
    obtain ⟨rfl, hb⟩ := ht
    go_wp2_with fail
    exact ⟨rfl, rfl, hb⟩
  | ok x =>
    obtain ⟨v, t⟩ := x
    obtain ⟨rfl, hcur, hb⟩ := ht
    have hv : v < 18446744073709551616 := hlt v t rfl
    have HC := hide_it hcur
    clear hcur hlt hf
    go_wp2_with fail
    go_ret
    exact ⟨rfl, HC.out, hb⟩

end Go.Proofs.Ytfhinodieghklab
