/- An area by its blocks; slices beside it; what a script makes of a new area, and all its bytes. -/
import Derived.Test.YtejaaalgnbnalaaSt8
namespace Go.Proofs.Ytejaaalgnbnalaa
open Go.RowKit

/-- An area in block p, all of whose blocks are in F, and there. -/
structure Fa (w : World) (F : Nat → Prop) (p B : Nat) (bs : List Nat) (k : Nat) : Prop where
  ex : ∃ v, Ar w p 0 v B bs k ∧ ∀ j, Ft p v j → F j
  lt : ∀ j, F j → j < w.heap.size
  le : k ≤ bs.length
/-- The blocks of F and those that were made since. -/
def upto (F : Nat → Prop) (w w' : World) (j : Nat) : Prop := F j ∨ (w.heap.size ≤ j ∧ j < w'.heap.size)
/-- A slice of bytes that lies in no block of F. -/
structure Sl (w : World) (F : Nat → Prop) (r : Value) (zs : List Nat) : Prop where
  own : OwB w 0 r zs
  far : ∀ j, r.ownBlock = some j → ¬ F j

section
variable {w w' : World} {F G : Nat → Prop} {p B : Nat} {bs : List Nat} {k : Nat} {r : Value} {zs : List Nat}
theorem Fa.below (h : Fa w F p B bs k) (hb : Below w.heap.size w w') : Fa w' F p B bs k := by
  obtain ⟨v, h1, h2⟩ := h.ex
  exact ⟨⟨v, h1.below hb, h2⟩, fun j hj => Nat.lt_of_lt_of_le (h.lt j hj) hb.size, h.le⟩
theorem Fa.chg (h : Fa w F p B bs k) (hc : Chg G w w') (hd : ∀ j, F j → ¬ G j) : Fa w' F p B bs k := by
  obtain ⟨v, h1, h2⟩ := h.ex
  exact ⟨⟨v, h1.chg hc (fun j hj => hd j (h2 j hj)), h2⟩, fun j hj => Nat.lt_of_lt_of_le (h.lt j hj) hc.size, h.le⟩
/-- What a call of an area leaves. -/
structure Done (w : World) (F : Nat → Prop) (p B : Nat) (bs : List Nat) (k : Nat) (w' : World) : Prop where
  fa : Fa w' (upto F w w') p B bs k
  chg : Chg F w w'
theorem Fa.moved {v : Value} {B' : Nat} {bs' : List Nat} {k' : Nat} (h : Fa w F p B bs k) (h2 : ∀ j, Ft p v j → F j) (hm : Moved w p 0 v B' bs' k' w') (hk : k' ≤ bs'.length) : Done w F p B' bs' k' w' := by
  obtain ⟨⟨v', h3, h4⟩, hc, _⟩ := hm
  have hc2 : Chg F w w' := hc.mono fun j _ hj => h2 j hj
  refine ⟨⟨⟨v', h3, fun j hj => ?_⟩, fun j hj => ?_, hk⟩, hc2⟩
  · rcases hj with rfl | hj
    · exact .inl (h2 _ (.inl rfl))
    · rcases h4 with h4 | h4
      · exact .inl (h2 j (.inr (h4 ▸ hj)))
      · exact .inr ⟨h4 j hj, (h3.own.inside j hj).2⟩
  · rcases hj with hj | hj
    · exact Nat.lt_of_lt_of_le (h.lt j hj) hc2.size
    · exact hj.2
theorem Fa.append (h : Fa w F p B bs k) (a : Option Addr) (cap : Nat) (zs : List Nat) (hr : RowB w a zs) (h8 : All8 zs) (hnil : a = none → zs.length = 0 ∧ cap = 0) (hl : bs.length + zs.length ≤ 211106232532800) (hB : B + bs.length + zs.length ≤ 9223372036854775807) :
    Calls Try.prog 8 #[.pointer (some ⟨p, 0, none⟩), .slice a zs.length cap] w fun e w' => e = .returned (.int .i64 0) ∧ Done w F p B (bs ++ zs) k w' := by
  obtain ⟨v, h1, h2⟩ := h.ex
  exact (append_any w h1 a cap zs hr h8 hnil hl hB).mono fun e w' q => ⟨q.1, h.moved h2 q.2 (by rw [List.length_append]; have := h.le; omega)⟩
theorem Fa.sync (h : Fa w F p B bs k) : Calls Try.prog 18 #[.pointer (some ⟨p, 0, none⟩)] w fun e w' => e = .returned (.int .i64 0) ∧ Done w F p B bs bs.length w' := by
  obtain ⟨v, h1, h2⟩ := h.ex
  exact (sync_any w h1).mono fun e w' q => ⟨q.1, h.moved h2 q.2 (Nat.le_refl _)⟩
theorem Fa.crash (h : Fa w F p B bs k) (E : Int) (t : Nat) (ht : t < 256) (c : Nat) (hc : c = min E.toNat (bs.length - k)) :
    Calls Try.prog 13 #[.pointer (some ⟨p, 0, none⟩), .int .i64 E, .int .u8 (t : Int)] w fun e w' => e = .returned (.int .i64 0) ∧ Done w F p B (crashB bs k c t) (k + c) w' := by
  obtain ⟨v, h1, h2⟩ := h.ex
  exact (crash_any w h1 h.le E t ht c hc).mono fun e w' q => ⟨q.1, h.moved h2 q.2 (by rw [crashB_len _ _ _ _ (by have := h.le; omega)]; exact Nat.le_refl _)⟩
theorem Fa.read (h : Fa w F p B bs k) (i m : Nat) (him : i + m ≤ bs.length) (E : Int) (hE : E = (B : Int) + (i : Int)) :
    Calls Try.prog 15 #[.pointer (some ⟨p, 0, none⟩), .int .i64 E, .int .i64 (m : Int)] w fun e w' => Tells w ((bs.take (i + m)).drop i) 0 e w' := by
  obtain ⟨v, h1, h2⟩ := h.ex
  exact read_ok w h1 i m him E hE
theorem Fa.bounds (h : Fa w F p B bs k) :
    Calls Try.prog 10 #[.pointer (some ⟨p, 0, none⟩)] w fun e w' => e = .returned (.tuple #[.int .i64 (B : Int), .int .i64 ((B + k : Nat) : Int), .int .i64 ((B + bs.length : Nat) : Int)]) ∧ Below w.heap.size w w' := by
  obtain ⟨v, h1, h2⟩ := h.ex
  exact bounds_any w h1 h.le
theorem Fa.image (h : Fa w F p B bs k) :
    Calls Try.prog 11 #[.pointer (some ⟨p, 0, none⟩)] w fun e w' => Imaged w B (bs.take k) e w' := by
  obtain ⟨v, h1, h2⟩ := h.ex
  exact image_any w h1 h.le
theorem Fa.room (h : Fa w F p B bs k) : bs.length ≤ 211106232532800 ∧ B + bs.length ≤ 9223372036854775807 ∧ All8 bs := by
  obtain ⟨v, h1, h2⟩ := h.ex
  exact ⟨h1.len, h1.room, h1.all⟩
theorem Sl.below (h : Sl w F r zs) (hb : Below w.heap.size w w') : Sl w' F r zs := ⟨h.own.below hb, h.far⟩
theorem Sl.chg (h : Sl w F r zs) (hc : Chg F w w') : Sl w' (upto F w w') r zs :=
  ⟨h.own.keep fun j hj => hc.block j (h.own.inside j hj).2 (h.far j hj), fun j hj h4 => by
    rcases h4 with h4 | h4
    · exact h.far j hj h4
    · have := (h.own.inside j hj).2; omega⟩
/-- A slice that is new. -/
theorem Sl.new (h : OwB w' w.heap.size r zs) (hF : ∀ j, F j → j < w.heap.size) : Sl w' F r zs := ⟨h.mono (Nat.zero_le _), fun j hj h4 => by have := hF j h4; have := (h.inside j hj).1; omega⟩
theorem Sl.row (h : Sl w F r zs) : ∃ a cap, r = .slice a zs.length cap ∧ RowB w a zs ∧ zs.length ≤ cap ∧ (a = none → zs.length = 0 ∧ cap = 0) := by
  obtain ⟨a, cap, h1, h2, h3, _, h4⟩ := h.own.row
  exact ⟨a, cap, h1, h2, h3, h4⟩
/-- Two sets of blocks that don't meet, one of which grew. -/
theorem upto_far (hd : ∀ j, F j → ¬ G j) (hG : ∀ j, G j → j < w.heap.size) : ∀ j, upto F w w' j → ¬ G j := fun j hj h4 => by
  rcases hj with hj | hj
  · exact hd j hj h4
  · have := hG j h4; omega
end

/-- What 'whole' answers. -/
structure Whole (w : World) (B : Nat) (bs : List Nat) (e : Ending) (w' : World) : Prop where
  ex : ∃ r, e = .returned (.tuple #[r, .int .i64 (B : Int), .bool true]) ∧ OwB w' w.heap.size r bs
  bel : Below w.heap.size w w'

set_option maxRecDepth 100000 in
set_option maxHeartbeats 800000 in
theorem whole_any {w : World} {F : Nat → Prop} {p B : Nat} {bs : List Nat} {k : Nat} (h : Fa w F p B bs k) :
    Calls Try.prog 9 #[.pointer (some ⟨p, 0, none⟩)] w fun e w' => Whole w B bs e w' := by
  have hbo := h.bounds
  obtain ⟨_, hro, _⟩ := h.room
  have hrd := fun w1 hb => (h.below (w' := w1) hb).read 0 bs.length (by omega) (B : Int) (by simp)
  have htk : (bs.take (0 + bs.length)).drop 0 = bs := by simp
  rw [htk] at hrd
  have hw : IntKind.i64.wrap (((B + bs.length : Nat) : Int) - (B : Int)) = (bs.length : Int) := by rw [IntKind.wrap_i64]; omega
  obtain ⟨E, hE⟩ : ∃ E : Int, E = ((B + bs.length : Nat) : Int) := ⟨_, rfl⟩
  rw [← hE] at hw hbo
  clear hE hro h htk
  go_enter Try.func9, Try.ntmps9
  go_wp2_with fail
  refine hbo.mono ?_
  rintro e w1 ⟨rfl, hb1⟩
  have hrd1 := hrd w1 hb1
  clear hbo hrd
  go_wp2_with fail
  refine hrd1.mono ?_
  rintro e w2 ⟨⟨r, rfl, hr⟩, hb2⟩
  obtain ⟨a1, c1, rfl, _⟩ := hr.row
  have hout : Whole w B bs (.returned (.tuple #[.slice a1 bs.length c1, .int .i64 (B : Int), .bool true])) w2 := ⟨⟨_, rfl, hr.mono hb1.size⟩, hb1.trans (hb2.mono hb1.size)⟩
  clear hrd1 hr
  go_wp2_with fail
  refine bodyPost_ret (v := .tuple #[.slice a1 bs.length c1, .int .i64 (B : Int), .bool true]) (by simp [results, Try.results9, go_sem]) rfl ?_
  exact hout

/-- What 'played' answers: the program's area behind a script, in new memory. -/
structure Played (w : World) (x : As) (e : Ending) (w' : World) : Prop where
  ex : ∃ p, e = .returned (.pointer (some ⟨p, 0, none⟩)) ∧ Fa w' (fun j => w.heap.size ≤ j ∧ j < w'.heap.size) p x.B x.bs x.k
  bel : Below w.heap.size w w'

set_option maxRecDepth 100000 in
set_option maxHeartbeats 1600000 in
theorem played_any (a : Option Addr) (n c : Nat) (A : Nat → Stp) (w : World) (hs : CameStp w a n A) (hT : tot A n ≤ 1073741824) :
    Calls Try.prog 6 #[.slice a n c] w fun e w' => Played w (runA A n) e w' := by
  have hn := hs.size
  replace hT := hide_it hT
  go_enter Try.func6, Try.ntmps6
  go_wp2_with fail
  refine (new_any w).mono ?_
  rintro e w2 ⟨rfl, hq⟩
  have h2 := One.new w w (Below.refl _ _)
  have hs2 : w2.heap.size = w.heap.size + 1 := by rw [hq]; simp
  rw [← show w2 = w.alloc objA from hq] at h2
  clear hq
  obtain ⟨W3, hW3⟩ : ∃ W3, W3 = w2.alloc (objP w.heap.size) := ⟨_, rfl⟩
  rw [← hW3] at h2
  replace h2 := hide_it h2
  go_wp2_with fail
  rw [← show W3 = _ from hW3]
  clear hW3 hs2
  obtain ⟨pp, hp1⟩ : ∃ p, p = w.heap.size + 1 := ⟨_, rfl⟩
  rw [← hp1] at h2
  rw [← hp1]
  clear hp1
  go_loopw [4] (fun i wr => ∃ m : Nat, m ≤ n ∧ i = .int .i64 (m : Int) ∧ Hid (One w pp (runA A m) wr)) (fun i _ => n - (intOf i).toNat)
  case atStart => exact ⟨0, by omega, rfl, h2⟩
  case round =>
    obtain ⟨m, hm, rfl, h5⟩ := hrel
    clear h2
    obtain ⟨p, hp, hna⟩ := h5.out.there
    by_cases hlt : m < n
    · have hmi : (m : Int) < (n : Int) := by omega
      obtain ⟨bk, o, rfl, hbb, d1, d2, d3, d4⟩ := hs.row.here hlt
      have hok := hs.each m hlt
      have hI := runA_inv A m
      have hTm : tot A m + (1 + (A m).d.p.length) ≤ 1073741824 := Nat.le_trans (tot_mono A (show m + 1 ≤ n from hlt)) hT.out
      have hbw := h5.out.bel
      have c1 := (hbw.cell (p := ⟨bk, o + m * 4, none⟩) hbb).trans d1
      have c2 := (hbw.cell (p := ⟨bk, o + m * 4 + 1, none⟩) hbb).trans d2
      have c3 := (hbw.cell (p := ⟨bk, o + m * 4 + 2, none⟩) hbb).trans d3
      have c4 := (hbw.cell (p := ⟨bk, o + m * 4 + 3, none⟩) hbb).trans d4
      have hst := h5.out.step (A m) hok hI hTm
      clear hs hna d1 d2 d3 d4
      go_wp2_with fail
      refine hst.mono ?_
      rintro e w5 ⟨rfl, h6⟩
      replace h6 := hide_it h6
      clear hst c1 c2 c3 c4 hp h5
      go_wp2_with fail
      go_roundw
      case rel => exact ⟨m + 1, by omega, by go_num, h6⟩
      case measure => simp [intOf]; omega
    · have hmn : m = n := by omega
      subst hmn
      have hI := runA_inv A m
      obtain ⟨⟨v, hA, hv⟩, hlo, hbe⟩ := hna
      have hout : Played w (runA A m) (.returned (.pointer (some ⟨p, 0, none⟩))) wr := ⟨⟨p, rfl, ⟨v, hA, fun j hj => ⟨by
        rcases hj with rfl | hj
        · exact hlo
        · exact hv j hj, hA.inside j hj⟩⟩, fun j hj => hj.2, hI.le⟩, hbe⟩
      clear hs hA hv h5
      go_wp2_with fail
      go_ret
      exact hout

end Go.Proofs.Ytejaaalgnbnalaa
