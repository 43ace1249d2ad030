/- The library's sort at labels, at every length. -/
import Derived.Test.YthclmkmajlinhabPdq11
namespace Go.Proofs.Ythclmkmajlinhab
open Go.RowKit

theorem sort_lab (g n cap : Nat) (zs : List Nat) (rest : List Value) (w : World) (hB : Blk .u64 36 w g zs rest) (hn : zs.length = n) (hl : n ≤ 2305843009213693952) :
    Calls Try.prog 34 #[.slice (some ⟨g, 0, none⟩) n cap] w fun e w' => e = .returned (.tuple #[]) ∧
      ∃ zs', zs'.Perm zs ∧ sortedR zs' 0 n ∧ Blk .u64 36 w' g zs' rest ∧ w.grownBy w' (some g) := by
  have e0 : (Value.int .i64 0) = .int .i64 ((0 : Nat) : Int) := rfl
  have h62 : Lib.bitLen n ≤ 62 := Lib.bitLen_le n 62 (by omega) (by omega)
  go_enter Try.func34, Try.ntmps34
  go_wp2_with fail
  refine (len_int n _ (by omega)).mono ?_
  rintro e w1 ⟨rfl, rfl⟩
  go_wp2_with fail
  refine (pdq_lab g n cap rest hl n 0 n (Lib.bitLen n) zs _ hB hn (by omega) (by omega) rfl (by omega) (fun p q h1 _ _ => absurd h1 (Nat.not_lt_zero p))).mono ?_
  rintro e w2 ⟨rfl, zs', hs, _, hw, hb, hg⟩
  go_wp2
  go_end0
  exact ⟨rfl, zs', hw.1, hs, hb, hg⟩

end Go.Proofs.Ythclmkmajlinhab
