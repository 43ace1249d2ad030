/- The library's sort at labels, as the closing texts ask for it. -/
import Derived.Test.YthclmkmajlinhabPdq12
import Derived.Test.YthclmkmajlinhabClose
namespace Go.Proofs.Ythclmkmajlinhab
open Go.RowKit

theorem sortsL : SortsL 2305843009213693952 := fun g n cap zs rest w hB hn hl => sort_lab g n cap zs rest w hB hn hl

end Go.Proofs.Ythclmkmajlinhab
