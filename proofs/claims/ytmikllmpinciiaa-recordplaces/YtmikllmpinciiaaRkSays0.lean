/- What is asked of the program's own package record, where a program has no more of it than Encode. -/
import Derived.Test.YtmikllmpinciiaaRkEnc
namespace Go.Proofs.Ytmikllmpinciiaa
open Go.RowKit
theorem rec_says : RecSays :=
  ⟨fun seq row a n cap f w _ hin _ hp => May12_any (seq : Int) row a n cap f w hin hp,
   fun seq row a n cap f w h0 hin _ hp => Encode12_any seq row a n cap f w h0 hin hp⟩
end Go.Proofs.Ytmikllmpinciiaa
