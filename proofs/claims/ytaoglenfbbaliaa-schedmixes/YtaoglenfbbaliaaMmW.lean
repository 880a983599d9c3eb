import Derived.Test.YtaoglenfbbaliaaMnW
import Derived.Test.YtaoglenfbbaliaaMzW
namespace Go.Proofs.Ytaoglenfbbaliaa
open Go.RowKit
namespace X
open C F A
theorem mixes_both (a : Option Addr) (c : Nat) (zs : List Int) (left : Int) (w : World) (hI : Ints w a zs) (hn : a = none → c = 0) (hl : zs.length ≤ 17592186043904) : Calls Try.prog 8 #[.slice a zs.length c, .int .i64 left] w fun e w' => e = .returned (.bool true) ∧ Below w.heap.size w w' := by
  cases hm : mxb zs with
  | true => exact mixes_walk a c zs left w hI hn hl hm
  | false => exact mixes_walk0 a c zs left w hI hn hl hm
end X
end Go.Proofs.Ytaoglenfbbaliaa
