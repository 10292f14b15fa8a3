/- Marks held, of a list of the call's own. -/
import Derived.Test.YtidengcihakijaaOwY
namespace Go.Proofs.Ytidengcihakijaa
open Go Go.RowKit
theorem held30 (n : Nat) (a : Option Addr) (cap : Nat) (B : Nat) (k : Int) (w : World) (h : OwnL w B a (marks k n)) (hn : n ≤ 1048576) (hk0 : 0 ≤ k) (hk1 : k ≤ 1048576) :
    Calls Try.prog 10 #[.slice a n cap, .int .i64 k] w fun e w' => e = .returned (.int .i64 (k + n)) ∧ w = w' := held30y n a cap B k w h.y hn hk0 hk1
end Go.Proofs.Ytidengcihakijaa
