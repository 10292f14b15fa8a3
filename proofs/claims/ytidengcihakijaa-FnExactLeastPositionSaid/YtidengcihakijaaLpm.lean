/- LeastPosition: the program and its model, at every argument. -/
import Derived.Test.YtidengcihakijaaLpl
namespace Go.Proofs.Ytidengcihakijaa
set_option linter.unusedVariables false
set_option linter.unusedSimpArgs false
open Go Go.RowKit Go.Shelf
theorem spec5v (n : Int) (zs : List Int) (b cap : Nat) (w : World) (hs : SlI w (some ⟨b, 0, none⟩) zs) (hl : zs.length ≤ 1048576) :
    Calls Try.prog 5 #[.int .i64 n, .slice (some ⟨b, 0, none⟩) zs.length cap] w (LOut w (lpLs n zs) (gmCode n zs)) := spec5 n zs b 0 cap w hs hl
theorem impl7v (n : Int) (zs : List Int) (b cap : Nat) (w : World) (hbw : b < w.heap.size) (hs : SlI w (some ⟨b, 0, none⟩) zs) (hl : zs.length ≤ 1048576) :
    Calls Try.prog 7 #[.int .i64 n, .slice (some ⟨b, 0, none⟩) zs.length cap] w (LOut w (lpLs n zs) (gmCode n zs)) := by
  by_cases h0 : gmCode n zs = 0
  · obtain ⟨N, rfl, n1, n5, hlen, h10⟩ := lst_len (gm_lst h0)
    have hv : lpLs (N : Int) zs = minL (rnZ N zs) zs (ordM N N []) := if_pos h0
    rw [hv, h0]
    exact impl7_good N zs b cap w hbw hs hl h0 n1 n5 hlen
  · exact impl7_bad n zs b cap w hs hl h0
end Go.Proofs.Ytidengcihakijaa
