/- slices.Sorted(slices.Values(list)): a list of the call's own that holds the numbers in order. -/
import Derived.Test.YtpjegmmichjlbaaLay
import Derived.Test.YtpjegmmichjlbaaCollect
import Derived.Sort.OwnSortedInts
namespace Go.Proofs.Ytpjegmmichjlbaa
set_option linter.unusedVariables false
set_option linter.unusedSimpArgs false
open Go Go.RowKit Go.Shelf Go.Proofs Go.Sort
def srt (zs : List Int) : List Int := zs.mergeSort fun x y => decide (x ≤ y)
theorem sort89 (blk off cap : Nat) (zs : List Int) (w : World) (hH : Holds (Value.int .i64) w blk off zs.toArray) (hblk : blk < w.heap.size) (hsz : zs.length < 4611686018427387904) :
    Calls Try.prog 89 #[.slice (some ⟨blk, off, none⟩) zs.length cap] w fun e w' =>
      e = .returned (.tuple #[]) ∧ ∃ n os, w' = grow (putRow (Value.int .i64) (Sort.ahead w n) blk off (zs.mergeSort fun x y => decide (x ≤ y)).toArray) os :=
  AnyM.slices_Sort_int layS blk off cap zs w hH hblk hsz
theorem srt_len (zs : List Int) : (srt zs).length = zs.length := List.length_mergeSort zs
set_option maxRecDepth 100000 in
set_option maxHeartbeats 1000000 in
theorem sorted83 (b : Nat) (zs : List Int) (a : Option Addr) (cap : Nat) (h0 : 1 ≤ zs.length) (hl : zs.length ≤ 1048576) (w : World) (hbw : b < w.heap.size) (hB : w.cell? ⟨b, 0, none⟩ = some (.slice a zs.length cap)) (hs : SlI w a zs) :
    Calls Try.prog 83 #[.func (.func 90) #[] #[.pointer (some ⟨b, 0, none⟩)]] w fun e w' => ∃ v, e = .returned v ∧ w'.ownsRow w.heap.size 2 1 v (srt zs).length (icells (srt zs)) ∧ Below w.heap.size w w' := by
  have H := hidd (collect88 b zs a cap hl w hbw hB hs)
  clear hB hs
  go_enter Try.func83, Try.ntmps83
  go_wp2_with fail
  refine H.out.mono ?_
  rintro e w1 ⟨v, rfl, hrow, hb⟩
  rcases hrow.2 with ⟨rfl, hz⟩ | ⟨gb, cap, cur, rfl, hbase, hgb, r1, r2, r3, r4⟩
  · omega
  · have hH : Holds (Value.int .i64) w1 gb 0 zs.toArray := holds_of_blockI hgb (by simpa [icells] using r4)
    have hgl : gb < w1.heap.size := (Array.getElem?_eq_some_iff.1 hgb).1
    have cS := sort89 gb 0 cap zs w1 hH hgl (by omega)
    go_wp2_with (go_at_call 89; refine cS.mono ?_; rintro e w' ⟨rfl, nn, os, rfl⟩)
    go_ret
    have hr := ownsRow_sortedI (n := nn) (os := os) (ss := zs) (ts := srt zs) (srt_len zs) hbase hgb r1 r2 r3
    exact ⟨_, rfl, by rw [srt_len]; exact hr, hb.grown (grownBy_sortedI _) hb.size (fun j hj => by cases hj; exact hbase)⟩
end Go.Proofs.Ytpjegmmichjlbaa
