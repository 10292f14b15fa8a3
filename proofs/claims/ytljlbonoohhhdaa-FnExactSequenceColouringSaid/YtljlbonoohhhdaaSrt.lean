/- slices.Sort, slices.Sorted and the program's test of an order. -/
import Derived.Test.YtljlbonoohhhdaaGd
import Derived.Shelf.SortM.Plain
namespace Go.Proofs.Ytljlbonoohhhdaa
set_option linter.unusedVariables false
set_option linter.unusedSimpArgs false
open Go Go.RowKit Go.Shelf Go.Proofs Go.Sort
def rhoS : Ren := ⟨fun x => match x with | 5 => 55 | 7 => 62 | 8 => 63 | 10 => 64 | 11 => 65 | 12 => 66 | 13 => 67 | 14 => 68 | 15 => 69 | 16 => 70 | 17 => 71 | 18 => 72 | 19 => 73 | 20 => 74 | 30 => 75 | 31 => 76 | 32 => 77 | 33 => 78 | 34 => 79 | 35 => 80 | 40 => 81 | _ => x, fun x => match x with | 0 => 0 | 3 => 3 | 4 => 4 | 5 => 5 | 9 => 9 | 22 => 22 | 23 => 22 | 25 => 2 | 32 => 87 | 35 => 89 | 36 => 90 | 41 => 94 | 44 => 97 | 46 => 99 | 53 => 100 | 57 => 104 | 63 => 106 | 64 => 107 | _ => x, fun x => x⟩
set_option maxRecDepth 100000 in
theorem layS : SlLaysM.n5 Try.prog rhoS where
  mixed := rfl
  f5 := ⟨Try.f55.name, by kernel_rfl, Try.func55.trans (by kernel_rfl)⟩
  f7 := ⟨Try.f62.name, by kernel_rfl, Try.func62.trans (by kernel_rfl)⟩
  f8 := Try.func63.trans (by kernel_rfl)
  f10 := ⟨Try.f64.name, by kernel_rfl, Try.func64.trans (by kernel_rfl)⟩
  f11 := ⟨Try.f65.name, by kernel_rfl, Try.func65.trans (by kernel_rfl)⟩
  f12 := ⟨Try.f66.name, by kernel_rfl, Try.func66.trans (by kernel_rfl)⟩
  f13 := ⟨Try.f67.name, by kernel_rfl, Try.func67.trans (by kernel_rfl)⟩
  f14 := ⟨Try.f68.name, by kernel_rfl, Try.func68.trans (by kernel_rfl)⟩
  f15 := ⟨Try.f69.name, by kernel_rfl, Try.func69.trans (by kernel_rfl)⟩
  f16 := ⟨Try.f70.name, by kernel_rfl, Try.func70.trans (by kernel_rfl)⟩
  f17 := ⟨Try.f71.name, by kernel_rfl, Try.func71.trans (by kernel_rfl)⟩
  f18 := ⟨Try.f72.name, by kernel_rfl, Try.func72.trans (by kernel_rfl)⟩
  f19 := Try.func73.trans (by kernel_rfl)
  f20 := Try.func74.trans (by kernel_rfl)
  f30 := ⟨Try.f75.name, by kernel_rfl, Try.func75.trans (by kernel_rfl)⟩
  f31 := Try.func76.trans (by kernel_rfl)
  f32 := Try.func77.trans (by kernel_rfl)
  f33 := ⟨Try.f78.name, by kernel_rfl, Try.func78.trans (by kernel_rfl)⟩
  f34 := ⟨Try.f79.name, by kernel_rfl, Try.func79.trans (by kernel_rfl)⟩
  f35 := ⟨Try.f80.name, by kernel_rfl, Try.func80.trans (by kernel_rfl)⟩
  f40 := ⟨Try.f81.name, by kernel_rfl, Try.func81.trans (by kernel_rfl)⟩
  t0 := by kernel_rfl
  a0 := fun w => by kernel_rfl
  z0 := fun w => by kernel_rfl
  v0 := fun w => by kernel_rfl
  t3 := by kernel_rfl
  a3 := fun w => by kernel_rfl
  z3 := fun w => by kernel_rfl
  v3 := fun w => by kernel_rfl
  t4 := by kernel_rfl
  a4 := fun w => by kernel_rfl
  z4 := fun w => by kernel_rfl
  v4 := fun w => by kernel_rfl
  t5 := by kernel_rfl
  a5 := fun w => by kernel_rfl
  z5 := fun w => by kernel_rfl
  v5 := fun w => by kernel_rfl
  t9 := by kernel_rfl
  a9 := fun w => by kernel_rfl
  z9 := fun w => by kernel_rfl
  v9 := fun w => by kernel_rfl
  t22 := by kernel_rfl
  a22 := fun w => by kernel_rfl
  z22 := fun w => by kernel_rfl
  v22 := fun w => by kernel_rfl
  t23 := by kernel_rfl
  a23 := fun w => by kernel_rfl
  z23 := fun w => by kernel_rfl
  v23 := fun w => by kernel_rfl
  t25 := by kernel_rfl
  a25 := fun w => by kernel_rfl
  z25 := fun w => by kernel_rfl
  v25 := fun w => by kernel_rfl
  t32 := by kernel_rfl
  a32 := fun w => by kernel_rfl
  z32 := fun w => by kernel_rfl
  v32 := fun w => by kernel_rfl
  t35 := by kernel_rfl
  a35 := fun w => by kernel_rfl
  z35 := fun w => by kernel_rfl
  v35 := fun w => by kernel_rfl
  t36 := by kernel_rfl
  a36 := fun w => by kernel_rfl
  z36 := fun w => by kernel_rfl
  v36 := fun w => by kernel_rfl
  t41 := by kernel_rfl
  a41 := fun w => by kernel_rfl
  z41 := fun w => by kernel_rfl
  v41 := fun w => by kernel_rfl
  t44 := by kernel_rfl
  a44 := fun w => by kernel_rfl
  z44 := fun w => by kernel_rfl
  v44 := fun w => by kernel_rfl
  t46 := by kernel_rfl
  a46 := fun w => by kernel_rfl
  z46 := fun w => by kernel_rfl
  v46 := fun w => by kernel_rfl
  t53 := by kernel_rfl
  a53 := fun w => by kernel_rfl
  z53 := fun w => by kernel_rfl
  v53 := fun w => by kernel_rfl
  t57 := by kernel_rfl
  a57 := fun w => by kernel_rfl
  z57 := fun w => by kernel_rfl
  v57 := fun w => by kernel_rfl
  t63 := by kernel_rfl
  a63 := fun w => by kernel_rfl
  z63 := fun w => by kernel_rfl
  v63 := fun w => by kernel_rfl
  t64 := by kernel_rfl
  a64 := fun w => by kernel_rfl
  z64 := fun w => by kernel_rfl
  v64 := fun w => by kernel_rfl
theorem sort89 (blk off cap : Nat) (zs : List Int) (w : World) (hH : Holds (Value.int .i64) w blk off zs.toArray) (hblk : blk < w.heap.size) (hsz : zs.length < 4611686018427387904) :
    Calls Try.prog 55 #[.slice (some ⟨blk, off, none⟩) zs.length cap] w fun e w' =>
      e = .returned (.tuple #[]) ∧ ∃ n os, w' = grow (putRow (Value.int .i64) (Sort.ahead w n) blk off (zs.mergeSort fun x y => decide (x ≤ y)).toArray) os :=
  AnyM.slices_Sort_int layS blk off cap zs w hH hblk hsz
set_option maxRecDepth 100000 in
set_option maxHeartbeats 1000000 in
theorem sorted83 (b : Nat) (zs : List Int) (a : Option Addr) (cap : Nat) (h0 : 1 ≤ zs.length) (hl : zs.length ≤ 1048576) (w : World) (hbw : b < w.heap.size) (hB : w.cell? ⟨b, 0, none⟩ = some (.slice a zs.length cap)) (hs : SlI w a zs) :
    Calls Try.prog 41 #[.func (.func 56) #[] #[.pointer (some ⟨b, 0, none⟩)]] w fun e w' => ∃ v, e = .returned v ∧ w'.ownsRow w.heap.size 2 1 v (srt zs).length (icells (srt zs)) ∧ Below w.heap.size w w' := by
  have H := hidd (collect88 b zs a cap hl w hbw hB hs)
  clear hB hs
  go_enter Try.func41, Try.ntmps41
  go_wp2_with fail
  refine H.out.mono ?_
  rintro e w1 ⟨v, rfl, hrow, hb⟩
  rcases hrow.2 with ⟨rfl, hz⟩ | ⟨gb, cap, cur, rfl, hbase, hgb, r1, r2, r3, r4⟩
  · omega
  · have hH : Holds (Value.int .i64) w1 gb 0 zs.toArray := holds_of_blockI hgb (by simpa [icells] using r4)
    have hgl : gb < w1.heap.size := (Array.getElem?_eq_some_iff.1 hgb).1
    have cS := sort89 gb 0 cap zs w1 hH hgl (by omega)
    go_wp2_with (go_at_call 55; refine cS.mono ?_; rintro e w' ⟨rfl, nn, os, rfl⟩)
    go_ret
    have hr := ownsRow_sortedI (n := nn) (os := os) (ss := zs) (ts := srt zs) (srt_len zs) hbase hgb r1 r2 r3
    exact ⟨_, rfl, by rw [srt_len]; exact hr, hb.grown (grownBy_sortedI _) hb.size (fun j hj => by cases hj; exact hbase)⟩
end Go.Proofs.Ytljlbonoohhhdaa
