/- slices.Sort, slices.Sorted and the program's test of an order. -/
import Derived.Test.YteclbaalejondaaGd
import Derived.Shelf.SortM.Plain
namespace Go.Proofs.Yteclbaalejondaa
set_option linter.unusedVariables false
set_option linter.unusedSimpArgs false
open Go Go.RowKit Go.Shelf Go.Proofs Go.Sort
def rhoS : Ren := ⟨fun x => match x with | 5 => 71 | 7 => 76 | 8 => 77 | 10 => 78 | 11 => 79 | 12 => 80 | 13 => 81 | 14 => 82 | 15 => 83 | 16 => 84 | 17 => 85 | 18 => 86 | 19 => 87 | 20 => 88 | 30 => 89 | 31 => 90 | 32 => 91 | 33 => 92 | 34 => 93 | 35 => 94 | 40 => 95 | _ => x, fun x => match x with | 0 => 0 | 3 => 3 | 4 => 4 | 5 => 5 | 9 => 9 | 22 => 22 | 23 => 22 | 25 => 2 | 32 => 82 | 35 => 87 | 36 => 88 | 41 => 92 | 44 => 95 | 46 => 63 | 53 => 97 | 57 => 101 | 63 => 103 | 64 => 104 | _ => x, fun x => x⟩
set_option maxRecDepth 100000 in
theorem layS : SlLaysM.n5 Try.prog rhoS where
  mixed := rfl
  f5 := ⟨Try.f71.name, by kernel_rfl, Try.func71.trans (by kernel_rfl)⟩
  f7 := ⟨Try.f76.name, by kernel_rfl, Try.func76.trans (by kernel_rfl)⟩
  f8 := Try.func77.trans (by kernel_rfl)
  f10 := ⟨Try.f78.name, by kernel_rfl, Try.func78.trans (by kernel_rfl)⟩
  f11 := ⟨Try.f79.name, by kernel_rfl, Try.func79.trans (by kernel_rfl)⟩
  f12 := ⟨Try.f80.name, by kernel_rfl, Try.func80.trans (by kernel_rfl)⟩
  f13 := ⟨Try.f81.name, by kernel_rfl, Try.func81.trans (by kernel_rfl)⟩
  f14 := ⟨Try.f82.name, by kernel_rfl, Try.func82.trans (by kernel_rfl)⟩
  f15 := ⟨Try.f83.name, by kernel_rfl, Try.func83.trans (by kernel_rfl)⟩
  f16 := ⟨Try.f84.name, by kernel_rfl, Try.func84.trans (by kernel_rfl)⟩
  f17 := ⟨Try.f85.name, by kernel_rfl, Try.func85.trans (by kernel_rfl)⟩
  f18 := ⟨Try.f86.name, by kernel_rfl, Try.func86.trans (by kernel_rfl)⟩
  f19 := Try.func87.trans (by kernel_rfl)
  f20 := Try.func88.trans (by kernel_rfl)
  f30 := ⟨Try.f89.name, by kernel_rfl, Try.func89.trans (by kernel_rfl)⟩
  f31 := Try.func90.trans (by kernel_rfl)
  f32 := Try.func91.trans (by kernel_rfl)
  f33 := ⟨Try.f92.name, by kernel_rfl, Try.func92.trans (by kernel_rfl)⟩
  f34 := ⟨Try.f93.name, by kernel_rfl, Try.func93.trans (by kernel_rfl)⟩
  f35 := ⟨Try.f94.name, by kernel_rfl, Try.func94.trans (by kernel_rfl)⟩
  f40 := ⟨Try.f95.name, by kernel_rfl, Try.func95.trans (by kernel_rfl)⟩
  t0 := by kernel_rfl
  a0 := fun w => by kernel_rfl
  z0 := fun w => by kernel_rfl
  v0 := fun w => by kernel_rfl
  t3 := by kernel_rfl
  a3 := fun w => by kernel_rfl
  z3 := fun w => by kernel_rfl
  v3 := fun w => by kernel_rfl
  t4 := by kernel_rfl
  a4 := fun w => by kernel_rfl
  z4 := fun w => by kernel_rfl
  v4 := fun w => by kernel_rfl
  t5 := by kernel_rfl
  a5 := fun w => by kernel_rfl
  z5 := fun w => by kernel_rfl
  v5 := fun w => by kernel_rfl
  t9 := by kernel_rfl
  a9 := fun w => by kernel_rfl
  z9 := fun w => by kernel_rfl
  v9 := fun w => by kernel_rfl
  t22 := by kernel_rfl
  a22 := fun w => by kernel_rfl
  z22 := fun w => by kernel_rfl
  v22 := fun w => by kernel_rfl
  t23 := by kernel_rfl
  a23 := fun w => by kernel_rfl
  z23 := fun w => by kernel_rfl
  v23 := fun w => by kernel_rfl
  t25 := by kernel_rfl
  a25 := fun w => by kernel_rfl
  z25 := fun w => by kernel_rfl
  v25 := fun w => by kernel_rfl
  t32 := by kernel_rfl
  a32 := fun w => by kernel_rfl
  z32 := fun w => by kernel_rfl
  v32 := fun w => by kernel_rfl
  t35 := by kernel_rfl
  a35 := fun w => by kernel_rfl
  z35 := fun w => by kernel_rfl
  v35 := fun w => by kernel_rfl
  t36 := by kernel_rfl
  a36 := fun w => by kernel_rfl
  z36 := fun w => by kernel_rfl
  v36 := fun w => by kernel_rfl
  t41 := by kernel_rfl
  a41 := fun w => by kernel_rfl
  z41 := fun w => by kernel_rfl
  v41 := fun w => by kernel_rfl
  t44 := by kernel_rfl
  a44 := fun w => by kernel_rfl
  z44 := fun w => by kernel_rfl
  v44 := fun w => by kernel_rfl
  t46 := by kernel_rfl
  a46 := fun w => by kernel_rfl
  z46 := fun w => by kernel_rfl
  v46 := fun w => by kernel_rfl
  t53 := by kernel_rfl
  a53 := fun w => by kernel_rfl
  z53 := fun w => by kernel_rfl
  v53 := fun w => by kernel_rfl
  t57 := by kernel_rfl
  a57 := fun w => by kernel_rfl
  z57 := fun w => by kernel_rfl
  v57 := fun w => by kernel_rfl
  t63 := by kernel_rfl
  a63 := fun w => by kernel_rfl
  z63 := fun w => by kernel_rfl
  v63 := fun w => by kernel_rfl
  t64 := by kernel_rfl
  a64 := fun w => by kernel_rfl
  z64 := fun w => by kernel_rfl
  v64 := fun w => by kernel_rfl
theorem sort89 (blk off cap : Nat) (zs : List Int) (w : World) (hH : Holds (Value.int .i64) w blk off zs.toArray) (hblk : blk < w.heap.size) (hsz : zs.length < 4611686018427387904) :
    Calls Try.prog 71 #[.slice (some ⟨blk, off, none⟩) zs.length cap] w fun e w' =>
      e = .returned (.tuple #[]) ∧ ∃ n os, w' = grow (putRow (Value.int .i64) (Sort.ahead w n) blk off (zs.mergeSort fun x y => decide (x ≤ y)).toArray) os :=
  AnyM.slices_Sort_int layS blk off cap zs w hH hblk hsz
set_option maxRecDepth 100000 in
set_option maxHeartbeats 1000000 in
theorem sorted83 (b : Nat) (zs : List Int) (a : Option Addr) (cap : Nat) (h0 : 1 ≤ zs.length) (hl : zs.length ≤ 1048576) (w : World) (hbw : b < w.heap.size) (hB : w.cell? ⟨b, 0, none⟩ = some (.slice a zs.length cap)) (hs : SlI w a zs) :
    Calls Try.prog 62 #[.func (.func 72) #[] #[.pointer (some ⟨b, 0, none⟩)]] w fun e w' => ∃ v, e = .returned v ∧ w'.ownsRow w.heap.size 2 1 v (srt zs).length (icells (srt zs)) ∧ Below w.heap.size w w' := by
  have H := hidd (collect88 b zs a cap hl w hbw hB hs)
  clear hB hs
  go_enter Try.func62, Try.ntmps62
  go_wp2_with fail
  refine H.out.mono ?_
  rintro e w1 ⟨v, rfl, hrow, hb⟩
  rcases hrow.2 with ⟨rfl, hz⟩ | ⟨gb, cap, cur, rfl, hbase, hgb, r1, r2, r3, r4⟩
  · omega
  · have hH : Holds (Value.int .i64) w1 gb 0 zs.toArray := holds_of_blockI hgb (by simpa [icells] using r4)
    have hgl : gb < w1.heap.size := (Array.getElem?_eq_some_iff.1 hgb).1
    have cS := sort89 gb 0 cap zs w1 hH hgl (by omega)
    go_wp2_with (go_at_call 71; refine cS.mono ?_; rintro e w' ⟨rfl, nn, os, rfl⟩)
    go_ret
    have hr := ownsRow_sortedI (n := nn) (os := os) (ss := zs) (ts := srt zs) (srt_len zs) hbase hgb r1 r2 r3
    exact ⟨_, rfl, by rw [srt_len]; exact hr, hb.grown (grownBy_sortedI _) hb.size (fun j hj => by cases hj; exact hbase)⟩
set_option maxRecDepth 100000 in
set_option maxHeartbeats 1000000 in
theorem order65 (zs : List Int) (a : Option Addr) (cap : Nat) (n : Int) (w : World) (hs : SlI w a zs) (hl : zs.length ≤ 9223372036854775807) (n1 : 1 ≤ n) (n2 : n ≤ 17) :
    Calls Try.prog 50 #[.slice a zs.length cap, .int .i64 n] w fun e w' => e = .returned (.bool (ordB zs n)) ∧ Below w.heap.size w w' := by
  by_cases hn : (zs.length : Int) = n
  · have HO := hidd (show ordB zs n = setB (srt zs) n by unfold ordB; rw [decide_eq_true hn, Bool.true_and, srt_set])
    have hq : ((zs.length : Int) == n) = true := by simpa using hn
    have HSL := hidd (hs.below ((Below.refl w.heap.size w).alloc (Nat.le_refl _) (.cells #[.slice a zs.length cap] 22)) (Nat.le_refl _))
    have hz1 : 1 ≤ zs.length := by omega
    have hz2 : zs.length ≤ 17 := by omega
    clear hs hn
    go_enter Try.func50, Try.ntmps50
    go_wp2_with (go_at_call 63; refine (values84 a zs.length cap w).mono ?_; rintro e w' ⟨rfl, rfl⟩)
    refine (sorted83 w.heap.size zs a cap hz1 (by omega) _ (by simp) ((Blk.new w #[.slice a zs.length cap] 22 _ rfl).cell rfl) HSL.out).mono ?_
    rintro e w1 ⟨v, rfl, hown, hb1⟩
    obtain ⟨a1, cap1, rfl, ho⟩ := own_list hown
    have G := hidd (And.intro ho.sl (((Below.refl w.heap.size w).alloc (Nat.le_refl _) (.cells #[.slice a zs.length cap] 22)).trans (hb1.mono (by simp))))
    have hl1 := hidd (srt_len zs)
    clear hown ho hb1
    go_wp2_with fail
    refine (set69 (srt zs) a1 cap1 n _ G.out.1 (by have := hl1.out; omega)).mono ?_
    rintro e w2 ⟨rfl, hb2⟩
    have R := hidd (G.out.2.trans (hb2.mono G.out.2.size))
    clear hb2
    go_wp2
    go_ret
    exact ⟨by rw [HO.out]; rfl, R.out⟩
  · have HO := hidd (show ordB zs n = false by unfold ordB; rw [decide_eq_false hn]; rfl)
    have hq : ((zs.length : Int) == n) = false := by rw [beq_eq_false_iff_ne]; exact hn
    clear hs hn
    go_enter Try.func50, Try.ntmps50
    go_wp2
    go_ret
    exact ⟨by rw [HO.out]; rfl, Below.refl _ _⟩
end Go.Proofs.Yteclbaalejondaa
