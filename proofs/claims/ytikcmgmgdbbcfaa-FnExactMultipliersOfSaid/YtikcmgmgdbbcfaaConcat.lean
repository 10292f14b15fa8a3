/- slices.Grow and slices.Concat of two lists; a list of colours taken as an array. -/
import Derived.Test.YtikcmgmgdbbcfaaGb
import Derived.Lib.AppendZeros
namespace Go.Proofs.Ytikcmgmgdbbcfaa
set_option linter.unusedVariables false
set_option linter.unusedSimpArgs false
open Go Go.RowKit
theorem zeroCells_size (z : Array Value) (n : Nat) : (Builtin.zeroCells z n).size = n * z.size := by simp [Builtin.zeroCells]
set_option maxRecDepth 100000 in
set_option maxHeartbeats 1000000 in
theorem grow105 (n : Nat) (h1 : 1 ≤ n) (h2 : n ≤ 2097152) (w : World) :
    Calls Try.prog 105 #[.slice none 0 0, .int .i64 (n : Int)] w fun e w' => ∃ v, e = .returned v ∧ w'.ownsRow w.heap.size 2 1 v 0 [] ∧ Below w.heap.size w w' := by
  obtain ⟨t0, hi, hz0, hz1, hz2⟩ := info_parts info2
  have hrz : ∀ ty, (Builtin.append_ #[22, 3] ty #[.slice none 0 0, .int .i64 (n : Int)]).run Try.prog w = _ :=
    fun ty => Lib.run_append_nil_zeros w 22 3 ty 2 t0 (.int .i64 0) .i64 .i64 Try.underlying22 Try.underlying3 hi hz0 n h1 (by rw [hz1]; decide) (by omega) (by rw [hz2]; omega)
  have hGn := grownCap_ge w n 0 2
  have hGm := grownCap_le_maxLen w n 0 2 (by unfold maxLen; omega)
  obtain ⟨G, hG⟩ : ∃ G, G = grownCap w n 0 2 := ⟨_, rfl⟩
  obtain ⟨C, hC⟩ : ∃ C, C = Builtin.zeroCells (Value.int .i64 0).cells n ++ Builtin.zeroCells (Value.int .i64 0).cells (grownCap w n 0 2 - n) := ⟨_, rfl⟩
  rw [← hC] at hrz
  rw [← hG] at hrz hGn hGm hC
  have HCS := hidd (show C.size = G * 1 by rw [hC, Array.size_append, zeroCells_size, zeroCells_size]; simp [Value.cells]; omega)
  have HGM := hidd hGm
  unfold maxLen at hGm
  have hpos : (0 : Int) < (n : Int) := by omega
  clear hG hC hi hz0 hz1 hz2
  go_enter Try.func105, Try.ntmps105
  go_wp2_with (at_builtin; refine Lib.wpList_append_run _ rfl _ _ _ _ rfl _ _ rfl rfl _ _ (hrz _) ?_)
  go_ret
  exact ⟨_, rfl, ⟨rfl, .inr ⟨w.heap.size, G, C, rfl, Nat.le_refl _, heap_alloc_new w.drew _, by omega, HGM.out, HCS.out, rfl⟩⟩, (below_drewN (Below.refl _ _) 1).alloc (Nat.le_refl _) _⟩
theorem grow105x (x : Int) (h1 : 1 ≤ x) (h2 : x ≤ 2097152) (w : World) :
    Calls Try.prog 105 #[.slice none 0 0, .int .i64 x] w fun e w' => ∃ v, e = .returned v ∧ w'.ownsRow w.heap.size 2 1 v 0 [] ∧ Below w.heap.size w w' := by
  obtain ⟨n, rfl⟩ := Int.eq_ofNat_of_zero_le (show 0 ≤ x by omega)
  exact grow105 n (by omega) (by omega) w
theorem grown_plain {w1 w2 : World} {B : Nat} {e : TypeId} {size : Nat} {v : Value} {n : Nat} {xs : List Value} (hown : w1.ownsRow B e size v n xs) (hg : w1.grownBy w2 v.ownBlock) (hB : B ≤ w1.heap.size) : Below B w1 w2 :=
  (Below.refl B w1).grown hg hB (fun g hgg => by
    rcases hown.2 with ⟨h1, _⟩ | ⟨g', cap', cur', h1, h2, _⟩
    · rw [h1] at hgg; cases hgg
    · rw [h1] at hgg; cases hgg; exact h2)
theorem SlI.some {w : World} {a : Option Addr} {zs : List Int} (h : SlI w a zs) (h1 : 1 ≤ zs.length) : ∃ b off, a = some ⟨b, off, none⟩ ∧ ∀ j u, (icells zs)[j]? = some u → w.cell? ((⟨b, off, none⟩ : Addr).add j) = some u := by
  rcases h with h | ⟨b, off, ha, hc⟩
  · rw [h] at h1; simp at h1
  · refine ⟨b, off, ha, fun j u hu => ?_⟩
    have hj : j < zs.length := by
      have := (List.getElem?_eq_some_iff.1 hu).1
      rwa [icells_len] at this
    rw [Addr.add_mid, hc j hj]
    have := icells_get hj
    simp only [List.getElem?_toArray] at this
    rw [← this]; exact hu
theorem icells_oc (zs : List Int) : ∀ u ∈ icells zs, u.oneCell' = true := by
  intro u hu
  simp only [icells, List.mem_map] at hu
  obtain ⟨x, _, rfl⟩ := hu; rfl
set_option maxRecDepth 100000 in
set_option maxHeartbeats 2000000 in
theorem concat89 (ys zs : List Int) (a b : Option Addr) (c1 c2 g : Nat) (w : World) (hB : Blk w g #[.slice a ys.length c1, .slice b zs.length c2] 22) (h1 : SlI w a ys) (h2 : SlI w b zs)
    (hy : 1 ≤ ys.length) (hy2 : ys.length ≤ 1048576) (hz : 1 ≤ zs.length) (hz2 : zs.length ≤ 1048576) :
    Calls Try.prog 89 #[.slice (some ⟨g, 0, none⟩) 2 2] w fun e w' => ∃ v, e = .returned v ∧ w'.ownsRow w.heap.size 2 1 v (ys.length + zs.length) (icells ys ++ icells zs) ∧ Below w.heap.size w w' := by
  obtain ⟨t0, hi, hz0, hz1, hz2'⟩ := info_parts info2
  have HI := hidd (And.intro hi (And.intro hz0 (And.intro hz1 hz2')))
  have HB := hidd hB
  have H1 := hidd h1
  have H2 := hidd h2
  have g0 := hB.cell (j := 0) (show _ = some (Value.slice a ys.length c1) from rfl)
  have g1 := hB.cell (j := 1) (show _ = some (Value.slice b zs.length c2) from rfl)
  clear hi hz0 hz1 hz2' hB h1 h2
  go_enter Try.func89, Try.ntmps89
  go_wp2_with fail
  refine wp_loop_rounds 3 ?_
  rw [rounds_succ]
  go_wp2_with fail
  rw [rounds_succ]
  go_wp2_with fail
  rw [rounds_succ]
  go_wp2_with fail
  refine (grow105x _ (by omega) (by omega) _).mono ?_
  rintro e w1 ⟨v, rfl, hown, hb1⟩
  have B1 := HB.out.below hb1 HB.out.lt
  have S1 := H1.out.below hb1 (Nat.le_refl _)
  have S2 := H2.out.below hb1 (Nat.le_refl _)
  obtain ⟨ba, oa, ha, hca⟩ := S1.some hy
  obtain ⟨bb, ob, hb, hcb⟩ := S2.some hz
  have G := hidd (And.intro B1 (And.intro hca (And.intro hcb (And.intro hb1 hown))))
  have k0 := B1.cell (j := 0) (show _ = some (Value.slice a ys.length c1) from rfl)
  have k1 := B1.cell (j := 1) (show _ = some (Value.slice b zs.length c2) from rfl)
  subst ha hb
  have HLT := hidd B1.lt
  have HLT0 := hidd HB.out.lt
  clear hb1 hown B1 S1 S2 hca hcb g0 g1
  go_wp2_with fail
  refine wp_loop_rounds 3 ?_
  rw [rounds_succ]
  go_wp2_with (at_builtin; refine wpList_append_own _ rfl _ _ 22 rfl w.heap.size 2 t0 (.int .i64 0) 1 8 Try.underlying22 HI.out.1 HI.out.2.1 HI.out.2.2.1 HI.out.2.2.2 rfl (by decide) _ _ _ rfl G.out.2.2.2.2 ⟨ba, oa, none⟩ ys.length c1 (icells ys) rfl ?c0 ?c1 ?c2 ?c3 ?c4 ?c5 ?_)
  case c0 => rw [icells_len]; omega
  case c1 => exact G.out.2.1
  case c2 => exact icells_oc ys
  case c3 => unfold maxLen; omega
  case c4 => omega
  case c5 => exact G.out.2.2.2.1.size
  intro v' w2 hown' hgrow _
  have hb2 := grown_plain G.out.2.2.2.2 hgrow G.out.2.2.2.1.size
  have hbl := G.out.2.2.2.1.trans hb2
  have B2 := HB.out.below hbl HB.out.lt
  have S2 := H2.out.below hbl (Nat.le_refl _)
  obtain ⟨bb', ob', hbb, hcb⟩ := S2.some hz
  cases hbb
  have k1 := B2.cell (j := 1) (show _ = some (Value.slice (some ⟨bb, ob, none⟩) zs.length c2) from rfl)
  have G2 := hidd (And.intro hcb (And.intro hbl hown'))
  clear k0 hb2 hbl B2 S2 hcb hown' hgrow G
  go_wp2_with fail
  rw [rounds_succ]
  go_wp2_with (at_builtin; refine wpList_append_own _ rfl _ _ 22 rfl w.heap.size 2 t0 (.int .i64 0) 1 8 Try.underlying22 HI.out.1 HI.out.2.1 HI.out.2.2.1 HI.out.2.2.2 rfl (by decide) _ _ _ rfl G2.out.2.2 ⟨bb, ob, none⟩ zs.length c2 (icells zs) rfl ?d0 ?d1 ?d2 ?d3 ?d4 ?d5 ?_)
  case d0 => rw [icells_len]; omega
  case d1 => exact G2.out.1
  case d2 => exact icells_oc zs
  case d3 => unfold maxLen; omega
  case d4 => omega
  case d5 => exact G2.out.2.1.size
  intro v3 w3 hown3 hgrow3 _
  have hb3 := grown_plain G2.out.2.2 hgrow3 G2.out.2.1.size
  have G3 := hidd (And.intro (G2.out.2.1.trans hb3) hown3)
  clear hb3 hown3 hgrow3 G2 k1
  go_wp2_with fail
  rw [rounds_succ]
  go_wp2_with fail
  go_ret
  exact ⟨v3, rfl, by simpa using G3.out.2, G3.out.1⟩
end Go.Proofs.Ytikcmgmgdbbcfaa
