/- IsClique: its model. -/
import Derived.Test.YtpjegmmichjlbaaClqSp
import Derived.Test.YtpjegmmichjlbaaPartOn
namespace Go.Proofs.Ytpjegmmichjlbaa
set_option linter.unusedVariables false
set_option linter.unusedSimpArgs false
open Go Go.RowKit Go.Shelf
def icCode (n k : Int) (bs : List Nat) (c : Int) (zs : List Int) : Int := if isCol n k bs = true then (if (belowB c k && setB zs n) = true then 0 else 2) else 1
def icV (n k : Int) (bs : List Nat) (c : Int) (zs : List Int) : Bool := if icCode n k bs c zs = 0 then cliB bs c zs else false
theorem ic_bad {n k : Int} {bs : List Nat} {c : Int} {zs : List Int} {m : Int} (h : icCode n k bs c zs = m) (hm : m ≠ 0) : icV n k bs c zs = false ∧ icCode n k bs c zs = m := ⟨by unfold icV; rw [h, if_neg hm], h⟩
theorem icCode_1 {n k : Int} {bs : List Nat} {c : Int} {zs : List Int} (h : isCol n k bs = false) : icCode n k bs c zs = 1 := by simp [icCode, h]
theorem icCode_2 {n k : Int} {bs : List Nat} {c : Int} {zs : List Int} (h : isCol n k bs = true) (h2 : (belowB c k && setB zs n) = false) : icCode n k bs c zs = 2 := by unfold icCode; rw [if_pos h, h2]; rfl
theorem icCode_0 {n k : Int} {bs : List Nat} {c : Int} {zs : List Int} (h : isCol n k bs = true) (h2 : (belowB c k && setB zs n) = true) : icCode n k bs c zs = 0 := by unfold icCode; rw [if_pos h, h2]; rfl
theorem ic_good {n k : Int} {bs : List Nat} {c : Int} {zs : List Int} (h : icCode n k bs c zs = 0) : icV n k bs c zs = cliB bs c zs ∧ icCode n k bs c zs = 0 := ⟨by unfold icV; rw [h, if_pos rfl], h⟩
set_option maxRecDepth 100000 in
set_option maxHeartbeats 4000000 in
theorem spec23 (n k : Int) (bs : List Nat) (hb : Bys bs) (c : Int) (zs : List Int) (a : Option Addr) (cap : Nat) (w : World) (hs : SlI w a zs) (hl : zs.length ≤ 9223372036854775807) :
    Calls Try.prog 23 #[.agg (ccells n k bs).toArray, .int .i64 c, .slice a zs.length cap] w fun e w' => e = .returned (.tuple #[.bool (icV n k bs c zs), .int .i64 (icCode n k bs c zs)]) ∧ Below w.heap.size w w' := by
  have HS := hidd (size_c26 n k hb)
  have hmk : ∀ w0, w0 = w.alloc (.cells (ccells n k bs).toArray 29) → ∀ w1, Below w0.heap.size w0 w1 → RelCq (ccells n k bs).toArray zs a w w1 := by
    rintro w0 rfl w1 hb1
    have hbl := ((Below.refl w.heap.size w).alloc (Nat.le_refl _) (.cells (ccells n k bs).toArray 29)).trans (hb1.mono (by simp))
    exact ⟨(Blk.new _ _ _ _ rfl).below hb1 (by simp), hs.below hbl (Nat.le_refl _), hbl⟩
  have HMK := hidd hmk
  clear hmk hs
  by_cases hg : given n k bs c [] = 0
  · obtain ⟨hi, hcb⟩ : isCol n k bs = true ∧ belowB c k = true := by
      cases hi : isCol n k bs with
      | false => rw [given_1 hi] at hg; cases hg
      | true =>
        cases hp : belowB c k with
        | false => rw [given_2 hi (by rw [hp]; rfl)] at hg; cases hg
        | true => exact ⟨rfl, rfl⟩
    obtain ⟨n1, n2, k1, k2⟩ := isCol_bd hi
    have HG := hidd hg
    cases hset : setB zs n with
    | false =>
      obtain ⟨v1, v2⟩ := ic_bad (icCode_2 (zs := zs) hi (by rw [hset, Bool.and_false])) (by omega)
      rw [v1, v2]
      have HC := hidd (setCode_2 hi hset)
      clear hi hcb hg hset v1 v2
      go_enter Try.func23, Try.ntmps23
      go_wp2_with (refine wpList_load_row rfl 29 (.tmp 3) rfl w.heap.size rfl 29 _ (0,0) _ (Blk.new _ _ _ _ rfl) Try.underlying29 rfl HS.out ?_)
      refine (given56 n k bs hb c [] none 0 _ (.inl rfl) (by simp)).mono ?_
      rintro e w1 ⟨rfl, hb1⟩
      rw [HG.out]
      have G := hidd (HMK.out _ rfl _ hb1)
      clear hb1
      go_wp2_with (refine wpList_load_row rfl 29 (.tmp 3) rfl w.heap.size rfl 29 _ (0,0) _ G.out.1 Try.underlying29 rfl HS.out ?_)
      refine (set67 n k bs hb zs a cap _ G.out.2.1 hl).mono ?_
      rintro e w2 ⟨rfl, hb2⟩
      rw [HC.out]
      have R := hidd (G.out.2.2.trans (hb2.mono G.out.2.2.size))
      clear hb2
      go_wp2
      go_ret2
      exact ⟨rfl, R.out⟩
    | true =>
      obtain ⟨v1, v2⟩ := ic_good (icCode_0 (zs := zs) hi (by rw [hset, hcb]; rfl))
      rw [v1, v2]
      have HC := hidd (setCode_0 hi hset)
      have HSET := hidd hset
      clear hi hcb hg hset v1 v2
      go_enter Try.func23, Try.ntmps23
      go_wp2_with (refine wpList_load_row rfl 29 (.tmp 3) rfl w.heap.size rfl 29 _ (0,0) _ (Blk.new _ _ _ _ rfl) Try.underlying29 rfl HS.out ?_)
      refine (given56 n k bs hb c [] none 0 _ (.inl rfl) (by simp)).mono ?_
      rintro e w1 ⟨rfl, hb1⟩
      rw [HG.out]
      have G := hidd (HMK.out _ rfl _ hb1)
      clear hb1
      go_wp2_with (refine wpList_load_row rfl 29 (.tmp 3) rfl w.heap.size rfl 29 _ (0,0) _ G.out.1 Try.underlying29 rfl HS.out ?_)
      refine (set67 n k bs hb zs a cap _ G.out.2.1 hl).mono ?_
      rintro e w2 ⟨rfl, hb2⟩
      rw [HC.out]
      have G2 := hidd (show RelCq (ccells n k bs).toArray zs a w w2 from ⟨G.out.1.below hb2 G.out.1.lt, G.out.2.1.below hb2 (Nat.le_refl _), G.out.2.2.trans (hb2.mono G.out.2.2.size)⟩)
      clear hb2
      go_wp2_with fail
      refine wp_region_last_lit 6 (fun w' => Below w2.heap.size w2 w') rfl rfl (by kernel_rfl) ((Below.refl _ _).drew) (by kernel_rfl) (by kernel_rfl) (by kernel_rfl) ?_
      simp only [List.take_succ_cons, List.take_zero, List.cons_append, List.nil_append, idle]
      refine qs rfl (fun KQ hKQ => ?_)
      apply Exists.intro
      refine ⟨fun w' hw' => ?_, ?_⟩
      · (exact quietRow 29 (.tmp 3) rfl w.heap.size rfl 29 _ _ (G2.out.1.below hw' G2.out.1.lt) Try.underlying29 rfl HS.out)
      go_simp
      refine hKQ _ ?_
      clear hKQ KQ
      refine qs rfl (fun KQ hKQ => ?_)
      apply Exists.intro
      refine ⟨fun w' hw' => ?_, ?_⟩
      · (go_simp; exact rfl)
      go_simp
      refine hKQ _ ?_
      clear hKQ KQ
      refine qs rfl (fun KQ hKQ => ?_)
      apply Exists.intro
      refine ⟨fun w' hw' => ?_, ?_⟩
      · (go_simp; exact rfl)
      go_simp
      refine hKQ _ ?_
      clear hKQ KQ
      refine qs rfl (fun KQ hKQ => ?_)
      apply Exists.intro
      refine ⟨fun w' hw' => ?_, ?_⟩
      · (go_simp; exact (bits59 zs a cap n _ (G2.out.2.1.below hw' (Nat.le_refl _)) HSET.out (by omega) n2).mono fun _ _ h => ⟨by rw [h.1], by rw [← h.2]; exact hw'⟩)
      go_simp
      refine hKQ _ ?_
      clear hKQ KQ
      refine qs rfl (fun KQ hKQ => ?_)
      apply Exists.intro
      refine ⟨fun w' hw' => ?_, ?_⟩
      · (go_simp; exact (cli58 n k bs hb c zs _ n1 n2 HSET.out).mono fun _ _ h => ⟨by rw [h.1], hw'.trans (h.2.mono hw'.size)⟩)
      go_simp
      refine hKQ _ ?_
      clear hKQ KQ
      refine qs rfl (fun KQ hKQ => ?_)
      apply Exists.intro
      refine ⟨fun w' hw' => ?_, ?_⟩
      · (go_simp; exact rfl)
      go_simp
      refine hKQ _ ?_
      clear hKQ KQ
      refine qs rfl (fun KQ hKQ => ?_)
      apply Exists.intro
      refine ⟨fun w' hw' => ?_, ?_⟩
      · (go_simp; exact rfl)
      go_simp
      refine hKQ _ ?_
      clear hKQ KQ
      refine wpQuiet_nil ?_
      intro w' hw'
      have R := hidd (G2.out.2.2.trans (hw'.mono G2.out.2.2.size))
      go_wp2
      go_ret2
      exact ⟨rfl, R.out⟩
  · obtain ⟨m, hm, hm0, hg2⟩ : ∃ m, icCode n k bs c zs = m ∧ m ≠ 0 ∧ given n k bs c [] = m := by
      cases hi : isCol n k bs with
      | false => exact ⟨1, icCode_1 hi, by omega, given_1 hi⟩
      | true =>
        cases hp : belowB c k with
        | false => exact ⟨2, icCode_2 hi (by rw [hp]; rfl), by omega, given_2 hi (by rw [hp]; rfl)⟩
        | true => exact absurd (given_0 hi hp rfl) hg
    obtain ⟨v1, v2⟩ := ic_bad hm hm0
    rw [v1, v2]
    have HG := hidd hg2
    have hq1 : (m != 0) = true := by rw [bne_iff_ne]; exact hm0
    clear hm hm0 hg hg2 v1 v2
    go_enter Try.func23, Try.ntmps23
    go_wp2_with (refine wpList_load_row rfl 29 (.tmp 3) rfl w.heap.size rfl 29 _ (0,0) _ (Blk.new _ _ _ _ rfl) Try.underlying29 rfl HS.out ?_)
    refine (given56 n k bs hb c [] none 0 _ (.inl rfl) (by simp)).mono ?_
    rintro e w1 ⟨rfl, hb1⟩
    rw [HG.out]
    have R := hidd (HMK.out _ rfl _ hb1).2.2
    clear hb1
    go_wp2
    go_ret2
    exact ⟨rfl, R.out⟩
end Go.Proofs.Ytpjegmmichjlbaa
