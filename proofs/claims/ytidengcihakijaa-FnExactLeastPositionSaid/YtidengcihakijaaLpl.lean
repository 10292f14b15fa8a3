/- LeastPosition: the program, where there is a position. -/
import Derived.Test.YtidengcihakijaaLpk
namespace Go.Proofs.Ytidengcihakijaa
set_option linter.unusedVariables false
set_option linter.unusedSimpArgs false
open Go Go.RowKit Go.Shelf
attribute [local go_sem] Oper.semAt_some
set_option maxRecDepth 100000 in
set_option maxHeartbeats 4000000 in
theorem impl7_good (N : Nat) (zs : List Int) (b cap : Nat) (w : World) (hbw : b < w.heap.size) (hs : SlI w (some ⟨b, 0, none⟩) zs) (hl : zs.length ≤ 1048576) (h0 : gmCode (N : Int) zs = 0) (n1 : 1 ≤ N) (n5 : N ≤ 5) (hlen : zs.length = eN N) :
    Calls Try.prog 7 #[.int .i64 (N : Int), .slice (some ⟨b, 0, none⟩) zs.length cap] w (LOut w (minL (rnZ N zs) zs (ordM N N [])) 0) := by
  obtain ⟨V, hV, hVs, hV0, hV1⟩ := en_cells (N : Int) zs
  have HE := hidd (fun W h => enter30 (N : Int) zs (some ⟨b, 0, none⟩) cap W h (by omega))
  rw [hV, h0] at HE
  have HVS := hidd (And.intro hVs (And.intro hV0 hV1))
  have HSL := hidd hs
  have Hz := zero40
  have HCL := hidd (fun W h => clone19 b 0 cap zs W h hl)
  have HAT := hidd (fun W => at20 (N : Int) W)
  have HIT := hidd (fun bf bn W h1 h2 => iter38 0 N bf bn W n1 (by omega) h1 h2)
  have HML := hidd (show ∀ pre, (minL (rnZ N zs) zs pre).length = zs.length from fun pre => minL_len (fun o => rnZ_len N zs o) _ _ rfl)
  have HREN := hidd (fun x g c W (hx : x ∈ ordM N N []) (h1 : b < W.heap.size) (h2 : g < W.heap.size) h3 h4 => ren51 N zs x n1 n5 hlen (ord_ordr n1 (by omega) hx) b 0 cap g 0 c W h1 h2 h3 h4)
  have HRL := hidd (fun x => rnZ_len N zs x)
  obtain ⟨all, hall⟩ : ∃ all, all = ordM N N [] := ⟨_, rfl⟩
  rw [← hall] at HIT HREN ⊢
  have R0 := hidd (show Blk ((w.alloc (.cells #[.int .i64 (N : Int)] 2)).alloc (.cells #[.slice (some ⟨b, 0, none⟩) zs.length cap] 22)) w.heap.size #[.int .i64 (N : Int)] 2 ∧ Blk ((w.alloc (.cells #[.int .i64 (N : Int)] 2)).alloc (.cells #[.slice (some ⟨b, 0, none⟩) zs.length cap] 22)) (w.heap.size + 1) #[.slice (some ⟨b, 0, none⟩) zs.length cap] 22 ∧ Below w.heap.size w ((w.alloc (.cells #[.int .i64 (N : Int)] 2)).alloc (.cells #[.slice (some ⟨b, 0, none⟩) zs.length cap] 22)) from
    ⟨(Blk.new _ _ _ _ rfl).alloc _, Blk.new _ _ _ _ (by simp), ((Below.refl _ _).alloc (Nat.le_refl _) _).alloc (by simp) _⟩)
  have c20 := (Blk.new w #[.int .i64 (N : Int)] 2 _ rfl).cell (j := 0) (show _ = some (Value.int .i64 (N : Int)) from rfl)
  clear hs h0 hV hVs hV0 hV1 hall hlen
  refine (callsIn_wide (n := 2)).1 (callsIn_of_wp_marks Try.func7 rfl trivial ?_ rfl)
  simp only [Try.ntmps7, List.size_toArray, List.length_cons, List.length_nil, Nat.reduceAdd, Nat.reduceSub, Array.replicate_succ, Array.replicate_zero, List.push_toArray, List.append_toArray, List.nil_append, List.cons_append]
  gi_wp2_with fail
  refine ⟨trivial, (callsIn_wide.2 (HE.out _ (HSL.out.below R0.out.2.2 (Nat.le_refl _)))).mono ?_⟩
  rintro e w1 ⟨rfl, hb1⟩
  obtain ⟨W4, hW4⟩ : ∃ W4, W4 = (w1.alloc (.cells #[.int .i64 0, .int .u16 0, .int .u16 0] 44)).setRow w1.heap.size V := ⟨_, rfl⟩
  have J := hidd (show Blk W4 w.heap.size #[.int .i64 (N : Int)] 2 ∧ Blk W4 (w.heap.size + 1) #[.slice (some ⟨b, 0, none⟩) zs.length cap] 22 ∧ Below w.heap.size w W4 from by
    have k1 := R0.out.1.below hb1 R0.out.1.lt
    have k2 := R0.out.2.1.below hb1 R0.out.2.1.lt
    have k3 := R0.out.2.2.trans (hb1.mono R0.out.2.2.size)
    have l1 := k1.lt
    have l2 := k2.lt
    rw [hW4]
    exact ⟨(k1.alloc _).rowOther _ _ (by omega), (k2.alloc _).rowOther _ _ (by omega), below_setRow (k3.alloc k3.size _) k3.size _⟩)
  have G3 := hidd (show Blk (w1.alloc (.cells #[.int .i64 0, .int .u16 0, .int .u16 0] 44)) w1.heap.size #[.int .i64 0, .int .u16 0, .int .u16 0] 44 from Blk.new _ _ _ _ rfl)
  clear hb1
  have c31 := J.out.2.1.cell (j := 0) (show _ = some (Value.slice (some ⟨b, 0, none⟩) zs.length cap) from rfl)
  gi_wp2_with (refine inStoreRow rfl 44 (.tmp 6) (.tmp 15) rfl w1.heap.size _ rfl rfl 44 _ G3.out HVS.out.1 HVS.out.2.1 HVS.out.2.2 ?_; rw [← hW4]; clear hW4)
  refine ⟨trivial, (callsIn_wide.2 (HCL.out _ (HSL.out.below J.out.2.2 (Nat.le_refl _)))).mono ?_⟩
  rintro e w5 ⟨g0, c0, rfl, ho5, hb5⟩
  obtain ⟨W6, hW6⟩ : ∃ W6, W6 = w5.alloc (.cells #[.slice (some ⟨g0, 0, none⟩) zs.length c0] 22) := ⟨_, rfl⟩
  have K6 := hidd (show (∀ B D, W6.heap.size ≤ B → RelK (N : Int) zs b cap w5.heap.size w B D zs W6) ∧ w5.heap.size < W6.heap.size ∧ w.heap.size + 1 < w5.heap.size ∧ Blk W6 w.heap.size #[.int .i64 (N : Int)] 2 from by
    have k1 := J.out.1.below hb5 J.out.1.lt
    have k2 := J.out.2.1.below hb5 J.out.2.1.lt
    have k3 := J.out.2.2.trans (hb5.mono J.out.2.2.size)
    have l1 := k1.lt
    have l2 := k2.lt
    obtain ⟨a', c', he, ho⟩ := own_list ho5
    cases he
    have hsz : W6.heap.size = w5.heap.size + 1 := by rw [hW6]; simp
    refine ⟨fun B D hB => ?_, by omega, l2, by rw [hW6]; exact k1.alloc _⟩
    rw [hW6]
    exact ⟨k1.alloc _, k2.alloc _, ⟨_, c0, Blk.new _ _ _ _ rfl, (OwnL.d ho J.out.2.2.size (.inl (by omega))).below ((Below.refl _ _).alloc (Nat.le_refl _) _)⟩, k3.alloc k3.size _⟩)
  have cN6 := K6.out.2.2.2.cell (j := 0) (show _ = some (Value.int .i64 (N : Int)) from rfl)
  have f5 := (Blk.new w5 #[.slice none 0 0] 22 _ rfl).fro 0
  have c5 := (Blk.new w5 #[.slice none 0 0] 22 _ rfl).cell (j := 0) (show _ = some (Value.slice none 0 0) from rfl)
  rw [hW6] at cN6
  clear ho5 hb5
  gi_wp2_with fail
  rw [← hW6]
  clear hW6 c5 f5 cN6
  refine ⟨trivial, (callsIn_wide.2 (HAT.out _)).mono ?_⟩
  rintro e w7 ⟨rfl, kF, kN, hb7⟩
  have H7 := hidd (show W6.heap.size + 1 < w7.heap.size ∧ w5.heap.size < W6.heap.size ∧ w.heap.size + 1 < w5.heap.size from ⟨kF.lt, K6.out.2.1, K6.out.2.2.1⟩)
  have HI0 := hidd (show ∀ D, RelK (N : Int) zs b cap w5.heap.size w w7.heap.size D zs w7 from fun D => (K6.out.1 w7.heap.size D (by have := H7.out; omega)).below hb7)
  have HIT7 := hidd (HIT.out _ _ w7 kF kN)
  clear kF kN hb7
  gi_wp2_with fail
  have HST := hidd (show ∀ D, StabD w7.heap.size D (fun (pre : List (List Int)) A => RelK (N : Int) zs b cap w5.heap.size w w7.heap.size D (minL (rnZ N zs) zs pre) A) from
    fun D pre A A' h k => h.away k (by have := H7.out; omega) (by have := H7.out; omega))
  refine range_givesD rfl (enters_of Try.func38 (by kernel_rfl) rfl) HIT7.out (fun b hb => by
      have := H7.out
      simp only [List.mem_cons, List.not_mem_nil, or_false] at hb
      rcases hb with rfl | rfl <;> omega) (fun x B D W args h => by obtain ⟨g, c, C, h1, _⟩ := h; rw [h1]; rfl)
    (fun D (pre : List (List Int)) A => RelK (N : Int) zs b cap w5.heap.size w w7.heap.size D (minL (rnZ N zs) zs pre) A) (fun _ _ _ => False) HST.out (fun _ _ _ _ _ _ h _ _ _ _ => h) HI0.out
    (fun x D a' A => ∃ g c C, a' = { tmps := #[.int .i64 (N : Int), .slice (some ⟨b, 0, none⟩) zs.length cap, .pointer (some ⟨w.heap.size, 0, none⟩), .pointer (some ⟨w.heap.size + 1, 0, none⟩), .slice none 0 0, .int .i64 0, .pointer (some ⟨w1.heap.size, 0, none⟩), .int .i64 0, .pointer (some ⟨w5.heap.size, 0, none⟩), .slice (some ⟨g, 0, none⟩) N c, undef, .tuple #[.agg V, .int .i64 0], .int .i64 (N : Int), .slice (some ⟨b, 0, none⟩) zs.length cap, .tuple #[.agg V, .int .i64 0], .agg V, .int .i64 0, .int .i64 0, .bool false, undef, .slice (some ⟨b, 0, none⟩) zs.length cap, .slice (some ⟨g0, 0, none⟩) zs.length c0, .int .i64 (N : Int), .func (.func 38) #[] #[.pointer (some ⟨W6.heap.size + 1, 0, none⟩), .pointer (some ⟨W6.heap.size, 0, none⟩)], .slice (some ⟨g, 0, none⟩) N c, undef, undef, undef, undef, undef, undef, undef, undef, undef, undef], defers := [] } ∧ w7.heap.size ≤ g ∧ g < D ∧ RowC A g x C ∧ x.length = N)
    (fun x D a' A l o o' ⟨g, c, C, h1, h2, h3, h4, h5⟩ ho hc => ⟨g, c, C, h1, h2, h3, ⟨blk_put h4.1 ho hc o', h4.2⟩, h5⟩) ?assign ?body ?done ?stop
  case stop => intro Dd Dx pre x rest Wx hD0 hD1 hD2 hall h; exact h.elim
  case assign =>
    rintro l' Dx B pre x rest args Wx Kx' hall hI hB1 hB2 hB3 ⟨g, c, C, rfl, hg1, hg2, hg3, hg4⟩ hK
    have HK := hidd hK
    have HGG := hidd (show w7.heap.size ≤ g ∧ g < Dx ∧ RowC Wx g x C ∧ x.length = N from ⟨by omega, hg2, hg3, hg4⟩)
    clear hK hI hg1 hg2 hg3 hg4 hall
    gi_wp2
    exact HK.out _ _ (Below.refl _ _) ⟨g, c, C, by first | (simp; done) | kernel_rfl, HGG.out⟩
  case body =>
    rintro l' Dx pre x rest a' Wx hall hD1 hD2 hI ⟨g, c, C, rfl, hg1, hg2, hg3, hg4⟩
    have HI := hidd hI
    obtain ⟨k1, k2, ⟨a0, cc, k3, k4⟩, k5⟩ := hI
    have c2 := k1.cell (j := 0) (show _ = some (Value.int .i64 (N : Int)) from rfl)
    have c3 := k2.cell (j := 0) (show _ = some (Value.slice (some ⟨b, 0, none⟩) zs.length cap) from rfl)
    have hr := HREN.out x g c Wx (by rw [hall]; simp) (Nat.lt_of_lt_of_le hbw k5.size) hg3.1.lt (HSL.out.below k5 (Nat.le_refl _)) (.inr ⟨g, 0, rfl, fun j hj => by rw [Nat.zero_add]; exact hg3.cell hj⟩)
    rw [hg4] at hr
    have HR := hidd hr
    have HD1 := hidd hD1
    have HD2 := hidd hD2
    clear hall hD1 hD2 hg1 hg2 hg3 hg4 k1 k2 k3 k4 k5 hr
    gi_wp2_with fail
    refine ⟨trivial, rfl, (CallsIn.inRound _ (callsIn_wide.2 HR.out)).mono ?_⟩
    rintro e X1 ⟨a1, c1, rfl, ho1, hb1⟩
    rw [HRL.out]
    have HI1 := hidd (HI.out.below hb1)
    obtain ⟨k1, k2, ⟨a0, cc, k3, k4⟩, k5⟩ := HI1.out
    have c8 := k3.cell (j := 0) (show _ = some (Value.slice a0 zs.length cc) from rfl)
    have f8 := k3.fro 0
    have hcm := compare22 (rnZ N zs x) (minL (rnZ N zs) zs pre) a1 c1 a0 cc X1 ho1.sl k4.sl (by rw [HRL.out, HML.out]) (by rw [HRL.out]; exact hl)
    rw [HRL.out, HML.out] at hcm
    have HCM := hidd hcm
    have HO1 := hidd (show OwnD w.heap.size w7.heap.size Dx X1 a1 (rnZ N zs x) from OwnL.d ho1 (by have := HI.out.2.2.2.size; exact this) (.inr HD2.out))
    have HKB := hidd hb1
    clear hb1 ho1 k1 k2 k3 k4 k5 hcm
    gi_wp2_with fail
    refine ⟨trivial, rfl, (CallsIn.inRound _ (callsIn_wide.2 HCM.out)).mono ?_⟩
    rintro e X2 ⟨⟨r, rfl, hr⟩, rfl⟩
    have HMP := hidd (show minL (rnZ N zs) zs (pre ++ [x]) = if befB (rnZ N zs x) (minL (rnZ N zs) zs pre) = true then rnZ N zs x else minL (rnZ N zs) zs pre from by rw [minL_app]; rfl)
    obtain ⟨q, hq⟩ : ∃ q, q = befB (rnZ N zs x) (minL (rnZ N zs) zs pre) := ⟨_, rfl⟩
    rw [← hq] at HMP hr
    have HH := H7.out
    cases q with
    | true =>
      have hrI : r < 0 := of_decide_eq_true hr
      rw [if_pos rfl] at HMP
      have K := hidd (show KxD [W6.heap.size + 1, W6.heap.size] w7.heap.size Dx Wx (X1.setCell ⟨w5.heap.size, 0, none⟩ (.slice a1 zs.length c1)) ∧ RelK (N : Int) zs b cap w5.heap.size w w7.heap.size Dx (minL (rnZ N zs) zs (pre ++ [x])) (X1.setCell ⟨w5.heap.size, 0, none⟩ (.slice a1 zs.length c1)) from by
        refine ⟨⟨Nat.le_trans HKB.out.size (by simp [World.setCell]), fun k hk hb => ?_⟩, by rw [HMP.out]; exact HI1.out.put HH.2.2 HO1.out⟩
        have hne : k ≠ w5.heap.size := by
          rcases hb with hb | hb
          · omega
          · simp only [List.mem_cons, List.not_mem_nil, or_false] at hb
            rcases hb with rfl | rfl <;> omega
        rw [heap_setCell_other _ _ _ _ (by exact hne)]; exact HKB.out.block k hk)
      clear hq hr
      gi_wp2_with fail
      exact K.out
    | false =>
      have hrI : ¬ r < 0 := of_decide_eq_false hr
      have hrJ : 0 ≤ r := by omega
      rw [if_neg (by decide)] at HMP
      have K := hidd (show KxD [W6.heap.size + 1, W6.heap.size] w7.heap.size Dx Wx X1 ∧ RelK (N : Int) zs b cap w5.heap.size w w7.heap.size Dx (minL (rnZ N zs) zs (pre ++ [x])) X1 from
        ⟨⟨HKB.out.size, fun k hk _ => HKB.out.block k hk⟩, by rw [HMP.out]; exact HI1.out⟩)
      clear hq hr
      gi_wp2_with fail
      exact K.out
  case done =>
    intro Dd Dx Wx hD0 hD1 hD2 hI hdef
    obtain ⟨k1, k2, ⟨a0, cc, k3, k4⟩, k5⟩ := hI
    have c8 := k3.cell (j := 0) (show _ = some (Value.slice a0 zs.length cc) from rfl)
    have hM := hidd (show Mks w7.heap.size [Dd] Wx from (Mks.nil _ _).cons hD0 (by simp) hdef)
    have HO := hidd (And.intro k4.own k5)
    clear k1 k2 k3 k4 k5 hdef
    gi_wp2_with fail
    refine leave_marks (B := w7.heap.size) (v := .tuple #[.slice a0 zs.length cc, .int .i64 0]) [Dd] _ hM.out (fun W' hb hck => ?_)
    refine ⟨by simp [results, Try.results7, go_sem], a0, cc, by rw [HML.out], ?_, HO.out.2.trans (hb.mono (by have := H7.out; omega))⟩
    rcases HO.out.1 with h | ⟨g, C, h1, h2, h3, h4, h5⟩
    · exact .inl h
    · exact .inr ⟨g, C, h1, h2, hck _ _ _ _ h3, h4, h5⟩
end Go.Proofs.Ytidengcihakijaa
