/- ColoursNext: the program. -/
import Derived.Test.YthmjmlmmbmdodaaNxs
import Derived.Test.YthmjmlmmbmdodaaImf
import Derived.Test.YthmjmlmmbmdodaaStf
namespace Go.Proofs.Ythmjmlmmbmdodaa
set_option linter.unusedVariables false
set_option linter.unusedSimpArgs false
open Go Go.RowKit Go.Shelf
set_option maxRecDepth 100000 in
set_option maxHeartbeats 4000000 in
theorem impl22n (k : Int) (zs : List Int) (kind : Int) (b : Nat) (cap : Nat) (w : World) (hbw : b < w.heap.size) (hs : SlI w (some ⟨b, 0, none⟩) zs) (hl : zs.length ≤ 9223372036854775807) :
    Calls Try.prog 22 #[.int .i64 k, .slice (some ⟨b, 0, none⟩) zs.length cap, .int .i64 kind] w (LOut w (cnList k zs kind) (cnCode k zs kind)) := by
  have HSL := hidd hs
  clear hs
  rcases pt_cases k zs kind with hc | ⟨hc, hp, k0, k2⟩
  · have HE := hidd (enO_2 hc)
    obtain ⟨e1, e2⟩ := cn_2 (k := k) (zs := zs) (kind := kind) (by omega)
    rw [e1, e2]
    clear hc e1 e2
    go_enter Try.func22, Try.ntmps22
    go_wp2_with (go_at_call 35; refine (enter35 _ _ _ _ _ _ HSL.out hl).mono ?_; rintro e w' ⟨rfl, rfl⟩; rw [HE.out])
    go_ret2
    exact lout_nil rfl (Below.refl _ _)
  · obtain ⟨T, tv, hkv⟩ := kindV_if kind
    have HE := hidd (enO_0 hc)
    rw [hkv] at HE
    obtain ⟨p1, p2, p3, p4⟩ := partB_bd hp
    by_cases h40 : zs.length = 40
    · have hq40 : ((zs.length : Int) == 40) = true := by rw [h40]; rfl
      obtain ⟨e1, e2⟩ := cn_2 (k := k) (zs := zs) (kind := kind) (by omega)
      rw [e1, e2]
      clear hc hp e1 e2 h40 p4 hkv
      go_enter Try.func22, Try.ntmps22
      go_wp2_with (go_at_call 35; refine (enter35 _ _ _ _ _ _ HSL.out hl).mono ?_; rintro e w' ⟨rfl, rfl⟩; rw [HE.out])
      go_ret2
      exact lout_nil rfl (Below.refl _ _)
    · have hq40 : ((zs.length : Int) == 40) = false := by rw [beq_eq_false_iff_ne]; omega
      have hcc : ptCode k zs kind = 0 ∧ zs.length ≠ 40 := ⟨hc, h40⟩
      have HI := hidd (isfree36 zs kind k0 k2 b 0 cap w (by omega) hbw HSL.out)
      rw [hkv] at HI
      have HT := hidd (fun (h : FT zs kind = []) => cn_0 hcc h)
      have HN := hidd (fun (h : FT zs kind ≠ []) => cn_5 hcc h)
      have HST := hidd (fun (ys : List Int) (g c : Nat) (W : World) (h1 : ys.length ≤ 41) (h2 : g < W.heap.size) (h3 : SlI W (some ⟨g, 0, none⟩) ys) (h4 : 1 ≤ ys.length) => by have h := stays40 ys kind k0 k2 g 0 c W h1 h2 h3 h4; rw [hkv] at h; exact h)
      obtain ⟨K, rfl⟩ := Int.eq_ofNat_of_zero_le (show 0 ≤ k by omega)
      rw [Int.toNat_natCast] at HT
      have K3 : (K : Int) ≤ 3 := by omega
      have hl40 : zs.length ≤ 40 := p3
      clear hc hp p4 hcc h40 hkv
      cases hf : (FT zs kind).isEmpty with
      | false =>
        have HEE := hidd (HN.out (fun h => by rw [h] at hf; cases hf))
        rw [hf] at HI
        clear hf
        go_enter Try.func22, Try.ntmps22
        go_wp2_with (go_at_call 35; refine (enter35 _ _ _ _ _ _ HSL.out hl).mono ?_; rintro e w' ⟨rfl, rfl⟩; rw [HE.out])
        refine HI.out.mono ?_
        rintro e w1 ⟨rfl, hb1⟩
        have R := hidd hb1
        clear hb1
        go_wp2_with fail
        go_ret2
        rw [HEE.out.1, HEE.out.2]
        exact lout_nil rfl R.out
      | true =>
        have HEE := hidd (HT.out (by simpa using hf))
        rw [hf] at HI
        obtain ⟨t0, hi2, hz0, hz1, hz3⟩ := info_parts info2
        have HIF := hidd (And.intro hi2 (And.intro hz0 (And.intro hz1 hz3)))
        clear hf hi2 hz0 hz1 hz3
        go_enter Try.func22, Try.ntmps22
        go_wp2_with (go_at_call 35; refine (enter35 _ _ _ _ _ _ HSL.out hl).mono ?_; rintro e w' ⟨rfl, rfl⟩; rw [HE.out])
        refine HI.out.mono ?_
        rintro e w0 ⟨rfl, hb0⟩
        have HB0 := hidd hb0
        clear hb0
        go_wp2_with fail
        go_loopw [10, 30] (fun v i wr => ∃ j : Nat, j ≤ K ∧ i = .int .i64 j ∧ RelLa zs (some ⟨b, 0, none⟩) w (nxK zs kind j) v wr) (fun _ i _ => K - (intOf i).toNat)
        case atStart => exact ⟨0, by omega, rfl, ⟨rfl, .inl ⟨rfl, rfl⟩⟩, HSL.out.below HB0.out (Nat.le_refl _), HB0.out⟩
        case round =>
          obtain ⟨j, hj, rfl, HR⟩ := hrel
          have HK := hidd HR
          clear HR
          by_cases hlt : j < K
          · have HSN := hidd (show nxK zs kind (j + 1) = nxK zs kind j ++ (if nxB zs kind (j : Int) = true then [(j : Int)] else []) from rfl)
            have hlx : (nxK zs kind j).length ≤ 40 := by have := nxK_len zs kind j; omega
            obtain ⟨xs, hxs⟩ : ∃ xs, xs = nxK zs kind j := ⟨_, rfl⟩
            rw [← hxs] at HK HSN hlx
            clear hxs
            go_wp2_with fail
            refine (clone41 b 0 cap zs _ HK.out.2.1 (by omega)).mono ?_
            rintro e w1 ⟨g1, c1, rfl, hrow, hb1⟩
            have K1 := hidd (And.intro hb1 hrow)
            have hs1 := hb1.size
            have hsw := HK.out.2.2.size
            clear hb1 hrow
            have hown1 := K1.out.2
            go_wp2_with (at_builtin; refine wpList_append_own _ rfl _ _ 22 rfl wr.heap.size 2 t0 (.int .i64 0) 1 8 Try.underlying22 HIF.out.1 HIF.out.2.1 HIF.out.2.2.1 HIF.out.2.2.2 rfl (by decide) _ _ _ rfl (hown1.alloc _) ⟨w1.heap.size, 0, none⟩ 1 1 [.int .i64 (j : Int)] rfl rfl ?c1 ?c2 ?c3 ?c4 ?c5 ?_)
            case c1 => exact one_new _ _ _
            case c2 => intro u hu; simp at hu; subst hu; rfl
            case c3 => unfold maxLen; omega
            case c4 => omega
            case c5 => simp; omega
            intro v2 w2 hown2 hgrow2 _
            have hb12 := K1.out.1.trans (grown_step hown1 hgrow2 hs1)
            have hown2' : w2.ownsRow wr.heap.size 2 1 v2 (zs ++ [(j : Int)]).length (icells (zs ++ [(j : Int)])) := by rw [icells_app, List.length_append]; exact hown2
            obtain ⟨a2, c2, rfl, ho2⟩ := own_list hown2'
            rcases ho2 with hnil | ⟨g2, C2, hg2, rfl, hblk2, hrest⟩
            · simp at hnil
            · have hsl2 : SlI w2 (some ⟨g2, 0, none⟩) (zs ++ [(j : Int)]) := OwnL.sl (B := wr.heap.size) (.inr ⟨g2, C2, hg2, rfl, hblk2, hrest⟩)
              obtain ⟨ys, hys⟩ : ∃ ys, ys = zs ++ [(j : Int)] := ⟨_, rfl⟩
              have hyl : ys.length = zs.length + 1 := by rw [hys]; simp
              rw [← hys] at hsl2
              have HB := hidd (show nxB zs kind (j : Int) = (rowL ys kind ys.length).isEmpty by unfold nxB; rw [← hys, hyl])
              have HS2 := hidd (HST.out ys g2 c2 w2 (by omega) hblk2.lt hsl2 (by omega))
              obtain ⟨q, hq⟩ : ∃ q, q = (rowL ys kind ys.length).isEmpty := ⟨_, rfl⟩
              rw [← hq] at HB HS2
              rw [hyl] at HS2
              have K2 := hidd hb12
              clear hown2 hgrow2 hb12 hown2' hsl2 hys hyl hown1 hq hblk2 hrest
              go_wp2_with fail
              refine HS2.out.mono ?_
              rintro e w3 ⟨rfl, hb3⟩
              have hb13 := K2.out.trans (hb3.mono K2.out.size)
              have K3 := hidd (show RelLa zs (some ⟨b, 0, none⟩) w xs u10 w3 from ⟨own_below HK.out.1 hb13 (Nat.le_refl _), HK.out.2.1.below hb13 (Nat.le_refl _), HK.out.2.2.trans (hb13.mono HK.out.2.2.size)⟩)
              have hs3 := K3.out.2.2.size
              clear hb3 hb13
              cases q with
              | true =>
                have HS1 := hidd (show nxK zs kind (j + 1) = xs ++ [(j : Int)] by rw [HSN.out, HB.out]; rfl)
                have hown := K3.out.1
                go_wp2_with (at_builtin; refine wpList_append_own _ rfl _ _ 22 rfl w.heap.size 2 t0 (.int .i64 0) 1 8 Try.underlying22 HIF.out.1 HIF.out.2.1 HIF.out.2.2.1 HIF.out.2.2.2 rfl (by decide) _ _ _ rfl (hown.alloc _) ⟨w3.heap.size, 0, none⟩ 1 1 [.int .i64 (j : Int)] rfl rfl ?c1 ?c2 ?c3 ?c4 ?c5 ?_)
                case c1 => exact one_new _ _ _
                case c2 => intro u hu; simp at hu; subst hu; rfl
                case c3 => unfold maxLen; omega
                case c4 => omega
                case c5 => simp; omega
                intro v4 w4 hown4 hgrow4 _
                have K4 := hidd (K3.out.step HSL.out hown4 hgrow4)
                rw [← HS1.out] at K4
                clear hown4 hgrow4 hown
                go_wp2
                go_roundw
                case rel => exact ⟨j + 1, by omega, by go_num, K4.out⟩
                case measure => simp [intOf]; omega
              | false =>
                have HS1 := hidd (show nxK zs kind (j + 1) = xs by rw [HSN.out, HB.out]; simp)
                go_wp2_with fail
                go_roundw
                case rel => exact ⟨j + 1, by omega, by go_num, by rw [HS1.out]; exact K3.out⟩
                case measure => simp [intOf]; omega
          · have hje : j = K := by omega
            subst hje
            go_wp2_with fail
            go_ret2
            rw [HEE.out.1, HEE.out.2]
            obtain ⟨a', cap', rfl, ho⟩ := own_list (zs := nxK zs kind j) HK.out.1
            exact ⟨a', cap', rfl, ho, HK.out.2.2⟩
end Go.Proofs.Ythmjmlmmbmdodaa
