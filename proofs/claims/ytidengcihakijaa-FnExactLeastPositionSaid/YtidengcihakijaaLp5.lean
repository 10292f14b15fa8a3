/- LeastPosition: what it answers; the model. -/
import Derived.Test.YtidengcihakijaaLps
namespace Go.Proofs.Ytidengcihakijaa
set_option linter.unusedVariables false
set_option linter.unusedSimpArgs false
open Go Go.RowKit Go.Shelf
def lpLs (n : Int) (zs : List Int) : List Int := if gmCode n zs = 0 then minL (rnZ n.toNat zs) zs (ordM n.toNat n.toNat []) else []
theorem gm_lst {n : Int} {zs : List Int} (h : gmCode n zs = 0) : lstB n zs = true := by
  unfold gmCode at h
  split at h
  · rename_i h1; exact h1
  · omega
theorem lpLs_len {n : Int} {zs : List Int} : (lpLs n zs).length ≤ 1000 := by
  unfold lpLs
  split
  · rename_i h
    obtain ⟨N, _, _, _, _, h10⟩ := lst_len (gm_lst h)
    rw [minL_len (fun o => rnZ_len _ zs o) _ _ rfl]; omega
  · simp
set_option maxRecDepth 100000 in
set_option maxHeartbeats 2000000 in
theorem spec5 (n : Int) (zs : List Int) (b off cap : Nat) (w : World) (hs : SlI w (some ⟨b, off, none⟩) zs) (hl : zs.length ≤ 1048576) :
    Calls Try.prog 5 #[.int .i64 n, .slice (some ⟨b, off, none⟩) zs.length cap] w (LOut w (lpLs n zs) (gmCode n zs)) := by
  have HC := hidd (code31 n zs (some ⟨b, off, none⟩) cap w hs (by omega))
  have HSL := hidd hs
  by_cases h0 : gmCode n zs = 0
  · obtain ⟨N, rfl, n1, n5, hlen, h10⟩ := lst_len (gm_lst h0)
    have hv : lpLs (N : Int) zs = minL (rnZ N zs) zs (ordM N N []) := if_pos h0
    rw [hv, h0]
    rw [h0] at HC
    have HL := hidd (fun av capv pb W h1 h2 h3 h4 => least16 N zs b off cap n1 n5 hlen N w.heap.size [] pb 0 0 zs av capv W (by simp) ⟨List.nodup_nil, by simp⟩ h1 h2 h3 h4 rfl)
    have HO := hidd (fun W (h : Below w.heap.size w W) => own60 b off cap zs W (hs.below h (Nat.le_refl _)) (by omega))
    have hml : (minL (rnZ N zs) zs (ordM N N [])).length = zs.length := minL_len (fun o => rnZ_len N zs o) _ _ rfl
    obtain ⟨R, hR⟩ : ∃ R, R = minL (rnZ N zs) zs (ordM N N []) := ⟨_, rfl⟩
    rw [← hR] at HL hml ⊢
    have HML := hidd hml
    clear hs hl h0 hlen hv hR hml
    go_enter Try.func5, Try.ntmps5
    go_wp2_with fail
    refine HC.out.mono ?_
    rintro e w' ⟨rfl, rfl⟩
    have G1 := hidd ((Below.refl w.heap.size w).alloc (Nat.le_refl _) (.cells #[] 2))
    go_wp2_with fail
    refine (HO.out _ G1.out).mono ?_
    rintro e w1 ⟨g, c, rfl, ho, hb⟩
    have K1 := hidd (show OwnL w1 w.heap.size (some ⟨g, 0, none⟩) zs ∧ Below w.heap.size w w1 from by
      obtain ⟨a', c', he, ho'⟩ := own_list ho
      cases he
      exact ⟨ho'.bas G1.out.size, G1.out.trans (hb.mono G1.out.size)⟩)
    clear ho hb
    go_wp2_with fail
    refine (HL.out _ _ _ _ (HSL.out.below K1.out.2 (Nat.le_refl _)) (.inl rfl) K1.out.1 K1.out.2.size).mono ?_
    rintro e w2 ⟨a2, c2, rfl, ho2, hb2⟩
    have K2 := hidd (And.intro ho2 (K1.out.2.trans (hb2.mono K1.out.2.size)))
    clear ho2 hb2
    go_wp2_with fail
    go_ret2
    exact ⟨a2, c2, by rw [HML.out]; rfl, K2.out.1, K2.out.2⟩
  · have hv : lpLs n zs = [] := if_neg h0
    rw [hv]
    obtain ⟨cd, hcd⟩ : ∃ cd, cd = gmCode n zs := ⟨_, rfl⟩
    rw [← hcd] at HC h0 ⊢
    have hz : (cd != 0) = true := by rw [bne_iff_ne]; exact h0
    clear hs hl hcd h0 hv
    go_enter Try.func5, Try.ntmps5
    go_wp2_with fail
    refine HC.out.mono ?_
    rintro e w' ⟨rfl, rfl⟩
    go_wp2_with fail
    go_ret2
    exact lout_nil rfl (Below.refl _ _)
end Go.Proofs.Ytidengcihakijaa
