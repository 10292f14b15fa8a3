/- ColoursNext: what it returns; the model. -/
import Derived.Test.YthmjmlmmbmdodaaNxt
namespace Go.Proofs.Ythmjmlmmbmdodaa
set_option linter.unusedVariables false
set_option linter.unusedSimpArgs false
open Go Go.RowKit Go.Shelf
def cnCode (k : Int) (zs : List Int) (kind : Int) : Int := if ptCode k zs kind = 0 ∧ zs.length ≠ 40 then (if FT zs kind = [] then 0 else 5) else 2
def cnList (k : Int) (zs : List Int) (kind : Int) : List Int := if cnCode k zs kind = 0 then nxK zs kind k.toNat else []
theorem cn_2 {k : Int} {zs : List Int} {kind : Int} (h : ¬ (ptCode k zs kind = 0 ∧ zs.length ≠ 40)) : cnList k zs kind = [] ∧ cnCode k zs kind = 2 := by
  have e : cnCode k zs kind = 2 := if_neg h
  exact ⟨by unfold cnList; rw [e]; rfl, e⟩
theorem cn_5 {k : Int} {zs : List Int} {kind : Int} (h : ptCode k zs kind = 0 ∧ zs.length ≠ 40) (h2 : FT zs kind ≠ []) : cnList k zs kind = [] ∧ cnCode k zs kind = 5 := by
  have e : cnCode k zs kind = 5 := by unfold cnCode; rw [if_pos h, if_neg h2]
  exact ⟨by unfold cnList; rw [e]; rfl, e⟩
theorem cn_0 {k : Int} {zs : List Int} {kind : Int} (h : ptCode k zs kind = 0 ∧ zs.length ≠ 40) (h2 : FT zs kind = []) : cnList k zs kind = nxK zs kind k.toNat ∧ cnCode k zs kind = 0 := by
  have e : cnCode k zs kind = 0 := by unfold cnCode; rw [if_pos h, if_pos h2]
  exact ⟨by unfold cnList; rw [e, if_pos rfl], e⟩
theorem cnList_len {k : Int} {zs : List Int} {kind : Int} : (cnList k zs kind).length ≤ 1000 := by
  unfold cnList
  split
  · rename_i h
    have := nxK_len zs kind k.toNat
    rcases pt_cases k zs kind with hc | ⟨hc, hp, _, _⟩
    · rw [(cn_2 (by omega)).2] at h; omega
    · have := partB_bd hp; omega
  · simp
set_option maxRecDepth 100000 in
set_option maxHeartbeats 1000000 in
theorem spec21n (k : Int) (zs : List Int) (kind : Int) (b : Nat) (cap : Nat) (w : World) (hs : SlI w (some ⟨b, 0, none⟩) zs) (hl : zs.length ≤ 9223372036854775807) :
    Calls Try.prog 21 #[.int .i64 k, .slice (some ⟨b, 0, none⟩) zs.length cap, .int .i64 kind] w (LOut w (cnList k zs kind) (cnCode k zs kind)) := by
  have HSL := hidd hs
  clear hs
  rcases pt_cases k zs kind with hc | ⟨hc, hp, k0, k2⟩
  · have HC := hidd hc
    obtain ⟨e1, e2⟩ := cn_2 (k := k) (zs := zs) (kind := kind) (by omega)
    rw [e1, e2]
    clear hc e1 e2
    go_enter Try.func21, Try.ntmps21
    go_wp2_with (go_at_call 33; refine (code33 _ _ _ _ _ _ HSL.out hl).mono ?_; rintro e w' ⟨rfl, rfl⟩; rw [HC.out])
    go_ret2
    exact lout_nil rfl (Below.refl _ _)
  · have HC := hidd hc
    obtain ⟨p1, p2, p3, p4⟩ := partB_bd hp
    by_cases h40 : zs.length = 40
    · have hq40 : ((zs.length : Int) == 40) = true := by rw [h40]; rfl
      obtain ⟨e1, e2⟩ := cn_2 (k := k) (zs := zs) (kind := kind) (by omega)
      rw [e1, e2]
      clear hc hp e1 e2 h40 p4
      go_enter Try.func21, Try.ntmps21
      go_wp2_with (go_at_call 33; refine (code33 _ _ _ _ _ _ HSL.out hl).mono ?_; rintro e w' ⟨rfl, rfl⟩; rw [HC.out])
      go_ret2
      exact lout_nil rfl (Below.refl _ _)
    · have hq40 : ((zs.length : Int) == 40) = false := by rw [beq_eq_false_iff_ne]; omega
      have hcc : ptCode k zs kind = 0 ∧ zs.length ≠ 40 := ⟨hc, h40⟩
      have HF := hidd (fun W hW => fault34 zs (some ⟨b, 0, none⟩) cap kind 1 W hW (by omega) k0 k2 (by omega) (by omega))
      rw [show zs.length + 1 - 1 = zs.length by omega] at HF
      have HT := hidd (fun (h : FT zs kind = []) => cn_0 hcc h)
      have HN := hidd (fun (h : FT zs kind ≠ []) => cn_5 hcc h)
      have HI := hidd (head_nil (l := FT zs kind))
      obtain ⟨L, hL⟩ : ∃ L, L = headL (FT zs kind) := ⟨_, rfl⟩
      rw [show headL (fsL zs kind 1 zs.length) = L from hL.symm] at HF
      rw [← hL] at HI
      have hL3 : L.length ≤ 3 := by rw [hL]; exact headL_len _
      obtain ⟨K, rfl⟩ := Int.eq_ofNat_of_zero_le (show 0 ≤ k by omega)
      rw [Int.toNat_natCast] at HT
      have K3 : K ≤ 3 := by omega
      clear hc hp hL p4 hcc h40
      go_enter Try.func21, Try.ntmps21
      go_wp2_with (go_at_call 33; refine (code33 _ _ _ _ _ _ HSL.out hl).mono ?_; rintro e w' ⟨rfl, rfl⟩; rw [HC.out])
      refine (HF.out _ HSL.out).mono ?_
      rintro e w1 ⟨a1, c1, rfl, _, hb1⟩
      have R := hidd hb1
      clear hb1
      by_cases h0 : L.length = 0
      · have hq : decide (0 < L.length) = false := by rw [h0]; rfl
        have HEE := hidd (HT.out (HI.out.1 h0))
        clear h0
        go_wp2_with fail
        refine (next39 K zs kind b cap _ (HSL.out.below R.out (Nat.le_refl _)) p3 k0 k2 K3).mono ?_
        rintro e w2 ⟨a2, c2, rfl, o2, hb2⟩
        have R2 := hidd (And.intro (OwnL.bas o2 R.out.size) (R.out.trans (hb2.mono R.out.size)))
        clear o2 hb2
        go_wp2_with fail
        go_ret2
        rw [HEE.out.1, HEE.out.2]
        exact ⟨a2, c2, rfl, R2.out.1, R2.out.2⟩
      · have hq : 0 < L.length := by omega
        have HEE := hidd (HN.out (fun h => h0 (HI.out.2 h)))
        clear h0
        go_wp2_with fail
        go_ret2
        rw [HEE.out.1, HEE.out.2]
        exact lout_nil rfl R.out
end Go.Proofs.Ythmjmlmmbmdodaa
