/- ColouringOf: the program's own text. -/
import Derived.Test.YtjdniepheghpkaaColouringOf
namespace Go.Proofs.Ytjdniepheghpkaa
set_option linter.unusedVariables false
set_option linter.unusedSimpArgs false
open Go Go.RowKit Go.Shelf
theorem eix_eN {lo hi : Nat} (h : lo < hi) : eix (lo : Int) (hi : Int) = ((eN hi + lo : Nat) : Int) := by
  unfold eix
  rw [if_neg (by omega), Int.natCast_add, eN_edg]
theorem Below.drewN {B : Nat} {a w : World} (h : Below B a w) (n : Nat) : Below B a (w.drewN n) := ⟨h.1, h.2, h.3, h.4, h.5⟩
theorem SlI.drewN {w : World} {a : Option Addr} {zs : List Int} (h : SlI w a zs) (n : Nat) : SlI (w.drewN n) a zs := h
set_option maxRecDepth 100000 in
theorem rule53 (b0 : Nat) (zs : List Int) (a : Option Addr) (cap : Nat) (W : World) (hB : Blk W b0 #[.slice a zs.length cap] 29) (hs : SlI W a zs) (lo hi : Nat) (h1 : lo < hi) (h2 : hi ≤ 16) (h3 : eN hi + lo < zs.length) (hl : zs.length ≤ 136) :
    Calls Try.prog 53 #[.int .i64 (lo : Int), .int .i64 (hi : Int), .pointer (some ⟨b0, 0, none⟩)] W fun e W' => e = .returned (.int .i64 (zs.getD (eN hi + lo) 0)) ∧ Below W.heap.size W W' := by
  rcases hs with hz | ⟨b, off, ha, hc⟩
  · subst hz; simp at h3
  · subst ha
    have hcj := hc _ h3
    have HE := hidd (eix_eN h1)
    have c0 := hB.cell (j := 0) (show _ = some (Value.slice (some ⟨b, off, none⟩) zs.length cap) from rfl)
    obtain ⟨z, hz⟩ : ∃ z, z = zs.getD (eN hi + lo) 0 := ⟨_, rfl⟩
    obtain ⟨E, hE⟩ : ∃ E, E = eN hi + lo := ⟨_, rfl⟩
    rw [← hz] at hcj ⊢
    rw [← hE] at hcj HE h3
    have hE2 : (E : Int) ≤ 136 := by omega
    clear hc hz hE hB
    go_enter Try.func53, Try.ntmps53
    go_wp2_with fail
    go_quiet ((go_at_call 54; exact Calls.quiet_of_same ((edge54 (lo : Int) (hi : Int) _ (by omega) (by omega) (by omega) (by omega) (by omega)).mono fun _ _ h => ⟨by rw [h.1, HE.out], h.2.symm⟩)))
    go_wp2
    go_ret
    exact ⟨rfl, Below.drewN (Below.refl _ _) _⟩
/-- The rule of ColouringOf, wherever it is painted. -/
theorem ruleOf53 (N : Nat) (zs : List Int) (a : Option Addr) (cap : Nat) (w : World) (b0 : Nat) (hB : Blk w b0 #[.slice a zs.length cap] 29) (hs : SlI w a zs) (hN : N ≤ 17) (hl : zs.length = eN N) :
    Rule N 53 #[.pointer (some ⟨b0, 0, none⟩)] (fun lo hi => zs.getD (eN hi + lo) 0) w := by
  intro x W hb
  obtain ⟨hx1, hx2, hx3⟩ := x.2
  have hx := x.lt
  have h17 := eN_17 hN
  exact rule53 b0 zs a cap W (hB.below hb hB.lt) (hs.below hb (Nat.le_refl _)) x.1.2.1 x.1.2.2 hx2 (by omega) (by omega) (by omega)
theorem edg_rng {zs : List Int} {k : Int} {N : Nat} (h : allB zs k = true) (hk : k ≤ 4) (hl : zs.length = eN N) (x : Edg N) : 0 ≤ zs.getD (eN x.1.2.2 + x.1.2.1) 0 ∧ zs.getD (eN x.1.2.2 + x.1.2.1) 0 < 256 := by
  obtain ⟨hx1, hx2, hx3⟩ := x.2
  have hx := x.lt
  exact all_lt h hk _ (by omega)
set_option maxRecDepth 100000 in
set_option maxHeartbeats 2000000 in
theorem impl20 (n k : Int) (zs : List Int) (a : Option Addr) (cap : Nat) (w : World) (hs : SlI w a zs) (hl : zs.length ≤ 9223372036854775807) :
    Calls Try.prog 20 #[.int .i64 n, .int .i64 k, .slice a zs.length cap] w fun e w' => e = .returned (coOut n k zs) ∧ Below w.heap.size w w' := by
  have Hz := zero26
  have HZS := hidd size_z26
  have HZ1 := hidd (ccells_one 0 0 zbl)
  have hmk : ∀ w1, (w.alloc (.cells #[.slice a zs.length cap] 29)).alloc (.cells (ccells 0 0 zbl).toArray 26) = w1 →
      Blk w1 w.heap.size #[.slice a zs.length cap] 29 ∧ Blk w1 (w.heap.size + 1) (ccells 0 0 zbl).toArray 26 ∧ SlI w1 a zs ∧ Below w.heap.size w w1 := by
    rintro w1 rfl
    have hb := ((Below.refl w.heap.size w).alloc (Nat.le_refl _) (.cells #[.slice a zs.length cap] 29)).alloc (by simp) (.cells (ccells 0 0 zbl).toArray 26)
    exact ⟨(Blk.new _ _ _ _ rfl).alloc _, Blk.new _ _ _ _ (by simp), hs.below hb (Nat.le_refl _), hb⟩
  have HMK := hidd hmk
  clear hmk
  by_cases c1 : 1 ≤ n ∧ n ≤ 17 ∧ 1 ≤ k ∧ k ≤ 4
  · obtain ⟨n1, n2, k1, k2⟩ := c1
    have hsh := shape_mk n1 n2 k1 k2
    by_cases c3 : (zs.length : Int) = edg n
    · cases c4 : allB zs k with
      | true =>
        have H := hidd (coOut_good (n := n) (k := k) (zs := zs) ⟨hsh, c3, c4⟩)
        have H4 := hidd c4
        have hq : ((zs.length : Int) != edg n) = false := by simpa using c3
        obtain ⟨N, rfl⟩ := Int.eq_ofNat_of_zero_le (show 0 ≤ n by omega)
        have hlen := len_eN c3
        have HLEN := hidd hlen
        have HRG := hidd (edg_rng c4 k2 hlen)
        have HPB := hidd (putK_bys zbl_bys 0 (all_lt c4 k2) zs.length (Nat.le_refl _))
        have HPS := hidd (size_c26 (N : Int) k HPB.out)
        have HPO := hidd (size_cc 0 0 (N : Int) k zbl_bys HPB.out)
        have HPA := hidd (ccells_one (N : Int) k (putK zbl 0 zs zs.length))
        have HPL := hidd (show paintB N (fun lo hi => zs.getD (eN hi + lo) 0) = putK zbl 0 zs zs.length by rw [paint_list, hlen])
        clear c4 c3 hsh hlen hs
        go_enter Try.func20, Try.ntmps20
        go_wp2_with fail
        refine (shape47_yes _ _ _ n1 n2 k1 k2).mono ?_
        rintro e w1 ⟨rfl, hw1⟩
        have G := hidd (HMK.out _ hw1)
        have c5 := G.out.1.cell (j := 0) (show _ = some (Value.slice a zs.length cap) from rfl)
        clear hw1
        go_wp2_with fail
        go_quiet (first | (go_at_call 48; exact Calls.quiet_of_same ((edge48 _ _ n1 n2).mono fun _ _ h => ⟨h.1, h.2.symm⟩)) | (go_at_call 51; exact Calls.quiet_of_same ((all51 zs a cap k _ (SlI.drewN G.out.2.2.1 _) hl).mono fun _ _ h => ⟨by rw [h.1, H4.out], h.2.symm⟩)))
        go_wp2_with fail
        refine (paint52 N k 53 _ _ (w1.drewN nq) (by omega) (by omega) HRG.out (enters_of Try.func53 (by kernel_rfl) rfl) (ruleOf53 N zs a cap (w1.drewN nq) _ G.out.1 (SlI.drewN G.out.2.2.1 _) (by omega) HLEN.out)).mono ?_
        rintro e w2 ⟨rfl, hb2⟩
        rw [HPL.out]
        have b2 : Below w.heap.size w w2 := (Below.drewN G.out.2.2.2 nq).trans (hb2.mono G.out.2.2.2.size)
        have z2 : Blk w2 (w.heap.size + 1) (ccells 0 0 zbl).toArray 26 := Blk.below (w := w1.drewN nq) G.out.2.1 hb2 G.out.2.1.lt
        have R := hidd (And.intro z2 (And.intro (z2.rowSame (ccells (N : Int) k (putK zbl 0 zs zs.length)).toArray) (below_setRow b2 (g := w.heap.size + 1) (by omega) (ccells (N : Int) k (putK zbl 0 zs zs.length)).toArray)))
        clear hb2 b2 z2 c5
        go_wp2_with (refine wpList_store_row rfl 26 (.tmp 6) (.tmp 28) rfl (w.heap.size + 1) _ rfl rfl 26 _ R.out.1 HPS.out HPO.out HPA.out ?_)
        exact ret_col rfl HPB.out rfl R.out.2.1 rfl rfl ⟨by rw [H.out]; rfl, R.out.2.2⟩
      | false =>
        have H := hidd (coOut_bad (n := n) (k := k) (zs := zs) (fun h => by rw [c4] at h; exact absurd h.2.2 (by simp)))
        have H4 := hidd c4
        have hq : ((zs.length : Int) != edg n) = false := by simpa using c3
        clear c4 c3 hsh hs
        go_enter Try.func20, Try.ntmps20
        go_wp2_with fail
        refine (shape47_yes _ _ _ n1 n2 k1 k2).mono ?_
        rintro e w1 ⟨rfl, hw1⟩
        have G := hidd (HMK.out _ hw1)
        have c5 := G.out.1.cell (j := 0) (show _ = some (Value.slice a zs.length cap) from rfl)
        clear hw1
        go_wp2_with fail
        go_quiet (first | (go_at_call 48; exact Calls.quiet_of_same ((edge48 _ _ n1 n2).mono fun _ _ h => ⟨h.1, h.2.symm⟩)) | (go_at_call 51; exact Calls.quiet_of_same ((all51 zs a cap k _ (SlI.drewN G.out.2.2.1 _) hl).mono fun _ _ h => ⟨by rw [h.1, H4.out], h.2.symm⟩)))
        have R := hidd (show Blk (w1.drewN nq) (w.heap.size + 1) (ccells 0 0 zbl).toArray 26 ∧ Blk ((w1.drewN nq).setRow (w.heap.size + 1) (ccells 0 0 zbl).toArray) (w.heap.size + 1) (ccells 0 0 zbl).toArray 26 ∧ Below w.heap.size w ((w1.drewN nq).setRow (w.heap.size + 1) (ccells 0 0 zbl).toArray) from ⟨G.out.2.1, Blk.rowSame (w := w1.drewN nq) G.out.2.1 _, below_setRow (Below.drewN G.out.2.2.2 nq) (by omega) _⟩)
        clear c5
        go_wp2_with (first
          | (refine wpList_zero26 rfl rfl ?_)
          | (refine wpList_store_row rfl 26 (.tmp 6) (.tmp 24) rfl (w.heap.size + 1) _ rfl rfl 26 _ R.out.1 HZS.out rfl HZ1.out ?_))
        exact ret_col rfl zbl_bys rfl R.out.2.1 rfl rfl ⟨by rw [H.out]; rfl, R.out.2.2⟩
    · have H := hidd (coOut_bad (n := n) (k := k) (zs := zs) (fun h => c3 h.2.1))
      have hq : ((zs.length : Int) != edg n) = true := by rw [bne_iff_ne]; exact c3
      clear c3 hsh hs
      go_enter Try.func20, Try.ntmps20
      go_wp2_with fail
      refine (shape47_yes _ _ _ n1 n2 k1 k2).mono ?_
      rintro e w1 ⟨rfl, hw1⟩
      have G := hidd (HMK.out _ hw1)
      have c5 := G.out.1.cell (j := 0) (show _ = some (Value.slice a zs.length cap) from rfl)
      clear hw1
      go_wp2_with fail
      go_quiet ((go_at_call 48; exact Calls.quiet_of_same ((edge48 _ _ n1 n2).mono fun _ _ h => ⟨h.1, h.2.symm⟩)))
      have R := hidd (show Blk (w1.drewN nq) (w.heap.size + 1) (ccells 0 0 zbl).toArray 26 ∧ Blk ((w1.drewN nq).setRow (w.heap.size + 1) (ccells 0 0 zbl).toArray) (w.heap.size + 1) (ccells 0 0 zbl).toArray 26 ∧ Below w.heap.size w ((w1.drewN nq).setRow (w.heap.size + 1) (ccells 0 0 zbl).toArray) from ⟨G.out.2.1, Blk.rowSame (w := w1.drewN nq) G.out.2.1 _, below_setRow (Below.drewN G.out.2.2.2 nq) (by omega) _⟩)
      clear c5
      go_wp2_with (first
        | (refine wpList_zero26 rfl rfl ?_)
        | (refine wpList_store_row rfl 26 (.tmp 6) (.tmp 24) rfl (w.heap.size + 1) _ rfl rfl 26 _ R.out.1 HZS.out rfl HZ1.out ?_))
      exact ret_col rfl zbl_bys rfl R.out.2.1 rfl rfl ⟨by rw [H.out]; rfl, R.out.2.2⟩
  · have H := hidd (coOut_bad (n := n) (k := k) (zs := zs) (fun h => c1 (shape_bd h.1)))
    have c1' : n < 1 ∨ 17 < n ∨ k < 1 ∨ 4 < k := by omega
    clear c1 hs
    go_enter Try.func20, Try.ntmps20
    go_wp2_with fail
    refine (shape47_no _ _ _ c1').mono ?_
    rintro e w1 ⟨rfl, hw1⟩
    have G := hidd (HMK.out _ hw1)
    have R := hidd (And.intro G.out.2.1 (And.intro (G.out.2.1.rowSame (ccells 0 0 zbl).toArray) (below_setRow G.out.2.2.2 (g := w.heap.size + 1) (by omega) (ccells 0 0 zbl).toArray)))
    clear hw1 c1'
    go_wp2_with (first
      | (refine wpList_zero26 rfl rfl ?_)
      | (refine wpList_store_row rfl 26 (.tmp 6) (.tmp 12) rfl (w.heap.size + 1) _ rfl rfl 26 _ R.out.1 HZS.out rfl HZ1.out ?_))
    exact ret_col rfl zbl_bys rfl R.out.2.1 rfl rfl ⟨by rw [H.out]; rfl, R.out.2.2⟩
end Go.Proofs.Ytjdniepheghpkaa
