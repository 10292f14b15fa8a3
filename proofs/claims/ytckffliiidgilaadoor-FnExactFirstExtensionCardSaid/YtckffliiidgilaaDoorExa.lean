/- l05All: the model's list of extensions. -/
import Derived.Test.YtckffliiidgilaaDoorExs
namespace Go.Proofs.YtckffliiidgilaaDoor
set_option linter.unusedVariables false
set_option linter.unusedSimpArgs false
open Go Go.RowKit Go.Shelf
theorem exs83 (R N K : Nat) (bs : List Nat) (hb : Bys bs) (zs : List Int) (bl off cap : Nat) (n1 : 1 ≤ N) (hN12 : N ≤ 12) (hK1 : 1 ≤ K) (hK : K ≤ 4) (h2 : no1 zs K) (hsz : szP zs K = true) : ∀ r, r ≤ N → ExCall R bs N K zs bl off cap r
  | 0, _ => exs_leaf R N K bs hb zs bl off cap (by omega)
  | r + 1, h => exs_step R N K bs hb zs bl off cap n1 hN12 hK1 hK h2 hsz r h (exs83 R N K bs hb zs bl off cap n1 hN12 hK1 hK h2 hsz r (by omega))
theorem bgl_zero {w : World} {K : Nat} : BgL (w.alloc (.cells (zrow K) 2)) (some ⟨w.heap.size, 0, none⟩) (dgL K fun _ => 0) := by
  refine ⟨w.heap.size, zrow K, rfl, Blk.new _ _ _ _ rfl, ?_, fun j hj => ?_⟩
  · rw [dgL_len, zrow_size]; exact Nat.le_refl _
  · rw [dgL_len] at hj
    have h1 := icells_get (zs := dgL K fun _ => 0) (j := j) (by rw [dgL_len]; exact hj)
    rw [zrow_dg]
    simpa using h1
set_option maxRecDepth 100000 in
set_option maxHeartbeats 4000000 in
theorem all54 (N K M : Nat) (bs : List Nat) (hb : Bys bs) (zs : List Int) (a : Option Addr) (cap : Nat) (hl : zs.length = K) (n1 : 1 ≤ N) (hN12 : N ≤ 12) (hK1 : 1 ≤ K) (hK : K ≤ 4) (h2 : no1 zs K) (hsz : szP zs K = true) (hM1 : 1 ≤ M) (hM : M ≤ 1000) (w : World) (hs : SlI w a zs) :
    Calls Tryd.prog 54 #[.agg (ccells (N : Int) (K : Int) bs).toArray, .slice a K cap, .int .i64 (M : Int)] w fun e w' => ∃ v, e = .returned v ∧ LLb w.heap.size w' w.heap.size v ((exA bs N K zs).take M) ∧ Below w.heap.size w w' := by
  rcases hs with hz | ⟨bl, off, rfl, hc⟩
  · rw [hz] at hl; simp at hl; omega
  have HC := hidd (fun W (h : Below w.heap.size w W) j (hj : j < K) => (show W.cell? ⟨bl, off + j, none⟩ = some (.int .i64 (zs.getD j 0)) from cell_below (hc j (by omega)) h))
  have HEX := hidd (fun (gs css gb cb : Nat) W (h : Ex w.heap.size N K zs bl off gs gb (fun _ => 0) [] W) => exs83 w.heap.size N K bs hb zs bl off cap n1 hN12 hK1 hK h2 hsz N (Nat.le_refl _) (fun _ => 0) [] gs css gb cb M W h (fun _ _ => Nat.two_pow_pos _) (by simp) hM1 hM)
  rw [show exL (okx bs N zs) K N N (fun _ => 0) [] = exA bs N K zs from rfl, List.length_nil] at HEX
  obtain ⟨T, hT⟩ : ∃ T, T = (exA bs N K zs).take M := ⟨_, rfl⟩
  rw [← hT] at HEX ⊢
  have HS := hidd (size_c26 (N : Int) (K : Int) hb)
  have HSL := hidd (show (Tryd.prog.info? 28).map (·.size) = some (ccells (N : Int) (K : Int) bs).length from size_l28 _ _ hb)
  have HC1 := hidd (show (ccells (N : Int) (K : Int) bs).toArray[1]? = some (.int .i64 (K : Int)) from rfl)
  have HN1 := hidd h2
  have hmk2 := make29 K (by omega)
  have G := hidd (show Blk (w.alloc (.cells (ccells (N : Int) (K : Int) bs).toArray 28)) w.heap.size (ccells (N : Int) (K : Int) bs).toArray 28 ∧ Below w.heap.size w (w.alloc (.cells (ccells (N : Int) (K : Int) bs).toArray 28)) from
    ⟨Blk.new _ _ _ _ rfl, (Below.refl _ _).alloc (Nat.le_refl _) _⟩)
  obtain ⟨W2, hW2⟩ : ∃ W2, W2 = w.alloc (.cells (ccells (N : Int) (K : Int) bs).toArray 28) := ⟨_, rfl⟩
  rw [← hW2] at G
  have HRG := hidd (fun (W : World) (h : Blk W w.heap.size (ccells (N : Int) (K : Int) bs).toArray 28) => h.range 0 (ccells (N : Int) (K : Int) bs) (fun i v hv => by rw [Nat.zero_add]; simpa using hv))
  have HCX := hidd (fun (W : World) (h : Blk W w.heap.size (ccells (N : Int) (K : Int) bs).toArray 28) => h.cell HC1.out)
  have HSB := hidd (fun W (h : Below W2.heap.size W2 W) => (And.intro (G.out.1.below h G.out.1.lt) (G.out.2.trans (h.mono G.out.2.size))))
  clear hT h2 hsz hb hc hl
  go_enter Tryd.func54, Tryd.ntmps54
  go_upto_region 1 with fail
  rw [← hW2]
  clear hW2
  go_wp2_with fail
  go_loopw [7] (fun e wr => ∃ d : Nat, d ≤ K ∧ e = .int .i64 (d : Int) ∧ W2 = wr) (fun e _ => K - (intOf e).toNat)
  case atStart => exact ⟨0, Nat.zero_le _, rfl, rfl⟩
  case round =>
  obtain ⟨d, hd, rfl, hww⟩ := hrel
  obtain rfl : W2 = wr := hww
  by_cases hlt : d < K
  · have hltI : decide ((d : Int) < (K : Int)) = true := by simp; omega
    have cz := HC.out W2 G.out.2 d hlt
    obtain ⟨z, hz⟩ : ∃ z, z = zs.getD d 0 := ⟨_, rfl⟩
    have hne : (z == 1) = false := by rw [beq_eq_false_iff_ne, hz]; have := HN1.out d hlt; omega
    rw [← hz] at cz
    clear hz
    go_wp2_with fail
    go_roundw
    case rel => exact ⟨d + 1, by omega, by go_num, trivial⟩
    case measure => simp [intOf]; omega
  · have hltI : decide ((d : Int) < (K : Int)) = false := by simp; omega
    go_wp2_with fail
    refine wp_region_held_drew (S := (fun W => Blk W w.heap.size (ccells (N : Int) (K : Int) bs).toArray 28)) (by kernel_rfl) ?_ (fun hHeld => ?_)
    · exact G.out.1
    refine wpAnyH_take (i := 0) (oi := _) (v := _) rfl (by kernel_rfl) (by kernel_rfl) (by kernel_rfl) (fun _ _ _ h => h) (yieldsIf_load_mid (by rfl) _ _ rfl _ _ rfl _ _ (HRG.out) Tryd.underlying28 rfl (HSL.out)) (by assumption) ?_
    simp only [List.getElem_toArray, List.getElem_cons_succ, List.getElem_cons_zero, Act.put, List.setIfInBounds_toArray, List.set_cons_zero, List.set_cons_succ]
    refine wpAnyH_take (i := 1) (oi := _) (v := ?_) rfl (by kernel_rfl) (by kernel_rfl) (by kernel_rfl) (fun _ _ _ h => h) (Or.inl ⟨by rfl, ?_⟩) (by assumption) ?_
    rotate_left
    · intro wX hSw; (try dsimp only at hSw); go_simp; first | done | with_reducible rfl
    simp only [List.getElem_toArray, List.getElem_cons_succ, List.getElem_cons_zero, Act.put, List.setIfInBounds_toArray, List.set_cons_zero, List.set_cons_succ]
    refine wpAnyH_take (i := 3) (oi := _) (v := ?_) rfl (by kernel_rfl) (by kernel_rfl) (by kernel_rfl) (fun _ _ _ h => h) (Or.inl ⟨by rfl, ?_⟩) (by assumption) ?_
    rotate_left
    · intro wX hSw; (try dsimp only at hSw); go_simp; first | done | with_reducible rfl
    simp only [List.getElem_toArray, List.getElem_cons_succ, List.getElem_cons_zero, Act.put, List.setIfInBounds_toArray, List.set_cons_zero, List.set_cons_succ]
    refine wpAnyH_take (i := 4) (oi := _) (v := ?_) rfl (by kernel_rfl) (by kernel_rfl) (by kernel_rfl) (fun _ _ _ h => h) (Or.inl ⟨by rfl, ?_⟩) (by assumption) ?_
    rotate_left
    · intro wX hSw; have e1 := HCX.out wX hSw; go_simp; first | done | with_reducible rfl
    simp only [List.getElem_toArray, List.getElem_cons_succ, List.getElem_cons_zero, Act.put, List.setIfInBounds_toArray, List.set_cons_zero, List.set_cons_succ]
    refine wpAnyH_take (i := 6) (oi := _) (v := ?_) rfl (by kernel_rfl) (by kernel_rfl) (by kernel_rfl) (fun _ _ _ h => h) (Or.inl ⟨by rfl, ?_⟩) (by assumption) ?_
    rotate_left
    · intro wX hSw; (try dsimp only at hSw); go_simp; first | done | with_reducible rfl
    simp only [List.getElem_toArray, List.getElem_cons_succ, List.getElem_cons_zero, Act.put, List.setIfInBounds_toArray, List.set_cons_zero, List.set_cons_succ]
    refine wpAnyH_ready (rs := [2, 5]) (by kernel_rfl) (by simp) (AllReadyH.cons (o := _) rfl (fun KQ hKQ => ?_) (AllReadyH.cons (o := _) rfl (fun KQ hKQ => ?_) AllReadyH.nil))
    · go_simp
      have hb1 : Below W2.heap.size W2 (W2.drew.alloc (.cells #[] 2)) := ((Below.refl W2.heap.size W2).drew).alloc (Nat.le_refl _) _
      refine hKQ.out _ _ ?_ (fun hNext => ?_)
      · exact (HSB.out _ hb1).1
      clear hKQ KQ hHeld
      have hHeld := hNext
      clear hNext
      refine wpAnyH_ready (rs := [5]) (by kernel_rfl) (by simp) (AllReadyH.cons (o := _) rfl (fun KQ hKQ => ?_) AllReadyH.nil)
      go_simp
      have hb2 : Below W2.heap.size W2 ((W2.drew.alloc (.cells #[] 2)).alloc (.cells (zrow K) 2)) := hb1.alloc hb1.size _
      refine hKQ.out _ _ ?_ (fun hNext => ?_)
      · exact (HSB.out _ hb2).1
      clear hKQ KQ hHeld
      have hHeld := hNext
      clear hNext
      have hKX : Below W2.heap.size W2 ((W2.drew.alloc (.cells #[] 2)).alloc (.cells (zrow K) 2)) ∧ Ex w.heap.size N K zs bl off (W2.heap.size + 1) W2.heap.size (fun _ => 0) [] ((W2.drew.alloc (.cells #[] 2)).alloc (.cells (zrow K) 2)) := ⟨hb2, fun j hj => HC.out _ (HSB.out _ hb2).2 j hj, by have := bgl_zero (w := W2.drew.alloc (.cells #[] 2)) (K := K); simpa using this, .inl rfl, (HSB.out _ hb2).2.size⟩
      clear hb1 hb2
      have KX := hidd hKX
      clear hKX
      refine wpAnyH_ready (rs := [7]) (by kernel_rfl) (by simp) (AllReadyH.cons (o := _) rfl (fun KQ hKQ => ?_) AllReadyH.nil)
      go_simp
      refine (HEX.out _ K _ 0 _ KX.out.2).mono ?_
      rintro e w4 ⟨v4, rfl, hL4, hb4⟩
      have H4 := hidd (show LLb w.heap.size w4 w.heap.size v4 T ∧ Below w.heap.size w w4 from ⟨hL4.base (HSB.out _ KX.out.1).2.size, (HSB.out _ KX.out.1).2.trans (hb4.mono (HSB.out _ KX.out.1).2.size)⟩)
      have hk4 := (HSB.out _ KX.out.1).1.below hb4 (HSB.out _ KX.out.1).1.lt
      clear hL4 hb4
      go_wp2_with fail
      refine hKQ.out _ _ ?_ (fun hNext => ?_)
      · exact hk4
      clear hKQ KQ hHeld
      have hHeld := hNext
      clear hNext
      clear hk4
      refine wpAnyH_ready (rs := [8]) (by kernel_rfl) (by simp) (AllReadyH.cons (o := _) rfl (fun KQ hKQ => ?_) AllReadyH.nil)
      go_simp
      refine hKQ.out _ _ ?_ (fun hNext => ?_)
      · exact hHeld
      clear hKQ KQ hHeld
      refine wpAnyH_done (by kernel_rfl) ?_ _
      clear hNext
      go_wp2_with fail
      go_ret
      exact ⟨_, rfl, H4.out⟩
    · go_simp
      have hb1 : Below W2.heap.size W2 (W2.drew.alloc (.cells (zrow K) 2)) := ((Below.refl W2.heap.size W2).drew).alloc (Nat.le_refl _) _
      refine hKQ.out _ _ ?_ (fun hNext => ?_)
      · exact (HSB.out _ hb1).1
      clear hKQ KQ hHeld
      have hHeld := hNext
      clear hNext
      refine wpAnyH_ready (rs := [2]) (by kernel_rfl) (by simp) (AllReadyH.cons (o := _) rfl (fun KQ hKQ => ?_) AllReadyH.nil)
      go_simp
      have hb2 : Below W2.heap.size W2 ((W2.drew.alloc (.cells (zrow K) 2)).alloc (.cells #[] 2)) := hb1.alloc hb1.size _
      refine hKQ.out _ _ ?_ (fun hNext => ?_)
      · exact (HSB.out _ hb2).1
      clear hKQ KQ hHeld
      have hHeld := hNext
      clear hNext
      have hKX : Below W2.heap.size W2 ((W2.drew.alloc (.cells (zrow K) 2)).alloc (.cells #[] 2)) ∧ Ex w.heap.size N K zs bl off W2.heap.size (W2.heap.size + 1) (fun _ => 0) [] ((W2.drew.alloc (.cells (zrow K) 2)).alloc (.cells #[] 2)) := ⟨hb2, fun j hj => HC.out _ (HSB.out _ hb2).2 j hj, (bgl_zero (w := W2.drew) (K := K)).below ((Below.refl _ _).alloc (Nat.le_refl _) _) (Nat.le_refl _), .inl rfl, (HSB.out _ hb2).2.size⟩
      clear hb1 hb2
      have KX := hidd hKX
      clear hKX
      refine wpAnyH_ready (rs := [7]) (by kernel_rfl) (by simp) (AllReadyH.cons (o := _) rfl (fun KQ hKQ => ?_) AllReadyH.nil)
      go_simp
      refine (HEX.out _ K _ 0 _ KX.out.2).mono ?_
      rintro e w4 ⟨v4, rfl, hL4, hb4⟩
      have H4 := hidd (show LLb w.heap.size w4 w.heap.size v4 T ∧ Below w.heap.size w w4 from ⟨hL4.base (HSB.out _ KX.out.1).2.size, (HSB.out _ KX.out.1).2.trans (hb4.mono (HSB.out _ KX.out.1).2.size)⟩)
      have hk4 := (HSB.out _ KX.out.1).1.below hb4 (HSB.out _ KX.out.1).1.lt
      clear hL4 hb4
      go_wp2_with fail
      refine hKQ.out _ _ ?_ (fun hNext => ?_)
      · exact hk4
      clear hKQ KQ hHeld
      have hHeld := hNext
      clear hNext
      clear hk4
      refine wpAnyH_ready (rs := [8]) (by kernel_rfl) (by simp) (AllReadyH.cons (o := _) rfl (fun KQ hKQ => ?_) AllReadyH.nil)
      go_simp
      refine hKQ.out _ _ ?_ (fun hNext => ?_)
      · exact hHeld
      clear hKQ KQ hHeld
      refine wpAnyH_done (by kernel_rfl) ?_ _
      clear hNext
      go_wp2_with fail
      go_ret
      exact ⟨_, rfl, H4.out⟩
end Go.Proofs.YtckffliiidgilaaDoor
