/- l02List: the cliques of m points, in order, but not more than told. -/
import Derived.Test.YtldlobpjmiacgaaGo
import Derived.Test.YtldlobpjmiacgaaCtSp
namespace Go.Proofs.Ytldlobpjmiacgaa
set_option linter.unusedVariables false
set_option linter.unusedSimpArgs false
open Go Go.RowKit Go.Shelf
theorem rwN_irr (bs : List Nat) (c : Int) (N : Nat) : ∀ q, (rwN bs c N q).testBit q = false := fun q => by
  unfold rwN nbB
  rw [arK_bit]; simp
theorem frB_full (R : Nat → Nat) (N : Nat) : frB R N [] N = 2 ^ N - 1 := by
  apply Nat.eq_of_testBit_eq
  intro q
  rw [Nat.testBit_two_pow_sub_one]
  by_cases h : q < N
  · rw [frB_bit h]; simp [h, fitR]
  · unfold frB; rw [arK_high (by omega)]; simp [h]
/-- The cliques of m points of a colour, as lists. -/
def clqL (bs : List Nat) (c : Int) (N m : Nat) : List (List Int) := cqH (rwN bs c N) N m N []
theorem blk_ne28 {W : World} {a b : Nat} {C D : Array Value} (h : Blk W a C 28) (k : Blk W b D 25) : a ≠ b := fun e => by
  subst e
  unfold Blk at h k
  rw [h] at k
  cases k
theorem bg_empty {w : World} {b : Nat} (h : Blk w b #[] 2) : BgL w (some ⟨b, 0, none⟩) (rv []) := ⟨b, #[], rfl, h, by simp [rv], fun j hj => by simp [rv] at hj⟩
theorem ll_empty {w : World} {b : Nat} (h : Blk w b #[] 25) : LL w (.slice (some ⟨b, 0, none⟩) 0 0) [] := ⟨[], ⟨rfl, .inr ⟨b, 0, #[], rfl, Nat.zero_le _, h, Nat.le_refl _, by simp [maxLen], rfl, rfl⟩⟩, fun i zs h => by simp at h⟩
set_option maxRecDepth 100000 in
set_option maxHeartbeats 8000000 in
theorem list45 (N : Nat) (k : Int) (bs : List Nat) (hb : Bys bs) (c : Int) (m most : Nat) (n1 : 1 ≤ N) (hN17 : N ≤ 17) (hm : m ≤ 18) (hm1 : 1 ≤ most) (hm2 : most ≤ 1000) (w : World) :
    Calls Try.prog 15 #[.agg (ccells (N : Int) k bs).toArray, .int .i64 c, .int .i64 (m : Int), .int .i64 (most : Int)] w fun e w' => ∃ a' c', e = .returned (.slice a' ((clqL bs c N m).take most).length c') ∧ LL w' (.slice a' ((clqL bs c N m).take most).length c') ((clqL bs c N m).take most) ∧ Below w.heap.size w w' := by
  have HS := hidd (size_c26 (N : Int) k hb)
  have HC0 := hidd (show (ccells (N : Int) k bs).toArray[0]? = some (.int .i64 (N : Int)) from rfl)
  obtain ⟨FU, hFU⟩ : ∃ FU, FU = 2 ^ N - 1 := ⟨_, rfl⟩
  have hFU17 : FU < 2 ^ 17 := by rw [hFU]; have : 2 ^ N ≤ 2 ^ 17 := Nat.pow_le_pow_right (by omega) hN17; have : 1 ≤ 2 ^ N := Nat.one_le_two_pow; omega
  have hu : IntKind.u64.wrap (N : Int) = (N : Int) := by unfold IntKind.wrap; simp [IntKind.signed, IntKind.bits]; omega
  have hmn : min N 64 = N := by omega
  obtain ⟨Y, hY⟩ : ∃ Y : Nat, Y = 2 ^ N := ⟨_, rfl⟩
  have hY17 : Y ≤ 2 ^ 17 := by rw [hY]; exact Nat.pow_le_pow_right (by omega) hN17
  have hY1 : 1 ≤ Y := by rw [hY]; exact Nat.one_le_two_pow
  have hsh : IntKind.i64.wrap (2 ^ N) = (Y : Int) := by rw [show (2 : Int) ^ N = ((2 ^ N : Nat) : Int) by simp, ← hY]; exact IntWalk.i64_in _ (by omega)
  have hfu : IntKind.i64.wrap ((Y : Int) - 1) = (FU : Int) := by rw [IntWalk.i64_in _ (by omega), hFU, ← hY]; omega
  have HRO := hidd (fun W => rows74 N k bs hb c n1 hN17 W)
  have HCB := hidd (fun W (h : Blk W w.heap.size (ccells (N : Int) k bs).toArray 28) => (And.intro h (h.cell HC0.out) : Blk W w.heap.size (ccells (N : Int) k bs).toArray 28 ∧ W.cell? ⟨w.heap.size, 0, none⟩ = some (.int .i64 (N : Int))))
  have HRG := hidd (fun W (h : Blk W w.heap.size (ccells (N : Int) k bs).toArray 28 ∧ W.cell? ⟨w.heap.size, 0, none⟩ = some (.int .i64 (N : Int))) => h.1.range 0 (ccells (N : Int) k bs) (fun j v hj => by simpa using hj))
  have HSZ := hidd (show (Try.prog.info? 28).map (·.size) = some (ccells (N : Int) k bs).length by rw [HS.out]; simp)
  have HGO := hidd (fun (a : Option Addr) (cap : Nat) (W : World) (b3 b10 : Nat) (hA : BgL W a (fillA (rowF N bs c) N)) (h3 : Blk W b3 #[] 2) (h10 : Blk W b10 #[] 25) =>
    (show Calls Try.prog 19 #[.slice a N cap, .slice (some ⟨b3, 0, none⟩) 0 0, .int .i64 (FU : Int), .int .i64 (m : Int), .slice (some ⟨b10, 0, none⟩) 0 0, .int .i64 (most : Int)] W fun e w' => ∃ a' c', e = .returned (.slice a' ((clqL bs c N m).take most).length c') ∧ LL w' (.slice a' ((clqL bs c N m).take most).length c') ((clqL bs c N m).take most) ∧ Fr W w' (.slice (some ⟨b10, 0, none⟩) 0 0) (.slice a' ((clqL bs c N m).take most).length c') by
      have h := go56 N hN17 (rwN bs c N) (rwN_irr bs c N) _ (rows_rws hN17 bs c) a cap m hm most hm1 hm2 m [] N (by simp) (Nat.le_refl _) W (some ⟨b3, 0, none⟩) 0 (some ⟨b10, 0, none⟩) 0 [] hA (bg_empty h3) (ll_empty h10) (by simp; omega)
      rw [frB_full, ← hFU] at h
      exact h))
  have HNZ := hidd (show fillA (rowF N bs c) N ≠ [] from fun e => by have := fillA_len (rowF N bs c) N; rw [e] at this; simp at this; omega)
  clear hFU hY
  go_enter Try.func15, Try.ntmps15
  go_wp2_with fail
  obtain ⟨W0, hW0⟩ : ∃ W0, W0 = w.alloc (.cells (ccells (N : Int) k bs).toArray 28) := ⟨_, rfl⟩
  have hB0 : Blk W0 w.heap.size (ccells (N : Int) k bs).toArray 28 ∧ Below w.heap.size w W0 := by rw [hW0]; exact ⟨Blk.new _ _ _ _ rfl, (Below.refl _ _).alloc (Nat.le_refl _) _⟩
  have H0 := hidd hB0
  rw [← hW0]
  clear hB0 hW0
  refine wp_region_held_drew (S := (fun W => Blk W w.heap.size (ccells (N : Int) k bs).toArray 28 ∧ W.cell? ⟨w.heap.size, 0, none⟩ = some (.int .i64 (N : Int)))) (by kernel_rfl) ?_ (fun hHeld => ?_)
  · exact HCB.out _ H0.out.1
  refine wpAnyH_take (i := 0) (oi := _) (v := _) rfl (by kernel_rfl) (by kernel_rfl) (by kernel_rfl) (fun _ _ _ h => h) (yieldsIf_load_mid (by rfl) _ _ rfl _ _ rfl _ _ (HRG.out) Try.underlying28 rfl (HSZ.out)) (by assumption) ?_
  simp only [List.getElem_toArray, List.getElem_cons_succ, List.getElem_cons_zero, Act.put, List.setIfInBounds_toArray, List.set_cons_zero, List.set_cons_succ]
  refine wpAnyH_take (i := 1) (oi := _) (v := ?_) rfl (by kernel_rfl) (by kernel_rfl) (by kernel_rfl) (fun _ _ _ h => h) (Or.inl ⟨by rfl, ?_⟩) (by assumption) ?_
  rotate_left
  · intro wX hSw; (try dsimp only at hSw); go_simp; first | done | with_reducible rfl
  simp only [List.getElem_toArray, List.getElem_cons_succ, List.getElem_cons_zero, Act.put, List.setIfInBounds_toArray, List.set_cons_zero, List.set_cons_succ]
  refine wpAnyH_take (i := 4) (oi := _) (v := ?_) rfl (by kernel_rfl) (by kernel_rfl) (by kernel_rfl) (fun _ _ _ h => h) (Or.inl ⟨by rfl, ?_⟩) (by assumption) ?_
  rotate_left
  · intro wX hSw; (try dsimp only at hSw); go_simp; first | done | with_reducible rfl
  simp only [List.getElem_toArray, List.getElem_cons_succ, List.getElem_cons_zero, Act.put, List.setIfInBounds_toArray, List.set_cons_zero, List.set_cons_succ]
  refine wpAnyH_take (i := 5) (oi := _) (v := ?_) rfl (by kernel_rfl) (by kernel_rfl) (by kernel_rfl) (fun _ _ _ h => h) (Or.inl ⟨by rfl, ?_⟩) (by assumption) ?_
  rotate_left
  · intro wX hSw; (try dsimp only at hSw); go_simp; first | done | with_reducible rfl
  simp only [List.getElem_toArray, List.getElem_cons_succ, List.getElem_cons_zero, Act.put, List.setIfInBounds_toArray, List.set_cons_zero, List.set_cons_succ]
  refine wpAnyH_take (i := 6) (oi := _) (v := ?_) rfl (by kernel_rfl) (by kernel_rfl) (by kernel_rfl) (fun _ _ _ h => h) (Or.inl ⟨by rfl, ?_⟩) (by assumption) ?_
  rotate_left
  · intro wX hSw; (try dsimp only at hSw); go_simp; first | done | with_reducible rfl
  simp only [List.getElem_toArray, List.getElem_cons_succ, List.getElem_cons_zero, Act.put, List.setIfInBounds_toArray, List.set_cons_zero, List.set_cons_succ]
  refine wpAnyH_take (i := 7) (oi := _) (v := ?_) rfl (by kernel_rfl) (by kernel_rfl) (by kernel_rfl) (fun _ _ _ h => h) (Or.inl ⟨by rfl, ?_⟩) (by assumption) ?_
  rotate_left
  · intro wX hSw; (try dsimp only at hSw); go_simp; first | done | with_reducible rfl
  simp only [List.getElem_toArray, List.getElem_cons_succ, List.getElem_cons_zero, Act.put, List.setIfInBounds_toArray, List.set_cons_zero, List.set_cons_succ]
  refine wpAnyH_take (i := 8) (oi := _) (v := ?_) rfl (by kernel_rfl) (by kernel_rfl) (by kernel_rfl) (fun _ _ _ h => h) (Or.inl ⟨by rfl, ?_⟩) (by assumption) ?_
  rotate_left
  · intro wX hSw; (try dsimp only at hSw); go_simp; first | done | with_reducible rfl
  simp only [List.getElem_toArray, List.getElem_cons_succ, List.getElem_cons_zero, Act.put, List.setIfInBounds_toArray, List.set_cons_zero, List.set_cons_succ]
  refine wpAnyH_take (i := 9) (oi := _) (v := ?_) rfl (by kernel_rfl) (by kernel_rfl) (by kernel_rfl) (fun _ _ _ h => h) (Or.inl ⟨by rfl, ?_⟩) (by assumption) ?_
  rotate_left
  · intro wX hSw; (try dsimp only at hSw); go_simp; first | done | with_reducible rfl
  simp only [List.getElem_toArray, List.getElem_cons_succ, List.getElem_cons_zero, Act.put, List.setIfInBounds_toArray, List.set_cons_zero, List.set_cons_succ]
  refine wpAnyH_take (i := 11) (oi := _) (v := ?_) rfl (by kernel_rfl) (by kernel_rfl) (by kernel_rfl) (fun _ _ _ h => h) (Or.inl ⟨by rfl, ?_⟩) (by assumption) ?_
  rotate_left
  · intro wX hSw; (try dsimp only at hSw); go_simp; first | done | with_reducible rfl
  simp only [List.getElem_toArray, List.getElem_cons_succ, List.getElem_cons_zero, Act.put, List.setIfInBounds_toArray, List.set_cons_zero, List.set_cons_succ]
  obtain ⟨V0, hV0⟩ : ∃ V0, V0 = W0.drew := ⟨_, rfl⟩
  rw [← hV0] at hHeld ⊢
  have G0 := hidd (show Blk V0 w.heap.size (ccells (N : Int) k bs).toArray 28 ∧ Below w.heap.size w V0 from by rw [hV0]; exact ⟨H0.out.1.drew, H0.out.2.drew⟩)
  clear hV0
  refine wpAnyH_ready (rs := [2, 3, 10]) (by kernel_rfl) (by simp) (AllReadyH.cons (o := _) rfl (fun KQ hKQ => ?_) (AllReadyH.cons (o := _) rfl (fun KQ hKQ => ?_) (AllReadyH.cons (o := _) rfl (fun KQ hKQ => ?_) AllReadyH.nil)))
  · go_simp
    refine (HRO.out _).mono ?_
    rintro e V1 ⟨aX, capX, rfl, hoX, hbX⟩
    have G1 := hidd (show Blk V1 w.heap.size (ccells (N : Int) k bs).toArray 28 ∧ Below w.heap.size w V1 from ⟨G0.out.1.below hbX G0.out.1.lt, G0.out.2.trans (hbX.mono G0.out.2.size)⟩)
    have F2 := hidd (BgL.ofOwn hoX HNZ.out)
    clear hoX hbX
    go_wp2_with fail
    refine hKQ.out _ _ ?_ (fun hNext => ?_)
    · exact HCB.out _ G1.out.1
    clear hKQ KQ hHeld
    have hHeld := hNext
    clear hNext
    refine wpAnyH_ready (rs := [3, 10]) (by kernel_rfl) (by simp) (AllReadyH.cons (o := _) rfl (fun KQ hKQ => ?_) (AllReadyH.cons (o := _) rfl (fun KQ hKQ => ?_) AllReadyH.nil))
    · go_simp
      refine hKQ.out _ _ ?_ (fun hNext => ?_)
      · exact HCB.out _ (G1.out.1.alloc _)
      clear hKQ KQ hHeld
      have hHeld := hNext
      clear hNext
      obtain ⟨V2, hV2⟩ : ∃ V2, V2 = V1.alloc (.cells #[] 2) := ⟨_, rfl⟩
      rw [← hV2] at hHeld ⊢
      have G2 := hidd (show Blk V2 w.heap.size (ccells (N : Int) k bs).toArray 28 ∧ Below w.heap.size w V2 from by rw [hV2]; exact ⟨G1.out.1.alloc _, G1.out.2.alloc G1.out.2.size _⟩)
      have F2 := hidd (F2.out.below ((Below.refl V1.heap.size V1).alloc (Nat.le_refl _) (.cells #[] 2)) (Nat.le_refl _))
      rw [← hV2] at F2
      have F3 := hidd (show Blk V2 V1.heap.size #[] 2 from by rw [hV2]; exact Blk.new _ _ _ _ rfl)
      clear hV2
      refine wpAnyH_ready (rs := [10]) (by kernel_rfl) (by simp) (AllReadyH.cons (o := _) rfl (fun KQ hKQ => ?_) AllReadyH.nil)
      · go_simp
        refine hKQ.out _ _ ?_ (fun hNext => ?_)
        · exact HCB.out _ (G2.out.1.alloc _)
        clear hKQ KQ hHeld
        have hHeld := hNext
        clear hNext
        obtain ⟨V3, hV2⟩ : ∃ V3, V3 = V2.alloc (.cells #[] 25) := ⟨_, rfl⟩
        rw [← hV2] at hHeld ⊢
        have G3 := hidd (show Blk V3 w.heap.size (ccells (N : Int) k bs).toArray 28 ∧ Below w.heap.size w V3 from by rw [hV2]; exact ⟨G2.out.1.alloc _, G2.out.2.alloc G2.out.2.size _⟩)
        have F2 := hidd (F2.out.below ((Below.refl V2.heap.size V2).alloc (Nat.le_refl _) (.cells #[] 25)) (Nat.le_refl _))
        rw [← hV2] at F2
        have F3 := hidd (F3.out.alloc (.cells #[] 25))
        rw [← hV2] at F3
        have F10 := hidd (show Blk V3 V2.heap.size #[] 25 ∧ w.heap.size ≤ V2.heap.size from by rw [hV2]; exact ⟨Blk.new _ _ _ _ rfl, G2.out.2.size⟩)
        clear hV2
        refine wpAnyH_ready (rs := [12]) (by kernel_rfl) (by simp) (AllReadyH.cons (o := _) rfl (fun KQ hKQ => ?_) AllReadyH.nil)
        go_simp
        refine (HGO.out _ _ _ _ _ F2.out F3.out F10.out.1).mono ?_
        rintro e W4 ⟨a4, c4, rfl, hL4, hF4⟩
        have hb10 := F10.out.2
        have hbZ : Below w.heap.size w W4 := G3.out.2.grown hF4.1 G3.out.2.size (fun r hr => by cases hr; exact hb10)
        have hbC : Blk W4 w.heap.size (ccells (N : Int) k bs).toArray 28 := (hF4.1.block _ G3.out.1.lt (fun e => blk_ne28 G3.out.1 F10.out.1 (Option.some.inj e))).trans G3.out.1
        have K := hidd (And.intro hL4 (And.intro hbZ hbC))
        clear hL4 hF4 hbZ hbC
        go_wp2_with fail
        refine hKQ.out _ _ ?_ (fun hNext => ?_)
        · exact HCB.out _ K.out.2.2
        clear hKQ KQ hHeld
        have hHeld := hNext
        clear hNext
        refine wpAnyH_ready (rs := [13]) (by kernel_rfl) (by simp) (AllReadyH.cons (o := _) rfl (fun KQ hKQ => ?_) AllReadyH.nil)
        go_simp
        refine hKQ.out _ _ ?_ (fun hNext => ?_)
        · exact hHeld
        clear hKQ KQ hHeld
        refine wpAnyH_done (by kernel_rfl) ?_ _
        clear hNext
        go_wp2_with fail
        go_ret
        exact ⟨a4, c4, by first | rfl | (rw [List.length_take]; rfl), K.out.1, K.out.2.1⟩
    · go_simp
      refine hKQ.out _ _ ?_ (fun hNext => ?_)
      · exact HCB.out _ (G1.out.1.alloc _)
      clear hKQ KQ hHeld
      have hHeld := hNext
      clear hNext
      obtain ⟨V4, hV2⟩ : ∃ V4, V4 = V1.alloc (.cells #[] 25) := ⟨_, rfl⟩
      rw [← hV2] at hHeld ⊢
      have G4 := hidd (show Blk V4 w.heap.size (ccells (N : Int) k bs).toArray 28 ∧ Below w.heap.size w V4 from by rw [hV2]; exact ⟨G1.out.1.alloc _, G1.out.2.alloc G1.out.2.size _⟩)
      have F2 := hidd (F2.out.below ((Below.refl V1.heap.size V1).alloc (Nat.le_refl _) (.cells #[] 25)) (Nat.le_refl _))
      rw [← hV2] at F2
      have F10 := hidd (show Blk V4 V1.heap.size #[] 25 ∧ w.heap.size ≤ V1.heap.size from by rw [hV2]; exact ⟨Blk.new _ _ _ _ rfl, G1.out.2.size⟩)
      clear hV2
      refine wpAnyH_ready (rs := [3]) (by kernel_rfl) (by simp) (AllReadyH.cons (o := _) rfl (fun KQ hKQ => ?_) AllReadyH.nil)
      · go_simp
        refine hKQ.out _ _ ?_ (fun hNext => ?_)
        · exact HCB.out _ (G4.out.1.alloc _)
        clear hKQ KQ hHeld
        have hHeld := hNext
        clear hNext
        obtain ⟨V5, hV2⟩ : ∃ V5, V5 = V4.alloc (.cells #[] 2) := ⟨_, rfl⟩
        rw [← hV2] at hHeld ⊢
        have G5 := hidd (show Blk V5 w.heap.size (ccells (N : Int) k bs).toArray 28 ∧ Below w.heap.size w V5 from by rw [hV2]; exact ⟨G4.out.1.alloc _, G4.out.2.alloc G4.out.2.size _⟩)
        have F2 := hidd (F2.out.below ((Below.refl V4.heap.size V4).alloc (Nat.le_refl _) (.cells #[] 2)) (Nat.le_refl _))
        rw [← hV2] at F2
        have F10 := hidd (And.intro (F10.out.1.alloc (.cells #[] 2)) F10.out.2)
        rw [← hV2] at F10
        have F3 := hidd (show Blk V5 V4.heap.size #[] 2 from by rw [hV2]; exact Blk.new _ _ _ _ rfl)
        clear hV2
        refine wpAnyH_ready (rs := [12]) (by kernel_rfl) (by simp) (AllReadyH.cons (o := _) rfl (fun KQ hKQ => ?_) AllReadyH.nil)
        go_simp
        refine (HGO.out _ _ _ _ _ F2.out F3.out F10.out.1).mono ?_
        rintro e W4 ⟨a4, c4, rfl, hL4, hF4⟩
        have hb10 := F10.out.2
        have hbZ : Below w.heap.size w W4 := G5.out.2.grown hF4.1 G5.out.2.size (fun r hr => by cases hr; exact hb10)
        have hbC : Blk W4 w.heap.size (ccells (N : Int) k bs).toArray 28 := (hF4.1.block _ G5.out.1.lt (fun e => blk_ne28 G5.out.1 F10.out.1 (Option.some.inj e))).trans G5.out.1
        have K := hidd (And.intro hL4 (And.intro hbZ hbC))
        clear hL4 hF4 hbZ hbC
        go_wp2_with fail
        refine hKQ.out _ _ ?_ (fun hNext => ?_)
        · exact HCB.out _ K.out.2.2
        clear hKQ KQ hHeld
        have hHeld := hNext
        clear hNext
        refine wpAnyH_ready (rs := [13]) (by kernel_rfl) (by simp) (AllReadyH.cons (o := _) rfl (fun KQ hKQ => ?_) AllReadyH.nil)
        go_simp
        refine hKQ.out _ _ ?_ (fun hNext => ?_)
        · exact hHeld
        clear hKQ KQ hHeld
        refine wpAnyH_done (by kernel_rfl) ?_ _
        clear hNext
        go_wp2_with fail
        go_ret
        exact ⟨a4, c4, by first | rfl | (rw [List.length_take]; rfl), K.out.1, K.out.2.1⟩
  · go_simp
    refine hKQ.out _ _ ?_ (fun hNext => ?_)
    · exact HCB.out _ (G0.out.1.alloc _)
    clear hKQ KQ hHeld
    have hHeld := hNext
    clear hNext
    obtain ⟨V6, hV2⟩ : ∃ V6, V6 = V0.alloc (.cells #[] 2) := ⟨_, rfl⟩
    rw [← hV2] at hHeld ⊢
    have G6 := hidd (show Blk V6 w.heap.size (ccells (N : Int) k bs).toArray 28 ∧ Below w.heap.size w V6 from by rw [hV2]; exact ⟨G0.out.1.alloc _, G0.out.2.alloc G0.out.2.size _⟩)
    have F3 := hidd (show Blk V6 V0.heap.size #[] 2 from by rw [hV2]; exact Blk.new _ _ _ _ rfl)
    clear hV2
    refine wpAnyH_ready (rs := [2, 10]) (by kernel_rfl) (by simp) (AllReadyH.cons (o := _) rfl (fun KQ hKQ => ?_) (AllReadyH.cons (o := _) rfl (fun KQ hKQ => ?_) AllReadyH.nil))
    · go_simp
      refine (HRO.out _).mono ?_
      rintro e V7 ⟨aX, capX, rfl, hoX, hbX⟩
      have G7 := hidd (show Blk V7 w.heap.size (ccells (N : Int) k bs).toArray 28 ∧ Below w.heap.size w V7 from ⟨G6.out.1.below hbX G6.out.1.lt, G6.out.2.trans (hbX.mono G6.out.2.size)⟩)
      have F2 := hidd (BgL.ofOwn hoX HNZ.out)
      have F3 := hidd (F3.out.below hbX F3.out.lt)
      clear hoX hbX
      go_wp2_with fail
      refine hKQ.out _ _ ?_ (fun hNext => ?_)
      · exact HCB.out _ G7.out.1
      clear hKQ KQ hHeld
      have hHeld := hNext
      clear hNext
      refine wpAnyH_ready (rs := [10]) (by kernel_rfl) (by simp) (AllReadyH.cons (o := _) rfl (fun KQ hKQ => ?_) AllReadyH.nil)
      · go_simp
        refine hKQ.out _ _ ?_ (fun hNext => ?_)
        · exact HCB.out _ (G7.out.1.alloc _)
        clear hKQ KQ hHeld
        have hHeld := hNext
        clear hNext
        obtain ⟨V8, hV2⟩ : ∃ V8, V8 = V7.alloc (.cells #[] 25) := ⟨_, rfl⟩
        rw [← hV2] at hHeld ⊢
        have G8 := hidd (show Blk V8 w.heap.size (ccells (N : Int) k bs).toArray 28 ∧ Below w.heap.size w V8 from by rw [hV2]; exact ⟨G7.out.1.alloc _, G7.out.2.alloc G7.out.2.size _⟩)
        have F2 := hidd (F2.out.below ((Below.refl V7.heap.size V7).alloc (Nat.le_refl _) (.cells #[] 25)) (Nat.le_refl _))
        rw [← hV2] at F2
        have F3 := hidd (F3.out.alloc (.cells #[] 25))
        rw [← hV2] at F3
        have F10 := hidd (show Blk V8 V7.heap.size #[] 25 ∧ w.heap.size ≤ V7.heap.size from by rw [hV2]; exact ⟨Blk.new _ _ _ _ rfl, G7.out.2.size⟩)
        clear hV2
        refine wpAnyH_ready (rs := [12]) (by kernel_rfl) (by simp) (AllReadyH.cons (o := _) rfl (fun KQ hKQ => ?_) AllReadyH.nil)
        go_simp
        refine (HGO.out _ _ _ _ _ F2.out F3.out F10.out.1).mono ?_
        rintro e W4 ⟨a4, c4, rfl, hL4, hF4⟩
        have hb10 := F10.out.2
        have hbZ : Below w.heap.size w W4 := G8.out.2.grown hF4.1 G8.out.2.size (fun r hr => by cases hr; exact hb10)
        have hbC : Blk W4 w.heap.size (ccells (N : Int) k bs).toArray 28 := (hF4.1.block _ G8.out.1.lt (fun e => blk_ne28 G8.out.1 F10.out.1 (Option.some.inj e))).trans G8.out.1
        have K := hidd (And.intro hL4 (And.intro hbZ hbC))
        clear hL4 hF4 hbZ hbC
        go_wp2_with fail
        refine hKQ.out _ _ ?_ (fun hNext => ?_)
        · exact HCB.out _ K.out.2.2
        clear hKQ KQ hHeld
        have hHeld := hNext
        clear hNext
        refine wpAnyH_ready (rs := [13]) (by kernel_rfl) (by simp) (AllReadyH.cons (o := _) rfl (fun KQ hKQ => ?_) AllReadyH.nil)
        go_simp
        refine hKQ.out _ _ ?_ (fun hNext => ?_)
        · exact hHeld
        clear hKQ KQ hHeld
        refine wpAnyH_done (by kernel_rfl) ?_ _
        clear hNext
        go_wp2_with fail
        go_ret
        exact ⟨a4, c4, by first | rfl | (rw [List.length_take]; rfl), K.out.1, K.out.2.1⟩
    · go_simp
      refine hKQ.out _ _ ?_ (fun hNext => ?_)
      · exact HCB.out _ (G6.out.1.alloc _)
      clear hKQ KQ hHeld
      have hHeld := hNext
      clear hNext
      obtain ⟨V9, hV2⟩ : ∃ V9, V9 = V6.alloc (.cells #[] 25) := ⟨_, rfl⟩
      rw [← hV2] at hHeld ⊢
      have G9 := hidd (show Blk V9 w.heap.size (ccells (N : Int) k bs).toArray 28 ∧ Below w.heap.size w V9 from by rw [hV2]; exact ⟨G6.out.1.alloc _, G6.out.2.alloc G6.out.2.size _⟩)
      have F3 := hidd (F3.out.alloc (.cells #[] 25))
      rw [← hV2] at F3
      have F10 := hidd (show Blk V9 V6.heap.size #[] 25 ∧ w.heap.size ≤ V6.heap.size from by rw [hV2]; exact ⟨Blk.new _ _ _ _ rfl, G6.out.2.size⟩)
      clear hV2
      refine wpAnyH_ready (rs := [2]) (by kernel_rfl) (by simp) (AllReadyH.cons (o := _) rfl (fun KQ hKQ => ?_) AllReadyH.nil)
      · go_simp
        refine (HRO.out _).mono ?_
        rintro e V10 ⟨aX, capX, rfl, hoX, hbX⟩
        have G10 := hidd (show Blk V10 w.heap.size (ccells (N : Int) k bs).toArray 28 ∧ Below w.heap.size w V10 from ⟨G9.out.1.below hbX G9.out.1.lt, G9.out.2.trans (hbX.mono G9.out.2.size)⟩)
        have F2 := hidd (BgL.ofOwn hoX HNZ.out)
        have F3 := hidd (F3.out.below hbX F3.out.lt)
        have F10 := hidd (And.intro (F10.out.1.below hbX F10.out.1.lt) F10.out.2)
        clear hoX hbX
        go_wp2_with fail
        refine hKQ.out _ _ ?_ (fun hNext => ?_)
        · exact HCB.out _ G10.out.1
        clear hKQ KQ hHeld
        have hHeld := hNext
        clear hNext
        refine wpAnyH_ready (rs := [12]) (by kernel_rfl) (by simp) (AllReadyH.cons (o := _) rfl (fun KQ hKQ => ?_) AllReadyH.nil)
        go_simp
        refine (HGO.out _ _ _ _ _ F2.out F3.out F10.out.1).mono ?_
        rintro e W4 ⟨a4, c4, rfl, hL4, hF4⟩
        have hb10 := F10.out.2
        have hbZ : Below w.heap.size w W4 := G10.out.2.grown hF4.1 G10.out.2.size (fun r hr => by cases hr; exact hb10)
        have hbC : Blk W4 w.heap.size (ccells (N : Int) k bs).toArray 28 := (hF4.1.block _ G10.out.1.lt (fun e => blk_ne28 G10.out.1 F10.out.1 (Option.some.inj e))).trans G10.out.1
        have K := hidd (And.intro hL4 (And.intro hbZ hbC))
        clear hL4 hF4 hbZ hbC
        go_wp2_with fail
        refine hKQ.out _ _ ?_ (fun hNext => ?_)
        · exact HCB.out _ K.out.2.2
        clear hKQ KQ hHeld
        have hHeld := hNext
        clear hNext
        refine wpAnyH_ready (rs := [13]) (by kernel_rfl) (by simp) (AllReadyH.cons (o := _) rfl (fun KQ hKQ => ?_) AllReadyH.nil)
        go_simp
        refine hKQ.out _ _ ?_ (fun hNext => ?_)
        · exact hHeld
        clear hKQ KQ hHeld
        refine wpAnyH_done (by kernel_rfl) ?_ _
        clear hNext
        go_wp2_with fail
        go_ret
        exact ⟨a4, c4, by first | rfl | (rw [List.length_take]; rfl), K.out.1, K.out.2.1⟩
  · go_simp
    refine hKQ.out _ _ ?_ (fun hNext => ?_)
    · exact HCB.out _ (G0.out.1.alloc _)
    clear hKQ KQ hHeld
    have hHeld := hNext
    clear hNext
    obtain ⟨V11, hV2⟩ : ∃ V11, V11 = V0.alloc (.cells #[] 25) := ⟨_, rfl⟩
    rw [← hV2] at hHeld ⊢
    have G11 := hidd (show Blk V11 w.heap.size (ccells (N : Int) k bs).toArray 28 ∧ Below w.heap.size w V11 from by rw [hV2]; exact ⟨G0.out.1.alloc _, G0.out.2.alloc G0.out.2.size _⟩)
    have F10 := hidd (show Blk V11 V0.heap.size #[] 25 ∧ w.heap.size ≤ V0.heap.size from by rw [hV2]; exact ⟨Blk.new _ _ _ _ rfl, G0.out.2.size⟩)
    clear hV2
    refine wpAnyH_ready (rs := [2, 3]) (by kernel_rfl) (by simp) (AllReadyH.cons (o := _) rfl (fun KQ hKQ => ?_) (AllReadyH.cons (o := _) rfl (fun KQ hKQ => ?_) AllReadyH.nil))
    · go_simp
      refine (HRO.out _).mono ?_
      rintro e V12 ⟨aX, capX, rfl, hoX, hbX⟩
      have G12 := hidd (show Blk V12 w.heap.size (ccells (N : Int) k bs).toArray 28 ∧ Below w.heap.size w V12 from ⟨G11.out.1.below hbX G11.out.1.lt, G11.out.2.trans (hbX.mono G11.out.2.size)⟩)
      have F2 := hidd (BgL.ofOwn hoX HNZ.out)
      have F10 := hidd (And.intro (F10.out.1.below hbX F10.out.1.lt) F10.out.2)
      clear hoX hbX
      go_wp2_with fail
      refine hKQ.out _ _ ?_ (fun hNext => ?_)
      · exact HCB.out _ G12.out.1
      clear hKQ KQ hHeld
      have hHeld := hNext
      clear hNext
      refine wpAnyH_ready (rs := [3]) (by kernel_rfl) (by simp) (AllReadyH.cons (o := _) rfl (fun KQ hKQ => ?_) AllReadyH.nil)
      · go_simp
        refine hKQ.out _ _ ?_ (fun hNext => ?_)
        · exact HCB.out _ (G12.out.1.alloc _)
        clear hKQ KQ hHeld
        have hHeld := hNext
        clear hNext
        obtain ⟨V13, hV2⟩ : ∃ V13, V13 = V12.alloc (.cells #[] 2) := ⟨_, rfl⟩
        rw [← hV2] at hHeld ⊢
        have G13 := hidd (show Blk V13 w.heap.size (ccells (N : Int) k bs).toArray 28 ∧ Below w.heap.size w V13 from by rw [hV2]; exact ⟨G12.out.1.alloc _, G12.out.2.alloc G12.out.2.size _⟩)
        have F2 := hidd (F2.out.below ((Below.refl V12.heap.size V12).alloc (Nat.le_refl _) (.cells #[] 2)) (Nat.le_refl _))
        rw [← hV2] at F2
        have F10 := hidd (And.intro (F10.out.1.alloc (.cells #[] 2)) F10.out.2)
        rw [← hV2] at F10
        have F3 := hidd (show Blk V13 V12.heap.size #[] 2 from by rw [hV2]; exact Blk.new _ _ _ _ rfl)
        clear hV2
        refine wpAnyH_ready (rs := [12]) (by kernel_rfl) (by simp) (AllReadyH.cons (o := _) rfl (fun KQ hKQ => ?_) AllReadyH.nil)
        go_simp
        refine (HGO.out _ _ _ _ _ F2.out F3.out F10.out.1).mono ?_
        rintro e W4 ⟨a4, c4, rfl, hL4, hF4⟩
        have hb10 := F10.out.2
        have hbZ : Below w.heap.size w W4 := G13.out.2.grown hF4.1 G13.out.2.size (fun r hr => by cases hr; exact hb10)
        have hbC : Blk W4 w.heap.size (ccells (N : Int) k bs).toArray 28 := (hF4.1.block _ G13.out.1.lt (fun e => blk_ne28 G13.out.1 F10.out.1 (Option.some.inj e))).trans G13.out.1
        have K := hidd (And.intro hL4 (And.intro hbZ hbC))
        clear hL4 hF4 hbZ hbC
        go_wp2_with fail
        refine hKQ.out _ _ ?_ (fun hNext => ?_)
        · exact HCB.out _ K.out.2.2
        clear hKQ KQ hHeld
        have hHeld := hNext
        clear hNext
        refine wpAnyH_ready (rs := [13]) (by kernel_rfl) (by simp) (AllReadyH.cons (o := _) rfl (fun KQ hKQ => ?_) AllReadyH.nil)
        go_simp
        refine hKQ.out _ _ ?_ (fun hNext => ?_)
        · exact hHeld
        clear hKQ KQ hHeld
        refine wpAnyH_done (by kernel_rfl) ?_ _
        clear hNext
        go_wp2_with fail
        go_ret
        exact ⟨a4, c4, by first | rfl | (rw [List.length_take]; rfl), K.out.1, K.out.2.1⟩
    · go_simp
      refine hKQ.out _ _ ?_ (fun hNext => ?_)
      · exact HCB.out _ (G11.out.1.alloc _)
      clear hKQ KQ hHeld
      have hHeld := hNext
      clear hNext
      obtain ⟨V14, hV2⟩ : ∃ V14, V14 = V11.alloc (.cells #[] 2) := ⟨_, rfl⟩
      rw [← hV2] at hHeld ⊢
      have G14 := hidd (show Blk V14 w.heap.size (ccells (N : Int) k bs).toArray 28 ∧ Below w.heap.size w V14 from by rw [hV2]; exact ⟨G11.out.1.alloc _, G11.out.2.alloc G11.out.2.size _⟩)
      have F10 := hidd (And.intro (F10.out.1.alloc (.cells #[] 2)) F10.out.2)
      rw [← hV2] at F10
      have F3 := hidd (show Blk V14 V11.heap.size #[] 2 from by rw [hV2]; exact Blk.new _ _ _ _ rfl)
      clear hV2
      refine wpAnyH_ready (rs := [2]) (by kernel_rfl) (by simp) (AllReadyH.cons (o := _) rfl (fun KQ hKQ => ?_) AllReadyH.nil)
      · go_simp
        refine (HRO.out _).mono ?_
        rintro e V15 ⟨aX, capX, rfl, hoX, hbX⟩
        have G15 := hidd (show Blk V15 w.heap.size (ccells (N : Int) k bs).toArray 28 ∧ Below w.heap.size w V15 from ⟨G14.out.1.below hbX G14.out.1.lt, G14.out.2.trans (hbX.mono G14.out.2.size)⟩)
        have F2 := hidd (BgL.ofOwn hoX HNZ.out)
        have F3 := hidd (F3.out.below hbX F3.out.lt)
        have F10 := hidd (And.intro (F10.out.1.below hbX F10.out.1.lt) F10.out.2)
        clear hoX hbX
        go_wp2_with fail
        refine hKQ.out _ _ ?_ (fun hNext => ?_)
        · exact HCB.out _ G15.out.1
        clear hKQ KQ hHeld
        have hHeld := hNext
        clear hNext
        refine wpAnyH_ready (rs := [12]) (by kernel_rfl) (by simp) (AllReadyH.cons (o := _) rfl (fun KQ hKQ => ?_) AllReadyH.nil)
        go_simp
        refine (HGO.out _ _ _ _ _ F2.out F3.out F10.out.1).mono ?_
        rintro e W4 ⟨a4, c4, rfl, hL4, hF4⟩
        have hb10 := F10.out.2
        have hbZ : Below w.heap.size w W4 := G15.out.2.grown hF4.1 G15.out.2.size (fun r hr => by cases hr; exact hb10)
        have hbC : Blk W4 w.heap.size (ccells (N : Int) k bs).toArray 28 := (hF4.1.block _ G15.out.1.lt (fun e => blk_ne28 G15.out.1 F10.out.1 (Option.some.inj e))).trans G15.out.1
        have K := hidd (And.intro hL4 (And.intro hbZ hbC))
        clear hL4 hF4 hbZ hbC
        go_wp2_with fail
        refine hKQ.out _ _ ?_ (fun hNext => ?_)
        · exact HCB.out _ K.out.2.2
        clear hKQ KQ hHeld
        have hHeld := hNext
        clear hNext
        refine wpAnyH_ready (rs := [13]) (by kernel_rfl) (by simp) (AllReadyH.cons (o := _) rfl (fun KQ hKQ => ?_) AllReadyH.nil)
        go_simp
        refine hKQ.out _ _ ?_ (fun hNext => ?_)
        · exact hHeld
        clear hKQ KQ hHeld
        refine wpAnyH_done (by kernel_rfl) ?_ _
        clear hNext
        go_wp2_with fail
        go_ret
        exact ⟨a4, c4, by first | rfl | (rw [List.length_take]; rfl), K.out.1, K.out.2.1⟩
end Go.Proofs.Ytldlobpjmiacgaa
