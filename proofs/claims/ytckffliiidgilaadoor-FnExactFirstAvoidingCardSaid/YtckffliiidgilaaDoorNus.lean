/- l05Number: the model's count. -/
import Derived.Test.YtckffliiidgilaaDoorGrw
namespace Go.Proofs.YtckffliiidgilaaDoor
set_option linter.unusedVariables false
set_option linter.unusedSimpArgs false
open Go Go.RowKit Go.Shelf
theorem grL_cons {zs : List Int} {K r N : Nat} {bs : List Nat} : grL zs K (r + 1) N bs = (exA bs N K zs).flatMap fun cs => grL zs K r (N + 1) (puB N bs cs) := rfl
def NumC (zs : List Int) (K : Nat) (a : Option Addr) (cap n r : Nat) : Prop :=
  ∀ (N : Nat) (bs : List Nat) (w : World), 1 ≤ N → N + r = n → Bys bs → SlI w a zs →
    Calls Tryd.prog 61 #[.agg (ccells (N : Int) (K : Int) bs).toArray, .int .i64 (n : Int), .slice a K cap] w fun e w' => e = .returned (.int .i64 ((grL zs K r N bs).length : Int)) ∧ Below w.heap.size w w'
theorem num_base (zs : List Int) (K : Nat) (a : Option Addr) (cap n : Nat) : NumC zs K a cap n 0 := by
  intro N bs w n1 hNn hb hs
  have hNn' : n = N := by omega
  subst hNn'
  have HS := hidd (size_c26 (n : Int) (K : Int) hb)
  have HB := hidd (Blk.new w (ccells (n : Int) (K : Int) bs).toArray 28 _ rfl)
  have c0 := HB.out.cell (j := 0) (show _ = some (Value.int .i64 (n : Int)) from rfl)
  have hEq : ((n : Int) == (n : Int)) = true := by simp
  obtain ⟨C, hC⟩ : ∃ C, C = (ccells (n : Int) (K : Int) bs).toArray := ⟨_, rfl⟩
  rw [← hC] at HB c0 ⊢
  have hl : (grL zs K 0 n bs).length = 1 := rfl
  rw [hl]
  clear hC hs hb hl
  go_enter Tryd.func61, Tryd.ntmps61
  go_wp2_with fail
  go_ret
  exact ⟨rfl, (Below.refl _ _).alloc (Nat.le_refl _) _⟩
set_option maxRecDepth 100000 in
set_option maxHeartbeats 4000000 in
theorem num_step (zs : List Int) (K : Nat) (a : Option Addr) (cap n r : Nat) (hl : zs.length = K) (k1 : 1 ≤ K) (hK : K ≤ 4) (h2 : no1 zs K) (hsz : szP zs K = true) (hn : n ≤ 6) (IH : NumC zs K a cap n r) : NumC zs K a cap n (r + 1) := by
  intro N bs w n1 hNn hb hs
  have HIH := hidd IH
  have HSL := hidd hs
  have HS := hidd (size_c26 (N : Int) (K : Int) hb)
  have hEl : (exA bs N K zs).length ≤ 1048576 := Nat.le_trans (exL_many N _ _) (Nat.le_trans (Nat.pow_le_pow_left hK N) (Nat.le_trans (Nat.pow_le_pow_right (by decide) (show N ≤ 6 by omega)) (by decide)))
  have HAL := hidd (fun W h => all54 N K 1048576 bs hb zs a cap hl n1 (by omega) k1 hK h2 hsz (by omega) (by omega) W h)
  rw [List.take_of_length_le hEl] at HAL
  have hgl := grL_many zs hK (M := 6) (r + 1) N bs (by omega)
  have hbig : (4 ^ 6) ^ (r + 1) ≤ 1152921504606846976 := Nat.le_trans (Nat.pow_le_pow_right (by decide) (show r + 1 ≤ 5 by omega)) (by decide)
  obtain ⟨G, hG⟩ : ∃ G : List Int → List (List Nat), G = fun cs => grL zs K r (N + 1) (puB N bs cs) := ⟨_, rfl⟩
  obtain ⟨E, hE⟩ : ∃ E, E = exA bs N K zs := ⟨_, rfl⟩
  have hgr : grL zs K (r + 1) N bs = E.flatMap G := by rw [hE, hG]; rfl
  rw [hgr] at hgl ⊢
  have HER := hidd (fun x (hx : x ∈ E) => (show x.length = N ∧ ∀ z ∈ x, 0 ≤ z ∧ z < (K : Int) from exA_row (by rw [← hE]; exact hx)))
  rw [← hE] at HAL hEl
  have HSUM := hidd (fun (i : Nat) (x : List Int) (h : E[i]? = some x) => (show (E.take (i + 1)).flatMap G = (E.take i).flatMap G ++ G x ∧ ((E.take i).flatMap G).length + (G x).length ≤ 1152921504606846976 from by
    have h1 : (E.take (i + 1)).flatMap G = (E.take i).flatMap G ++ G x := by
      rw [List.take_add_one, h]; simp
    refine ⟨h1, ?_⟩
    have h3 : E.flatMap G = (E.take (i + 1)).flatMap G ++ (E.drop (i + 1)).flatMap G := by rw [← List.flatMap_append, List.take_append_drop]
    rw [h3, h1] at hgl
    simp only [List.length_append] at hgl
    omega))
  have HPU := hidd (fun (x : List Int) (b : Option Addr) (cb : Nat) (W : World) (hs : SlI W b x) (hx : x ∈ E) =>
    (show Calls Tryd.prog 45 #[.agg (ccells (N : Int) (K : Int) bs).toArray, .slice b N cb] W fun e w' => e = .returned (.agg (ccells ((N : Int) + 1) (K : Int) (puB N bs x)).toArray) ∧ Below W.heap.size W w' from by
      obtain ⟨q1, q2⟩ := HER.out x hx
      have := put71 (N : Int) (K : Int) bs hb x b cb W hs (by omega) (by omega) (by omega) (fun j hj => by have := getD_rng q2 hj; omega)
      rw [show puB N bs x = putK bs (edg (N : Int)).toNat x N from by unfold puB; rw [q1]]
      rw [q1] at this
      exact this))
  have HB0 := hidd hb
  have HRC := hidd (fun (x : List Int) (hx : x ∈ E) (W : World) (hs : SlI W a zs) =>
    (show Calls Tryd.prog 61 #[.agg (ccells ((N : Int) + 1) (K : Int) (puB N bs x)).toArray, .int .i64 (n : Int), .slice a K cap] W fun e w' => e = .returned (.int .i64 ((G x).length : Int)) ∧ Below W.heap.size W w' from by
      have := HIH.out (N + 1) (puB N bs x) W (by omega) (by omega) (puB_bys HB0.out hK (HER.out x hx).2) hs
      rw [show ((N + 1 : Nat) : Int) = (N : Int) + 1 by omega] at this
      rw [hG]; exact this))
  have HB := hidd (And.intro (Blk.new w (ccells (N : Int) (K : Int) bs).toArray 28 _ rfl) ((Below.refl w.heap.size w).alloc (Nat.le_refl _) (.cells (ccells (N : Int) (K : Int) bs).toArray 28)))
  have c0 := HB.out.1.cell (j := 0) (show _ = some (Value.int .i64 (N : Int)) from rfl)
  have hEq : ((N : Int) == (n : Int)) = false := by rw [beq_eq_false_iff_ne]; omega
  obtain ⟨C, hC⟩ : ∃ C, C = (ccells (N : Int) (K : Int) bs).toArray := ⟨_, rfl⟩
  rw [← hC] at HS HAL HPU HB c0 ⊢
  obtain ⟨tot, htot⟩ : ∃ tot, tot = (E.flatMap G).length := ⟨_, rfl⟩
  have HTOT := hidd htot
  rw [← htot]
  obtain ⟨W0, hW0⟩ : ∃ W0, W0 = w.alloc (.cells C 28) := ⟨_, rfl⟩
  rw [← hW0] at HB c0
  clear hC hs hb hG hE hgr hgl hbig h2 hsz IH hl hNn htot
  go_enter Tryd.func61, Tryd.ntmps61
  go_upto_region 1 with fail
  rw [← hW0]
  clear hW0
  go_wp2_with (refine wpList_load_row rfl 28 (.tmp 3) rfl w.heap.size rfl 28 _ (0,0) _ HB.out.1 Tryd.underlying28 rfl HS.out ?_)
  refine (HAL.out _ (HSL.out.below HB.out.2 (Nat.le_refl _))).mono ?_
  rintro e w1 ⟨v, rfl, hL, hb1⟩
  obtain ⟨g, capE, xs, rfl, hg, hgl, _, hxl, hcell, hrow⟩ := hL.at
  have G1 := hidd (show Blk w1 w.heap.size C 28 ∧ Below w.heap.size w w1 from ⟨HB.out.1.below hb1 HB.out.1.lt, HB.out.2.trans (hb1.mono HB.out.2.size)⟩)
  have HROW := hidd (fun (i : Nat) (x : List Int) (h : E[i]? = some x) W (hW : Below w1.heap.size w1 W) => (show ∃ b cb, W.cell? ⟨g, i, none⟩ = some (.slice b x.length cb) ∧ SlI W b x from by
    obtain ⟨b, cb, h1, h2⟩ := hrow i x h
    exact ⟨b, cb, by rw [hW.cell (p := ⟨g, i, none⟩) hgl]; exact hcell i _ h1, h2.sl.below hW (Nat.le_refl _)⟩))
  clear hb1 hL hrow hcell hxl hg hgl
  go_wp2_with fail
  go_loopw [8, 9] (fun s e wr => ∃ i : Nat, i ≤ E.length ∧ s = .int .i64 (((E.take i).flatMap G).length : Int) ∧ e = .int .i64 (i : Int) ∧ Hid (Below w1.heap.size w1 wr)) (fun _ e _ => E.length - (intOf e).toNat)
  case atStart => exact ⟨0, Nat.zero_le _, by rw [List.take_zero]; rfl, rfl, Below.refl _ _⟩
  case round =>
    obtain ⟨i, hi, rfl, rfl, HK⟩ := hrel
    by_cases hlt : i < E.length
    · have hltI : decide ((i : Int) < (E.length : Int)) = true := by simp; omega
      have hget : E[i]? = some E[i] := List.getElem?_eq_getElem hlt
      have hmem : E[i] ∈ E := List.getElem_mem hlt
      obtain ⟨x, hx⟩ : ∃ x, x = E[i] := ⟨_, rfl⟩
      rw [← hx] at hget hmem
      obtain ⟨hs1, hs2⟩ := HSUM.out i x hget
      have hxN := (HER.out x hmem).1
      have HRW := hidd (fun W (h : Below wr.heap.size wr W) => (show ∃ b cb, W.cell? ⟨g, i, none⟩ = some (.slice b N cb) ∧ SlI W b x from by
        have := HROW.out i x hget W (HK.out.trans (h.mono HK.out.size))
        rw [hxN] at this; exact this))
      obtain ⟨b, cb, e0, hsb⟩ := HRW.out wr (Below.refl _ _)
      have HC := hidd (fun W (h : Below wr.heap.size wr W) => cell_below e0 h)
      have HP := hidd (fun W (h : Below wr.heap.size wr W) => HPU.out x b cb W (hsb.below h (Nat.le_refl _)) hmem)
      have HR := hidd (fun W (h : Below wr.heap.size wr W) => HRC.out x hmem W (HSL.out.below (G1.out.2.trans ((HK.out.trans (h.mono HK.out.size)).mono G1.out.2.size)) (Nat.le_refl _)))
      have HBL := hidd (fun W (h : Below wr.heap.size wr W) => (show Blk W w.heap.size C 28 from G1.out.1.below (HK.out.trans (h.mono HK.out.size)) G1.out.1.lt))
      obtain ⟨q, hq⟩ : ∃ q, q = (G x).length := ⟨_, rfl⟩
      obtain ⟨p, hp⟩ : ∃ p, p = ((E.take i).flatMap G).length := ⟨_, rfl⟩
      have hnew : ((E.take (i + 1)).flatMap G).length = p + q := by rw [hs1, List.length_append, ← hp, ← hq]
      rw [← hq] at HR
      rw [← hp, ← hq] at hs2
      rw [← hp]
      have HNW := hidd hnew
      have hw1 : IntKind.i64.wrap ((p : Int) + (q : Int)) = (p : Int) + (q : Int) := IntWalk.i64_in _ (by omega)
      have hw2 : wrap64 ((p : Int) + (q : Int)) = (p : Int) + (q : Int) := IntWalk.wrap64_in _ ⟨by omega, by omega⟩
      have hlI : (i : Int) < (E.length : Int) := by omega
      clear hget hmem hx hs1 hxN e0 hsb hq hp hnew
      go_wp2_with fail
      refine wp_region_quiet_at (fun w' => Below wr.heap.size wr w') rfl (by kernel_rfl) ((Below.refl _ _).drew) ?_
      refine qs rfl (fun KQ hKQ => ?_)
      apply Exists.intro
      refine ⟨fun w' hw' => ?_, ?_⟩
      · go_simp; exact rfl
      go_simp
      refine hKQ _ ?_
      clear hKQ KQ
      refine qs rfl (fun KQ hKQ => ?_)
      apply Exists.intro
      refine ⟨fun w' hw' => ?_, ?_⟩
      · exact quietRow 28 (.tmp 3) rfl w.heap.size rfl 28 _ _ (HBL.out w' hw') Tryd.underlying28 rfl HS.out
      go_simp
      refine hKQ _ ?_
      clear hKQ KQ
      refine qs rfl (fun KQ hKQ => ?_)
      apply Exists.intro
      refine ⟨fun w' hw' => ?_, ?_⟩
      · go_simp; exact rfl
      go_simp
      refine hKQ _ ?_
      clear hKQ KQ
      refine qs rfl (fun KQ hKQ => ?_)
      apply Exists.intro
      refine ⟨fun w' hw' => ?_, ?_⟩
      · go_simp; exact rfl
      go_simp
      refine hKQ _ ?_
      clear hKQ KQ
      refine qs rfl (fun KQ hKQ => ?_)
      apply Exists.intro
      refine ⟨fun w' hw' => ?_, ?_⟩
      · go_simp; exact rfl
      go_simp
      refine hKQ _ ?_
      clear hKQ KQ
      refine qs rfl (fun KQ hKQ => ?_)
      apply Exists.intro
      refine ⟨fun w' hw' => ?_, ?_⟩
      · have e1 := HC.out w' hw'; go_simp; exact rfl
      go_simp
      refine hKQ _ ?_
      clear hKQ KQ
      refine qs rfl (fun KQ hKQ => ?_)
      apply Exists.intro
      refine ⟨fun w' hw' => ?_, ?_⟩
      · go_simp; exact (HP.out w' hw').mono fun _ _ h => ⟨h.1, hw'.trans (h.2.mono hw'.size)⟩
      go_simp
      refine hKQ _ ?_
      clear hKQ KQ
      refine qs rfl (fun KQ hKQ => ?_)
      apply Exists.intro
      refine ⟨fun w' hw' => ?_, ?_⟩
      · go_simp; exact rfl
      go_simp
      refine hKQ _ ?_
      clear hKQ KQ
      refine qs rfl (fun KQ hKQ => ?_)
      apply Exists.intro
      refine ⟨fun w' hw' => ?_, ?_⟩
      · go_simp; exact rfl
      go_simp
      refine hKQ _ ?_
      clear hKQ KQ
      refine qs rfl (fun KQ hKQ => ?_)
      apply Exists.intro
      refine ⟨fun w' hw' => ?_, ?_⟩
      · go_simp; exact (HR.out w' hw').mono fun _ _ h => ⟨h.1, hw'.trans (h.2.mono hw'.size)⟩
      go_simp
      refine hKQ _ ?_
      clear hKQ KQ
      refine qs rfl (fun KQ hKQ => ?_)
      apply Exists.intro
      refine ⟨fun w' hw' => ?_, ?_⟩
      · go_simp; exact rfl
      go_simp
      refine hKQ _ ?_
      clear hKQ KQ
      refine qs rfl (fun KQ hKQ => ?_)
      apply Exists.intro
      refine ⟨fun w' hw' => ?_, ?_⟩
      · go_simp; exact rfl
      go_simp
      refine hKQ _ ?_
      clear hKQ KQ
      refine wpQuiet_nil ?_
      intro w' hw'
      have HW := hidd (HK.out.trans (hw'.mono HK.out.size))
      clear hw'
      go_wp2_with fail
      go_roundw
      case rel => exact ⟨i + 1, by omega, by rw [HNW.out]; go_num, by go_num, HW.out⟩
      case measure => simp [intOf]; omega
    · have hltI : decide ((i : Int) < (E.length : Int)) = false := by simp; omega
      have hie : i = E.length := by omega
      have HTT := hidd (show ((E.take i).flatMap G).length = tot from by rw [hie, List.take_length]; exact HTOT.out.symm)
      obtain ⟨p, hp⟩ : ∃ p, p = ((E.take i).flatMap G).length := ⟨_, rfl⟩
      rw [← hp] at HTT ⊢
      have HF := hidd (G1.out.2.trans (HK.out.mono G1.out.2.size))
      clear hie hp
      go_wp2_with fail
      go_ret
      exact ⟨by rw [← HTT.out]; rfl, HF.out⟩
theorem num61 (zs : List Int) (K : Nat) (a : Option Addr) (cap n : Nat) (hl : zs.length = K) (k1 : 1 ≤ K) (hK : K ≤ 4) (h2 : no1 zs K) (hsz : szP zs K = true) (hn : n ≤ 6) : ∀ r, NumC zs K a cap n r
  | 0 => num_base zs K a cap n
  | r + 1 => num_step zs K a cap n r hl k1 hK h2 hsz hn (num61 zs K a cap n hl k1 hK h2 hsz hn r)
end Go.Proofs.YtckffliiidgilaaDoor
