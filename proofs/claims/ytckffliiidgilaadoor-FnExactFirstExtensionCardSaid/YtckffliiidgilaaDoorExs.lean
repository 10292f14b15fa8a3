/- l05Search: the model's search for extensions. -/
import Derived.Test.YtckffliiidgilaaDoorExl
import Derived.Deep.RegionHeld2
namespace Go.Proofs.YtckffliiidgilaaDoor
set_option linter.unusedVariables false
set_option linter.unusedSimpArgs false
open Go Go.RowKit Go.Shelf
/-- The memory that a call of the search is handed. -/
structure Ex (R N K : Nat) (zs : List Int) (bl off gs gb : Nat) (s : Nat → Nat) (cs : List Int) (w : World) : Prop where
  zc : ∀ j, j < K → w.cell? ⟨bl, off + j, none⟩ = some (.int .i64 (zs.getD j 0))
  st : BgL w (some ⟨gs, 0, none⟩) (dgL K s)
  co : OwnL w R (some ⟨gb, 0, none⟩) cs
  rb : R ≤ w.heap.size
theorem Ex.below {R N K : Nat} {zs : List Int} {bl off gs gb : Nat} {s : Nat → Nat} {cs : List Int} {w w' : World} (h : Ex R N K zs bl off gs gb s cs w) {B : Nat} (hb : Below B w w') (hB : w.heap.size ≤ B) : Ex R N K zs bl off gs gb s cs w' :=
  ⟨fun j hj => cell_below (h.zc j hj) (hb.mono hB), h.st.below hb hB, h.co.below hb hB, Nat.le_trans h.rb (hb.mono hB).size⟩
def ExCall (R : Nat) (bs : List Nat) (N K : Nat) (zs : List Int) (bl off cap r : Nat) : Prop :=
  ∀ (s : Nat → Nat) (cs : List Int) (gs css gb cb M : Nat) (w : World), Ex R N K zs bl off gs gb s cs w → (∀ c, c < K → s c < 2 ^ (N - r)) → cs.length + r = N → 1 ≤ M → M ≤ 1000 →
    Calls Tryd.prog 83 #[.agg (ccells (N : Int) (K : Int) bs).toArray, .slice (some ⟨bl, off, none⟩) K cap, .slice (some ⟨gb, 0, none⟩) cs.length cb, .slice (some ⟨gs, 0, none⟩) K css, .int .i64 (M : Int)] w fun e w' =>
      ∃ v, e = .returned v ∧ LLb R w' w.heap.size v ((exL (okx bs N zs) K N r s cs).take M) ∧ Below w.heap.size w w'
theorem slices_one {R : Nat} {w : World} {L : List (List Int)} {xs : List Value} (hl : xs.length = L.length) (h : ∀ (i : Nat) (zs : List Int), L[i]? = some zs → ∃ a cap, xs[i]? = some (Value.slice a zs.length cap) ∧ OwnL w R a zs) : ∀ u ∈ xs, u.oneCell' = true := by
  intro u hu
  obtain ⟨i, hi, rfl⟩ := List.getElem_of_mem hu
  obtain ⟨a, cap, h1, _⟩ := h i L[i] (List.getElem?_eq_getElem (by omega))
  rw [List.getElem?_eq_getElem hi] at h1
  rw [Option.some.inj h1]
  rfl
set_option maxRecDepth 100000 in
set_option maxHeartbeats 4000000 in
theorem exs_leaf (R N K : Nat) (bs : List Nat) (hb : Bys bs) (zs : List Int) (bl off cap : Nat) (hN12 : N ≤ 17) : ExCall R bs N K zs bl off cap 0 := by
  intro s cs gs css gb cb M w hE hs hl hM1 hM
  have HS := hidd (size_c26 (N : Int) (K : Int) hb)
  have hres : (exL (okx bs N zs) K N 0 s cs).take M = [cs] := by
    rw [exL]
    obtain ⟨m, rfl⟩ : ∃ m, M = m + 1 := ⟨M - 1, by omega⟩
    simp
  rw [hres]
  have HLL := hidd (LLb.one (w := w.alloc (.cells (ccells (N : Int) (K : Int) bs).toArray 28)) (B := w.heap.size) (b := some ⟨gb, 0, none⟩) (cs := cs) (cap := cb) (by simp) (hE.co.below ((Below.refl w.heap.size w).alloc (Nat.le_refl _) _) (Nat.le_refl _)))
  have c0 := (Blk.new w (ccells (N : Int) (K : Int) bs).toArray 28 _ rfl).cell (j := 0) (show _ = some (Value.int .i64 (N : Int)) from rfl)
  have hcl : cs.length = N := by omega
  rw [hcl, show (w.alloc (.cells (ccells (N : Int) (K : Int) bs).toArray 28)).heap.size = w.heap.size + 1 by simp] at HLL
  rw [hcl]
  have hnn : ((N : Int) == (N : Int)) = true := by simp
  have hNw : IntKind.i64.wrap (N : Int) = (N : Int) := IntWalk.i64_in _ (by omega)
  clear hE hs hl hres hcl
  go_enter Tryd.func83, Tryd.ntmps83
  go_wp2_with fail
  go_ret
  exact ⟨_, rfl, HLL.out, ((Below.refl w.heap.size w).alloc (Nat.le_refl _) _).alloc (by simp) _⟩
set_option maxRecDepth 100000 in
set_option maxHeartbeats 8000000 in
theorem exs_step (R N K : Nat) (bs : List Nat) (hb : Bys bs) (zs : List Int) (bl off cap : Nat) (n1 : 1 ≤ N) (hN12 : N ≤ 12) (hK1 : 1 ≤ K) (hK : K ≤ 4) (h2 : no1 zs K) (hsz : szP zs K = true) (r : Nat) (hr : r + 1 ≤ N) (IH : ExCall R bs N K zs bl off cap r) : ExCall R bs N K zs bl off cap (r + 1) := by
  intro s cs gs css gb cb M w hE hs hl hM1 hM
  obtain ⟨t0, hi2, hz0, hz1, hz3⟩ := info_parts info2
  have HI2 := hidd (And.intro hi2 (And.intro hz0 (And.intro hz1 hz3)))
  obtain ⟨t5, hi25, hy0, hy1, hy3⟩ := info_parts info25
  have HI25 := hidd (And.intro hi25 (And.intro hy0 (And.intro hy1 hy3)))
  clear hi2 hz0 hz1 hz3 hi25 hy0 hy1 hy3
  have HIH := hidd IH
  have HS := hidd (size_c26 (N : Int) (K : Int) hb)
  have HSL := hidd (show (Tryd.prog.info? 28).map (·.size) = some (ccells (N : Int) (K : Int) bs).length from size_l28 _ _ hb)
  have HC0 := hidd (show (ccells (N : Int) (K : Int) bs).toArray[0]? = some (.int .i64 (N : Int)) from rfl)
  have HC1 := hidd (show (ccells (N : Int) (K : Int) bs).toArray[1]? = some (.int .i64 (K : Int)) from rfl)
  have HB := hidd hb
  obtain ⟨n, hn⟩ : ∃ n, n = cs.length := ⟨_, rfl⟩
  have hnr : N - (r + 1) = n := by omega
  have hnN : n < N := by omega
  have hr1 : N - r = n + 1 := by omega
  have hnn : ((n : Int) == (N : Int)) = false := by rw [beq_eq_false_iff_ne]; omega
  obtain ⟨T, hT⟩ : ∃ T, T = (exL (okx bs N zs) K N (r + 1) s cs).take M := ⟨_, rfl⟩
  obtain ⟨O, hO⟩ : ∃ O : Nat → List (List Int), O = fun c => (pfE (okx bs N zs) K N r s cs c).take M := ⟨_, rfl⟩
  have HO0 := hidd (show O 0 = [] by rw [hO]; show (pfE _ _ _ _ _ _ 0).take M = []; rw [pfE_0]; simp)
  have HON := hidd (fun c (h : okx bs N zs c n (s c) = false) => (show O (c + 1) = O c by rw [hO]; show (pfE _ _ _ _ _ _ (c + 1)).take M = _; rw [pfE_no (by rw [hnr]; exact h)]))
  have HOL := hidd (fun c => (show (O c).length ≤ M by rw [hO]; show ((pfE _ _ _ _ _ _ c).take M).length ≤ M; rw [List.length_take]; omega))
  have HOY := hidd (fun c (h : okx bs N zs c n (s c) = true) (hlm : (O c).length < M) => (show O (c + 1) = O c ++ (exL (okx bs N zs) K N r (setF s c (s c ||| 2 ^ n)) (cs ++ [(c : Int)])).take (M - (O c).length) by
    have hp : O c = pfE (okx bs N zs) K N r s cs c := by
      rw [hO] at hlm ⊢
      have h3 : ((pfE (okx bs N zs) K N r s cs c).take M).length < M := hlm
      show (pfE (okx bs N zs) K N r s cs c).take M = _
      refine List.take_of_length_le ?_
      rw [List.length_take] at h3
      omega
    have h4 : O (c + 1) = (pfE (okx bs N zs) K N r s cs (c + 1)).take M := by rw [hO]
    rw [h4, pfE_yes (by rw [hnr]; exact h), List.take_append, hp, hnr]
    congr 1
    refine List.take_of_length_le ?_
    rw [hp] at hlm
    omega))
  have HOK := hidd (show O K = T by rw [hO, hT]; show (pfE _ _ _ _ _ _ K).take M = _; rw [pfE_K])
  have HOM := hidd (fun c (hc : c ≤ K) (h : M ≤ (O c).length) => (show O c = T by
    have h3 : M ≤ ((pfE (okx bs N zs) K N r s cs c).take M).length := by rw [hO] at h; exact h
    rw [List.length_take] at h3
    rw [hO, hT]; exact pfE_full hc (by omega)))
  have HCL := hidd (fun (c : Nat) => (show (cs ++ [(c : Int)]).length = n + 1 by rw [List.length_append, ← hn]; rfl))
  have HCR := hidd (show n + 1 + r = N by omega)
  have HIC := hidd (fun (c : Nat) => (show icells cs ++ [.int .i64 (c : Int)] = icells (cs ++ [(c : Int)]) by rw [icells_app]; rfl))
  rw [← hT, ← hn]
  have HSZ := hidd (fun c (hc : c < K) => inB_bd (szP_get hsz hc))
  have HN1 := hidd h2
  have HSS := hidd (fun c (hc : c < K) => (show s c < 2 ^ n by have := hs c hc; rwa [hnr] at this))
  have HCS := hidd (fun W (h : Ex R N K zs bl off gs gb s cs W) c (hc : c < K) => (show W.cell? ⟨gs, c, none⟩ = some (.int .i64 (s c : Int)) from h.st.cell (by rw [dgL_len]; exact hc) (by rw [dgL_get hc])))
  have HOC := hidd (fun W (h : Ex R N K zs bl off gs gb s cs W) => (show Calls Tryd.prog 102 #[.slice (some ⟨gb, 0, none⟩) n cb] W fun e w' => ∃ g' c', e = .returned (.slice (some ⟨g', 0, none⟩) n c') ∧ w'.ownsRow W.heap.size 2 1 (.slice (some ⟨g', 0, none⟩) n c') n (icells cs) ∧ Below W.heap.size W w' by
    have h1 := own63g cs gb cb W (fun j hj => h.co.cells j hj) (by omega)
    rw [← hn] at h1
    exact h1))
  have hB00 := (Below.refl w.heap.size w).alloc (Nat.le_refl _) (.cells (ccells (N : Int) (K : Int) bs).toArray 28)
  have G := hidd (show Blk (w.alloc (.cells (ccells (N : Int) (K : Int) bs).toArray 28)) w.heap.size (ccells (N : Int) (K : Int) bs).toArray 28 ∧ Ex R N K zs bl off gs gb s cs (w.alloc (.cells (ccells (N : Int) (K : Int) bs).toArray 28)) ∧ Below w.heap.size w (w.alloc (.cells (ccells (N : Int) (K : Int) bs).toArray 28)) ∧ (w.alloc (.cells (ccells (N : Int) (K : Int) bs).toArray 28)).heap.size = w.heap.size + 1 from
    ⟨Blk.new _ _ _ _ rfl, hE.below hB00 (Nat.le_refl _), hB00, by simp⟩)
  obtain ⟨W0, hW0⟩ : ∃ W0, W0 = w.alloc (.cells (ccells (N : Int) (K : Int) bs).toArray 28) := ⟨_, rfl⟩
  rw [← hW0] at G
  have HNC := hidd hn
  obtain ⟨B0, hB0⟩ : ∃ B0, B0 = W0.heap.size := ⟨_, rfl⟩
  have HB0 := hidd hB0
  have HBK := hidd (fun W (h : Below B0 W0 W) => (And.intro (G.out.1.below h (by rw [HB0.out]; exact G.out.1.lt)) (And.intro (G.out.2.1.below h (Nat.le_of_eq HB0.out.symm)) (G.out.2.2.1.trans (h.mono (by rw [HB0.out, G.out.2.2.2]; omega))))))
  have hNw : IntKind.i64.wrap (n : Int) = (n : Int) := IntWalk.i64_in _ (by omega)
  have c0 := G.out.1.cell HC0.out
  clear hE hs hl hT hO hn hnr IH hsz h2 hb hB00 hB0
  go_enter Tryd.func83, Tryd.ntmps83
  go_upto_region 1 with fail
  rw [← hW0]
  clear hW0
  go_upto_region 5 with fail
  have HLE := hidd (show LLb R (W0.alloc (.cells #[] 25)) B0 (.slice (some ⟨W0.heap.size, 0, none⟩) 0 0) (O 0) ∧ Below B0 W0 (W0.alloc (.cells #[] 25)) from by
    rw [HO0.out, HB0.out]; exact ⟨LLb.empty (Nat.le_refl _), (Below.refl _ _).alloc (Nat.le_refl _) _⟩)
  clear c0
  go_wp2_with fail
  go_loopw [12, 13] (fun v e wr => ∃ c g0 cap0 : Nat, c ≤ K ∧ v = .slice (some ⟨g0, 0, none⟩) (O c).length cap0 ∧ e = .int .i64 (c : Int) ∧ Hid (LLb R wr B0 (.slice (some ⟨g0, 0, none⟩) (O c).length cap0) (O c) ∧ Below B0 W0 wr)) (fun _ e _ => K - (intOf e).toNat)
  case atStart => exact ⟨0, W0.heap.size, 0, Nat.zero_le _, by rw [HO0.out]; rfl, rfl, by rw [HO0.out]; have := HLE.out.1; rw [HO0.out] at this; exact this, HLE.out.2⟩
  case round =>
  obtain ⟨c, g0, cap0, hc, rfl, rfl, HK⟩ := hrel
  have c1 := (HBK.out wr HK.out.2).1.cell HC1.out
  obtain ⟨ln, hln⟩ : ∃ ln, ln = (O c).length := ⟨_, rfl⟩
  have hlnM : ln ≤ M := by rw [hln]; exact HOL.out c
  rw [← hln] at HK ⊢
  have HLN := hidd hln
  clear hln
  by_cases hlt : c < K
  · have hltI : decide ((c : Int) < (K : Int)) = true := by simp; omega
    by_cases hlm : ln < M
    · have hlmI : decide ((ln : Int) < (M : Int)) = true := by simp; omega
      have hz := HSZ.out c hlt
      have hz2 := HN1.out c hlt
      have hsc := HSS.out c hlt
      obtain ⟨m, hm⟩ : ∃ m : Nat, zs.getD c 0 = (m : Int) + 2 := ⟨(zs.getD c 0).toNat - 2, by omega⟩
      have hm17 : m ≤ 15 := by omega
      have hok : okx bs N zs c n (s c) = !hasK (rwN bs (c : Int) N) N m (s c &&& rwN bs (c : Int) N n) := by unfold okx; rw [hm]; congr 2
      have hxr := (HBK.out wr HK.out.2).2.1
      have cz := hxr.zc c hlt
      rw [hm] at cz
      have cs0 := HCS.out wr hxr c hlt
      have HCZ := hidd (fun W (h : Below wr.heap.size wr W) => cell_below cz h)
      have HCT := hidd (fun W (h : Below wr.heap.size wr W) => cell_below cs0 h)
      have HAR := hidd (fun W => around63 (N : Int) (K : Int) bs HB.out (n : Int) (c : Int) W (by omega) (by omega) (by omega) (by omega))
      obtain ⟨rw', hrw⟩ : ∃ rw', rw' = rwN bs (c : Int) N n := ⟨_, rfl⟩
      rw [Int.toNat_natCast, show arK (nbB bs (n : Int) (c : Int)) N = rwN bs (c : Int) N n from rfl, ← hrw] at HAR
      rw [← hrw] at hok
      obtain ⟨sc, hsce⟩ : ∃ sc, sc = s c := ⟨_, rfl⟩
      rw [← hsce] at hok hsc HCT
      have hs17 : sc < 2 ^ 12 := Nat.lt_of_lt_of_le hsc (Nat.pow_le_pow_right (by decide) (by omega))
      clear hsc
      have hr17 : rw' < 2 ^ 17 := by rw [hrw]; unfold rwN; exact Nat.lt_of_lt_of_le (arK_lt _ _) (Nat.pow_le_pow_right (by decide) (by omega))
      have hand := i64_and_nat sc rw' (by omega) (by omega)
      have hA17 : sc &&& rw' < 2 ^ 17 := Nat.lt_of_le_of_lt Nat.and_le_left (by omega)
      obtain ⟨A, hA⟩ : ∃ A, A = sc &&& rw' := ⟨_, rfl⟩
      rw [← hA] at hand hA17 hok
      have HCQ := hidd (fun W => clq69 N (K : Int) (c : Int) bs HB.out n1 (by omega) m (by omega) A hA17 W)
      obtain ⟨x, hx⟩ : ∃ x, x = hasK (rwN bs (c : Int) N) N m A := ⟨_, rfl⟩
      rw [← hx] at HCQ hok
      have hlt2 : decide ((m : Int) + 2 < 2) = false := by simp; omega
      have hmw : IntKind.i64.wrap (m : Int) = (m : Int) := IntWalk.i64_in _ (by omega)
      have HOKX := hidd hok
      have HSE := hidd hsce
      have HBW := hidd (HBK.out wr HK.out.2).1
      clear hsce hxr
      clear cz cs0 hm hz hz2 hrw hA hx hok
      go_wp2_with fail
      refine wp_region_quiet_at (fun w' => Below wr.heap.size wr w') rfl (by kernel_rfl) ((Below.refl _ _).drew) ?_
      refine qs rfl (fun KQ hKQ => ?_)
      apply Exists.intro
      refine ⟨fun w' hw' => ?_, ?_⟩
      · go_simp; exact rfl
      go_simp
      refine hKQ _ ?_
      clear hKQ KQ
      refine qs rfl (fun KQ hKQ => ?_)
      apply Exists.intro
      refine ⟨fun w' hw' => ?_, ?_⟩
      · go_simp; exact rfl
      go_simp
      refine hKQ _ ?_
      clear hKQ KQ
      refine qs rfl (fun KQ hKQ => ?_)
      apply Exists.intro
      refine ⟨fun w' hw' => ?_, ?_⟩
      · go_simp; exact rfl
      go_simp
      refine hKQ _ ?_
      clear hKQ KQ
      refine qs rfl (fun KQ hKQ => ?_)
      apply Exists.intro
      refine ⟨fun w' hw' => ?_, ?_⟩
      · have e1 := HCZ.out w' hw'; go_simp; exact rfl
      go_simp
      refine hKQ _ ?_
      clear hKQ KQ
      refine qs rfl (fun KQ hKQ => ?_)
      apply Exists.intro
      refine ⟨fun w' hw' => ?_, ?_⟩
      · go_simp; exact rfl
      go_simp
      refine hKQ _ ?_
      clear hKQ KQ
      refine qs rfl (fun KQ hKQ => ?_)
      apply Exists.intro
      refine ⟨fun w' hw' => ?_, ?_⟩
      · go_simp; exact rfl
      go_simp
      refine hKQ _ ?_
      clear hKQ KQ
      go_big_quiet_want
      rename_i KQ hKQ
      apply Exists.intro
      refine ⟨fun w' hw' => ?_, ?_⟩
      · exact quietRow 28 (.tmp 5) rfl w.heap.size rfl 28 _ _ (HBW.out.below hw' HBW.out.lt) Tryd.underlying28 rfl HS.out
      go_simp
      refine hKQ _ ?_
      clear hKQ KQ
      go_big_quiet_want
      rename_i KQ hKQ
      apply Exists.intro
      refine ⟨fun w' hw' => ?_, ?_⟩
      · go_simp; exact rfl
      go_simp
      refine hKQ _ ?_
      clear hKQ KQ
      go_big_quiet_want
      rename_i KQ hKQ
      apply Exists.intro
      refine ⟨fun w' hw' => ?_, ?_⟩
      · go_simp; exact rfl
      go_simp
      refine hKQ _ ?_
      clear hKQ KQ
      go_big_quiet_want
      rename_i KQ hKQ
      apply Exists.intro
      refine ⟨fun w' hw' => ?_, ?_⟩
      · go_simp; exact rfl
      go_simp
      refine hKQ _ ?_
      clear hKQ KQ
      go_big_quiet_want
      rename_i KQ hKQ
      apply Exists.intro
      refine ⟨fun w' hw' => ?_, ?_⟩
      · go_simp; exact rfl
      go_simp
      refine hKQ _ ?_
      clear hKQ KQ
      go_big_quiet_want
      rename_i KQ hKQ
      apply Exists.intro
      refine ⟨fun w' hw' => ?_, ?_⟩
      · have e1 := HCT.out w' hw'; go_simp; exact rfl
      go_simp
      refine hKQ _ ?_
      clear hKQ KQ
      go_big_quiet_want
      rename_i KQ hKQ
      apply Exists.intro
      refine ⟨fun w' hw' => ?_, ?_⟩
      · exact quietRow 28 (.tmp 5) rfl w.heap.size rfl 28 _ _ (HBW.out.below hw' HBW.out.lt) Tryd.underlying28 rfl HS.out
      go_simp
      refine hKQ _ ?_
      clear hKQ KQ
      go_big_quiet_want
      rename_i KQ hKQ
      apply Exists.intro
      refine ⟨fun w' hw' => ?_, ?_⟩
      · go_simp; exact rfl
      go_simp
      refine hKQ _ ?_
      clear hKQ KQ
      go_big_quiet_want
      rename_i KQ hKQ
      apply Exists.intro
      refine ⟨fun w' hw' => ?_, ?_⟩
      · go_simp; exact rfl
      go_simp
      refine hKQ _ ?_
      clear hKQ KQ
      go_big_quiet_want
      rename_i KQ hKQ
      apply Exists.intro
      refine ⟨fun w' hw' => ?_, ?_⟩
      · go_simp; exact (HAR.out _).mono fun _ _ h => ⟨h.1, hw'.trans (h.2.mono hw'.size)⟩
      go_simp
      refine hKQ _ ?_
      clear hKQ KQ
      go_big_quiet_want
      rename_i KQ hKQ
      apply Exists.intro
      refine ⟨fun w' hw' => ?_, ?_⟩
      · go_simp; exact rfl
      go_simp
      refine hKQ _ ?_
      clear hKQ KQ
      go_big_quiet_want
      rename_i KQ hKQ
      apply Exists.intro
      refine ⟨fun w' hw' => ?_, ?_⟩
      · go_simp; exact rfl
      go_simp
      refine hKQ _ ?_
      clear hKQ KQ
      go_big_quiet_want
      rename_i KQ hKQ
      apply Exists.intro
      refine ⟨fun w' hw' => ?_, ?_⟩
      · go_simp; exact rfl
      go_simp
      refine hKQ _ ?_
      clear hKQ KQ
      go_big_quiet_want
      rename_i KQ hKQ
      apply Exists.intro
      refine ⟨fun w' hw' => ?_, ?_⟩
      · go_simp; exact rfl
      go_simp
      refine hKQ _ ?_
      clear hKQ KQ
      go_big_quiet_want
      rename_i KQ hKQ
      apply Exists.intro
      refine ⟨fun w' hw' => ?_, ?_⟩
      · have e1 := HCZ.out w' hw'; go_simp; exact rfl
      go_simp
      refine hKQ _ ?_
      clear hKQ KQ
      go_big_quiet_want
      rename_i KQ hKQ
      apply Exists.intro
      refine ⟨fun w' hw' => ?_, ?_⟩
      · go_simp; exact rfl
      go_simp
      refine hKQ _ ?_
      clear hKQ KQ
      go_big_quiet_want
      rename_i KQ hKQ
      apply Exists.intro
      refine ⟨fun w' hw' => ?_, ?_⟩
      · go_simp; exact (HCQ.out _).mono fun _ _ h => ⟨h.1, hw'.trans (h.2.mono hw'.size)⟩
      go_simp
      refine hKQ _ ?_
      clear hKQ KQ
      refine qs rfl (fun KQ hKQ => ?_)
      apply Exists.intro
      refine ⟨fun w' hw' => ?_, ?_⟩
      · go_simp; exact rfl
      go_simp
      refine hKQ _ ?_
      clear hKQ KQ
      refine wpQuiet_nil ?_
      intro w' hw'
      have HW := hidd (show LLb R w' B0 (.slice (some ⟨g0, 0, none⟩) ln cap0) (O c) ∧ Below B0 W0 w' from
        ⟨HK.out.1.below hw', HK.out.2.trans (hw'.mono (by have := HK.out.2.size; have := HB0.out; omega))⟩)
      clear hw'
      cases x with
      | true =>
        have hon := HON.out c (by rw [← HSE.out]; exact HOKX.out)
        have H3 := hidd (show ln = (O (c + 1)).length ∧ LLb R w' B0 (.slice (some ⟨g0, 0, none⟩) ln cap0) (O (c + 1)) ∧ Below B0 W0 w' by rw [hon]; exact ⟨HLN.out, HW.out⟩)
        clear hon
        go_wp2_with fail
        go_roundw
        case rel => exact ⟨c + 1, g0, cap0, by omega, by rw [← H3.out.1], by go_num, by rw [← H3.out.1]; exact H3.out.2.1, H3.out.2.2⟩
        case measure => simp [intOf]; omega
      | false =>
        have hoy := HOY.out c (by rw [← HSE.out]; exact HOKX.out) (by rw [← HLN.out]; exact hlm)
        rw [← HSE.out, ← HLN.out] at hoy
        have HOY1 := hidd hoy
        clear hoy
        have hxw := (HBK.out w' HW.out.2).2.1
        have HOW := hidd (own63 (dgL K s) (some ⟨gs, 0, none⟩) css w' hxw.st (by rw [dgL_len]; omega))
        rw [dgL_len] at HOW
        clear hxw
        go_wp2_with fail
        refine HOW.out.mono ?_
        rintro e w5 ⟨a5, c5, rfl, ho5, hb5⟩
        obtain ⟨a6, c6, hv6, hOO⟩ := own_list (zs := dgL K s) (by rw [dgL_len]; exact ho5)
        rw [dgL_len] at hv6
        cases hv6
        rcases hOO with hOO | ⟨g, C5, hgB, rfl, hC5, hl5, hc5⟩
        · have := dgL_len K s; rw [hOO] at this; simp at this; omega
        have hB5 : BgL w5 (some ⟨g, 0, none⟩) (dgL K s) := ⟨g, C5, rfl, hC5, hl5, hc5⟩
        have cO := hB5.cell (j := c) (x := (sc : Int)) (by rw [dgL_len]; exact hlt) (by rw [dgL_get hlt, HSE.out])
        have fO := hB5.fro c
        obtain ⟨V, hV⟩ : ∃ V, V = sc ||| 2 ^ n := ⟨_, rfl⟩
        rw [← hV] at HOY1
        have hor : bits .or .i64 (sc : Int) (wrap64 (2 ^ n)) = (V : Int) := by rw [hV]; exact or_bit sc n (by omega) (by omega)
        have hB6 := hB5.put hlt V
        have hb6 : Below w'.heap.size w' (w5.setCell ⟨g, c, none⟩ (.int .i64 (V : Int))) := hb5.setCell (by exact hgB) _
        have HVS := hidd (fun c' (hc' : c' < K) => (show setF s c V c' < 2 ^ (N - r) by
          rw [hr1]
          have h22 : 2 ^ n < 2 ^ (n + 1) := Nat.pow_lt_pow_right (by omega) (by omega)
          by_cases e : c' = c
          · subst e
            rw [setF_same, hV]
            exact Nat.or_lt_two_pow (by rw [HSE.out]; exact Nat.lt_trans (HSS.out c' hc') h22) h22
          · rw [setF_ne _ _ e]; exact Nat.lt_trans (HSS.out c' hc') h22))
        have hszW : B0 ≤ w'.heap.size := by have := HW.out.2.size; have := HB0.out; omega
        have H6 := hidd (show LLb R (w5.setCell ⟨g, c, none⟩ (.int .i64 (V : Int))) B0 (.slice (some ⟨g0, 0, none⟩) ln cap0) (O c) ∧ Below B0 W0 (w5.setCell ⟨g, c, none⟩ (.int .i64 (V : Int))) ∧ BgL (w5.setCell ⟨g, c, none⟩ (.int .i64 (V : Int))) (some ⟨g, 0, none⟩) (dgL K (setF s c V)) from
          ⟨HW.out.1.below hb6, HW.out.2.trans (hb6.mono hszW), hB6⟩)
        have hu : IntKind.u64.wrap (n : Int) = (n : Int) := by unfold IntKind.wrap; simp [IntKind.signed, IntKind.bits]; omega
        have hmn : min n 64 = n := by omega
        clear hgB hb5 hb6 hB6 hB5 ho5 hC5 hl5 hc5 hszW hV
        clear hand hA17 hs17 hr17 hlt2 hmw hm17 c1 hnn
        go_upto_region 11 with fail
        clear cO fO hor hu hmn
        obtain ⟨w6, hw6⟩ : ∃ w6, w6 = w5.setCell ⟨g, c, none⟩ (.int .i64 (V : Int)) := ⟨_, rfl⟩
        rw [← hw6] at H6 ⊢
        clear hw6
        have hsub : IntKind.i64.wrap ((M : Int) - (ln : Int)) = ((M - ln : Nat) : Int) := by rw [IntWalk.i64_in _ (by omega)]; omega
        have hsub2 : wrap64 ((M : Int) - (ln : Int)) = ((M - ln : Nat) : Int) := by rw [IntWalk.wrap64_in _ ⟨by omega, by omega⟩]; omega
        obtain ⟨M2, hM2⟩ : ∃ M2, M2 = M - ln := ⟨_, rfl⟩
        rw [← hM2] at hsub hsub2 HOY1
        have hM21 : 1 ≤ M2 := by omega
        have hM22 : ln + M2 = M := by omega
        clear hM2
        have HSB := hidd (fun W (h : Below w6.heap.size w6 W) => (show LLb R W B0 (.slice (some ⟨g0, 0, none⟩) ln cap0) (O c) ∧ Below B0 W0 W ∧ BgL W (some ⟨g, 0, none⟩) (dgL K (setF s c V)) ∧ Ex R N K zs bl off gs gb s cs W ∧ Blk W w.heap.size (ccells (N : Int) (K : Int) bs).toArray 28 from by
          have h1 := H6.out.2.1.trans (h.mono (by have := H6.out.2.1.size; have := HB0.out; omega))
          exact ⟨H6.out.1.below h, h1, H6.out.2.2.below h (Nat.le_refl _), (HBK.out W h1).2.1, (HBK.out W h1).1⟩))
        have HRG := hidd (fun (W : World) (h : Blk W w.heap.size (ccells (N : Int) (K : Int) bs).toArray 28) => h.range 0 (ccells (N : Int) (K : Int) bs) (fun i v hv => by rw [Nat.zero_add]; simpa using hv))
        refine wp_region_held_drew (S := (fun W => Blk W w.heap.size (ccells (N : Int) (K : Int) bs).toArray 28)) (by kernel_rfl) ?_ (fun hHeld => ?_)
        · exact (HSB.out _ ((Below.refl _ _))).2.2.2.2
        refine wpAnyH_take (i := 0) (oi := _) (v := ?_) rfl (by kernel_rfl) (by kernel_rfl) (by kernel_rfl) (fun _ _ _ h => h) (Or.inl ⟨by rfl, ?_⟩) (by assumption) ?_
        rotate_left
        · intro wX hSw; (try dsimp only at hSw); go_simp; first | done | with_reducible rfl
        simp only [List.getElem_toArray, List.getElem_cons_succ, List.getElem_cons_zero, Act.put, List.setIfInBounds_toArray, List.set_cons_zero, List.set_cons_succ]
        refine wpAnyH_take (i := 1) (oi := _) (v := _) rfl (by kernel_rfl) (by kernel_rfl) (by kernel_rfl) (fun _ _ _ h => h) (yieldsIf_load_mid (by rfl) _ _ rfl _ _ rfl _ _ (HRG.out) Tryd.underlying28 rfl (HSL.out)) (by assumption) ?_
        simp only [List.getElem_toArray, List.getElem_cons_succ, List.getElem_cons_zero, Act.put, List.setIfInBounds_toArray, List.set_cons_zero, List.set_cons_succ]
        refine wpAnyH_take (i := 2) (oi := _) (v := ?_) rfl (by kernel_rfl) (by kernel_rfl) (by kernel_rfl) (fun _ _ _ h => h) (Or.inl ⟨by rfl, ?_⟩) (by assumption) ?_
        rotate_left
        · intro wX hSw; (try dsimp only at hSw); go_simp; first | done | with_reducible rfl
        simp only [List.getElem_toArray, List.getElem_cons_succ, List.getElem_cons_zero, Act.put, List.setIfInBounds_toArray, List.set_cons_zero, List.set_cons_succ]
        refine wpAnyH_take (i := 3) (oi := _) (v := ?_) rfl (by kernel_rfl) (by kernel_rfl) (by kernel_rfl) (fun _ _ _ h => h) (Or.inl ⟨by rfl, ?_⟩) (by assumption) ?_
        rotate_left
        · intro wX hSw; (try dsimp only at hSw); go_simp; first | done | with_reducible rfl
        simp only [List.getElem_toArray, List.getElem_cons_succ, List.getElem_cons_zero, Act.put, List.setIfInBounds_toArray, List.set_cons_zero, List.set_cons_succ]
        refine wpAnyH_take (i := 5) (oi := _) (v := ?_) rfl (by kernel_rfl) (by kernel_rfl) (by kernel_rfl) (fun _ _ _ h => h) (Or.inl ⟨by rfl, ?_⟩) (by assumption) ?_
        rotate_left
        · intro wX hSw; (try dsimp only at hSw); go_simp; first | done | with_reducible rfl
        simp only [List.getElem_toArray, List.getElem_cons_succ, List.getElem_cons_zero, Act.put, List.setIfInBounds_toArray, List.set_cons_zero, List.set_cons_succ]
        refine wpAnyH_take (i := 8) (oi := _) (v := ?_) rfl (by kernel_rfl) (by kernel_rfl) (by kernel_rfl) (fun _ _ _ h => h) (Or.inl ⟨by rfl, ?_⟩) (by assumption) ?_
        rotate_left
        · intro wX hSw; (try dsimp only at hSw); go_simp; first | done | with_reducible rfl
        simp only [List.getElem_toArray, List.getElem_cons_succ, List.getElem_cons_zero, Act.put, List.setIfInBounds_toArray, List.set_cons_zero, List.set_cons_succ]
        refine wpAnyH_take (i := 9) (oi := _) (v := ?_) rfl (by kernel_rfl) (by kernel_rfl) (by kernel_rfl) (fun _ _ _ h => h) (Or.inl ⟨by rfl, ?_⟩) (by assumption) ?_
        rotate_left
        · intro wX hSw; (try dsimp only at hSw); go_simp; first | done | with_reducible rfl
        simp only [List.getElem_toArray, List.getElem_cons_succ, List.getElem_cons_zero, Act.put, List.setIfInBounds_toArray, List.set_cons_zero, List.set_cons_succ]
        refine wpAnyH_take (i := 10) (oi := _) (v := ?_) rfl (by kernel_rfl) (by kernel_rfl) (by kernel_rfl) (fun _ _ _ h => h) (Or.inl ⟨by rfl, ?_⟩) (by assumption) ?_
        rotate_left
        · intro wX hSw; (try dsimp only at hSw); go_simp; first | done | with_reducible rfl
        simp only [List.getElem_toArray, List.getElem_cons_succ, List.getElem_cons_zero, Act.put, List.setIfInBounds_toArray, List.set_cons_zero, List.set_cons_succ]
        refine wpAnyH_take (i := 11) (oi := _) (v := ?_) rfl (by kernel_rfl) (by kernel_rfl) (by kernel_rfl) (fun _ _ _ h => h) (Or.inl ⟨by rfl, ?_⟩) (by assumption) ?_
        rotate_left
        · intro wX hSw; (try dsimp only at hSw); go_simp; first | done | with_reducible rfl
        simp only [List.getElem_toArray, List.getElem_cons_succ, List.getElem_cons_zero, Act.put, List.setIfInBounds_toArray, List.set_cons_zero, List.set_cons_succ]
        refine wpAnyH_take (i := 12) (oi := _) (v := ?_) rfl (by kernel_rfl) (by kernel_rfl) (by kernel_rfl) (fun _ _ _ h => h) (Or.inl ⟨by rfl, ?_⟩) (by assumption) ?_
        rotate_left
        · intro wX hSw; (try dsimp only at hSw); go_simp; first | done | with_reducible rfl
        simp only [List.getElem_toArray, List.getElem_cons_succ, List.getElem_cons_zero, Act.put, List.setIfInBounds_toArray, List.set_cons_zero, List.set_cons_succ]
        refine wpAnyH_ready (rs := [4, 6]) (by kernel_rfl) (by simp) (AllReadyH.cons (o := _) rfl (fun KQ hKQ => ?_) (AllReadyH.cons (o := _) rfl (fun KQ hKQ => ?_) AllReadyH.nil))
        · go_simp
          refine (HOC.out _ (HSB.out _ ((Below.refl w6.heap.size w6).drew)).2.2.2.1).mono ?_
          rintro e W1 ⟨g1, c1, rfl, ho1, hb1⟩
          have hbX : Below w6.heap.size w6 W1 := ((Below.refl w6.heap.size w6).drew).trans hb1
          have HKX := hidd (show Below w6.heap.size w6 (W1.alloc (.cells #[.int .i64 (c : Int)] 2)) ∧ (W1.alloc (.cells #[.int .i64 (c : Int)] 2)).ownsRow w6.heap.size 2 1 (.slice (some ⟨g1, 0, none⟩) n c1) n (icells cs) ∧ Blk (W1.alloc (.cells #[.int .i64 (c : Int)] 2)) W1.heap.size #[.int .i64 (c : Int)] 2 from
            ⟨hbX.alloc hbX.size _, (own_base ho1 (Nat.le_refl _)).alloc _, Blk.new _ _ _ _ rfl⟩)
          clear ho1 hb1
          go_wp2_with fail
          refine hKQ.out _ _ ?_ (fun hNext => ?_)
          · exact (HSB.out _ hbX).2.2.2.2
          clear hKQ KQ hHeld
          have hHeld := hNext
          clear hNext
          refine wpAnyH_ready (rs := [6]) (by kernel_rfl) (by simp) (AllReadyH.cons (o := _) rfl (fun KQ hKQ => ?_) AllReadyH.nil)
          go_simp
          refine hKQ.out _ _ ?_ (fun hNext => ?_)
          · exact (HSB.out _ (hbX.alloc hbX.size _)).2.2.2.2
          clear hKQ KQ hHeld
          have hHeld := hNext
          clear hNext
          have hKX := HKX.out
          clear HKX hbX
          obtain ⟨ad, had⟩ : ∃ ad, ad = W1.heap.size := ⟨_, rfl⟩
          rw [← had] at hKX ⊢
          obtain ⟨WX, hWX⟩ : ∃ WX, WX = W1.alloc (.cells #[.int .i64 (c : Int)] 2) := ⟨_, rfl⟩
          rw [← hWX] at hKX hHeld ⊢
          clear hWX had
          have KX := hidd (show Below w6.heap.size w6 WX ∧ WX.ownsRow w6.heap.size 2 1 (.slice (some ⟨g1, 0, none⟩) n c1) n (icells cs) ∧ Blk WX ad #[.int .i64 (c : Int)] 2 from hKX)
          clear hKX
          have hsz := KX.out.1.size
          refine wpAnyH_ready (rs := [7]) (by kernel_rfl) (by simp) (AllReadyH.cons (o := _) rfl (fun KQ hKQ => ?_) AllReadyH.nil)
          rw [if_pos (by rfl)]
          refine wp_append_own _ _ _ 25 rfl w6.heap.size 2 t0 (.int .i64 0) 1 8 Tryd.underlying25 HI2.out.1 HI2.out.2.1 HI2.out.2.2.1 HI2.out.2.2.2 rfl (by decide) _ n (icells cs) rfl KX.out.2.1 ⟨ad, 0, none⟩ 1 1 [.int .i64 (c : Int)] rfl rfl ?c1 ?c2 ?c3 ?c4 ?c5 ?_
          case c1 => intro i u hi; rw [Addr.add_mid]; cases i with
            | zero => exact KX.out.2.2.cell (by simpa using hi)
            | succ i => simp at hi
          case c2 => intro u hu; simp at hu; subst hu; rfl
          case c3 => unfold maxLen; omega
          case c4 => omega
          case c5 => omega
          intro v' w3 hown' hgrow _
          have hb3 : Below w6.heap.size w6 w3 := Below.onRow KX.out.1 hsz hgrow (fun r hr => by
            rcases KX.out.2.1.2 with ⟨h1, _⟩ | ⟨g', cap', cur', h1, h2, _⟩
            · rw [h1] at hr; cases hr
            · rw [h1] at hr; cases hr; exact h2)
          rw [HIC.out c, ← HCL.out c] at hown'
          obtain ⟨a3, c3, hv3, ho3⟩ := own_list hown'
          rw [HCL.out c] at hv3
          subst hv3
          have hx3 : ∃ g3, a3 = some ⟨g3, 0, none⟩ := by
            rcases ho3 with h | ⟨g3, _, _, h, _⟩
            · simp at h
            · exact ⟨g3, h⟩
          obtain ⟨g3, rfl⟩ := hx3
          have hk3 := HSB.out w3 hb3
          have hE3 : Ex R N K zs bl off g g3 (setF s c V) (cs ++ [(c : Int)]) w3 := ⟨hk3.2.2.2.1.zc, hk3.2.2.1, ho3.baseR (HSB.out w6 (Below.refl _ _)).2.2.2.1.rb, hk3.2.2.2.1.rb⟩
          have hG := HIH.out (setF s c V) (cs ++ [(c : Int)]) g c5 g3 c3 M2 w3 hE3 HVS.out (by rw [HCL.out c]; exact HCR.out) hM21 (by omega)
          rw [HCL.out c] at hG
          have HG := hidd hG
          have K3 := hidd hb3
          clear hE3 ho3 hown' hgrow hG
          refine hKQ.out _ _ ?_ (fun hNext => ?_)
          · exact hk3.2.2.2.2
          clear hKQ KQ hHeld
          have hHeld := hNext
          clear hNext
          clear hk3 hb3
          simp only [List.getElem_toArray, List.getElem_cons_succ, List.getElem_cons_zero, Act.put, List.setIfInBounds_toArray, List.set_cons_zero, List.set_cons_succ]
          refine wpAnyH_ready (rs := [13]) (by kernel_rfl) (by simp) (AllReadyH.cons (o := _) rfl (fun KQ hKQ => ?_) AllReadyH.nil)
          go_simp
          refine HG.out.mono ?_
          rintro e w4 ⟨v4, rfl, hL4, hb4⟩
          have hb64 : Below w6.heap.size w6 w4 := K3.out.trans (hb4.mono K3.out.size)
          have hk4 := HSB.out w4 hb64
          obtain ⟨g4, cap4, xs4, rfl, hg4, hgl4, how4, hxl4, hxc4, hxe4⟩ := hL4.at
          obtain ⟨g1', cap1', xs1, hv1, hg1', hgl1, how1, hxl1, hxc1, hxe1⟩ := hk4.1.at
          have HR1 := hidd hk4.1.row
          obtain ⟨L4, hL4e⟩ : ∃ L4, L4 = (exL (okx bs N zs) K N r (setF s c V) (cs ++ [(c : Int)])).take M2 := ⟨_, rfl⟩
          have hl4 : L4.length ≤ M2 := by rw [hL4e, List.length_take]; omega
          rw [← hL4e] at how4 hxl4 hxe4 HOY1 ⊢
          have H4 := hidd (And.intro hk4.2.1 (And.intro how1 (And.intro hxl1 (And.intro hxe1 (And.intro hxl4 (And.intro hxc4 hxe4))))))
          clear hL4 hb64 hb4 hv1 how1 hxl1 hxc1 hxe1 how4 hxl4 hxc4 hxe4 hL4e
          go_wp2_with fail
          refine hKQ.out _ _ ?_ (fun hNext => ?_)
          · exact hk4.2.2.2.2
          clear hKQ KQ hHeld
          have hHeld := hNext
          clear hNext
          clear hk4
          rw [← HLN.out] at H4
          refine wpAnyH_ready (rs := [14]) (by kernel_rfl) (by simp) (AllReadyH.cons (o := _) rfl (fun KQ hKQ => ?_) AllReadyH.nil)
          rw [if_pos (by rfl)]
          refine wp_append_own _ _ _ 39 rfl B0 25 t5 (.slice none 0 0) 1 24 Tryd.underlying39 HI25.out.1 HI25.out.2.1 HI25.out.2.2.1 HI25.out.2.2.2 rfl (by decide) _ ln xs1 rfl H4.out.2.1 ⟨g4, 0, none⟩ L4.length cap4 xs4 rfl ?d1 ?d2 ?d3 ?d4 ?d5 ?d6 ?_
          case d1 => rw [H4.out.2.2.2.2.1]; omega
          case d2 => intro i u hi; rw [Addr.add_mid, Nat.zero_add]; exact H4.out.2.2.2.2.2.1 i u hi
          case d3 => exact slices_one H4.out.2.2.2.2.1 H4.out.2.2.2.2.2.2
          case d4 => unfold maxLen; omega
          case d5 => omega
          case d6 => have := H4.out.1.size; have := HB0.out; omega
          intro v' w7 hown7 hgrow7 hnil7
          have hne7 : v' ≠ .slice none 0 0 := fun e => by have := (hnil7.1 e).1; cases this
          have hb7 : Below B0 W0 w7 := Below.onRow H4.out.1 (by have := H4.out.1.size; have := HB0.out; omega) hgrow7 (fun r hr => (HR1.out r hr).1)
          have hL7 : LLb R w7 B0 v' (O c ++ L4) := LLb.app H4.out.2.2.2.1 (by rw [H4.out.2.2.1, HLN.out]) H4.out.2.2.2.2.2.2 (fun r hr => (HR1.out r hr).2) hgrow7 hne7 (by rw [← HLN.out]; exact hown7)
          rw [← HOY1.out] at hL7
          obtain ⟨g7, cap7, _, rfl, _⟩ := hL7.at
          have H7 := hidd (And.intro hL7 hb7)
          have hB7 := (HBK.out w7 hb7).1
          clear hL7 hb7 hne7 hnil7 hgrow7 hown7
          refine hKQ.out _ _ ?_ (fun hNext => ?_)
          · exact hB7
          clear hKQ KQ hHeld
          have hHeld := hNext
          clear hNext
          clear hB7
          simp only [List.getElem_toArray, List.getElem_cons_succ, List.getElem_cons_zero, Act.put, List.setIfInBounds_toArray, List.set_cons_zero, List.set_cons_succ]
          refine wpAnyH_ready (rs := [15]) (by kernel_rfl) (by simp) (AllReadyH.cons (o := _) rfl (fun KQ hKQ => ?_) AllReadyH.nil)
          go_simp
          refine hKQ.out _ _ ?_ (fun hNext => ?_)
          · exact hHeld
          clear hKQ KQ hHeld
          refine wpAnyH_done (by kernel_rfl) ?_ _
          clear hNext
          go_wp2_with fail
          go_roundw
          case rel => exact ⟨c + 1, g7, cap7, by omega, rfl, by go_num, H7.out⟩
          case measure => simp [intOf]; omega
        · go_simp
          refine hKQ.out _ _ ?_ (fun hNext => ?_)
          · exact (HSB.out _ (((Below.refl w6.heap.size w6).drew).alloc (Nat.le_refl _) _)).2.2.2.2
          clear hKQ KQ hHeld
          have hHeld := hNext
          clear hNext
          refine wpAnyH_ready (rs := [4]) (by kernel_rfl) (by simp) (AllReadyH.cons (o := _) rfl (fun KQ hKQ => ?_) AllReadyH.nil)
          go_simp
          have hbY : Below w6.heap.size w6 (w6.drew.alloc (.cells #[.int .i64 (c : Int)] 2)) := (((Below.refl w6.heap.size w6).drew).alloc (Nat.le_refl _) (.cells #[.int .i64 (c : Int)] 2))
          refine (HOC.out _ (HSB.out _ hbY).2.2.2.1).mono ?_
          rintro e WX ⟨g1, c1, rfl, ho1, hb1⟩
          have hbX : Below w6.heap.size w6 WX := hbY.trans (hb1.mono hbY.size)
          have KX := hidd (show Below w6.heap.size w6 WX ∧ WX.ownsRow w6.heap.size 2 1 (.slice (some ⟨g1, 0, none⟩) n c1) n (icells cs) ∧ Blk WX w6.heap.size #[.int .i64 (c : Int)] 2 from
            ⟨hbX, own_base ho1 hbY.size, (Blk.new w6.drew #[.int .i64 (c : Int)] 2 _ rfl).below hb1 (by simp)⟩)
          clear ho1 hb1 hbY
          go_wp2_with fail
          refine hKQ.out _ _ ?_ (fun hNext => ?_)
          · exact (HSB.out _ hbX).2.2.2.2
          clear hKQ KQ hHeld
          have hHeld := hNext
          clear hNext
          clear hbX
          have hsz := KX.out.1.size
          refine wpAnyH_ready (rs := [7]) (by kernel_rfl) (by simp) (AllReadyH.cons (o := _) rfl (fun KQ hKQ => ?_) AllReadyH.nil)
          rw [if_pos (by rfl)]
          refine wp_append_own _ _ _ 25 rfl w6.heap.size 2 t0 (.int .i64 0) 1 8 Tryd.underlying25 HI2.out.1 HI2.out.2.1 HI2.out.2.2.1 HI2.out.2.2.2 rfl (by decide) _ n (icells cs) rfl KX.out.2.1 ⟨w6.heap.size, 0, none⟩ 1 1 [.int .i64 (c : Int)] rfl rfl ?c1 ?c2 ?c3 ?c4 ?c5 ?_
          case c1 => intro i u hi; rw [Addr.add_mid]; cases i with
            | zero => exact KX.out.2.2.cell (by simpa using hi)
            | succ i => simp at hi
          case c2 => intro u hu; simp at hu; subst hu; rfl
          case c3 => unfold maxLen; omega
          case c4 => omega
          case c5 => omega
          intro v' w3 hown' hgrow _
          have hb3 : Below w6.heap.size w6 w3 := Below.onRow KX.out.1 hsz hgrow (fun r hr => by
            rcases KX.out.2.1.2 with ⟨h1, _⟩ | ⟨g', cap', cur', h1, h2, _⟩
            · rw [h1] at hr; cases hr
            · rw [h1] at hr; cases hr; exact h2)
          rw [HIC.out c, ← HCL.out c] at hown'
          obtain ⟨a3, c3, hv3, ho3⟩ := own_list hown'
          rw [HCL.out c] at hv3
          subst hv3
          have hx3 : ∃ g3, a3 = some ⟨g3, 0, none⟩ := by
            rcases ho3 with h | ⟨g3, _, _, h, _⟩
            · simp at h
            · exact ⟨g3, h⟩
          obtain ⟨g3, rfl⟩ := hx3
          have hk3 := HSB.out w3 hb3
          have hE3 : Ex R N K zs bl off g g3 (setF s c V) (cs ++ [(c : Int)]) w3 := ⟨hk3.2.2.2.1.zc, hk3.2.2.1, ho3.baseR (HSB.out w6 (Below.refl _ _)).2.2.2.1.rb, hk3.2.2.2.1.rb⟩
          have hG := HIH.out (setF s c V) (cs ++ [(c : Int)]) g c5 g3 c3 M2 w3 hE3 HVS.out (by rw [HCL.out c]; exact HCR.out) hM21 (by omega)
          rw [HCL.out c] at hG
          have HG := hidd hG
          have K3 := hidd hb3
          clear hE3 ho3 hown' hgrow hG
          refine hKQ.out _ _ ?_ (fun hNext => ?_)
          · exact hk3.2.2.2.2
          clear hKQ KQ hHeld
          have hHeld := hNext
          clear hNext
          clear hk3 hb3
          simp only [List.getElem_toArray, List.getElem_cons_succ, List.getElem_cons_zero, Act.put, List.setIfInBounds_toArray, List.set_cons_zero, List.set_cons_succ]
          refine wpAnyH_ready (rs := [13]) (by kernel_rfl) (by simp) (AllReadyH.cons (o := _) rfl (fun KQ hKQ => ?_) AllReadyH.nil)
          go_simp
          refine HG.out.mono ?_
          rintro e w4 ⟨v4, rfl, hL4, hb4⟩
          have hb64 : Below w6.heap.size w6 w4 := K3.out.trans (hb4.mono K3.out.size)
          have hk4 := HSB.out w4 hb64
          obtain ⟨g4, cap4, xs4, rfl, hg4, hgl4, how4, hxl4, hxc4, hxe4⟩ := hL4.at
          obtain ⟨g1', cap1', xs1, hv1, hg1', hgl1, how1, hxl1, hxc1, hxe1⟩ := hk4.1.at
          have HR1 := hidd hk4.1.row
          obtain ⟨L4, hL4e⟩ : ∃ L4, L4 = (exL (okx bs N zs) K N r (setF s c V) (cs ++ [(c : Int)])).take M2 := ⟨_, rfl⟩
          have hl4 : L4.length ≤ M2 := by rw [hL4e, List.length_take]; omega
          rw [← hL4e] at how4 hxl4 hxe4 HOY1 ⊢
          have H4 := hidd (And.intro hk4.2.1 (And.intro how1 (And.intro hxl1 (And.intro hxe1 (And.intro hxl4 (And.intro hxc4 hxe4))))))
          clear hL4 hb64 hb4 hv1 how1 hxl1 hxc1 hxe1 how4 hxl4 hxc4 hxe4 hL4e
          go_wp2_with fail
          refine hKQ.out _ _ ?_ (fun hNext => ?_)
          · exact hk4.2.2.2.2
          clear hKQ KQ hHeld
          have hHeld := hNext
          clear hNext
          clear hk4
          rw [← HLN.out] at H4
          refine wpAnyH_ready (rs := [14]) (by kernel_rfl) (by simp) (AllReadyH.cons (o := _) rfl (fun KQ hKQ => ?_) AllReadyH.nil)
          rw [if_pos (by rfl)]
          refine wp_append_own _ _ _ 39 rfl B0 25 t5 (.slice none 0 0) 1 24 Tryd.underlying39 HI25.out.1 HI25.out.2.1 HI25.out.2.2.1 HI25.out.2.2.2 rfl (by decide) _ ln xs1 rfl H4.out.2.1 ⟨g4, 0, none⟩ L4.length cap4 xs4 rfl ?d1 ?d2 ?d3 ?d4 ?d5 ?d6 ?_
          case d1 => rw [H4.out.2.2.2.2.1]; omega
          case d2 => intro i u hi; rw [Addr.add_mid, Nat.zero_add]; exact H4.out.2.2.2.2.2.1 i u hi
          case d3 => exact slices_one H4.out.2.2.2.2.1 H4.out.2.2.2.2.2.2
          case d4 => unfold maxLen; omega
          case d5 => omega
          case d6 => have := H4.out.1.size; have := HB0.out; omega
          intro v' w7 hown7 hgrow7 hnil7
          have hne7 : v' ≠ .slice none 0 0 := fun e => by have := (hnil7.1 e).1; cases this
          have hb7 : Below B0 W0 w7 := Below.onRow H4.out.1 (by have := H4.out.1.size; have := HB0.out; omega) hgrow7 (fun r hr => (HR1.out r hr).1)
          have hL7 : LLb R w7 B0 v' (O c ++ L4) := LLb.app H4.out.2.2.2.1 (by rw [H4.out.2.2.1, HLN.out]) H4.out.2.2.2.2.2.2 (fun r hr => (HR1.out r hr).2) hgrow7 hne7 (by rw [← HLN.out]; exact hown7)
          rw [← HOY1.out] at hL7
          obtain ⟨g7, cap7, _, rfl, _⟩ := hL7.at
          have H7 := hidd (And.intro hL7 hb7)
          have hB7 := (HBK.out w7 hb7).1
          clear hL7 hb7 hne7 hnil7 hgrow7 hown7
          refine hKQ.out _ _ ?_ (fun hNext => ?_)
          · exact hB7
          clear hKQ KQ hHeld
          have hHeld := hNext
          clear hNext
          clear hB7
          simp only [List.getElem_toArray, List.getElem_cons_succ, List.getElem_cons_zero, Act.put, List.setIfInBounds_toArray, List.set_cons_zero, List.set_cons_succ]
          refine wpAnyH_ready (rs := [15]) (by kernel_rfl) (by simp) (AllReadyH.cons (o := _) rfl (fun KQ hKQ => ?_) AllReadyH.nil)
          go_simp
          refine hKQ.out _ _ ?_ (fun hNext => ?_)
          · exact hHeld
          clear hKQ KQ hHeld
          refine wpAnyH_done (by kernel_rfl) ?_ _
          clear hNext
          go_wp2_with fail
          go_roundw
          case rel => exact ⟨c + 1, g7, cap7, by omega, rfl, by go_num, H7.out⟩
          case measure => simp [intOf]; omega
    · have hlmI : decide ((ln : Int) < (M : Int)) = false := by simp; omega
      have H3 := hidd (show ln = T.length ∧ LLb R wr B0 (.slice (some ⟨g0, 0, none⟩) ln cap0) T ∧ Below B0 W0 wr by
        rw [← HOM.out c hc (by rw [← HLN.out]; omega)]; exact ⟨HLN.out, HK.out⟩)
      have HF := hidd (show LLb R wr w.heap.size (.slice (some ⟨g0, 0, none⟩) ln cap0) T ∧ Below w.heap.size w wr from
        ⟨H3.out.2.1.base (by rw [HB0.out, G.out.2.2.2]; omega), (HBK.out wr H3.out.2.2).2.2⟩)
      go_wp2_with fail
      go_ret
      exact ⟨_, rfl, HF.out⟩
  · have hce : c = K := by omega
    have H3 := hidd (show LLb R wr B0 (.slice (some ⟨g0, 0, none⟩) ln cap0) T ∧ Below B0 W0 wr by
      rw [← HOK.out, ← hce]; exact HK.out)
    have HF := hidd (show LLb R wr w.heap.size (.slice (some ⟨g0, 0, none⟩) ln cap0) T ∧ Below w.heap.size w wr from
      ⟨H3.out.1.base (by rw [HB0.out, G.out.2.2.2]; omega), (HBK.out wr H3.out.2).2.2⟩)
    subst hce
    have hltI : decide ((c : Int) < (c : Int)) = false := by simp
    go_wp2_with fail
    go_ret
    exact ⟨_, rfl, HF.out⟩
end Go.Proofs.YtckffliiidgilaaDoor
