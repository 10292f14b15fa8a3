/- FullCliques: the model. -/
import Derived.Test.YtkiocedhibeieaaDoorFld
namespace Go.Proofs.YtkiocedhibeieaaDoor
set_option linter.unusedVariables false
set_option linter.unusedSimpArgs false
open Go Go.RowKit Go.Shelf
attribute [local go_sem] Oper.semAt_some
/-- The full cliques, as descending lists. -/
def fcS (N : Nat) (bs : List Nat) (c : Int) : List (List Nat) := fqE (rwN bs c N) N N []
def fcL (n k : Int) (bs : List Nat) (c : Int) : List (List Int) := if given n k bs c [] = 0 then (if (fcS n.toNat bs c).length ≤ 200 then (fcS n.toNat bs c).map rv else []) else []
def fcCode (n k : Int) (bs : List Nat) (c : Int) : Int := if given n k bs c [] = 0 then (if (fcS n.toNat bs c).length ≤ 200 then 0 else 3) else given n k bs c []
theorem fulB_nil {R : Nat → Nat} {N : Nat} (h : 1 ≤ N) : fulB R N [] = false := by
  unfold fulB
  rw [List.all_eq_false]
  exact ⟨0, List.mem_range.2 (by omega), by simp [fitR]⟩
theorem xB_full (R : Nat → Nat) (N : Nat) : xB R N [] N = 0 := by
  apply Nat.eq_of_testBit_eq
  intro q
  rw [Nat.zero_testBit]
  by_cases hq : q < N
  · rw [xB_bit hq]; simp
  · exact xB_high (by omega)
theorem st4_start {C : Array Value} {N : Nat} {R : Nat → Nat} {w W : World} (h1 : Blk W w.heap.size C 28) (h2 : Below w.heap.size w W) : St4 C N R w W none none none :=
  ⟨h1, h2, (fun _ e => nomatch e), (fun _ e => nomatch e), (fun _ e => nomatch e), (fun _ _ e => nomatch e)⟩
theorem pw_ext : ∀ (s t : List Nat), s.Pairwise (· > ·) → t.Pairwise (· > ·) → (∀ q, q ∈ s ↔ q ∈ t) → s = t
  | [], [], _, _, _ => rfl
  | [], b :: t, _, _, h => by have := (h b).2 (List.mem_cons_self ..); cases this
  | a :: s, [], _, _, h => by have := (h a).1 (List.mem_cons_self ..); cases this
  | a :: s, b :: t, hs, ht, h => by
    obtain ⟨h1, h2⟩ := List.pairwise_cons.1 hs
    obtain ⟨h3, h4⟩ := List.pairwise_cons.1 ht
    have e : a = b := by
      have x := (h a).1 (List.mem_cons_self ..)
      have y := (h b).2 (List.mem_cons_self ..)
      rcases List.mem_cons.1 x with x | x
      · exact x
      · rcases List.mem_cons.1 y with y | y
        · exact y.symm
        · have := h3 a x; have := h1 b y; omega
    subst e
    rw [pw_ext s t h2 h4 fun q => ⟨fun hq => by
      rcases List.mem_cons.1 ((h q).1 (List.mem_cons_of_mem _ hq)) with x | x
      · have := h1 q hq; omega
      · exact x, fun hq => by
      rcases List.mem_cons.1 ((h q).2 (List.mem_cons_of_mem _ hq)) with x | x
      · have := h3 q hq; omega
      · exact x⟩]
theorem setD_bitS {s : List Nat} (hs : s.Pairwise (· > ·)) (h : ∀ q, q ∈ s → q < 17) : setD (bitS s) 17 = s := by
  refine pw_ext _ _ (setD_pw _ 17) hs fun q => ?_
  rw [setD_mem, bitS_bit]
  exact ⟨fun h => of_decide_eq_true h.2, fun hq => ⟨h q hq, decide_eq_true hq⟩⟩
def RelFm (C : Array Value) (w : World) (Ss : List Int) (aq : Option Addr) (vo : Value) (L : List (List Int)) (W : World) : Prop :=
  Blk W w.heap.size C 28 ∧ OwnL W 0 aq Ss ∧ LLW W w.heap.size vo L ∧ Below w.heap.size w W
theorem RelFm.keep {C : Array Value} {w W W' : World} {Ss : List Int} {aq : Option Addr} {vo : Value} {L : List (List Int)} (h : RelFm C w Ss aq vo L W) (hb : Below W.heap.size W W') : RelFm C w Ss aq vo L W' :=
  ⟨h.1.below hb h.1.lt, h.2.1.below hb (Nat.le_refl _), h.2.2.1.below hb (Nat.le_refl _), h.2.2.2.trans (hb.mono h.2.2.2.size)⟩
theorem pw17 {s : List Nat} (hs : s.Pairwise (· > ·)) (h : ∀ q ∈ s, q < 17) : s.length ≤ 17 :=
  nodupN 17 s (hs.imp fun h => by omega) h
set_option maxRecDepth 100000 in
set_option maxHeartbeats 2000000 in
theorem spec27_good (N : Nat) (k : Int) (bs : List Nat) (hb : Bys bs) (c : Int) (n1 : 1 ≤ N) (n2 : N ≤ 17) (h0 : given (N : Int) k bs c [] = 0) (w : World) :
    Calls Tryd.prog 27 #[.agg (ccells (N : Int) k bs).toArray, .int .i64 c] w (LLOut0 w (if (fcS N bs c).length ≤ 200 then (fcS N bs c).map rv else []) (if (fcS N bs c).length ≤ 200 then 0 else 3)) := by
  have HS := hidd (size_c26 (N : Int) k hb)
  have HSL := hidd (show (Tryd.prog.info? 28).map (·.size) = some (ccells (N : Int) k bs).length by rw [size26]; simp [ccells_len, hb.len])
  have HG := hidd (fun W => given56 (N : Int) k bs hb c [] none 0 W (sl_none W) (by simp))
  rw [h0] at HG
  have HR := hidd (fun W => rows74 N k bs hb c n1 n2 W)
  obtain ⟨G, hG⟩ : ∃ G, G = rwN bs c N := ⟨_, rfl⟩
  have HFG := hidd (show fillA (rowF N bs c) N = fillA (fun j => ((G j : Nat) : Int)) N by rw [hG]; rfl)
  have hG17 : ∀ p, G p < 2 ^ 17 := fun p => by rw [hG]; exact cpG_17 bs c n2 p
  have hG0 : ∀ q, (G q).testBit q = false := by rw [hG]; exact rwN_irr bs c N
  obtain ⟨T, hT⟩ : ∃ T, T = fcS N bs c := ⟨_, rfl⟩
  have hTG : fqH G N N [] = T := by unfold fqH; rw [fulB_nil n1, hT, hG]; rfl
  have hTl : T.Pairwise fun x y => lexB (rv y) (rv x) = false := by rw [hT]; exact fqE_lex (Nat.le_refl _)
  have hTo : ∀ t ∈ T, t.Pairwise (· > ·) ∧ ∀ q ∈ t, q < N := fun t ht => by
    rw [hT] at ht
    exact cqE_ok N [] t (Nat.le_refl _) List.Pairwise.nil (fun q h => by cases h) (List.mem_filter.1 ht).1
  rw [← hT]
  obtain ⟨Y, hY⟩ : ∃ Y : Nat, Y = 2 ^ N := ⟨_, rfl⟩
  have hYv : Y ≤ 131072 := by rw [hY]; exact Nat.pow_le_pow_right (by omega) n2
  have hY1 : 1 ≤ Y := by rw [hY]; exact Nat.two_pow_pos N
  have hsh : IntKind.i64.wrap (2 ^ N) = (Y : Int) := by rw [show (2 : Int) ^ N = ((2 ^ N : Nat) : Int) by simp, ← hY]; exact IntWalk.i64_in _ (by omega)
  have hwy : IntKind.i64.wrap ((Y : Int) - 1) = (Y : Int) - 1 := IntWalk.i64_in _ (by omega)
  have hu : IntKind.u64.wrap (N : Int) = (N : Int) := by unfold IntKind.wrap; simp [IntKind.signed, IntKind.bits]; omega
  have hmn : min N 64 = N := by omega
  have hFU := fun (W : World) (b o cr : Nat) (hA : RwB W b (.slice (some ⟨o, 0, none⟩) 0 0) N G) (hL : W.ownsRow 0 2 1 (.slice (some ⟨o, 0, none⟩) 0 0) 0 (icells [])) => full56 N n2 G hG0 hG17 b cr 201 (by omega) (N + 1) N [] (by omega) (Nat.le_refl _) (by simp) W (some ⟨o, 0, none⟩) 0 [] hA hL (Nat.zero_le _)
  rw [hTG, frB_full, xB_full, ← hY, show (((Y - 1 : Nat) : Nat) : Int) = (Y : Int) - 1 by omega] at hFU
  simp only [show bitS [] = 0 from rfl, List.nil_append, List.length_nil] at hFU
  obtain ⟨Ss, hSs⟩ : ∃ Ss, Ss = ((T.map fun c => ((bitS c : Nat) : Int)).take 201) := ⟨_, rfl⟩
  rw [← hSs] at hFU
  have HFU := hidd (fun (W : World) (b o : Nat) {cr : Nat} (hA : RwB W b (.slice (some ⟨o, 0, none⟩) 0 0) N G) (hL : W.ownsRow 0 2 1 (.slice (some ⟨o, 0, none⟩) 0 0) 0 (icells [])) => (show Calls Tryd.prog 56 #[.slice (some ⟨b, 0, none⟩) N cr, .int .i64 0, .int .i64 ((Y : Int) - 1), .int .i64 0, .slice (some ⟨o, 0, none⟩) 0 0, .int .i64 201] W (FOut W (.slice (some ⟨o, 0, none⟩) 0 0) Ss) from hFU W b o cr hA hL))
  obtain ⟨AL, hAL⟩ : ∃ AL : List (List Int), AL = if T.length ≤ 200 then T.map rv else [] := ⟨_, rfl⟩
  obtain ⟨AC, hAC⟩ : ∃ AC : Int, AC = if T.length ≤ 200 then 0 else 3 := ⟨_, rfl⟩
  rw [← hAL, ← hAC]
  have HAA := hidd (And.intro hAL hAC)
  have HC0 := hidd (show (ccells (N : Int) k bs).toArray[0]? = some (.int .i64 (N : Int)) from rfl)
  have HRG := hidd (fun (W : World) (h : Blk W w.heap.size (ccells (N : Int) k bs).toArray 28) => h.range 0 (ccells (N : Int) k bs) (fun i v hv => by rw [Nat.zero_add]; simpa using hv))
  have HCX := hidd (fun (W : World) (h : Blk W w.heap.size (ccells (N : Int) k bs).toArray 28) => h.cell HC0.out)
  obtain ⟨t0, hi2, hz0, hz1, hz3⟩ := info_parts info25
  have HIF := hidd (And.intro hi2 (And.intro hz0 (And.intro hz1 hz3)))
  have HTL := hidd hTl
  have HTO := hidd hTo
  have HSS := hidd hSs
  clear hAL hAC hG hG0 hG17 hT hTG hTl hTo hY hFU hSs h0 hi2 hz0 hz1 hz3
  go_enter Tryd.func27, Tryd.ntmps27
  go_wp2_with (refine wpList_load_row rfl 28 (.tmp 2) rfl w.heap.size rfl 28 _ (0,0) _ (Blk.new _ _ _ _ rfl) Tryd.underlying28 rfl HS.out ?_)
  refine (HG.out _).mono ?_
  rintro e w1 ⟨rfl, hb1⟩
  have G1 := hidd (And.intro ((Blk.new w (ccells (N : Int) k bs).toArray 28 _ rfl).below hb1 (by simp)) (((Below.refl w.heap.size w).alloc (Nat.le_refl _) (.cells (ccells (N : Int) k bs).toArray 28)).trans (hb1.mono (by simp))))
  clear hb1
  go_upto_region 4 with fail
  go_cut [7, 8] from 18 to 28 (fun s7 s8 wx => ∃ (aq : Option Addr) (cq g : Nat), s7 = .slice aq Ss.length cq ∧ s8 = .slice (some ⟨g, 0, none⟩) 0 0 ∧ St5 (ccells (N : Int) k bs).toArray w wx Ss aq (some g))
  case first =>
    have HST := hidd (show St4 (ccells (N : Int) k bs).toArray N G w w1.drew none none none from st4_start (G1.out.1.below (Below.refl w1.heap.size w1).drew G1.out.1.lt) (G1.out.2.trans ((Below.refl _ _).drew)))
    refine wp_region_held_drew (S := (fun W => Blk W w.heap.size (ccells (N : Int) k bs).toArray 28)) (by kernel_rfl) ?_ (fun hHeld => ?_)
    · exact G1.out.1
    clear G1
    obtain ⟨W1, hW1⟩ : ∃ x, x = w1.drew := ⟨_, rfl⟩
    rw [← hW1] at hHeld HST ⊢
    clear hW1
    refine wpAnyH_take (i := 0) (oi := _) (v := _) rfl (by kernel_rfl) (by kernel_rfl) (by kernel_rfl) (fun _ _ _ h => h) (yieldsIf_load_mid (by rfl) _ _ rfl _ _ rfl _ _ (HRG.out) Tryd.underlying28 rfl (HSL.out)) (by assumption) ?_
    simp only [List.getElem_toArray, List.getElem_cons_succ, List.getElem_cons_zero, Act.put, List.setIfInBounds_toArray, List.set_cons_zero, List.set_cons_succ]
    refine wpAnyH_take (i := 1) (oi := _) (v := ?_) rfl (by kernel_rfl) (by kernel_rfl) (by kernel_rfl) (fun _ _ _ h => h) (Or.inl ⟨by rfl, ?_⟩) (by assumption) ?_
    rotate_left
    · intro wX hSw; (try dsimp only at hSw); go_simp; first | done | with_reducible rfl
    simp only [List.getElem_toArray, List.getElem_cons_succ, List.getElem_cons_zero, Act.put, List.setIfInBounds_toArray, List.set_cons_zero, List.set_cons_succ]
    refine wpAnyH_take (i := 3) (oi := _) (v := ?_) rfl (by kernel_rfl) (by kernel_rfl) (by kernel_rfl) (fun _ _ _ h => h) (Or.inl ⟨by rfl, ?_⟩) (by assumption) ?_
    rotate_left
    · intro wX hSw; (try dsimp only at hSw); go_simp; first | done | with_reducible rfl
    simp only [List.getElem_toArray, List.getElem_cons_succ, List.getElem_cons_zero, Act.put, List.setIfInBounds_toArray, List.set_cons_zero, List.set_cons_succ]
    refine wpAnyH_take (i := 4) (oi := _) (v := ?_) rfl (by kernel_rfl) (by kernel_rfl) (by kernel_rfl) (fun _ _ _ h => h) (Or.inl ⟨by rfl, ?_⟩) (by assumption) ?_
    rotate_left
    · intro wX hSw; have e1 := HCX.out wX hSw; go_simp; first | done | with_reducible rfl
    simp only [List.getElem_toArray, List.getElem_cons_succ, List.getElem_cons_zero, Act.put, List.setIfInBounds_toArray, List.set_cons_zero, List.set_cons_succ]
    refine wpAnyH_take (i := 5) (oi := _) (v := ?_) rfl (by kernel_rfl) (by kernel_rfl) (by kernel_rfl) (fun _ _ _ h => h) (Or.inl ⟨by rfl, ?_⟩) (by assumption) ?_
    rotate_left
    · intro wX hSw; (try dsimp only at hSw); go_simp; first | done | with_reducible rfl
    simp only [List.getElem_toArray, List.getElem_cons_succ, List.getElem_cons_zero, Act.put, List.setIfInBounds_toArray, List.set_cons_zero, List.set_cons_succ]
    refine wpAnyH_take (i := 6) (oi := _) (v := ?_) rfl (by kernel_rfl) (by kernel_rfl) (by kernel_rfl) (fun _ _ _ h => h) (Or.inl ⟨by rfl, ?_⟩) (by assumption) ?_
    rotate_left
    · intro wX hSw; (try dsimp only at hSw); go_simp; first | done | with_reducible rfl
    simp only [List.getElem_toArray, List.getElem_cons_succ, List.getElem_cons_zero, Act.put, List.setIfInBounds_toArray, List.set_cons_zero, List.set_cons_succ]
    refine wpAnyH_take (i := 7) (oi := _) (v := ?_) rfl (by kernel_rfl) (by kernel_rfl) (by kernel_rfl) (fun _ _ _ h => h) (Or.inl ⟨by rfl, ?_⟩) (by assumption) ?_
    rotate_left
    · intro wX hSw; (try dsimp only at hSw); go_simp; first | done | with_reducible rfl
    simp only [List.getElem_toArray, List.getElem_cons_succ, List.getElem_cons_zero, Act.put, List.setIfInBounds_toArray, List.set_cons_zero, List.set_cons_succ]
    refine wpAnyH_ready (rs := [2, 8, 10]) (by kernel_rfl) (by simp) (AllReadyH.cons (o := _) rfl (fun KQ hKQ => ?_) (AllReadyH.cons (o := _) rfl (fun KQ hKQ => ?_) (AllReadyH.cons (o := _) rfl (fun KQ hKQ => ?_) AllReadyH.nil)))
    · go_simp
      refine (HR.out _).mono ?_
      rintro e W2 ⟨ar, cr, rfl, ho, hbY⟩
      rw [HFG.out] at ho
      obtain ⟨rb, rfl, hst⟩ := HST.out.row hbY n1 ho
      clear HST ho hbY
      refine hKQ.out _ _ ?_ (fun hNext => ?_)
      · exact hst.1
      clear hKQ KQ hHeld
      have hHeld := hNext
      clear hNext
      have HST := hidd hst
      clear hst
      refine wpAnyH_ready (rs := [8, 10]) (by kernel_rfl) (by simp) (AllReadyH.cons (o := _) rfl (fun KQ hKQ => ?_) (AllReadyH.cons (o := _) rfl (fun KQ hKQ => ?_) AllReadyH.nil))
      · go_simp
        have hst := HST.out.out
        clear HST
        obtain ⟨W3, hWW⟩ : ∃ x, x = W2.alloc (.cells #[] 2) := ⟨_, rfl⟩
        rw [← hWW] at hst ⊢
        clear hWW
        refine hKQ.out _ _ ?_ (fun hNext => ?_)
        · exact hst.1
        clear hKQ KQ hHeld
        have hHeld := hNext
        clear hNext
        have HST := hidd hst
        clear hst
        refine wpAnyH_ready (rs := [9, 10]) (by kernel_rfl) (by simp) (AllReadyH.cons (o := _) rfl (fun KQ hKQ => ?_) (AllReadyH.cons (o := _) rfl (fun KQ hKQ => ?_) AllReadyH.nil))
        · go_simp
          refine (HFU.out _ _ _ HST.out.rwb.1 HST.out.rwb.2).mono ?_
          rintro e W4 ⟨aq, cq, rfl, ho, hfr⟩
          have hst := HST.out.find ho hfr
          clear HST ho hfr
          refine hKQ.out _ _ ?_ (fun hNext => ?_)
          · exact hst.1
          clear hKQ KQ hHeld
          have hHeld := hNext
          clear hNext
          have HST := hidd hst
          clear hst
          refine wpAnyH_take (i := 11) (oi := _) (v := ?_) rfl (by kernel_rfl) (by kernel_rfl) (by kernel_rfl) (fun _ _ _ h => h) (Or.inl ⟨by rfl, ?_⟩) (by assumption) ?_
          rotate_left
          · intro wX hSw; (try dsimp only at hSw); go_simp; first | done | with_reducible rfl
          simp only [List.getElem_toArray, List.getElem_cons_succ, List.getElem_cons_zero, Act.put, List.setIfInBounds_toArray, List.set_cons_zero, List.set_cons_succ]
          refine wpAnyH_ready (rs := [10]) (by kernel_rfl) (by simp) (AllReadyH.cons (o := _) rfl (fun KQ hKQ => ?_) AllReadyH.nil)
          go_simp
          have hst := HST.out.ll
          clear HST
          obtain ⟨W5, hWW⟩ : ∃ x, x = W4.alloc (.cells #[] 25) := ⟨_, rfl⟩
          rw [← hWW] at hst ⊢
          clear hWW
          refine hKQ.out _ _ ?_ (fun hNext => ?_)
          · exact hst.1
          clear hKQ KQ hHeld
          have hHeld := hNext
          clear hNext
          have HST := hidd hst
          clear hst
          refine wpAnyH_take (i := 12) (oi := _) (v := ?_) rfl (by kernel_rfl) (by kernel_rfl) (by kernel_rfl) (fun _ _ _ h => h) (Or.inl ⟨by rfl, ?_⟩) (by assumption) ?_
          rotate_left
          · intro wX hSw; (try dsimp only at hSw); go_simp; first | done | with_reducible rfl
          simp only [List.getElem_toArray, List.getElem_cons_succ, List.getElem_cons_zero, Act.put, List.setIfInBounds_toArray, List.set_cons_zero, List.set_cons_succ]
          refine wpAnyH_done (by kernel_rfl) ?_ _
          clear hHeld
          go_wp2_with fail
          go_meet
          exact ⟨_, _, _, rfl, rfl, HST.out⟩
        · go_simp
          have hst := HST.out.ll
          clear HST
          obtain ⟨W4, hWW⟩ : ∃ x, x = W3.alloc (.cells #[] 25) := ⟨_, rfl⟩
          rw [← hWW] at hst ⊢
          clear hWW
          refine hKQ.out _ _ ?_ (fun hNext => ?_)
          · exact hst.1
          clear hKQ KQ hHeld
          have hHeld := hNext
          clear hNext
          have HST := hidd hst
          clear hst
          refine wpAnyH_ready (rs := [9]) (by kernel_rfl) (by simp) (AllReadyH.cons (o := _) rfl (fun KQ hKQ => ?_) AllReadyH.nil)
          go_simp
          refine (HFU.out _ _ _ HST.out.rwb.1 HST.out.rwb.2).mono ?_
          rintro e W5 ⟨aq, cq, rfl, ho, hfr⟩
          have hst := HST.out.find ho hfr
          clear HST ho hfr
          refine hKQ.out _ _ ?_ (fun hNext => ?_)
          · exact hst.1
          clear hKQ KQ hHeld
          have hHeld := hNext
          clear hNext
          have HST := hidd hst
          clear hst
          refine wpAnyH_take (i := 11) (oi := _) (v := ?_) rfl (by kernel_rfl) (by kernel_rfl) (by kernel_rfl) (fun _ _ _ h => h) (Or.inl ⟨by rfl, ?_⟩) (by assumption) ?_
          rotate_left
          · intro wX hSw; (try dsimp only at hSw); go_simp; first | done | with_reducible rfl
          simp only [List.getElem_toArray, List.getElem_cons_succ, List.getElem_cons_zero, Act.put, List.setIfInBounds_toArray, List.set_cons_zero, List.set_cons_succ]
          refine wpAnyH_take (i := 12) (oi := _) (v := ?_) rfl (by kernel_rfl) (by kernel_rfl) (by kernel_rfl) (fun _ _ _ h => h) (Or.inl ⟨by rfl, ?_⟩) (by assumption) ?_
          rotate_left
          · intro wX hSw; (try dsimp only at hSw); go_simp; first | done | with_reducible rfl
          simp only [List.getElem_toArray, List.getElem_cons_succ, List.getElem_cons_zero, Act.put, List.setIfInBounds_toArray, List.set_cons_zero, List.set_cons_succ]
          refine wpAnyH_done (by kernel_rfl) ?_ _
          clear hHeld
          go_wp2_with fail
          go_meet
          exact ⟨_, _, _, rfl, rfl, HST.out⟩
      · go_simp
        have hst := HST.out.ll
        clear HST
        obtain ⟨W3, hWW⟩ : ∃ x, x = W2.alloc (.cells #[] 25) := ⟨_, rfl⟩
        rw [← hWW] at hst ⊢
        clear hWW
        refine hKQ.out _ _ ?_ (fun hNext => ?_)
        · exact hst.1
        clear hKQ KQ hHeld
        have hHeld := hNext
        clear hNext
        have HST := hidd hst
        clear hst
        refine wpAnyH_ready (rs := [8]) (by kernel_rfl) (by simp) (AllReadyH.cons (o := _) rfl (fun KQ hKQ => ?_) AllReadyH.nil)
        go_simp
        have hst := HST.out.out
        clear HST
        obtain ⟨W4, hWW⟩ : ∃ x, x = W3.alloc (.cells #[] 2) := ⟨_, rfl⟩
        rw [← hWW] at hst ⊢
        clear hWW
        refine hKQ.out _ _ ?_ (fun hNext => ?_)
        · exact hst.1
        clear hKQ KQ hHeld
        have hHeld := hNext
        clear hNext
        have HST := hidd hst
        clear hst
        refine wpAnyH_ready (rs := [9]) (by kernel_rfl) (by simp) (AllReadyH.cons (o := _) rfl (fun KQ hKQ => ?_) AllReadyH.nil)
        go_simp
        refine (HFU.out _ _ _ HST.out.rwb.1 HST.out.rwb.2).mono ?_
        rintro e W5 ⟨aq, cq, rfl, ho, hfr⟩
        have hst := HST.out.find ho hfr
        clear HST ho hfr
        refine hKQ.out _ _ ?_ (fun hNext => ?_)
        · exact hst.1
        clear hKQ KQ hHeld
        have hHeld := hNext
        clear hNext
        have HST := hidd hst
        clear hst
        refine wpAnyH_take (i := 11) (oi := _) (v := ?_) rfl (by kernel_rfl) (by kernel_rfl) (by kernel_rfl) (fun _ _ _ h => h) (Or.inl ⟨by rfl, ?_⟩) (by assumption) ?_
        rotate_left
        · intro wX hSw; (try dsimp only at hSw); go_simp; first | done | with_reducible rfl
        simp only [List.getElem_toArray, List.getElem_cons_succ, List.getElem_cons_zero, Act.put, List.setIfInBounds_toArray, List.set_cons_zero, List.set_cons_succ]
        refine wpAnyH_take (i := 12) (oi := _) (v := ?_) rfl (by kernel_rfl) (by kernel_rfl) (by kernel_rfl) (fun _ _ _ h => h) (Or.inl ⟨by rfl, ?_⟩) (by assumption) ?_
        rotate_left
        · intro wX hSw; (try dsimp only at hSw); go_simp; first | done | with_reducible rfl
        simp only [List.getElem_toArray, List.getElem_cons_succ, List.getElem_cons_zero, Act.put, List.setIfInBounds_toArray, List.set_cons_zero, List.set_cons_succ]
        refine wpAnyH_done (by kernel_rfl) ?_ _
        clear hHeld
        go_wp2_with fail
        go_meet
        exact ⟨_, _, _, rfl, rfl, HST.out⟩
    · go_simp
      have hst := HST.out.out
      clear HST
      obtain ⟨W2, hWW⟩ : ∃ x, x = W1.alloc (.cells #[] 2) := ⟨_, rfl⟩
      rw [← hWW] at hst ⊢
      clear hWW
      refine hKQ.out _ _ ?_ (fun hNext => ?_)
      · exact hst.1
      clear hKQ KQ hHeld
      have hHeld := hNext
      clear hNext
      have HST := hidd hst
      clear hst
      refine wpAnyH_ready (rs := [2, 10]) (by kernel_rfl) (by simp) (AllReadyH.cons (o := _) rfl (fun KQ hKQ => ?_) (AllReadyH.cons (o := _) rfl (fun KQ hKQ => ?_) AllReadyH.nil))
      · go_simp
        refine (HR.out _).mono ?_
        rintro e W3 ⟨ar, cr, rfl, ho, hbY⟩
        rw [HFG.out] at ho
        obtain ⟨rb, rfl, hst⟩ := HST.out.row hbY n1 ho
        clear HST ho hbY
        refine hKQ.out _ _ ?_ (fun hNext => ?_)
        · exact hst.1
        clear hKQ KQ hHeld
        have hHeld := hNext
        clear hNext
        have HST := hidd hst
        clear hst
        refine wpAnyH_ready (rs := [9, 10]) (by kernel_rfl) (by simp) (AllReadyH.cons (o := _) rfl (fun KQ hKQ => ?_) (AllReadyH.cons (o := _) rfl (fun KQ hKQ => ?_) AllReadyH.nil))
        · go_simp
          refine (HFU.out _ _ _ HST.out.rwb.1 HST.out.rwb.2).mono ?_
          rintro e W4 ⟨aq, cq, rfl, ho, hfr⟩
          have hst := HST.out.find ho hfr
          clear HST ho hfr
          refine hKQ.out _ _ ?_ (fun hNext => ?_)
          · exact hst.1
          clear hKQ KQ hHeld
          have hHeld := hNext
          clear hNext
          have HST := hidd hst
          clear hst
          refine wpAnyH_take (i := 11) (oi := _) (v := ?_) rfl (by kernel_rfl) (by kernel_rfl) (by kernel_rfl) (fun _ _ _ h => h) (Or.inl ⟨by rfl, ?_⟩) (by assumption) ?_
          rotate_left
          · intro wX hSw; (try dsimp only at hSw); go_simp; first | done | with_reducible rfl
          simp only [List.getElem_toArray, List.getElem_cons_succ, List.getElem_cons_zero, Act.put, List.setIfInBounds_toArray, List.set_cons_zero, List.set_cons_succ]
          refine wpAnyH_ready (rs := [10]) (by kernel_rfl) (by simp) (AllReadyH.cons (o := _) rfl (fun KQ hKQ => ?_) AllReadyH.nil)
          go_simp
          have hst := HST.out.ll
          clear HST
          obtain ⟨W5, hWW⟩ : ∃ x, x = W4.alloc (.cells #[] 25) := ⟨_, rfl⟩
          rw [← hWW] at hst ⊢
          clear hWW
          refine hKQ.out _ _ ?_ (fun hNext => ?_)
          · exact hst.1
          clear hKQ KQ hHeld
          have hHeld := hNext
          clear hNext
          have HST := hidd hst
          clear hst
          refine wpAnyH_take (i := 12) (oi := _) (v := ?_) rfl (by kernel_rfl) (by kernel_rfl) (by kernel_rfl) (fun _ _ _ h => h) (Or.inl ⟨by rfl, ?_⟩) (by assumption) ?_
          rotate_left
          · intro wX hSw; (try dsimp only at hSw); go_simp; first | done | with_reducible rfl
          simp only [List.getElem_toArray, List.getElem_cons_succ, List.getElem_cons_zero, Act.put, List.setIfInBounds_toArray, List.set_cons_zero, List.set_cons_succ]
          refine wpAnyH_done (by kernel_rfl) ?_ _
          clear hHeld
          go_wp2_with fail
          go_meet
          exact ⟨_, _, _, rfl, rfl, HST.out⟩
        · go_simp
          have hst := HST.out.ll
          clear HST
          obtain ⟨W4, hWW⟩ : ∃ x, x = W3.alloc (.cells #[] 25) := ⟨_, rfl⟩
          rw [← hWW] at hst ⊢
          clear hWW
          refine hKQ.out _ _ ?_ (fun hNext => ?_)
          · exact hst.1
          clear hKQ KQ hHeld
          have hHeld := hNext
          clear hNext
          have HST := hidd hst
          clear hst
          refine wpAnyH_ready (rs := [9]) (by kernel_rfl) (by simp) (AllReadyH.cons (o := _) rfl (fun KQ hKQ => ?_) AllReadyH.nil)
          go_simp
          refine (HFU.out _ _ _ HST.out.rwb.1 HST.out.rwb.2).mono ?_
          rintro e W5 ⟨aq, cq, rfl, ho, hfr⟩
          have hst := HST.out.find ho hfr
          clear HST ho hfr
          refine hKQ.out _ _ ?_ (fun hNext => ?_)
          · exact hst.1
          clear hKQ KQ hHeld
          have hHeld := hNext
          clear hNext
          have HST := hidd hst
          clear hst
          refine wpAnyH_take (i := 11) (oi := _) (v := ?_) rfl (by kernel_rfl) (by kernel_rfl) (by kernel_rfl) (fun _ _ _ h => h) (Or.inl ⟨by rfl, ?_⟩) (by assumption) ?_
          rotate_left
          · intro wX hSw; (try dsimp only at hSw); go_simp; first | done | with_reducible rfl
          simp only [List.getElem_toArray, List.getElem_cons_succ, List.getElem_cons_zero, Act.put, List.setIfInBounds_toArray, List.set_cons_zero, List.set_cons_succ]
          refine wpAnyH_take (i := 12) (oi := _) (v := ?_) rfl (by kernel_rfl) (by kernel_rfl) (by kernel_rfl) (fun _ _ _ h => h) (Or.inl ⟨by rfl, ?_⟩) (by assumption) ?_
          rotate_left
          · intro wX hSw; (try dsimp only at hSw); go_simp; first | done | with_reducible rfl
          simp only [List.getElem_toArray, List.getElem_cons_succ, List.getElem_cons_zero, Act.put, List.setIfInBounds_toArray, List.set_cons_zero, List.set_cons_succ]
          refine wpAnyH_done (by kernel_rfl) ?_ _
          clear hHeld
          go_wp2_with fail
          go_meet
          exact ⟨_, _, _, rfl, rfl, HST.out⟩
      · go_simp
        have hst := HST.out.ll
        clear HST
        obtain ⟨W3, hWW⟩ : ∃ x, x = W2.alloc (.cells #[] 25) := ⟨_, rfl⟩
        rw [← hWW] at hst ⊢
        clear hWW
        refine hKQ.out _ _ ?_ (fun hNext => ?_)
        · exact hst.1
        clear hKQ KQ hHeld
        have hHeld := hNext
        clear hNext
        have HST := hidd hst
        clear hst
        refine wpAnyH_ready (rs := [2]) (by kernel_rfl) (by simp) (AllReadyH.cons (o := _) rfl (fun KQ hKQ => ?_) AllReadyH.nil)
        go_simp
        refine (HR.out _).mono ?_
        rintro e W4 ⟨ar, cr, rfl, ho, hbY⟩
        rw [HFG.out] at ho
        obtain ⟨rb, rfl, hst⟩ := HST.out.row hbY n1 ho
        clear HST ho hbY
        refine hKQ.out _ _ ?_ (fun hNext => ?_)
        · exact hst.1
        clear hKQ KQ hHeld
        have hHeld := hNext
        clear hNext
        have HST := hidd hst
        clear hst
        refine wpAnyH_ready (rs := [9]) (by kernel_rfl) (by simp) (AllReadyH.cons (o := _) rfl (fun KQ hKQ => ?_) AllReadyH.nil)
        go_simp
        refine (HFU.out _ _ _ HST.out.rwb.1 HST.out.rwb.2).mono ?_
        rintro e W5 ⟨aq, cq, rfl, ho, hfr⟩
        have hst := HST.out.find ho hfr
        clear HST ho hfr
        refine hKQ.out _ _ ?_ (fun hNext => ?_)
        · exact hst.1
        clear hKQ KQ hHeld
        have hHeld := hNext
        clear hNext
        have HST := hidd hst
        clear hst
        refine wpAnyH_take (i := 11) (oi := _) (v := ?_) rfl (by kernel_rfl) (by kernel_rfl) (by kernel_rfl) (fun _ _ _ h => h) (Or.inl ⟨by rfl, ?_⟩) (by assumption) ?_
        rotate_left
        · intro wX hSw; (try dsimp only at hSw); go_simp; first | done | with_reducible rfl
        simp only [List.getElem_toArray, List.getElem_cons_succ, List.getElem_cons_zero, Act.put, List.setIfInBounds_toArray, List.set_cons_zero, List.set_cons_succ]
        refine wpAnyH_take (i := 12) (oi := _) (v := ?_) rfl (by kernel_rfl) (by kernel_rfl) (by kernel_rfl) (fun _ _ _ h => h) (Or.inl ⟨by rfl, ?_⟩) (by assumption) ?_
        rotate_left
        · intro wX hSw; (try dsimp only at hSw); go_simp; first | done | with_reducible rfl
        simp only [List.getElem_toArray, List.getElem_cons_succ, List.getElem_cons_zero, Act.put, List.setIfInBounds_toArray, List.set_cons_zero, List.set_cons_succ]
        refine wpAnyH_done (by kernel_rfl) ?_ _
        clear hHeld
        go_wp2_with fail
        go_meet
        exact ⟨_, _, _, rfl, rfl, HST.out⟩
    · go_simp
      have hst := HST.out.ll
      clear HST
      obtain ⟨W2, hWW⟩ : ∃ x, x = W1.alloc (.cells #[] 25) := ⟨_, rfl⟩
      rw [← hWW] at hst ⊢
      clear hWW
      refine hKQ.out _ _ ?_ (fun hNext => ?_)
      · exact hst.1
      clear hKQ KQ hHeld
      have hHeld := hNext
      clear hNext
      have HST := hidd hst
      clear hst
      refine wpAnyH_ready (rs := [2, 8]) (by kernel_rfl) (by simp) (AllReadyH.cons (o := _) rfl (fun KQ hKQ => ?_) (AllReadyH.cons (o := _) rfl (fun KQ hKQ => ?_) AllReadyH.nil))
      · go_simp
        refine (HR.out _).mono ?_
        rintro e W3 ⟨ar, cr, rfl, ho, hbY⟩
        rw [HFG.out] at ho
        obtain ⟨rb, rfl, hst⟩ := HST.out.row hbY n1 ho
        clear HST ho hbY
        refine hKQ.out _ _ ?_ (fun hNext => ?_)
        · exact hst.1
        clear hKQ KQ hHeld
        have hHeld := hNext
        clear hNext
        have HST := hidd hst
        clear hst
        refine wpAnyH_ready (rs := [8]) (by kernel_rfl) (by simp) (AllReadyH.cons (o := _) rfl (fun KQ hKQ => ?_) AllReadyH.nil)
        go_simp
        have hst := HST.out.out
        clear HST
        obtain ⟨W4, hWW⟩ : ∃ x, x = W3.alloc (.cells #[] 2) := ⟨_, rfl⟩
        rw [← hWW] at hst ⊢
        clear hWW
        refine hKQ.out _ _ ?_ (fun hNext => ?_)
        · exact hst.1
        clear hKQ KQ hHeld
        have hHeld := hNext
        clear hNext
        have HST := hidd hst
        clear hst
        refine wpAnyH_ready (rs := [9]) (by kernel_rfl) (by simp) (AllReadyH.cons (o := _) rfl (fun KQ hKQ => ?_) AllReadyH.nil)
        go_simp
        refine (HFU.out _ _ _ HST.out.rwb.1 HST.out.rwb.2).mono ?_
        rintro e W5 ⟨aq, cq, rfl, ho, hfr⟩
        have hst := HST.out.find ho hfr
        clear HST ho hfr
        refine hKQ.out _ _ ?_ (fun hNext => ?_)
        · exact hst.1
        clear hKQ KQ hHeld
        have hHeld := hNext
        clear hNext
        have HST := hidd hst
        clear hst
        refine wpAnyH_take (i := 11) (oi := _) (v := ?_) rfl (by kernel_rfl) (by kernel_rfl) (by kernel_rfl) (fun _ _ _ h => h) (Or.inl ⟨by rfl, ?_⟩) (by assumption) ?_
        rotate_left
        · intro wX hSw; (try dsimp only at hSw); go_simp; first | done | with_reducible rfl
        simp only [List.getElem_toArray, List.getElem_cons_succ, List.getElem_cons_zero, Act.put, List.setIfInBounds_toArray, List.set_cons_zero, List.set_cons_succ]
        refine wpAnyH_take (i := 12) (oi := _) (v := ?_) rfl (by kernel_rfl) (by kernel_rfl) (by kernel_rfl) (fun _ _ _ h => h) (Or.inl ⟨by rfl, ?_⟩) (by assumption) ?_
        rotate_left
        · intro wX hSw; (try dsimp only at hSw); go_simp; first | done | with_reducible rfl
        simp only [List.getElem_toArray, List.getElem_cons_succ, List.getElem_cons_zero, Act.put, List.setIfInBounds_toArray, List.set_cons_zero, List.set_cons_succ]
        refine wpAnyH_done (by kernel_rfl) ?_ _
        clear hHeld
        go_wp2_with fail
        go_meet
        exact ⟨_, _, _, rfl, rfl, HST.out⟩
      · go_simp
        have hst := HST.out.out
        clear HST
        obtain ⟨W3, hWW⟩ : ∃ x, x = W2.alloc (.cells #[] 2) := ⟨_, rfl⟩
        rw [← hWW] at hst ⊢
        clear hWW
        refine hKQ.out _ _ ?_ (fun hNext => ?_)
        · exact hst.1
        clear hKQ KQ hHeld
        have hHeld := hNext
        clear hNext
        have HST := hidd hst
        clear hst
        refine wpAnyH_ready (rs := [2]) (by kernel_rfl) (by simp) (AllReadyH.cons (o := _) rfl (fun KQ hKQ => ?_) AllReadyH.nil)
        go_simp
        refine (HR.out _).mono ?_
        rintro e W4 ⟨ar, cr, rfl, ho, hbY⟩
        rw [HFG.out] at ho
        obtain ⟨rb, rfl, hst⟩ := HST.out.row hbY n1 ho
        clear HST ho hbY
        refine hKQ.out _ _ ?_ (fun hNext => ?_)
        · exact hst.1
        clear hKQ KQ hHeld
        have hHeld := hNext
        clear hNext
        have HST := hidd hst
        clear hst
        refine wpAnyH_ready (rs := [9]) (by kernel_rfl) (by simp) (AllReadyH.cons (o := _) rfl (fun KQ hKQ => ?_) AllReadyH.nil)
        go_simp
        refine (HFU.out _ _ _ HST.out.rwb.1 HST.out.rwb.2).mono ?_
        rintro e W5 ⟨aq, cq, rfl, ho, hfr⟩
        have hst := HST.out.find ho hfr
        clear HST ho hfr
        refine hKQ.out _ _ ?_ (fun hNext => ?_)
        · exact hst.1
        clear hKQ KQ hHeld
        have hHeld := hNext
        clear hNext
        have HST := hidd hst
        clear hst
        refine wpAnyH_take (i := 11) (oi := _) (v := ?_) rfl (by kernel_rfl) (by kernel_rfl) (by kernel_rfl) (fun _ _ _ h => h) (Or.inl ⟨by rfl, ?_⟩) (by assumption) ?_
        rotate_left
        · intro wX hSw; (try dsimp only at hSw); go_simp; first | done | with_reducible rfl
        simp only [List.getElem_toArray, List.getElem_cons_succ, List.getElem_cons_zero, Act.put, List.setIfInBounds_toArray, List.set_cons_zero, List.set_cons_succ]
        refine wpAnyH_take (i := 12) (oi := _) (v := ?_) rfl (by kernel_rfl) (by kernel_rfl) (by kernel_rfl) (fun _ _ _ h => h) (Or.inl ⟨by rfl, ?_⟩) (by assumption) ?_
        rotate_left
        · intro wX hSw; (try dsimp only at hSw); go_simp; first | done | with_reducible rfl
        simp only [List.getElem_toArray, List.getElem_cons_succ, List.getElem_cons_zero, Act.put, List.setIfInBounds_toArray, List.set_cons_zero, List.set_cons_succ]
        refine wpAnyH_done (by kernel_rfl) ?_ _
        clear hHeld
        go_wp2_with fail
        go_meet
        exact ⟨_, _, _, rfl, rfl, HST.out⟩
  case rest =>
  obtain ⟨aq, cq, g, rfl, rfl, HX⟩ := hcut
  have HX := hidd HX
  clear G1 HG HR HFU HFG
  by_cases h200 : T.length ≤ 200
  · have hlen : Ss.length = T.length := by rw [HSS.out, List.length_take, List.length_map]; omega
    have HAL := hidd (show AL = T.map rv ∧ AC = 0 by have h := HAA.out; rw [if_pos h200, if_pos h200] at h; exact h)
    have d200 : decide ((200 : Int) < (Ss.length : Int)) = false := by simp; omega
    have HSG := hidd (fun (i : Nat) (hi : i < T.length) => (show Ss.getD i 0 = ((bitS T[i] : Nat) : Int) by
      rw [HSS.out]
      simp [List.getD, List.getElem?_take, hi, show i < 201 by omega]))
    obtain ⟨m, hm⟩ : ∃ m, m = Ss.length := ⟨_, rfl⟩
    rw [← hm] at d200 hlen ⊢
    have HM := hidd hm
    have hm2 : m ≤ 200 := by omega
    have HLN := hidd hlen
    clear hm hlen
    have HR0 := hidd (show RelFm (ccells (N : Int) k bs).toArray w Ss aq (.slice (some ⟨g, 0, none⟩) 0 0) [] wc from
      ⟨HX.out.1, HX.out.2.2.1, llw_empty _ _ _ (by have := (HX.out.2.2.2 g rfl).2; omega) (HX.out.2.2.2 g rfl).1, HX.out.2.1⟩)
    clear HX HAA h200
    go_wp2_with fail
    go_loopw [8, 9] (fun eo e wr => ∃ (i : Nat) (vo : Value), i ≤ m ∧ e = .int .i64 (i : Int) ∧ vo = eo ∧ Hid (RelFm (ccells (N : Int) k bs).toArray w Ss aq vo ((T.map rv).take i) wr)) (fun _ e _ => m - (intOf e).toNat)
    case atStart => exact ⟨0, _, by omega, rfl, rfl, HR0⟩
    case round =>
    clear HR0
    obtain ⟨i, vo, hi, rfl, rfl, HK⟩ := hrel
    by_cases hlt : i < m
    · have hltI : decide ((i : Int) < (m : Int)) = true := by simp; omega
      have hiT : i < T.length := by rw [← HLN.out]; exact hlt
      have hSi := HSG.out i hiT
      obtain ⟨ho1, ho2⟩ := HTO.out T[i] (List.getElem_mem hiT)
      have hX17 : bitS T[i] < 2 ^ 17 := Nat.lt_of_lt_of_le (bitS_lt _ ho2) (Nat.pow_le_pow_right (by omega) n2)
      have hz : setL (bitS T[i]) = rv T[i] := by
        unfold setL
        congr 1
        exact setD_bitS ho1 (fun q hq => by have := ho2 q hq; omega)
      have hz17 : (setL (bitS T[i])).length ≤ 17 := setL_17 hX17
      have HTK := hidd (show (T.map rv).take (i + 1) = (T.map rv).take i ++ [setL (bitS T[i])] by
        rw [List.take_succ_eq_append_getElem (by simpa using hiT), hz]; simp)
      obtain ⟨X, hX⟩ : ∃ X, X = bitS T[i] := ⟨_, rfl⟩
      rw [← hX] at hSi hX17 hz17 HTK
      rcases HK.out.2.1 with e | ⟨b2, C2, h1, h2, h3, h4, h5⟩
      · exfalso; have := HM.out; rw [e] at this; simp at this; omega
      subst h2
      have cm := h3.cell (h5 i (by rw [← HM.out]; exact hlt))
      rw [hSi] at cm
      have HP8 := hidd (points58 X hX17 wr)
      obtain ⟨L, hL⟩ : ∃ L, L = (T.map rv).take i := ⟨_, rfl⟩
      have hLl : L.length = i := by rw [hL, List.length_take, List.length_map]; omega
      rw [← hL] at HTK HK
      have HB5 := hidd h5
      obtain ⟨ao, co, rfl⟩ := HK.out.2.2.1.shape
      have HPREV := hidd (show ∀ j, j < L.length → L.getD j [] = rv (T.getD j []) from fun j hj => by
        have hjT : j < T.length := by omega
        rw [hL]
        simp [List.getD, List.getElem?_take, hjT, show j < i by omega])
      have HXT := hidd (show setL X = rv (T.getD i []) by rw [hX, hz]; simp [List.getD, hiT])
      have HTI := hidd hiT
      have hl200 : L.length ≤ 200 := by omega
      subst hLl
      clear hz hX hSi h5 h4 h3 h1 ho1 ho2 hL hiT
      go_wp2_with fail
      refine HP8.out.mono ?_
      rintro e X1 ⟨vz, rfl, hz, hbX⟩
      obtain ⟨az, cz, rfl, hoz⟩ := own_list hz
      obtain ⟨q1, q2, q3, q4⟩ := HK.out
      obtain ⟨A, hA1, hA2, hA3⟩ := q3
      have HA := hidd (And.intro hA2 hA3)
      have hown0 := own_below (own_below hA1 hbX (Nat.le_refl _)) ((Below.refl X1.heap.size X1).alloc (Nat.le_refl _) (.cells #[.slice az (setL X).length cz] 25)) (Nat.le_refl _)
      have HX := hidd (And.intro hbX hoz)
      have hsX := hbX.size
      have hsW := q4.size
      clear hz hoz hbX q1 q2 q4 hA1 hA2 hA3 HP8
      go_wp2_with (at_builtin; refine wpList_append_own _ rfl _ _ 37 rfl w.heap.size 25 t0 (.slice none 0 0) 1 24 Tryd.underlying37 HIF.out.1 HIF.out.2.1 HIF.out.2.2.1 HIF.out.2.2.2 rfl (by decide) _ _ _ rfl hown0 ⟨X1.heap.size, 0, none⟩ 1 1 [.slice az (setL X).length cz] rfl rfl ?c1 ?c2 ?c3 ?c4 ?c5 ?_)
      case c1 => exact one_new _ _ _
      case c2 => intro u hu; simp at hu; subst hu; rfl
      case c3 => unfold maxLen; omega
      case c4 => omega
      case c5 => simp; omega
      intro v' Y hown' hgrow _
      have hLLW := HK.out.2.2.1
      have K3 := hidd (show RelFm (ccells (N : Int) k bs).toArray w Ss (some ⟨b2, 0, none⟩) v' (L ++ [setL X]) Y from
        ⟨grow_blk hLLW HX.out.1 hgrow (HK.out.1.below HX.out.1 HK.out.1.lt) (by decide), grow_own hLLW HX.out.1 hgrow (HK.out.2.1.below HX.out.1 (Nat.le_refl _)), LLW.push hLLW hsW HX.out.1 HX.out.2 hgrow HA.out hown', HK.out.2.2.2.trans (grow_below hLLW HX.out.1 hgrow hsW)⟩)
      have KO := hidd (grow_own hLLW HX.out.1 hgrow HX.out.2)
      have KP := hidd (fun j (hj : j < L.length) => grow_own hLLW HX.out.1 hgrow ((HA.out.1 j hj).below HX.out.1 (Nat.le_refl _)))
      obtain ⟨hl0, hcase⟩ := hown'
      rcases hcase with ⟨_, h0⟩ | ⟨g', cap', cur, rfl, hg', hBk, hle, hmx, hsz, htk⟩
      · omega
      have hget : ∀ j, j < L.length + 1 → cur[j]? = (lcells A L ++ [Value.slice az (setL X).length cz])[j]? := fun j hj => by
        rw [← htk, List.getElem?_take, if_pos (by omega)]; simp
      have hcI : cur[L.length]? = some (.slice az (setL X).length cz) := by
        rw [hget _ (by omega), List.getElem?_append_right (by rw [lcells_len]; exact Nat.le_refl _), lcells_len]; simp
      have HPC := hidd (fun j (hj : j < L.length) => (show cur[j]? = some (.slice (A j).1 (L.getD j []).length (A j).2) by
        rw [hget _ (by omega), List.getElem?_append_left (by rw [lcells_len]; exact hj), lcells_get hj]))
      have HBK := hidd (And.intro (show Blk Y g' cur 25 from hBk) hcI)
      clear hget htk hmx hsz hg' hl0 hgrow hown0 hLLW hcI hBk
      go_wp2_with fail
      go_loopw [11] (fun e wr => e = .int .i64 (L.length : Int) ∧ Hid (wr = Y)) (fun _ _ => 0)
      case atStart => exact ⟨rfl, hidd rfl⟩
      case round =>
      obtain ⟨rfl, hY⟩ := hrel
      obtain ⟨wz, hwz⟩ : ∃ wz, wz = wr := ⟨_, rfl⟩
      rw [← hwz] at hY ⊢
      obtain rfl := hY.out
      clear hwz hY
      have cI := HBK.out.1.cell HBK.out.2
      have fI := HBK.out.1.fro L.length
      by_cases hz0 : L.length = 0
      · have hd0 : decide ((0 : Int) < (L.length : Int)) = false := decide_eq_false (by omega)
        have hdn : decide (0 < L.length) = false := decide_eq_false (by omega)
        have hdq : ¬ 0 < L.length := by omega
        have hln : L.length ≤ 200 := hl200
        have K4 := hidd (show RelFm (ccells (N : Int) k bs).toArray w Ss (some ⟨b2, 0, none⟩) (.slice (some ⟨g', 0, none⟩) (L.length + 1) cap') ((T.map rv).take (L.length + 1)) (wz.setCell ⟨g', L.length, none⟩ (.slice az (setL X).length cz)) by
          rw [setCell_self HBK.out.1 HBK.out.2, HTK.out]; exact K3.out)
        clear hz0 K3
        go_wp2_with fail
        go_roundw
        case rel => exact ⟨L.length + 1, _, by omega, by go_num, rfl, K4⟩
        case measure => simp [intOf]; omega
      · have hd0 : decide ((0 : Int) < (L.length : Int)) = true := decide_eq_true (by omega)
        have hdn : decide (0 < L.length) = true := decide_eq_true (by omega)
        have hdq : 0 < L.length := by omega
        obtain ⟨p, hp⟩ : ∃ p, L.length = p + 1 := ⟨L.length - 1, by omega⟩
        have hpL : p < L.length := by omega
        have hI1 : (L.length : Int) - 1 = (p : Int) := by omega
        have cP := HBK.out.1.cell (HPC.out p hpL)
        have HLT := hidd (show lexB (setL X) (L.getD p []) = false by
          rw [HXT.out, HPREV.out p hpL]
          have h := List.pairwise_iff_getElem.1 HTL.out p L.length (by have := HTI.out; omega) HTI.out hpL
          have e1 : T.getD L.length [] = T[L.length]'HTI.out := by rw [List.getD, List.getElem?_eq_getElem HTI.out]; rfl
          have e2 : T.getD p [] = T[p]'(by have := HTI.out; omega) := by
            rw [List.getD, List.getElem?_eq_getElem (by have := HTI.out; omega)]; rfl
          rw [e1, e2]
          exact h)
        have hyl : (L.getD p []).length ≤ 17 := by
          have h3 : p < T.length := by have := HTI.out; omega
          rw [HPREV.out p hpL, rv_len]
          have e2 : T.getD p [] = T[p] := by rw [List.getD, List.getElem?_eq_getElem h3]; rfl
          rw [e2]
          obtain ⟨r1, r2⟩ := HTO.out T[p] (List.getElem_mem h3)
          have := pw17 r1 (fun q hq => Nat.lt_of_lt_of_le (r2 q hq) n2)
          exact this
        have HBE := hidd (before59 (setL X) (L.getD p []) az (A p).1 cz (A p).2 wz KO.out.sl (KP.out p hpL).sl (by omega) (by omega))
        rw [HLT.out] at HBE
        obtain ⟨ys, hys⟩ : ∃ ys, ys = L.getD p [] := ⟨_, rfl⟩
        obtain ⟨pa, hpa⟩ : ∃ pa, pa = (A p).1 := ⟨_, rfl⟩
        obtain ⟨pc, hpc⟩ : ∃ pc, pc = (A p).2 := ⟨_, rfl⟩
        rw [← hys, ← hpa, ← hpc] at cP HBE
        have K4 := hidd (fun n => (show RelFm (ccells (N : Int) k bs).toArray w Ss (some ⟨b2, 0, none⟩) (.slice (some ⟨g', 0, none⟩) (L.length + 1) cap') ((T.map rv).take (L.length + 1)) ((wz.drewN n).setCell ⟨g', L.length, none⟩ (.slice az (setL X).length cz)) by
          rw [setCell_self (HBK.out.1.drewN n) HBK.out.2, HTK.out]; exact K3.out.keep (below_drewN (Below.refl _ _) n)))
        clear hz0 K3 hys hpa hpc HLT hyl hp
        go_wp2_with fail
        refine HBE.out.mono ?_
        rintro e w9 ⟨rfl, n, rfl⟩
        have cI' : (wz.drewN n).cell? ⟨g', L.length, none⟩ = some (.slice az (setL X).length cz) := cI
        have fI' : (wz.drewN n).frozen? ⟨g', L.length, none⟩ = false := fI
        clear HBE hI1 cP
        go_wp2_with fail
        go_roundw
        case rel => exact ⟨L.length + 1, _, by omega, by go_num, rfl, hidd (K4.out n)⟩
        case measure => simp [intOf]; omega
    · have hltI : decide ((i : Int) < (m : Int)) = false := by simp; omega
      have HE := hidd (show (T.map rv).take i = AL by rw [HAL.out.1]; exact List.take_of_length_le (by rw [List.length_map, ← HLN.out]; omega))
      rw [HE.out] at HK
      obtain ⟨a9, c9, rfl, hLO⟩ := HK.out.2.2.1.out
      have K9 := hidd (And.intro hLO HK.out.2.2.2)
      clear hLO HK
      go_wp2_with fail
      go_ret2
      rw [HAL.out.2]
      exact ⟨a9, c9, rfl, K9.out.1.reads, K9.out.2⟩
  · have hlen : Ss.length = 201 := by rw [HSS.out, List.length_take, List.length_map]; omega
    have HAL := hidd (show AL = [] ∧ AC = 3 by have h := HAA.out; rw [if_neg h200, if_neg h200] at h; exact h)
    have d200 : decide ((200 : Int) < (Ss.length : Int)) = true := by simp; omega
    have HB := hidd HX.out.2.1
    clear HX HAA h200
    go_wp2_with fail
    go_ret2
    rw [HAL.out.1, HAL.out.2]
    exact ⟨none, 0, rfl, .inl rfl, HB.out⟩
end Go.Proofs.YtkiocedhibeieaaDoor
