/- DegreesOf: the program's own text. -/
import Derived.Test.YtpjegmmichjlbaaDegrees
import Derived.Test.YtpjegmmichjlbaaColouringIm
import Derived.Sort.QuietTacIn
namespace Go.Proofs.Ytpjegmmichjlbaa
set_option linter.unusedVariables false
set_option linter.unusedSimpArgs false
open Go Go.RowKit Go.Shelf
attribute [local go_sem] Oper.semAt_some
theorem dg_hit {N : Nat} {bs : List Nat} {c : Int} {l : List (Nat × Nat × Nat)} {t : Nat × Nat × Nat} (hc : ((bs.getD t.1 0 : Nat) : Int) = c) (hne : t.2.1 ≠ t.2.2) :
    ((dgL N (eCnt bs c l)).set t.2.1 ((eCnt bs c l t.2.1 + 1 : Nat) : Int)).set t.2.2 ((eCnt bs c l t.2.2 + 1 : Nat) : Int) = dgL N (eCnt bs c (l ++ [t])) := by
  rw [dgL_set, dgL_set]
  refine dgL_congr fun p _ => ?_
  rw [eCnt_snoc]
  unfold hit
  simp only [decide_eq_true hc, Bool.true_and]
  by_cases h2 : p = t.2.2
  · subst h2; simp
  · by_cases h1 : p = t.2.1
    · subst h1; simp [h2]
    · simp [h1, h2, show ¬ t.2.1 = p from fun e => h1 e.symm, show ¬ t.2.2 = p from fun e => h2 e.symm]
theorem dg_miss {N : Nat} {bs : List Nat} {c : Int} {l : List (Nat × Nat × Nat)} {t : Nat × Nat × Nat} (hc : ¬ ((bs.getD t.1 0 : Nat) : Int) = c) :
    dgL N (eCnt bs c (l ++ [t])) = dgL N (eCnt bs c l) := by
  refine dgL_congr fun p _ => ?_
  rw [eCnt_snoc]
  unfold hit
  simp only [decide_eq_false hc, Bool.false_and]
  simp
theorem ko_drewN (W : World) (m : Nat) : KeepsOthers W (W.drewN m) := ⟨Nat.le_refl _, fun _ _ h _ => h⟩
def RelDe {N : Nat} (k : Int) (bs : List Nat) (c : Int) (g : Nat) (w : World) (pre : List (Edg N)) (W : World) : Prop :=
  Blk W w.heap.size (ccells (N : Int) k bs).toArray 29 ∧ Blk W (w.heap.size + 1) #[.int .i64 c] 2 ∧ Blk W g (icells (dgL N (eCnt bs c (pre.map Edg.v)))).toArray 2 ∧ Blk W (g + 1) #[.slice (some ⟨g, 0, none⟩) N N] 38 ∧ Below w.heap.size w W
theorem dgL_zero (N : Nat) (bs : List Nat) (c : Int) : zrow N = (icells (dgL N (eCnt bs c []))).toArray := by
  rw [zrow_icells]
  congr 2
  apply List.ext_getElem
  · simp [dgL]
  · intro p h1 h2
    simp [dgL, eCnt]
set_option maxRecDepth 100000 in
set_option maxHeartbeats 2000000 in
theorem impl32 (n k : Int) (bs : List Nat) (hb : Bys bs) (c : Int) (w : World) :
    Calls Try.prog 46 #[.agg (ccells n k bs).toArray, .int .i64 c] w (LOut w (dgList n k bs c) (dgCode n k bs c)) := by
  have HS := hidd (size_c26 n k hb)
  cases hi : isCol n k bs with
  | false =>
    obtain ⟨e1, e2⟩ := dg_bad (given_1 (c := c) (zs := []) hi) (by omega)
    rw [e1, e2]
    have HI := hidd hi
    clear hi e1 e2
    go_enter Try.func46, Try.ntmps46
    go_wp2_with (refine wpList_load_row rfl 29 (.tmp 2) rfl w.heap.size rfl 29 _ (0,0) _ ((Blk.new _ _ _ _ rfl).alloc _) Try.underlying29 rfl HS.out ?_)
    refine (implIs_any n k bs hb _).mono ?_
    rintro e w1 ⟨rfl, hb1⟩
    rw [HI.out]
    have G := hidd ((((Below.refl _ _).alloc (Nat.le_refl _) _).alloc (by simp) _).trans (hb1.mono (B' := w.heap.size) (by simp; omega)))
    clear hb1
    go_wp2
    go_ret2
    exact lout_nil rfl G.out
  | true =>
    have HI := hidd hi
    obtain ⟨n1, n2, k1, k2⟩ := isCol_bd hi
    have HC0 := hidd (show (ccells n k bs).toArray[0]? = some (.int .i64 n) from rfl)
    have HC1 := hidd (show (ccells n k bs).toArray[1]? = some (.int .i64 k) from rfl)
    cases hbc : belowB c k with
    | false =>
      obtain ⟨e1, e2⟩ := dg_bad (given_2 (c := c) (zs := []) hi (by rw [hbc]; rfl)) (by omega)
      rw [e1, e2]
      have HB := hidd hbc
      clear hi hbc e1 e2
      go_enter Try.func46, Try.ntmps46
      go_wp2_with (refine wpList_load_row rfl 29 (.tmp 2) rfl w.heap.size rfl 29 _ (0,0) _ ((Blk.new _ _ _ _ rfl).alloc _) Try.underlying29 rfl HS.out ?_)
      refine (implIs_any n k bs hb _).mono ?_
      rintro e w1 ⟨rfl, hb1⟩
      rw [HI.out]
      have hB := ((Blk.new w (ccells n k bs).toArray 29 _ rfl).alloc (.cells #[.int .i64 c] 2)).below hb1 (by simp; omega)
      have hC := (Blk.new (w.alloc (.cells (ccells n k bs).toArray 29)) #[.int .i64 c] 2 (w.heap.size + 1) (by simp)).below hb1 (by simp)
      have g1 := hB.cell HC1.out
      have g2 := hC.cell (j := 0) (show _ = some (Value.int .i64 c) from rfl)
      have G := hidd ((((Below.refl _ _).alloc (Nat.le_refl _) _).alloc (by simp) _).trans (hb1.mono (B' := w.heap.size) (by simp; omega)))
      clear hb1 hB hC
      go_wp2_with (go_at_call 49; refine (below61 _ _ _).mono ?_; rintro e w' ⟨rfl, rfl⟩; rw [HB.out])
      go_ret2
      exact lout_nil rfl G.out
    | true =>
      obtain ⟨e1, e2⟩ := dg_good (given_0 (c := c) (zs := []) hi hbc (by simp [allB]))
      rw [e1, e2]
      have HB := hidd hbc
      obtain ⟨N, rfl⟩ := Int.eq_ofNat_of_zero_le (show 0 ≤ n by omega)
      rw [Int.toNat_natCast]
      have hmk := make29 N (by omega)
      clear hi hbc e1 e2
      have hfn : ∀ f, Fence.wide.fn f := fun _ => trivial
      refine (callsIn_wide (n := 8)).1 (callsIn_of_wp_marks Try.func46 rfl trivial ?_ rfl)
      simp only [Try.ntmps46, List.size_toArray, List.length_cons, List.length_nil, Nat.reduceAdd, Nat.reduceSub, Array.replicate_succ, Array.replicate_zero, List.push_toArray, List.append_toArray, List.nil_append, List.cons_append]
      gi_wp2_with (refine inLoadRow rfl 29 (.tmp 2) rfl w.heap.size rfl 29 _ _ ((Blk.new _ _ _ _ rfl).alloc _) Try.underlying29 rfl HS.out ?_)
      refine (callsIn_wide.2 (implIs_any (N : Int) k bs hb _)).mono ?_
      rintro e w1 ⟨rfl, hb1⟩
      rw [HI.out]
      have hB := ((Blk.new w (ccells (N : Int) k bs).toArray 29 _ rfl).alloc (.cells #[.int .i64 c] 2)).below hb1 (by simp; omega)
      have hC := (Blk.new (w.alloc (.cells (ccells (N : Int) k bs).toArray 29)) #[.int .i64 c] 2 (w.heap.size + 1) (by simp)).below hb1 (by simp)
      have g0 := hB.cell HC0.out
      have g1 := hB.cell HC1.out
      have g2 := hC.cell (j := 0) (show _ = some (Value.int .i64 c) from rfl)
      have hbl := (((Below.refl _ _).alloc (Nat.le_refl _) _).alloc (by simp) _).trans (hb1.mono (B' := w.heap.size) (by simp; omega))
      have G := hidd (And.intro hB (And.intro hC hbl))
      have hz1 := hC.lt
      have hz0 : w.heap.size < w1.heap.size := by omega
      clear hb1 hB hC hbl
      gi_wp2_with (first
        | (gi_at_call 49; refine (callsIn_wide.2 (below61 _ _ _)).mono ?_; rintro e w' ⟨rfl, rfl⟩; rw [HB.out])
        | (gi_at_call 66; refine (callsIn_wide.2 (edges66 _ _)).mono ?_; rintro e w' ⟨rfl, rfl⟩))
      obtain ⟨W0, hW0⟩ : ∃ W0, W0 = ((w1.alloc (Obj.cells (zrow N) 2)).alloc (Obj.cells #[Value.slice (some ⟨w1.heap.size, 0, none⟩) N N] 38)).alloc (Obj.cells #[Value.int IntKind.i64 (N : Int)] 2) := ⟨_, rfl⟩
      have hBn : Blk W0 (w1.heap.size + 1 + 1) #[.int .i64 (N : Int)] 2 := by rw [hW0]; exact Blk.new _ _ _ _ (by simp)
      have hBs : Blk W0 (w1.heap.size + 1) #[Value.slice (some ⟨w1.heap.size, 0, none⟩) N N] 38 := by rw [hW0]; exact (Blk.new _ _ _ _ (by simp)).alloc _
      have hBr : Blk W0 w1.heap.size (zrow N) 2 := by rw [hW0]; exact ((Blk.new _ _ _ _ rfl).alloc _).alloc _
      have hBc : Blk W0 w.heap.size (ccells (N : Int) k bs).toArray 29 := by rw [hW0]; exact ((G.out.1.alloc _).alloc _).alloc _
      have hBd : Blk W0 (w.heap.size + 1) #[.int .i64 c] 2 := by rw [hW0]; exact ((G.out.2.1.alloc _).alloc _).alloc _
      have hbl0 : Below w.heap.size w W0 := by
        rw [hW0]
        have := G.out.2.2.size
        exact ((G.out.2.2.alloc this _).alloc (by simp; omega) _).alloc (by simp; omega) _
      rw [← hW0]
      clear hW0
      refine wpIn_rangeFunc_ownH rfl (by omega) (gf := 85) (lb := #[.pointer (some ⟨w1.heap.size + 1 + 1, 0, none⟩)]) rfl trivial (enters_of Try.func85 (by kernel_rfl) rfl)
        (seq80 6 (w1.heap.size + 1 + 1) N (by omega) (by omega) W0 hBn) kpB_t (kpB_b hBn.lt) (Below.refl _ _) (fun _ => rfl)
        (fun pre W => RelDe k bs c w1.heap.size w pre W ∧ w1.heap.size + 1 + 1 < W.heap.size)
        (fun _ _ _ => False)
        (fun s A B row hs hg hr => ⟨⟨blk_own hs.1.1 hg hr, blk_own hs.1.2.1 hg hr, blk_own hs.1.2.2.1 hg hr, blk_own hs.1.2.2.2.1 hg hr, ownFrom_below (β := Unit) (Nat.le_refl _) hbl0.size () A B row hs.1.2.2.2.2 hg hr⟩, Nat.lt_of_lt_of_le hs.2 hg.size⟩)
        (fun _ _ _ _ _ hs _ _ => hs)
        ⟨⟨hBc, hBd, by rw [dgL_zero N bs c] at hBr; exact hBr, hBs, hbl0⟩, hBn.lt⟩
        (fun x a' W => ∃ b, a' = { tmps := #[.agg (ccells (N : Int) k bs).toArray, .int .i64 c, .pointer (some ⟨w.heap.size, 0, none⟩), .pointer (some ⟨w.heap.size + 1, 0, none⟩), .slice none 0 0, .int .i64 0, .pointer (some ⟨w1.heap.size + 1, 0, none⟩), .int .i64 (x.1.1 : Int), .pointer (some ⟨b, 0, none⟩), .agg (ccells (N : Int) k bs).toArray, .bool true, .bool false, .int .i64 c, .pointer (some ⟨w.heap.size, 1, none⟩), .int .i64 k, .bool true, .bool false, .pointer (some ⟨w.heap.size, 0, none⟩), .int .i64 (N : Int), .slice (some ⟨w1.heap.size, 0, none⟩) N N, .pointer (some ⟨w.heap.size, 0, none⟩), .int .i64 (N : Int), .func (.func 85) #[] #[.pointer (some ⟨w1.heap.size + 1 + 1, 0, none⟩)], .int .i64 (x.1.1 : Int), .agg #[.int .i64 (x.1.2.1 : Int), .int .i64 (x.1.2.2 : Int)], undef, undef, undef, undef, undef, undef, undef, undef, undef, undef, undef, undef, undef, undef, undef, undef, undef, undef, undef, undef, undef, undef], defers := [] } ∧ w1.heap.size + 1 + 1 < b ∧ Blk W b #[.int .i64 (x.1.2.1 : Int), .int .i64 (x.1.2.2 : Int)] 75)
        (fun x a' s A B row hs hg hr => by obtain ⟨b, h1, h2, h3⟩ := hs; exact ⟨b, h1, h2, blk_own h3 hg hr⟩) ?assign ?body ?done ?stop
      case assign =>
        intro l pre x W Kx hI hK
        have HI := hidd hI
        have HK := hidd hK
        clear hI hK
        dsimp only [encE]
        gi_wp2
        refine HK.out _ _ ((KeepsOthers.alloc W _).from _) ?_ ?_ ?_
        · exact Below.heap_alloc W _ _ HI.out.2
        · exact ⟨⟨HI.out.1.1.alloc _, HI.out.1.2.1.alloc _, HI.out.1.2.2.1.alloc _, HI.out.1.2.2.2.1.alloc _, HI.out.1.2.2.2.2.alloc HI.out.1.2.2.2.2.size _⟩, by have := HI.out.2; simp; omega⟩
        · exact ⟨W.heap.size, rfl, by have := HI.out.2; omega, Blk.new _ _ _ _ rfl⟩
      case body =>
        rintro l pre x a' W hl _ ⟨⟨h1, h2, h3, h4, h5⟩, h6⟩ ⟨b, rfl, hb', h7⟩ hlen
        have hx := x.lt
        obtain ⟨hx1, hx2, hx3⟩ := x.2
        have h17 := eN_17 (show N ≤ 17 by omega)
        obtain ⟨j, hj⟩ : ∃ j, j = x.1.1 := ⟨_, rfl⟩
        obtain ⟨lo, hlo⟩ : ∃ lo, lo = x.1.2.1 := ⟨_, rfl⟩
        obtain ⟨hi, hhi⟩ : ∃ hi, hi = x.1.2.2 := ⟨_, rfl⟩
        rw [← hlo, ← hhi] at h7 hx2
        rw [← hhi] at hx3
        rw [← hj] at hx ⊢
        rw [← hlo, ← hhi]
        have HX := hidd (show x.1 = (j, lo, hi) by rw [hj, hlo, hhi])
        obtain ⟨f, hf⟩ : ∃ f, f = eCnt bs c (pre.map Edg.v) := ⟨_, rfl⟩
        rw [← hf] at h3
        have HF := hidd hf
        have hfb : ∀ p, f p ≤ pre.length := fun p => by rw [hf]; have := eCnt_le bs c (pre.map Edg.v) p; simpa using this
        have hfl := hfb lo
        have hfh := hfb hi
        have c0 := h1.cell (hb.cget (N : Int) k (show j < 136 by omega))
        obtain ⟨y, hy⟩ : ∃ y, y = bs.getD j 0 := ⟨_, rfl⟩
        have hy256 : y < 256 := by rw [hy]; exact hb.lt j
        rw [← hy] at c0
        have HY := hidd hy
        have c1 := h2.cell (j := 0) (show _ = some (Value.int .i64 c) from rfl)
        have HH := hidd (And.intro h1 (And.intro h2 (And.intro h3 (And.intro h4 (And.intro h5 (And.intro h6 h7))))))
        have hj136 : (j : Int) < 136 := by omega
        have hwy : IntKind.i64.wrap (y : Int) = y := IntWalk.i64_in _ (by omega)
        clear hj hlo hhi hf hy h1 h2 h3 h4 h5 h6 h7 hx1 hfb
        by_cases hyc : (y : Int) = c
        · have hq : ((y : Int) == c) = true := by simpa using hyc
          have HYC := hidd hyc
          clear hyc
          obtain ⟨V, hV⟩ : ∃ V, V = W.drew := ⟨_, rfl⟩
          have FV := hidd (show KeepsOthers W V ∧ V.heap = W.heap ∧ Below w.heap.size w V from by rw [hV]; exact ⟨ko_drew W, rfl, HH.out.2.2.2.2.1.drew⟩)
          have b3 : Blk V w1.heap.size (icells (dgL N f)).toArray 2 := (congrArg (·[w1.heap.size]?) FV.out.2.1).trans HH.out.2.2.1
          have b4 : Blk V (w1.heap.size + 1) _ 38 := (congrArg (·[w1.heap.size + 1]?) FV.out.2.1).trans HH.out.2.2.2.1
          have b7 : Blk V b _ 75 := (congrArg (·[b]?) FV.out.2.1).trans HH.out.2.2.2.2.2.2
          have b1 : Blk V w.heap.size _ 29 := (congrArg (·[w.heap.size]?) FV.out.2.1).trans HH.out.1
          have b2 : Blk V (w.heap.size + 1) _ 2 := (congrArg (·[w.heap.size + 1]?) FV.out.2.1).trans HH.out.2.1
          have d0 := HH.out.2.2.2.2.2.2.cell (j := 0) (show _ = some (Value.int .i64 (lo : Int)) from rfl)
          have d1 := HH.out.2.2.2.2.2.2.cell (j := 1) (show _ = some (Value.int .i64 (hi : Int)) from rfl)
          have d2 := HH.out.2.2.2.1.cell (j := 0) (show _ = some (Value.slice (some ⟨w1.heap.size, 0, none⟩) N N) from rfl)
          have e0 := HH.out.2.2.1.cell (icells_get (zs := dgL N f) (j := lo) (by rw [dgL_len]; omega))
          rw [dgL_get (by omega)] at e0
          have f0 := HH.out.2.2.1.fro lo
          have s0 := b3.same lo (.int .i64 ((f lo : Int) + 1))
          have e1 := HH.out.2.2.1.cell (icells_get (zs := dgL N f) (j := hi) (by rw [dgL_len]; omega))
          rw [dgL_get (by omega)] at e1
          rw [icells_set] at s0
          have f1 := HH.out.2.2.1.fro hi
          have hne : lo ≠ hi := by omega
          have s1 := s0.same hi (.int .i64 ((f hi : Int) + 1))
          rw [icells_set] at s1
          have hstep := dg_hit (N := N) (bs := bs) (c := c) (l := pre.map Edg.v) (t := (j, lo, hi)) (by rw [← HY.out]; exact HYC.out) hne
          rw [← HF.out] at hstep
          have ha : w.heap.size ≠ w1.heap.size := by omega
          have s1' : Blk ((V.setCell ⟨w1.heap.size, lo, none⟩ (.int .i64 ((f lo : Int) + 1))).setCell ⟨w1.heap.size, hi, none⟩ (.int .i64 ((f hi : Int) + 1))) w1.heap.size (icells (dgL N (eCnt bs c ((pre ++ [x]).map Edg.v)))).toArray 2 := by
            rw [List.map_append, show [x].map Edg.v = [(j, lo, hi)] by simp [Edg.v, HX.out], ← hstep]
            exact s1
          have K1 := hidd (show RelDe k bs c w1.heap.size w (pre ++ [x]) ((V.setCell ⟨w1.heap.size, lo, none⟩ (.int .i64 ((f lo : Int) + 1))).setCell ⟨w1.heap.size, hi, none⟩ (.int .i64 ((f hi : Int) + 1))) from
            ⟨(b1.other _ _ ha).other _ _ ha, (b2.other _ _ (by show w.heap.size + 1 ≠ w1.heap.size; omega)).other _ _ (by show w.heap.size + 1 ≠ w1.heap.size; omega), s1',
              (b4.other _ _ (by show w1.heap.size + 1 ≠ w1.heap.size; omega)).other _ _ (by show w1.heap.size + 1 ≠ w1.heap.size; omega),
              (FV.out.2.2.setCell (by show w.heap.size ≤ w1.heap.size; omega) _).setCell (by show w.heap.size ≤ w1.heap.size; omega) _⟩)
          have K2 := hidd (show KeepsFrom W0.heap.size W ((V.setCell ⟨w1.heap.size, lo, none⟩ (.int .i64 ((f lo : Int) + 1))).setCell ⟨w1.heap.size, hi, none⟩ (.int .i64 ((f hi : Int) + 1))) ∧ KpB (w1.heap.size + 1 + 1) W ((V.setCell ⟨w1.heap.size, lo, none⟩ (.int .i64 ((f lo : Int) + 1))).setCell ⟨w1.heap.size, hi, none⟩ (.int .i64 ((f hi : Int) + 1))) ∧ w1.heap.size + 1 + 1 < ((V.setCell ⟨w1.heap.size, lo, none⟩ (.int .i64 ((f lo : Int) + 1))).setCell ⟨w1.heap.size, hi, none⟩ (.int .i64 ((f hi : Int) + 1))).heap.size from
            ⟨((FV.out.1.trans (KeepsOthers.setCell _ _ _)).trans (KeepsOthers.setCell _ _ _)).from _,
              (heap_setCell_other _ _ (w1.heap.size + 1 + 1) _ (by show w1.heap.size + 1 + 1 ≠ w1.heap.size; omega)).trans ((heap_setCell_other _ _ (w1.heap.size + 1 + 1) _ (by show w1.heap.size + 1 + 1 ≠ w1.heap.size; omega)).trans (congrArg (·[w1.heap.size + 1 + 1]?) FV.out.2.1)),
              by have h := HH.out.2.2.2.2.2.1; rw [← FV.out.2.1] at h; simpa [World.setCell] using h⟩)
          subst hV
          clear b1 b2 b3 b4 b7 s0 s1 s1' hstep
          have hwl : IntKind.i64.wrap ((f lo : Int) + 1) = (f lo : Int) + 1 := IntWalk.i64_in _ (by omega)
          have hwh : IntKind.i64.wrap ((f hi : Int) + 1) = (f hi : Int) + 1 := IntWalk.i64_in _ (by omega)
          gi_wp2_with fail
          have hmix : Try.prog.follows .mixedOrders = true := by kernel_rfl
          gi_region_with_o (fail)
          all_goals gi_wp2
          all_goals exact ⟨K2.out.1, K2.out.2.1, K1.out, K2.out.2.2⟩
        · have hq : ((y : Int) == c) = false := by simpa using hyc
          have HYC := hidd hyc
          clear hyc
          gi_wp2_with fail
          have hmix : Try.prog.follows .mixedOrders = true := by kernel_rfl
          have HD := hidd (show (icells (dgL N f)).toArray = (icells (dgL N (eCnt bs c ((pre ++ [x]).map Edg.v)))).toArray by rw [List.map_append, show [x].map Edg.v = [(j, lo, hi)] by simp [Edg.v, HX.out], dg_miss (by rw [← HY.out]; exact HYC.out), ← HF.out])
          gi_region_with_o (fail)
          all_goals gi_wp2
          all_goals exact ⟨(ko_drew W).from _, rfl, ⟨HH.out.1, HH.out.2.1, by rw [← HD.out]; exact HH.out.2.2.1, HH.out.2.2.2.1, HH.out.2.2.2.2.1.drew⟩, HH.out.2.2.2.2.2.1⟩
      case done =>
        rintro D xs W hD hxs ⟨⟨h1, h2, h3, h4, h5⟩, h6⟩ hK
        have hd : dgL N (eCnt bs c (xs.map Edg.v)) = dgL N (fun p => cnt (nbB bs p c) N) := dgL_congr fun p hp => by rw [hxs, eCnt_seq, if_pos hp]
        rw [hd] at h3
        have hs := h4.cell (j := 0) (show _ = some (Value.slice (some ⟨w1.heap.size, 0, none⟩) N N) from rfl)
        have R := hidd (And.intro h3 h5)
        clear h1 h2 h3 h4 h5
        gi_wp2
        refine ⟨by simp, .inl ⟨_, _, rfl, run_takeDeferred hK, ?_⟩⟩
        have hlr := hBr.lt
        have hDlt : D < W.heap.size := (Array.getElem?_eq_some_iff.1 hK).1
        have hr : Blk (W.putObj D (.deferred none)) w1.heap.size (icells (dgL N (fun p => cnt (nbB bs p c) N))).toArray 2 := (World.putObj_heap_other (by omega)).trans R.out.1
        have hb2 : Below w.heap.size w (W.putObj D (.deferred none)) := R.out.2.grown (grownBy_putObj' W D (.deferred none)) R.out.2.size (fun k e => by cases e; have := hbl0.size; omega)
        refine ⟨_, results_tmp2 rfl _ _ _, ?_⟩
        exact ⟨some ⟨w1.heap.size, 0, none⟩, N, by rw [dgL_len]; rfl, own_blk hr (by omega), hb2⟩
      case stop =>
        rintro D c pre W _ _ h _
        exact h.elim
end Go.Proofs.Ytpjegmmichjlbaa
