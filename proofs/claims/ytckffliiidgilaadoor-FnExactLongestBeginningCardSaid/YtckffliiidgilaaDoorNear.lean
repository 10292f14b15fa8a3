/- neighbourSetsOf: the sets of neighbours of the points in one colour, as the program fills them. -/
import Derived.Test.YtckffliiidgilaaDoorNearM
namespace Go.Proofs.YtckffliiidgilaaDoor
set_option linter.unusedVariables false
set_option linter.unusedSimpArgs false
open Go Go.RowKit Go.Shelf
attribute [local go_sem] Oper.semAt_some
theorem u32_in {a : Int} (h0 : 0 ≤ a) (h1 : a < 4294967296) : IntKind.u32.wrap a = a := by
  unfold IntKind.wrap; simp [IntKind.signed, IntKind.bits]; omega
theorem zero84 : ∀ w, (zeroValue 125).run Tryd.prog w = .ok (.agg (ncell fun _ => 0).toArray) w := (zero_of_info info84).1
theorem size_n (f : Nat → Nat) : (Tryd.prog.info? 125).map (·.size) = some (ncell f).toArray.size := by rw [size84]; simp [ncell]
theorem ncell_one (f : Nat → Nat) : (ncell f).toArray.all (·.oneCell') = true := by
  rw [Array.all_eq_true_iff_forall_mem]
  intro v hv
  simp only [ncell, List.mem_toArray, List.mem_map] at hv
  obtain ⟨p, _, rfl⟩ := hv
  rfl
theorem ncell_setF (f : Nat → Nat) (i v : Nat) : (ncell f).toArray.setIfInBounds i (.int .u32 (v : Int)) = (ncell (setF f i v)).toArray := ncell_set f i v
def RelNe {N : Nat} (k c : Int) (bs : List Nat) (w : World) (pre : List (Edg N)) (W : World) : Prop :=
  Blk W w.heap.size (ccells (N : Int) k bs).toArray 28 ∧ Blk W (w.heap.size + 1) #[.int .i64 c] 2 ∧ Blk W (w.heap.size + 1 + 1) (ncell fun _ => 0).toArray 125 ∧ Blk W (w.heap.size + 1 + 1 + 1) (ncell (nsF bs c (pre.map Edg.v))).toArray 125 ∧ Below w.heap.size w W
set_option maxRecDepth 100000 in
set_option maxHeartbeats 2000000 in
theorem near57 (N : Nat) (k c : Int) (bs : List Nat) (hb : Bys bs) (w : World) (N1 : 1 ≤ N) (N2 : N ≤ 17) :
    Calls Tryd.prog 109 #[.agg (ccells (N : Int) k bs).toArray, .int .i64 c] w fun e w' => e = .returned (.agg (ncell (nsF bs c (eseq N))).toArray) ∧ Below w.heap.size w w' := by
  have Hz := zero84
  have HC0 := hidd (show (ccells (N : Int) k bs).toArray[0]? = some (.int .i64 (N : Int)) from rfl)
  have hfn : ∀ f, Fence.wide.fn f := fun _ => trivial
  have g0 : ((((w.alloc (Obj.cells (ccells (N : Int) k bs).toArray 28)).alloc (Obj.cells #[.int .i64 c] 2)).alloc (Obj.cells (ncell fun _ => 0).toArray 125)).alloc (Obj.cells (ncell fun _ => 0).toArray 125)).cell? ⟨w.heap.size, 0, none⟩ = some (.int .i64 (N : Int)) :=
    ((((Blk.new w (ccells (N : Int) k bs).toArray 28 _ rfl).alloc _).alloc _).alloc _).cell HC0.out
  refine (callsIn_wide (n := 8)).1 (callsIn_of_wp_marks Tryd.func109 rfl trivial ?_ rfl)
  simp only [Tryd.ntmps109, List.size_toArray, List.length_cons, List.length_nil, Nat.reduceAdd, Nat.reduceSub, Array.replicate_succ, Array.replicate_zero, List.push_toArray, List.append_toArray, List.nil_append, List.cons_append]
  gi_wp2_with (gi_at_call 112; refine (callsIn_wide.2 (edges66 _ _)).mono ?_; rintro e w' ⟨rfl, rfl⟩)
  obtain ⟨W0, hW0⟩ : ∃ W0, W0 = ((((w.alloc (Obj.cells (ccells (N : Int) k bs).toArray 28)).alloc (Obj.cells #[.int .i64 c] 2)).alloc (Obj.cells (ncell fun _ => 0).toArray 125)).alloc (Obj.cells (ncell fun _ => 0).toArray 125)).alloc (Obj.cells #[Value.int IntKind.i64 (N : Int)] 2) := ⟨_, rfl⟩
  have hBn : Blk W0 (w.heap.size + 1 + 1 + 1 + 1) #[.int .i64 (N : Int)] 2 := by rw [hW0]; exact Blk.new _ _ _ _ (by simp)
  have hBy : Blk W0 (w.heap.size + 1 + 1 + 1) (ncell fun _ => 0).toArray 125 := by rw [hW0]; exact (Blk.new _ _ _ _ (by simp)).alloc _
  have hBz : Blk W0 (w.heap.size + 1 + 1) (ncell fun _ => 0).toArray 125 := by rw [hW0]; exact ((Blk.new _ _ _ _ (by simp)).alloc _).alloc _
  have hBc : Blk W0 (w.heap.size + 1) #[.int .i64 c] 2 := by rw [hW0]; exact (((Blk.new _ _ _ _ (by simp)).alloc _).alloc _).alloc _
  have hBx : Blk W0 w.heap.size (ccells (N : Int) k bs).toArray 28 := by rw [hW0]; exact ((((Blk.new _ _ _ _ rfl).alloc _).alloc _).alloc _).alloc _
  have hbl0 : Below w.heap.size w W0 := by
    rw [hW0]
    exact (((((Below.refl _ _).alloc (Nat.le_refl _) _).alloc (by simp) _).alloc (by simp; omega) _).alloc (by simp; omega) _).alloc (by simp; omega) _
  rw [← hW0]
  clear hW0 g0
  refine wpIn_rangeFunc_ownH rfl (by omega) (gf := 113) (lb := #[.pointer (some ⟨w.heap.size + 1 + 1 + 1 + 1, 0, none⟩)]) rfl trivial (enters_of Tryd.func113 (by kernel_rfl) rfl)
    (seq80 6 (w.heap.size + 1 + 1 + 1 + 1) N N1 N2 W0 hBn) kpB_t (kpB_b hBn.lt) (Below.refl _ _) (fun _ => rfl)
    (fun pre W => RelNe k c bs w pre W ∧ w.heap.size + 1 + 1 + 1 + 1 < W.heap.size)
    (fun _ _ _ => False)
    (fun s A B row hs hg hr => ⟨⟨blk_own hs.1.1 hg hr, blk_own hs.1.2.1 hg hr, blk_own hs.1.2.2.1 hg hr, blk_own hs.1.2.2.2.1 hg hr, ownFrom_below (β := Unit) (Nat.le_refl _) hbl0.size () A B row hs.1.2.2.2.2 hg hr⟩, Nat.lt_of_lt_of_le hs.2 hg.size⟩)
    (fun _ _ _ _ _ hs _ _ => hs)
    ⟨⟨hBx, hBc, hBz, by rw [show nsF bs c (([] : List (Edg N)).map Edg.v) = fun _ => 0 from nsF_nil bs c]; exact hBy, hbl0⟩, hBn.lt⟩
    (fun x a' W => ∃ b, a' = { tmps := #[.agg (ccells (N : Int) k bs).toArray, .int .i64 c, .pointer (some ⟨w.heap.size, 0, none⟩), .pointer (some ⟨w.heap.size + 1, 0, none⟩), .pointer (some ⟨w.heap.size + 1 + 1, 0, none⟩), .pointer (some ⟨w.heap.size + 1 + 1 + 1, 0, none⟩), .int .i64 (x.1.1 : Int), .pointer (some ⟨b, 0, none⟩), .pointer (some ⟨w.heap.size, 0, none⟩), .int .i64 (N : Int), .func (.func 113) #[] #[.pointer (some ⟨w.heap.size + 1 + 1 + 1 + 1, 0, none⟩)], .int .i64 (x.1.1 : Int), .agg #[.int .i64 (x.1.2.1 : Int), .int .i64 (x.1.2.2 : Int)], undef, undef, undef, undef, undef, undef, undef, undef, undef, undef, undef, undef, undef, undef, undef, undef, undef, undef, undef, undef, undef, undef, undef, undef, undef, undef], defers := [] } ∧ w.heap.size + 1 + 1 + 1 + 1 < b ∧ Blk W b #[.int .i64 (x.1.2.1 : Int), .int .i64 (x.1.2.2 : Int)] 145)
    (fun x a' s A B row hs hg hr => by obtain ⟨b, h1, h2, h3⟩ := hs; exact ⟨b, h1, h2, blk_own h3 hg hr⟩) ?assign ?body ?done ?stop
  case assign =>
    intro l pre x W Kx hI hK
    have HI := hidd hI
    have HK := hidd hK
    clear hI hK
    dsimp only [encE]
    gi_wp2
    refine HK.out _ _ ((KeepsOthers.alloc W _).from _) ?_ ?_ ?_
    · exact Below.heap_alloc W _ _ HI.out.2
    · exact ⟨⟨HI.out.1.1.alloc _, HI.out.1.2.1.alloc _, HI.out.1.2.2.1.alloc _, HI.out.1.2.2.2.1.alloc _, HI.out.1.2.2.2.2.alloc HI.out.1.2.2.2.2.size _⟩, by have := HI.out.2; simp; omega⟩
    · exact ⟨W.heap.size, rfl, by have := HI.out.2; omega, Blk.new _ _ _ _ rfl⟩
  case body =>
    rintro l pre x a' W hl _ ⟨⟨h1, h2, h3, h4, h5⟩, h6⟩ ⟨b, rfl, hb', h7⟩ hlen
    have hx := x.lt
    obtain ⟨hx1, hx2, hx3⟩ := x.2
    have h17 := eN_17 N2
    obtain ⟨j, hj⟩ : ∃ j, j = x.1.1 := ⟨_, rfl⟩
    obtain ⟨lo, hlo⟩ : ∃ lo, lo = x.1.2.1 := ⟨_, rfl⟩
    obtain ⟨hi, hhi⟩ : ∃ hi, hi = x.1.2.2 := ⟨_, rfl⟩
    rw [← hlo, ← hhi] at h7 hx2
    rw [← hhi] at hx3
    rw [← hj] at hx ⊢
    rw [← hlo, ← hhi]
    have HX := hidd (show x.1 = (j, lo, hi) by rw [hj, hlo, hhi])
    have HPRE : (pre ++ [x]).map Edg.v = pre.map Edg.v ++ [(j, lo, hi)] := by rw [List.map_append, show [x].map Edg.v = [(j, lo, hi)] by simp [Edg.v, HX.out]]
    have HP := hidd HPRE
    have c0 := h1.cell (hb.cget (N : Int) k (show j < 136 by omega))
    obtain ⟨y, hy⟩ : ∃ y, y = bs.getD j 0 := ⟨_, rfl⟩
    have hy256 : y < 256 := by rw [hy]; exact hb.lt j
    rw [← hy] at c0
    have HY := hidd hy
    have cc := h2.cell (j := 0) (show _ = some (Value.int .i64 c) from rfl)
    have d0 := h7.cell (j := 0) (show _ = some (Value.int .i64 (lo : Int)) from rfl)
    have d1 := h7.cell (j := 1) (show _ = some (Value.int .i64 (hi : Int)) from rfl)
    have hj136 : (j : Int) < 136 := by omega
    have hwy : IntKind.i64.wrap (y : Int) = y := IntWalk.i64_in _ (by omega)
    have HH := hidd (And.intro h1 (And.intro h2 (And.intro h3 (And.intro h4 (And.intro h5 (And.intro h6 h7))))))
    clear hj hlo hhi hy h1 h2 h3 h4 h5 h6 h7 hx1 HPRE
    cases hq : ((y : Int) == c) with
    | false =>
      have hne := (beq_eq_false_iff_ne.1 hq)
      have HM := hidd (nsF_miss (l := pre.map Edg.v) (t := (j, lo, hi)) (show ((bs.getD j 0 : Nat) : Int) ≠ c by rw [← HY.out]; exact hne))
      gi_wp2_with fail
      refine wpIn_region_tail_lit (lets_round l _) 6 (fun w' => w' = W.drew) (by decide) (by kernel_rfl) rfl (by kernel_rfl) (by kernel_rfl) (by kernel_rfl) (by kernel_rfl) (by kernel_rfl) ?_
      simp only [List.take_succ_cons, List.take_zero, List.drop_succ_cons, List.drop_zero, List.map_cons, List.map_nil, List.cons_append, List.nil_append, idle]
      refine qs rfl (fun KQ hKQ => ?_)
      apply Exists.intro
      refine ⟨fun w' hw' => ?_, ?_⟩
      · go_simp; exact rfl
      go_simp
      refine hKQ _ ?_
      clear hKQ KQ
      refine qs rfl (fun KQ hKQ => ?_)
      apply Exists.intro
      refine ⟨fun w' hw' => ?_, ?_⟩
      · go_simp; exact rfl
      go_simp
      refine hKQ _ ?_
      clear hKQ KQ
      refine qs rfl (fun KQ hKQ => ?_)
      apply Exists.intro
      refine ⟨fun w' hw' => ?_, ?_⟩
      · go_simp; exact rfl
      go_simp
      refine hKQ _ ?_
      clear hKQ KQ
      refine qs rfl (fun KQ hKQ => ?_)
      apply Exists.intro
      refine ⟨fun w' hw' => ?_, ?_⟩
      · subst hw'; go_simp; exact rfl
      go_simp
      refine hKQ _ ?_
      clear hKQ KQ
      refine qs rfl (fun KQ hKQ => ?_)
      apply Exists.intro
      refine ⟨fun w' hw' => ?_, ?_⟩
      · go_simp; exact rfl
      go_simp
      refine hKQ _ ?_
      clear hKQ KQ
      refine qs rfl (fun KQ hKQ => ?_)
      apply Exists.intro
      refine ⟨fun w' hw' => ?_, ?_⟩
      · subst hw'; go_simp; exact rfl
      go_simp
      refine hKQ _ ?_
      clear hKQ KQ
      refine qs rfl (fun KQ hKQ => ?_)
      apply Exists.intro
      refine ⟨fun w' hw' => ?_, ?_⟩
      · go_simp; exact rfl
      go_simp
      refine hKQ _ ?_
      clear hKQ KQ
      refine wpQuiet_nil ?_
      intro w' hw'
      subst hw'
      gi_wp2_with fail
      exact ⟨keeps_below ((Below.refl _ _).drew), rfl, ⟨⟨HH.out.1, HH.out.2.1, HH.out.2.2.1, by rw [HP.out, HM.out]; exact HH.out.2.2.2.1, HH.out.2.2.2.2.1.trans (((Below.refl _ _).drew).mono HH.out.2.2.2.2.1.size)⟩, HH.out.2.2.2.2.2.1⟩⟩
    | true =>
      have heq := beq_iff_eq.1 hq
      have HM := hidd (nsF_hit (l := pre.map Edg.v) (show ((bs.getD j 0 : Nat) : Int) = c by rw [← HY.out]; exact heq) hx2 (show hi < 17 by omega))
      gi_wp2_with fail
      refine wpIn_region_tail_lit (lets_round l _) 6 (fun w' => w' = W.drew) (by decide) (by kernel_rfl) rfl (by kernel_rfl) (by kernel_rfl) (by kernel_rfl) (by kernel_rfl) (by kernel_rfl) ?_
      simp only [List.take_succ_cons, List.take_zero, List.drop_succ_cons, List.drop_zero, List.map_cons, List.map_nil, List.cons_append, List.nil_append, idle]
      refine qs rfl (fun KQ hKQ => ?_)
      apply Exists.intro
      refine ⟨fun w' hw' => ?_, ?_⟩
      · go_simp; exact rfl
      go_simp
      refine hKQ _ ?_
      clear hKQ KQ
      refine qs rfl (fun KQ hKQ => ?_)
      apply Exists.intro
      refine ⟨fun w' hw' => ?_, ?_⟩
      · go_simp; exact rfl
      go_simp
      refine hKQ _ ?_
      clear hKQ KQ
      refine qs rfl (fun KQ hKQ => ?_)
      apply Exists.intro
      refine ⟨fun w' hw' => ?_, ?_⟩
      · go_simp; exact rfl
      go_simp
      refine hKQ _ ?_
      clear hKQ KQ
      refine qs rfl (fun KQ hKQ => ?_)
      apply Exists.intro
      refine ⟨fun w' hw' => ?_, ?_⟩
      · subst hw'; go_simp; exact rfl
      go_simp
      refine hKQ _ ?_
      clear hKQ KQ
      refine qs rfl (fun KQ hKQ => ?_)
      apply Exists.intro
      refine ⟨fun w' hw' => ?_, ?_⟩
      · go_simp; exact rfl
      go_simp
      refine hKQ _ ?_
      clear hKQ KQ
      refine qs rfl (fun KQ hKQ => ?_)
      apply Exists.intro
      refine ⟨fun w' hw' => ?_, ?_⟩
      · subst hw'; go_simp; exact rfl
      go_simp
      refine hKQ _ ?_
      clear hKQ KQ
      refine qs rfl (fun KQ hKQ => ?_)
      apply Exists.intro
      refine ⟨fun w' hw' => ?_, ?_⟩
      · go_simp; exact rfl
      go_simp
      refine hKQ _ ?_
      clear hKQ KQ
      refine wpQuiet_nil ?_
      intro w' hw'
      subst hw'
      obtain ⟨F, hF⟩ : ∃ F, F = nsF bs c (pre.map Edg.v) := ⟨_, rfl⟩
      have h4 := HH.out.2.2.2.1
      rw [← hF] at h4 HM
      have HF := hidd hF
      have hA17 : F lo < 2 ^ 17 := by rw [hF]; exact nsF_lt _ _ _ _
      have hB17 : F hi < 2 ^ 17 := by rw [hF]; exact nsF_lt _ _ _ _
      have fl := h4.cell (ncell_get (f := F) (show lo < 17 by omega))
      have hfro := h4.fro lo
      have hs4 := h4.same lo
      have lo17 : (lo : Int) < 17 := by omega
      have hi17 : (hi : Int) < 17 := by omega
      have t1 : min hi 64 = hi := by omega
      have t2 : min lo 64 = lo := by omega
      have p1 : 2 ^ hi < 2 ^ 17 := Nat.pow_lt_pow_right (by omega) (by omega)
      have p2 : 2 ^ lo < 2 ^ 17 := Nat.pow_lt_pow_right (by omega) (by omega)
      obtain ⟨P1, hP1⟩ : ∃ P1, P1 = 2 ^ hi := ⟨_, rfl⟩
      obtain ⟨P2, hP2⟩ : ∃ P2, P2 = 2 ^ lo := ⟨_, rfl⟩
      have s1 : IntKind.u32.wrap (2 ^ hi) = (P1 : Int) := by rw [hP1]; rw [show ((2 : Int) ^ hi) = ((2 ^ hi : Nat) : Int) by simp]; exact u32_in (by omega) (by omega)
      have s2 : IntKind.u32.wrap (2 ^ lo) = (P2 : Int) := by rw [hP2]; rw [show ((2 : Int) ^ lo) = ((2 ^ lo : Nat) : Int) by simp]; exact u32_in (by omega) (by omega)
      rw [← hP1] at HM p1
      rw [← hP2] at HM p2
      obtain ⟨A, hA⟩ : ∃ A, A = F lo := ⟨_, rfl⟩
      obtain ⟨B, hB⟩ : ∃ B, B = F hi := ⟨_, rfl⟩
      have u1 := u32_or_nat A P1 (by omega) (by omega)
      have u2 := u32_or_nat B P2 (by omega) (by omega)
      rw [← hA] at HM fl
      rw [← hB] at HM
      obtain ⟨G1, hG1⟩ : ∃ G1, G1 = A ||| P1 := ⟨_, rfl⟩
      obtain ⟨G2, hG2⟩ : ∃ G2, G2 = B ||| P2 := ⟨_, rfl⟩
      rw [← hG1] at u1 HM
      rw [← hG2] at u2 HM
      have HAB := hidd (And.intro hA hB)
      clear hF hA17 hB17 hA hB hP1 hP2 hG1 hG2
      gi_wp2_with fail
      refine wpIn_region_tail_lit (lets_round l _) 9 (fun w' => w' = W.drew.drew) (by decide) (by kernel_rfl) rfl (by kernel_rfl) (by kernel_rfl) (by kernel_rfl) (by kernel_rfl) (by kernel_rfl) ?_
      simp only [List.take_succ_cons, List.take_zero, List.drop_succ_cons, List.drop_zero, List.map_cons, List.map_nil, List.cons_append, List.nil_append, idle]
      refine qs rfl (fun KQ hKQ => ?_)
      apply Exists.intro
      refine ⟨fun w' hw' => ?_, ?_⟩
      · go_simp; exact rfl
      go_simp
      refine hKQ _ ?_
      clear hKQ KQ
      refine qs rfl (fun KQ hKQ => ?_)
      apply Exists.intro
      refine ⟨fun w' hw' => ?_, ?_⟩
      · subst hw'; go_simp; exact rfl
      go_simp
      refine hKQ _ ?_
      clear hKQ KQ
      refine qs rfl (fun KQ hKQ => ?_)
      apply Exists.intro
      refine ⟨fun w' hw' => ?_, ?_⟩
      · go_simp; exact rfl
      go_simp
      refine hKQ _ ?_
      clear hKQ KQ
      refine qs rfl (fun KQ hKQ => ?_)
      apply Exists.intro
      refine ⟨fun w' hw' => ?_, ?_⟩
      · subst hw'; go_simp; exact rfl
      go_simp
      refine hKQ _ ?_
      clear hKQ KQ
      refine qs rfl (fun KQ hKQ => ?_)
      apply Exists.intro
      refine ⟨fun w' hw' => ?_, ?_⟩
      · go_simp; exact rfl
      go_simp
      refine hKQ _ ?_
      clear hKQ KQ
      refine qs rfl (fun KQ hKQ => ?_)
      apply Exists.intro
      refine ⟨fun w' hw' => ?_, ?_⟩
      · subst hw'; go_simp; exact rfl
      go_simp
      refine hKQ _ ?_
      clear hKQ KQ
      refine qs rfl (fun KQ hKQ => ?_)
      apply Exists.intro
      refine ⟨fun w' hw' => ?_, ?_⟩
      · go_simp; exact rfl
      go_simp
      refine hKQ _ ?_
      clear hKQ KQ
      refine qs rfl (fun KQ hKQ => ?_)
      apply Exists.intro
      refine ⟨fun w' hw' => ?_, ?_⟩
      · go_simp; exact rfl
      go_simp
      refine hKQ _ ?_
      clear hKQ KQ
      refine qs rfl (fun KQ hKQ => ?_)
      apply Exists.intro
      refine ⟨fun w' hw' => ?_, ?_⟩
      · go_simp; exact rfl
      go_simp
      refine hKQ _ ?_
      clear hKQ KQ
      refine qs rfl (fun KQ hKQ => ?_)
      apply Exists.intro
      refine ⟨fun w' hw' => ?_, ?_⟩
      · go_simp; exact rfl
      go_simp
      refine hKQ _ ?_
      clear hKQ KQ
      refine wpQuiet_nil ?_
      intro w' hw'
      subst hw'
      gi_wp2_with fail
      obtain ⟨V, hV⟩ : ∃ V, V = (W.setCell ⟨w.heap.size + 1 + 1 + 1, lo, none⟩ (.int .u32 (G1 : Int))).drew.drew := ⟨_, rfl⟩
      have b4 : Blk V (w.heap.size + 1 + 1 + 1) (ncell (setF F lo G1)).toArray 125 := by
        rw [hV, ← ncell_setF]
        exact Blk.same (w := W) h4 lo _
      have nb : b ≠ w.heap.size + 1 + 1 + 1 := by omega
      have b7 : Blk V b #[Value.int IntKind.i64 ↑lo, Value.int IntKind.i64 ↑hi] 145 := by rw [hV]; exact Blk.other (w := W) HH.out.2.2.2.2.2.2 _ _ nb
      have e0 := b7.cell (j := 0) (show _ = some (Value.int .i64 (lo : Int)) from rfl)
      have e1 := b7.cell (j := 1) (show _ = some (Value.int .i64 (hi : Int)) from rfl)
      have fh := b4.cell (ncell_get (f := setF F lo G1) (show hi < 17 by omega))
      rw [show setF F lo G1 hi = B by rw [HAB.out.2]; unfold setF; rw [if_neg (by omega)]] at fh
      have hfr2 := b4.fro hi
      have s5 : Blk (V.drew.setCell ⟨w.heap.size + 1 + 1 + 1, hi, none⟩ (.int .u32 (G2 : Int))) (w.heap.size + 1 + 1 + 1) (ncell (setF (setF F lo G1) hi G2)).toArray 125 := by
        rw [← ncell_setF]
        exact Blk.same (w := V.drew) b4 hi _
      have kd : KeepsOthers W V := by rw [hV]; exact (KeepsOthers.setCell W _ _).trans ((ko_drew _).trans (ko_drew _))
      have K1 := hidd (show RelNe k c bs w (pre ++ [x]) (V.drew.setCell ⟨w.heap.size + 1 + 1 + 1, hi, none⟩ (.int .u32 (G2 : Int))) from by
        refine ⟨?_, ?_, ?_, ?_, ?_⟩
        · refine Blk.other (w := V.drew) ?_ _ _ (by show w.heap.size ≠ w.heap.size + 1 + 1 + 1; omega)
          show Blk V _ _ _
          rw [hV]; exact Blk.other (w := W) HH.out.1 _ _ (by show w.heap.size ≠ w.heap.size + 1 + 1 + 1; omega)
        · refine Blk.other (w := V.drew) ?_ _ _ (by show w.heap.size + 1 ≠ w.heap.size + 1 + 1 + 1; omega)
          show Blk V _ _ _
          rw [hV]; exact Blk.other (w := W) HH.out.2.1 _ _ (by show w.heap.size + 1 ≠ w.heap.size + 1 + 1 + 1; omega)
        · refine Blk.other (w := V.drew) ?_ _ _ (by show w.heap.size + 1 + 1 ≠ w.heap.size + 1 + 1 + 1; omega)
          show Blk V _ _ _
          rw [hV]; exact Blk.other (w := W) HH.out.2.2.1 _ _ (by show w.heap.size + 1 + 1 ≠ w.heap.size + 1 + 1 + 1; omega)
        · rw [HP.out, HM.out]; exact s5
        · refine Below.setCell (Below.drew ?_) (by show w.heap.size ≤ w.heap.size + 1 + 1 + 1; omega) _
          rw [hV]
          exact (Below.setCell (HH.out.2.2.2.2.1) (by show w.heap.size ≤ w.heap.size + 1 + 1 + 1; omega) _).drew.drew)
      have K2 := hidd (show KeepsFrom W0.heap.size W (V.drew.setCell ⟨w.heap.size + 1 + 1 + 1, hi, none⟩ (.int .u32 (G2 : Int))) from
        (kd.from _).trans ((keeps_below ((Below.refl _ _).drew)).trans ((KeepsOthers.setCell V.drew _ _).from _)))
      have K3 := hidd (show KpB (w.heap.size + 1 + 1 + 1 + 1) W (V.drew.setCell ⟨w.heap.size + 1 + 1 + 1, hi, none⟩ (.int .u32 (G2 : Int))) from
        (heap_setCell_other V.drew _ (w.heap.size + 1 + 1 + 1 + 1) _ (by show w.heap.size + 1 + 1 + 1 + 1 ≠ w.heap.size + 1 + 1 + 1; omega)).trans (by
          rw [hV]; exact heap_setCell_other W _ (w.heap.size + 1 + 1 + 1 + 1) _ (by show w.heap.size + 1 + 1 + 1 + 1 ≠ w.heap.size + 1 + 1 + 1; omega)))
      have K4 := hidd (show w.heap.size + 1 + 1 + 1 + 1 < (V.drew.setCell ⟨w.heap.size + 1 + 1 + 1, hi, none⟩ (.int .u32 (G2 : Int))).heap.size from by
        have h6 := HH.out.2.2.2.2.2.1
        rw [hV]; simpa [World.setCell] using h6)
      rw [← hV]
      clear hV b4 b7 s5 kd h4 hs4 c0 cc d0 d1 fl hfro
      refine wpIn_region_tail_lit (lets_round l _) 9 (fun w' => w' = V.drew) (by decide) (by kernel_rfl) rfl (by kernel_rfl) (by kernel_rfl) (by kernel_rfl) (by kernel_rfl) (by kernel_rfl) ?_
      simp only [List.take_succ_cons, List.take_zero, List.drop_succ_cons, List.drop_zero, List.map_cons, List.map_nil, List.cons_append, List.nil_append, idle]
      refine qs rfl (fun KQ hKQ => ?_)
      apply Exists.intro
      refine ⟨fun w' hw' => ?_, ?_⟩
      · go_simp; exact rfl
      go_simp
      refine hKQ _ ?_
      clear hKQ KQ
      refine qs rfl (fun KQ hKQ => ?_)
      apply Exists.intro
      refine ⟨fun w' hw' => ?_, ?_⟩
      · subst hw'; go_simp; exact rfl
      go_simp
      refine hKQ _ ?_
      clear hKQ KQ
      refine qs rfl (fun KQ hKQ => ?_)
      apply Exists.intro
      refine ⟨fun w' hw' => ?_, ?_⟩
      · go_simp; exact rfl
      go_simp
      refine hKQ _ ?_
      clear hKQ KQ
      refine qs rfl (fun KQ hKQ => ?_)
      apply Exists.intro
      refine ⟨fun w' hw' => ?_, ?_⟩
      · subst hw'; go_simp; exact rfl
      go_simp
      refine hKQ _ ?_
      clear hKQ KQ
      refine qs rfl (fun KQ hKQ => ?_)
      apply Exists.intro
      refine ⟨fun w' hw' => ?_, ?_⟩
      · go_simp; exact rfl
      go_simp
      refine hKQ _ ?_
      clear hKQ KQ
      refine qs rfl (fun KQ hKQ => ?_)
      apply Exists.intro
      refine ⟨fun w' hw' => ?_, ?_⟩
      · subst hw'; go_simp; exact rfl
      go_simp
      refine hKQ _ ?_
      clear hKQ KQ
      refine qs rfl (fun KQ hKQ => ?_)
      apply Exists.intro
      refine ⟨fun w' hw' => ?_, ?_⟩
      · go_simp; exact rfl
      go_simp
      refine hKQ _ ?_
      clear hKQ KQ
      refine qs rfl (fun KQ hKQ => ?_)
      apply Exists.intro
      refine ⟨fun w' hw' => ?_, ?_⟩
      · go_simp; exact rfl
      go_simp
      refine hKQ _ ?_
      clear hKQ KQ
      refine qs rfl (fun KQ hKQ => ?_)
      apply Exists.intro
      refine ⟨fun w' hw' => ?_, ?_⟩
      · go_simp; exact rfl
      go_simp
      refine hKQ _ ?_
      clear hKQ KQ
      refine qs rfl (fun KQ hKQ => ?_)
      apply Exists.intro
      refine ⟨fun w' hw' => ?_, ?_⟩
      · go_simp; exact rfl
      go_simp
      refine hKQ _ ?_
      clear hKQ KQ
      refine wpQuiet_nil ?_
      intro w' hw'
      subst hw'
      gi_wp2_with fail
      exact ⟨K2.out, K3.out, K1.out, K4.out⟩
  case done =>
    rintro D xs W hD hxs ⟨⟨h1, h2, h3, h4, h5⟩, h6⟩ hK
    rw [hxs] at h4
    obtain ⟨F, hF⟩ : ∃ F, F = nsF bs c (eseq N) := ⟨_, rfl⟩
    rw [← hF] at h4
    have HFE := hidd hF
    clear hF
    have HS1 := hidd (size_n F)
    have HO1 := hidd (show (ncell fun _ => 0).toArray.size = (ncell F).toArray.size by simp [ncell])
    have HA1 := hidd (ncell_one F)
    have R := hidd (And.intro h3 (And.intro h4 (And.intro (h3.rowSame (ncell F).toArray) (below_setRow h5 (g := w.heap.size + 1 + 1) (by omega) (ncell F).toArray))))
    have hK' : (W.setRow (w.heap.size + 1 + 1) (ncell F).toArray).heap[D]? = some (.deferred (some [])) := (setRow_other W (w.heap.size + 1 + 1) D _ (by have := hBn.lt; omega)).trans hK
    have HK := hidd hK'
    clear h1 h2 h3 h4 hK hK'
    gi_wp2_with (first
      | (refine inLoadRow rfl 125 (.tmp 5) rfl (w.heap.size + 1 + 1 + 1) rfl 125 _ _ R.out.2.1 Tryd.underlying125 rfl HS1.out ?_)
      | (refine inStoreRow rfl 125 (.tmp 4) (.tmp 38) rfl (w.heap.size + 1 + 1) _ rfl rfl 125 _ R.out.1 HS1.out HO1.out HA1.out ?_))
    have hDW : W0.heap.size ≤ D := hD
    have hlt := hBn.lt
    refine ⟨by simp [Act.put], .inl ⟨_, _, rfl, run_takeDeferred HK.out, ?_⟩⟩
    have hr : Blk ((W.setRow (w.heap.size + 1 + 1) (ncell F).toArray).putObj D (.deferred none)) (w.heap.size + 1 + 1) (ncell F).toArray 125 := (World.putObj_heap_other (by omega)).trans R.out.2.2.1
    have hb2 : Below w.heap.size w ((W.setRow (w.heap.size + 1 + 1) (ncell F).toArray).putObj D (.deferred none)) := R.out.2.2.2.grown (grownBy_putObj' _ D (.deferred none)) R.out.2.2.2.size (fun k e => by cases e; omega)
    rw [← HFE.out]
    exact ⟨_, results_cell_row rfl _ _ (w.heap.size + 1 + 1) 125 _ (0,0) _ rfl hr Tryd.underlying125 rfl HS1.out, rfl, hb2⟩
  case stop =>
    rintro D c pre W _ _ h _
    exact h.elim
end Go.Proofs.YtckffliiidgilaaDoor
