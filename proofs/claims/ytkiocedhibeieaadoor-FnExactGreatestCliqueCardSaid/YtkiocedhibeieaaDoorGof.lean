/- greatestOf: the first of the greatest cliques of a colour. -/
import Derived.Test.YtkiocedhibeieaaDoorCnM
namespace Go.Proofs.YtkiocedhibeieaaDoor
set_option linter.unusedVariables false
set_option linter.unusedSimpArgs false
open Go Go.RowKit Go.Shelf
attribute [local go_sem] Oper.semAt_some
/-- The greatest clique of a colour, as digits. -/
def grB (N : Nat) (bs : List Nat) (c : Int) : Nat := bitS (gst [] (cqR (fitR (nsF bs c (eseq N))) N [] N))
theorem none0 : ones (bitS []) = ([] : List Nat).length ∧ bitS [] < 2 ^ 17 := by
  have h : bitS [] = 0 := bitS_zero.2 rfl
  exact ⟨ones_bitS [] List.Pairwise.nil, by rw [h]; decide⟩
theorem blk_ne {W : World} {a b : Nat} {C D : Array Value} {t u : TypeId} (h : Blk W a C t) (k : Blk W b D u) (hn : t ≠ u) : a ≠ b := fun e => by
  subst e
  unfold Blk at h k
  rw [h] at k
  injection k with k
  injection k with k1 k2 k3
  exact hn k2
def RelGo {N : Nat} (B : Nat) (w : World) (pre : List (Cl N)) (W : World) : Prop :=
  Blk W (w.heap.size + 1) #[.int .u32 (bitS (gst [] (pre.map Cl.v)) : Nat)] 56 ∧ Below w.heap.size w W ∧ ones (bitS (gst [] (pre.map Cl.v))) = (gst [] (pre.map Cl.v)).length ∧ bitS (gst [] (pre.map Cl.v)) < 2 ^ 17 ∧ B ≤ W.heap.size
set_option maxRecDepth 100000 in
set_option maxHeartbeats 1000000 in
theorem greatest33 (N : Nat) (k c : Int) (bs : List Nat) (hb : Bys bs) (w : World) (N1 : 1 ≤ N) (N2 : N ≤ 17) :
    Calls Tryd.prog 51 #[.agg (ccells (N : Int) k bs).toArray, .int .i64 c] w fun e w' => e = .returned (.int .u32 (grB N bs c : Nat)) ∧ Below w.heap.size w w' ∧ ones (grB N bs c) = gsz N bs c ∧ grB N bs c < 2 ^ 17 := by
  have hfn : ∀ f, Fence.wide.fn f := fun _ => trivial
  have HS := hidd (size_c26 (N : Int) k hb)
  have HQ := hidd (fun W => cliques48 N k c bs hb W N1 N2)
  have hF := fun p => nsF_lt bs c (eseq N) p
  have hsym := nsF_sym bs c (eseq N) N2
  unfold grB gsz
  obtain ⟨F, hFe⟩ : ∃ F, F = nsF bs c (eseq N) := ⟨_, rfl⟩
  rw [← hFe] at HQ hF hsym ⊢
  have HZ0 := hidd none0
  have HF := hidd hF
  have HSY := hidd hsym
  clear hFe hF hsym
  refine (callsIn_wide (n := 8)).1 (callsIn_of_wp_marks Tryd.func51 rfl trivial ?_ rfl)
  simp only [Tryd.ntmps51, List.size_toArray, List.length_cons, List.length_nil, Nat.reduceAdd, Nat.reduceSub, Array.replicate_succ, Array.replicate_zero, List.push_toArray, List.append_toArray, List.nil_append, List.cons_append]
  have b3 : Blk ((w.alloc (Obj.cells (ccells (N : Int) k bs).toArray 28)).alloc (Obj.cells #[.int .u32 0] 56)) w.heap.size (ccells (N : Int) k bs).toArray 28 := (Blk.new _ _ _ _ rfl).alloc _
  have H3 := hidd b3
  gi_wp2_with (refine inLoadRow rfl 28 (.tmp 2) rfl w.heap.size rfl 28 _ _ H3.out Tryd.underlying28 rfl HS.out ?_)
  have b6 : Blk ((w.alloc (Obj.cells (ccells (N : Int) k bs).toArray 28)).alloc (Obj.cells #[.int .u32 0] 56)) (w.heap.size + 1) #[.int .u32 0] 56 := Blk.new _ _ _ _ (by simp)
  refine (callsIn_wide.2 (HQ.out _)).mono ?_
  rintro e W0 ⟨bx, bn, rfl, hBx, hBn, hb1⟩
  have hbl0 : Below w.heap.size w W0 := (((Below.refl _ _).alloc (Nat.le_refl _) _).alloc (by simp) _).trans (hb1.mono (by simp; omega))
  have h6 := b6.below hb1 b6.lt
  clear hb1 b3 b6
  gi_wp2
  refine wpIn_rangeFunc_ownH rfl (by omega) (gf := 77) (lb := #[.pointer (some ⟨bx, 0, none⟩), .pointer (some ⟨bn, 0, none⟩)]) rfl trivial (enters_of Tryd.func77 (by kernel_rfl) rfl)
    (seq58 6 bx bn N k bs hb F N1 N2 HF.out HSY.out W0 hBx hBn) kpC_t (kpC_b hBx.lt hBn.lt) (Below.refl _ _) (fun _ => rfl)
    (fun pre W => RelGo W0.heap.size w pre W)
    (fun c pre W => False)
    (fun s A B row hs hg hr => ⟨blk_own hs.1 hg hr, ownFrom_below (β := Unit) (Nat.le_refl _) hbl0.size () A B row hs.2.1 hg hr, hs.2.2.1, hs.2.2.2.1, Nat.le_trans hs.2.2.2.2 hg.size⟩)
    (fun _ _ _ _ _ hs _ _ => hs)
    ⟨h6, hbl0, HZ0.out.1, HZ0.out.2, Nat.le_refl _⟩
    (fun x a' W => a' = { tmps := #[.agg (ccells (N : Int) k bs).toArray, .int .i64 c, .pointer (some ⟨w.heap.size, 0, none⟩), undef, .int .u32 0, .pointer (some ⟨w.heap.size + 1, 0, none⟩), .int .u32 (bitS x.1 : Nat), .agg (ccells (N : Int) k bs).toArray, .int .i64 c, .func (.func 77) #[] #[.pointer (some ⟨bx, 0, none⟩), .pointer (some ⟨bn, 0, none⟩)], .int .u32 (bitS x.1 : Nat), undef, undef, undef, undef, undef, undef, undef], defers := [] })
    (fun x a' s A B row hs hg hr => hs) ?assign ?body ?done ?stop
  case assign =>
    intro l pre x W Kx hI hK
    have HI := hidd hI
    have HK := hidd hK
    clear hI hK
    dsimp only [encC]
    gi_wp2
    exact HK.out _ _ (KeepsFrom.refl _ _) ⟨rfl, rfl⟩ HI.out rfl
  case body =>
    rintro l pre x a' W hl _ ⟨g6, g7, g8, g8b, g9⟩ rfl hlen
    obtain ⟨xs1, xs2, xs3⟩ := x.2
    have hX17 : bitS x.1 < 2 ^ 17 := bitS_lt _ (fun q hq => by have := xs2 q hq; omega)
    have hXo := ones_bitS x.1 xs1
    have hsn : gst [] ((pre ++ [x]).map Cl.v) = if (gst [] (pre.map Cl.v)).length < x.1.length then x.1 else gst [] (pre.map Cl.v) := by
      rw [List.map_append]; exact gst_snoc _ _ _
    have HSN := hidd hsn
    have HZ := hidd (fun W => size34 (bitS x.1) hX17 W)
    have HY := hidd (fun W => size34 (bitS (gst [] (pre.map Cl.v))) g8b W)
    have HGF := hidd (And.intro hX17 hXo)
    rw [hXo] at HZ
    rw [g8] at HY
    obtain ⟨X, hX⟩ : ∃ X, X = bitS x.1 := ⟨_, rfl⟩
    obtain ⟨ln, hln⟩ : ∃ ln, ln = x.1.length := ⟨_, rfl⟩
    obtain ⟨G, hG⟩ : ∃ G, G = bitS (gst [] (pre.map Cl.v)) := ⟨_, rfl⟩
    obtain ⟨gl, hgl⟩ : ∃ gl, gl = (gst [] (pre.map Cl.v)).length := ⟨_, rfl⟩
    rw [← hX, ← hln] at HZ
    rw [← hG, ← hgl] at HY g8
    rw [← hG] at g6 g8b
    rw [← hgl, ← hln] at HSN
    rw [← hX]
    rw [← hX, ← hln] at HGF
    have HG := hidd (And.intro g6 (And.intro g7 (And.intro g8 (And.intro g8b g9))))
    have HXL := hidd (And.intro hX (And.intro hln (And.intro hG hgl)))
    clear g6 g7 g8 g8b g9 hX17 xs1 xs2 xs3 hX hln hG hgl hXo hsn
    have hfn : ∀ f, Fence.wide.fn f := fun _ => trivial
    cases hq : decide (gl < ln) with
    | false =>
      have hqI : decide ((gl : Int) < (ln : Int)) = false := decide_eq_false (by have := of_decide_eq_false hq; omega)
      have hd : gst [] ((pre ++ [x]).map Cl.v) = gst [] (pre.map Cl.v) := by rw [HSN.out, if_neg (by have := of_decide_eq_false hq; omega)]
      have HD := hidd hd
      clear hd
      gi_wp2
      refine wpIn_region_tail_lit (lets_round l _) 4 (fun w' => Below W.heap.size W w') (by decide) (by kernel_rfl) ((Below.refl _ _).drew) (by kernel_rfl) (by kernel_rfl) (by kernel_rfl) (by kernel_rfl) (by kernel_rfl) ?_
      simp only [List.take_succ_cons, List.take_zero, List.drop_succ_cons, List.drop_zero, List.map_cons, List.map_nil, List.cons_append, List.nil_append, idle]
      refine qs rfl (fun KQ hKQ => ?_)
      apply Exists.intro
      refine ⟨fun w' hw' => ?_, ?_⟩
      · go_simp; exact rfl
      go_simp
      refine hKQ _ ?_
      clear hKQ KQ
      refine qs rfl (fun KQ hKQ => ?_)
      apply Exists.intro
      refine ⟨fun w' hw' => ?_, ?_⟩
      · go_simp; exact (HZ.out _).mono fun _ _ h => ⟨h.1, by rw [h.2]; exact hw'.drew⟩
      go_simp
      refine hKQ _ ?_
      clear hKQ KQ
      refine qs rfl (fun KQ hKQ => ?_)
      apply Exists.intro
      refine ⟨fun w' hw' => ?_, ?_⟩
      · have e1 := (HG.out.1.below hw' HG.out.1.lt).cell (j := 0) (show _ = some (Value.int .u32 (G : Int)) from rfl); go_simp; exact rfl
      go_simp
      refine hKQ _ ?_
      clear hKQ KQ
      refine qs rfl (fun KQ hKQ => ?_)
      apply Exists.intro
      refine ⟨fun w' hw' => ?_, ?_⟩
      · go_simp; exact (HY.out _).mono fun _ _ h => ⟨h.1, by rw [h.2]; exact hw'.drew⟩
      go_simp
      refine hKQ _ ?_
      clear hKQ KQ
      refine qs rfl (fun KQ hKQ => ?_)
      apply Exists.intro
      refine ⟨fun w' hw' => ?_, ?_⟩
      · go_simp; exact rfl
      go_simp
      refine hKQ _ ?_
      clear hKQ KQ
      refine wpQuiet_nil ?_
      intro w' hw'
      have hWx := Nat.lt_of_lt_of_le hBx.lt HG.out.2.2.2.2
      have hWn := Nat.lt_of_lt_of_le hBn.lt HG.out.2.2.2.2
      have K1 := hidd (show RelGo W0.heap.size w (pre ++ [x]) w' from by
        unfold RelGo
        rw [HD.out, ← HXL.out.2.2.1, ← HXL.out.2.2.2]
        exact ⟨HG.out.1.below hw' HG.out.1.lt, HG.out.2.1.trans (hw'.mono HG.out.2.1.size), HG.out.2.2.1, HG.out.2.2.2.1, Nat.le_trans HG.out.2.2.2.2 hw'.size⟩)
      have K2 := hidd (show KpC bx bn W w' from ⟨hw'.block _ hWx, hw'.block _ hWn⟩)
      have K3 := hidd (keeps_below (B := W0.heap.size) hw')
      clear hw'
      gi_wp2_with fail
      exact ⟨K3.out, K2.out, K1.out⟩
    | true =>
      have hqI : decide ((gl : Int) < (ln : Int)) = true := decide_eq_true (by have := of_decide_eq_true hq; omega)
      have hd : gst [] ((pre ++ [x]).map Cl.v) = x.1 := by rw [HSN.out, if_pos (by have := of_decide_eq_true hq; omega)]
      have HD := hidd hd
      clear hd
      gi_wp2
      refine wpIn_region_tail_lit (lets_round l _) 4 (fun w' => Below W.heap.size W w') (by decide) (by kernel_rfl) ((Below.refl _ _).drew) (by kernel_rfl) (by kernel_rfl) (by kernel_rfl) (by kernel_rfl) (by kernel_rfl) ?_
      simp only [List.take_succ_cons, List.take_zero, List.drop_succ_cons, List.drop_zero, List.map_cons, List.map_nil, List.cons_append, List.nil_append, idle]
      refine qs rfl (fun KQ hKQ => ?_)
      apply Exists.intro
      refine ⟨fun w' hw' => ?_, ?_⟩
      · go_simp; exact rfl
      go_simp
      refine hKQ _ ?_
      clear hKQ KQ
      refine qs rfl (fun KQ hKQ => ?_)
      apply Exists.intro
      refine ⟨fun w' hw' => ?_, ?_⟩
      · go_simp; exact (HZ.out _).mono fun _ _ h => ⟨h.1, by rw [h.2]; exact hw'.drew⟩
      go_simp
      refine hKQ _ ?_
      clear hKQ KQ
      refine qs rfl (fun KQ hKQ => ?_)
      apply Exists.intro
      refine ⟨fun w' hw' => ?_, ?_⟩
      · have e1 := (HG.out.1.below hw' HG.out.1.lt).cell (j := 0) (show _ = some (Value.int .u32 (G : Int)) from rfl); go_simp; exact rfl
      go_simp
      refine hKQ _ ?_
      clear hKQ KQ
      refine qs rfl (fun KQ hKQ => ?_)
      apply Exists.intro
      refine ⟨fun w' hw' => ?_, ?_⟩
      · go_simp; exact (HY.out _).mono fun _ _ h => ⟨h.1, by rw [h.2]; exact hw'.drew⟩
      go_simp
      refine hKQ _ ?_
      clear hKQ KQ
      refine qs rfl (fun KQ hKQ => ?_)
      apply Exists.intro
      refine ⟨fun w' hw' => ?_, ?_⟩
      · go_simp; exact rfl
      go_simp
      refine hKQ _ ?_
      clear hKQ KQ
      refine wpQuiet_nil ?_
      intro w' hw'
      have hWx := Nat.lt_of_lt_of_le hBx.lt HG.out.2.2.2.2
      have hWn := Nat.lt_of_lt_of_le hBn.lt HG.out.2.2.2.2
      have r6 := HG.out.1.below hw' HG.out.1.lt
      have f6 := r6.fro 0
      have c6 := r6.cell (j := 0) (show _ = some (Value.int .u32 (G : Int)) from rfl)
      have hx6 : w.heap.size + 1 < W0.heap.size := h6.lt
      have hnx : bx ≠ w.heap.size + 1 := blk_ne hBx h6 (by decide)
      have hnn : bn ≠ w.heap.size + 1 := blk_ne hBn h6 (by decide)
      have K1 := hidd (show RelGo W0.heap.size w (pre ++ [x]) (w'.setCell ⟨w.heap.size + 1, 0, none⟩ (.int .u32 (X : Int))) from by
        unfold RelGo
        rw [HD.out, ← HXL.out.1, ← HXL.out.2.1]
        exact ⟨r6.same 0 _, (HG.out.2.1.trans (hw'.mono HG.out.2.1.size)).setCell (by show w.heap.size ≤ w.heap.size + 1; omega) _, HGF.out.2, HGF.out.1, by have := Nat.le_trans HG.out.2.2.2.2 hw'.size; simpa [World.setCell] using this⟩)
      have K2 := hidd (show KpC bx bn W (w'.setCell ⟨w.heap.size + 1, 0, none⟩ (.int .u32 (X : Int))) from ⟨(heap_setCell_other _ _ bx _ (by show bx ≠ w.heap.size + 1; exact hnx)).trans (hw'.block _ hWx), (heap_setCell_other _ _ bn _ (by show bn ≠ w.heap.size + 1; exact hnn)).trans (hw'.block _ hWn)⟩)
      have K3 := hidd ((keeps_below (B := W0.heap.size) hw').trans ((KeepsOthers.setCell w' ⟨w.heap.size + 1, 0, none⟩ (.int .u32 (X : Int))).from _))
      clear hw' r6
      gi_wp2_with fail
      exact ⟨K3.out, K2.out, K1.out⟩
  case done =>
    rintro D xs W hD hxs ⟨g6, g7, g8, g8b, g9⟩ hK
    rw [hxs] at g6 g8 g8b
    obtain ⟨X, hX⟩ : ∃ X, X = bitS (gst [] (cqR (fitR F) N [] N)) := ⟨_, rfl⟩
    rw [← hX] at g6 g8 g8b
    have HXX := hidd hX
    have f6 := g6.fro 0
    have c6 := g6.cell (j := 0) (show _ = some (Value.int .u32 (X : Int)) from rfl)
    have hDW : W0.heap.size ≤ D := hD
    have R := hidd (And.intro g7 (And.intro g8 (And.intro g8b hK)))
    have hsz := hbl0.size
    clear g6 g7 g8 g8b hK hX
    gi_wp2
    refine ⟨by simp [Act.put], .inl ⟨_, _, rfl, run_takeDeferred R.out.2.2.2, ?_⟩⟩
    have hb3 : Below w.heap.size w (W.putObj D (.deferred none)) := R.out.1.grown (grownBy_putObj' _ D (.deferred none)) R.out.1.size (fun k e => by cases e; omega)
    refine ⟨_, results_tmp rfl _ _ _, ?_⟩
    rw [← HXX.out]
    exact ⟨rfl, hb3, R.out.2.1, R.out.2.2.1⟩
  case stop =>
    rintro D c pre W _ _ h _
    exact h.elim
end Go.Proofs.YtkiocedhibeieaaDoor
