/- My texts Pts, Gof, HeldIn, Cli, Llx, HeldTail, Clj, Clk, Gre, Gqs, in one. -/
import Derived.Test.YtkiocedhibeieaaDoorHg
import Derived.Test.YtkiocedhibeieaaDoorHc
import Derived.Deep.RegionHeld2
/- points(): the points of a set as a list, ascending. -/
namespace Go.Proofs.YtkiocedhibeieaaDoor
set_option linter.unusedVariables false
set_option linter.unusedSimpArgs false
open Go Go.RowKit Go.Shelf
theorem make0 (n : Nat) (h : n ≤ 1048576) (w : World) : (Instr.makeSlice 25 (.int .i64 0) (.int .i64 n)).run Tryd.prog w = .ok (.slice (some ⟨w.heap.size, 0, none⟩) 0 n) (w.alloc (.cells (zrow n) 2)) := by
  obtain ⟨i, hi, hz0, hz1, hz2⟩ := info_parts info2
  have := run_make (P := Tryd.prog) w 25 2 i (.int .i64 0) Tryd.underlying25 hi hz0 .i64 .i64 0 n (by omega) (by omega) (by rw [hz2]; omega) (by omega)
  rw [this, hz1]
  simp [zrow, Value.cells]
def RelPo (w : World) (u : List Nat) (v : Value) (wr : World) : Prop := wr.ownsRow w.heap.size 2 1 v (rv u).length (icells (rv u)) ∧ Below w.heap.size w wr
theorem ones_17 {X : Nat} (h : X < 2 ^ 17) : ones X ≤ 17 := by rw [ones_cnt h]; exact cnt_le _ _
set_option maxRecDepth 100000 in
set_option maxHeartbeats 1000000 in
theorem points47 (s : List Nat) (hs : s.Pairwise (· > ·)) (h17 : ∀ q ∈ s, q < 17) (w : World) (hT : Tz w) (h0 : 0 < w.heap.size) :
    Calls Tryd.prog 47 #[.int .u32 (bitS s : Nat)] w fun e w' => ∃ a cap, e = .returned (.slice a s.length cap) ∧ OwnL w' w.heap.size a (rv s) ∧ Below w.heap.size w w' := by
  have hsz := size34 (bitS s) (bitS_lt _ h17)
  have hsl := ones_17 (bitS_lt _ h17)
  rw [ones_bitS s hs] at hsz hsl
  have HZ := hidd hsz
  have hmk := make0 s.length (by omega)
  obtain ⟨X0, hX0⟩ : ∃ X0, X0 = bitS s := ⟨_, rfl⟩
  obtain ⟨t0, hi2, hz0, hz1, hz3⟩ := info_parts info2
  have HIF := hidd (And.intro hi2 (And.intro hz0 (And.intro hz1 hz3)))
  rw [← hX0] at HZ ⊢
  have HX0 := hidd hX0
  have HT := hidd hT
  have HSS := hidd (And.intro hs h17)
  clear hsz hi2 hz0 hz1 hz3 hX0 hT hs h17
  go_enter Tryd.func47, Tryd.ntmps47
  go_wp2_with (go_at_call 55; refine (HZ.out _).mono ?_; rintro e w' ⟨rfl, rfl⟩)
  clear hmk
  go_loopw [3, 4] (fun v r wr => ∃ t u, s = t ++ u ∧ r = .int .u32 (bitS t : Nat) ∧ Hid (RelPo w u v wr)) (fun _ r _ => (intOf r).toNat)
  case atStart =>
    refine ⟨s, [], by simp, by rw [HX0.out], ⟨rfl, .inr ⟨w.heap.size, s.length, zrow s.length, rfl, Nat.le_refl _, ?_, ?_, ?_, ?_, ?_⟩⟩, ((Below.refl _ _).drew).alloc (Nat.le_refl _) _⟩
    · exact Blk.new _ _ _ _ rfl
    · simp [rv]
    · simp [maxLen]; omega
    · simp [zrow_size]
    · simp [rv, icells]
  case round =>
    obtain ⟨t, u, hst, rfl, HR⟩ := hrel
    rcases List.eq_nil_or_concat t with rfl | ⟨t', q, rfl⟩
    · have hx : ((bitS [] : Nat) : Int) = 0 := rfl
      obtain rfl : s = u := hst
      obtain ⟨a, cap, rfl, ho⟩ := own_list HR.out.1
      have K := hidd (And.intro ho HR.out.2)
      rw [hx]
      clear hx ho
      rw [rv_len]
      go_wp2_with fail
      go_ret
      exact ⟨a, cap, rfl, K.out.1, K.out.2⟩
    · rw [List.concat_eq_append] at hst ⊢
      have hbd : ∀ p ∈ t' ++ [q], p < 17 := fun p hp => HSS.out.2 p (by rw [hst]; exact List.mem_append_left _ hp)
      have hpw : ∀ p ∈ t', q < p := by
        have h := HSS.out.1
        rw [hst, List.append_assoc, List.pairwise_append] at h
        exact fun p hp => h.2.2 p hp q (by simp)
      obtain ⟨m, hm, hctz⟩ := low_form hpw hbd
      have hand := low_drop hpw hbd
      have hX17 := bitS_lt _ hbd
      have hX1 : 1 ≤ bitS (t' ++ [q]) := Nat.one_le_iff_ne_zero.2 fun e => by have := bitS_zero.1 e; simp at this
      have hTZ := fun W hW => tz32 (bitS (t' ++ [q])) (by omega) (by omega) W hW
      rw [hctz] at hTZ
      obtain ⟨X, hX⟩ : ∃ X, X = bitS (t' ++ [q]) := ⟨_, rfl⟩
      rw [← hX] at hTZ hX17 hX1 hand ⊢
      have hY : bitS t' ≤ X - 1 := by rw [← hand]; exact Nat.and_le_right
      obtain ⟨Y, hYY⟩ : ∃ Y, Y = bitS t' := ⟨_, rfl⟩
      rw [← hYY] at hand hY
      have hbt : bits .and .u32 (X : Int) ((X : Int) - 1) = (Y : Int) := by
        rw [show (X : Int) - 1 = ((X - 1 : Nat) : Int) by omega, u32_andn X _ (by omega) (by omega), hand]
      have hrv : rv (q :: u) = rv u ++ [(q : Int)] := rv_cons q u
      have HTZ := hidd hTZ
      have HQ := hidd (And.intro hst (And.intro hYY hrv))
      have hlu : (rv u).length ≤ 17 := by rw [rv_len]; have := congrArg List.length hst; simp at this; omega
      clear hm hctz hand hX hTZ hst hYY hrv hbd hpw
      have HTW := hidd (HT.out.below HR.out.2 h0)
      go_wp2_with fail
      refine (HTZ.out _ HTW.out).mono ?_
      rintro e w' ⟨rfl, rfl⟩
      have hown := HR.out.1
      have hsz := HR.out.2.size
      go_wp2_with (at_builtin; refine wpList_append_own _ rfl _ _ 25 rfl w.heap.size 2 t0 (.int .i64 0) 1 8 Tryd.underlying25 HIF.out.1 HIF.out.2.1 HIF.out.2.2.1 HIF.out.2.2.2 rfl (by decide) _ _ _ rfl (hown.alloc _) ⟨wr.heap.size, 0, none⟩ 1 1 [.int .i64 (q : Int)] rfl rfl ?c1 ?c2 ?c3 ?c4 ?c5 ?_)
      case c1 => exact one_new _ _ _
      case c2 => intro u hu; simp at hu; subst hu; rfl
      case c3 => unfold maxLen; omega
      case c4 => omega
      case c5 => simp; omega
      intro v' w2 hown' hgrow _
      have K3 := hidd (show RelPo w (q :: u) v' w2 from ⟨by rw [HQ.out.2.2, icells_app, List.length_append]; exact hown', HR.out.2.trans ((grown_step hown hgrow (by omega)).mono (by omega))⟩)
      clear hown' hgrow hown
      go_wp2
      go_roundw
      case rel => exact ⟨t', q :: u, by rw [HQ.out.1]; simp, by rw [← HQ.out.2.1], K3.out⟩
      case measure => simp [intOf]; omega
end Go.Proofs.YtkiocedhibeieaaDoor
/- greatestOf: the first of the greatest cliques of a colour. -/
namespace Go.Proofs.YtkiocedhibeieaaDoor
set_option linter.unusedVariables false
set_option linter.unusedSimpArgs false
open Go Go.RowKit Go.Shelf
attribute [local go_sem] Oper.semAt_some
/-- The greatest clique of a colour, as digits. -/
def grB (N : Nat) (bs : List Nat) (c : Int) : Nat := bitS (gst [] (cqR (fitR (nsF bs c (eseq N))) N [] N))
theorem none0 : ones (bitS []) = ([] : List Nat).length ∧ bitS [] < 2 ^ 17 := by
  have h : bitS [] = 0 := bitS_zero.2 rfl
  exact ⟨ones_bitS [] List.Pairwise.nil, by rw [h]; decide⟩
theorem blk_ne {W : World} {a b : Nat} {C D : Array Value} {t u : TypeId} (h : Blk W a C t) (k : Blk W b D u) (hn : t ≠ u) : a ≠ b := fun e => by
  subst e
  unfold Blk at h k
  rw [h] at k
  injection k with k
  injection k with k1 k2 k3
  exact hn k2
def RelGo {N : Nat} (B : Nat) (w : World) (pre : List (Cl N)) (W : World) : Prop :=
  Blk W (w.heap.size + 1) #[.int .u32 (bitS (gst [] (pre.map Cl.v)) : Nat)] 56 ∧ Below w.heap.size w W ∧ ones (bitS (gst [] (pre.map Cl.v))) = (gst [] (pre.map Cl.v)).length ∧ bitS (gst [] (pre.map Cl.v)) < 2 ^ 17 ∧ B ≤ W.heap.size
set_option maxRecDepth 100000 in
set_option maxHeartbeats 1000000 in
theorem greatest33 (N : Nat) (k c : Int) (bs : List Nat) (hb : Bys bs) (w : World) (N1 : 1 ≤ N) (N2 : N ≤ 17) :
    Calls Tryd.prog 51 #[.agg (ccells (N : Int) k bs).toArray, .int .i64 c] w fun e w' => e = .returned (.int .u32 (grB N bs c : Nat)) ∧ Below w.heap.size w w' ∧ ones (grB N bs c) = gsz N bs c ∧ grB N bs c < 2 ^ 17 := by
  have hfn : ∀ f, Fence.wide.fn f := fun _ => trivial
  have HS := hidd (size_c26 (N : Int) k hb)
  have HQ := hidd (fun W => cliques48 N k c bs hb W N1 N2)
  have hF := fun p => nsF_lt bs c (eseq N) p
  have hsym := nsF_sym bs c (eseq N) N2
  unfold grB gsz
  obtain ⟨F, hFe⟩ : ∃ F, F = nsF bs c (eseq N) := ⟨_, rfl⟩
  rw [← hFe] at HQ hF hsym ⊢
  have HZ0 := hidd none0
  have HF := hidd hF
  have HSY := hidd hsym
  clear hFe hF hsym
  refine (callsIn_wide (n := 8)).1 (callsIn_of_wp_marks Tryd.func51 rfl trivial ?_ rfl)
  simp only [Tryd.ntmps51, List.size_toArray, List.length_cons, List.length_nil, Nat.reduceAdd, Nat.reduceSub, Array.replicate_succ, Array.replicate_zero, List.push_toArray, List.append_toArray, List.nil_append, List.cons_append]
  have b3 : Blk ((w.alloc (Obj.cells (ccells (N : Int) k bs).toArray 28)).alloc (Obj.cells #[.int .u32 0] 56)) w.heap.size (ccells (N : Int) k bs).toArray 28 := (Blk.new _ _ _ _ rfl).alloc _
  have H3 := hidd b3
  gi_wp2_with (refine inLoadRow rfl 28 (.tmp 2) rfl w.heap.size rfl 28 _ _ H3.out Tryd.underlying28 rfl HS.out ?_)
  have b6 : Blk ((w.alloc (Obj.cells (ccells (N : Int) k bs).toArray 28)).alloc (Obj.cells #[.int .u32 0] 56)) (w.heap.size + 1) #[.int .u32 0] 56 := Blk.new _ _ _ _ (by simp)
  refine (callsIn_wide.2 (HQ.out _)).mono ?_
  rintro e W0 ⟨bx, bn, rfl, hBx, hBn, hb1⟩
  have hbl0 : Below w.heap.size w W0 := (((Below.refl _ _).alloc (Nat.le_refl _) _).alloc (by simp) _).trans (hb1.mono (by simp; omega))
  have h6 := b6.below hb1 b6.lt
  clear hb1 b3 b6
  gi_wp2
  refine wpIn_rangeFunc_ownH rfl (by omega) (gf := 77) (lb := #[.pointer (some ⟨bx, 0, none⟩), .pointer (some ⟨bn, 0, none⟩)]) rfl trivial (enters_of Tryd.func77 (by kernel_rfl) rfl)
    (seq58 6 bx bn N k bs hb F N1 N2 HF.out HSY.out W0 hBx hBn) kpC_t (kpC_b hBx.lt hBn.lt) (Below.refl _ _) (fun _ => rfl)
    (fun pre W => RelGo W0.heap.size w pre W)
    (fun c pre W => False)
    (fun s A B row hs hg hr => ⟨blk_own hs.1 hg hr, ownFrom_below (β := Unit) (Nat.le_refl _) hbl0.size () A B row hs.2.1 hg hr, hs.2.2.1, hs.2.2.2.1, Nat.le_trans hs.2.2.2.2 hg.size⟩)
    (fun _ _ _ _ _ hs _ _ => hs)
    ⟨h6, hbl0, HZ0.out.1, HZ0.out.2, Nat.le_refl _⟩
    (fun x a' W => a' = { tmps := #[.agg (ccells (N : Int) k bs).toArray, .int .i64 c, .pointer (some ⟨w.heap.size, 0, none⟩), undef, .int .u32 0, .pointer (some ⟨w.heap.size + 1, 0, none⟩), .int .u32 (bitS x.1 : Nat), .agg (ccells (N : Int) k bs).toArray, .int .i64 c, .func (.func 77) #[] #[.pointer (some ⟨bx, 0, none⟩), .pointer (some ⟨bn, 0, none⟩)], .int .u32 (bitS x.1 : Nat), undef, undef, undef, undef, undef, undef, undef], defers := [] })
    (fun x a' s A B row hs hg hr => hs) ?assign ?body ?done ?stop
  case assign =>
    intro l pre x W Kx hI hK
    have HI := hidd hI
    have HK := hidd hK
    clear hI hK
    dsimp only [encC]
    gi_wp2
    exact HK.out _ _ (KeepsFrom.refl _ _) ⟨rfl, rfl⟩ HI.out rfl
  case body =>
    rintro l pre x a' W hl _ ⟨g6, g7, g8, g8b, g9⟩ rfl hlen
    obtain ⟨xs1, xs2, xs3⟩ := x.2
    have hX17 : bitS x.1 < 2 ^ 17 := bitS_lt _ (fun q hq => by have := xs2 q hq; omega)
    have hXo := ones_bitS x.1 xs1
    have hsn : gst [] ((pre ++ [x]).map Cl.v) = if (gst [] (pre.map Cl.v)).length < x.1.length then x.1 else gst [] (pre.map Cl.v) := by
      rw [List.map_append]; exact gst_snoc _ _ _
    have HSN := hidd hsn
    have HZ := hidd (fun W => size34 (bitS x.1) hX17 W)
    have HY := hidd (fun W => size34 (bitS (gst [] (pre.map Cl.v))) g8b W)
    have HGF := hidd (And.intro hX17 hXo)
    rw [hXo] at HZ
    rw [g8] at HY
    obtain ⟨X, hX⟩ : ∃ X, X = bitS x.1 := ⟨_, rfl⟩
    obtain ⟨ln, hln⟩ : ∃ ln, ln = x.1.length := ⟨_, rfl⟩
    obtain ⟨G, hG⟩ : ∃ G, G = bitS (gst [] (pre.map Cl.v)) := ⟨_, rfl⟩
    obtain ⟨gl, hgl⟩ : ∃ gl, gl = (gst [] (pre.map Cl.v)).length := ⟨_, rfl⟩
    rw [← hX, ← hln] at HZ
    rw [← hG, ← hgl] at HY g8
    rw [← hG] at g6 g8b
    rw [← hgl, ← hln] at HSN
    rw [← hX]
    rw [← hX, ← hln] at HGF
    have HG := hidd (And.intro g6 (And.intro g7 (And.intro g8 (And.intro g8b g9))))
    have HXL := hidd (And.intro hX (And.intro hln (And.intro hG hgl)))
    clear g6 g7 g8 g8b g9 hX17 xs1 xs2 xs3 hX hln hG hgl hXo hsn
    have hfn : ∀ f, Fence.wide.fn f := fun _ => trivial
    cases hq : decide (gl < ln) with
    | false =>
      have hqI : decide ((gl : Int) < (ln : Int)) = false := decide_eq_false (by have := of_decide_eq_false hq; omega)
      have hd : gst [] ((pre ++ [x]).map Cl.v) = gst [] (pre.map Cl.v) := by rw [HSN.out, if_neg (by have := of_decide_eq_false hq; omega)]
      have HD := hidd hd
      clear hd
      gi_wp2
      refine wpIn_region_tail_lit (lets_round l _) 4 (fun w' => Below W.heap.size W w') (by decide) (by kernel_rfl) ((Below.refl _ _).drew) (by kernel_rfl) (by kernel_rfl) (by kernel_rfl) (by kernel_rfl) (by kernel_rfl) ?_
      simp only [List.take_succ_cons, List.take_zero, List.drop_succ_cons, List.drop_zero, List.map_cons, List.map_nil, List.cons_append, List.nil_append, idle]
      refine qs rfl (fun KQ hKQ => ?_)
      apply Exists.intro
      refine ⟨fun w' hw' => ?_, ?_⟩
      · go_simp; exact rfl
      go_simp
      refine hKQ _ ?_
      clear hKQ KQ
      refine qs rfl (fun KQ hKQ => ?_)
      apply Exists.intro
      refine ⟨fun w' hw' => ?_, ?_⟩
      · go_simp; exact (HZ.out _).mono fun _ _ h => ⟨h.1, by rw [h.2]; exact hw'.drew⟩
      go_simp
      refine hKQ _ ?_
      clear hKQ KQ
      refine qs rfl (fun KQ hKQ => ?_)
      apply Exists.intro
      refine ⟨fun w' hw' => ?_, ?_⟩
      · have e1 := (HG.out.1.below hw' HG.out.1.lt).cell (j := 0) (show _ = some (Value.int .u32 (G : Int)) from rfl); go_simp; exact rfl
      go_simp
      refine hKQ _ ?_
      clear hKQ KQ
      refine qs rfl (fun KQ hKQ => ?_)
      apply Exists.intro
      refine ⟨fun w' hw' => ?_, ?_⟩
      · go_simp; exact (HY.out _).mono fun _ _ h => ⟨h.1, by rw [h.2]; exact hw'.drew⟩
      go_simp
      refine hKQ _ ?_
      clear hKQ KQ
      refine qs rfl (fun KQ hKQ => ?_)
      apply Exists.intro
      refine ⟨fun w' hw' => ?_, ?_⟩
      · go_simp; exact rfl
      go_simp
      refine hKQ _ ?_
      clear hKQ KQ
      refine wpQuiet_nil ?_
      intro w' hw'
      have hWx := Nat.lt_of_lt_of_le hBx.lt HG.out.2.2.2.2
      have hWn := Nat.lt_of_lt_of_le hBn.lt HG.out.2.2.2.2
      have K1 := hidd (show RelGo W0.heap.size w (pre ++ [x]) w' from by
        unfold RelGo
        rw [HD.out, ← HXL.out.2.2.1, ← HXL.out.2.2.2]
        exact ⟨HG.out.1.below hw' HG.out.1.lt, HG.out.2.1.trans (hw'.mono HG.out.2.1.size), HG.out.2.2.1, HG.out.2.2.2.1, Nat.le_trans HG.out.2.2.2.2 hw'.size⟩)
      have K2 := hidd (show KpC bx bn W w' from ⟨hw'.block _ hWx, hw'.block _ hWn⟩)
      have K3 := hidd (keeps_below (B := W0.heap.size) hw')
      clear hw'
      gi_wp2_with fail
      exact ⟨K3.out, K2.out, K1.out⟩
    | true =>
      have hqI : decide ((gl : Int) < (ln : Int)) = true := decide_eq_true (by have := of_decide_eq_true hq; omega)
      have hd : gst [] ((pre ++ [x]).map Cl.v) = x.1 := by rw [HSN.out, if_pos (by have := of_decide_eq_true hq; omega)]
      have HD := hidd hd
      clear hd
      gi_wp2
      refine wpIn_region_tail_lit (lets_round l _) 4 (fun w' => Below W.heap.size W w') (by decide) (by kernel_rfl) ((Below.refl _ _).drew) (by kernel_rfl) (by kernel_rfl) (by kernel_rfl) (by kernel_rfl) (by kernel_rfl) ?_
      simp only [List.take_succ_cons, List.take_zero, List.drop_succ_cons, List.drop_zero, List.map_cons, List.map_nil, List.cons_append, List.nil_append, idle]
      refine qs rfl (fun KQ hKQ => ?_)
      apply Exists.intro
      refine ⟨fun w' hw' => ?_, ?_⟩
      · go_simp; exact rfl
      go_simp
      refine hKQ _ ?_
      clear hKQ KQ
      refine qs rfl (fun KQ hKQ => ?_)
      apply Exists.intro
      refine ⟨fun w' hw' => ?_, ?_⟩
      · go_simp; exact (HZ.out _).mono fun _ _ h => ⟨h.1, by rw [h.2]; exact hw'.drew⟩
      go_simp
      refine hKQ _ ?_
      clear hKQ KQ
      refine qs rfl (fun KQ hKQ => ?_)
      apply Exists.intro
      refine ⟨fun w' hw' => ?_, ?_⟩
      · have e1 := (HG.out.1.below hw' HG.out.1.lt).cell (j := 0) (show _ = some (Value.int .u32 (G : Int)) from rfl); go_simp; exact rfl
      go_simp
      refine hKQ _ ?_
      clear hKQ KQ
      refine qs rfl (fun KQ hKQ => ?_)
      apply Exists.intro
      refine ⟨fun w' hw' => ?_, ?_⟩
      · go_simp; exact (HY.out _).mono fun _ _ h => ⟨h.1, by rw [h.2]; exact hw'.drew⟩
      go_simp
      refine hKQ _ ?_
      clear hKQ KQ
      refine qs rfl (fun KQ hKQ => ?_)
      apply Exists.intro
      refine ⟨fun w' hw' => ?_, ?_⟩
      · go_simp; exact rfl
      go_simp
      refine hKQ _ ?_
      clear hKQ KQ
      refine wpQuiet_nil ?_
      intro w' hw'
      have hWx := Nat.lt_of_lt_of_le hBx.lt HG.out.2.2.2.2
      have hWn := Nat.lt_of_lt_of_le hBn.lt HG.out.2.2.2.2
      have r6 := HG.out.1.below hw' HG.out.1.lt
      have f6 := r6.fro 0
      have c6 := r6.cell (j := 0) (show _ = some (Value.int .u32 (G : Int)) from rfl)
      have hx6 : w.heap.size + 1 < W0.heap.size := h6.lt
      have hnx : bx ≠ w.heap.size + 1 := blk_ne hBx h6 (by decide)
      have hnn : bn ≠ w.heap.size + 1 := blk_ne hBn h6 (by decide)
      have K1 := hidd (show RelGo W0.heap.size w (pre ++ [x]) (w'.setCell ⟨w.heap.size + 1, 0, none⟩ (.int .u32 (X : Int))) from by
        unfold RelGo
        rw [HD.out, ← HXL.out.1, ← HXL.out.2.1]
        exact ⟨r6.same 0 _, (HG.out.2.1.trans (hw'.mono HG.out.2.1.size)).setCell (by show w.heap.size ≤ w.heap.size + 1; omega) _, HGF.out.2, HGF.out.1, by have := Nat.le_trans HG.out.2.2.2.2 hw'.size; simpa [World.setCell] using this⟩)
      have K2 := hidd (show KpC bx bn W (w'.setCell ⟨w.heap.size + 1, 0, none⟩ (.int .u32 (X : Int))) from ⟨(heap_setCell_other _ _ bx _ (by show bx ≠ w.heap.size + 1; exact hnx)).trans (hw'.block _ hWx), (heap_setCell_other _ _ bn _ (by show bn ≠ w.heap.size + 1; exact hnn)).trans (hw'.block _ hWn)⟩)
      have K3 := hidd ((keeps_below (B := W0.heap.size) hw').trans ((KeepsOthers.setCell w' ⟨w.heap.size + 1, 0, none⟩ (.int .u32 (X : Int))).from _))
      clear hw' r6
      gi_wp2_with fail
      exact ⟨K3.out, K2.out, K1.out⟩
  case done =>
    rintro D xs W hD hxs ⟨g6, g7, g8, g8b, g9⟩ hK
    rw [hxs] at g6 g8 g8b
    obtain ⟨X, hX⟩ : ∃ X, X = bitS (gst [] (cqR (fitR F) N [] N)) := ⟨_, rfl⟩
    rw [← hX] at g6 g8 g8b
    have HXX := hidd hX
    have f6 := g6.fro 0
    have c6 := g6.cell (j := 0) (show _ = some (Value.int .u32 (X : Int)) from rfl)
    have hDW : W0.heap.size ≤ D := hD
    have R := hidd (And.intro g7 (And.intro g8 (And.intro g8b hK)))
    have hsz := hbl0.size
    clear g6 g7 g8 g8b hK hX
    gi_wp2
    refine ⟨by simp [Act.put], .inl ⟨_, _, rfl, run_takeDeferred R.out.2.2.2, ?_⟩⟩
    have hb3 : Below w.heap.size w (W.putObj D (.deferred none)) := R.out.1.grown (grownBy_putObj' _ D (.deferred none)) R.out.1.size (fun k e => by cases e; omega)
    refine ⟨_, results_tmp rfl _ _ _, ?_⟩
    rw [← HXX.out]
    exact ⟨rfl, hb3, R.out.2.1, R.out.2.2.1⟩
  case stop =>
    rintro D c pre W _ _ h _
    exact h.elim
end Go.Proofs.YtkiocedhibeieaaDoor
/- Inside a fence, in a round too: a region that draws its order; what yields in every world that meets S is taken first. -/
namespace Go.Proofs.YtkiocedhibeieaaDoor
set_option linter.unusedVariables false
set_option linter.unusedSimpArgs false
open Go
section
variable {F : Fence} {n : Nat} {P : Program} {md : Region.Mode} {ops : Array Oper} {Q : Exit → Act → World → Prop} {S : World → Prop}
theorem yieldsIf_wpOpIn (hL : Lets F n P) {i : Nat} {o : Oper} {v : Value} {a : Act} (hi : ops[i]? = some o) (hdf : ∀ c, o.op ≠ .defer c) (hy : YieldsIf P ops S o v a)
    {K : Act → World → Prop} {w : World} (hS : S w) (h : K (a.put o.dst v) w) : wpOpIn F n P ops Q i K a w := by
  unfold Go.wpOpIn
  simp only [hi]
  rcases hy with ⟨hw, hv⟩ | ⟨hw, rfl⟩
  · simp only [hw, if_true, Oper.wpIn]
    rw [Oper.semAt_eq _ _ _ hdf, hv w hS]
    exact ⟨fun f _ => hL.fn f, h⟩
  · simp only [hw, Bool.false_eq_true, if_false]; exact ⟨fun f _ => hL.fn f, h⟩
theorem wpOpIn_putIf (hL : Lets F n P) {j : Nat} {oi oj : Oper} {v : Value} (hj : ops[j]? = some oj) (hdj : ∀ c, oj.op ≠ .defer c) (hap : oi.apart ops oj = true)
    (hsi : ∀ cs b, oi.op ≠ .select cs b) (hsj : ∀ cs b, oj.op ≠ .select cs b)
    (hQ : ∀ c a w, Q (.panic c) (a.put oi.dst v) w → Q (.panic c) a w) {K : Act → World → Prop} {a : Act} {w : World}
    (hy : YieldsIf P ops S oi v a) (h : wpOpIn F n P ops Q j K (a.put oi.dst v) w) :
    wpOpIn F n P ops Q j (fun a' w' => YieldsIf P ops S oi v a' ∧ K (a'.put oi.dst v) w') a w := by
  obtain ⟨h1, h2, h3⟩ := Oper.apart_spec hap
  have keep : ∀ (a : Act), YieldsIf P ops S oi v a → ∀ u, YieldsIf P ops S oi v (a.put oj.dst u) := fun a hy u =>
    hy.of_same (execOp_put oi hsi a oj.dst u h3) (wanted_put oi a oj.dst u h3)
  have keepD : ∀ d, YieldsIf P ops S oi v { a with defers := d :: a.defers } := fun d => hy.of_same rfl rfl
  unfold wpOpIn at *
  simp only [hj] at *
  rw [wanted_put oj a oi.dst v h1, about_put oj w a oi.dst v h1] at h
  split
  · rename_i hw
    simp only [hw, if_true] at h
    unfold Oper.wpIn at *
    rw [about_put oj w a oi.dst v h1] at h
    refine ⟨h.1, ?_⟩
    have h := h.2
    rw [Oper.semAt_eq _ _ _ hdj, execOp_put oj hsj a oi.dst v h1] at h
    rw [Oper.semAt_eq _ _ _ hdj]
    generalize (execOp a.eval oj).run P w = r at *
    cases r with
    | ok x w' =>
      cases x <;> simp only [Oper.uponIn] at h ⊢
      case value u => exact ⟨keep a hy u, by rw [← Act.put_comm a v u h2]; exact h⟩
      case skip => exact ⟨keep a hy _, by rw [← Act.put_comm a v undef h2]; exact h⟩
      case defer d =>
        refine ⟨keep _ (keepD d) _, ?_⟩
        rw [← Act.put_comm _ v undef h2, ← Act.put_defers]
        exact h
      case enter f args =>
        refine ⟨h.1, CallsIn.mono h.2 fun e w'' he => ?_⟩
        cases e with
        | returned u => exact ⟨keep a hy u, by rw [← Act.put_comm a v u h2]; exact he⟩
        | panicked c => exact hQ _ _ _ he
        | outgrown => exact he
      case row row args => exact ⟨h.1, RowsIn.mono h.2 fun u w'' he => ⟨keep a hy u, by rw [← Act.put_comm a v u h2]; exact he⟩⟩
      case round l f tmps assign body =>
        refine ⟨h.1, RoundIn.mono h.2 fun e w'' he => ?_⟩
        cases e with
        | returned u => exact ⟨keep a hy u, by rw [← Act.put_comm a v u h2]; exact he⟩
        | panicked c => exact hQ _ _ _ he
        | outgrown => exact he
    | halt x w' =>
      cases x <;> simp only [Oper.uponIn] at h ⊢
      case panic u => exact hQ _ _ _ h
  · rename_i hw
    simp only [hw] at h
    exact ⟨h.1, keep a hy _, by rw [← Act.put_comm a v undef h2]; exact h.2⟩
def wpAnyHI (F : Fence) (n : Nat) (P : Program) (md : Region.Mode) (ops : Array Oper) (Q : Exit → Act → World → Prop) (S : World → Prop) : Nat → Array Bool → Act → World → Prop
  | 0, listed, a, w => Region.ready md ops listed = [] ∧ Q .normal a w
  | fuel + 1, listed, a, w =>
    (Region.ready md ops listed = [] → Q .normal a w) ∧
    ∀ i ∈ Region.ready md ops listed, wpOpIn F n P ops Q i (fun a' w' => S w' ∧ wpAnyHI F n P md ops Q S fuel (listed.setIfInBounds i true) a' w') a w
theorem wpAnyIn_of_held : ∀ (fuel : Nat) (listed : Array Bool) (a : Act) (w : World), wpAnyHI F n P md ops Q S fuel listed a w → wpAnyIn F n P md ops Q fuel listed a w
  | 0, _, _, _, h => h
  | fuel + 1, _, _, _, h => ⟨h.1, fun i hi => wpOpIn_mono (fun a' w' h' => wpAnyIn_of_held fuel _ a' w' h'.2) (h.2 i hi)⟩
theorem wpAnyHI_first (hL : Lets F n P) (hcm : calmB ops = true) {i : Nat} {oi : Oper} {v : Value} (hi : ops[i]? = some oi) (hsel : ∀ (j : Nat) (o : Oper) cs b, ops[j]? = some o → o.op ≠ .select cs b)
    (hQ : ∀ c a w, Q (.panic c) (a.put oi.dst v) w → Q (.panic c) a w) :
    ∀ (fuel : Nat) (listed : Array Bool) (a : Act) (w : World),
      (∀ j oj, ops[j]? = some oj → j ≠ i → listed.getD j true = false → (∀ e ∈ oj.after, Region.binds md e = true → e.on ≠ i) → oi.apart ops oj = true) →
      i ∈ Region.ready md ops listed → YieldsIf P ops S oi v a → S w →
      wpAnyHI F n P md ops Q S fuel (listed.setIfInBounds i true) (a.put oi.dst v) w → wpAnyHI F n P md ops Q S (fuel + 1) listed a w := by
  intro fuel
  induction fuel with
  | zero =>
    intro listed a w _ hr hy hS H
    refine ⟨fun h => (by rw [h] at hr; cases hr), fun j hj => ?_⟩
    by_cases hji : j = i
    · subst hji; exact yieldsIf_wpOpIn hL hi (calm_spec hcm hi) hy hS ⟨hS, H⟩
    · have := ready_mono hj hji
      rw [H.1] at this
      cases this
  | succ fuel ih =>
    intro listed a w hfree hr hy hS H
    refine ⟨fun h => (by rw [h] at hr; cases hr), fun j hj => ?_⟩
    by_cases hji : j = i
    · subst hji; exact yieldsIf_wpOpIn hL hi (calm_spec hcm hi) hy hS ⟨hS, H⟩
    · have h1 := H.2 j (ready_mono hj hji)
      obtain ⟨hjun, oj, hoj, hall⟩ := mem_ready.1 hj
      have hnot : ∀ e ∈ oj.after, Region.binds md e = true → e.on ≠ i := fun e he hb heq => by
        have h1 := hall e he hb
        have h0 := (mem_ready.1 hr).1
        rw [heq] at h1
        rcases Nat.lt_or_ge i listed.size with h' | h'
        · simp [h'] at h0 h1; rw [h0] at h1; cases h1
        · simp [Array.getElem?_eq_none h'] at h1
      have h2 := wpOpIn_putIf hL hoj (calm_spec hcm hoj) (hfree j oj hoj hji hjun hnot) (fun cs b => hsel i oi cs b hi) (fun cs b => hsel j oj cs b hoj) hQ hy h1
      have hfree' : ∀ k ok, ops[k]? = some ok → k ≠ i → (listed.setIfInBounds j true).getD k true = false →
          (∀ e ∈ ok.after, Region.binds md e = true → e.on ≠ i) → oi.apart ops ok = true := fun k ok hk hki hun hno => by
        refine hfree k ok hk hki ?_ hno
        by_cases hjk : j = k
        · subst hjk; exact hjun
        · rw [getD_set_ne true hjk] at hun; exact hun
      refine wpOpIn_mono (fun a' w' h3 => ⟨h3.2.1, ih (listed.setIfInBounds j true) a' w' hfree' (ready_mono hr (Ne.symm hji)) h3.1 h3.2.1 ?_⟩) h2
      rw [Array.setIfInBounds_comm _ _ hji]
      exact h3.2.2
theorem wpAnyHI_take (hL : Lets F n P) (hcm : calmB ops = true) {i : Nat} {oi : Oper} {v : Value} {fuel : Nat} {listed : Array Bool} {a : Act} {w : World} (hi : ops[i]? = some oi)
    (hs : Region.noSelect ops = true) (hf : Region.free md ops listed i = true) (hr : (Region.ready md ops listed).contains i = true)
    (hQ : ∀ c a w, Q (.panic c) (a.put oi.dst v) w → Q (.panic c) a w) (hy : YieldsIf P ops S oi v a) (hS : S w)
    (h : wpAnyHI F n P md ops Q S fuel (listed.setIfInBounds i true) (a.put oi.dst v) w) : wpAnyHI F n P md ops Q S (fuel + 1) listed a w :=
  wpAnyHI_first hL hcm hi (Region.noSelect_spec hs) hQ fuel listed a w (Region.free_spec hi hf) (by simpa using hr) hy hS h
def AllReadyHI (F : Fence) (n : Nat) (P : Program) (md : Region.Mode) (ops : Array Oper) (Q : Exit → Act → World → Prop) (S : World → Prop) (fuel : Nat) (listed : Array Bool) (a : Act) (w : World) (rs : List Nat) : Prop :=
  ∀ i ∈ rs, wpOpIn F n P ops Q i (fun a' w' => S w' ∧ wpAnyHI F n P md ops Q S fuel (listed.setIfInBounds i true) a' w') a w
theorem AllReadyHI.nil {fuel : Nat} {listed : Array Bool} {a : Act} {w : World} : AllReadyHI F n P md ops Q S fuel listed a w [] := fun _ h => by cases h
theorem AllReadyHI.cons {fuel : Nat} {listed : Array Bool} {a : Act} {w : World} {i : Nat} {o : Oper} {rs : List Nat} (ho : ops[i]? = some o)
    (h : ∀ K' : Act → World → Prop, Shut (∀ a w, S w → (S w → wpAnyHI F n P md ops Q S fuel (listed.setIfInBounds i true) a w) → K' a w) → if Region.wanted o (yielded ops a.tmps) = true then Oper.wpIn F n P o a w K' Q else (∀ f, o.about P w a.eval = some f → F.fn f) ∧ K' (a.put o.dst undef) w)
    (hs : AllReadyHI F n P md ops Q S fuel listed a w rs) : AllReadyHI F n P md ops Q S fuel listed a w (i :: rs) := fun j hj => by
  rcases List.mem_cons.1 hj with rfl | hj
  · exact wpOpIn_step ho (fun K' hK => h K' (fun a w hS hW => hK a w ⟨hS, hW hS⟩))
  · exact hs j hj
theorem wpAnyHI_ready {rs : List Nat} {fuel : Nat} {listed : Array Bool} {a : Act} {w : World} (hr : Region.ready md ops listed = rs) (hne : rs ≠ [])
    (h : AllReadyHI F n P md ops Q S fuel listed a w rs) : wpAnyHI F n P md ops Q S (fuel + 1) listed a w := ⟨fun h0 => absurd (hr ▸ h0) hne, hr ▸ h⟩
theorem wpAnyHI_done {listed : Array Bool} {a : Act} {w : World} (hr : Region.ready md ops listed = []) (h : Q .normal a w) :
    ∀ fuel, wpAnyHI F n P md ops Q S fuel listed a w
  | 0 => ⟨hr, h⟩
  | _ + 1 => ⟨fun _ => h, by rw [hr]; simp⟩
theorem wpIn_region_held_drew {id : Nat} {a : Act} {w : World} (hm : P.follows .mixedOrders = true) (hS : S w.drew)
    (h : S w.drew → wpAnyHI F n P .any ops Q S ops.size (Array.replicate ops.size false) a w.drew) : (Code.region id ops true).wpIn F n P Q a w :=
  wpIn_region_any hm (wpAnyIn_of_held _ _ _ _ (h hS))
end
end Go.Proofs.YtkiocedhibeieaaDoor
/- CliqueList: the program. -/
namespace Go.Proofs.YtkiocedhibeieaaDoor
set_option linter.unusedVariables false
set_option linter.unusedSimpArgs false
open Go Go.RowKit Go.Shelf
attribute [local go_sem] Oper.semAt_some
/-- The call's first blocks. -/
def Cl4 (C : Array Value) (m : Int) (w W : World) : Prop :=
  Blk W w.heap.size C 28 ∧ Blk W (w.heap.size + 1) #[.int .i64 m] 2 ∧ Blk W (w.heap.size + 1 + 1) #[.slice none 0 0] 37 ∧ Blk W (w.heap.size + 1 + 1 + 1) #[.int .i64 0] 2 ∧ Below w.heap.size w W
theorem cl4_start (C : Array Value) (m : Int) (w : World) : Cl4 C m w ((((w.alloc (Obj.cells C 28)).alloc (Obj.cells #[.int .i64 m] 2)).alloc (Obj.cells #[.slice none 0 0] 37)).alloc (Obj.cells #[.int .i64 0] 2)) :=
  ⟨(((Blk.new _ _ _ _ rfl).alloc _).alloc _).alloc _, ((Blk.new _ _ _ _ (by simp)).alloc _).alloc _, (Blk.new _ _ _ _ (by simp)).alloc _, Blk.new _ _ _ _ (by simp),
    ((((Below.refl _ _).alloc (Nat.le_refl _) _).alloc (by simp) _).alloc (by simp; omega) _).alloc (by simp; omega) _⟩
theorem Cl4.below {C : Array Value} {m : Int} {w W W' : World} (h : Cl4 C m w W) (hb : Below W.heap.size W W') : Cl4 C m w W' :=
  ⟨h.1.below hb h.1.lt, h.2.1.below hb h.2.1.lt, h.2.2.1.below hb h.2.2.1.lt, h.2.2.2.1.below hb h.2.2.2.1.lt, h.2.2.2.2.trans (hb.mono h.2.2.2.2.size)⟩
theorem results_cells2 {P : Program} {fn : Func} {p q : Tmp} {ty ty2 : TypeId} (h : fn.results = #[.cell p ty, .cell q ty2]) (tmps : Array Value) (w : World) (g1 g2 : Nat) (v1 v2 : Value)
    (hp : tmps.getD p undef = .pointer (some ⟨g1, 0, none⟩)) (hq : tmps.getD q undef = .pointer (some ⟨g2, 0, none⟩)) (hl1 : (loadVar ty ⟨g1, 0, none⟩).run P w = .ok v1 w) (hl2 : (loadVar ty2 ⟨g2, 0, none⟩).run P w = .ok v2 w) :
    (results fn tmps).run P w = .ok (.tuple #[v1, v2]) w := by
  have hp' : tmps[p]?.getD undef = .pointer (some ⟨g1, 0, none⟩) := by simpa using hp
  have hq' : tmps[q]?.getD undef = .pointer (some ⟨g2, 0, none⟩) := by simpa using hq
  simp [results, h, hp', hq', asAddr, hl1, hl2]
theorem load37 {w : World} {g : Nat} {v : Value} (h : w.cell? ⟨g, 0, none⟩ = some v) : (loadVar 37 ⟨g, 0, none⟩).run Tryd.prog w = .ok v w := by
  go_simp
theorem load2 {w : World} {g : Nat} {v : Value} (h : w.cell? ⟨g, 0, none⟩ = some v) : (loadVar 2 ⟨g, 0, none⟩).run Tryd.prog w = .ok v w := by
  go_simp
/-- Both results stored. -/
theorem cl4_stores {C : Array Value} {m : Int} {w W : World} (h : Cl4 C m w W) (v : Value) (cd : Int) :
    Blk ((W.setCell ⟨w.heap.size + 1 + 1, 0, none⟩ v).setCell ⟨w.heap.size + 1 + 1 + 1, 0, none⟩ (.int .i64 cd)) (w.heap.size + 1 + 1) #[v] 37 ∧
    Blk ((W.setCell ⟨w.heap.size + 1 + 1, 0, none⟩ v).setCell ⟨w.heap.size + 1 + 1 + 1, 0, none⟩ (.int .i64 cd)) (w.heap.size + 1 + 1 + 1) #[.int .i64 cd] 2 ∧
    Below w.heap.size w ((W.setCell ⟨w.heap.size + 1 + 1, 0, none⟩ v).setCell ⟨w.heap.size + 1 + 1 + 1, 0, none⟩ (.int .i64 cd)) :=
  ⟨(h.2.2.1.same 0 _).other _ _ (by show w.heap.size + 1 + 1 ≠ w.heap.size + 1 + 1 + 1; omega), (h.2.2.2.1.other _ _ (by show w.heap.size + 1 + 1 + 1 ≠ w.heap.size + 1 + 1; omega)).same 0 _,
    (h.2.2.2.2.setCell (by show w.heap.size ≤ w.heap.size + 1 + 1; omega) _).setCell (by show w.heap.size ≤ w.heap.size + 1 + 1 + 1; omega) _⟩
set_option maxRecDepth 100000 in
set_option maxHeartbeats 1000000 in
theorem impl23_1 (n k : Int) (bs : List Nat) (hb : Bys bs) (c m : Int) (w : World) (hi : isCol n k bs = false) :
    Calls Tryd.prog 23 #[.agg (ccells n k bs).toArray, .int .i64 c, .int .i64 m] w (LLOut w [] 1) := by
  have HS := hidd (size_c26 n k hb)
  have HI := hidd hi
  have H3 := hidd (cl4_start (ccells n k bs).toArray m w)
  clear hi
  go_enter Tryd.func23, Tryd.ntmps23
  go_wp2_with (refine wpList_load_row rfl 28 (.tmp 3) rfl w.heap.size rfl 28 _ (0,0) _ H3.out.1 Tryd.underlying28 rfl HS.out ?_)
  refine (implIs_any n k bs hb _).mono ?_
  rintro e w1 ⟨rfl, hb1⟩
  rw [HI.out]
  have G := hidd (H3.out.below hb1)
  have R := hidd (cl4_stores G.out (.slice none 0 0) 1)
  have c6 := G.out.2.2.1.cell (j := 0) (show _ = some (Value.slice none 0 0) from rfl)
  have f6 := G.out.2.2.1.fro 0
  have c7 := G.out.2.2.2.1.cell (j := 0) (show _ = some (Value.int .i64 0) from rfl)
  have f7 := G.out.2.2.2.1.fro 0
  clear hb1
  go_wp2_with fail
  refine bodyPost_ret (results_cells2 rfl _ _ (w.heap.size + 1 + 1) (w.heap.size + 1 + 1 + 1) _ _ rfl rfl (load37 (R.out.1.cell (j := 0) rfl)) (load2 (R.out.2.1.cell (j := 0) rfl))) rfl ?_
  exact ⟨none, 0, rfl, .inl rfl, R.out.2.2⟩
set_option maxRecDepth 100000 in
set_option maxHeartbeats 1000000 in
theorem impl23_2 (n k : Int) (bs : List Nat) (hb : Bys bs) (c m : Int) (w : World) (hi : isCol n k bs = true) (hr : (belowB c k && inB m 1 17) = false) :
    Calls Tryd.prog 23 #[.agg (ccells n k bs).toArray, .int .i64 c, .int .i64 m] w (LLOut w [] 2) := by
  have HS := hidd (size_c26 n k hb)
  have HI := hidd hi
  have H3 := hidd (cl4_start (ccells n k bs).toArray m w)
  have HC1 := hidd (show (ccells n k bs).toArray[1]? = some (.int .i64 k) from rfl)
  cases hc : belowB c k with
  | false =>
    have HC := hidd hc
    clear hi hr hc
    go_enter Tryd.func23, Tryd.ntmps23
    go_wp2_with (refine wpList_load_row rfl 28 (.tmp 3) rfl w.heap.size rfl 28 _ (0,0) _ H3.out.1 Tryd.underlying28 rfl HS.out ?_)
    refine (implIs_any n k bs hb _).mono ?_
    rintro e w1 ⟨rfl, hb1⟩
    rw [HI.out]
    have G := hidd (H3.out.below hb1)
    have R := hidd (cl4_stores G.out (.slice none 0 0) 2)
    have c1 := G.out.1.cell HC1.out
    have c6 := G.out.2.2.1.cell (j := 0) (show _ = some (Value.slice none 0 0) from rfl)
    have f6 := G.out.2.2.1.fro 0
    have c7 := G.out.2.2.2.1.cell (j := 0) (show _ = some (Value.int .i64 0) from rfl)
    have f7 := G.out.2.2.2.1.fro 0
    clear hb1
    go_wp2_with (go_at_call 50; refine (below61 _ _ _).mono ?_; rintro e w' ⟨rfl, rfl⟩; rw [HC.out])
    refine bodyPost_ret (results_cells2 rfl _ _ (w.heap.size + 1 + 1) (w.heap.size + 1 + 1 + 1) _ _ rfl rfl (load37 (R.out.1.cell (j := 0) rfl)) (load2 (R.out.2.1.cell (j := 0) rfl))) rfl ?_
    exact ⟨none, 0, rfl, .inl rfl, R.out.2.2⟩
  | true =>
    rw [hc, Bool.true_and] at hr
    have HC := hidd hc
    have HM := hidd hr
    clear hi hr hc
    go_enter Tryd.func23, Tryd.ntmps23
    go_wp2_with (refine wpList_load_row rfl 28 (.tmp 3) rfl w.heap.size rfl 28 _ (0,0) _ H3.out.1 Tryd.underlying28 rfl HS.out ?_)
    refine (implIs_any n k bs hb _).mono ?_
    rintro e w1 ⟨rfl, hb1⟩
    rw [HI.out]
    have G := hidd (H3.out.below hb1)
    have R := hidd (cl4_stores G.out (.slice none 0 0) 2)
    have c1 := G.out.1.cell HC1.out
    have c5 := G.out.2.1.cell (j := 0) (show _ = some (Value.int .i64 m) from rfl)
    have c6 := G.out.2.2.1.cell (j := 0) (show _ = some (Value.slice none 0 0) from rfl)
    have f6 := G.out.2.2.1.fro 0
    have c7 := G.out.2.2.2.1.cell (j := 0) (show _ = some (Value.int .i64 0) from rfl)
    have f7 := G.out.2.2.2.1.fro 0
    clear hb1
    go_wp2_with (first | (go_at_call 50; refine (below61 _ _ _).mono ?_; rintro e w' ⟨rfl, rfl⟩; rw [HC.out]) | (go_at_call 53; refine (within45 _ _ _ _).mono ?_; rintro e w' ⟨rfl, rfl⟩; rw [HM.out]))
    refine bodyPost_ret (results_cells2 rfl _ _ (w.heap.size + 1 + 1) (w.heap.size + 1 + 1 + 1) _ _ rfl rfl (load37 (R.out.1.cell (j := 0) rfl)) (load2 (R.out.2.1.cell (j := 0) rfl))) rfl ?_
    exact ⟨none, 0, rfl, .inl rfl, R.out.2.2⟩
end Go.Proofs.YtkiocedhibeieaaDoor
/- What stays of a list of lists and of a call's blocks when cells elsewhere are written. -/
namespace Go.Proofs.YtkiocedhibeieaaDoor
set_option linter.unusedVariables false
set_option linter.unusedSimpArgs false
open Go Go.RowKit Go.Shelf
theorem ownL_set {W : World} {B : Nat} {a : Option Addr} {zs : List Int} (h : OwnL W B a zs) (p : Addr) (u : Value) (hp : p.block < B) : OwnL (W.setCell p u) B a zs := by
  rcases h with h | ⟨g, C, h1, h2, h3, h4⟩
  · exact .inl h
  · exact .inr ⟨g, C, h1, h2, h3.other p u (by omega), h4⟩
theorem LLW.set {W : World} {B : Nat} {v : Value} {L : List (List Int)} (h : LLW W B v L) (p : Addr) (u : Value) (hp : p.block < B) : LLW (W.setCell p u) B v L := by
  obtain ⟨A, ⟨hl, h1⟩, h2, h3⟩ := h
  refine ⟨A, ⟨hl, ?_⟩, fun j hj => ownL_set (h2 j hj) p u hp, h3⟩
  rcases h1 with h1 | ⟨g, cap, cur, hv, hg, hc, r⟩
  · exact .inl h1
  · exact .inr ⟨g, cap, cur, hv, hg, (heap_setCell_other W p g u (by omega)).trans hc, r⟩
theorem Cl4.belowB {C : Array Value} {m : Int} {w W W' : World} (h : Cl4 C m w W) {B : Nat} (hb : Below B W W') (hB : w.heap.size + 1 + 1 + 1 < B) : Cl4 C m w W' :=
  ⟨h.1.below hb (by omega), h.2.1.below hb (by omega), h.2.2.1.below hb (by omega), h.2.2.2.1.below hb hB, h.2.2.2.2.trans (hb.mono (by omega))⟩
theorem Cl4.set {C : Array Value} {m : Int} {w W : World} (h : Cl4 C m w W) (p : Addr) (u : Value) (hp : w.heap.size + 1 + 1 + 1 < p.block) : Cl4 C m w (W.setCell p u) :=
  ⟨h.1.other p u (by omega), h.2.1.other p u (by omega), h.2.2.1.other p u (by omega), h.2.2.2.1.other p u (by omega), h.2.2.2.2.setCell (by omega) u⟩
theorem keeps_grown {W W' : World} {B b : Nat} {e : TypeId} {size : Nat} {v : Value} {n : Nat} {xs : List Value} (hown : W.ownsRow b e size v n xs) (hg : W.grownBy W' v.ownBlock) : KeepsFrom B W W' := by
  refine ⟨hg.size, fun k o _ hk hc => (hg.block k (Array.getElem?_eq_some_iff.1 hk).1 (fun he => ?_)).trans hk⟩
  rcases hown.2 with ⟨h1, _⟩ | ⟨g, cap, cur, hv, _, hcur, _⟩
  · rw [h1] at he; cases he
  · rw [hv] at he
    cases he
    rw [hcur] at hk
    cases hk; cases hc
end Go.Proofs.YtkiocedhibeieaaDoor
/- Inside a fence, in a round too: a region that draws its order: a head whose reads are taken first (HeldIn), a tail that waits for it. -/
namespace Go.Proofs.YtkiocedhibeieaaDoor
set_option linter.unusedVariables false
set_option linter.unusedSimpArgs false
open Go
section
variable {F : Fence} {n : Nat} {P : Program} {md : Region.Mode} {ops ops' : Array Oper} {S : World → Prop}
/-- What is asked behind the head; an end other than the normal one is as it was. -/
def endQ (Qt : Act → World → Prop) (Q : Exit → Act → World → Prop) (e : Exit) (a : Act) (w : World) : Prop :=
  match e with
  | .normal => Qt a w
  | e => Q e a w
theorem letsOut_endQ {Qt : Act → World → Prop} {Q : Exit → Act → World → Prop} (h : LetsOut (endQ Qt Q)) : LetsOut Q := h
theorem wpIn_endQ {o : Oper} {a : Act} {K K' : Act → World → Prop} {Qt : Act → World → Prop} {Q : Exit → Act → World → Prop} {w : World} (hK : ∀ a w, K a w → K' a w) (h : o.wpIn F n P a w K (endQ Qt Q)) : o.wpIn F n P a w K' Q := by
  unfold Oper.wpIn at *
  refine ⟨h.1, ?_⟩
  have hh := h.2
  generalize (o.semAt F.round a.eval).run P w = r at *
  cases r with
  | ok x w' =>
    cases x <;> simp only [Oper.uponIn] at hh ⊢
    case value u => exact hK _ _ hh
    case skip => exact hK _ _ hh
    case defer d => exact hK _ _ hh
    case enter f args =>
      refine ⟨hh.1, CallsIn.mono hh.2 fun e w'' he => ?_⟩
      cases e with
      | returned u => exact hK _ _ he
      | panicked c => exact he
      | outgrown => exact letsOut_endQ he
    case row row args => exact ⟨hh.1, RowsIn.mono hh.2 fun u w'' he => hK _ _ he⟩
    case round l f tmps assign body =>
      refine ⟨hh.1, RoundIn.mono hh.2 fun e w'' he => ?_⟩
      cases e with
      | returned u => exact hK _ _ he
      | panicked c => exact he
      | outgrown => exact letsOut_endQ he
  | halt x w' =>
    cases x <;> simp only [Oper.uponIn] at hh ⊢
    case panic u => exact hh
theorem qt_of_tail {m : Nat} {Qt : Act → World → Prop} {Q : Exit → Act → World → Prop} (hsz : ops'.size = ops.size) (hh : ∀ i, i < m → ops'[i]? = ops[i]?) (ht : ∀ i o, m ≤ i → ops[i]? = some o → ops'[i]? = some (idle o)) (hp : plainB md ops = true) :
    ∀ (fuel : Nat) (listed : Array Bool) (a : Act) (w : World), listed.size = ops.size → (∀ i, i < m → listed.getD i true = true) → wpAnyHI F n P md ops' (endQ Qt Q) S fuel listed a w → Qt a w
  | 0, _, _, _, _, _, h => h.2
  | fuel + 1, listed, a, w, hs, hd, h => by
    cases hr : Region.ready md ops' listed with
    | nil => exact h.1 hr
    | cons i r =>
      have hi : i ∈ Region.ready md ops' listed := by rw [hr]; exact List.mem_cons_self
      have hi2 := hi
      rw [ready_idles hsz hh ht] at hi2
      obtain ⟨hun, o, ho, _⟩ := mem_ready.1 hi2
      have him : m ≤ i := Nat.le_of_not_lt fun hlt => by rw [hd i hlt] at hun; cases hun
      have hq := h.2 i hi
      unfold wpOpIn at hq
      rw [ht i o him ho] at hq
      simp only [] at hq
      rw [if_pos (wanted_free (o := idle o) (plain_spec hp ho).1 _)] at hq
      have h2 := hq.2
      rw [Oper.semAt_eq _ _ _ (fun c e => by cases e)] at h2
      have h4 : wpAnyHI F n P md ops' (endQ Qt Q) S fuel (listed.setIfInBounds i true) a w := h2.2
      exact qt_of_tail hsz hh ht hp fuel _ a w (by rw [Array.size_setIfInBounds]; exact hs) (fun j hj => by rw [getD_set_ne true (by omega)]; exact hd j hj) h4
theorem wpAnyIn_of_idlesH {m : Nat} {Qt : Act → World → Prop} {Q' : Exit → Act → World → Prop} (hsz : ops'.size = ops.size) (hh : ∀ i, i < m → ops'[i]? = ops[i]?) (ht : ∀ i o, m ≤ i → ops[i]? = some o → ops'[i]? = some (idle o))
    (hmlt : m < ops.size) (hp : plainB md ops = true) (hk : (Region.sinkB md ops m && Region.chainB md ops m) = true)
    (hQ : ∀ a w g, Qt a w → wpAnyIn F n P md ops Q' (ops.size - m + g) (finAt m ops.size) a w) :
    ∀ (fuel : Nat) (listed : Array Bool) (a : Act) (w : World), HeadInv md ops m listed → unl listed ≤ fuel →
      wpAnyHI F n P md ops' (endQ Qt Q') S fuel listed a w → wpAnyIn F n P md ops Q' fuel listed a w := by
  have hkk := hk
  rw [Bool.and_eq_true] at hkk
  intro fuel
  induction fuel with
  | zero =>
    intro listed a w inv hu h
    have hs := inv.size
    have hun := inv.tail m (Nat.le_refl _) hmlt
    have := h.1
    rw [ready_idles hsz hh ht] at this
    exact absurd this (some_ready hp hs m hmlt hun)
  | succ fuel ih =>
    intro listed a w inv hu h
    have hs := inv.size
    have hun := inv.tail m (Nat.le_refl _) hmlt
    by_cases hmr : m ∈ Region.ready md ops listed
    · have hd : ∀ i, i < m → listed.getD i true = true := fun i hi => by
        cases hx : listed.getD i true with
        | true => rfl
        | false => exact absurd hmr (tail_waits hkk.1 hkk.2 hmlt inv _ i rfl hi hx m (Nat.le_refl _))
      have hqa := qt_of_tail hsz hh ht hp (fuel + 1) listed a w hs hd h
      have hf := fin_of (Nat.le_of_lt hmlt) inv hd
      rw [hf] at hu ⊢
      rw [unl_fin m ops.size (Nat.le_of_lt hmlt)] at hu
      have := hQ a w (fuel + 1 - (ops.size - m)) hqa
      rw [show ops.size - m + (fuel + 1 - (ops.size - m)) = fuel + 1 by omega] at this
      exact this
    · refine ⟨fun h0 => absurd h0 (some_ready hp hs m hmlt hun), fun i hi => ?_⟩
      have hq := h.2 i (by rw [ready_idles hsz hh ht]; exact hi)
      obtain ⟨hiun, oi, hoi, hall⟩ := mem_ready.1 hi
      have his : i < ops.size := (Array.getElem?_eq_some_iff.1 hoi).1
      have hlt : i < m := by
        refine Nat.lt_of_not_le fun him => ?_
        by_cases e : i = m
        · subst e; exact hmr hi
        · have h1 := List.all_eq_true.1 hkk.2 i (List.mem_range.2 his)
          simp only [Bool.or_eq_true, decide_eq_true_eq] at h1
          rcases h1 with h1 | h1
          · omega
          · obtain ⟨o', ho', e', he', hb', hon'⟩ := Region.waitsFor_spec h1
            have : o' = oi := Option.some.inj (ho'.symm.trans hoi)
            subst this
            have h2 := hall e' he' hb'
            rw [hon', getD_both (inv.tail (i - 1) (by omega) (by omega))] at h2
            cases h2
      unfold wpOpIn at hq ⊢
      rw [hh i hlt, hoi] at hq
      simp only [hoi] at hq ⊢
      rw [if_pos (wanted_free (plain_spec hp hoi).1 _)] at hq ⊢
      exact wpIn_endQ (fun a' w' hkq => ih (listed.setIfInBounds i true) a' w' (inv.set hi hlt) (by have := unl_set (listed := listed) (i := i) (by omega) hiun; omega) hkq.2) hq
/-- The head: m operations, S kept; then the tail, in the text's order. -/
theorem wpIn_region_heldtail {id : Nat} {Q : Exit → Act → World → Prop} {a : Act} {w : World} {L : List Oper} (m : Nat) (S : World → Prop) (hn : m < L.length) (hm : P.follows .mixedOrders = true)
    (hp : plainB .any L.toArray = true) (hk : (Region.sinkB .any L.toArray m && Region.chainB .any L.toArray m) = true) (hs : Region.seqB .any L.toArray (L.drop m).length m (finAt m L.toArray.size) = true)
    (hS : S w.drew)
    (h : S w.drew → wpAnyHI F n P .any (L.take m ++ (L.drop m).map idle).toArray (endQ (fun a' w' => wpListIn F n P L.toArray Q (L.drop m) a' w') Q) S L.toArray.size (Array.replicate L.toArray.size false) a w.drew) : (Code.region id L.toArray true).wpIn F n P Q a w := by
  have htl : (L.take m).length = m := by simp; omega
  have hsz : (L.take m ++ (L.drop m).map idle).toArray.size = L.toArray.size := by simp; omega
  have hh : ∀ i, i < m → (L.take m ++ (L.drop m).map idle).toArray[i]? = L.toArray[i]? := fun i hi => by
    rw [List.getElem?_toArray, List.getElem?_append_left (by omega), List.getElem?_toArray, List.getElem?_take, if_pos hi]
  have ht : ∀ i o, m ≤ i → L.toArray[i]? = some o → (L.take m ++ (L.drop m).map idle).toArray[i]? = some (idle o) := fun i o hi ho => by
    rw [List.getElem?_toArray] at ho
    rw [List.getElem?_toArray, List.getElem?_append_right (by omega), htl, List.getElem?_map, List.getElem?_drop, show m + (i - m) = i by omega, ho]; rfl
  have inv0 : HeadInv .any L.toArray m (Array.replicate L.toArray.size false) :=
    ⟨by simp, fun j oj _ hl => (by rw [getD_replicate_false] at hl; cases hl), fun t _ ht => getD_in (by simpa using ht) (getD_replicate_false _ _)⟩
  refine wpIn_region_any hm (wpAnyIn_of_idlesH (S := S) (m := m) (Qt := fun a' w' => wpListIn F n P L.toArray Q (L.drop m) a' w') hsz hh ht (by simpa using hn) hp hk (fun a w g hq => ?_) _ _ _ _ inv0 (unl_none _) (h hS))
  have e : L.toArray.size - m = (L.drop m).length := by simp
  rw [e]
  exact wpAnyIn_of_seq_more (L.drop m) m g _ a w (fun j => by rw [List.getElem?_toArray, List.getElem?_drop]) hs hq
end
end Go.Proofs.YtkiocedhibeieaaDoor
/- CliqueList: the program's loop over the cliques. -/
namespace Go.Proofs.YtkiocedhibeieaaDoor
set_option linter.unusedVariables false
set_option linter.unusedSimpArgs false
open Go Go.RowKit Go.Shelf
attribute [local go_sem] Oper.semAt_some
def RelCl {N : Nat} (C : Array Value) (m : Nat) (w : World) (b8 B : Nat) (pre : List (Cl N)) (W : World) : Prop :=
  Cl4 C (m : Int) w W ∧ (∃ v, Blk W b8 #[v] 37 ∧ LLW W B v (flS m pre)) ∧ (flS m pre).length ≤ 200 ∧ B ≤ W.heap.size
def RelCx {N : Nat} (m : Nat) (w : World) (c : Code) (pre : List (Cl N)) (W : World) : Prop :=
  c = .ret ∧ Below w.heap.size w W ∧ 200 < (flS m pre).length ∧ Blk W (w.heap.size + 1 + 1) #[.slice none 0 0] 37 ∧ Blk W (w.heap.size + 1 + 1 + 1) #[.int .i64 3] 2
theorem cl4_own {C : Array Value} {m : Int} {w W W' : World} {B : Nat} {row : Option Nat} (h : Cl4 C m w W) (hB : w.heap.size ≤ B) (hg : W.grownBy W' row) (hr : ∀ r, row = some r → B ≤ r ∧ ∃ o : Obj, W.heap[r]? = some o ∧ o.isCells = false) : Cl4 C m w W' :=
  ⟨blk_own h.1 hg hr, blk_own h.2.1 hg hr, blk_own h.2.2.1 hg hr, blk_own h.2.2.2.1 hg hr, ownFrom_below (β := Unit) (Nat.le_refl _) hB () W W' row h.2.2.2.2 hg hr⟩
set_option maxRecDepth 100000 in
set_option maxHeartbeats 1000000 in
theorem impl23_0 (N : Nat) (k c : Int) (M : Nat) (bs : List Nat) (hb : Bys bs) (w : World) (N1 : 1 ≤ N) (N2 : N ≤ 17) (hi : isCol (N : Int) k bs = true) (hc : belowB c k = true) (hM : inB (M : Int) 1 17 = true) (hT : Tz w) (hw0 : 0 < w.heap.size) :
    Calls Tryd.prog 23 #[.agg (ccells (N : Int) k bs).toArray, .int .i64 c, .int .i64 (M : Int)] w
      (LLOut w (if 200 < (clqL bs c N M).length then [] else clqL bs c N M) (if 200 < (clqL bs c N M).length then 3 else 0)) := by
  have hfn : ∀ f, Fence.wide.fn f := fun _ => trivial
  have HS := hidd (size_c26 (N : Int) k hb)
  have HQ := hidd (fun W => cliques48 N k c bs hb W N1 N2)
  have hF := fun p => nsF_lt bs c (eseq N) p
  have hsym := nsF_sym bs c (eseq N) N2
  have hmb := inB_bd hM
  have HM0 := hidd (show M ≠ 0 by omega)
  have HAL := hidd (fun (xs : List (Cl N)) h => flS_all (bs := bs) (c := c) N2 HM0.out (xs := xs) h)
  have HMO := hidd (fun (xs : List (Cl N)) rest h => flS_more (bs := bs) (c := c) N2 HM0.out (xs := xs) (rest := rest) h)
  obtain ⟨F, hFe⟩ : ∃ F, F = nsF bs c (eseq N) := ⟨_, rfl⟩
  rw [← hFe] at HQ hF hsym HAL HMO
  have HF := hidd hF
  have HSY := hidd hsym
  have HI := hidd hi
  have HC := hidd hc
  have HMI := hidd hM
  have HT := hidd hT
  have HC1 := hidd (show (ccells (N : Int) k bs).toArray[1]? = some (.int .i64 k) from rfl)
  have H3 := hidd (cl4_start (ccells (N : Int) k bs).toArray (M : Int) w)
  clear hFe hF hsym hi hc hM hT
  obtain ⟨LR, hLR⟩ : ∃ LR, LR = if 200 < (clqL bs c N M).length then [] else clqL bs c N M := ⟨_, rfl⟩
  obtain ⟨CR, hCR⟩ : ∃ CR : Int, CR = if 200 < (clqL bs c N M).length then 3 else 0 := ⟨_, rfl⟩
  rw [← hLR, ← hCR]
  have HR3 := hidd (fun (h : 200 < (clqL bs c N M).length) => (And.intro (by rw [hLR, if_pos h]) (by rw [hCR, if_pos h]) : LR = [] ∧ CR = 3))
  have HR0 := hidd (fun (h : ¬ 200 < (clqL bs c N M).length) => (And.intro (by rw [hLR, if_neg h]) (by rw [hCR, if_neg h]) : LR = clqL bs c N M ∧ CR = 0))
  clear hLR hCR
  obtain ⟨t0, hi2, hz0, hz1, hz3⟩ := info_parts info25
  have HIF := hidd (And.intro hi2 (And.intro hz0 (And.intro hz1 hz3)))
  clear hi2 hz0 hz1 hz3
  refine (callsIn_wide (n := 8)).1 (callsIn_of_wp_marks Tryd.func23 rfl trivial ?_ rfl)
  simp only [Tryd.ntmps23, List.size_toArray, List.length_cons, List.length_nil, Nat.reduceAdd, Nat.reduceSub, Array.replicate_succ, Array.replicate_zero, List.push_toArray, List.append_toArray, List.nil_append, List.cons_append]
  gi_wp2_with (refine inLoadRow rfl 28 (.tmp 3) rfl w.heap.size rfl 28 _ _ H3.out.1 Tryd.underlying28 rfl HS.out ?_)
  refine (callsIn_wide.2 (implIs_any (N : Int) k bs hb _)).mono ?_
  rintro e w1 ⟨rfl, hb1⟩
  rw [HI.out]
  have G := hidd (H3.out.below hb1)
  have c1 := G.out.1.cell HC1.out
  have c5 := G.out.2.1.cell (j := 0) (show _ = some (Value.int .i64 (M : Int)) from rfl)
  clear hb1
  have G8 := hidd (G.out.below ((Below.refl w1.heap.size w1).alloc (Nat.le_refl _) (.cells #[.slice none 0 0] 37)))
  have B8 := hidd (Blk.new w1 #[.slice none 0 0] 37 _ rfl)
  gi_wp2_with fail
  refine (callsIn_wide.2 (below61 _ _ _)).mono ?_
  rintro e w' ⟨rfl, rfl⟩
  rw [HC.out]
  gi_wp2_with fail
  refine (callsIn_wide.2 (within45 _ _ _ _)).mono ?_
  rintro e w' ⟨rfl, rfl⟩
  rw [HMI.out]
  gi_wp2_with (refine inLoadRow rfl 28 (.tmp 3) rfl w.heap.size rfl 28 _ _ G8.out.1 Tryd.underlying28 rfl HS.out ?_)
  refine (callsIn_wide.2 (HQ.out _)).mono ?_
  rintro e W0 ⟨bx, bn, rfl, hBx, hBn, hb1⟩
  have GW := hidd (And.intro (G8.out.below hb1) (B8.out.below hb1 B8.out.lt))
  clear hb1
  gi_wp2
  refine wpIn_rangeFunc_ownH rfl (by omega) (gf := 77) (lb := #[.pointer (some ⟨bx, 0, none⟩), .pointer (some ⟨bn, 0, none⟩)]) rfl trivial (enters_of Tryd.func77 (by kernel_rfl) rfl)
    (seq58 6 bx bn N k bs hb F N1 N2 HF.out HSY.out W0 hBx hBn) kpC_t (kpC_b hBx.lt hBn.lt) (Below.refl _ _) (fun _ => rfl)
    (fun pre W => RelCl (ccells (N : Int) k bs).toArray M w w1.heap.size W0.heap.size pre W)
    (fun c pre W => RelCx M w c pre W)
    (fun s A B row hs hg hr => ⟨cl4_own hs.1 GW.out.1.2.2.2.2.size hg hr, by
      obtain ⟨v, h1, h2⟩ := hs.2.1
      exact ⟨v, blk_own h1 hg hr, h2.grow hg (fun r e => (hr r e).2)⟩, hs.2.2.1, Nat.le_trans hs.2.2.2 hg.size⟩)
    (fun c s A B row hs hg hr => ⟨hs.1, ownFrom_below (β := Unit) (Nat.le_refl _) GW.out.1.2.2.2.2.size () A B row hs.2.1 hg hr, hs.2.2.1, blk_own hs.2.2.2.1 hg hr, blk_own hs.2.2.2.2 hg hr⟩)
    ⟨GW.out.1, ⟨_, GW.out.2, LLW.nil _ _⟩, by simp [flS], Nat.le_refl _⟩
    (fun x a' W => a' = { tmps := #[.agg (ccells (N : Int) k bs).toArray, .int .i64 c, .int .i64 (M : Int), .pointer (some ⟨w.heap.size, 0, none⟩), undef, .pointer (some ⟨w.heap.size + 1, 0, none⟩), .pointer (some ⟨w.heap.size + 1 + 1, 0, none⟩), .pointer (some ⟨w.heap.size + 1 + 1 + 1, 0, none⟩), .pointer (some ⟨w1.heap.size, 0, none⟩), .int .u32 (bitS x.1 : Nat), .agg (ccells (N : Int) k bs).toArray, .bool true, .bool false, .int .i64 c, .pointer (some ⟨w.heap.size, 1, none⟩), .int .i64 k, .bool true, .bool false, .bool false, .int .i64 (M : Int), .bool true, .bool false, .bool false, .agg (ccells (N : Int) k bs).toArray, .int .i64 c, .func (.func 77) #[] #[.pointer (some ⟨bx, 0, none⟩), .pointer (some ⟨bn, 0, none⟩)], .int .u32 (bitS x.1 : Nat), undef, undef, undef, undef, undef, undef, undef, undef, undef, undef, undef, undef, undef], defers := [] })
    (fun x a' s A B row hs hg hr => hs) ?assign ?body ?done ?stop
  case assign =>
    intro l pre x W Kx hI hK
    have HI := hidd hI
    have HK := hidd hK
    clear hI hK
    dsimp only [encC]
    gi_wp2
    exact HK.out _ _ (KeepsFrom.refl _ _) ⟨rfl, rfl⟩ HI.out rfl
  case body =>
    rintro l pre x a' W hl _ ⟨g4, g8, gL, gB⟩ rfl hlen
    obtain ⟨xs1, xs2, xs3⟩ := x.2
    have hX17 : bitS x.1 < 2 ^ 17 := bitS_lt _ (fun q hq => by have := xs2 q hq; omega)
    have HZ := hidd (fun W => size34 (bitS x.1) hX17 W)
    rw [ones_bitS x.1 xs1] at HZ
    have hP := fun W hW h0 => points47 x.1 xs1 (fun q hq => by have := xs2 q hq; omega) W hW h0
    have hle : x.1.length = (rv x.1).length := (rv_len _).symm
    obtain ⟨X, hX⟩ : ∃ X, X = bitS x.1 := ⟨_, rfl⟩
    obtain ⟨ln, hln⟩ : ∃ ln, ln = x.1.length := ⟨_, rfl⟩
    rw [← hX, ← hln] at HZ
    rw [← hX]
    rw [← hX] at hP
    have HG := hidd (And.intro g4 (And.intro g8 (And.intro gL gB)))
    have HXL := hidd (And.intro hX hln)
    clear g4 g8 gL gB hX17 xs1 xs2 xs3 hX
    cases hq : ((ln : Int) != (M : Int)) with
    | true =>
      have hd : decide (x.1.length = M) = false := by rw [← hln]; exact decide_eq_false (fun e => by rw [e] at hq; simp at hq)
      have HD := hidd (flS_skip (pre := pre) hd)
      clear hd hln hle hP
      gi_wp2
      refine wpIn_region_tail_lit (lets_round l _) 3 (fun w' => Below W.heap.size W w') (by decide) (by kernel_rfl) ((Below.refl _ _).drew) (by kernel_rfl) (by kernel_rfl) (by kernel_rfl) (by kernel_rfl) (by kernel_rfl) ?_
      simp only [List.take_succ_cons, List.take_zero, List.drop_succ_cons, List.drop_zero, List.map_cons, List.map_nil, List.cons_append, List.nil_append, idle]
      refine qs rfl (fun KQ hKQ => ?_)
      apply Exists.intro
      refine ⟨fun w' hw' => ?_, ?_⟩
      · go_simp; exact rfl
      go_simp
      refine hKQ _ ?_
      clear hKQ KQ
      refine qs rfl (fun KQ hKQ => ?_)
      apply Exists.intro
      refine ⟨fun w' hw' => ?_, ?_⟩
      · go_simp; exact (HZ.out _).mono fun _ _ h => ⟨h.1, by rw [h.2]; exact hw'.drew⟩
      go_simp
      refine hKQ _ ?_
      clear hKQ KQ
      refine qs rfl (fun KQ hKQ => ?_)
      apply Exists.intro
      refine ⟨fun w' hw' => ?_, ?_⟩
      · have e1 := (HG.out.1.2.1.below hw' HG.out.1.2.1.lt).cell (j := 0) (show _ = some (Value.int .i64 (M : Int)) from rfl); go_simp; exact rfl
      go_simp
      refine hKQ _ ?_
      clear hKQ KQ
      refine qs rfl (fun KQ hKQ => ?_)
      apply Exists.intro
      refine ⟨fun w' hw' => ?_, ?_⟩
      · go_simp; exact rfl
      go_simp
      refine hKQ _ ?_
      clear hKQ KQ
      refine wpQuiet_nil ?_
      intro w' hw'
      have hWx := Nat.lt_of_lt_of_le hBx.lt HG.out.2.2.2
      have hWn := Nat.lt_of_lt_of_le hBn.lt HG.out.2.2.2
      have K1 := hidd (show RelCl (ccells (N : Int) k bs).toArray M w w1.heap.size W0.heap.size (pre ++ [x]) w' from ⟨HG.out.1.below hw', by
        obtain ⟨v, h1, h2⟩ := HG.out.2.1
        exact ⟨v, h1.below hw' h1.lt, by rw [HD.out]; exact h2.below hw' (Nat.le_refl _)⟩, by rw [HD.out]; exact HG.out.2.2.1, Nat.le_trans HG.out.2.2.2 hw'.size⟩)
      have K2 := hidd (show KpC bx bn W w' from ⟨hw'.block _ hWx, hw'.block _ hWn⟩)
      have K3 := hidd (keeps_below (B := W0.heap.size) hw')
      clear hw'
      gi_wp2_with fail
      exact ⟨K3.out, K2.out, K1.out⟩
    | false =>
      have hd : decide (x.1.length = M) = true := by rw [← hln]; exact decide_eq_true (by simp at hq; omega)
      have HD := hidd (flS_take (pre := pre) hd)
      obtain ⟨v8, h8, hW8⟩ := HG.out.2.1
      obtain ⟨a8, c8, rfl⟩ := hW8.shape
      rw [hle] at hP
      obtain ⟨Z, hZ⟩ : ∃ Z, Z = rv x.1 := ⟨_, rfl⟩
      rw [← hZ] at HD hP
      have HP := hidd hP
      have H8 := hidd (And.intro h8 hW8)
      obtain ⟨l8, hl8⟩ : ∃ l8, l8 = (flS M pre).length := ⟨_, rfl⟩
      rw [← hl8] at H8
      have HL8 := hidd hl8
      clear hd hln hle hP h8 hW8 hZ hl8
      gi_wp2
      refine wpIn_region_tail_lit (lets_round l _) 3 (fun w' => Below W.heap.size W w') (by decide) (by kernel_rfl) ((Below.refl _ _).drew) (by kernel_rfl) (by kernel_rfl) (by kernel_rfl) (by kernel_rfl) (by kernel_rfl) ?_
      simp only [List.take_succ_cons, List.take_zero, List.drop_succ_cons, List.drop_zero, List.map_cons, List.map_nil, List.cons_append, List.nil_append, idle]
      refine qs rfl (fun KQ hKQ => ?_)
      apply Exists.intro
      refine ⟨fun w' hw' => ?_, ?_⟩
      · go_simp; exact rfl
      go_simp
      refine hKQ _ ?_
      clear hKQ KQ
      refine qs rfl (fun KQ hKQ => ?_)
      apply Exists.intro
      refine ⟨fun w' hw' => ?_, ?_⟩
      · go_simp; exact (HZ.out _).mono fun _ _ h => ⟨h.1, by rw [h.2]; exact hw'.drew⟩
      go_simp
      refine hKQ _ ?_
      clear hKQ KQ
      refine qs rfl (fun KQ hKQ => ?_)
      apply Exists.intro
      refine ⟨fun w' hw' => ?_, ?_⟩
      · have e1 := (HG.out.1.2.1.below hw' HG.out.1.2.1.lt).cell (j := 0) (show _ = some (Value.int .i64 (M : Int)) from rfl); go_simp; exact rfl
      go_simp
      refine hKQ _ ?_
      clear hKQ KQ
      refine qs rfl (fun KQ hKQ => ?_)
      apply Exists.intro
      refine ⟨fun w' hw' => ?_, ?_⟩
      · go_simp; exact rfl
      go_simp
      refine hKQ _ ?_
      clear hKQ KQ
      refine wpQuiet_nil ?_
      intro w' hw'
      have G4 := hidd (HG.out.1.below hw')
      have G8' := hidd (And.intro (H8.out.1.below hw' H8.out.1.lt) (H8.out.2.below hw' (Nat.le_refl _)))
      have GS := hidd (Nat.le_trans HG.out.2.2.2 hw'.size)
      have GK := hidd (And.intro (keeps_below (B := W0.heap.size) hw') (show KpC bx bn W w' from ⟨hw'.block _ (Nat.lt_of_lt_of_le hBx.lt HG.out.2.2.2), hw'.block _ (Nat.lt_of_lt_of_le hBn.lt HG.out.2.2.2)⟩))
      have e8 := G8'.out.1.cell (j := 0) (show _ = some (Value.slice a8 l8 c8) from rfl)
      have f8 := G8'.out.1.fro 0
      clear hw'
      cases hq2 : ((l8 : Int) == 200) with
      | true =>
        have R := hidd (cl4_stores G4.out (.slice none 0 0) 3)
        have c6 := G4.out.2.2.1.cell (j := 0) (show _ = some (Value.slice none 0 0) from rfl)
        have f6 := G4.out.2.2.1.fro 0
        have c7 := G4.out.2.2.2.1.cell (j := 0) (show _ = some (Value.int .i64 0) from rfl)
        have f7 := G4.out.2.2.2.1.fro 0
        have K1 := hidd (show RelCx M w .ret (pre ++ [x]) ((w'.setCell ⟨w.heap.size + 1 + 1, 0, none⟩ (.slice none 0 0)).setCell ⟨w.heap.size + 1 + 1 + 1, 0, none⟩ (.int .i64 3)) from
          ⟨rfl, R.out.2.2, by rw [HD.out, List.length_append, ← HL8.out]; simp at hq2 ⊢; omega, R.out.1, R.out.2.1⟩)
        have K3 := hidd ((GK.out.1.trans ((KeepsOthers.setCell w' ⟨w.heap.size + 1 + 1, 0, none⟩ (.slice none 0 0)).from _)).trans ((KeepsOthers.setCell (w'.setCell ⟨w.heap.size + 1 + 1, 0, none⟩ (.slice none 0 0)) ⟨w.heap.size + 1 + 1 + 1, 0, none⟩ (.int .i64 3)).from _))
        gi_wp2_with fail
        exact ⟨K3.out, K1.out⟩
      | false =>
        gi_wp2_with fail
        refine wpIn_region_heldtail 4 (fun W' => W'.cell? ⟨w1.heap.size, 0, none⟩ = some (.slice a8 l8 c8)) (by decide) (by kernel_rfl) (by kernel_rfl) (by kernel_rfl) (by kernel_rfl) ?_ (fun hHeld => ?_)
        · exact e8
        simp only [List.take_succ_cons, List.take_zero, List.drop_succ_cons, List.drop_zero, List.map_cons, List.map_nil, List.cons_append, List.nil_append, idle]
        refine wpAnyHI_take (lets_round l _) (by kernel_rfl) (i := 0) (oi := _) (v := ?_) rfl (by kernel_rfl) (by kernel_rfl) (by kernel_rfl) (fun _ _ _ h => h) (Or.inl ⟨by rfl, ?_⟩) (by assumption) ?_
        rotate_left
        · intro wX hSw; (try dsimp only at hSw); go_simp; first | done | with_reducible rfl
        simp only [List.getElem_toArray, List.getElem_cons_succ, List.getElem_cons_zero, Act.put, List.setIfInBounds_toArray, List.set_cons_zero, List.set_cons_succ]
        refine wpAnyHI_take (lets_round l _) (by kernel_rfl) (i := 1) (oi := _) (v := ?_) rfl (by kernel_rfl) (by kernel_rfl) (by kernel_rfl) (fun _ _ _ h => h) (Or.inl ⟨by rfl, ?_⟩) (by assumption) ?_
        rotate_left
        · intro wX hSw; (try dsimp only at hSw); go_simp; first | done | with_reducible rfl
        simp only [List.getElem_toArray, List.getElem_cons_succ, List.getElem_cons_zero, Act.put, List.setIfInBounds_toArray, List.set_cons_zero, List.set_cons_succ]
        refine wpAnyHI_ready (rs := [2]) (by kernel_rfl) (by simp) (AllReadyHI.cons (o := _) rfl (fun KQ hKQ => ?_) AllReadyHI.nil)
        go_simp
        have hbD : Below w'.heap.size w' w'.drew := (Below.refl _ _).drew
        refine (CallsIn.inRound _ (callsIn_wide.2 (HP.out w'.drew (HT.out.below G4.out.2.2.2.2.drew hw0) (show 0 < w'.heap.size from Nat.lt_of_lt_of_le hw0 G4.out.2.2.2.2.size)))).mono ?_
        rintro e X1 ⟨az, cz, rfl, ho, hbX0⟩
        have hbX : Below w'.heap.size w' X1 := hbD.trans hbX0
        have hoX : OwnL X1 w'.heap.size az Z := ho
        have HX := hidd (And.intro hbX hoX)
        have B8X := hidd (G8'.out.1.below hbX G8'.out.1.lt)
        clear hbD hbX0 hbX ho hoX
        refine hKQ.out _ _ ?_ (fun hNext => ?_)
        · exact B8X.out.cell rfl
        clear hKQ KQ hHeld
        have hHeld := hNext
        clear hNext
        refine wpAnyHI_ready (rs := [3]) (by kernel_rfl) (by simp) (AllReadyHI.cons (o := _) rfl (fun KQ hKQ => ?_) AllReadyHI.nil)
        go_simp
        refine hKQ.out _ _ ?_ (fun hNext => ?_)
        · exact (B8X.out.alloc _).cell rfl
        clear hKQ KQ hHeld
        have hHeld := hNext
        clear hNext
        refine wpAnyHI_take (lets_round l _) (by kernel_rfl) (i := 4) (oi := _) (v := ?_) rfl (by kernel_rfl) (by kernel_rfl) (by kernel_rfl) (fun _ _ _ h => h) (Or.inl ⟨by rfl, ?_⟩) (by assumption) ?_
        rotate_left
        · intro wX hSw; (try dsimp only at hSw); go_simp; first | done | with_reducible rfl
        simp only [List.getElem_toArray, List.getElem_cons_succ, List.getElem_cons_zero, Act.put, List.setIfInBounds_toArray, List.set_cons_zero, List.set_cons_succ]
        refine wpAnyHI_take (lets_round l _) (by kernel_rfl) (i := 5) (oi := _) (v := ?_) rfl (by kernel_rfl) (by kernel_rfl) (by kernel_rfl) (fun _ _ _ h => h) (Or.inl ⟨by rfl, ?_⟩) (by assumption) ?_
        rotate_left
        · intro wX hSw; (try dsimp only at hSw); go_simp; first | done | with_reducible rfl
        simp only [List.getElem_toArray, List.getElem_cons_succ, List.getElem_cons_zero, Act.put, List.setIfInBounds_toArray, List.set_cons_zero, List.set_cons_succ]
        refine wpAnyHI_done (by kernel_rfl) ?_ _
        simp only [endQ]
        obtain ⟨A, hA1, hA2, hA3⟩ := G8'.out.2
        have hxa := (own_below hA1 HX.out.1 (Nat.le_refl _)).1
        have hown0 := own_below (own_below hA1 HX.out.1 (Nat.le_refl _)) ((Below.refl X1.heap.size X1).alloc (Nat.le_refl _) (.cells #[.slice az Z.length cz] 25)) (Nat.le_refl _)
        have HA := hidd (And.intro hA2 hA3)
        have HO := hidd hown0
        have hsX := HX.out.1.size
        have hsW := GS.out
        have hl200 := HG.out.2.2.1
        rw [← HL8.out] at hl200
        have HLW := hidd G8'.out.2
        clear hA1 hA2 hA3 hxa hown0 e8 f8 hHeld
        refine wpListIn_append_own _ rfl _ _ 37 rfl W0.heap.size 25 t0 (.slice none 0 0) 1 24 Tryd.underlying37 HIF.out.1 HIF.out.2.1 HIF.out.2.2.1 HIF.out.2.2.2 rfl (by decide) _ _ _ rfl HO.out ⟨X1.heap.size, 0, none⟩ 1 1 [.slice az Z.length cz] rfl rfl ?c1 ?c2 ?c3 ?c4 ?c5 ?_
        case c1 => exact one_new _ _ _
        case c2 => intro u hu; simp at hu; subst hu; rfl
        case c3 => unfold maxLen; rw [← HL8.out]; omega
        case c4 => rw [← HL8.out]; omega
        case c5 => simp; omega
        intro v' Y hown' hgrow _
        have hbXa : Below w'.heap.size w' (X1.alloc (.cells #[.slice az Z.length cz] 25)) := HX.out.1.alloc HX.out.1.size _
        have hbY : Below W0.heap.size (X1.alloc (.cells #[.slice az Z.length cz] 25)) Y := grown_plain HO.out hgrow (by simp; omega)
        have hB37 : Blk Y w1.heap.size #[.slice a8 l8 c8] 37 := (G8'.out.1.below hbXa G8'.out.1.lt).below hbY GW.out.2.lt
        have hLY := LLW.push HLW.out hsW HX.out.1 HX.out.2 hgrow HA.out hown'
        obtain ⟨a9, c9, rfl⟩ := hLY.shape
        obtain ⟨l9, hl9⟩ : ∃ l9, l9 = (flS M pre ++ [Z]).length := ⟨_, rfl⟩
        rw [← hl9] at hLY ⊢
        have hlt3 : w.heap.size + 1 + 1 + 1 < w1.heap.size := G.out.2.2.2.1.lt
        have hlt0 : w1.heap.size < W0.heap.size := GW.out.2.lt
        have hC4 : Cl4 (ccells (N : Int) k bs).toArray (M : Int) w Y := (G4.out.below hbXa).belowB hbY (by omega)
        have K1 := hidd (show RelCl (ccells (N : Int) k bs).toArray M w w1.heap.size W0.heap.size (pre ++ [x]) (Y.setCell ⟨w1.heap.size, 0, none⟩ (.slice a9 l9 c9)) from
          ⟨hC4.set _ _ hlt3, ⟨.slice a9 l9 c9, hB37.same 0 _, by rw [HD.out]; exact hLY.set _ _ hlt0⟩, by rw [HD.out, List.length_append, ← HL8.out]; simp at hq2 ⊢; omega, by
            have := hbY.size
            simp at this
            simp [World.setCell]; omega⟩)
        have hnx : bx ≠ w1.heap.size := blk_ne hBx GW.out.2 (by decide)
        have hnn : bn ≠ w1.heap.size := blk_ne hBn GW.out.2 (by decide)
        have K2 := hidd (show KpC bx bn W (Y.setCell ⟨w1.heap.size, 0, none⟩ (.slice a9 l9 c9)) from
          ⟨(heap_setCell_other _ _ bx _ hnx).trans ((hbY.block _ hBx.lt).trans ((hbXa.block _ (Nat.lt_of_lt_of_le hBx.lt hsW)).trans GK.out.2.1)),
           (heap_setCell_other _ _ bn _ hnn).trans ((hbY.block _ hBn.lt).trans ((hbXa.block _ (Nat.lt_of_lt_of_le hBn.lt hsW)).trans GK.out.2.2))⟩)
        have K3 := hidd (((GK.out.1.trans (keeps_below (B := W0.heap.size) hbXa)).trans (keeps_grown HO.out hgrow)).trans ((KeepsOthers.setCell Y ⟨w1.heap.size, 0, none⟩ (.slice a9 l9 c9)).from _))
        have e8 := hB37.cell (j := 0) (show _ = some (Value.slice a8 l8 c8) from rfl)
        have f8 := hB37.fro 0
        clear hbXa hbY hB37 hLY hC4 hnx hnn hown' hgrow hl9
        gi_wp2_with fail
        exact ⟨K3.out, K2.out, K1.out⟩
  case done =>
    rintro D xs W hD hxs ⟨g4, ⟨v, g8, gw⟩, gL, gB⟩ hK
    have hall := HAL.out xs hxs
    rw [hall] at gw gL
    have HRR := hidd (HR0.out (by omega))
    clear hall
    obtain ⟨L, hL⟩ : ∃ L, L = clqL bs c N M := ⟨_, rfl⟩
    rw [← hL] at gw HRR
    obtain ⟨aL, cL, rfl⟩ := gw.shape
    obtain ⟨lL, hlL⟩ : ∃ lL, lL = L.length := ⟨_, rfl⟩
    rw [← hlL] at gw g8
    have HLL := hidd hlL
    clear hL gL hlL
    have e8 := g8.cell (j := 0) rfl
    have c6 := g4.2.2.1.cell (j := 0) (show _ = some (Value.slice none 0 0) from rfl)
    have f6 := g4.2.2.1.fro 0
    have c7 := g4.2.2.2.1.cell (j := 0) (show _ = some (Value.int .i64 0) from rfl)
    have f7 := g4.2.2.2.1.fro 0
    have R := hidd (cl4_stores g4 (.slice aL lL cL) 0)
    have hDW : W0.heap.size ≤ D := hD
    have hlt3 : w.heap.size + 1 + 1 + 1 < w1.heap.size := G.out.2.2.2.1.lt
    have hlt0 : w1.heap.size < W0.heap.size := GW.out.2.lt
    have hK' : ((W.setCell ⟨w.heap.size + 1 + 1, 0, none⟩ (.slice aL lL cL)).setCell ⟨w.heap.size + 1 + 1 + 1, 0, none⟩ (.int .i64 0)).heap[D]? = some (.deferred (some [])) :=
      (heap_setCell_other _ ⟨w.heap.size + 1 + 1 + 1, 0, none⟩ D _ (by show D ≠ w.heap.size + 1 + 1 + 1; omega)).trans ((heap_setCell_other W ⟨w.heap.size + 1 + 1, 0, none⟩ D _ (by show D ≠ w.heap.size + 1 + 1; omega)).trans hK)
    have GL := hidd ((gw.set ⟨w.heap.size + 1 + 1, 0, none⟩ (.slice aL lL cL) (by show w.heap.size + 1 + 1 < W0.heap.size; omega)).set ⟨w.heap.size + 1 + 1 + 1, 0, none⟩ (.int .i64 0) (by show w.heap.size + 1 + 1 + 1 < W0.heap.size; omega))
    have HKD := hidd hK'
    clear hK hK' g4 g8 gw
    gi_wp2
    refine ⟨by simp [Act.put], .inl ⟨_, _, rfl, run_takeDeferred HKD.out, ?_⟩⟩
    obtain ⟨W2, hW2⟩ : ∃ W2, W2 = (W.setCell ⟨w.heap.size + 1 + 1, 0, none⟩ (.slice aL lL cL)).setCell ⟨w.heap.size + 1 + 1 + 1, 0, none⟩ (.int .i64 0) := ⟨_, rfl⟩
    rw [← hW2] at R GL HKD ⊢
    have r6 : Blk (W2.putObj D (.deferred none)) (w.heap.size + 1 + 1) #[.slice aL lL cL] 37 := (World.putObj_heap_other (by omega)).trans R.out.1
    have r7 : Blk (W2.putObj D (.deferred none)) (w.heap.size + 1 + 1 + 1) #[.int .i64 0] 2 := (World.putObj_heap_other (by omega)).trans R.out.2.1
    have hb3 : Below w.heap.size w (W2.putObj D (.deferred none)) := R.out.2.2.grown (grownBy_putObj' _ D (.deferred none)) R.out.2.2.size (fun k e => by cases e; omega)
    have hLO := GL.out.grow (grownBy_putObj' _ D (.deferred none)) (fun r e => by cases e; exact ⟨_, HKD.out, rfl⟩)
    obtain ⟨a, cap, hv, hO⟩ := hLO.out
    refine ⟨_, results_cells2 rfl _ _ (w.heap.size + 1 + 1) (w.heap.size + 1 + 1 + 1) _ _ rfl rfl (load37 (r6.cell (j := 0) rfl)) (load2 (r7.cell (j := 0) rfl)), ?_⟩
    rw [HRR.out.1, HRR.out.2]
    exact ⟨a, cap, by rw [hv]; rfl, hO.base (show w.heap.size ≤ W0.heap.size by omega), hb3⟩
  case stop =>
    rintro D c' pre W hD ⟨rest, hrest⟩ ⟨rfl, g1, g2, g3, g4⟩ hK
    have hmo := HMO.out pre rest hrest
    have HRR := hidd (HR3.out (by omega))
    have hDW : W0.heap.size ≤ D := hD
    have hlt3 : w.heap.size + 1 + 1 + 1 < w1.heap.size := G.out.2.2.2.1.lt
    have hlt0 : w1.heap.size < W0.heap.size := GW.out.2.lt
    have R := hidd (And.intro g1 (And.intro g3 (And.intro g4 hK)))
    clear g1 g2 g3 g4 hK hmo
    apply wpIn_ret
    refine ⟨by simp [Act.put], .inl ⟨_, _, rfl, run_takeDeferred R.out.2.2.2, ?_⟩⟩
    have r6 : Blk (W.putObj D (.deferred none)) (w.heap.size + 1 + 1) #[.slice none 0 0] 37 := (World.putObj_heap_other (by omega)).trans R.out.2.1
    have r7 : Blk (W.putObj D (.deferred none)) (w.heap.size + 1 + 1 + 1) #[.int .i64 3] 2 := (World.putObj_heap_other (by omega)).trans R.out.2.2.1
    have hb3 : Below w.heap.size w (W.putObj D (.deferred none)) := R.out.1.grown (grownBy_putObj' _ D (.deferred none)) R.out.1.size (fun k e => by cases e; omega)
    refine ⟨_, results_cells2 rfl _ _ (w.heap.size + 1 + 1) (w.heap.size + 1 + 1 + 1) _ _ rfl rfl (load37 (r6.cell (j := 0) rfl)) (load2 (r7.cell (j := 0) rfl)), ?_⟩
    rw [HRR.out.1, HRR.out.2]
    exact ⟨none, 0, rfl, .inl rfl, hb3⟩
end Go.Proofs.YtkiocedhibeieaaDoor
/- CliqueList: the program, every argument. -/
namespace Go.Proofs.YtkiocedhibeieaaDoor
set_option linter.unusedVariables false
set_option linter.unusedSimpArgs false
open Go Go.RowKit Go.Shelf
theorem impl23 (n k : Int) (bs : List Nat) (hb : Bys bs) (c m : Int) (w : World) (hT : Tz w) (hw0 : 0 < w.heap.size) :
    Calls Tryd.prog 23 #[.agg (ccells n k bs).toArray, .int .i64 c, .int .i64 m] w (LLOut w (clList n k bs c m) (clCode n k bs c m)) := by
  cases hi : isCol n k bs with
  | false =>
    have h1 : given n k bs c [] = 1 := given_1 hi
    have he := cl_1 (m := m) (show given n k bs c [] ≠ 0 by omega)
    rw [he.1, he.2, h1]
    exact impl23_1 n k bs hb c m w hi
  | true =>
    obtain ⟨n1, n2, k1, k2⟩ := isCol_bd hi
    cases hc : belowB c k with
    | false =>
      have h1 : given n k bs c [] = 2 := given_2 hi (by rw [hc]; rfl)
      have he := cl_1 (m := m) (show given n k bs c [] ≠ 0 by omega)
      rw [he.1, he.2, h1]
      exact impl23_2 n k bs hb c m w hi (by rw [hc]; rfl)
    | true =>
      have h0 : given n k bs c [] = 0 := given_0 hi hc rfl
      cases hm : inB m 1 17 with
      | false =>
        have he := cl_2 (c := c) h0 hm
        rw [he.1, he.2]
        exact impl23_2 n k bs hb c m w hi (by rw [hc, hm]; rfl)
      | true =>
        have hmb := inB_bd hm
        obtain ⟨N, rfl⟩ := Int.eq_ofNat_of_zero_le (show 0 ≤ n by omega)
        obtain ⟨M, rfl⟩ := Int.eq_ofNat_of_zero_le (show 0 ≤ m by omega)
        have h := impl23_0 N k c M bs hb w (by omega) (by omega) hi hc hm hT hw0
        by_cases h3 : 200 < (clqL bs c N M).length
        · have he := cl_3 (c := c) h0 hm (by rw [Int.toNat_natCast, Int.toNat_natCast]; exact h3)
          rw [he.1, he.2]
          rw [if_pos h3, if_pos h3] at h
          exact h
        · have he := cl_0 (c := c) h0 hm (by rw [Int.toNat_natCast, Int.toNat_natCast]; exact h3)
          rw [Int.toNat_natCast, Int.toNat_natCast] at he
          rw [he.1, he.2]
          rw [if_neg h3, if_neg h3] at h
          exact h
end Go.Proofs.YtkiocedhibeieaaDoor
/- CliqueNumbers: the model's text. -/
namespace Go.Proofs.YtkiocedhibeieaaDoor
set_option linter.unusedVariables false
set_option linter.unusedSimpArgs false
open Go Go.RowKit Go.Shelf
theorem ll_one {w : World} {v : Value} {z : List Int} (h : LL w v [z]) : ∃ g cap, v = .slice (some ⟨g, 0, none⟩) 1 cap ∧ ∃ a c, w.cell? ⟨g, 0, none⟩ = some (.slice a z.length c) := by
  obtain ⟨xs, ⟨hxl, h1⟩, h2⟩ := h
  obtain ⟨a, c, hx, _⟩ := h2 0 z rfl
  rcases h1 with h1 | ⟨g, cap, cur, hv, hg, hc, hle, hmx, hsz, htk⟩
  · simp at h1
  · refine ⟨g, cap, hv, a, c, ?_⟩
    have hb : Blk w g cur 25 := hc
    refine hb.cell ?_
    rw [← htk, List.getElem?_take_of_lt (by simp)] at hx
    simpa using hx
def sliLen : Value → Nat
  | .slice _ n _ => n
  | _ => 0
set_option maxRecDepth 100000 in
set_option maxHeartbeats 1000000 in
theorem greatest32 (N : Nat) (k : Int) (bs : List Nat) (hb : Bys bs) (c : Int) (n1 : 1 ≤ N) (hN17 : N ≤ 17) (w : World) :
    Calls Tryd.prog 49 #[.agg (ccells (N : Int) k bs).toArray, .int .i64 c] w fun e w' => ∃ a cap, e = .returned (.slice a (gsz N bs c) cap) ∧ Below w.heap.size w w' := by
  have HS := hidd (size_c26 (N : Int) k hb)
  have HLI := hidd (fun (m : Nat) (hm : m ≤ 18) (W : World) => list45 N k bs hb c m 1 n1 hN17 hm (by omega) (by omega) W)
  have h1 : 1 ≤ gsz N bs c := gsz_pos n1 hN17
  have h17 : gsz N bs c ≤ N := gsz_le hN17
  have HE := hidd (fun (m : Nat) (h : gsz N bs c < m) => gsz_none hN17 h)
  have HF := hidd (fun (m : Nat) (h0 : m ≠ 0) (h : m ≤ gsz N bs c) => gsz_some hN17 h0 h)
  obtain ⟨G, hG⟩ : ∃ G, G = gsz N bs c := ⟨_, rfl⟩
  rw [← hG] at h1 h17 HE HF ⊢
  clear hG
  go_enter Tryd.func49, Tryd.ntmps49
  go_wp2_with fail
  go_loopw [5, 6] (fun v nx wr => ∃ (L : Nat) (a : Option Addr) (cap : Nat), 1 ≤ L ∧ L ≤ G ∧ v = .slice a L cap ∧ Hid (Blk wr w.heap.size (ccells (N : Int) k bs).toArray 28 ∧ Below w.heap.size w wr)) (fun v _ _ => 18 - sliLen v)
  case atStart => exact ⟨1, _, _, Nat.le_refl _, h1, rfl, (Blk.new _ _ _ _ rfl).alloc _, ((Below.refl _ _).alloc (Nat.le_refl _) _).alloc (by simp) _⟩
  case round =>
    obtain ⟨L, a, cap, hL1, hLG, rfl, HK⟩ := hrel
    obtain ⟨m, hm⟩ : ∃ m, m = L + 1 := ⟨_, rfl⟩
    have hwl : IntKind.i64.wrap ((L : Int) + 1) = (m : Int) := by rw [IntWalk.i64_in _ (by omega)]; omega
    by_cases hlt : L < G
    · have hx := HF.out m (by omega) (by omega)
      obtain ⟨z, hz, hzm⟩ : ∃ z, (clqL bs c N m).take 1 = [z] ∧ z.length = m := by
        cases hl : clqL bs c N m with
        | nil => rw [hl] at hx; simp at hx
        | cons z l => exact ⟨z, rfl, clqL_len (bs := bs) (c := c) (N := N) (m := m) (by omega) (by rw [hl]; exact List.mem_cons_self ..)⟩
      have HLM := hidd (show ∀ W, Calls Tryd.prog 42 #[.agg (ccells (N : Int) k bs).toArray, .int .i64 c, .int .i64 (m : Int), .int .i64 1] W fun e w' => ∃ a' c', e = .returned (.slice a' 1 c') ∧ LL w' (.slice a' 1 c') [z] ∧ Below W.heap.size W w' from fun W => by
        have h := HLI.out m (by omega) W
        rw [hz] at h
        exact h)
      have HM := hidd (And.intro hzm hm)
      clear hz hx hm hzm
      go_wp2_with (refine wpList_load_row rfl 28 (.tmp 2) rfl w.heap.size rfl 28 _ (0,0) _ HK.out.1 Tryd.underlying28 rfl HS.out ?_)
      refine (HLM.out _).mono ?_
      rintro e w1 ⟨a1, c1, rfl, hLL, hb1⟩
      obtain ⟨g, cap1, hv, a2, c2, hcell⟩ := ll_one hLL
      cases hv
      rw [HM.out.1] at hcell
      have K1 := hidd (And.intro (HK.out.1.below hb1 HK.out.1.lt) (HK.out.2.trans (hb1.mono HK.out.2.size)))
      clear hb1 hLL
      go_wp2_with fail
      go_roundw
      case rel => exact ⟨m, a2, c2, by have := HM.out.2; omega, by have := HM.out.2; omega, rfl, K1.out⟩
      case measure => have := HM.out.2; simp [sliLen]; omega
    · have hLe : L = G := by omega
      have hx := HE.out m (by omega)
      have hz : (clqL bs c N m).take 1 = [] := by rw [List.isEmpty_iff.1 hx]; rfl
      have HLM := hidd (show ∀ W, Calls Tryd.prog 42 #[.agg (ccells (N : Int) k bs).toArray, .int .i64 c, .int .i64 (m : Int), .int .i64 1] W fun e w' => ∃ a' c', e = .returned (.slice a' 0 c') ∧ Below W.heap.size W w' from fun W => by
        have h := HLI.out m (by omega) W
        rw [hz] at h
        exact h.mono fun e w' h => by obtain ⟨a', c', h1, h2, h3⟩ := h; exact ⟨a', c', h1, h3⟩)
      have HLE := hidd hLe
      clear hz hx hm hLe
      go_wp2_with (refine wpList_load_row rfl 28 (.tmp 2) rfl w.heap.size rfl 28 _ (0,0) _ HK.out.1 Tryd.underlying28 rfl HS.out ?_)
      refine (HLM.out _).mono ?_
      rintro e w1 ⟨a1, c1, rfl, hb1⟩
      have K1 := hidd (HK.out.2.trans (hb1.mono HK.out.2.size))
      clear hb1
      go_wp2_with fail
      go_ret
      exact ⟨a, cap, by rw [HLE.out]; rfl, K1.out⟩
def RelCn (N : Nat) (bs : List Nat) (C : Array Value) (w : World) (g d : Nat) (v : Value) (wr : World) : Prop :=
  Blk wr w.heap.size C 28 ∧ wr.ownsRow g 2 1 v (fillA (cnF N bs) d).length (icells (fillA (cnF N bs) d)) ∧ Below w.heap.size w wr ∧ w.heap.size < g
end Go.Proofs.YtkiocedhibeieaaDoor
/- GreatestClique: its model. -/
namespace Go.Proofs.YtkiocedhibeieaaDoor
set_option linter.unusedVariables false
set_option linter.unusedSimpArgs false
open Go Go.RowKit Go.Shelf
/-- A list and a code; the list need not be new. -/
def LOut0 (w : World) (zs : List Int) (code : Int) (e : Ending) (w' : World) : Prop :=
  ∃ a cap, e = .returned (.tuple #[.slice a zs.length cap, .int .i64 code]) ∧ OwnL w' 0 a zs ∧ Below w.heap.size w w'
theorem ll_first {w : World} {v : Value} {z : List Int} (h : LL w v [z]) : ∃ g cap, v = .slice (some ⟨g, 0, none⟩) 1 cap ∧ ∃ a c, w.cell? ⟨g, 0, none⟩ = some (.slice a z.length c) ∧ OwnL w 0 a z := by
  obtain ⟨xs, ⟨hxl, h1⟩, h2⟩ := h
  obtain ⟨a, c, hx, ho⟩ := h2 0 z rfl
  rcases h1 with h1 | ⟨g, cap, cur, hv, hg, hc, hle, hmx, hsz, htk⟩
  · simp at h1
  · refine ⟨g, cap, hv, a, c, ?_, ho⟩
    have hb : Blk w g cur 25 := hc
    refine hb.cell ?_
    rw [← htk, List.getElem?_take_of_lt (by simp)] at hx
    simpa using hx
/-- The greatest clique as a list. -/
def gcL (N : Nat) (bs : List Nat) (c : Int) : List Int := rv (gcS N bs c)
theorem gcL_len (N : Nat) (bs : List Nat) (c : Int) : (gcL N bs c).length = gsz N bs c := by unfold gcL; rw [rv_len, gcS_len]
set_option maxRecDepth 100000 in
set_option maxHeartbeats 1000000 in
theorem greatest49 (N : Nat) (k : Int) (bs : List Nat) (hb : Bys bs) (c : Int) (n1 : 1 ≤ N) (hN17 : N ≤ 17) (w : World) :
    Calls Tryd.prog 49 #[.agg (ccells (N : Int) k bs).toArray, .int .i64 c] w fun e w' => ∃ a cap, e = .returned (.slice a (gcL N bs c).length cap) ∧ OwnL w' 0 a (gcL N bs c) ∧ Below w.heap.size w w' := by
  have HS := hidd (size_c26 (N : Int) k hb)
  have HLI := hidd (fun (m : Nat) (hm : m ≤ 18) (W : World) => list45 N k bs hb c m 1 n1 hN17 hm (by omega) (by omega) W)
  have h1 : 1 ≤ gsz N bs c := gsz_pos n1 hN17
  have h17 : gsz N bs c ≤ N := gsz_le hN17
  have HE := hidd (fun (m : Nat) (h : gsz N bs c < m) => gsz_none hN17 h)
  have HF := hidd (fun (m : Nat) (h0 : m ≠ 0) (h : m ≤ gsz N bs c) => gsz_some hN17 h0 h)
  have hlast := gcS_take (bs := bs) (c := c) n1 hN17
  have hone := clq_one (bs := bs) (c := c) n1
  have hgl := gcL_len N bs c
  have hgd : gcL N bs c = rv (gcS N bs c) := rfl
  rw [← hgd] at hlast
  obtain ⟨GL, hGL⟩ : ∃ GL, GL = gcL N bs c := ⟨_, rfl⟩
  obtain ⟨G, hG⟩ : ∃ G, G = gsz N bs c := ⟨_, rfl⟩
  rw [← hGL] at hlast hgl
  rw [← hG] at h1 h17 HE HF hlast hgl
  rw [← hGL]
  have HGL := hidd (And.intro hlast (And.intro hone hgl))
  clear hG hGL hlast hone hgl hgd
  go_enter Tryd.func49, Tryd.ntmps49
  go_wp2_with fail
  go_loopw [5, 6] (fun v nx wr => ∃ (L : Nat) (a : Option Addr) (cap : Nat), 1 ≤ L ∧ L ≤ G ∧ v = .slice a L cap ∧ Hid ((Blk wr w.heap.size (ccells (N : Int) k bs).toArray 28 ∧ Below w.heap.size w wr) ∧ ∃ z, z.length = L ∧ OwnL wr 0 a z ∧ (clqL bs c N L).take 1 = [z])) (fun v _ _ => 18 - sliLen v)
  case atStart => exact ⟨1, _, _, Nat.le_refl _, h1, rfl, ⟨(Blk.new _ _ _ _ rfl).alloc _, ((Below.refl _ _).alloc (Nat.le_refl _) _).alloc (by simp) _⟩, [0], rfl, .inr ⟨w.heap.size + 1, #[.int .i64 0], Nat.zero_le _, by simp, Blk.new _ _ _ _ (by simp), Nat.le_refl _, fun j hj => by
    have : j = 0 := by simp at hj; omega
    subst this; rfl⟩, HGL.out.2.1⟩
  case round =>
    obtain ⟨L, a, cap, hL1, hLG, rfl, HKZ⟩ := hrel
    have HK := hidd HKZ.out.1
    have HZZ := hidd HKZ.out.2
    clear HKZ
    obtain ⟨m, hm⟩ : ∃ m, m = L + 1 := ⟨_, rfl⟩
    have hwl : IntKind.i64.wrap ((L : Int) + 1) = (m : Int) := by rw [IntWalk.i64_in _ (by omega)]; omega
    by_cases hlt : L < G
    · have hx := HF.out m (by omega) (by omega)
      obtain ⟨z, hz, hzm⟩ : ∃ z, (clqL bs c N m).take 1 = [z] ∧ z.length = m := by
        cases hl : clqL bs c N m with
        | nil => rw [hl] at hx; simp at hx
        | cons z l => exact ⟨z, rfl, clqL_len (bs := bs) (c := c) (N := N) (m := m) (by omega) (by rw [hl]; exact List.mem_cons_self ..)⟩
      have HLM := hidd (show ∀ W, Calls Tryd.prog 42 #[.agg (ccells (N : Int) k bs).toArray, .int .i64 c, .int .i64 (m : Int), .int .i64 1] W fun e w' => ∃ a' c', e = .returned (.slice a' 1 c') ∧ LL w' (.slice a' 1 c') [z] ∧ Below W.heap.size W w' from fun W => by
        have h := HLI.out m (by omega) W
        rw [hz] at h
        exact h)
      have HM := hidd (And.intro hzm (And.intro hm hz))
      clear hz hx hm hzm
      go_wp2_with (refine wpList_load_row rfl 28 (.tmp 2) rfl w.heap.size rfl 28 _ (0,0) _ HK.out.1 Tryd.underlying28 rfl HS.out ?_)
      refine (HLM.out _).mono ?_
      rintro e w1 ⟨a1, c1, rfl, hLL, hb1⟩
      obtain ⟨g, cap1, hv, a2, c2, hcell, hown⟩ := ll_first hLL
      cases hv
      rw [HM.out.1] at hcell
      have HOW := hidd hown
      have K1 := hidd (And.intro (HK.out.1.below hb1 HK.out.1.lt) (HK.out.2.trans (hb1.mono HK.out.2.size)))
      clear hb1 hLL hown
      go_wp2_with fail
      go_roundw
      case rel => exact ⟨m, a2, c2, by have := HM.out.2.1; omega, by have := HM.out.2.1; omega, rfl, K1.out, z, HM.out.1, HOW.out, HM.out.2.2⟩
      case measure => have := HM.out.2.1; simp [sliLen]; omega
    · have hLe : L = G := by omega
      have hx := HE.out m (by omega)
      have hz : (clqL bs c N m).take 1 = [] := by rw [List.isEmpty_iff.1 hx]; rfl
      have HLM := hidd (show ∀ W, Calls Tryd.prog 42 #[.agg (ccells (N : Int) k bs).toArray, .int .i64 c, .int .i64 (m : Int), .int .i64 1] W fun e w' => ∃ a' c', e = .returned (.slice a' 0 c') ∧ Below W.heap.size W w' from fun W => by
        have h := HLI.out m (by omega) W
        rw [hz] at h
        exact h.mono fun e w' h => by obtain ⟨a', c', h1, h2, h3⟩ := h; exact ⟨a', c', h1, h3⟩)
      obtain ⟨z, hz1, hz2, hz3⟩ := HZZ.out
      have hzG : z = GL := by
        have h := HGL.out.1
        rw [← hLe, hz3] at h
        simpa using h
      subst hzG
      have HLE := hidd (And.intro hLe (And.intro hz1 hz2))
      clear hz hx hm hLe hz1 hz2 hz3
      go_wp2_with (refine wpList_load_row rfl 28 (.tmp 2) rfl w.heap.size rfl 28 _ (0,0) _ HK.out.1 Tryd.underlying28 rfl HS.out ?_)
      refine (HLM.out _).mono ?_
      rintro e w1 ⟨a1, c1, rfl, hb1⟩
      have K1 := hidd (And.intro (HK.out.2.trans (hb1.mono HK.out.2.size)) (HLE.out.2.2.below hb1 (Nat.le_refl _)))
      clear hb1
      go_wp2_with fail
      go_ret
      exact ⟨a, cap, by rw [HLE.out.2.1]; rfl, K1.out.2, K1.out.1⟩
theorem sl_none (w : World) : SlI w none [] := .inl rfl
set_option maxRecDepth 100000 in
set_option maxHeartbeats 1000000 in
theorem spec20 (n k : Int) (bs : List Nat) (hb : Bys bs) (c : Int) (w : World) :
    Calls Tryd.prog 20 #[.agg (ccells n k bs).toArray, .int .i64 c] w (LOut0 w (gcList n k bs c) (given n k bs c [])) := by
  have HS := hidd (size_c26 n k hb)
  have HG := hidd (fun W => given56 n k bs hb c [] none 0 W (sl_none W) (by simp))
  cases hq : decide (given n k bs c [] = 0) with
  | false =>
    have h0 : given n k bs c [] ≠ 0 := of_decide_eq_false hq
    have e1 : gcList n k bs c = [] := by unfold gcList; rw [if_neg h0]
    rw [e1]
    obtain ⟨cd, hcd⟩ : ∃ cd, cd = given n k bs c [] := ⟨_, rfl⟩
    rw [← hcd] at HG h0 ⊢
    have hne : (cd != 0) = true := by rw [bne_iff_ne]; exact h0
    clear hq h0 e1 hcd
    go_enter Tryd.func20, Tryd.ntmps20
    go_wp2_with (refine wpList_load_row rfl 28 (.tmp 2) rfl w.heap.size rfl 28 _ (0,0) _ (Blk.new _ _ _ _ rfl) Tryd.underlying28 rfl HS.out ?_)
    refine (HG.out _).mono ?_
    rintro e w1 ⟨rfl, hb1⟩
    have G := hidd (((Below.refl w.heap.size w).alloc (Nat.le_refl _) (.cells (ccells n k bs).toArray 28)).trans (hb1.mono (by simp)))
    clear hb1
    go_wp2_with fail
    go_ret2
    exact ⟨none, 0, rfl, .inl rfl, G.out⟩
  | true =>
    have h0 : given n k bs c [] = 0 := of_decide_eq_true hq
    have e1 : gcList n k bs c = gcL n.toNat bs c := by unfold gcList; rw [if_pos h0]; rfl
    obtain ⟨n1, n2, k1, k2⟩ := isCol_bd (given_ok h0).1
    rw [e1, h0]
    rw [h0] at HG
    obtain ⟨N, rfl⟩ := Int.eq_ofNat_of_zero_le (show 0 ≤ n by omega)
    rw [Int.toNat_natCast]
    have HQ := hidd (fun W => greatest49 N k bs hb c (by omega) (by omega) W)
    clear hq h0 e1
    go_enter Tryd.func20, Tryd.ntmps20
    go_wp2_with (refine wpList_load_row rfl 28 (.tmp 2) rfl w.heap.size rfl 28 _ (0,0) _ (Blk.new _ _ _ _ rfl) Tryd.underlying28 rfl HS.out ?_)
    refine (HG.out _).mono ?_
    rintro e w1 ⟨rfl, hb1⟩
    have hB := (Blk.new w (ccells (N : Int) k bs).toArray 28 _ rfl).below hb1 (by simp)
    have G := hidd (And.intro (((Below.refl w.heap.size w).alloc (Nat.le_refl _) (.cells (ccells (N : Int) k bs).toArray 28)).trans (hb1.mono (by simp))) hB)
    clear hb1 hB
    go_wp2_with (refine wpList_load_row rfl 28 (.tmp 2) rfl w.heap.size rfl 28 _ (0,0) _ G.out.2 Tryd.underlying28 rfl HS.out ?_)
    refine (HQ.out _).mono ?_
    rintro e w2 ⟨a, cap, rfl, ho, hb2⟩
    have G2 := hidd (And.intro ho (G.out.1.trans (hb2.mono G.out.1.size)))
    clear hb2 ho
    go_wp2_with fail
    go_ret2
    exact ⟨a, cap, rfl, G2.out.1, G2.out.2⟩
end Go.Proofs.YtkiocedhibeieaaDoor
