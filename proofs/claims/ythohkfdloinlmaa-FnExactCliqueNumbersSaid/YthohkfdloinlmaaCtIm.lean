/- CountTriangles: the program's own text. -/
import Derived.Test.YthohkfdloinlmaaTriC
namespace Go.Proofs.Ythohkfdloinlmaa
set_option linter.unusedVariables false
set_option linter.unusedSimpArgs false
open Go Go.RowKit Go.Shelf
attribute [local go_sem] Oper.semAt_some
theorem inLoadRowIf {F : Fence} {n : Nat} {P : Program} {ops : Array Oper} {rest : List Oper} {o : Oper} {a : Act} {w : World} {Q : Exit → Act → World → Prop} (hw : Region.wanted o (yielded ops a.tmps) = true) (ty : TypeId) (x : Operand) (ho : o.op = .load ty x)
    (g : Nat) (hx : a.eval x = .pointer (some ⟨g, 0, none⟩)) (t : TypeId) (cs : Array Value) (d : TypeDesc) (hg : Blk w g cs t)
    (hu : P.underlying ty = some d) (hd : (match d with | .struct _ | .array _ _ => true | _ => false) = true) (hi : (P.info? ty).map (·.size) = some cs.size)
    (h : wpListIn F n P ops Q rest (a.put o.dst (.agg cs)) w) : wpListIn F n P ops Q (o :: rest) a w := by
  refine BigFrame.wpListIn_want hw fun K hK => ?_
  unfold Oper.wpIn
  rw [Oper.semAt_eq _ _ _ (fun c h => by rw [ho] at h; cases h)]
  refine ⟨fun f hf => by simp [Oper.about, ho] at hf, ?_⟩
  unfold execOp
  simp only [ho, hx, Instr.loadAt, Instr.sureAddr, Sem.run_bind, Sem.run_pure, Result.andThen_ok, run_loadVar_row w g t ty cs (0, 0) d hg hu hd hi]
  exact hK _ _ h
theorem teC_le (bs : List Nat) (c : Nat) : ∀ (l : List (Nat × Nat × Nat)) (B : Nat), (∀ t ∈ l, t.2.1 ≤ B) → teC bs l c ≤ l.length * B
  | [], B, _ => by simp [teC]
  | t :: l, B, h => by
    have h1 := teC_le bs c l B (fun t ht => h t (List.mem_cons_of_mem _ ht))
    have h2 := teS_le bs (c : Int) t
    have h3 := h t (List.mem_cons_self ..)
    have : teC bs (t :: l) c = teS bs (c : Int) t + teC bs l c := rfl
    rw [this, List.length_cons, Nat.succ_mul]; omega
theorem te_hit {K : Nat} {bs : List Nat} {l : List (Nat × Nat × Nat)} {t : Nat × Nat × Nat} {m y : Nat} (hy : bs.getD t.1 0 = y) (h1 : colAt bs m t.2.1 = y) (h2 : colAt bs m t.2.2 = y) :
    (dgL K (teP bs l t m)).set y ((teP bs l t m y : Int) + 1) = dgL K (teP bs l t (m + 1)) := by
  have := dgL_set K (teP bs l t m) y (teP bs l t m y + 1)
  rw [Int.natCast_add] at this
  rw [show (1 : Int) = ((1 : Nat) : Int) from rfl, this]
  refine dgL_congr fun c _ => ?_
  rw [teP_step, hy]
  by_cases e : c = y
  · subst e; rw [if_pos rfl, if_pos ⟨rfl, h1, h2⟩]
  · rw [if_neg e, if_neg (fun h => e (by have := h.1; omega))]; rfl
theorem te_miss {K : Nat} {bs : List Nat} {l : List (Nat × Nat × Nat)} {t : Nat × Nat × Nat} {m y : Nat} (hy : bs.getD t.1 0 = y) (h : ¬ (colAt bs m t.2.1 = y ∧ colAt bs m t.2.2 = y)) :
    dgL K (teP bs l t (m + 1)) = dgL K (teP bs l t m) := by
  refine dgL_congr fun c _ => ?_
  rw [teP_step, hy]
  by_cases e : c = y
  · subst e; rw [if_neg (fun h' => h h'.2)]; rfl
  · rw [if_neg (fun h' => e (by have := h'.1; omega))]; rfl
theorem teP_le {N : Nat} (hN : N ≤ 17) (bs : List Nat) (pre : List (Edg N)) (hl : pre.length < 136) (t : Nat × Nat × Nat) (m c : Nat) (hm : m ≤ 17) : teP bs (pre.map Edg.v) t m c ≤ 4096 := by
  have h1 := teC_le bs c (pre.map Edg.v) 17 (fun t ht => by
    obtain ⟨x, _, rfl⟩ := List.mem_map.1 ht
    have := x.2
    show x.1.2.1 ≤ 17
    omega)
  rw [List.length_map] at h1
  unfold teP
  have h2 := sm_le (f := teF bs (c : Int) t.2.1 t.2.2) (B := 1) m (fun j _ => by unfold teF; split <;> omega)
  split <;> omega
def RelTd {N : Nat} (K : Nat) (k : Int) (bs : List Nat) (g : Nat) (w : World) (pre : List (Edg N)) (W : World) : Prop :=
  Blk W w.heap.size (ccells (N : Int) k bs).toArray 28 ∧ Blk W g (icells (dgL K (teC bs (pre.map Edg.v)))).toArray 2 ∧ Blk W (g + 1) #[.slice (some ⟨g, 0, none⟩) K K] 25 ∧ Below w.heap.size w W
theorem dgL_zero' (K : Nat) (bs : List Nat) : zrow K = (icells (dgL K (teC bs []))).toArray := by
  rw [zrow_icells]
  congr 2
  apply List.ext_getElem
  · simp [dgL]
  · intro p h1 h2
    simp [dgL, teC]
/-- In the inner loop. -/
def RelTi {N : Nat} (K : Nat) (k : Int) (bs : List Nat) (g b B : Nat) (w W : World) (pre : List (Edg N)) (t : Nat × Nat × Nat) (m : Nat) (wr : World) : Prop :=
  Blk wr w.heap.size (ccells (N : Int) k bs).toArray 28 ∧ Blk wr g (icells (dgL K (teP bs (pre.map Edg.v) t m))).toArray 2 ∧ Blk wr (g + 1) #[.slice (some ⟨g, 0, none⟩) K K] 25 ∧ Below w.heap.size w wr ∧
    Blk wr b #[.int .i64 (t.2.1 : Int), .int .i64 (t.2.2 : Int)] 50 ∧ KeepsFrom B W wr ∧ KpB (g + 1 + 1) W wr ∧ g + 1 + 1 < wr.heap.size
theorem relTi_step {N K : Nat} {k : Int} {bs : List Nat} {g b B : Nat} {w W : World} {pre : List (Edg N)} {t : Nat × Nat × Nat} {m : Nat} {wr w1 : World} (h : RelTi K k bs g b B w W pre t m wr) (hb : Below wr.heap.size wr w1) : RelTi K k bs g b B w W pre t m w1 :=
  ⟨h.1.below hb h.1.lt, h.2.1.below hb h.2.1.lt, h.2.2.1.below hb h.2.2.1.lt, h.2.2.2.1.trans (hb.mono h.2.2.2.1.size), h.2.2.2.2.1.below hb h.2.2.2.2.1.lt, h.2.2.2.2.2.1.trans (keeps_below hb), kpB_t h.2.2.2.2.2.2.1 (hb.block _ h.2.2.2.2.2.2.2), Nat.lt_of_lt_of_le h.2.2.2.2.2.2.2 hb.size⟩
set_option maxRecDepth 100000 in
set_option maxHeartbeats 4000000 in
theorem impl9t (n k : Int) (bs : List Nat) (hb : Bys bs) (w : World) :
    Calls Try.prog 9 #[.agg (ccells n k bs).toArray] w (LOut w (if isCol n k bs then dgL k.toNat (teC bs (eseq n.toNat)) else []) (ceCode n k bs)) := by
  have HS := hidd (size_c26 n k hb)
  cases hi : isCol n k bs with
  | false =>
    have e2 : ceCode n k bs = 1 := by simp [ceCode, hi]
    have HI := hidd hi
    rw [e2, if_neg (by simp)]
    clear hi e2
    go_enter Try.func9, Try.ntmps9
    go_wp2_with (refine wpList_load_row rfl 28 (.tmp 1) rfl w.heap.size rfl 28 _ (0,0) _ (Blk.new _ _ _ _ rfl) Try.underlying28 rfl HS.out ?_)
    refine (implIs_any n k bs hb _).mono ?_
    rintro e w1 ⟨rfl, hb1⟩
    rw [HI.out]
    have G := hidd (((Below.refl _ _).alloc (Nat.le_refl _) _).trans (hb1.mono (B' := w.heap.size) (by simp)))
    clear hb1
    go_wp2
    go_ret2
    exact lout_nil rfl G.out
  | true =>
    have HI := hidd hi
    obtain ⟨n1, n2, k1, k2⟩ := isCol_bd hi
    have e2 : ceCode n k bs = 0 := by simp [ceCode, hi]
    rw [e2, if_pos rfl]
    obtain ⟨K, rfl⟩ := Int.eq_ofNat_of_zero_le (show 0 ≤ k by omega)
    obtain ⟨N, rfl⟩ := Int.eq_ofNat_of_zero_le (show 0 ≤ n by omega)
    rw [Int.toNat_natCast, Int.toNat_natCast]
    have hmk := make29 K (by omega)
    have HC0 := hidd (show (ccells (N : Int) (K : Int) bs).toArray[0]? = some (.int .i64 (N : Int)) from rfl)
    have HC1 := hidd (show (ccells (N : Int) (K : Int) bs).toArray[1]? = some (.int .i64 (K : Int)) from rfl)
    have HCL := hidd (fun (j : Nat) (hj : j < eN N) => col_lt hi (j := j) (by rw [← eN_edg]; omega) (by have := eN_17 (show N ≤ 17 by omega); omega))
    clear hi e2
    have hfn : ∀ f, Fence.wide.fn f := fun _ => trivial
    refine (callsIn_wide (n := 8)).1 (callsIn_of_wp_marks Try.func9 rfl trivial ?_ rfl)
    simp only [Try.ntmps9, List.size_toArray, List.length_cons, List.length_nil, Nat.reduceAdd, Nat.reduceSub, Array.replicate_succ, Array.replicate_zero, List.push_toArray, List.append_toArray, List.nil_append, List.cons_append]
    gi_wp2_with (refine inLoadRow rfl 28 (.tmp 1) rfl w.heap.size rfl 28 _ _ (Blk.new _ _ _ _ rfl) Try.underlying28 rfl HS.out ?_)
    refine (callsIn_wide.2 (implIs_any (N : Int) (K : Int) bs hb _)).mono ?_
    rintro e w1 ⟨rfl, hb1⟩
    rw [HI.out]
    have hB := (Blk.new w (ccells (N : Int) (K : Int) bs).toArray 28 _ rfl).below hb1 (by simp)
    have g0 := hB.cell HC0.out
    have g1 := hB.cell HC1.out
    have hbl := ((Below.refl _ _).alloc (Nat.le_refl _) _).trans (hb1.mono (B' := w.heap.size) (by simp))
    have G := hidd (And.intro hB hbl)
    have hz1 := hB.lt
    clear hb1 hB hbl
    gi_wp2_with (gi_at_call 26; refine (callsIn_wide.2 (edges66 _ _)).mono ?_; rintro e w' ⟨rfl, rfl⟩)
    obtain ⟨W0, hW0⟩ : ∃ W0, W0 = ((w1.alloc (Obj.cells (zrow K) 2)).alloc (Obj.cells #[Value.slice (some ⟨w1.heap.size, 0, none⟩) K K] 25)).alloc (Obj.cells #[Value.int IntKind.i64 (N : Int)] 2) := ⟨_, rfl⟩
    have hBn : Blk W0 (w1.heap.size + 1 + 1) #[.int .i64 (N : Int)] 2 := by rw [hW0]; exact Blk.new _ _ _ _ (by simp)
    have hBs : Blk W0 (w1.heap.size + 1) #[Value.slice (some ⟨w1.heap.size, 0, none⟩) K K] 25 := by rw [hW0]; exact (Blk.new _ _ _ _ (by simp)).alloc _
    have hBr : Blk W0 w1.heap.size (zrow K) 2 := by rw [hW0]; exact ((Blk.new _ _ _ _ rfl).alloc _).alloc _
    have hBc : Blk W0 w.heap.size (ccells (N : Int) (K : Int) bs).toArray 28 := by rw [hW0]; exact ((G.out.1.alloc _).alloc _).alloc _
    have hbl0 : Below w.heap.size w W0 := by
      rw [hW0]
      have := G.out.2.size
      exact ((G.out.2.alloc this _).alloc (by simp; omega) _).alloc (by simp; omega) _
    rw [← hW0]
    clear hW0
    refine wpIn_rangeFunc_ownH rfl (by omega) (gf := 43) (lb := #[.pointer (some ⟨w1.heap.size + 1 + 1, 0, none⟩)]) rfl trivial (enters_of Try.func43 (by kernel_rfl) rfl)
      (seq80 6 (w1.heap.size + 1 + 1) N (by omega) (by omega) W0 hBn) kpB_t (kpB_b hBn.lt) (Below.refl _ _) (fun _ => rfl)
      (fun pre W => RelTd K (K : Int) bs w1.heap.size w pre W ∧ w1.heap.size + 1 + 1 < W.heap.size)
      (fun _ _ _ => False)
      (fun s A B row hs hg hr => ⟨⟨blk_own hs.1.1 hg hr, blk_own hs.1.2.1 hg hr, blk_own hs.1.2.2.1 hg hr, ownFrom_below (β := Unit) (Nat.le_refl _) hbl0.size () A B row hs.1.2.2.2 hg hr⟩, Nat.lt_of_lt_of_le hs.2 hg.size⟩)
      (fun _ _ _ _ _ hs _ _ => hs)
      ⟨⟨hBc, by rw [dgL_zero' K bs] at hBr; exact hBr, hBs, hbl0⟩, hBn.lt⟩
      (fun x a' W => ∃ b, a' = { tmps := #[.agg (ccells (N : Int) (K : Int) bs).toArray, .pointer (some ⟨w.heap.size, 0, none⟩), .slice none 0 0, .int .i64 0, .pointer (some ⟨w1.heap.size + 1, 0, none⟩), .int .i64 (x.1.1 : Int), .pointer (some ⟨b, 0, none⟩), undef, undef, .agg (ccells (N : Int) (K : Int) bs).toArray, .bool true, .bool false, .pointer (some ⟨w.heap.size, 1, none⟩), .int .i64 (K : Int), .slice (some ⟨w1.heap.size, 0, none⟩) K K, .pointer (some ⟨w.heap.size, 0, none⟩), .int .i64 (N : Int), .func (.func 43) #[] #[.pointer (some ⟨w1.heap.size + 1 + 1, 0, none⟩)], .int .i64 (x.1.1 : Int), .agg #[.int .i64 (x.1.2.1 : Int), .int .i64 (x.1.2.2 : Int)], undef, undef, undef, undef, undef, undef, undef, undef, undef, undef, undef, undef, undef, undef, undef, undef, undef, undef, undef, undef, undef, undef, undef, undef, undef, undef, undef, undef, undef, undef, undef, undef, undef, undef], defers := [] } ∧ w1.heap.size + 1 + 1 < b ∧ Blk W b #[.int .i64 (x.1.2.1 : Int), .int .i64 (x.1.2.2 : Int)] 50)
      (fun x a' s A B row hs hg hr => by obtain ⟨b, h1, h2, h3⟩ := hs; exact ⟨b, h1, h2, blk_own h3 hg hr⟩) ?assign ?body ?done ?stop
    case assign =>
      intro l pre x W Kx hI hK
      have HI := hidd hI
      have HK := hidd hK
      clear hI hK
      dsimp only [encE]
      gi_wp2
      refine HK.out _ _ ((KeepsOthers.alloc W _).from _) ?_ ?_ ?_
      · exact Below.heap_alloc W _ _ HI.out.2
      · exact ⟨⟨HI.out.1.1.alloc _, HI.out.1.2.1.alloc _, HI.out.1.2.2.1.alloc _, HI.out.1.2.2.2.alloc HI.out.1.2.2.2.size _⟩, by have := HI.out.2; simp; omega⟩
      · exact ⟨W.heap.size, rfl, by have := HI.out.2; omega, Blk.new _ _ _ _ rfl⟩
    case body =>
      rintro l pre x a' W hl _ ⟨⟨h1, h2, h3, h5⟩, h6⟩ ⟨b, rfl, hb', h7⟩ hlen
      have hx := x.lt
      obtain ⟨hx1, hx2, hx3⟩ := x.2
      have h17 := eN_17 (show N ≤ 17 by omega)
      obtain ⟨j, hj⟩ : ∃ j, j = x.1.1 := ⟨_, rfl⟩
      obtain ⟨lo, hlo⟩ : ∃ lo, lo = x.1.2.1 := ⟨_, rfl⟩
      obtain ⟨hi, hhi⟩ : ∃ hi, hi = x.1.2.2 := ⟨_, rfl⟩
      rw [← hlo, ← hhi] at h7 hx2
      rw [← hhi] at hx3
      rw [← hj] at hx ⊢
      rw [← hlo, ← hhi]
      have HX := hidd (show x.1 = (j, lo, hi) by rw [hj, hlo, hhi])
      have c0 := h1.cell (hb.cget (N : Int) (K : Int) (show j < 136 by omega))
      obtain ⟨y, hy⟩ : ∃ y, y = bs.getD j 0 := ⟨_, rfl⟩
      have hy256 : y < 256 := by rw [hy]; exact hb.lt j
      have hyk := HCL.out j hx
      rw [← hy] at c0 hyk
      have HY := hidd hy
      have d0 := h7.cell (j := 0) (show _ = some (Value.int .i64 (lo : Int)) from rfl)
      have hTP := (funext (teP_zero bs (pre.map Edg.v) (j, lo, hi))).symm
      have HH := hidd (show RelTi K (K : Int) bs w1.heap.size b W0.heap.size w W pre (j, lo, hi) 0 W from ⟨h1, by rw [← hTP]; exact h2, h3, h5, h7, KeepsFrom.refl _ _, rfl, h6⟩)
      have hj136 : (j : Int) < 136 := by omega
      have hwy : IntKind.i64.wrap (y : Int) = y := IntWalk.i64_in _ (by omega)
      clear hj hlo hhi hy h1 h2 h3 h5 h6 h7 hx1 hTP
      gi_wp2_with fail
      gi_loopw [27] (fun e wr => ∃ m : Nat, m ≤ lo ∧ e = .int .i64 (m : Int) ∧ Hid (RelTi K (K : Int) bs w1.heap.size b W0.heap.size w W pre (j, lo, hi) m wr)) (fun e _ => lo - (intOf e).toNat)
      case atStart => exact ⟨0, by omega, rfl, HH.out⟩
      case round =>
        obtain ⟨m, hm, rfl, HR⟩ := hrel
        have HK := hidd HR.out
        clear HR
        have hl136 : pre.length < 136 := by omega
        by_cases hlt : m < lo
        · have d0 := HK.out.2.2.2.2.1.cell (j := 0) (show _ = some (Value.int .i64 (lo : Int)) from rfl)
          have HA1 := hidd (fun W => at59 (N : Int) (K : Int) bs hb N (m : Int) (lo : Int) W (by omega) (by omega) (by omega) (by omega) (by omega) (by omega))
          have HA2 := hidd (fun W => at59 (N : Int) (K : Int) bs hb N (m : Int) (hi : Int) W (by omega) (by omega) (by omega) (by omega) (by omega) (by omega))
          cases hq1 : (colAt bs m lo == (y : Int)) with
          | false =>
            have HM := hidd (te_miss (K := K) (l := pre.map Edg.v) (t := (j, lo, hi)) (m := m) HY.out.symm (fun h => by rw [beq_eq_false_iff_ne] at hq1; exact hq1 h.1))
            gi_wp2_with (refine inLoadRow rfl 28 (.tmp 1) rfl w.heap.size rfl 28 _ _ HK.out.1 Try.underlying28 rfl HS.out ?_)
            refine (CallsIn.inRound l (callsIn_wide.2 (HA1.out _))).mono ?_
            rintro e W1 ⟨rfl, hbX⟩
            have K1 := hidd (relTi_step HK.out hbX)
            clear hbX d0
            gi_wp2_with fail
            have K2 := hidd (show RelTi K (K : Int) bs w1.heap.size b W0.heap.size w W pre (j, lo, hi) (m + 1) W1 from ⟨K1.out.1, by rw [HM.out]; exact K1.out.2.1, K1.out.2.2⟩)
            go_roundw
            case rel => exact ⟨m + 1, by omega, by go_num, K2.out⟩
            case measure => simp [intOf]; omega
          | true =>
            have HQ1 := hidd (beq_iff_eq.1 hq1)
            cases hq2 : (colAt bs m hi == (y : Int)) with
            | false =>
              have HM := hidd (te_miss (K := K) (l := pre.map Edg.v) (t := (j, lo, hi)) (m := m) HY.out.symm (fun h => by rw [beq_eq_false_iff_ne] at hq2; exact hq2 h.2))
              gi_wp2_with (refine inLoadRow rfl 28 (.tmp 1) rfl w.heap.size rfl 28 _ _ HK.out.1 Try.underlying28 rfl HS.out ?_)
              refine (CallsIn.inRound l (callsIn_wide.2 (HA1.out _))).mono ?_
              rintro e W1 ⟨rfl, hbX⟩
              have K1 := hidd (relTi_step HK.out hbX)
              clear hbX d0
              have d1 := K1.out.2.2.2.2.1.cell (j := 1) (show _ = some (Value.int .i64 (hi : Int)) from rfl)
              gi_wp2_with (refine inLoadRowIf rfl 28 (.tmp 1) rfl w.heap.size rfl 28 _ _ K1.out.1 Try.underlying28 rfl HS.out ?_)
              refine (CallsIn.inRound l (callsIn_wide.2 (HA2.out _))).mono ?_
              rintro e W2 ⟨rfl, hbX⟩
              have K2 := hidd (relTi_step K1.out hbX)
              clear hbX d1
              gi_wp2_with fail
              have K3 := hidd (show RelTi K (K : Int) bs w1.heap.size b W0.heap.size w W pre (j, lo, hi) (m + 1) W2 from ⟨K2.out.1, by rw [HM.out]; exact K2.out.2.1, K2.out.2.2⟩)
              go_roundw
              case rel => exact ⟨m + 1, by omega, by go_num, K3.out⟩
              case measure => simp [intOf]; omega
            | true =>
              have HM := hidd (te_hit (K := K) (l := pre.map Edg.v) (t := (j, lo, hi)) (m := m) HY.out.symm HQ1.out (beq_iff_eq.1 hq2))
              have HV := hidd (teP_le (show N ≤ 17 by omega) bs pre hl136 (j, lo, hi) m y (by omega))
              obtain ⟨v, hv⟩ : ∃ v, v = teP bs (pre.map Edg.v) (j, lo, hi) m y := ⟨_, rfl⟩
              rw [← hv] at HV HM
              have hv17 := HV.out
              have hwv : IntKind.i64.wrap ((v : Int) + 1) = (v : Int) + 1 := IntWalk.i64_in _ (by omega)
              gi_wp2_with (refine inLoadRow rfl 28 (.tmp 1) rfl w.heap.size rfl 28 _ _ HK.out.1 Try.underlying28 rfl HS.out ?_)
              refine (CallsIn.inRound l (callsIn_wide.2 (HA1.out _))).mono ?_
              rintro e W1 ⟨rfl, hbX⟩
              have K1 := hidd (relTi_step HK.out hbX)
              clear hbX d0
              have d1 := K1.out.2.2.2.2.1.cell (j := 1) (show _ = some (Value.int .i64 (hi : Int)) from rfl)
              gi_wp2_with (refine inLoadRowIf rfl 28 (.tmp 1) rfl w.heap.size rfl 28 _ _ K1.out.1 Try.underlying28 rfl HS.out ?_)
              refine (CallsIn.inRound l (callsIn_wide.2 (HA2.out _))).mono ?_
              rintro e W2 ⟨rfl, hbX⟩
              have K2 := hidd (relTi_step K1.out hbX)
              clear hbX d1
              have f0 := K2.out.2.1.fro y
              have e0 := K2.out.2.1.cell (icells_get (zs := dgL K (teP bs (pre.map Edg.v) (j, lo, hi) m)) (j := y) (by rw [dgL_len]; omega))
              rw [dgL_get (by omega), ← hv] at e0
              have d2 := K2.out.2.2.1.cell (j := 0) (show _ = some (Value.slice (some ⟨w1.heap.size, 0, none⟩) K K) from rfl)
              have s0 := K2.out.2.1.same y (.int .i64 ((v : Int) + 1))
              rw [icells_set, HM.out] at s0
              have ha : w.heap.size ≠ w1.heap.size := by omega
              have K3 := hidd (show RelTi K (K : Int) bs w1.heap.size b W0.heap.size w W pre (j, lo, hi) (m + 1) (W2.setCell ⟨w1.heap.size, y, none⟩ (.int .i64 ((v : Int) + 1))) from
                ⟨K2.out.1.other _ _ ha, s0, K2.out.2.2.1.other _ _ (by show w1.heap.size + 1 ≠ w1.heap.size; omega), K2.out.2.2.2.1.setCell (by show w.heap.size ≤ w1.heap.size; omega) _,
                  K2.out.2.2.2.2.1.other _ _ (by show b ≠ w1.heap.size; omega), K2.out.2.2.2.2.2.1.trans ((KeepsOthers.setCell _ _ _).from _),
                  kpB_t K2.out.2.2.2.2.2.2.1 (heap_setCell_other _ _ (w1.heap.size + 1 + 1) _ (by show w1.heap.size + 1 + 1 ≠ w1.heap.size; omega)), by have := K2.out.2.2.2.2.2.2.2; simpa [World.setCell] using this⟩)
              clear s0 hv
              gi_wp2_with fail
              go_roundw
              case rel => exact ⟨m + 1, by omega, by go_num, K3.out⟩
              case measure => simp [intOf]; omega
        · have hme : m = lo := by omega
          have HD := hidd (funext (teP_done bs (pre.map Edg.v) (j, lo, hi)))
          have hst : teP bs (pre.map Edg.v) (j, lo, hi) lo = teC bs ((pre ++ [x]).map Edg.v) := by
            rw [List.map_append, show [x].map Edg.v = [(j, lo, hi)] by simp [Edg.v, HX.out]]
            exact HD.out
          subst hme
          have K1 := hidd (show RelTd K (K : Int) bs w1.heap.size w (pre ++ [x]) wr ∧ KeepsFrom W0.heap.size W wr ∧ KpB (w1.heap.size + 1 + 1) W wr ∧ w1.heap.size + 1 + 1 < wr.heap.size from
            ⟨⟨HK.out.1, by rw [← hst]; exact HK.out.2.1, HK.out.2.2.1, HK.out.2.2.2.1⟩, HK.out.2.2.2.2.2⟩)
          clear hst HD
          gi_wp2_with fail
          exact ⟨K1.out.2.1, K1.out.2.2.1, K1.out.1, K1.out.2.2.2⟩
    case done =>
      rintro D xs W hD hxs ⟨⟨h1, h3, h4, h5⟩, h6⟩ hK
      rw [hxs] at h3
      have hs := h4.cell (j := 0) (show _ = some (Value.slice (some ⟨w1.heap.size, 0, none⟩) K K) from rfl)
      have R := hidd (And.intro h3 h5)
      clear h1 h3 h4 h5
      gi_wp2
      refine ⟨by simp, .inl ⟨_, _, rfl, run_takeDeferred hK, ?_⟩⟩
      have hlr := hBr.lt
      have hDlt : D < W.heap.size := (Array.getElem?_eq_some_iff.1 hK).1
      have hr : Blk (W.putObj D (.deferred none)) w1.heap.size (icells (dgL K (teC bs (eseq N)))).toArray 2 := (World.putObj_heap_other (by omega)).trans R.out.1
      have hb2 : Below w.heap.size w (W.putObj D (.deferred none)) := R.out.2.grown (grownBy_putObj' W D (.deferred none)) R.out.2.size (fun k e => by cases e; have := hbl0.size; omega)
      refine ⟨_, results_tmp2 rfl _ _ _, ?_⟩
      exact ⟨some ⟨w1.heap.size, 0, none⟩, K, by rw [dgL_len]; rfl, own_blk hr (by omega), hb2⟩
    case stop =>
      rintro D c pre W _ _ h _
      exact h.elim
end Go.Proofs.Ythohkfdloinlmaa
