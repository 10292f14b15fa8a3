/- CountEdges: the program and its model. -/
import Derived.Test.YtjdniepheghpkaaFence
import Derived.Shelf.RegionOpen
namespace Go.Proofs.Ytjdniepheghpkaa
set_option linter.unusedVariables false
set_option linter.unusedSimpArgs false
open Go Go.RowKit Go.Shelf
attribute [local go_sem] Oper.semAt_some
/-- The numbers of the edges of each colour, over the first j edges. -/
def cntL (K : Nat) (bs : List Nat) : Nat → List Int
  | 0 => List.replicate K 0
  | j + 1 => (cntL K bs j).set (bs.getD j 0) ((cntL K bs j).getD (bs.getD j 0) 0 + 1)
theorem cntL_len (K : Nat) (bs : List Nat) : ∀ j, (cntL K bs j).length = K
  | 0 => by simp [cntL]
  | j + 1 => by rw [cntL, List.length_set, cntL_len K bs j]
theorem cntL_bd (K : Nat) (bs : List Nat) : ∀ j c, 0 ≤ (cntL K bs j).getD c 0 ∧ (cntL K bs j).getD c 0 ≤ j
  | 0, c => by
    rw [cntL, List.getD_eq_getElem?_getD, List.getElem?_replicate]
    split <;> simp
  | j + 1, c => by
    have h1 := cntL_bd K bs j c
    have h2 := cntL_bd K bs j (bs.getD j 0)
    rw [cntL]
    simp only [List.getD_eq_getElem?_getD] at *
    rw [List.getElem?_set]
    split
    · split
      · simp; omega
      · simp; omega
    · omega
theorem zrow_icells (K : Nat) : zrow K = (icells (List.replicate K 0)).toArray := by
  apply Array.ext'
  rw [zrow, toList_madeCells_one]
  simp [icells]
theorem icells_set (zs : List Int) (c : Nat) (v : Int) : (icells zs).toArray.setIfInBounds c (.int .i64 v) = (icells (zs.set c v)).toArray := by
  simp [icells, List.map_set]
def ceCode (n k : Int) (bs : List Nat) : Int := if isCol n k bs then 0 else 1
def ceList (n k : Int) (bs : List Nat) : List Int := if isCol n k bs then cntL k.toNat bs (eN n.toNat) else []
theorem ceList_len {n k : Int} {bs : List Nat} : (ceList n k bs).length ≤ 17 := by
  unfold ceList
  split
  · rename_i h
    have := isCol_bd h
    rw [cntL_len]; omega
  · simp
theorem col_lt {n k : Int} {bs : List Nat} (h : isCol n k bs = true) {j : Nat} (hj : (j : Int) < edg n) (hj2 : j < 136) : ((bs.getD j 0 : Nat) : Int) < k := by
  have h1 := (isCol_good h).2 j hj2
  unfold goodAt at h1
  rw [if_pos hj] at h1
  exact of_decide_eq_true h1
/-- The numbers of the edges of each colour, over edges that have come. -/
def cntF {N : Nat} (K : Nat) (bs : List Nat) (xs : List (Edg N)) : List Int := xs.foldl (fun L x => L.set (bs.getD x.1.1 0) (L.getD (bs.getD x.1.1 0) 0 + 1)) (List.replicate K 0)
theorem cntF_snoc {N : Nat} (K : Nat) (bs : List Nat) (xs : List (Edg N)) (x : Edg N) : cntF K bs (xs ++ [x]) = (cntF K bs xs).set (bs.getD x.1.1 0) ((cntF K bs xs).getD (bs.getD x.1.1 0) 0 + 1) := by simp [cntF]
theorem cntF_len {N : Nat} (K : Nat) (bs : List Nat) (xs : List (Edg N)) : (cntF K bs xs).length = K := by
  unfold cntF
  suffices h : ∀ (L : List Int), (xs.foldl (fun L x => L.set (bs.getD x.1.1 0) (L.getD (bs.getD x.1.1 0) 0 + 1)) L).length = L.length by rw [h]; simp
  induction xs with
  | nil => intro L; rfl
  | cons x xs ih => intro L; rw [List.foldl_cons, ih]; simp
theorem eseq_nums (h : Nat) : (eseq h).map (·.1) = List.range (eN h) := by
  induction h with
  | zero => rfl
  | succ h ih =>
    rw [eseq, List.map_append, ih, eN, List.range_add]
    simp [rowE]
theorem cntF_eq {N : Nat} (K : Nat) (bs : List Nat) (xs : List (Edg N)) (h : xs.map Edg.v = eseq N) : cntF K bs xs = cntL K bs (eN N) := by
  have h1 : xs.map (fun x => x.1.1) = List.range (eN N) := by
    rw [← eseq_nums, ← h, List.map_map]; rfl
  have h2 : cntF K bs xs = (xs.map (fun x => x.1.1)).foldl (fun L j => L.set (bs.getD j 0) (L.getD (bs.getD j 0) 0 + 1)) (List.replicate K 0) := by
    rw [List.foldl_map]; rfl
  rw [h2, h1]
  generalize eN N = m
  induction m with
  | zero => rfl
  | succ m ih => rw [List.range_succ, List.foldl_append, ih]; rfl
theorem cntF_bd {N : Nat} (K : Nat) (bs : List Nat) (xs : List (Edg N)) : ∀ c, 0 ≤ (cntF K bs xs).getD c 0 ∧ (cntF K bs xs).getD c 0 ≤ xs.length := by
  suffices h : ∀ (ys : List (Edg N)) c, 0 ≤ (cntF K bs ys.reverse).getD c 0 ∧ (cntF K bs ys.reverse).getD c 0 ≤ ys.length by
    intro c
    have := h xs.reverse c
    simpa using this
  intro ys
  induction ys with
  | nil =>
    intro c
    rw [show cntF K bs ([] : List (Edg N)).reverse = List.replicate K 0 from rfl, List.getD_eq_getElem?_getD, List.getElem?_replicate]
    split <;> simp
  | cons y ys ih =>
    intro c
    have h1 := ih c
    have h2 := ih (bs.getD y.1.1 0)
    rw [List.reverse_cons, cntF_snoc]
    simp only [List.getD_eq_getElem?_getD, List.length_cons] at *
    rw [List.getElem?_set]
    split
    · split
      · simp; omega
      · simp; omega
    · omega
theorem ko_drew (W : World) : KeepsOthers W W.drew := ⟨Nat.le_refl _, fun _ _ h _ => h⟩
theorem blk_own {B b : Nat} {W W' : World} {C : Array Value} {t : TypeId} {row : Option Nat} (h : Blk W b C t) (hg : W.grownBy W' row) (hr : ∀ r, row = some r → B ≤ r ∧ ∃ o : Obj, W.heap[r]? = some o ∧ o.isCells = false) : Blk W' b C t := by
  refine (hg.block b h.lt (fun e => ?_)).trans h
  obtain ⟨_, o, ho, hc⟩ := hr b e.symm
  rw [show W.heap[b]? = _ from h] at ho
  cases ho; cases hc
def Rel33 (C : Array Value) (K : Nat) (bs : List Nat) (w : World) (j : Nat) (wr : World) : Prop := Blk wr w.heap.size C 26 ∧ (∃ b, w.heap.size < b ∧ b = w.heap.size + 1 ∧ True) ∧ Below w.heap.size w wr
/-- A list in a block of its own, handed back. -/
theorem own_blk {w : World} {b : Nat} {zs : List Int} {B : Nat} (h : Blk w b (icells zs).toArray 2) (hB : B ≤ b) : OwnL w B (some ⟨b, 0, none⟩) zs :=
  .inr ⟨b, _, hB, rfl, h, by simp [icells_len], fun j hj => icells_get hj⟩
def RelC (n : Int) (k : Int) (bs : List Nat) (g : Nat) (w : World) (j : Nat) (wr : World) : Prop := Blk wr w.heap.size (ccells n k bs).toArray 26 ∧ Blk wr g (icells (cntL k.toNat bs j)).toArray 2 ∧ Below w.heap.size w wr
set_option maxRecDepth 100000 in
set_option maxHeartbeats 1000000 in
theorem spec33 (n k : Int) (bs : List Nat) (hb : Bys bs) (w : World) :
    Calls Try.prog 33 #[.agg (ccells n k bs).toArray] w (LOut w (ceList n k bs) (ceCode n k bs)) := by
  have HS := hidd (size_c26 n k hb)
  cases hi : isCol n k bs with
  | false =>
    have HI := hidd hi
    have e1 : ceList n k bs = [] := by simp [ceList, hi]
    have e2 : ceCode n k bs = 1 := by simp [ceCode, hi]
    rw [e1, e2]
    clear hi e1 e2
    go_enter Try.func33, Try.ntmps33
    go_wp2_with (refine wpList_load_row rfl 26 (.tmp 1) rfl w.heap.size rfl 26 _ (0,0) _ (Blk.new _ _ _ _ rfl) Try.underlying26 rfl HS.out ?_)
    refine (l01Is_any n k bs hb _).mono ?_
    rintro e w1 ⟨rfl, hb1⟩
    rw [HI.out]
    have G := hidd (((Below.refl _ _).alloc (Nat.le_refl _) _).trans (hb1.mono (B' := w.heap.size) (by simp)))
    clear hb1
    go_wp2
    go_ret2
    exact lout_nil rfl G.out
  | true =>
    have HI := hidd hi
    obtain ⟨n1, n2, k1, k2⟩ := isCol_bd hi
    have e1 : ceList n k bs = cntL k.toNat bs (eN n.toNat) := by simp [ceList, hi]
    have e2 : ceCode n k bs = 0 := by simp [ceCode, hi]
    rw [e1, e2]
    obtain ⟨K, rfl⟩ := Int.eq_ofNat_of_zero_le (show 0 ≤ k by omega)
    have hE : edg n = ((eN n.toNat : Nat) : Int) := by rw [eN_edg]; congr 1; omega
    have hE2 := eN_17 (show n.toNat ≤ 17 by omega)
    obtain ⟨E, hEE⟩ : ∃ E, E = eN n.toNat := ⟨_, rfl⟩
    rw [← hEE] at hE hE2 ⊢
    have HE := hidd hE
    have HCL := hidd (fun (j : Nat) (hj : j < E) => col_lt hi (j := j) (by rw [hE]; omega) (by omega))
    have hmk := make29 K (by omega)
    have HC0 := hidd (show (ccells n (K : Int) bs).toArray[0]? = some (.int .i64 n) from rfl)
    have HC1 := hidd (show (ccells n (K : Int) bs).toArray[1]? = some (.int .i64 (K : Int)) from rfl)
    obtain ⟨m0, m1⟩ := mul_bd n1 n2
    have HM := hidd (show n * (n - 1) / 2 = (E : Int) from hE)
    clear hi e1 e2 hE hEE
    go_enter Try.func33, Try.ntmps33
    go_wp2_with (refine wpList_load_row rfl 26 (.tmp 1) rfl w.heap.size rfl 26 _ (0,0) _ (Blk.new _ _ _ _ rfl) Try.underlying26 rfl HS.out ?_)
    refine (l01Is_any n (K : Int) bs hb _).mono ?_
    rintro e w1 ⟨rfl, hb1⟩
    rw [HI.out]
    have hB := (Blk.new w (ccells n (K : Int) bs).toArray 26 _ rfl).below hb1 (by simp)
    have g1 := hB.cell HC1.out
    have hbl := ((Below.refl _ _).alloc (Nat.le_refl _) _).trans (hb1.mono (B' := w.heap.size) (by simp))
    have G := hidd (And.intro hB hbl)
    clear hb1 hB hbl
    go_wp2_with fail
    go_loopw [5] (fun e wr => ∃ j : Nat, j ≤ E ∧ e = .int .i64 j ∧ RelC n (K : Int) bs w1.heap.size w j wr) (fun e _ => E - (intOf e).toNat)
    case atStart =>
      refine ⟨0, by omega, rfl, G.out.1.alloc _, ?_, G.out.2.alloc G.out.2.size _⟩
      rw [cntL, ← zrow_icells, Int.toNat_natCast]
      exact Blk.new _ _ _ _ rfl
    case round =>
      obtain ⟨j, hj, rfl, HR⟩ := hrel
      have w0 := HR.1.cell HC0.out
      by_cases hlt : j < E
      · have w2 := HR.1.cell (hb.cget n (K : Int) (show j < 136 by omega))
        obtain ⟨c, hc⟩ : ∃ c, c = bs.getD j 0 := ⟨_, rfl⟩
        have hck := HCL.out j hlt
        rw [← hc] at w2 hck
        have hcl : c < (cntL (K : Int).toNat bs j).length := by rw [cntL_len]; omega
        have hv := HR.2.1.cell (icells_get hcl)
        have hf := HR.2.1.fro c
        have hbd := cntL_bd (K : Int).toNat bs j c
        obtain ⟨v, hvv⟩ : ∃ v, v = (cntL (K : Int).toNat bs j).getD c 0 := ⟨_, rfl⟩
        rw [← hvv] at hv hbd
        obtain ⟨v0, v1⟩ := hbd
        have hcK : (c : Int) < (K : Int) := by omega
        have s1 := HR.2.1.same c (.int .i64 (v + 1))
        rw [icells_set] at s1
        have K1 := hidd (show RelC n (K : Int) bs w1.heap.size w (j + 1) _ from ⟨HR.1.other _ _ (by show w.heap.size ≠ w1.heap.size; have := G.out.1.lt; omega), by rw [cntL, ← hc, ← hvv]; exact s1, HR.2.2.setCell (p := ⟨w1.heap.size, c, none⟩) G.out.2.size (.int .i64 (v + 1))⟩)
        clear HR hc hvv s1 hcl
        have hM := HM.out
        go_wp2_with fail
        go_roundw
        case rel => exact ⟨j + 1, by omega, by go_num, K1.out⟩
        case measure => simp [intOf]; omega
      · have hje : j = E := by omega
        subst hje
        have hM := HM.out
        have R := hidd HR
        clear HR
        go_wp2_with fail
        go_ret2
        exact ⟨some ⟨w1.heap.size, 0, none⟩, K, by rw [cntL_len, Int.toNat_natCast]; rfl, own_blk R.out.2.1 G.out.2.size, R.out.2.2⟩
set_option maxRecDepth 100000 in
set_option maxHeartbeats 1000000 in
theorem impl34 (n k : Int) (bs : List Nat) (hb : Bys bs) (w : World) :
    Calls Try.prog 34 #[.agg (ccells n k bs).toArray] w (LOut w (ceList n k bs) (ceCode n k bs)) := by
  have HS := hidd (size_c26 n k hb)
  cases hi : isCol n k bs with
  | false =>
    have HI := hidd hi
    have e1 : ceList n k bs = [] := by simp [ceList, hi]
    have e2 : ceCode n k bs = 1 := by simp [ceCode, hi]
    rw [e1, e2]
    clear hi e1 e2
    go_enter Try.func34, Try.ntmps34
    go_wp2_with (refine wpList_load_row rfl 26 (.tmp 1) rfl w.heap.size rfl 26 _ (0,0) _ (Blk.new _ _ _ _ rfl) Try.underlying26 rfl HS.out ?_)
    refine (implIs_any n k bs hb _).mono ?_
    rintro e w1 ⟨rfl, hb1⟩
    rw [HI.out]
    have G := hidd (((Below.refl _ _).alloc (Nat.le_refl _) _).trans (hb1.mono (B' := w.heap.size) (by simp)))
    clear hb1
    go_wp2
    go_ret2
    exact lout_nil rfl G.out
  | true =>
    have HI := hidd hi
    obtain ⟨n1, n2, k1, k2⟩ := isCol_bd hi
    have e1 : ceList n k bs = cntL k.toNat bs (eN n.toNat) := by simp [ceList, hi]
    have e2 : ceCode n k bs = 0 := by simp [ceCode, hi]
    rw [e1, e2]
    obtain ⟨K, rfl⟩ := Int.eq_ofNat_of_zero_le (show 0 ≤ k by omega)
    obtain ⟨N, rfl⟩ := Int.eq_ofNat_of_zero_le (show 0 ≤ n by omega)
    have hmk := make29 K (by omega)
    have HC0 := hidd (show (ccells (N : Int) (K : Int) bs).toArray[0]? = some (.int .i64 (N : Int)) from rfl)
    have HC1 := hidd (show (ccells (N : Int) (K : Int) bs).toArray[1]? = some (.int .i64 (K : Int)) from rfl)
    have HCL := hidd (fun (j : Nat) (hj : j < eN N) => col_lt hi (j := j) (by rw [← eN_edg]; omega) (by have := eN_17 (show N ≤ 17 by omega); omega))
    clear hi e1 e2
    have hfn : ∀ f, Fence.wide.fn f := fun _ => trivial
    refine (callsIn_wide (n := 8)).1 (callsIn_of_wp_marks Try.func34 rfl trivial ?_ rfl)
    simp only [Try.ntmps34, List.size_toArray, List.length_cons, List.length_nil, Nat.reduceAdd, Nat.reduceSub, Array.replicate_succ, Array.replicate_zero, List.push_toArray, List.append_toArray, List.nil_append, List.cons_append]
    gi_wp2_with (refine inLoadRow rfl 26 (.tmp 1) rfl w.heap.size rfl 26 _ _ (Blk.new _ _ _ _ rfl) Try.underlying26 rfl HS.out ?_)
    refine (callsIn_wide.2 (implIs_any (N : Int) (K : Int) bs hb _)).mono ?_
    rintro e w1 ⟨rfl, hb1⟩
    rw [HI.out]
    have hB := (Blk.new w (ccells (N : Int) (K : Int) bs).toArray 26 _ rfl).below hb1 (by simp)
    have g0 := hB.cell HC0.out
    have g1 := hB.cell HC1.out
    have hbl := ((Below.refl _ _).alloc (Nat.le_refl _) _).trans (hb1.mono (B' := w.heap.size) (by simp))
    have G := hidd (And.intro hB hbl)
    have hz1 := hB.lt
    clear hb1 hB hbl
    gi_wp2_with (gi_at_call 66; refine (callsIn_wide.2 (edges66 _ _)).mono ?_; rintro e w' ⟨rfl, rfl⟩)
    obtain ⟨W0, hW0⟩ : ∃ W0, W0 = ((w1.alloc (Obj.cells (zrow K) 2)).alloc (Obj.cells #[Value.slice (some ⟨w1.heap.size, 0, none⟩) K K] 29)).alloc (Obj.cells #[Value.int IntKind.i64 (N : Int)] 2) := ⟨_, rfl⟩
    have hBn : Blk W0 (w1.heap.size + 1 + 1) #[.int .i64 (N : Int)] 2 := by rw [hW0]; exact Blk.new _ _ _ _ (by simp)
    have hBs : Blk W0 (w1.heap.size + 1) #[Value.slice (some ⟨w1.heap.size, 0, none⟩) K K] 29 := by rw [hW0]; exact (Blk.new _ _ _ _ (by simp)).alloc _
    have hBr : Blk W0 w1.heap.size (zrow K) 2 := by rw [hW0]; exact ((Blk.new _ _ _ _ rfl).alloc _).alloc _
    have hBc : Blk W0 w.heap.size (ccells (N : Int) (K : Int) bs).toArray 26 := by rw [hW0]; exact ((G.out.1.alloc _).alloc _).alloc _
    have hbl0 : Below w.heap.size w W0 := by
      rw [hW0]
      have := G.out.2.size
      exact ((G.out.2.alloc this _).alloc (by simp; omega) _).alloc (by simp; omega) _
    rw [← hW0]
    clear hW0
    refine wpIn_rangeFunc_ownF rfl (by omega) (gf := 80) (lb := #[.pointer (some ⟨w1.heap.size + 1 + 1, 0, none⟩)]) rfl trivial (enters_of Try.func80 (by kernel_rfl) rfl)
      (seq80 6 (w1.heap.size + 1 + 1) N (by omega) (by omega) W0 hBn) kpB_t (kpB_b hBn.lt) (Below.refl _ _) (fun _ => rfl)
      (fun pre W => Blk W w.heap.size (ccells (N : Int) (K : Int) bs).toArray 26 ∧ Blk W w1.heap.size (icells (cntF K bs pre)).toArray 2 ∧ Blk W (w1.heap.size + 1) #[Value.slice (some ⟨w1.heap.size, 0, none⟩) K K] 29 ∧ Below w.heap.size w W)
      (fun _ _ _ => False)
      (fun s A B row hs hg hr => ⟨blk_own hs.1 hg hr, blk_own hs.2.1 hg hr, blk_own hs.2.2.1 hg hr, ownFrom_below (β := Unit) (Nat.le_refl _) hbl0.size () A B row hs.2.2.2 hg hr⟩)
      (fun _ _ _ _ _ hs _ _ => hs)
      ⟨hBc, by rw [zrow_icells] at hBr; exact hBr, hBs, hbl0⟩
      (fun x => { tmps := #[.agg (ccells (N : Int) (K : Int) bs).toArray, .pointer (some ⟨w.heap.size, 0, none⟩), .slice none 0 0, .int .i64 0, .pointer (some ⟨w1.heap.size + 1, 0, none⟩), .int .i64 (x.1.1 : Int), .agg (ccells (N : Int) (K : Int) bs).toArray, .bool true, .bool false, .pointer (some ⟨w.heap.size, 1, none⟩), .int .i64 (K : Int), .slice (some ⟨w1.heap.size, 0, none⟩) K K, .pointer (some ⟨w.heap.size, 0, none⟩), .int .i64 (N : Int), .func (.func 80) #[] #[.pointer (some ⟨w1.heap.size + 1 + 1, 0, none⟩)], .int .i64 (x.1.1 : Int), .agg #[.int .i64 (x.1.2.1 : Int), .int .i64 (x.1.2.2 : Int)], undef, undef, undef, undef, undef, undef, undef, undef, undef, undef], defers := [] }) ?assign ?body ?done ?stop
    case assign =>
      intro l x W Kx hK
      dsimp only [encE]
      gi_wp2
      exact hK
    case body =>
      rintro l pre x W ⟨h1, h2, h3, h4⟩ hlen
      have hx := x.lt
      have h17 := eN_17 (show N ≤ 17 by omega)
      obtain ⟨j, hj⟩ : ∃ j, j = x.1.1 := ⟨_, rfl⟩
      rw [← hj] at hx ⊢
      have HJ := hidd hj
      have c2 := h1.cell (hb.cget (N : Int) (K : Int) (show j < 136 by omega))
      obtain ⟨c, hc⟩ : ∃ c, c = bs.getD j 0 := ⟨_, rfl⟩
      have hck := HCL.out j hx
      rw [← hc] at c2 hck
      have hcl : c < (cntF K bs pre).length := by rw [cntF_len]; omega
      have hv := h2.cell (icells_get hcl)
      have hf := h2.fro c
      have hs := h3.cell (j := 0) (show _ = some (Value.slice (some ⟨w1.heap.size, 0, none⟩) K K) from rfl)
      have hbd := cntF_bd K bs pre c
      obtain ⟨v, hvv⟩ : ∃ v, v = (cntF K bs pre).getD c 0 := ⟨_, rfl⟩
      rw [← hvv] at hv hbd
      obtain ⟨v0, v1⟩ := hbd
      have s1 := h2.same c (.int .i64 (v + 1))
      rw [icells_set] at s1
      have K1 := hidd (And.intro (h1.other ⟨w1.heap.size, c, none⟩ (.int .i64 (v + 1)) (by show w.heap.size ≠ w1.heap.size; omega)) (And.intro (show Blk (W.setCell ⟨w1.heap.size, c, none⟩ (.int .i64 (v + 1))) w1.heap.size (icells (cntF K bs (pre ++ [x]))).toArray 2 by rw [cntF_snoc, ← HJ.out, ← hc, ← hvv]; exact s1) (And.intro (h3.other ⟨w1.heap.size, c, none⟩ (.int .i64 (v + 1)) (by show w1.heap.size + 1 ≠ w1.heap.size; omega)) (h4.setCell (p := ⟨w1.heap.size, c, none⟩) (by show w.heap.size ≤ w1.heap.size; omega) (.int .i64 (v + 1))))))
      have hcK : (c : Int) < (K : Int) := hck
      have hj136 : (j : Int) < 136 := by omega
      have hwv : IntKind.i64.wrap (v + 1) = v + 1 := IntWalk.i64_in _ (by omega)
      clear hj hc hvv s1 hcl h1 h2 h3 h4 hck
      gi_wp2_with fail
      have hmix : Try.prog.follows .mixedOrders = true := by kernel_rfl
      gi_region_with_o (fail)
      all_goals gi_wp2
      all_goals exact ⟨(KeepsOthers.setCell W ⟨w1.heap.size, c, none⟩ (.int .i64 (v + 1))).trans (ko_drew _), heap_setCell_other W ⟨w1.heap.size, c, none⟩ (w1.heap.size + 1 + 1) (.int .i64 (v + 1)) (by show w1.heap.size + 1 + 1 ≠ w1.heap.size; omega), K1.out.1, K1.out.2.1, K1.out.2.2.1, K1.out.2.2.2.drew⟩
    case done =>
      rintro D xs W hD hxs ⟨h1, h2, h3, h4⟩ hK
      rw [cntF_eq K bs xs hxs] at h2
      have hs := h3.cell (j := 0) (show _ = some (Value.slice (some ⟨w1.heap.size, 0, none⟩) K K) from rfl)
      have R := hidd (And.intro h2 h4)
      clear h1 h2 h3 h4
      gi_wp2
      refine ⟨by simp, .inl ⟨_, _, rfl, run_takeDeferred hK, ?_⟩⟩
      have hlr := hBr.lt
      have hDlt : D < W.heap.size := (Array.getElem?_eq_some_iff.1 hK).1
      have hr : Blk (W.putObj D (.deferred none)) w1.heap.size (icells (cntL K bs (eN N))).toArray 2 := (World.putObj_heap_other (by omega)).trans R.out.1
      have hb2 : Below w.heap.size w (W.putObj D (.deferred none)) := R.out.2.grown (grownBy_putObj' W D (.deferred none)) R.out.2.size (fun k e => by cases e; have := hbl0.size; omega)
      refine ⟨_, results_tmp2 rfl _ _ _, ?_⟩
      exact ⟨some ⟨w1.heap.size, 0, none⟩, K, by rw [cntL_len, Int.toNat_natCast]; rfl, own_blk hr (by omega), hb2⟩
    case stop =>
      rintro D c pre W _ _ h _
      exact h.elim
end Go.Proofs.Ytjdniepheghpkaa
