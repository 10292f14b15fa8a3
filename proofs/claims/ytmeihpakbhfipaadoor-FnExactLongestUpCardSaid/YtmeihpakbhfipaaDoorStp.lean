/- stepsOf: the rows are cut from one list. -/
import Derived.Test.YtmeihpakbhfipaaDoorStq
import Derived.Deep.DeepAppendRoom
namespace Go.Proofs.YtmeihpakbhfipaaDoor
set_option linter.unusedVariables false
set_option linter.unusedSimpArgs false
open Go Go.RowKit Go.Shelf
def nrow (n : Nat) : Array Value := madeCells #[.slice none 0 0] n
theorem nrow_size (n : Nat) : (nrow n).size = n := size_madeCells _ _
theorem make41 (n : Nat) (h : n ≤ 1048576) (w : World) : (Instr.makeSlice 41 (.int .i64 n) (.int .i64 n)).run Tryd.prog w = .ok (.slice (some ⟨w.heap.size, 0, none⟩) n n) (w.alloc (.cells (nrow n) 25)) := by
  obtain ⟨i, hi, hz0, hz1, hz2⟩ := info_parts info25
  have := run_make (P := Tryd.prog) w 41 25 i (.slice none 0 0) Tryd.underlying41 hi hz0 .i64 .i64 n n (by omega) (by omega) (by rw [hz2]; omega) (by omega)
  rw [this, hz1]
  simp [nrow, Value.cells]
theorem own_other {w : World} {base : Nat} {e : TypeId} {size h L E : Nat} {xs : List Value} (hO : w.ownsRow base e size (.slice (some ⟨h, 0, none⟩) L E) L xs) (a : Addr) (v : Value) (hn : h ≠ a.block) :
    (w.setCell a v).ownsRow base e size (.slice (some ⟨h, 0, none⟩) L E) L xs := by
  obtain ⟨h1, h2 | ⟨g, cap, cur, hv, hb, hg, r⟩⟩ := hO
  · cases h2.1
  · cases hv
    exact ⟨h1, .inr ⟨h, E, cur, rfl, hb, Blk.other hg a v hn, r⟩⟩
theorem blk_grown {w w' : World} {b h : Nat} {C : Array Value} {t : TypeId} (hB : Blk w b C t) (hg : w.grownBy w' (some h)) (hn : b ≠ h) : Blk w' b C t :=
  (hg.block b hB.lt (fun e => hn (Option.some.inj e))).trans hB
theorem app_none (L E cp : Nat) (h : L ≤ E) (b : Nat) (ty : TypeId) (w : World) : (Builtin.append_ #[25, 25] ty #[.slice (some ⟨b, 0, none⟩) L E, .slice none 0 cp]).run Tryd.prog w = .ok (.slice (some ⟨b, 0, none⟩) L E) w := by
  obtain ⟨i, hi, hz⟩ := info_parts info2
  simp [Builtin.append_, run_underlying Tryd.underlying25, sizeOf, typeInfo, hi, h, storeCells, Builtin.lenOf, Builtin.firstCells, Sem.run_pure, Result.andThen]
/-- A list is put behind an own one that has room for it. -/
theorem wp_app_row {o : Oper} {a : Act} {w : World} {K : Act → World → Prop} {Q : Exit → Act → World → Prop} (s x : Operand) (ho : o.op = .call { callee := .builtin .append, args := #[s, x], argTypes := #[25, 25] })
    (h L E : Nat) (xs : List Value) (zs : List Int) (aX : Option Addr) (capX : Nat) (hs : a.eval s = .slice (some ⟨h, 0, none⟩) L E) (hown : w.ownsRow h 2 1 (.slice (some ⟨h, 0, none⟩) L E) L xs)
    (hx : a.eval x = .slice aX zs.length capX) (hz : SlI w aX zs) (hroom : L + zs.length ≤ E)
    (hk : ∀ w', w'.ownsRow h 2 1 (.slice (some ⟨h, 0, none⟩) (L + zs.length) E) (L + zs.length) (xs ++ icells zs) → w.grownBy w' (some h) → K (a.put o.dst (.slice (some ⟨h, 0, none⟩) (L + zs.length) E)) w') : o.wp Tryd.prog a w K Q := by
  obtain ⟨i, hi, hz0, hz1, hz3⟩ := info_parts info2
  by_cases hn : aX = none ∧ zs = []
  · obtain ⟨rfl, rfl⟩ := hn
    have hr := app_none L E capX (by simpa using hroom) h o.type w
    have hk' := hk w (by simpa [icells] using hown) ⟨rfl, rfl, rfl, Nat.le_refl _, fun _ _ _ => rfl⟩
    unfold Oper.wp execOp
    simp only [List.length_nil] at hx
    simp only [ho, resolve, invoke, builtin, Sem.run_bind, Sem.run_pure, Result.andThen_ok, List.map_toArray, List.map_cons, List.map_nil, hs, hx, hr]
    exact hk'
  · have hcell : ∃ ad, aX = some ad ∧ ∀ j u, (icells zs)[j]? = some u → w.cell? (ad.add j) = some u := by
      rcases hz with hz | ⟨b, off, ha, hc⟩
      · cases haX : aX with
        | none => exact absurd ⟨haX, hz⟩ hn
        | some ad => exact ⟨ad, rfl, fun j u hu => by subst hz; simp [icells] at hu⟩
      · refine ⟨_, ha, fun j u hu => ?_⟩
        have hj : j < zs.length := by have := (List.getElem?_eq_some_iff.1 hu).1; simpa [icells] using this
        have h2 := icells_get hj
        simp only [List.getElem?_toArray] at h2
        rw [h2] at hu; cases hu
        rw [show (⟨b, off, none⟩ : Addr).add j = ⟨b, off + j, none⟩ from by simp [Addr.add]]
        exact hc j hj
    obtain ⟨ad, rfl, hcells⟩ := hcell
    exact wp_append_own_spare w s x 25 ho h 2 i 1 Tryd.underlying25 hi hz1 h L E xs hs hown ad zs.length capX (icells zs) hx (by simp [icells]) hcells (fun u hu => by simp only [icells, List.mem_map] at hu; obtain ⟨x, _, rfl⟩ := hu; rfl) hroom hk
/-- What holds before the round of point j. -/
def RelSt (bs : List Nat) (c : Int) (N : Nat) (w : World) (gb h g : Nat) (j : Nat) (wr : World) : Prop :=
  Blk wr gb (gcell (2 ^ N - 1) (nsF bs c (eseq N))).toArray 63 ∧ wr.ownsRow h 2 1 (.slice (some ⟨h, 0, none⟩) (upF bs c N j).length (eN N)) (upF bs c N j).length (icells (upF bs c N j)) ∧
  (∃ C, Blk wr g C 25 ∧ C.size = N ∧ ∀ q, q < j → ∃ a cap, C[q]? = some (.slice a (upR bs c N q).length cap) ∧ (upR bs c N q = [] ∨ a = some ⟨h, (upF bs c N q).length, none⟩)) ∧ Below w.heap.size w wr
theorem RelSt.below {bs : List Nat} {c : Int} {N : Nat} {w : World} {gb h g j : Nat} {wr w2 : World} (hR : RelSt bs c N w gb h g j wr) (hb : Below wr.heap.size wr w2) : RelSt bs c N w gb h g j w2 := by
  obtain ⟨h1, h2, ⟨C, h3, h4, h5⟩, h6⟩ := hR
  exact ⟨h1.below hb h1.lt, own_below h2 hb (Nat.le_refl _), ⟨C, h3.below hb h3.lt, h4, h5⟩, h6.trans (hb.mono h6.size)⟩
theorem upF_pre (bs : List Nat) (c : Int) (N q : Nat) : ∀ d, ∃ r, upF bs c N (q + d) = upF bs c N q ++ r
  | 0 => ⟨[], by simp⟩
  | d + 1 => by
    obtain ⟨r, hr⟩ := upF_pre bs c N q d
    exact ⟨r ++ upR bs c N (q + d), by rw [← Nat.add_assoc, upF, hr, List.append_assoc]⟩
theorem upF_at {bs : List Nat} {c : Int} {N q j m : Nat} (hq : q < j) (hm : m < (upR bs c N q).length) : (icells (upF bs c N j))[(upF bs c N q).length + m]? = some (.int .i64 ((upR bs c N q).getD m 0)) := by
  obtain ⟨r, hr⟩ := upF_pre bs c N (q + 1) (j - (q + 1))
  rw [show q + 1 + (j - (q + 1)) = j by omega, upF] at hr
  rw [hr]
  simp only [icells, List.map_append]
  rw [List.getElem?_append_left (by simp; omega), List.getElem?_append_right (by simp)]
  simp [List.getD, List.getElem?_eq_getElem hm]
theorem RelSt.rows {bs : List Nat} {c : Int} {N : Nat} {w : World} {gb h g : Nat} {wr : World} (hR : RelSt bs c N w gb h g N wr) : StI wr g (upR bs c N) N := by
  obtain ⟨_, h2, ⟨C, h3, h4, h5⟩, _⟩ := hR
  refine ⟨C, h3, h4, fun p hp => ?_⟩
  obtain ⟨a, cap, e, ha⟩ := h5 p hp
  refine ⟨a, cap, e, ?_⟩
  rcases ha with ha | ha
  · exact .inl ha
  · refine .inr ⟨h, (upF bs c N p).length, ha, fun m hm => ?_⟩
    have h0 := upF_at (j := N) hp hm
    have hlt := (List.getElem?_eq_some_iff.1 h0).1
    have hx := h2.cellAt ((upF bs c N p).length + m) (by simpa [icells] using hlt)
    rw [hx, h0]
theorem row_bits (bs : List Nat) (c : Int) {N p : Nat} (hN : N ≤ 17) : ∀ A, nsF bs c (eseq N) p &&& A < 2 ^ 17 := fun A => Nat.lt_of_le_of_lt Nat.and_le_left (nsF_lt bs c _ p)
set_option maxRecDepth 100000 in
set_option maxHeartbeats 4000000 in
theorem steps25 (N : Nat) (k c : Int) (bs : List Nat) (hb : Bys bs) (w : World) (hg : given (N : Int) k bs c [] = 0) (hT : Tz w) (h0 : 0 < w.heap.size) :
    Calls Tryd.prog 25 #[.agg (ccells (N : Int) k bs).toArray, .int .i64 c] w fun e w' => ∃ g, e = .returned (.tuple #[.slice (some ⟨g, 0, none⟩) N N, .int .i64 0]) ∧ w.heap.size ≤ g ∧ StI w' g (upR bs c N) N ∧ Below w.heap.size w w' := by
  obtain ⟨hi, hcb⟩ := given_cases hg
  obtain ⟨n1, n2, k1, k2⟩ := isCol_bd hi
  have N1 : 1 ≤ N := by omega
  have N2 : N ≤ 17 := by omega
  have HS := hidd (size_c26 (N : Int) k hb)
  have HCX := hidd (show (ccells (N : Int) k bs).toArray[0]? = some (.int .i64 (N : Int)) from rfl)
  have HGR := hidd (fun W => graph63_0 N k c bs hb W N1 N2 hi hcb)
  have Hz := zero79
  have HZS := hidd (size79 (2 ^ N - 1) (nsF bs c (eseq N)))
  have HZO := hidd (show (gcell 0 fun _ => 0).toArray.size = (gcell (2 ^ N - 1) (nsF bs c (eseq N))).toArray.size by simp [gcell_len])
  have HZA := hidd (gcell_one (2 ^ N - 1) (nsF bs c (eseq N)))
  have HEN := hidd (show edg (N : Int) = (eN N : Int) from (eN_edg N).symm)
  have hE := eN_17 N2
  have hm1 := make0 (eN N) (by omega)
  have hm2 := make41 N (by omega)
  have HT := hidd hT
  have H0 := hidd h0
  clear hg hi hcb hT h0
  go_enter Tryd.func25, Tryd.ntmps25
  go_wp2_with (refine wpList_load_row rfl 28 (.tmp 2) rfl w.heap.size rfl 28 _ (0,0) _ (Blk.new _ _ _ _ rfl) Tryd.underlying28 rfl HS.out ?_)
  refine (HGR.out _).mono ?_
  rintro e w1 ⟨rfl, hb1⟩
  have G1 := hidd (And.intro ((Blk.new w (ccells (N : Int) k bs).toArray 28 _ rfl).below hb1 (by simp)) (((Below.refl w.heap.size w).alloc (Nat.le_refl _) (.cells (ccells (N : Int) k bs).toArray 28)).trans (hb1.mono (by simp))))
  have hsz1 := G1.out.1.lt
  clear hb1
  have HN1 := hidd (Blk.new w1 (gcell 0 fun _ => 0).toArray 63 w1.heap.size rfl)
  obtain ⟨W2, hW2⟩ : ∃ W2, W2 = (w1.alloc (.cells (gcell 0 fun _ => 0).toArray 63)).setRow w1.heap.size (gcell (2 ^ N - 1) (nsF bs c (eseq N))).toArray := ⟨_, rfl⟩
  have hW2s : W2.heap.size = w1.heap.size + 1 := by rw [hW2]; simp
  have G2 := hidd (show Blk W2 w.heap.size (ccells (N : Int) k bs).toArray 28 ∧ Blk W2 w1.heap.size (gcell (2 ^ N - 1) (nsF bs c (eseq N))).toArray 63 ∧ Below w.heap.size w W2 by
    rw [hW2]
    exact ⟨(G1.out.1.alloc _).rowOther _ _ (by omega), HN1.out.rowSame _, below_setRow (G1.out.2.alloc (by omega) _) (by omega) _⟩)
  have c0 := G2.out.1.cell HCX.out
  have c1 := (G2.out.1.alloc (.cells (zrow (eN N)) 2)).cell HCX.out
  have c2 := ((G2.out.1.alloc (.cells (zrow (eN N)) 2)).alloc (.cells (nrow N) 25)).cell HCX.out
  obtain ⟨W4, hW4⟩ : ∃ W4, W4 = (W2.alloc (.cells (zrow (eN N)) 2)).alloc (.cells (nrow N) 25) := ⟨_, rfl⟩
  have HR0 := hidd (show RelSt bs c N w w1.heap.size (w1.heap.size + 1) (w1.heap.size + 1 + 1) 0 W4 by
    rw [hW4]
    refine ⟨(G2.out.2.1.alloc _).alloc _, ?_, ⟨nrow N, Blk.new _ _ _ _ (by simp [hW2s]), nrow_size N, fun q hq => by omega⟩, (G2.out.2.2.alloc (by omega) _).alloc (by simp; omega) _⟩
    refine ⟨rfl, .inr ⟨w1.heap.size + 1, eN N, zrow (eN N), rfl, Nat.le_refl _, ?_, Nat.zero_le _, by unfold maxLen; omega, by simp [zrow_size], by simp [upF, icells]⟩⟩
    exact (Blk.new W2 (zrow (eN N)) 2 (w1.heap.size + 1) (by omega)).alloc _)
  have hW4s : W4.heap.size = w1.heap.size + 1 + 1 + 1 := by rw [hW4]; simp [hW2s]
  have HW4 := hidd (show W4 = (((w1.alloc (.cells (gcell 0 fun _ => 0).toArray 63)).setRow w1.heap.size (gcell (2 ^ N - 1) (nsF bs c (eseq N))).toArray).alloc (.cells (zrow (eN N)) 2)).alloc (.cells (nrow N) 25) by rw [hW4, hW2])
  rw [hW2] at c0 c1 c2
  clear hW4 hW2
  go_wp2_with (first
    | (refine wpList_store_row rfl 63 (.tmp 6) (.tmp 17) rfl w1.heap.size _ rfl rfl 63 _ HN1.out HZS.out HZO.out HZA.out ?_)
    | (go_at_call 43; refine (edge48 (N : Int) _ n1 n2).mono ?_; rintro e _ ⟨rfl, rfl⟩; rw [HEN.out]))
  rw [← HW4.out]
  clear c0 c1 c2 hm1 hm2
  go_loopw [31, 8] (fun i v wr => ∃ j : Nat, j ≤ N ∧ i = .int .i64 (j : Int) ∧ v = .slice (some ⟨w1.heap.size + 1, 0, none⟩) (upF bs c N j).length (eN N) ∧ RelSt bs c N w w1.heap.size (w1.heap.size + 1) (w1.heap.size + 1 + 1) j wr) (fun i _ _ => N - (intOf i).toNat)
  case atStart => exact ⟨0, Nat.zero_le _, rfl, rfl, HR0.out⟩
  case round =>
    obtain ⟨j, hj, rfl, rfl, HR⟩ := hrel
    have HK := hidd HR
    clear HR
    by_cases hlt : j < N
    · have HAB := hidd (fun W => above91 (2 ^ N - 1) (pow_lt17 N2) (nsF bs c (eseq N)) j (by omega) W)
      have hand := u32_andn (nsF bs c (eseq N) j) (adn (2 ^ N - 1) (2 ^ (j + 1) - 1)) (Nat.lt_trans (nsF_lt bs c _ j) (by decide)) (adn_lt32 _ _)
      have hpt := fun W hW h0 => points47X (nsF bs c (eseq N) j &&& adn (2 ^ N - 1) (2 ^ (j + 1) - 1)) (row_bits bs c N2 _) W hW h0
      rw [row_set bs c hlt N2] at hpt
      have HPT := hidd hpt
      have hnear := gcell_near (x := 2 ^ N - 1) (f := nsF bs c (eseq N)) (p := j) (by omega)
      have HUL := hidd (upR_len bs c N j)
      have HFL := hidd (upF_len bs c N (j + 1) (by omega))
      have HF1 := hidd (show upF bs c N (j + 1) = upF bs c N j ++ upR bs c N j from rfl)
      generalize nsF bs c (eseq N) j &&& adn (2 ^ N - 1) (2 ^ (j + 1) - 1) = X at hand HPT
      generalize adn (2 ^ N - 1) (2 ^ (j + 1) - 1) = A at hand HAB
      generalize nsF bs c (eseq N) j = Y at hand hnear
      have HCB := hidd (show ∀ W, Blk W w1.heap.size (gcell (2 ^ N - 1) (nsF bs c (eseq N))).toArray 63 → Blk W w1.heap.size (gcell (2 ^ N - 1) (nsF bs c (eseq N))).toArray 63 ∧ W.cell? ⟨w1.heap.size, 1 + j, none⟩ = some (.int .u32 (Y : Int)) from fun W h => ⟨h, h.cell hnear⟩)
      have HRG := hidd (fun W (h : Blk W w1.heap.size (gcell (2 ^ N - 1) (nsF bs c (eseq N))).toArray 63 ∧ W.cell? ⟨w1.heap.size, 1 + j, none⟩ = some (.int .u32 (Y : Int))) => h.1.range 0 (gcell (2 ^ N - 1) (nsF bs c (eseq N))) (fun j v hj => by simpa using hj))
      have HSZ := hidd (show (Tryd.prog.info? 63).map (·.size) = some (gcell (2 ^ N - 1) (nsF bs c (eseq N))).length by rw [HZS.out]; simp)
      have hj17 : (j : Int) < 17 := by omega
      clear hpt hnear
      go_wp2_with fail
      refine wp_region_held_drew (S := (fun W => Blk W w1.heap.size (gcell (2 ^ N - 1) (nsF bs c (eseq N))).toArray 63 ∧ W.cell? ⟨w1.heap.size, 1 + j, none⟩ = some (.int .u32 (Y : Int)))) (by kernel_rfl) ?_ (fun hHeld => ?_)
      · exact HCB.out _ HK.out.1.drew
      refine wpAnyH_take (i := 0) (oi := _) (v := ?_) rfl (by kernel_rfl) (by kernel_rfl) (by kernel_rfl) (fun _ _ _ h => h) (Or.inl ⟨by rfl, ?_⟩) (by assumption) ?_
      rotate_left
      · intro wX hSw; (try dsimp only at hSw); go_simp; first | done | with_reducible rfl
      simp only [List.getElem_toArray, List.getElem_cons_succ, List.getElem_cons_zero, Act.put, List.setIfInBounds_toArray, List.set_cons_zero, List.set_cons_succ]
      refine wpAnyH_take (i := 1) (oi := _) (v := ?_) rfl (by kernel_rfl) (by kernel_rfl) (by kernel_rfl) (fun _ _ _ h => h) (Or.inl ⟨by rfl, ?_⟩) (by assumption) ?_
      rotate_left
      · intro wX hSw; (try dsimp only at hSw); go_simp; first | done | with_reducible rfl
      simp only [List.getElem_toArray, List.getElem_cons_succ, List.getElem_cons_zero, Act.put, List.setIfInBounds_toArray, List.set_cons_zero, List.set_cons_succ]
      refine wpAnyH_take (i := 2) (oi := _) (v := ?_) rfl (by kernel_rfl) (by kernel_rfl) (by kernel_rfl) (fun _ _ _ h => h) (Or.inl ⟨by rfl, ?_⟩) (by assumption) ?_
      rotate_left
      · intro wX hSw; (try dsimp only at hSw); go_simp; first | done | with_reducible rfl
      simp only [List.getElem_toArray, List.getElem_cons_succ, List.getElem_cons_zero, Act.put, List.setIfInBounds_toArray, List.set_cons_zero, List.set_cons_succ]
      refine wpAnyH_take (i := 3) (oi := _) (v := ?_) rfl (by kernel_rfl) (by kernel_rfl) (by kernel_rfl) (fun _ _ _ h => h) (Or.inl ⟨by rfl, ?_⟩) (by assumption) ?_
      rotate_left
      · intro wX hSw; (try dsimp only at hSw); go_simp; first | done | with_reducible rfl
      simp only [List.getElem_toArray, List.getElem_cons_succ, List.getElem_cons_zero, Act.put, List.setIfInBounds_toArray, List.set_cons_zero, List.set_cons_succ]
      refine wpAnyH_take (i := 4) (oi := _) (v := ?_) rfl (by kernel_rfl) (by kernel_rfl) (by kernel_rfl) (fun _ _ _ h => h) (Or.inl ⟨by rfl, ?_⟩) (by assumption) ?_
      rotate_left
      · intro wX hSw; (try dsimp only at hSw); go_simp; first | done | with_reducible rfl
      simp only [List.getElem_toArray, List.getElem_cons_succ, List.getElem_cons_zero, Act.put, List.setIfInBounds_toArray, List.set_cons_zero, List.set_cons_succ]
      refine wpAnyH_take (i := 5) (oi := _) (v := _) rfl (by kernel_rfl) (by kernel_rfl) (by kernel_rfl) (fun _ _ _ h => h) (yieldsIf_load_mid (by rfl) _ _ rfl _ _ rfl _ _ (HRG.out) Tryd.underlying63 rfl (HSZ.out)) (by assumption) ?_
      simp only [List.getElem_toArray, List.getElem_cons_succ, List.getElem_cons_zero, Act.put, List.setIfInBounds_toArray, List.set_cons_zero, List.set_cons_succ]
      refine wpAnyH_take (i := 6) (oi := _) (v := ?_) rfl (by kernel_rfl) (by kernel_rfl) (by kernel_rfl) (fun _ _ _ h => h) (Or.inl ⟨by rfl, ?_⟩) (by assumption) ?_
      rotate_left
      · intro wX hSw; (try dsimp only at hSw); go_simp; first | done | with_reducible rfl
      simp only [List.getElem_toArray, List.getElem_cons_succ, List.getElem_cons_zero, Act.put, List.setIfInBounds_toArray, List.set_cons_zero, List.set_cons_succ]
      obtain ⟨V0, hV0⟩ : ∃ V0, V0 = wr.drew := ⟨_, rfl⟩
      rw [← hV0] at hHeld ⊢
      have G0 := hidd (show RelSt bs c N w w1.heap.size (w1.heap.size + 1) (w1.heap.size + 1 + 1) j V0 by rw [hV0]; exact HK.out.below (Below.refl _ _).drew)
      clear hV0
      refine wpAnyH_ready (rs := [7]) (by kernel_rfl) (by simp) (AllReadyH.cons (o := _) rfl (fun KQ hKQ => ?_) AllReadyH.nil)
      go_simp
      refine (HAB.out _).mono ?_
      rintro e V1 ⟨rfl, hbX⟩
      have G1 := hidd (G0.out.below hbX)
      clear hbX
      go_wp2_with fail
      refine hKQ.out _ _ ?_ (fun hNext => ?_)
      · exact HCB.out _ G1.out.1
      clear hKQ KQ hHeld
      have hHeld := hNext
      clear hNext
      (try simp only [List.getElem_toArray, List.getElem_cons_succ, List.getElem_cons_zero, Act.put, List.setIfInBounds_toArray, List.set_cons_zero, List.set_cons_succ])
      refine wpAnyH_take (i := 8) (oi := _) (v := ?_) rfl (by kernel_rfl) (by kernel_rfl) (by kernel_rfl) (fun _ _ _ h => h) (Or.inl ⟨by rfl, ?_⟩) (by assumption) ?_
      rotate_left
      · intro wX hSw; (try dsimp only at hSw); go_simp; first | done | with_reducible rfl
      simp only [List.getElem_toArray, List.getElem_cons_succ, List.getElem_cons_zero, Act.put, List.setIfInBounds_toArray, List.set_cons_zero, List.set_cons_succ]
      refine wpAnyH_ready (rs := [9]) (by kernel_rfl) (by simp) (AllReadyH.cons (o := _) rfl (fun KQ hKQ => ?_) AllReadyH.nil)
      go_simp
      refine (HPT.out _ (HT.out.below G1.out.2.2.2 H0.out) (Nat.lt_of_lt_of_le H0.out G1.out.2.2.2.size)).mono ?_
      rintro e V2 ⟨aX, capX, rfl, hoX, hbX⟩
      have G2 := hidd (And.intro (G1.out.below hbX) hoX.sl)
      clear hbX hoX
      go_wp2_with fail
      refine hKQ.out _ _ ?_ (fun hNext => ?_)
      · exact HCB.out _ G2.out.1.1
      clear hKQ KQ hHeld
      have hHeld := hNext
      clear hNext
      (try simp only [List.getElem_toArray, List.getElem_cons_succ, List.getElem_cons_zero, Act.put, List.setIfInBounds_toArray, List.set_cons_zero, List.set_cons_succ])
      refine wpAnyH_ready (rs := [10]) (by kernel_rfl) (by simp) (AllReadyH.cons (o := _) rfl (fun KQ hKQ => ?_) AllReadyH.nil)
      rw [if_pos (by rfl)]
      refine wp_app_row _ _ rfl (w1.heap.size + 1) _ (eN N) _ (upR bs c N j) aX capX rfl G2.out.1.2.1 rfl G2.out.2 (by have h1 := HFL.out; rw [HF1.out, List.length_append] at h1; omega) ?_
      intro V3 hown3 hgr
      have HL1 := hidd (show (upF bs c N (j + 1)).length = (upF bs c N j).length + (upR bs c N j).length by rw [HF1.out, List.length_append])
      have G3 := hidd (show Blk V3 w1.heap.size (gcell (2 ^ N - 1) (nsF bs c (eseq N))).toArray 63 ∧ V3.ownsRow (w1.heap.size + 1) 2 1 (.slice (some ⟨w1.heap.size + 1, 0, none⟩) (upF bs c N (j + 1)).length (eN N)) (upF bs c N (j + 1)).length (icells (upF bs c N (j + 1))) ∧
          (∃ C, Blk V3 (w1.heap.size + 1 + 1) C 25 ∧ C.size = N ∧ ∀ q, q < j → ∃ a cap, C[q]? = some (.slice a (upR bs c N q).length cap) ∧ (upR bs c N q = [] ∨ a = some ⟨w1.heap.size + 1, (upF bs c N q).length, none⟩)) ∧ Below w.heap.size w V3 by
        obtain ⟨r1, r2, ⟨C, r3, r4, r5⟩, r6⟩ := G2.out.1
        refine ⟨blk_grown r1 hgr (by omega), ?_, ⟨C, blk_grown r3 hgr (by omega), r4, r5⟩, r6.grown hgr r6.size (fun k hk => by cases hk; omega)⟩
        rw [HL1.out, HF1.out, icells_app]
        exact hown3)
      clear hown3 hgr
      refine hKQ.out _ _ ?_ (fun hNext => ?_)
      · exact HCB.out _ G3.out.1
      clear hKQ KQ hHeld
      have hHeld := hNext
      clear hNext
      (try simp only [List.getElem_toArray, List.getElem_cons_succ, List.getElem_cons_zero, Act.put, List.setIfInBounds_toArray, List.set_cons_zero, List.set_cons_succ])
      refine wpAnyH_take (i := 11) (oi := _) (v := ?_) rfl (by kernel_rfl) (by kernel_rfl) (by kernel_rfl) (fun _ _ _ h => h) (Or.inl ⟨by rfl, ?_⟩) (by assumption) ?_
      rotate_left
      · intro wX hSw; (try dsimp only at hSw); go_simp; first | done | with_reducible rfl
      simp only [List.getElem_toArray, List.getElem_cons_succ, List.getElem_cons_zero, Act.put, List.setIfInBounds_toArray, List.set_cons_zero, List.set_cons_succ]
      refine wpAnyH_done (by kernel_rfl) ?_ _
      clear hHeld
      obtain ⟨C, hC1, hC2, hC3⟩ := G3.out.2.2.1
      obtain ⟨old, hold⟩ : ∃ old, C[j]? = some old := ⟨_, Array.getElem?_eq_getElem (by omega)⟩
      have cE := hC1.cell hold
      have fE := hC1.fro j
      have HC := hidd (And.intro hC1 (And.intro hC2 hC3))
      have hroom : (upF bs c N j).length + (upR bs c N j).length ≤ eN N := by have h1 := HFL.out; rw [HL1.out] at h1; omega
      clear hold hC1 hC2 hC3
      have HST := hidd (show ∀ (a : Option Addr) (len cap : Nat), len = (upR bs c N j).length → (upR bs c N j = [] ∨ a = some ⟨w1.heap.size + 1, (upF bs c N j).length, none⟩) →
          RelSt bs c N w w1.heap.size (w1.heap.size + 1) (w1.heap.size + 1 + 1) (j + 1) (V3.setCell ⟨w1.heap.size + 1 + 1, j, none⟩ (.slice a len cap)) by
        rintro a len cap rfl ha
        obtain ⟨r1, r2, r3⟩ := HC.out
        refine ⟨G3.out.1.other _ _ (by show w1.heap.size ≠ w1.heap.size + 1 + 1; omega), own_other G3.out.2.1 _ _ (by show w1.heap.size + 1 ≠ w1.heap.size + 1 + 1; omega), ⟨_, r1.same j _, by simpa using r2, fun q hq => ?_⟩, G3.out.2.2.2.setCell (p := ⟨w1.heap.size + 1 + 1, j, none⟩) (by show w.heap.size ≤ w1.heap.size + 1 + 1; omega) _⟩
        rw [Array.getElem?_setIfInBounds]
        by_cases e : j = q
        · subst e
          rw [if_pos rfl, if_pos (by omega)]
          exact ⟨a, cap, rfl, ha⟩
        · rw [if_neg e]
          exact r3 q (by omega))
      by_cases hR0 : (upR bs c N j).length = 0
      · go_wp2_with fail
        go_roundw
        case rel => exact ⟨j + 1, by omega, by go_num, by rw [HL1.out], HST.out _ _ _ hR0.symm (.inl (List.length_eq_zero_iff.1 hR0))⟩
        case measure => simp [intOf]; omega
      · go_wp2_with fail
        go_roundw
        case rel => exact ⟨j + 1, by omega, by go_num, by rw [HL1.out], HST.out _ _ _ rfl (.inr rfl)⟩
        case measure => simp [intOf]; omega
    · obtain rfl : j = N := by omega
      have HF := hidd HK.out.rows
      go_wp2_with fail
      go_ret2
      exact ⟨w1.heap.size + 1 + 1, rfl, by omega, HF.out, HK.out.2.2.2⟩
end Go.Proofs.YtmeihpakbhfipaaDoor
