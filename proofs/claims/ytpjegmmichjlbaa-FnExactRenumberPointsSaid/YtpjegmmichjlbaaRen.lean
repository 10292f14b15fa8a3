/- RenumberPoints: what both answer, and the model. -/
import Derived.Test.YtpjegmmichjlbaaExch
namespace Go.Proofs.Ytpjegmmichjlbaa
set_option linter.unusedVariables false
set_option linter.unusedSimpArgs false
open Go Go.RowKit Go.Shelf
def rnF (zs : List Int) (bs : List Nat) (b : List Nat) (t : Nat × Nat × Nat) : List Nat := b.set (eix (zs.getD t.2.1 0) (zs.getD t.2.2 0)).toNat (bs.getD t.1 0)
theorem rnF_bys {zs : List Int} {bs : List Nat} (hb : Bys bs) : ∀ (l : List (Nat × Nat × Nat)) (b : List Nat), Bys b → Bys (l.foldl (rnF zs bs) b)
  | [], b, h => h
  | t :: l, b, h => rnF_bys hb l _ (h.set _ _ (hb.lt _))
def rnB (N : Nat) (zs : List Int) (bs : List Nat) : List Nat := (eseq N).foldl (rnF zs bs) zbl
def rnP (zs : List Int) (bs : List Nat) (j i : Nat) : List Nat := (eseq j ++ rowE j i).foldl (rnF zs bs) zbl
theorem rnP_step (zs : List Int) (bs : List Nat) (j i : Nat) : rnP zs bs j (i + 1) = (rnP zs bs j i).set (eix (zs.getD i 0) (zs.getD j 0)).toNat (bs.getD (eN j + i) 0) := by
  unfold rnP
  rw [rowE_succ, ← List.append_assoc, List.foldl_append]
  rfl
theorem rnP_row (zs : List Int) (bs : List Nat) (j : Nat) : rnP zs bs j j = rnP zs bs (j + 1) 0 := by
  unfold rnP
  rw [show eseq (j + 1) = eseq j ++ rowE j j from rfl]
  simp [rowE]
theorem rnP_done (zs : List Int) (bs : List Nat) (j : Nat) : rnP zs bs j 0 = rnB j zs bs := by
  unfold rnP rnB
  simp [rowE]
theorem rnP_bys {zs : List Int} {bs : List Nat} (hb : Bys bs) (j i : Nat) : Bys (rnP zs bs j i) := rnF_bys hb _ _ zbl_bys
def rnCode (n k : Int) (bs : List Nat) (zs : List Int) : Int := if isCol n k bs = true then (if ordB zs n = true then 0 else 2) else 1
def rnN (n k : Int) (bs : List Nat) (zs : List Int) : Int := if rnCode n k bs zs = 0 then n else 0
def rnK (n k : Int) (bs : List Nat) (zs : List Int) : Int := if rnCode n k bs zs = 0 then k else 0
def rnBB (n k : Int) (bs : List Nat) (zs : List Int) : List Nat := if rnCode n k bs zs = 0 then rnB n.toNat zs bs else zbl
def rnOut (n k : Int) (bs : List Nat) (zs : List Int) : Value := .tuple #[.agg (ccells (rnN n k bs zs) (rnK n k bs zs) (rnBB n k bs zs)).toArray, .int .i64 (rnCode n k bs zs)]
theorem rnOut_bad {n k : Int} {bs : List Nat} {zs : List Int} {m : Int} (h : rnCode n k bs zs = m) (hm : m ≠ 0) : rnOut n k bs zs = .tuple #[.agg (ccells 0 0 zbl).toArray, .int .i64 m] := by
  unfold rnOut rnN rnK rnBB
  rw [h, if_neg hm, if_neg hm, if_neg hm]
theorem rnOut_good {n k : Int} {bs : List Nat} {zs : List Int} (h : rnCode n k bs zs = 0) : rnOut n k bs zs = .tuple #[.agg (ccells n k (rnB n.toNat zs bs)).toArray, .int .i64 0] := by
  unfold rnOut rnN rnK rnBB
  rw [h, if_pos rfl, if_pos rfl, if_pos rfl]
theorem rnCode_1 {n k : Int} {bs : List Nat} {zs : List Int} (h : isCol n k bs = false) : rnCode n k bs zs = 1 := by simp [rnCode, h]
theorem rnCode_2 {n k : Int} {bs : List Nat} {zs : List Int} (h : isCol n k bs = true) (h2 : ordB zs n = false) : rnCode n k bs zs = 2 := by simp [rnCode, h, h2]
theorem rnCode_0 {n k : Int} {bs : List Nat} {zs : List Int} (h : isCol n k bs = true) (h2 : ordB zs n = true) : rnCode n k bs zs = 0 := by simp [rnCode, h, h2]
theorem rnBB_bys (n k : Int) {bs : List Nat} (hb : Bys bs) (zs : List Int) : Bys (rnBB n k bs zs) := by
  unfold rnBB
  split
  · exact rnF_bys hb _ _ zbl_bys
  · exact zbl_bys
theorem ord_two {zs : List Int} {n : Int} (h : ordB zs n = true) {i j : Nat} (hij : i < j) (hj : j < zs.length) : (0 ≤ zs.getD i 0 ∧ zs.getD i 0 < n) ∧ (0 ≤ zs.getD j 0 ∧ zs.getD j 0 < n) ∧ zs.getD i 0 ≠ zs.getD j 0 := by
  obtain ⟨h1, h2, h3⟩ := ord_len h
  refine ⟨allB_get h2 (by omega), allB_get h2 hj, fun e => ?_⟩
  have := List.pairwise_iff_getElem.1 h3 i j (by omega) hj hij
  simp only [List.getD, List.getElem?_eq_getElem (show i < zs.length by omega), List.getElem?_eq_getElem hj, Option.getD_some] at e
  exact this e
def RelRn (n k : Int) (bs : List Nat) (zs : List Int) (a : Option Addr) (w : World) (j i : Nat) (wr : World) : Prop :=
  Blk wr w.heap.size (ccells n k bs).toArray 29 ∧ Blk wr (w.heap.size + 1) (ccells 0 0 zbl).toArray 29 ∧ Blk wr (w.heap.size + 1 + 1) (ccells n k (rnP zs bs j i)).toArray 29 ∧ SlI wr a zs ∧ Below w.heap.size w wr
set_option maxRecDepth 100000 in
set_option maxHeartbeats 4000000 in
theorem renamed64 (N : Nat) (k : Int) (bs : List Nat) (hb : Bys bs) (zs : List Int) (a : Option Addr) (cap : Nat) (w : World) (hs : SlI w a zs) (n1 : 1 ≤ N) (n2 : N ≤ 17) (ho : ordB zs (N : Int) = true) :
    Calls Try.prog 64 #[.agg (ccells (N : Int) k bs).toArray, .slice a zs.length cap] w fun e w' => e = .returned (.agg (ccells (N : Int) k (rnB N zs bs)).toArray) ∧ Below w.heap.size w w' := by
  have HS := hidd (size_c26 (N : Int) k hb)
  have Hz := zero26
  have HC0 := hidd (show (ccells (N : Int) k bs).toArray[0]? = some (.int .i64 (N : Int)) from rfl)
  have HC1 := hidd (show (ccells (N : Int) k bs).toArray[1]? = some (.int .i64 k) from rfl)
  have HLN := hidd (show zs.length = N by have := (ord_len ho).1; omega)
  have HO := hidd ho
  have HSL := hidd hs
  have hset26 : ((ccells 0 0 zbl).set 0 (Value.int .i64 (N : Int))).set 1 (Value.int .i64 k) = ccells (N : Int) k zbl := rfl
  have HNS := hidd (size_c26 (N : Int) k zbl_bys)
  have HNO := hidd (size_cc 0 0 (N : Int) k zbl_bys zbl_bys)
  have HNA := hidd (ccells_one (N : Int) k zbl)
  have hRB : Bys (rnB N zs bs) := rnF_bys hb _ _ zbl_bys
  have HPS := hidd (size_c26 (N : Int) k hRB)
  have HPO := hidd (size_cc 0 0 (N : Int) k zbl_bys hRB)
  have HPA := hidd (ccells_one (N : Int) k (rnB N zs bs))
  have hc0 := HC0.out
  have hc1 := HC1.out
  clear ho hs hRB
  go_enter Try.func64, Try.ntmps64
  go_wp2_with (first
    | (refine wpList_store_row rfl 29 (.tmp 5) (.tmp 12) rfl (w.heap.size + 1 + 1) _ rfl rfl 29 _ (Blk.new _ _ _ _ (by simp)) HNS.out HNO.out HNA.out ?_))
  clear hc1 hc0
  go_loopw [6] (fun e wr => ∃ j : Nat, 1 ≤ j ∧ j ≤ N ∧ e = .int .i64 j ∧ RelRn (N : Int) k bs zs a w j 0 wr) (fun e _ => N - (intOf e).toNat)
  case atStart =>
    have hb0 := (((Below.refl w.heap.size w).alloc (Nat.le_refl _) (.cells (ccells (N : Int) k bs).toArray 29)).alloc (by simp) (.cells (ccells 0 0 zbl).toArray 29)).alloc (by simp; omega) (.cells (ccells 0 0 zbl).toArray 29)
    have hbe := below_setRow hb0 (g := w.heap.size + 1 + 1) (by omega) (ccells (N : Int) k zbl).toArray
    exact ⟨1, by omega, n1, rfl, (((Blk.new _ _ _ _ rfl).alloc _).alloc _).rowOther _ _ (by omega), ((Blk.new _ _ _ _ (by simp)).alloc _).rowOther _ _ (by omega), (Blk.new _ _ _ _ (by simp)).rowSame _, HSL.out.below hbe (Nat.le_refl _), hbe⟩
  case round =>
    obtain ⟨j, hj1, hj, rfl, HR1⟩ := hrel
    have w0 := HR1.1.cell HC0.out
    have HK := hidd HR1
    clear HR1
    by_cases hlt : j < N
    · go_wp2_with fail
      clear w0
      go_loopw [7] (fun e wr => ∃ i : Nat, i ≤ j ∧ e = .int .i64 i ∧ RelRn (N : Int) k bs zs a w j i wr) (fun e _ => j - (intOf e).toNat)
      case atStart => exact ⟨0, by omega, rfl, HK.out⟩
      case round =>
        obtain ⟨i, hi, rfl, HR2⟩ := hrel
        have HK2 := hidd HR2
        clear HR2
        by_cases hil : i < j
        · rcases HK2.out.2.2.2.1 with hz | ⟨b, off, ha, hc⟩
          · have := HLN.out; subst hz; simp at this; omega
          · subst ha
            have hjl : j < zs.length := by rw [HLN.out]; exact hlt
            have hil2 : i < zs.length := by omega
            have hci := hc i hil2
            have hcj := hc j hjl
            obtain ⟨⟨y0, y1⟩, ⟨z0, z1⟩, hyz⟩ := ord_two HO.out hil hjl
            obtain ⟨y, hy⟩ : ∃ y, y = zs.getD i 0 := ⟨_, rfl⟩
            obtain ⟨z, hz⟩ : ∃ z, z = zs.getD j 0 := ⟨_, rfl⟩
            rw [← hy] at hci y0 y1 hyz
            rw [← hz] at hcj z0 z1 hyz
            have HA := hidd (fun (w' : World) (hw' : Below wr.heap.size wr w') => And.intro ((hw'.cell (block_lt_of_cell hci)).trans hci) ((hw'.cell (block_lt_of_cell hcj)).trans hcj))
            obtain ⟨hx0, hx1, hx2⟩ := eix_bd (n := (N : Int)) (by omega) y0 y1 z0 z1 hyz
            obtain ⟨E, hE⟩ := Int.eq_ofNat_of_zero_le hx0
            have HEX := hidd hE
            have hE136 : E < 136 := by omega
            have hEI : (E : Int) < 136 := by omega
            have HNE := hidd (show (i : Int) ≠ (j : Int) by omega)
            obtain ⟨x, hx⟩ : ∃ x, x = bs.getD (eN j + i) 0 := ⟨_, rfl⟩
            have hx256 : x < 256 := by rw [hx]; exact hb.lt _
            have HCX := hidd (show colAt bs (i : Int) (j : Int) = (x : Int) by rw [colAt_eN bs hil, hx])
            have hwr : IntKind.u8.wrap (x : Int) = (x : Int) := u8_in (by omega) (by omega)
            have HBB := hidd (rnP_bys (zs := zs) hb j i)
            have HST := hidd (show ∀ w', Below wr.heap.size wr w' → (∃ old, w'.cell? ⟨w.heap.size + 1 + 1, 2 + E, none⟩ = some old) ∧ w'.frozen? ⟨w.heap.size + 1 + 1, 2 + E, none⟩ = false ∧ RelRn (N : Int) k bs zs (some ⟨b, off, none⟩) w j (i + 1) (w'.setCell ⟨w.heap.size + 1 + 1, 2 + E, none⟩ (.int .u8 (x : Int))) from by
              intro w' hw'
              obtain ⟨q1, q2, q3, q4, q5⟩ := HK2.out
              have q3' := q3.below hw' q3.lt
              have hbe := (q5.trans (hw'.mono q5.size)).setCell (p := ⟨w.heap.size + 1 + 1, 2 + E, none⟩) (by show w.heap.size ≤ w.heap.size + 1 + 1; omega) (.int .u8 (x : Int))
              refine ⟨⟨_, q3'.cell (HBB.out.cget (N : Int) k hE136)⟩, q3'.fro _, (q1.below hw' q1.lt).other _ _ (by show w.heap.size ≠ w.heap.size + 1 + 1; omega), (q2.below hw' q2.lt).other _ _ (by show w.heap.size + 1 ≠ w.heap.size + 1 + 1; omega), ?_, HSL.out.below hbe (Nat.le_refl _), hbe⟩
              have s := q3'.same (2 + E) (.int .u8 (x : Int))
              rw [ccells_set] at s
              rw [rnP_step, ← hy, ← hz, hE, ← hx, Int.toNat_natCast]
              exact s)
            clear hc hci hcj hy hz hyz hE hx hx0 hx1 hx2
            go_wp2_with fail
            refine wp_region_last_lit 16 (fun w' => Below wr.heap.size wr w') rfl rfl (by kernel_rfl) ((Below.refl _ _).drew) (by kernel_rfl) (by kernel_rfl) (by kernel_rfl) ?_
            simp only [List.take_succ_cons, List.take_zero, List.cons_append, List.nil_append, idle]
            refine qs rfl (fun KQ hKQ => ?_)
            apply Exists.intro
            refine ⟨fun w' hw' => ?_, ?_⟩
            · (go_simp; exact rfl)
            go_simp
            refine hKQ _ ?_
            clear hKQ KQ
            refine qs rfl (fun KQ hKQ => ?_)
            apply Exists.intro
            refine ⟨fun w' hw' => ?_, ?_⟩
            · (go_simp; exact rfl)
            go_simp
            refine hKQ _ ?_
            clear hKQ KQ
            refine qs rfl (fun KQ hKQ => ?_)
            apply Exists.intro
            refine ⟨fun w' hw' => ?_, ?_⟩
            · (go_simp; exact rfl)
            go_simp
            refine hKQ _ ?_
            clear hKQ KQ
            refine qs rfl (fun KQ hKQ => ?_)
            apply Exists.intro
            refine ⟨fun w' hw' => ?_, ?_⟩
            · (have e1 := (HA.out w' hw').1; go_simp; exact rfl)
            go_simp
            refine hKQ _ ?_
            clear hKQ KQ
            refine qs rfl (fun KQ hKQ => ?_)
            apply Exists.intro
            refine ⟨fun w' hw' => ?_, ?_⟩
            · (go_simp; exact rfl)
            go_simp
            refine hKQ _ ?_
            clear hKQ KQ
            refine qs rfl (fun KQ hKQ => ?_)
            apply Exists.intro
            refine ⟨fun w' hw' => ?_, ?_⟩
            · (go_simp; exact rfl)
            go_simp
            refine hKQ _ ?_
            clear hKQ KQ
            refine qs rfl (fun KQ hKQ => ?_)
            apply Exists.intro
            refine ⟨fun w' hw' => ?_, ?_⟩
            · (go_simp; exact rfl)
            go_simp
            refine hKQ _ ?_
            clear hKQ KQ
            refine qs rfl (fun KQ hKQ => ?_)
            apply Exists.intro
            refine ⟨fun w' hw' => ?_, ?_⟩
            · (have e1 := (HA.out w' hw').2; go_simp; exact rfl)
            go_simp
            refine hKQ _ ?_
            clear hKQ KQ
            refine qs rfl (fun KQ hKQ => ?_)
            apply Exists.intro
            refine ⟨fun w' hw' => ?_, ?_⟩
            · (go_simp; exact (edge79 _ _ _ (by omega) (by omega) (by omega) (by omega)).mono fun _ _ h => ⟨by rw [h.1, HEX.out], by rw [← h.2]; exact hw'⟩)
            go_simp
            refine hKQ _ ?_
            clear hKQ KQ
            refine qs rfl (fun KQ hKQ => ?_)
            apply Exists.intro
            refine ⟨fun w' hw' => ?_, ?_⟩
            · (exact quietRow 29 (.tmp 2) rfl w.heap.size rfl 29 _ _ (HK2.out.1.below hw' HK2.out.1.lt) Try.underlying29 rfl HS.out)
            go_simp
            refine hKQ _ ?_
            clear hKQ KQ
            refine qs rfl (fun KQ hKQ => ?_)
            apply Exists.intro
            refine ⟨fun w' hw' => ?_, ?_⟩
            · (go_simp; exact rfl)
            go_simp
            refine hKQ _ ?_
            clear hKQ KQ
            refine qs rfl (fun KQ hKQ => ?_)
            apply Exists.intro
            refine ⟨fun w' hw' => ?_, ?_⟩
            · (go_simp; exact rfl)
            go_simp
            refine hKQ _ ?_
            clear hKQ KQ
            refine qs rfl (fun KQ hKQ => ?_)
            apply Exists.intro
            refine ⟨fun w' hw' => ?_, ?_⟩
            · (go_simp; exact (at57 (N : Int) k bs hb N i j _ (by omega) (by omega) (by omega) (by omega) (by omega) HNE.out).mono fun _ _ h => ⟨by rw [h.1, HCX.out], hw'.trans (h.2.mono hw'.size)⟩)
            go_simp
            refine hKQ _ ?_
            clear hKQ KQ
            refine qs rfl (fun KQ hKQ => ?_)
            apply Exists.intro
            refine ⟨fun w' hw' => ?_, ?_⟩
            · (go_simp; exact rfl)
            go_simp
            refine hKQ _ ?_
            clear hKQ KQ
            refine qs rfl (fun KQ hKQ => ?_)
            apply Exists.intro
            refine ⟨fun w' hw' => ?_, ?_⟩
            · (go_simp; exact rfl)
            go_simp
            refine hKQ _ ?_
            clear hKQ KQ
            refine qs rfl (fun KQ hKQ => ?_)
            apply Exists.intro
            refine ⟨fun w' hw' => ?_, ?_⟩
            · (go_simp; exact rfl)
            go_simp
            refine hKQ _ ?_
            clear hKQ KQ
            refine qs rfl (fun KQ hKQ => ?_)
            apply Exists.intro
            refine ⟨fun w' hw' => ?_, ?_⟩
            · (go_simp; exact rfl)
            go_simp
            refine hKQ _ ?_
            clear hKQ KQ
            refine wpQuiet_nil ?_
            intro w' hw'
            obtain ⟨⟨old, hwE⟩, hfE, hrel'⟩ := HST.out w' hw'
            have K := hidd hrel'
            clear hrel'
            go_wp2
            go_roundw
            case rel => exact ⟨i + 1, by omega, by go_num, K.out⟩
            case measure => simp [intOf]; omega
        · have hie : i = j := by omega
          subst hie
          have HN := hidd (rnP_row zs bs i)
          go_wp2_with fail
          go_roundw
          case rel => exact ⟨i + 1, by omega, by omega, by go_num, by have := HK2.out; unfold RelRn at this ⊢; rw [← HN.out]; exact this⟩
          case measure => simp [intOf]; omega
    · have hje : j = N := by omega
      subst hje
      have h3 := HK.out.2.2.1
      rw [rnP_done] at h3
      have R := hidd (And.intro HK.out.2.1 (And.intro h3 (And.intro (HK.out.2.1.rowSame (ccells (j : Int) k (rnB j zs bs)).toArray) (below_setRow HK.out.2.2.2.2 (g := w.heap.size + 1) (by omega) (ccells (j : Int) k (rnB j zs bs)).toArray))))
      clear h3
      go_wp2_with (first
        | (refine wpList_load_row rfl 29 (.tmp 5) rfl (w.heap.size + 1 + 1) rfl 29 _ (0,0) _ R.out.2.1 Try.underlying29 rfl HPS.out ?_)
        | (refine wpList_store_row rfl 29 (.tmp 4) (.tmp 40) rfl (w.heap.size + 1) _ rfl rfl 29 _ R.out.1 HPS.out HPO.out HPA.out ?_))
      refine bodyPost_ret (results_cell_row rfl _ _ (w.heap.size + 1) 29 _ (0,0) _ rfl R.out.2.2.1 Try.underlying29 rfl HPS.out) rfl ⟨rfl, R.out.2.2.2⟩
end Go.Proofs.Ytpjegmmichjlbaa
