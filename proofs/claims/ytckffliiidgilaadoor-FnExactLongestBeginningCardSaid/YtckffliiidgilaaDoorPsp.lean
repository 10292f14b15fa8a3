/- PartOn: the model's part. -/
import Derived.Test.YtckffliiidgilaaDoorGc
import Derived.StillTailTactics
namespace Go.Proofs.YtckffliiidgilaaDoor
set_option linter.unusedVariables false
set_option linter.unusedSimpArgs false
open Go Go.RowKit Go.Shelf
set_option maxRecDepth 100000 in
set_option maxHeartbeats 4000000 in
theorem part68 (n k : Int) (bs : List Nat) (hb : Bys bs) (zs : List Int) (a : Option Addr) (cap : Nat) (w : World) (hs : SlI w a zs) (n1 : 1 ≤ n) (n2 : n ≤ 17) (hset : setB zs n = true) (h0 : 1 ≤ zs.length) :
    Calls Tryd.prog 74 #[.agg (ccells n k bs).toArray, .slice a zs.length cap] w fun e w' => e = .returned (.agg (ccells (zs.length : Int) k (paintB zs.length (fun lo hi => colAt bs (zs.getD lo 0) (zs.getD hi 0)))).toArray) ∧ Below w.heap.size w w' := by
  have HS := hidd (size_c26 n k hb)
  have Hz := zero26
  have HC1 := hidd (show (ccells n k bs).toArray[1]? = some (.int .i64 k) from rfl)
  have hlen := set_len hset (by omega)
  have h17 : zs.length ≤ 17 := by omega
  obtain ⟨r, hr⟩ : ∃ r : Nat → Nat → Int, r = fun lo hi => colAt bs (zs.getD lo 0) (zs.getD hi 0) := ⟨_, rfl⟩
  have hrb : ∀ lo hi, 0 ≤ r lo hi ∧ r lo hi < 256 := fun lo hi => by rw [hr]; exact colAt_bd hb _ _
  rw [← hr]
  have HRB := hidd hrb
  have HR := hidd hr
  have HSET := hidd hset
  have HSL := hidd hs
  have hset26 : ((ccells 0 0 zbl).set 0 (Value.int .i64 (zs.length : Int))).set 1 (Value.int .i64 k) = ccells (zs.length : Int) k zbl := rfl
  have HNS := hidd (size_c26 (zs.length : Int) k zbl_bys)
  have HNO := hidd (size_cc 0 0 (zs.length : Int) k zbl_bys zbl_bys)
  have HNA := hidd (ccells_one (zs.length : Int) k zbl)
  have hc1 := HC1.out
  clear hrb hr hset hs hlen
  go_enter Tryd.func74, Tryd.ntmps74
  go_wp2_with (first
    | (refine wpList_store_row rfl 28 (.tmp 5) (.tmp 12) rfl (w.heap.size + 1 + 1) _ rfl rfl 28 _ (Blk.new _ _ _ _ (by simp)) HNS.out HNO.out HNA.out ?_))
  clear hc1
  go_loopw [6] (fun e wr => ∃ j : Nat, 1 ≤ j ∧ j ≤ zs.length ∧ e = .int .i64 j ∧ RelPp n k bs zs a r w j 0 wr) (fun e _ => zs.length - (intOf e).toNat)
  case atStart =>
    have hb0 := (((Below.refl w.heap.size w).alloc (Nat.le_refl _) (.cells (ccells n k bs).toArray 28)).alloc (by simp) (.cells (ccells 0 0 zbl).toArray 28)).alloc (by simp; omega) (.cells (ccells 0 0 zbl).toArray 28)
    have hbe := below_setRow hb0 (g := w.heap.size + 1 + 1) (by omega) (ccells (zs.length : Int) k zbl).toArray
    exact ⟨1, by omega, h0, rfl, (((Blk.new _ _ _ _ rfl).alloc _).alloc _).rowOther _ _ (by omega), ((Blk.new _ _ _ _ (by simp)).alloc _).rowOther _ _ (by omega), (Blk.new _ _ _ _ (by simp)).rowSame _, HSL.out.below hbe (Nat.le_refl _), hbe⟩
  case round =>
    obtain ⟨j, hj1, hj, rfl, HR1⟩ := hrel
    have w0 := HR1.2.2.1.cell (j := 0) (show _ = some (Value.int .i64 (zs.length : Int)) from rfl)
    have HK := hidd HR1
    clear HR1
    by_cases hlt : j < zs.length
    · go_wp2_with fail
      clear w0
      go_loopw [7] (fun e wr => ∃ i : Nat, i ≤ j ∧ e = .int .i64 i ∧ RelPp n k bs zs a r w j i wr) (fun e _ => j - (intOf e).toNat)
      case atStart => exact ⟨0, by omega, rfl, HK.out⟩
      case round =>
        obtain ⟨i, hi, rfl, HR2⟩ := hrel
        have HK2 := hidd HR2
        clear HR2
        by_cases hil : i < j
        · rcases HK2.out.2.2.2.1 with hz | ⟨b, off, ha, hc⟩
          · subst hz; simp at h0
          · subst ha
            have hci := hc i (by omega)
            have hcj := hc j hlt
            obtain ⟨y, hy⟩ : ∃ y, y = zs.getD i 0 := ⟨_, rfl⟩
            obtain ⟨z, hz⟩ : ∃ z, z = zs.getD j 0 := ⟨_, rfl⟩
            have hup := set_up HSET.out (i := i) (j - i) (by omega)
            rw [show i + (j - i) = j by omega] at hup
            obtain ⟨y0, y1⟩ := (set_get HSET.out).1 i (by omega)
            obtain ⟨z0, z1⟩ := (set_get HSET.out).1 j hlt
            rw [← hy] at hci hup y0 y1
            rw [← hz] at hcj hup z0 z1
            have HA := hidd (fun (w' : World) (hw' : Below wr.heap.size wr w') => And.intro ((hw'.cell (block_lt_of_cell hci)).trans hci) ((hw'.cell (block_lt_of_cell hcj)).trans hcj))
            have HV := hidd (show r i j = colAt bs y z by rw [HR.out, hy, hz])
            obtain ⟨v, hv⟩ : ∃ v, v = colAt bs y z := ⟨_, rfl⟩
            have hvb := HRB.out i j
            rw [HV.out, ← hv] at hvb
            obtain ⟨v0, v1⟩ := hvb
            have hwr : IntKind.u8.wrap v = v := u8_in v0 v1
            have h136 := eN_mono (show j + 1 ≤ 17 by omega)
            rw [eN, show eN 17 = 136 from rfl] at h136
            obtain ⟨E, hE⟩ : ∃ E, E = eN j + i := ⟨_, rfl⟩
            have HEX := hidd (show eix (i : Int) (j : Int) = (E : Int) by rw [eix_eN hil, hE])
            have hE136 : E < 136 := by omega
            have hEI : (E : Int) < 136 := by omega
            have HNE := hidd (show y ≠ z by omega)
            have hin : i < zs.length := by omega
            obtain ⟨x, hx⟩ := Int.eq_ofNat_of_zero_le v0
            have HBB := hidd (ptB_bys HRB.out j i)
            have HST := hidd (show ∀ w', Below wr.heap.size wr w' → (∃ old, w'.cell? ⟨w.heap.size + 1 + 1, 2 + E, none⟩ = some old) ∧ w'.frozen? ⟨w.heap.size + 1 + 1, 2 + E, none⟩ = false ∧ RelPp n k bs zs (some ⟨b, off, none⟩) r w j (i + 1) (w'.setCell ⟨w.heap.size + 1 + 1, 2 + E, none⟩ (.int .u8 v)) from by
              intro w' hw'
              obtain ⟨q1, q2, q3, q4, q5⟩ := HK2.out
              have q3' := q3.below hw' q3.lt
              have hbe := (q5.trans (hw'.mono q5.size)).setCell (p := ⟨w.heap.size + 1 + 1, 2 + E, none⟩) (by show w.heap.size ≤ w.heap.size + 1 + 1; omega) (.int .u8 v)
              refine ⟨⟨_, q3'.cell (HBB.out.cget (zs.length : Int) k hE136)⟩, q3'.fro _, (q1.below hw' q1.lt).other _ _ (by show w.heap.size ≠ w.heap.size + 1 + 1; omega), (q2.below hw' q2.lt).other _ _ (by show w.heap.size + 1 ≠ w.heap.size + 1 + 1; omega), ?_, HSL.out.below hbe (Nat.le_refl _), hbe⟩
              have s := q3'.same (2 + E) (.int .u8 v)
              rw [hx, ccells_set] at s
              rw [ptB_step, HV.out, ← hv, hx, ← hE, Int.toNat_natCast]
              exact s)
            have HVV := hidd hv.symm
            clear hc hci hcj hy hz hup hv hE hx h136
            go_wp2_with fail
            refine wp_region_last_lit 16 (fun w' => Below wr.heap.size wr w') rfl rfl (by kernel_rfl) ((Below.refl _ _).drew) (by kernel_rfl) (by kernel_rfl) (by kernel_rfl) ?_
            simp only [List.take_succ_cons, List.take_zero, List.cons_append, List.nil_append, idle]
            refine qs rfl (fun K hK => ?_)
            apply Exists.intro
            refine ⟨fun w' hw' => ?_, ?_⟩
            · (go_simp; exact rfl)
            go_simp
            refine hK _ ?_
            clear hK K
            refine qs rfl (fun K hK => ?_)
            apply Exists.intro
            refine ⟨fun w' hw' => ?_, ?_⟩
            · (go_simp; exact rfl)
            go_simp
            refine hK _ ?_
            clear hK K
            refine qs rfl (fun K hK => ?_)
            apply Exists.intro
            refine ⟨fun w' hw' => ?_, ?_⟩
            · (go_simp; exact (edge79 _ _ _ (by omega) (by omega) (by omega) (by omega)).mono fun _ _ h => ⟨by rw [h.1, HEX.out], by rw [← h.2]; exact hw'⟩)
            go_simp
            refine hK _ ?_
            clear hK K
            refine qs rfl (fun K hK => ?_)
            apply Exists.intro
            refine ⟨fun w' hw' => ?_, ?_⟩
            · (exact quietRow 28 (.tmp 2) rfl w.heap.size rfl 28 _ _ (HK2.out.1.below hw' HK2.out.1.lt) Tryd.underlying28 rfl HS.out)
            go_simp
            refine hK _ ?_
            clear hK K
            refine qs rfl (fun K hK => ?_)
            apply Exists.intro
            refine ⟨fun w' hw' => ?_, ?_⟩
            · (go_simp; exact rfl)
            go_simp
            refine hK _ ?_
            clear hK K
            refine qs rfl (fun K hK => ?_)
            apply Exists.intro
            refine ⟨fun w' hw' => ?_, ?_⟩
            · (go_simp; exact rfl)
            go_simp
            refine hK _ ?_
            clear hK K
            refine qs rfl (fun K hK => ?_)
            apply Exists.intro
            refine ⟨fun w' hw' => ?_, ?_⟩
            · (go_simp; exact rfl)
            go_simp
            refine hK _ ?_
            clear hK K
            refine qs rfl (fun K hK => ?_)
            apply Exists.intro
            refine ⟨fun w' hw' => ?_, ?_⟩
            · (have e1 := (HA.out w' hw').1; go_simp; exact rfl)
            go_simp
            refine hK _ ?_
            clear hK K
            refine qs rfl (fun K hK => ?_)
            apply Exists.intro
            refine ⟨fun w' hw' => ?_, ?_⟩
            · (go_simp; exact rfl)
            go_simp
            refine hK _ ?_
            clear hK K
            refine qs rfl (fun K hK => ?_)
            apply Exists.intro
            refine ⟨fun w' hw' => ?_, ?_⟩
            · (go_simp; exact rfl)
            go_simp
            refine hK _ ?_
            clear hK K
            refine qs rfl (fun K hK => ?_)
            apply Exists.intro
            refine ⟨fun w' hw' => ?_, ?_⟩
            · (go_simp; exact rfl)
            go_simp
            refine hK _ ?_
            clear hK K
            refine qs rfl (fun K hK => ?_)
            apply Exists.intro
            refine ⟨fun w' hw' => ?_, ?_⟩
            · (have e1 := (HA.out w' hw').2; go_simp; exact rfl)
            go_simp
            refine hK _ ?_
            clear hK K
            refine qs rfl (fun K hK => ?_)
            apply Exists.intro
            refine ⟨fun w' hw' => ?_, ?_⟩
            · (go_simp; exact (at57 n k bs hb n y z _ n2 y0 y1 z0 z1 HNE.out).mono fun _ _ h => ⟨by rw [h.1, HVV.out], hw'.trans (h.2.mono hw'.size)⟩)
            go_simp
            refine hK _ ?_
            clear hK K
            refine qs rfl (fun K hK => ?_)
            apply Exists.intro
            refine ⟨fun w' hw' => ?_, ?_⟩
            · (go_simp; exact rfl)
            go_simp
            refine hK _ ?_
            clear hK K
            refine qs rfl (fun K hK => ?_)
            apply Exists.intro
            refine ⟨fun w' hw' => ?_, ?_⟩
            · (go_simp; exact rfl)
            go_simp
            refine hK _ ?_
            clear hK K
            refine qs rfl (fun K hK => ?_)
            apply Exists.intro
            refine ⟨fun w' hw' => ?_, ?_⟩
            · (go_simp; exact rfl)
            go_simp
            refine hK _ ?_
            clear hK K
            refine qs rfl (fun K hK => ?_)
            apply Exists.intro
            refine ⟨fun w' hw' => ?_, ?_⟩
            · (go_simp; exact rfl)
            go_simp
            refine hK _ ?_
            clear hK K
            refine wpQuiet_nil ?_
            intro w' hw'
            obtain ⟨⟨old, hwE⟩, hfE, hrel'⟩ := HST.out w' hw'
            have K := hidd hrel'
            clear hrel'
            go_wp2
            go_roundw
            case rel => exact ⟨i + 1, by omega, by go_num, K.out⟩
            case measure => simp [intOf]; omega
        · have hie : i = j := by omega
          subst hie
          have HN := hidd (ptB_row r i)
          go_wp2_with fail
          go_roundw
          case rel => exact ⟨i + 1, by omega, by omega, by go_num, by have := HK2.out; unfold RelPp at this ⊢; rw [← HN.out]; exact this⟩
          case measure => simp [intOf]; omega
    · have hje : j = zs.length := by omega
      subst hje
      have HBB := hidd (ptB_bys HRB.out zs.length 0)
      have HD := hidd (ptB_done r zs.length)
      have HPS := hidd (size_c26 (zs.length : Int) k HBB.out)
      have HPO := hidd (size_cc 0 0 (zs.length : Int) k zbl_bys HBB.out)
      have HPA := hidd (ccells_one (zs.length : Int) k (ptB r zs.length 0))
      have R := hidd (And.intro HK.out.2.1 (And.intro HK.out.2.2.1 (And.intro (HK.out.2.1.rowSame (ccells (zs.length : Int) k (ptB r zs.length 0)).toArray) (below_setRow HK.out.2.2.2.2 (g := w.heap.size + 1) (by omega) (ccells (zs.length : Int) k (ptB r zs.length 0)).toArray))))
      go_wp2_with (first
        | (refine wpList_load_row rfl 28 (.tmp 5) rfl (w.heap.size + 1 + 1) rfl 28 _ (0,0) _ R.out.2.1 Tryd.underlying28 rfl HPS.out ?_)
        | (refine wpList_store_row rfl 28 (.tmp 4) (.tmp 40) rfl (w.heap.size + 1) _ rfl rfl 28 _ R.out.1 HPS.out HPO.out HPA.out ?_))
      refine bodyPost_ret (results_cell_row rfl _ _ (w.heap.size + 1) 28 _ (0,0) _ rfl R.out.2.2.1 Tryd.underlying28 rfl HPS.out) rfl ⟨by rw [HD.out], R.out.2.2.2⟩
end Go.Proofs.YtckffliiidgilaaDoor
