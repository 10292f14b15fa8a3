/- My texts Psp, Lbs, Wit, in one. -/
import Derived.Test.YtckffliiidgilaaDoorBcb
import Derived.StillTailTactics
import Derived.Test.YtckffliiidgilaaDoorBcd
import Derived.Test.YtckffliiidgilaaDoorBce
import Derived.Test.YtckffliiidgilaaDoorBcc
import Derived.ChangeVars
import Derived.LaidLaws
import Derived.Stop.ErrReads
import Derived.JoinedOf
import Derived.ChangeSame
/- PartOn: the model's part. -/
namespace Go.Proofs.YtckffliiidgilaaDoor
set_option linter.unusedVariables false
set_option linter.unusedSimpArgs false
open Go Go.RowKit Go.Shelf
set_option maxRecDepth 100000 in
set_option maxHeartbeats 4000000 in
theorem part68 (n k : Int) (bs : List Nat) (hb : Bys bs) (zs : List Int) (a : Option Addr) (cap : Nat) (w : World) (hs : SlI w a zs) (n1 : 1 ≤ n) (n2 : n ≤ 17) (hset : setB zs n = true) (h0 : 1 ≤ zs.length) :
    Calls Tryd.prog 74 #[.agg (ccells n k bs).toArray, .slice a zs.length cap] w fun e w' => e = .returned (.agg (ccells (zs.length : Int) k (paintB zs.length (fun lo hi => colAt bs (zs.getD lo 0) (zs.getD hi 0)))).toArray) ∧ Below w.heap.size w w' := by
  have HS := hidd (size_c26 n k hb)
  have Hz := zero26
  have HC1 := hidd (show (ccells n k bs).toArray[1]? = some (.int .i64 k) from rfl)
  have hlen := set_len hset (by omega)
  have h17 : zs.length ≤ 17 := by omega
  obtain ⟨r, hr⟩ : ∃ r : Nat → Nat → Int, r = fun lo hi => colAt bs (zs.getD lo 0) (zs.getD hi 0) := ⟨_, rfl⟩
  have hrb : ∀ lo hi, 0 ≤ r lo hi ∧ r lo hi < 256 := fun lo hi => by rw [hr]; exact colAt_bd hb _ _
  rw [← hr]
  have HRB := hidd hrb
  have HR := hidd hr
  have HSET := hidd hset
  have HSL := hidd hs
  have hset26 : ((ccells 0 0 zbl).set 0 (Value.int .i64 (zs.length : Int))).set 1 (Value.int .i64 k) = ccells (zs.length : Int) k zbl := rfl
  have HNS := hidd (size_c26 (zs.length : Int) k zbl_bys)
  have HNO := hidd (size_cc 0 0 (zs.length : Int) k zbl_bys zbl_bys)
  have HNA := hidd (ccells_one (zs.length : Int) k zbl)
  have hc1 := HC1.out
  clear hrb hr hset hs hlen
  go_enter Tryd.func74, Tryd.ntmps74
  go_wp2_with (first
    | (refine wpList_store_row rfl 28 (.tmp 5) (.tmp 12) rfl (w.heap.size + 1 + 1) _ rfl rfl 28 _ (Blk.new _ _ _ _ (by simp)) HNS.out HNO.out HNA.out ?_))
  clear hc1
  go_loopw [6] (fun e wr => ∃ j : Nat, 1 ≤ j ∧ j ≤ zs.length ∧ e = .int .i64 j ∧ RelPp n k bs zs a r w j 0 wr) (fun e _ => zs.length - (intOf e).toNat)
  case atStart =>
    have hb0 := (((Below.refl w.heap.size w).alloc (Nat.le_refl _) (.cells (ccells n k bs).toArray 28)).alloc (by simp) (.cells (ccells 0 0 zbl).toArray 28)).alloc (by simp; omega) (.cells (ccells 0 0 zbl).toArray 28)
    have hbe := below_setRow hb0 (g := w.heap.size + 1 + 1) (by omega) (ccells (zs.length : Int) k zbl).toArray
    exact ⟨1, by omega, h0, rfl, (((Blk.new _ _ _ _ rfl).alloc _).alloc _).rowOther _ _ (by omega), ((Blk.new _ _ _ _ (by simp)).alloc _).rowOther _ _ (by omega), (Blk.new _ _ _ _ (by simp)).rowSame _, HSL.out.below hbe (Nat.le_refl _), hbe⟩
  case round =>
    obtain ⟨j, hj1, hj, rfl, HR1⟩ := hrel
    have w0 := HR1.2.2.1.cell (j := 0) (show _ = some (Value.int .i64 (zs.length : Int)) from rfl)
    have HK := hidd HR1
    clear HR1
    by_cases hlt : j < zs.length
    · go_wp2_with fail
      clear w0
      go_loopw [7] (fun e wr => ∃ i : Nat, i ≤ j ∧ e = .int .i64 i ∧ RelPp n k bs zs a r w j i wr) (fun e _ => j - (intOf e).toNat)
      case atStart => exact ⟨0, by omega, rfl, HK.out⟩
      case round =>
        obtain ⟨i, hi, rfl, HR2⟩ := hrel
        have HK2 := hidd HR2
        clear HR2
        by_cases hil : i < j
        · rcases HK2.out.2.2.2.1 with hz | ⟨b, off, ha, hc⟩
          · subst hz; simp at h0
          · subst ha
            have hci := hc i (by omega)
            have hcj := hc j hlt
            obtain ⟨y, hy⟩ : ∃ y, y = zs.getD i 0 := ⟨_, rfl⟩
            obtain ⟨z, hz⟩ : ∃ z, z = zs.getD j 0 := ⟨_, rfl⟩
            have hup := set_up HSET.out (i := i) (j - i) (by omega)
            rw [show i + (j - i) = j by omega] at hup
            obtain ⟨y0, y1⟩ := (set_get HSET.out).1 i (by omega)
            obtain ⟨z0, z1⟩ := (set_get HSET.out).1 j hlt
            rw [← hy] at hci hup y0 y1
            rw [← hz] at hcj hup z0 z1
            have HA := hidd (fun (w' : World) (hw' : Below wr.heap.size wr w') => And.intro ((hw'.cell (block_lt_of_cell hci)).trans hci) ((hw'.cell (block_lt_of_cell hcj)).trans hcj))
            have HV := hidd (show r i j = colAt bs y z by rw [HR.out, hy, hz])
            obtain ⟨v, hv⟩ : ∃ v, v = colAt bs y z := ⟨_, rfl⟩
            have hvb := HRB.out i j
            rw [HV.out, ← hv] at hvb
            obtain ⟨v0, v1⟩ := hvb
            have hwr : IntKind.u8.wrap v = v := u8_in v0 v1
            have h136 := eN_mono (show j + 1 ≤ 17 by omega)
            rw [eN, show eN 17 = 136 from rfl] at h136
            obtain ⟨E, hE⟩ : ∃ E, E = eN j + i := ⟨_, rfl⟩
            have HEX := hidd (show eix (i : Int) (j : Int) = (E : Int) by rw [eix_eN hil, hE])
            have hE136 : E < 136 := by omega
            have hEI : (E : Int) < 136 := by omega
            have HNE := hidd (show y ≠ z by omega)
            have hin : i < zs.length := by omega
            obtain ⟨x, hx⟩ := Int.eq_ofNat_of_zero_le v0
            have HBB := hidd (ptB_bys HRB.out j i)
            have HST := hidd (show ∀ w', Below wr.heap.size wr w' → (∃ old, w'.cell? ⟨w.heap.size + 1 + 1, 2 + E, none⟩ = some old) ∧ w'.frozen? ⟨w.heap.size + 1 + 1, 2 + E, none⟩ = false ∧ RelPp n k bs zs (some ⟨b, off, none⟩) r w j (i + 1) (w'.setCell ⟨w.heap.size + 1 + 1, 2 + E, none⟩ (.int .u8 v)) from by
              intro w' hw'
              obtain ⟨q1, q2, q3, q4, q5⟩ := HK2.out
              have q3' := q3.below hw' q3.lt
              have hbe := (q5.trans (hw'.mono q5.size)).setCell (p := ⟨w.heap.size + 1 + 1, 2 + E, none⟩) (by show w.heap.size ≤ w.heap.size + 1 + 1; omega) (.int .u8 v)
              refine ⟨⟨_, q3'.cell (HBB.out.cget (zs.length : Int) k hE136)⟩, q3'.fro _, (q1.below hw' q1.lt).other _ _ (by show w.heap.size ≠ w.heap.size + 1 + 1; omega), (q2.below hw' q2.lt).other _ _ (by show w.heap.size + 1 ≠ w.heap.size + 1 + 1; omega), ?_, HSL.out.below hbe (Nat.le_refl _), hbe⟩
              have s := q3'.same (2 + E) (.int .u8 v)
              rw [hx, ccells_set] at s
              rw [ptB_step, HV.out, ← hv, hx, ← hE, Int.toNat_natCast]
              exact s)
            have HVV := hidd hv.symm
            clear hc hci hcj hy hz hup hv hE hx h136
            go_wp2_with fail
            refine wp_region_last_lit 16 (fun w' => Below wr.heap.size wr w') rfl rfl (by kernel_rfl) ((Below.refl _ _).drew) (by kernel_rfl) (by kernel_rfl) (by kernel_rfl) ?_
            simp only [List.take_succ_cons, List.take_zero, List.cons_append, List.nil_append, idle]
            refine qs rfl (fun K hK => ?_)
            apply Exists.intro
            refine ⟨fun w' hw' => ?_, ?_⟩
            · (go_simp; exact rfl)
            go_simp
            refine hK _ ?_
            clear hK K
            refine qs rfl (fun K hK => ?_)
            apply Exists.intro
            refine ⟨fun w' hw' => ?_, ?_⟩
            · (go_simp; exact rfl)
            go_simp
            refine hK _ ?_
            clear hK K
            refine qs rfl (fun K hK => ?_)
            apply Exists.intro
            refine ⟨fun w' hw' => ?_, ?_⟩
            · (go_simp; exact (edge79 _ _ _ (by omega) (by omega) (by omega) (by omega)).mono fun _ _ h => ⟨by rw [h.1, HEX.out], by rw [← h.2]; exact hw'⟩)
            go_simp
            refine hK _ ?_
            clear hK K
            refine qs rfl (fun K hK => ?_)
            apply Exists.intro
            refine ⟨fun w' hw' => ?_, ?_⟩
            · (exact quietRow 28 (.tmp 2) rfl w.heap.size rfl 28 _ _ (HK2.out.1.below hw' HK2.out.1.lt) Tryd.underlying28 rfl HS.out)
            go_simp
            refine hK _ ?_
            clear hK K
            refine qs rfl (fun K hK => ?_)
            apply Exists.intro
            refine ⟨fun w' hw' => ?_, ?_⟩
            · (go_simp; exact rfl)
            go_simp
            refine hK _ ?_
            clear hK K
            refine qs rfl (fun K hK => ?_)
            apply Exists.intro
            refine ⟨fun w' hw' => ?_, ?_⟩
            · (go_simp; exact rfl)
            go_simp
            refine hK _ ?_
            clear hK K
            refine qs rfl (fun K hK => ?_)
            apply Exists.intro
            refine ⟨fun w' hw' => ?_, ?_⟩
            · (go_simp; exact rfl)
            go_simp
            refine hK _ ?_
            clear hK K
            refine qs rfl (fun K hK => ?_)
            apply Exists.intro
            refine ⟨fun w' hw' => ?_, ?_⟩
            · (have e1 := (HA.out w' hw').1; go_simp; exact rfl)
            go_simp
            refine hK _ ?_
            clear hK K
            refine qs rfl (fun K hK => ?_)
            apply Exists.intro
            refine ⟨fun w' hw' => ?_, ?_⟩
            · (go_simp; exact rfl)
            go_simp
            refine hK _ ?_
            clear hK K
            refine qs rfl (fun K hK => ?_)
            apply Exists.intro
            refine ⟨fun w' hw' => ?_, ?_⟩
            · (go_simp; exact rfl)
            go_simp
            refine hK _ ?_
            clear hK K
            refine qs rfl (fun K hK => ?_)
            apply Exists.intro
            refine ⟨fun w' hw' => ?_, ?_⟩
            · (go_simp; exact rfl)
            go_simp
            refine hK _ ?_
            clear hK K
            refine qs rfl (fun K hK => ?_)
            apply Exists.intro
            refine ⟨fun w' hw' => ?_, ?_⟩
            · (have e1 := (HA.out w' hw').2; go_simp; exact rfl)
            go_simp
            refine hK _ ?_
            clear hK K
            refine qs rfl (fun K hK => ?_)
            apply Exists.intro
            refine ⟨fun w' hw' => ?_, ?_⟩
            · (go_simp; exact (at57 n k bs hb n y z _ n2 y0 y1 z0 z1 HNE.out).mono fun _ _ h => ⟨by rw [h.1, HVV.out], hw'.trans (h.2.mono hw'.size)⟩)
            go_simp
            refine hK _ ?_
            clear hK K
            refine qs rfl (fun K hK => ?_)
            apply Exists.intro
            refine ⟨fun w' hw' => ?_, ?_⟩
            · (go_simp; exact rfl)
            go_simp
            refine hK _ ?_
            clear hK K
            refine qs rfl (fun K hK => ?_)
            apply Exists.intro
            refine ⟨fun w' hw' => ?_, ?_⟩
            · (go_simp; exact rfl)
            go_simp
            refine hK _ ?_
            clear hK K
            refine qs rfl (fun K hK => ?_)
            apply Exists.intro
            refine ⟨fun w' hw' => ?_, ?_⟩
            · (go_simp; exact rfl)
            go_simp
            refine hK _ ?_
            clear hK K
            refine qs rfl (fun K hK => ?_)
            apply Exists.intro
            refine ⟨fun w' hw' => ?_, ?_⟩
            · (go_simp; exact rfl)
            go_simp
            refine hK _ ?_
            clear hK K
            refine wpQuiet_nil ?_
            intro w' hw'
            obtain ⟨⟨old, hwE⟩, hfE, hrel'⟩ := HST.out w' hw'
            have K := hidd hrel'
            clear hrel'
            go_wp2
            go_roundw
            case rel => exact ⟨i + 1, by omega, by go_num, K.out⟩
            case measure => simp [intOf]; omega
        · have hie : i = j := by omega
          subst hie
          have HN := hidd (ptB_row r i)
          go_wp2_with fail
          go_roundw
          case rel => exact ⟨i + 1, by omega, by omega, by go_num, by have := HK2.out; unfold RelPp at this ⊢; rw [← HN.out]; exact this⟩
          case measure => simp [intOf]; omega
    · have hje : j = zs.length := by omega
      subst hje
      have HBB := hidd (ptB_bys HRB.out zs.length 0)
      have HD := hidd (ptB_done r zs.length)
      have HPS := hidd (size_c26 (zs.length : Int) k HBB.out)
      have HPO := hidd (size_cc 0 0 (zs.length : Int) k zbl_bys HBB.out)
      have HPA := hidd (ccells_one (zs.length : Int) k (ptB r zs.length 0))
      have R := hidd (And.intro HK.out.2.1 (And.intro HK.out.2.2.1 (And.intro (HK.out.2.1.rowSame (ccells (zs.length : Int) k (ptB r zs.length 0)).toArray) (below_setRow HK.out.2.2.2.2 (g := w.heap.size + 1) (by omega) (ccells (zs.length : Int) k (ptB r zs.length 0)).toArray))))
      go_wp2_with (first
        | (refine wpList_load_row rfl 28 (.tmp 5) rfl (w.heap.size + 1 + 1) rfl 28 _ (0,0) _ R.out.2.1 Tryd.underlying28 rfl HPS.out ?_)
        | (refine wpList_store_row rfl 28 (.tmp 4) (.tmp 40) rfl (w.heap.size + 1) _ rfl rfl 28 _ R.out.1 HPS.out HPO.out HPA.out ?_))
      refine bodyPost_ret (results_cell_row rfl _ _ (w.heap.size + 1) 28 _ (0,0) _ rfl R.out.2.2.1 Tryd.underlying28 rfl HPS.out) rfl ⟨by rw [HD.out], R.out.2.2.2⟩
end Go.Proofs.YtckffliiidgilaaDoor
/- LongestBeginning: the model. -/
namespace Go.Proofs.YtckffliiidgilaaDoor
set_option linter.unusedVariables false
set_option linter.unusedSimpArgs false
open Go Go.RowKit Go.Shelf
/-- The numbers below m. -/
def upL (m : Nat) : List Int := (List.range m).map fun (i : Nat) => (i : Int)
theorem upL_len (m : Nat) : (upL m).length = m := by simp [upL]
theorem upL_get {m j : Nat} (h : j < m) : (upL m).getD j 0 = (j : Int) := by simp [upL, List.getD, h]
theorem upL_snoc (m : Nat) : upL (m + 1) = upL m ++ [(m : Int)] := by simp [upL, List.range_succ]
theorem upL_nbK (m : Nat) : upL m = nbK (fun _ => true) m := by
  induction m with
  | zero => rfl
  | succ m ih => rw [upL_snoc, ih]; simp [nbK]
theorem upL_set {m N : Nat} (h : m ≤ N) : setB (upL m) (N : Int) = true := by
  have h1 := nbK_set (fun _ => true) (N := m) (n := (m : Int)) rfl
  rw [← upL_nbK] at h1
  unfold setB at h1 ⊢
  rw [Bool.and_eq_true] at h1 ⊢
  refine ⟨h1.1, allB_yes fun j hj => ?_⟩
  have := allB_get h1.2 hj
  exact inB_yes (by omega) (by omega)
theorem colAt_paint {M : Nat} {bs : List Nat} (hb : Bys bs) (hM : M ≤ 17) {lo hi : Nat} (h1 : lo < hi) (h2 : hi < M) : colAt (paintB M fun l h => colAt bs ((upL M).getD l 0) ((upL M).getD h 0)) (lo : Int) (hi : Int) = colAt bs (lo : Int) (hi : Int) := by
  have e : (paintB M fun l h => colAt bs ((upL M).getD l 0) ((upL M).getD h 0)) = paintB M fun l h => (fun x => x) (colAt bs (l : Int) (h : Int)) :=
    paint_congr fun l h h3 h4 => by rw [upL_get (by omega), upL_get h4]
  have e2 := paint_turn hM (fun x => x) bs
  rw [e, e2, colAt_eN _ h1, colAt_eN _ h1]
  have hed := eN_edg hi
  have hed2 := eN_edg M
  have hm := edg_mono (a := (hi : Int) + 1) (b := (M : Int)) (by omega) (by omega)
  have hs := edg_step (hi : Int)
  have hb2 := edg_bd (n := (M : Int)) (by omega) (by omega)
  have hlt : eN hi + lo < eN M := by omega
  have h136 : eN hi + lo < 136 := by omega
  rw [putK_get (by rw [zbl_len]; exact h136), if_pos hlt, turnL_get h136, Int.toNat_natCast]
theorem nbB_self (bs : List Nat) (c : Int) (p : Nat) : nbB bs (p : Int) c p = false := by unfold nbB; simp
theorem avP_paint {M : Nat} {bs : List Nat} (hb : Bys bs) (hM : M ≤ 17) (zs : List Int) (K : Nat) : avP M (paintB M fun l h => colAt bs ((upL M).getD l 0) ((upL M).getD h 0)) zs K = avP M bs zs K := by
  obtain ⟨pb, hpb⟩ : ∃ pb, pb = paintB M fun l h => colAt bs ((upL M).getD l 0) ((upL M).getD h 0) := ⟨_, rfl⟩
  have hcol : ∀ lo hi, lo < hi → hi < M → colAt pb (lo : Int) (hi : Int) = colAt bs (lo : Int) (hi : Int) := fun lo hi h1 h2 => by rw [hpb]; exact colAt_paint hb hM h1 h2
  rw [← hpb]
  have hR : ∀ (c : Int) p, p < M → rwN pb c M p = rwN bs c M p := fun c p hp => by
    apply Nat.eq_of_testBit_eq
    intro q
    unfold rwN
    rw [arK_bit, arK_bit]
    by_cases hq : q < M
    · by_cases e : p = q
      · subst e; rw [nbB_self, nbB_self]
      · rw [nbB_ne e, nbB_ne e]
        rcases Nat.lt_or_gt_of_ne e with h | h
        · rw [hcol p q h hq]
        · have e1 : colAt pb (p : Int) (q : Int) = colAt pb (q : Int) (p : Int) := by unfold colAt; rw [eix_comm (by omega)]
          have e2 : colAt bs (p : Int) (q : Int) = colAt bs (q : Int) (p : Int) := by unfold colAt; rw [eix_comm (by omega)]
          rw [e1, e2, hcol q p h hp]
    · rw [decide_eq_false hq]; rfl
  unfold avP
  congr 1
  funext c
  rw [clqL_has, clqL_has, hasK_congr (F := 0) (hR (c : Int))]
def RelLb (C : Array Value) (w : World) (m : Nat) (v : Value) (wr : World) : Prop :=
  wr.ownsRow (w.heap.size + 1) 2 1 v (upL m).length (icells (upL m)) ∧ Blk wr w.heap.size C 28 ∧ Below w.heap.size w wr
set_option maxRecDepth 100000 in
set_option maxHeartbeats 4000000 in
theorem spec40 (n k : Int) (bs : List Nat) (hb : Bys bs) (zs : List Int) (a : Option Addr) (cap : Nat) (w : World) (hs : SlI w a zs) (hl : zs.length ≤ 1048576) :
    Calls Tryd.prog 40 #[.agg (ccells n k bs).toArray, .slice a zs.length cap] w fun e w' => e = .returned (.tuple #[.int .i64 (lgV n k bs zs), .int .i64 (szCode n k bs zs)]) ∧ Below w.heap.size w w' := by
  have HS := hidd (size_c26 n k hb)
  have HSL := hidd hs
  have HCO := hidd (fun W h => code42 n k bs hb zs a cap W h hl)
  have HC0 := hidd (show (ccells n k bs).toArray[0]? = some (.int .i64 n) from rfl)
  have HG := hidd (And.intro (Blk.new w (ccells n k bs).toArray 28 _ rfl) ((Below.refl w.heap.size w).alloc (Nat.le_refl _) (.cells (ccells n k bs).toArray 28)))
  obtain ⟨t0, hi2, hz0, hz1, hz3⟩ := info_parts info2
  have HIF := hidd (And.intro hi2 (And.intro hz0 (And.intro hz1 hz3)))
  clear hi2 hz0 hz1 hz3
  obtain ⟨cd, hcd⟩ : ∃ cd, cd = szCode n k bs zs := ⟨_, rfl⟩
  rw [← hcd] at HCO ⊢
  clear hs
  by_cases h0 : cd = 0
  · have hc0 := hcd.symm.trans h0
    obtain ⟨hi, ho⟩ := szCode_ok hc0
    obtain ⟨n1, n2, k1, k2⟩ := isCol_bd hi
    obtain ⟨hlk, hsp⟩ := szOk_bd ho
    obtain ⟨N, rfl⟩ := Int.eq_ofNat_of_zero_le (show 0 ≤ n by omega)
    obtain ⟨K, rfl⟩ := Int.eq_ofNat_of_zero_le (show 0 ≤ k by omega)
    have hlK : zs.length = K := by omega
    have hv : lgV (N : Int) (K : Int) bs zs = (lbN N bs zs K : Int) := by unfold lgV; rw [if_pos hc0]; rfl
    rw [hv, hlK]
    rw [hlK] at HCO hsp
    have HSP := hidd hsp
    have HLK := hidd hlK
    have hN17 : N ≤ 17 := by omega
    have hK4 : K ≤ 4 := by omega
    have hN1 : 1 ≤ N := by omega
    clear hv hcd hc0 hi ho hlk hsp hlK hl
    subst h0
    go_enter Tryd.func40, Tryd.ntmps40
    obtain ⟨W0, hW0⟩ : ∃ W0, W0 = w.alloc (.cells (ccells (N : Int) (K : Int) bs).toArray 28) := ⟨_, rfl⟩
    rw [← hW0] at HG
    go_upto_region 1 with fail
    rw [← hW0]
    clear hW0
    go_wp2_with (refine wpList_load_row rfl 28 (.tmp 2) rfl w.heap.size rfl 28 _ (0,0) _ HG.out.1 Tryd.underlying28 rfl HS.out ?_)
    refine (HCO.out _ (HSL.out.below HG.out.2 (Nat.le_refl _))).mono ?_
    rintro e w1 ⟨rfl, hb1⟩
    have g1 := HG.out.1.below hb1 HG.out.1.lt
    have g2 := HG.out.2.trans (hb1.mono HG.out.2.size)
    have G := hidd (show RelLb (ccells (N : Int) (K : Int) bs).toArray w 0 (.slice (some ⟨w1.heap.size, 0, none⟩) 0 0) (w1.alloc (.cells #[] 2)) from
      ⟨⟨rfl, .inr ⟨w1.heap.size, 0, #[], rfl, g1.lt, Blk.new _ _ _ _ rfl, Nat.le_refl _, by simp [maxLen], rfl, rfl⟩⟩, g1.alloc _, g2.alloc g2.size _⟩)
    clear hb1 g1 g2
    go_wp2_with fail
    go_loopw [7, 8] (fun v e wr => ∃ m : Nat, m ≤ N ∧ e = .int .i64 (m : Int) ∧ Hid ((∀ j, j < m → lbP bs zs K j = false) ∧ RelLb (ccells (N : Int) (K : Int) bs).toArray w m v wr)) (fun _ e _ => N - (intOf e).toNat)
    case atStart => exact ⟨0, Nat.zero_le _, rfl, fun j hj => by omega, G.out⟩
    case round =>
      obtain ⟨m, hm, rfl, HK⟩ := hrel
      have c0 := HK.out.2.2.1.cell HC0.out
      by_cases hlt : m < N
      · have hltI : decide ((m : Int) < (N : Int)) = true := by simp; omega
        obtain ⟨av, cv, rfl, _⟩ := own_list HK.out.2.1
        have hml := upL_len m
        have HA := hidd (own_below HK.out.2.1 ((Below.refl wr.heap.size wr).alloc (Nat.le_refl _) (.cells #[.int .i64 (m : Int)] 2)) (Nat.le_refl _))
        go_wp2_with (at_builtin; refine wpList_append_own _ rfl _ _ 25 rfl (w.heap.size + 1) 2 t0 (.int .i64 0) 1 8 Tryd.underlying25 HIF.out.1 HIF.out.2.1 HIF.out.2.2.1 HIF.out.2.2.2 rfl (by decide) _ _ _ rfl HA.out ⟨wr.heap.size, 0, none⟩ 1 1 [.int .i64 (m : Int)] rfl rfl ?c1 ?c2 ?c3 ?c4 ?c5 ?_)
        case c1 => exact one_new _ _ _
        case c2 => intro u hu; simp at hu; subst hu; rfl
        case c3 => unfold maxLen; omega
        case c4 => omega
        case c5 => have := HK.out.2.2.1.lt; simp; omega
        intro v' Y hown' hgrow _
        have hL2 : m + 1 = (upL (m + 1)).length := by rw [upL_len]
        have hX2 : icells (upL m) ++ [.int .i64 (m : Int)] = icells (upL (m + 1)) := by rw [upL_snoc, icells_app]; rfl
        rw [hX2] at hown'
        have hown2 : Y.ownsRow (w.heap.size + 1) 2 1 v' (upL (m + 1)).length (icells (upL (m + 1))) := by rw [← hL2]; exact hown'
        clear hown'
        have hown' := hown2
        clear hown2
        obtain ⟨aN, cN, rfl, hO⟩ := own_list hown'
        have hbA : Below wr.heap.size wr (wr.alloc (.cells #[.int .i64 (m : Int)] 2)) := (Below.refl wr.heap.size wr).alloc (Nat.le_refl _) _
        have hlt0 := HK.out.2.2.1.lt
        have hbY : Below (w.heap.size + 1) (wr.alloc (.cells #[.int .i64 (m : Int)] 2)) Y := grown_plain HA.out (by rw [hml]; exact hgrow) (by simp; omega)
        have k1 : Blk Y w.heap.size (ccells (N : Int) (K : Int) bs).toArray 28 := (HK.out.2.2.1.below hbA HK.out.2.2.1.lt).below hbY (by omega)
        have k2 : Below w.heap.size w Y := (HK.out.2.2.2.trans (hbA.mono HK.out.2.2.2.size)).trans (hbY.mono (by omega))
        have hlm1 := upL_len (m + 1)
        have HPS := hidd (fun W h => part68 (N : Int) (K : Int) bs hb (upL (m + 1)) aN cN W h (by omega) (by omega) (upL_set (by omega)) (by omega))
        have hpb : Bys (paintB (m + 1) fun lo hi => colAt bs ((upL (m + 1)).getD lo 0) ((upL (m + 1)).getD hi 0)) := paintB_bys fun lo hi => colAt_bd hb _ _
        have hpv := avP_paint (M := m + 1) hb (by omega) zs K
        rw [hlm1] at HPS
        have hO1 := hO.sl
        rw [hlm1] at hown'
        obtain ⟨pb, hpe⟩ : ∃ pb, pb = paintB (m + 1) fun lo hi => colAt bs ((upL (m + 1)).getD lo 0) ((upL (m + 1)).getD hi 0) := ⟨_, rfl⟩
        rw [← hpe] at HPS hpb hpv
        have HAV := hidd (fun W h => avoids44 (m + 1) K pb hpb zs a cap W h HLK.out (by omega) (by omega) (by omega) HSP.out)
        rw [hpv] at HAV
        obtain ⟨v, hve⟩ : ∃ v, v = avP (m + 1) bs zs K := ⟨_, rfl⟩
        rw [← hve] at HAV
        obtain ⟨P2, hP2⟩ : ∃ P2, P2 = (ccells ((m + 1 : Nat) : Int) (K : Int) pb).toArray := ⟨_, rfl⟩
        rw [← hP2] at HPS HAV
        have HY := hidd (And.intro k1 (And.intro k2 (And.intro hown' hO1)))
        have HVE := hidd hve
        rw [hlm1]
        clear hL2 hX2 hown' hgrow hO hbA hbY k1 k2 hpb hpv hpe hve hP2 hO1 hlm1 c0
        go_wp2_with (refine wpList_load_row rfl 28 (.tmp 2) rfl w.heap.size rfl 28 _ (0,0) _ HY.out.1 Tryd.underlying28 rfl HS.out ?_)
        refine (HPS.out _ HY.out.2.2.2).mono ?_
        rintro e w5 ⟨rfl, hb5⟩
        have L5 := hidd (And.intro (HY.out.1.below hb5 HY.out.1.lt) (And.intro (HY.out.2.1.trans (hb5.mono HY.out.2.1.size)) (own_below HY.out.2.2.1 hb5 (Nat.le_refl _))))
        clear hb5
        go_wp2_with fail
        refine (HAV.out _ (HSL.out.below L5.out.2.1 (Nat.le_refl _))).mono ?_
        rintro e w6 ⟨rfl, hb6⟩
        have L6 := hidd (And.intro (L5.out.1.below hb6 L5.out.1.lt) (And.intro (L5.out.2.1.trans (hb6.mono L5.out.2.1.size)) (own_below L5.out.2.2 hb6 (Nat.le_refl _))))
        clear hb6
        cases v with
        | true =>
          have HP := hidd (show lbP bs zs K m = false by unfold lbP; rw [← HVE.out]; rfl)
          go_wp2_with fail
          go_roundw
          case rel => exact ⟨m + 1, by omega, by go_num, fun j hj => by
              by_cases e : j = m
              · subst e; exact HP.out
              · exact HK.out.1 j (by omega), by
              unfold RelLb
              rw [upL_len]
              exact ⟨L6.out.2.2, L6.out.1, L6.out.2.1⟩⟩
          case measure => simp [intOf]; omega
        | false =>
          have HE := hidd (show lbN N bs zs K = m from fst_eq hlt (show lbP bs zs K m = true by unfold lbP; rw [← HVE.out]; rfl) HK.out.1)
          go_wp2_with fail
          go_ret2
          exact ⟨by rw [HE.out]; rfl, L6.out.2.1⟩
      · have hltI : decide ((m : Int) < (N : Int)) = false := by simp; omega
        have hme : m = N := by omega
        have HE := hidd (show lbN N bs zs K = N from fst_none (by rw [← hme]; exact HK.out.1))
        clear hme
        go_wp2_with fail
        go_ret2
        exact ⟨by rw [HE.out]; rfl, HK.out.2.2.2⟩
  · have hv : lgV n k bs zs = 0 := by unfold lgV; rw [if_neg (by rw [← hcd]; exact h0)]
    have hnz : (cd != 0) = true := by rw [bne_iff_ne]; exact h0
    rw [hv]
    clear hv hcd
    go_enter Tryd.func40, Tryd.ntmps40
    go_wp2_with (refine wpList_load_row rfl 28 (.tmp 2) rfl w.heap.size rfl 28 _ (0,0) _ (Blk.new _ _ _ _ rfl) Tryd.underlying28 rfl HS.out ?_)
    refine (HCO.out _ (HSL.out.below HG.out.2 (Nat.le_refl _))).mono ?_
    rintro e w1 ⟨rfl, hb1⟩
    have g2 := hidd (HG.out.2.trans (hb1.mono HG.out.2.size))
    clear hb1
    go_wp2_with fail
    go_ret2
    exact ⟨rfl, g2.out⟩
end Go.Proofs.YtckffliiidgilaaDoor
/- The listed variable: a world that holds it, and its reading before and behind a call. -/
namespace Go.Proofs.YtckffliiidgilaaDoor
set_option linter.unusedVariables false
set_option linter.unusedSimpArgs false
open Go Go.RowKit Go.ChangeShapes Go.WideShapes Go.ChangeAt
abbrev errS : ByteArray := { data := #[116, 104, 101, 32, 108, 105, 115, 116, 32, 105, 115, 32, 110, 111, 32, 115, 105, 122, 101, 115, 32, 102, 111, 114, 32, 116, 104, 101, 32, 99, 111, 108, 111, 117, 114, 115, 32, 116, 111, 108, 100] }
noncomputable def low : Nat := (World.holding Tryd.prog default ⟨#[], #[], []⟩).heap.size
noncomputable def laidWorld (os : Os) : World :=
  let w0 := World.holding Tryd.prog os ⟨#[.cells #[.string errS] 172], #[], []⟩
  { w0 with heap := w0.heap.modify 0 fun
      | .cells _ t frozen => .cells #[.iface 147 (.pointer (some ⟨low, 0, none⟩))] t frozen
      | o => o }
theorem laid_met (os : Os) (args : Array Value) : laidMet Tryd.prog [("loop.example/g01362/impl.errNoSizes", Rows.laid_loop_example_g01362_impl_errNoSizes)] ((laidWorld os).forCall (fun _ _ => 0) ⟨#[], args, []⟩).memory :=
  laidMet_of_run (ps := [.cell 0 0, .cell low 0]) 8 (by kernel_rfl) (by kernel_rfl) (by kernel_rfl)
theorem var_below {n : String} {W W' : World} {cs : Array Value} (hb : Below W.heap.size W W') (h : W.var? Tryd.prog n = some cs) : W'.var? Tryd.prog n = some cs := by
  unfold World.var? at h ⊢
  cases hg : Tryd.prog.globalNamed n with
  | none => simp [hg] at h
  | some g =>
    simp only [hg, Option.bind_some] at h ⊢
    have hlt : g < W.heap.size := by
      rcases Nat.lt_or_ge g W.heap.size with h' | h'
      · exact h'
      · simp [Array.getElem?_eq_none h'] at h
    rw [hb.block g hlt]
    exact h
theorem vars_read {H : Type} (enc : TypeId × Value → H) {W : World} {x0 : Value} (h0 : W.var? Tryd.prog "loop.example/g01362/impl.errNoSizes" = some #[x0]) (i0 : IsIface x0) (sp : Nat → Bool) :
    DataW.TrodVars enc Tryd.prog W sp ["loop.example/g01362/impl.errNoSizes"] [tok enc x0] [.cell 0 0] :=
  ⟨0, 107, #[x0], 1, [], [], gErr, gErrT, h0, trod_held Tryd.underlying107 i0 0, rfl, rfl⟩
theorem er_of2 {W : World} (h : laidMetH Tryd.prog [("loop.example/g01362/impl.errNoSizes", Rows.laid_loop_example_g01362_impl_errNoSizes)] W) : ∃ a, Er W a ∧ W.var? Tryd.prog "loop.example/g01362/impl.errNoSizes" = some #[.iface 147 (.pointer (some a))] := by
  obtain ⟨a, s, hv, _, _, _⟩ := laid_sentinel (r := []) (nm := "*errors.errorString") h gErr gErrT Tryd.underlying107 rowErr Tryd.underlying147 Tryd.underlying172 rfl rfl Tryd.underlying9 (by kernel_rfl) (by kernel_rfl)
  exact ⟨a, World.var?_cell gErr hv 0, hv⟩
end Go.Proofs.YtckffliiidgilaaDoor
