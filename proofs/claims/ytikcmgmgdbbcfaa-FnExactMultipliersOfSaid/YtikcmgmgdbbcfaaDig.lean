/- Colourings that a list tells by differences: the program and the model. -/
import Derived.Test.YtikcmgmgdbbcfaaDiffSp
namespace Go.Proofs.Ytikcmgmgdbbcfaa
set_option linter.unusedVariables false
set_option linter.unusedSimpArgs false
open Go Go.RowKit Go.Shelf
theorem i64_xor_nat (a b : Nat) (ha : a < 4611686018427387904) (hb : b < 4611686018427387904) : bits .xor .i64 (a : Int) (b : Int) = ((a ^^^ b : Nat) : Int) := by
  have hx : a ^^^ b < 2 ^ 62 := Nat.xor_lt_two_pow (by omega) (by omega)
  show IntKind.i64.wrap ((BitVec.ofInt 64 (a : Int) ^^^ BitVec.ofInt 64 (b : Int)).toNat : Int) = _
  rw [BitVec.toNat_xor, ofInt_i64 a (by omega), ofInt_i64 b (by omega)]
  exact IntWalk.i64_in _ (by omega)
theorem xor_bd {lo hi : Nat} (h1 : lo < hi) (h2 : hi < 16) : 1 ≤ lo ^^^ hi ∧ lo ^^^ hi ≤ 15 := by
  have h3 : lo ^^^ hi < 2 ^ 4 := Nat.xor_lt_two_pow (by omega) (by omega)
  have h4 : lo ^^^ hi ≠ 0 := fun h => by
    have h5 : (lo ^^^ hi) ^^^ hi = 0 ^^^ hi := by rw [h]
    rw [Nat.xor_assoc, Nat.xor_self, Nat.xor_zero, Nat.zero_xor] at h5
    omega
  omega
set_option maxRecDepth 100000 in
set_option maxHeartbeats 1000000 in
theorem rule90 (L : List Int) (b0 : Nat) (W : World) (hL : L.length = 15) (hC : Blk W b0 (icells L).toArray 52) (lo hi : Nat) (h1 : lo < hi) (h3 : hi < 16) :
    Calls Try.prog 90 #[.int .i64 (lo : Int), .int .i64 (hi : Int), .pointer (some ⟨b0, 0, none⟩)] W fun e W' => e = .returned (.int .i64 (L.getD ((lo ^^^ hi) - 1) 0)) ∧ Below W.heap.size W W' := by
  obtain ⟨hd1, hd2⟩ := xor_bd h1 h3
  have hx := i64_xor_nat lo hi (by omega) (by omega)
  obtain ⟨D, hD⟩ : ∃ D, D = lo ^^^ hi := ⟨_, rfl⟩
  rw [← hD] at hd1 hd2 hx ⊢
  have cL := hC.cell (icells_get (zs := L) (j := D - 1) (by omega))
  obtain ⟨v, hv⟩ : ∃ v, v = L.getD (D - 1) 0 := ⟨_, rfl⟩
  rw [← hv] at cL ⊢
  obtain ⟨E, rfl⟩ : ∃ E, D = E + 1 := ⟨D - 1, by omega⟩
  rw [Nat.add_sub_cancel] at cL
  have hE15 : (E : Int) < 15 := by omega
  rw [Int.natCast_add] at hx
  clear hD hv hC hd1 hd2
  go_enter Try.func90, Try.ntmps90
  go_wp2_with fail
  go_ret
  exact ⟨rfl, Below.refl _ _⟩
theorem ruleOf90 (L : List Int) (b0 N : Nat) (w : World) (hL : L.length = 15) (hC : Blk w b0 (icells L).toArray 52) (n2 : N ≤ 16) :
    Rule N 90 #[.pointer (some ⟨b0, 0, none⟩)] (fun lo hi => L.getD ((lo ^^^ hi) - 1) 0) w := by
  intro x W hbl
  obtain ⟨hx1, hx2, hx3⟩ := x.2
  exact rule90 L b0 W hL (hC.below hbl hC.lt) x.1.2.1 x.1.2.2 hx2 (by omega)
set_option maxRecDepth 100000 in
set_option maxHeartbeats 2000000 in
theorem dig51 (L : List Int) (N : Nat) (k : Int) (w : World) (hL : L.length = 15) (n1 : 1 ≤ N) (n2 : N ≤ 16) (hr : ∀ j, 0 ≤ L.getD j 0 ∧ L.getD j 0 < 256) :
    Calls Try.prog 51 #[.int .i64 (N : Int), .int .i64 k, .agg (icells L).toArray] w fun e w' => e = .returned (.agg (ccells (N : Int) k (paintB N (fun lo hi => L.getD ((lo ^^^ hi) - 1) 0))).toArray) ∧ Below w.heap.size w w' := by
  have Hz := zero26
  have hmf : ∀ (fn : Fn) (first cap : Array Value) (w : World), (Instr.makeFunc fn first cap).run Try.prog w = .ok (.func fn first cap) w := fun _ _ _ _ => rfl
  obtain ⟨r, hrr⟩ : ∃ r : Nat → Nat → Int, r = fun (lo hi : Nat) => L.getD ((lo ^^^ hi) - 1) 0 := ⟨_, rfl⟩
  rw [← hrr]
  have HR := hidd hrr
  have HRB := hidd (show ∀ lo hi, 0 ≤ r lo hi ∧ r lo hi < 256 from fun lo hi => by rw [hrr]; exact hr _)
  have HPB := hidd (paintB_bys (N := N) HRB.out)
  have HPS := hidd (size_c26 (N : Int) k HPB.out)
  have HPO := hidd (size_cc 0 0 (N : Int) k zbl_bys HPB.out)
  have HPA := hidd (ccells_one (N : Int) k (paintB N r))
  have HRO := hidd (fun b0 W h1 => ruleOf90 L b0 N W hL h1 n2)
  obtain ⟨C, hC⟩ : ∃ C, C = (icells L).toArray := ⟨_, rfl⟩
  rw [← hC] at HRO ⊢
  clear hrr hr hC hL
  go_enter Try.func51, Try.ntmps51
  go_wp2_with fail
  have hW : ∀ W, W = ((w.alloc (.cells C 52)).alloc (.cells (ccells 0 0 zbl).toArray 25)) →
      Blk W w.heap.size C 52 ∧ Blk W (w.heap.size + 1) (ccells 0 0 zbl).toArray 25 ∧ Below w.heap.size w W := by
    rintro W rfl
    exact ⟨(Blk.new _ _ _ _ (by simp)).alloc _, Blk.new _ _ _ _ (by simp), ((Below.refl _ _).alloc (Nat.le_refl _) _).alloc (by simp) _⟩
  have HW := hidd (hW _ rfl)
  clear hW
  refine (paint52 N k 90 _ r _ n1 (by omega) (fun x => HRB.out _ _) (enters_of Try.func90 (by kernel_rfl) rfl) (by rw [HR.out]; exact HRO.out _ _ HW.out.1)).mono ?_
  rintro e w1 ⟨rfl, hb1⟩
  have z1 := HW.out.2.1.below hb1 HW.out.2.1.lt
  have b1 := HW.out.2.2.trans (hb1.mono HW.out.2.2.size)
  have R := hidd (And.intro z1 (And.intro (z1.rowSame (ccells (N : Int) k (paintB N r)).toArray) (below_setRow b1 (g := w.heap.size + 1) (by omega) (ccells (N : Int) k (paintB N r)).toArray)))
  clear hb1 z1 b1
  go_wp2_with (refine wpList_store_row rfl 25 (.tmp 6) (.tmp 10) rfl (w.heap.size + 1) _ rfl rfl 25 _ R.out.1 HPS.out HPO.out HPA.out ?_)
  refine bodyPost_ret (results_cell_row rfl _ _ (w.heap.size + 1) 25 _ (0,0) _ rfl R.out.2.1 Try.underlying25 rfl HPS.out) rfl ⟨rfl, R.out.2.2⟩
theorem RelSc.drew {n k : Int} {zs : List Int} {a : Option Addr} {r : Nat → Nat → Int} {w : World} {j i : Nat} {wr : World} (h : RelSc n k zs a r w j i wr) : RelSc n k zs a r w j i wr.drew :=
  ⟨h.1.drew, h.2.1.drew, h.2.2.1, below_drewN h.2.2.2 1⟩
set_option maxRecDepth 100000 in
set_option maxHeartbeats 4000000 in
theorem sdig50 (N : Nat) (k : Int) (zs : List Int) (a : Option Addr) (cap : Nat) (w : World) (hs : SlI w a zs) (n1 : 1 ≤ N) (n2 : N ≤ 16) (hl : ∀ lo hi, lo < hi → hi < N → (lo ^^^ hi) - 1 < zs.length) (hl2 : zs.length ≤ 15) (hz : ∀ j, 0 ≤ zs.getD j 0 ∧ zs.getD j 0 < 256) :
    Calls Try.prog 50 #[.int .i64 (N : Int), .int .i64 k, .slice a zs.length cap] w fun e w' => e = .returned (.agg (ccells (N : Int) k (paintB N (fun lo hi => zs.getD ((lo ^^^ hi) - 1) 0))).toArray) ∧ Below w.heap.size w w' := by
  have Hz := zero26
  obtain ⟨r, hr⟩ : ∃ r : Nat → Nat → Int, r = fun lo hi => zs.getD ((lo ^^^ hi) - 1) 0 := ⟨_, rfl⟩
  have HRB := hidd (show ∀ lo hi, 0 ≤ r lo hi ∧ r lo hi < 256 from fun lo hi => by rw [hr]; exact hz _)
  rw [← hr]
  have HR := hidd hr
  have HSL := hidd hs
  have HLN := hidd hl
  have hset26 : ((ccells 0 0 zbl).set 0 (Value.int .i64 (N : Int))).set 1 (Value.int .i64 k) = ccells (N : Int) k zbl := rfl
  have HNS := hidd (size_c26 (N : Int) k zbl_bys)
  have HNO := hidd (size_cc 0 0 (N : Int) k zbl_bys zbl_bys)
  have HNA := hidd (ccells_one (N : Int) k zbl)
  have hPB : Bys (paintB N r) := paintB_bys HRB.out
  have HPB := hidd hPB
  have HPS := hidd (size_c26 (N : Int) k hPB)
  have HPO := hidd (size_cc 0 0 (N : Int) k zbl_bys hPB)
  have HPA := hidd (ccells_one (N : Int) k (paintB N r))
  clear hr hs hl hz hPB
  go_enter Try.func50, Try.ntmps50
  go_wp2_with (first
    | (refine wpList_store_row rfl 25 (.tmp 7) (.tmp 12) rfl (w.heap.size + 1) _ rfl rfl 25 _ (Blk.new _ _ _ _ (by simp)) HNS.out HNO.out HNA.out ?_))
  go_loopw [8] (fun e wr => ∃ j : Nat, 1 ≤ j ∧ j ≤ N ∧ e = .int .i64 j ∧ RelSc (N : Int) k zs a r w j 0 wr) (fun e _ => N - (intOf e).toNat)
  case atStart =>
    have hb0 := ((Below.refl w.heap.size w).alloc (Nat.le_refl _) (.cells (ccells 0 0 zbl).toArray 25)).alloc (by simp) (.cells (ccells 0 0 zbl).toArray 25)
    have hbe := below_setRow hb0 (g := w.heap.size + 1) (by omega) (ccells (N : Int) k zbl).toArray
    exact ⟨1, by omega, n1, rfl, ((Blk.new _ _ _ _ rfl).alloc _).rowOther _ _ (by omega), (Blk.new _ _ _ _ (by simp)).rowSame _, HSL.out.below hbe (Nat.le_refl _), hbe⟩
  case round =>
    obtain ⟨j, hj1, hj, rfl, HR1⟩ := hrel
    have HK := hidd HR1
    clear HR1
    by_cases hlt : j < N
    · go_wp2_with fail
      go_loopw [9] (fun e wr => ∃ i : Nat, i ≤ j ∧ e = .int .i64 i ∧ RelSc (N : Int) k zs a r w j i wr) (fun e _ => j - (intOf e).toNat)
      case atStart => exact ⟨0, by omega, rfl, HK.out⟩
      case round =>
        obtain ⟨i, hi, rfl, HR2⟩ := hrel
        have HK2 := hidd HR2
        clear HR2
        by_cases hil : i < j
        · obtain ⟨hd1, hd2⟩ := xor_bd hil (by omega)
          have hFl0 := HLN.out i j hil hlt
          have hx := i64_xor_nat i j (by omega) (by omega)
          rcases HK2.out.2.2.1 with hzz | ⟨b, off, ha, hc⟩
          · subst hzz; simp at hFl0
          · subst ha
            obtain ⟨F, hF⟩ : ∃ F, F = (i ^^^ j) - 1 := ⟨_, rfl⟩
            have hFl : F < zs.length := by omega
            have cF := hc F hFl
            obtain ⟨v, hv⟩ : ∃ v, v = zs.getD F 0 := ⟨_, rfl⟩
            rw [← hv] at cF
            have hvr : v = r i j := by rw [HR.out, hv, hF]
            rw [show (i ^^^ j) = F + 1 by omega, Int.natCast_add] at hx
            have hvb := HRB.out i j
            rw [← hvr] at hvb
            obtain ⟨v0, v1⟩ := hvb
            have hwr : IntKind.u8.wrap v = v := u8_in v0 v1
            have h136 := eN_mono (show j + 1 ≤ 17 by omega)
            rw [eN, show eN 17 = 136 from rfl] at h136
            obtain ⟨E, hE⟩ : ∃ E, E = eN j + i := ⟨_, rfl⟩
            have HEX := hidd (show eix (i : Int) (j : Int) = (E : Int) by rw [eix_eN hil, hE])
            have hE136 : E < 136 := by omega
            have hEI : (E : Int) < 136 := by omega
            obtain ⟨⟨old, cE⟩, fE, hst⟩ := HK2.out.put HRB.out HSL.out hE hE136 hvr
            have K := hidd hst
            have hFI : (F : Int) < (zs.length : Int) := by omega
            have hF9 : (F : Int) ≤ 15 := by omega
            have hwF : IntKind.i64.wrap (F : Int) = (F : Int) := IntWalk.i64_in _ (by omega)
            clear hc hv hF hvr hE h136 hst hd1 hd2 hFl0
            go_wp2_with fail
            refine wp_region_still_tail 13 (by kernel_rfl) (by kernel_rfl) ?_
            simp only [List.take_succ_cons, List.take_zero, List.drop_succ_cons, List.drop_zero]
            still_step
            still_step
            still_call ((edge79 _ _ _ (by omega) (by omega) (by omega) (by omega)).mono fun _ _ h => ⟨h.1, h.2.symm⟩)
            rw [HEX.out]
            iterate 10 still_step
            refine wpStill_nil ?_
            go_wp2
            go_roundw
            case rel => exact ⟨i + 1, by omega, by go_num, K.out.drew⟩
            case measure => simp [intOf]; omega
        · have hij : i = j := by omega
          subst hij
          have K := hidd (show RelSc (N : Int) k zs a r w (i + 1) 0 wr by have := HK2.out; unfold RelSc at this ⊢; rwa [ptB_row] at this)
          clear HK2
          go_wp2_with fail
          go_roundw
          case rel => exact ⟨i + 1, by omega, by omega, by go_num, K.out⟩
          case measure => simp [intOf]; omega
    · have hjN : j = N := by omega
      subst hjN
      obtain ⟨q1, q2, q3, q4⟩ := HK.out
      rw [ptB_done] at q2
      have R := hidd (And.intro q1 (And.intro q2 (And.intro (q1.rowSame (ccells (j : Int) k (paintB j r)).toArray) (below_setRow q4 (g := w.heap.size) (Nat.le_refl _) (ccells (j : Int) k (paintB j r)).toArray))))
      clear HK q1 q2 q3 q4
      go_wp2_with (first
        | (refine wpList_load_row rfl 25 (.tmp 7) rfl (w.heap.size + 1) rfl 25 _ (0,0) _ R.out.2.1 Try.underlying25 rfl HPS.out ?_)
        | (refine wpList_store_row rfl 25 (.tmp 6) (.tmp 36) rfl w.heap.size _ rfl rfl 25 _ R.out.1 HPS.out HPO.out HPA.out ?_))
      refine bodyPost_ret (results_cell_row rfl _ _ w.heap.size 25 _ (0,0) _ rfl R.out.2.2.1 Try.underlying25 rfl HPS.out) rfl ⟨rfl, R.out.2.2.2⟩
end Go.Proofs.Ytikcmgmgdbbcfaa
