/- BySquares: the program and its model. -/
import Derived.Test.YtikcmgmgdbbcfaaDiffSp
namespace Go.Proofs.Ytikcmgmgdbbcfaa
set_option linter.unusedVariables false
set_option linter.unusedSimpArgs false
open Go Go.RowKit Go.Shelf
set_option maxRecDepth 100000 in
theorem index109 (zs : List Int) (a : Option Addr) (cap : Nat) (x : Int) (w : World) (hs : SlI w a zs) (hl : zs.length ≤ 1048576) :
    Calls Try.prog 109 #[.slice a zs.length cap, .int .i64 x] w fun e w' => ∃ r, e = .returned (.int .i64 r) ∧ (0 ≤ r ↔ x ∈ zs) ∧ w = w' := by
  have HS := hidd hs
  clear hs
  go_enter Try.func109, Try.ntmps109
  go_wp2_with fail
  go_loop [8] (fun i => ∃ j : Nat, j ≤ zs.length ∧ i = .int .i64 j ∧ Hid (∀ m, m < j → zs.getD m 0 ≠ x)) (fun i => zs.length - (intOf i).toNat)
  case atStart => exact ⟨0, by omega, rfl, fun m hm => absurd hm (by omega)⟩
  case round =>
    obtain ⟨j, hj, rfl, HA⟩ := hrel
    by_cases hlt : j < zs.length
    · rcases HS.out with hz | ⟨b, off, ha, hc⟩
      · subst hz; simp at hlt
      · subst ha
        have hcj := hc j hlt
        obtain ⟨z, hz⟩ : ∃ z, z = zs.getD j 0 := ⟨_, rfl⟩
        rw [← hz] at hcj
        have HZ := hidd hz
        clear hz hc
        by_cases he : x = z
        · have heq : (x == z) = true := by simpa using he
          have HM := hidd (show x ∈ zs by
            have h2 : zs.getD j 0 = zs[j] := by simp [List.getD, hlt]
            rw [he, HZ.out, h2]; exact List.getElem_mem hlt)
          clear he
          go_wp2_with fail
          go_ret
          exact ⟨(j : Int), rfl, ⟨fun _ => HM.out, fun _ => by omega⟩, rfl⟩
        · have heq : (x == z) = false := by rw [beq_eq_false_iff_ne]; exact he
          have HE := hidd he
          clear he
          go_wp2_with fail
          go_round
          case rel => exact ⟨j + 1, by omega, by go_num, fun m hm => by
            by_cases e : m = j
            · subst e; rw [← HZ.out]; exact fun h => HE.out h.symm
            · exact HA.out m (by omega)⟩
          case measure => simp [intOf]; omega
    · have hje : j = zs.length := by omega
      subst hje
      go_wp2_with fail
      go_ret
      refine ⟨-1, rfl, ⟨fun h => absurd h (by omega), fun h => ?_⟩, rfl⟩
      obtain ⟨m, hm, hx⟩ := List.mem_iff_getElem.1 h
      exact absurd (by simpa [List.getD, hm] using hx) (HA.out m hm)
set_option maxRecDepth 100000 in
theorem contains99 (zs : List Int) (a : Option Addr) (cap : Nat) (x : Int) (w : World) (hs : SlI w a zs) (hl : zs.length ≤ 1048576) :
    Calls Try.prog 99 #[.slice a zs.length cap, .int .i64 x] w fun e w' => e = .returned (.bool (decide (x ∈ zs))) ∧ w = w' := by
  have HI := hidd (index109 zs a cap x w hs hl)
  clear hs
  go_enter Try.func99, Try.ntmps99
  go_wp2_with fail
  refine HI.out.mono ?_
  rintro e w' ⟨r, rfl, hr, rfl⟩
  by_cases hm : x ∈ zs
  · have h0 := hr.2 hm
    have H := hidd (show decide (x ∈ zs) = true from decide_eq_true hm)
    clear hr hm
    go_wp2
    go_ret
    exact ⟨by rw [H.out]; rfl, rfl⟩
  · have h0 : r < 0 := by
      have : ¬ 0 ≤ r := fun h => hm (hr.1 h)
      omega
    have hd : decide (0 ≤ r) = false := by simp; omega
    have H := hidd (show decide (x ∈ zs) = false from decide_eq_false hm)
    clear hr hm
    go_wp2
    go_ret
    exact ⟨by rw [H.out]; rfl, rfl⟩
/-- The colour by differences. -/
def dfR (zs : List Int) (lo hi : Nat) : Int := if ((hi : Int) - (lo : Int)) ∈ zs then 0 else 1
theorem dfR_bd (zs : List Int) (lo hi : Nat) : 0 ≤ dfR zs lo hi ∧ dfR zs lo hi < 256 := by unfold dfR; split <;> omega
set_option maxRecDepth 100000 in
theorem rule98 (zs : List Int) (a : Option Addr) (cap b0 : Nat) (W : World) (hB : Blk W b0 #[.slice a zs.length cap] 22) (hs : SlI W a zs) (hl : zs.length ≤ 1048576) (lo hi : Nat) (h1 : lo < hi) (h2 : hi ≤ 17) :
    Calls Try.prog 98 #[.int .i64 (lo : Int), .int .i64 (hi : Int), .pointer (some ⟨b0, 0, none⟩)] W fun e W' => e = .returned (.int .i64 (dfR zs lo hi)) ∧ Below W.heap.size W W' := by
  have c0 := hB.cell (j := 0) (show _ = some (Value.slice a zs.length cap) from rfl)
  have HC := hidd (fun x => contains99 zs a cap x W hs hl)
  clear hB hs
  by_cases hm : ((hi : Int) - (lo : Int)) ∈ zs
  · have H := hidd (show dfR zs lo hi = 0 from if_pos hm)
    have HD := hidd (show decide (((hi : Int) - (lo : Int)) ∈ zs) = true from decide_eq_true hm)
    clear hm
    go_enter Try.func98, Try.ntmps98
    go_wp2_with (go_at_call 99; refine (HC.out _).mono ?_; rintro e w' ⟨rfl, rfl⟩; rw [HD.out])
    go_ret
    exact ⟨by rw [H.out]; rfl, Below.refl _ _⟩
  · have H := hidd (show dfR zs lo hi = 1 from if_neg hm)
    have HD := hidd (show decide (((hi : Int) - (lo : Int)) ∈ zs) = false from decide_eq_false hm)
    clear hm
    go_enter Try.func98, Try.ntmps98
    go_wp2_with (go_at_call 99; refine (HC.out _).mono ?_; rintro e w' ⟨rfl, rfl⟩; rw [HD.out])
    go_ret
    exact ⟨by rw [H.out]; rfl, Below.refl _ _⟩
theorem ruleOf98 (N : Nat) (zs : List Int) (a : Option Addr) (cap b0 : Nat) (w : World) (hB : Blk w b0 #[.slice a zs.length cap] 22) (hs : SlI w a zs) (hl : zs.length ≤ 1048576) (n2 : N ≤ 17) :
    Rule N 98 #[.pointer (some ⟨b0, 0, none⟩)] (dfR zs) w := by
  intro x W hbl
  obtain ⟨hx1, hx2, hx3⟩ := x.2
  exact rule98 zs a cap b0 W (hB.below hbl hB.lt) (hs.below hbl (Nat.le_refl _)) hl x.1.2.1 x.1.2.2 hx2 (by omega)
set_option maxRecDepth 100000 in
set_option maxHeartbeats 1000000 in
theorem diff66 (N : Nat) (zs : List Int) (a : Option Addr) (cap : Nat) (w : World) (hs : SlI w a zs) (hl : zs.length ≤ 1048576) (n1 : 1 ≤ N) (n2 : N ≤ 17) :
    Calls Try.prog 66 #[.int .i64 (N : Int), .slice a zs.length cap] w fun e w' => e = .returned (.agg (ccells (N : Int) 2 (paintB N (dfR zs))).toArray) ∧ Below w.heap.size w w' := by
  have Hz := zero26
  have hmf : ∀ (fn : Fn) (first cap : Array Value) (w : World), (Instr.makeFunc fn first cap).run Try.prog w = .ok (.func fn first cap) w := fun _ _ _ _ => rfl
  have HPB := hidd (paintB_bys (N := N) (dfR_bd zs))
  have HPS := hidd (size_c26 (N : Int) 2 HPB.out)
  have HPO := hidd (size_cc 0 0 (N : Int) 2 zbl_bys HPB.out)
  have HPA := hidd (ccells_one (N : Int) 2 (paintB N (dfR zs)))
  have HSL := hidd hs
  clear hs
  go_enter Try.func66, Try.ntmps66
  go_wp2_with fail
  have hW : ∀ W, W = ((w.alloc (.cells #[.slice a zs.length cap] 22)).alloc (.cells (ccells 0 0 zbl).toArray 25)) →
      Blk W w.heap.size #[.slice a zs.length cap] 22 ∧ Blk W (w.heap.size + 1) (ccells 0 0 zbl).toArray 25 ∧ Below w.heap.size w W := by
    rintro W rfl
    exact ⟨(Blk.new _ _ _ _ rfl).alloc _, Blk.new _ _ _ _ (by simp), ((Below.refl _ _).alloc (Nat.le_refl _) _).alloc (by simp) _⟩
  have HW := hidd (hW _ rfl)
  clear hW
  refine (paint52 N 2 98 _ (dfR zs) _ n1 n2 (fun x => dfR_bd zs _ _) (enters_of Try.func98 (by kernel_rfl) rfl) (ruleOf98 N zs a cap _ _ HW.out.1 (HSL.out.below HW.out.2.2 (Nat.le_refl _)) hl n2)).mono ?_
  rintro e w1 ⟨rfl, hb1⟩
  have z1 := HW.out.2.1.below hb1 HW.out.2.1.lt
  have b1 := HW.out.2.2.trans (hb1.mono HW.out.2.2.size)
  have R := hidd (And.intro z1 (And.intro (z1.rowSame (ccells (N : Int) 2 (paintB N (dfR zs))).toArray) (below_setRow b1 (g := w.heap.size + 1) (by omega) (ccells (N : Int) 2 (paintB N (dfR zs))).toArray)))
  clear hb1 z1 b1
  go_wp2_with (refine wpList_store_row rfl 25 (.tmp 4) (.tmp 7) rfl (w.heap.size + 1) _ rfl rfl 25 _ R.out.1 HPS.out HPO.out HPA.out ?_)
  refine bodyPost_ret (results_cell_row rfl _ _ (w.heap.size + 1) 25 _ (0,0) _ rfl R.out.2.1 Try.underlying25 rfl HPS.out) rfl ⟨rfl, R.out.2.2⟩
/-- The rests of the squares of 1 to j. -/
def sqL (P j : Nat) : List Int := (List.range j).map fun i => (((i + 1) * (i + 1) % P : Nat) : Int)
theorem sqL_len (P j : Nat) : (sqL P j).length = j := by simp [sqL]
theorem sqL_snoc (P j : Nat) : sqL P (j + 1) = sqL P j ++ [(((j + 1) * (j + 1) % P : Nat) : Int)] := by simp [sqL, List.range_succ]
/-- Is d the rest of a square of 1 to m? -/
def isSq (P d m : Nat) : Bool := (List.range m).any fun i => (i + 1) * (i + 1) % P == d
theorem isSq_step (P d m : Nat) : isSq P d (m + 1) = (isSq P d m || ((m + 1) * (m + 1) % P == d)) := by simp [isSq, List.range_succ]
def sqC (P j : Nat) : List Int := (List.range j).map fun d => if isSq P (d + 1) (P - 1) = true then 0 else 1
theorem sqC_len (P j : Nat) : (sqC P j).length = j := by simp [sqC]
theorem sqC_snoc (P j : Nat) : sqC P (j + 1) = sqC P j ++ [if isSq P (j + 1) (P - 1) = true then 0 else 1] := by simp [sqC, List.range_succ]
theorem sqC_bd (P m : Nat) (j : Nat) : 0 ≤ (sqC P m).getD j 0 ∧ (sqC P m).getD j 0 < 256 := by
  by_cases h : j < m
  · rw [show (sqC P m).getD j 0 = if isSq P (j + 1) (P - 1) = true then 0 else 1 by simp [sqC, List.getD, h]]
    split <;> omega
  · rw [List.getD, List.getElem?_eq_none (by rw [sqC_len]; omega)]; simp
def sqP (P : Nat) : Prop := P = 5 ∨ P = 13 ∨ P = 17
theorem sq_same : ∀ P, P ∈ [5, 13, 17] → ∀ hi, hi < P → ∀ lo, lo < hi → dfR (sqL P (P - 1)) lo hi = (sqC P (P / 2)).getD (dst P lo hi - 1) 0 := by decide +kernel
theorem sq_paint {P : Nat} (h : sqP P) : paintB P (fun lo hi => (sqC P (P / 2)).getD (dst P lo hi - 1) 0) = paintB P (dfR (sqL P (P - 1))) :=
  paint_congr fun lo hi h1 h2 => (sq_same P (by rcases h with rfl | rfl | rfl <;> simp) hi h2 lo h1).symm
def bqOk (p : Int) : Prop := p = 5 ∨ p = 13 ∨ p = 17
instance (p : Int) : Decidable (bqOk p) := by unfold bqOk; infer_instance
def bqCode (p : Int) : Int := if bqOk p then 0 else 2
def bqN (p : Int) : Int := if bqOk p then p else 0
def bqK (p : Int) : Int := if bqOk p then 2 else 0
def bqB (p : Int) : List Nat := if bqOk p then paintB p.toNat (dfR (sqL p.toNat (p.toNat - 1))) else zbl
def bqOut (p : Int) : Value := .tuple #[.agg (ccells (bqN p) (bqK p) (bqB p)).toArray, .int .i64 (bqCode p)]
theorem bqOut_bad {p : Int} (h : ¬ bqOk p) : bqOut p = .tuple #[.agg (ccells 0 0 zbl).toArray, .int .i64 2] := by simp [bqOut, bqN, bqK, bqB, bqCode, h]
theorem bqOut_good {p : Int} (h : bqOk p) : bqOut p = .tuple #[.agg (ccells p 2 (paintB p.toNat (dfR (sqL p.toNat (p.toNat - 1))))).toArray, .int .i64 0] := by simp [bqOut, bqN, bqK, bqB, bqCode, h]
theorem bqB_bys (p : Int) : Bys (bqB p) := by
  unfold bqB
  split
  · exact paintB_bys (dfR_bd _)
  · exact zbl_bys
theorem sq_rng {i P : Nat} (h : i < P) (h2 : P ≤ 17) : 0 ≤ (i : Int) * (i : Int) ∧ (i : Int) * (i : Int) ≤ 289 := by
  rw [← Int.natCast_mul]
  have : i * i ≤ 17 * 17 := Nat.mul_le_mul (by omega) (by omega)
  omega
def RelSq (zs : List Int) (w : World) (v : Value) (wr : World) : Prop := Blk wr w.heap.size (ccells 0 0 zbl).toArray 25 ∧ wr.ownsRow (w.heap.size + 1) 2 1 v zs.length (icells zs) ∧ Below w.heap.size w wr
set_option maxRecDepth 100000 in
set_option maxHeartbeats 4000000 in
theorem squares65 (P : Nat) (w : World) (hP : sqP P) :
    Calls Try.prog 65 #[.int .i64 (P : Int)] w fun e w' => e = .returned (.agg (ccells (P : Int) 2 (paintB P (dfR (sqL P (P - 1))))).toArray) ∧ Below w.heap.size w w' := by
  have Hz := zero26
  have hP1 : 5 ≤ P := by rcases hP with rfl | rfl | rfl <;> omega
  have hP2 : P ≤ 17 := by rcases hP with rfl | rfl | rfl <;> omega
  have HPA0 := hidd (sq_paint hP)
  have HPB := hidd (paintB_bys (N := P) (dfR_bd (sqL P (P - 1))))
  have HPS := hidd (size_c26 (P : Int) 2 HPB.out)
  have HPO := hidd (size_cc 0 0 (P : Int) 2 zbl_bys HPB.out)
  have HPA := hidd (ccells_one (P : Int) 2 (paintB P (dfR (sqL P (P - 1)))))
  have HSC := hidd (fun (a : Option Addr) (cap : Nat) (W : World) (hW : SlI W a (sqC P (P / 2))) => by have h := scirc44 P 2 (sqC P (P / 2)) a cap W hW (by omega) hP2 (sqC_len _ _) (sqC_bd P (P / 2)); rw [sqC_len, sq_paint hP] at h; exact h)
  have hz2 : ((P : Int) == 0) = false := by rw [beq_eq_false_iff_ne]; omega
  obtain ⟨t0, hi2, hz0, hz1, hz3⟩ := info_parts info2
  have HIF := hidd (And.intro hi2 (And.intro hz0 (And.intro hz1 hz3)))
  have hb0 : Below w.heap.size w (w.alloc (.cells (ccells 0 0 zbl).toArray 25)) := (Below.refl _ _).alloc (Nat.le_refl _) _
  have G := hidd (And.intro (Blk.new w (ccells 0 0 zbl).toArray 25 _ rfl) hb0)
  have HHALF := hidd (show (P : Int) / 2 = ((P / 2 : Nat) : Int) by omega)
  clear hP hb0 hi2 hz0 hz1 hz3
  go_enter Try.func65, Try.ntmps65
  go_wp2_with fail
  go_loopw [3, 4] (fun v e wr => ∃ d : Nat, d ≤ P / 2 ∧ e = .int .i64 ((d : Int) + 1) ∧ RelSq (sqC P d) w v wr) (fun _ e _ => P + 1 - (intOf e).toNat)
  case atStart =>
    refine ⟨0, by omega, rfl, G.out.1.alloc _, ⟨rfl, .inr ⟨w.heap.size + 1, 0, #[], by simp [sqC], by omega, ?_, ?_, ?_, rfl, rfl⟩⟩, G.out.2.alloc G.out.2.size _⟩
    · exact Blk.new _ _ _ _ (by simp)
    · simp [sqC]
    · simp [maxLen]
  case round =>
    obtain ⟨d, hd, rfl, HR⟩ := hrel
    have HK := hidd HR
    clear HR
    by_cases hlt : d < P / 2
    · obtain ⟨wo, rfl⟩ : ∃ wo : World, wo = wr := ⟨_, rfl⟩
      go_wp2_with fail
      go_loop [5, 6] (fun col a => ∃ i : Nat, i ≤ P - 1 ∧ a = .int .i64 ((i : Int) + 1) ∧ col = .int .i64 (if isSq P (d + 1) i = true then 0 else 1)) (fun _ a => P - (intOf a).toNat)
      case atStart => exact ⟨0, by omega, rfl, rfl⟩
      case round =>
        obtain ⟨i, hi, rfl, rfl⟩ := hrel
        by_cases hlt2 : i < P - 1
        · have hr := sq_rng (i := i + 1) (P := P) (by omega) hP2
          rw [Int.natCast_add] at hr
          obtain ⟨m0, m1⟩ := hr
          simp only [Int.cast_ofNat_Int] at m0 m1
          have hst := isSq_step P (d + 1) i
          have hmod : (((i : Int) + 1) * ((i : Int) + 1)) % (P : Int) = (((i + 1) * (i + 1) % P : Nat) : Int) := by simp
          obtain ⟨q, hq⟩ : ∃ q, q = (i + 1) * (i + 1) % P := ⟨_, rfl⟩
          rw [← hq] at hst hmod
          obtain ⟨col, hcol⟩ : ∃ col : Int, col = (if isSq P (d + 1) i = true then 0 else 1) := ⟨_, rfl⟩
          rw [← hcol]
          by_cases he : q = d + 1
          · have heq : ((q : Int) == (d : Int) + 1) = true := by rw [beq_iff_eq]; omega
            have HC := hidd (show (if isSq P (d + 1) (i + 1) = true then (0 : Int) else 1) = 0 by rw [hst, he]; simp)
            clear hst hq hcol he
            go_wp2_with fail
            go_round
            case rel => exact ⟨i + 1, by omega, by go_num, by rw [HC.out]⟩
            case measure => simp [intOf]; omega
          · have heq : ((q : Int) == (d : Int) + 1) = false := by rw [beq_eq_false_iff_ne]; omega
            have HC := hidd (show (if isSq P (d + 1) (i + 1) = true then (0 : Int) else 1) = col by rw [hst, hcol, show (q == d + 1) = false by rw [beq_eq_false_iff_ne]; exact he, Bool.or_false])
            clear hst hq hcol he
            go_wp2_with fail
            go_round
            case rel => exact ⟨i + 1, by omega, by go_num, by rw [HC.out]⟩
            case measure => simp [intOf]; omega
        · have hie : i = P - 1 := by omega
          have HSN := hidd (sqC_snoc P d)
          rw [hie]
          obtain ⟨col, hcol⟩ : ∃ col : Int, col = (if isSq P (d + 1) (P - 1) = true then 0 else 1) := ⟨_, rfl⟩
          rw [← hcol] at HSN ⊢
          have hown := HK.out.2.1
          have hlen := sqC_len P d
          have hsz := HK.out.2.2.size
          have hszC := HK.out.1.lt
          have hdi : decide (((P - 1 : Nat) : Int) + 1 < (P : Int)) = false := by simp; omega
          clear hcol hie
          go_wp2_with (at_builtin; refine wpList_append_own _ rfl _ _ 22 rfl (w.heap.size + 1) 2 t0 (.int .i64 0) 1 8 Try.underlying22 HIF.out.1 HIF.out.2.1 HIF.out.2.2.1 HIF.out.2.2.2 rfl (by decide) _ _ _ rfl (hown.alloc _) ⟨wo.heap.size, 0, none⟩ 1 1 [.int .i64 col] rfl rfl ?c1 ?c2 ?c3 ?c4 ?c5 ?_)
          case c2 => rfl
          case c3 => unfold maxLen; omega
          case c4 => omega
          intro v' w2 hown' hgrow _
          have K3 := hidd (show RelSq (sqC P (d + 1)) w v' w2 from ⟨HK.out.1.below (grown_step hown hgrow (by omega)) (by omega), by rw [HSN.out, icells_app, List.length_append, sqC_len]; exact hown', HK.out.2.2.trans ((grown_step hown hgrow (by omega)).mono (by omega))⟩)
          clear hown' hgrow hown
          go_wp2
          go_roundw
          case rel => exact ⟨d + 1, by omega, by go_num, K3.out⟩
          case measure => simp [intOf]; omega
    · have hde : d = P / 2 := by omega
      subst hde
      obtain ⟨a, cap, rfl, ho⟩ := own_list HK.out.2.1
      have HLN := hidd (sqC_len P (P / 2))
      have K := hidd (And.intro HK.out.1 (And.intro ho.sl HK.out.2.2))
      clear HK ho
      rw [HLN.out]
      have hdi : decide (((P / 2 : Nat) : Int) + 1 ≤ (P : Int) / 2) = false := by simp; omega
      go_wp2_with fail
      refine (HSC.out a cap _ K.out.2.1).mono ?_
      rintro e w2 ⟨rfl, hb2⟩
      have z2 := K.out.1.below hb2 K.out.1.lt
      have b2 := K.out.2.2.trans (hb2.mono K.out.2.2.size)
      have R := hidd (And.intro z2 (And.intro (z2.rowSame (ccells (P : Int) 2 (paintB P (dfR (sqL P (P - 1))))).toArray) (below_setRow b2 (g := w.heap.size) (Nat.le_refl _) (ccells (P : Int) 2 (paintB P (dfR (sqL P (P - 1))))).toArray)))
      clear hb2 z2 b2
      go_wp2_with (refine wpList_store_row rfl 25 (.tmp 2) (.tmp 32) rfl w.heap.size _ rfl rfl 25 _ R.out.1 HPS.out HPO.out HPA.out ?_)
      refine bodyPost_ret (results_cell_row rfl _ _ w.heap.size 25 _ (0,0) _ rfl R.out.2.1 Try.underlying25 rfl HPS.out) rfl ⟨rfl, R.out.2.2⟩
end Go.Proofs.Ytikcmgmgdbbcfaa
