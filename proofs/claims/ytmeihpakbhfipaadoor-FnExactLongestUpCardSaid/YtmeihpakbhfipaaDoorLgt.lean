/- longest: the program. -/
import Derived.Test.YtmeihpakbhfipaaDoorLgs
namespace Go.Proofs.YtmeihpakbhfipaaDoor
set_option linter.unusedVariables false
set_option linter.unusedSimpArgs false
open Go Go.RowKit Go.Shelf
attribute [local go_sem] Oper.semAt_some
theorem nbK_ord (p : Nat → Bool) : ∀ k, (nbK p k).Pairwise (· < ·)
  | 0 => List.Pairwise.nil
  | k + 1 => by
    rw [nbK]
    split
    · rw [List.pairwise_append]
      refine ⟨nbK_ord p k, by simp, fun a ha b hb => ?_⟩
      obtain ⟨q, e, h, _⟩ := (nbK_mem p k a).1 ha
      simp at hb
      omega
    · exact nbK_ord p k
/-- Where the next point of the path stands among the greater neighbours. -/
theorem pt_place (bs : List Nat) (c : Int) {N k : Nat} (hk : ((k + 1 : Nat) : Int) < lnM bs c N) (hp : ptV bs c N k < N) (hv : lfV bs c N (ptV bs c N k) = lnM bs c N - k) :
    ∃ i, i < (upR bs c N (ptV bs c N k)).length ∧ (upR bs c N (ptV bs c N k)).getD i 0 = (ptV bs c N (k + 1) : Int) ∧ lfV bs c N ((upR bs c N (ptV bs c N k)).getD i 0).toNat = lnM bs c N - 1 - k ∧
      (∀ j, j < i → lfV bs c N ((upR bs c N (ptV bs c N k)).getD j 0).toNat ≠ lnM bs c N - 1 - k) := by
  obtain ⟨h1, h2, h3⟩ := pt_next bs c hk hp hv
  have hval := pt_val bs c h2
  have hup : upP bs c (ptV bs c N k) (ptV bs c N (k + 1)) = true := by
    unfold ptP at h2
    rw [Bool.and_eq_true] at h2
    simpa using h2.1
  have hmem : ((ptV bs c N (k + 1) : Nat) : Int) ∈ upR bs c N (ptV bs c N k) := (nbK_mem _ _ _).2 ⟨_, rfl, h1, hup⟩
  have hasc : (upR bs c N (ptV bs c N k)).Pairwise (· < ·) := nbK_ord _ _
  generalize hr : upR bs c N (ptV bs c N k) = row at hmem hasc ⊢
  obtain ⟨m, hm, hme⟩ := List.getElem_of_mem hmem
  have hgd : ∀ j, (hj : j < row.length) → row.getD j 0 = row[j] := fun j hj => by simp [List.getD, List.getElem?_eq_getElem hj]
  refine ⟨m, hm, by rw [hgd m hm, hme], by rw [hgd m hm, hme, Int.toNat_natCast, hval]; omega, fun j hj hbad => ?_⟩
  have hjl : j < row.length := by omega
  have hlt := (List.pairwise_iff_getElem.1 hasc) j m hjl hm hj
  obtain ⟨q, e, hqN, hqu⟩ := (nbK_mem (upP bs c (ptV bs c N k)) N row[j]).1 (by rw [show nbK (upP bs c (ptV bs c N k)) N = row from hr]; exact List.getElem_mem hjl)
  rw [hgd j hjl, e, Int.toNat_natCast] at hbad
  have hf := h3 q (by omega)
  unfold ptP at hf
  rw [if_neg (by omega), hqu, Bool.true_and, decide_eq_false_iff_not] at hf
  omega
theorem own_cell {w : World} {base : Nat} {e : TypeId} {size n : Nat} {v : Value} {xs : List Value} (hO : w.ownsRow base e size v n xs) (a : Addr) (u : Value) (hn : a.block < base) : (w.setCell a u).ownsRow base e size v n xs := by
  obtain ⟨h1, h2 | ⟨g, cap, cur, hv, hb, hg, r⟩⟩ := hO
  · exact ⟨h1, .inl h2⟩
  · exact ⟨h1, .inr ⟨g, cap, cur, hv, hb, Blk.other hg a u (by omega), r⟩⟩
/-- The lengths, the variables that the function looks at, and the path as far as it is made. -/
def RelLn (N : Nat) (f : Nat → Int) (b p1 p2 : Nat) (w : World) (x : Int) (xs : List Int) (v : Value) (wr : World) : Prop :=
  Blk wr b (icells (fl N f)).toArray 2 ∧ Blk wr p1 #[.slice (some ⟨b, 0, none⟩) N N] 25 ∧ Blk wr p2 #[.int .i64 x] 2 ∧ wr.ownsRow (p2 + 1) 2 1 v xs.length (icells xs) ∧ Below w.heap.size w wr
section
variable {N : Nat} {f : Nat → Int} {b p1 p2 : Nat} {w : World} {x : Int} {xs : List Int} {v : Value} {wr : World}
theorem RelLn.below {w2 : World} (h : RelLn N f b p1 p2 w x xs v wr) (hb : Below wr.heap.size wr w2) : RelLn N f b p1 p2 w x xs v w2 :=
  ⟨h.1.below hb h.1.lt, h.2.1.below hb h.2.1.lt, h.2.2.1.below hb h.2.2.1.lt, own_below h.2.2.2.1 hb (Nat.le_refl _), h.2.2.2.2.trans (hb.mono h.2.2.2.2.size)⟩
theorem RelLn.left (h : RelLn N f b p1 p2 w x xs v wr) (h1 : b < p1) (h2 : p1 < p2) (hw : w.heap.size ≤ b) (y : Int) : RelLn N f b p1 p2 w y xs v (wr.setCell ⟨p2, 0, none⟩ (.int .i64 y)) :=
  ⟨h.1.other _ _ (by show _ ≠ p2; omega), h.2.1.other _ _ (by show _ ≠ p2; omega), by have := h.2.2.1.same 0 (.int .i64 y); simpa using this, own_cell h.2.2.2.1 _ _ (by show p2 < _; omega), h.2.2.2.2.setCell (p := ⟨p2, 0, none⟩) (by show _ ≤ p2; omega) _⟩
theorem RelLn.step (h : RelLn N f b p1 p2 w x xs v wr) (h1 : b < p1) (h2 : p1 < p2) (hw : w.heap.size ≤ b) {y : Int} {o : Obj} {v' : Value} {w2 : World}
    (hown' : w2.ownsRow (p2 + 1) 2 1 v' (xs.length + 1) (icells xs ++ [.int .i64 y])) (hg : (wr.alloc o).grownBy w2 v.ownBlock) : RelLn N f b p1 p2 w x (xs ++ [y]) v' w2 := by
  have hp := h.2.2.1.lt
  have hb := grown_step h.2.2.2.1 hg (by omega)
  refine ⟨h.1.below hb (by omega), h.2.1.below hb (by omega), h.2.2.1.below hb (by omega), ?_, h.2.2.2.2.trans (hb.mono (by omega))⟩
  rw [icells_app, List.length_append]; exact hown'
end
def slN : Value → Nat | .slice _ n _ => n | _ => 0
theorem pathL_snoc (bs : List Nat) (c : Int) (N k : Nat) : pathL bs c N (k + 1) = pathL bs c N k ++ [(ptV bs c N k : Int)] := fl_snoc _ _
set_option maxRecDepth 100000 in
set_option maxHeartbeats 4000000 in
theorem longest32 (N : Nat) (c : Int) (bs : List Nat) (g : Nat) (w : World) (N1 : 1 ≤ N) (N2 : N ≤ 17) (hS : StI w g (upR bs c N) N) :
    Calls Tryd.prog 32 #[.slice (some ⟨g, 0, none⟩) N N] w fun e w' => ∃ a cap, e = .returned (.slice a (pathL bs c N (lnM bs c N).toNat).length cap) ∧ OwnL w' w.heap.size a (pathL bs c N (lnM bs c N).toNat) ∧ Below w.heap.size w w' := by
  have hmf : ∀ (fn : Fn) (first cap : Array Value) (w : World), (Instr.makeFunc fn first cap).run Tryd.prog w = .ok (.func fn first cap) w := fun _ _ _ _ => rfl
  obtain ⟨t0, hi2, hz0, hz1, hz3⟩ := info_parts info2
  have HIF := hidd (And.intro hi2 (And.intro hz0 (And.intro hz1 hz3)))
  have HSI := hidd hS
  have HLN := hidd (lengths49 N c bs g w N1 N2 hS)
  have HFB := hidd (fun q (hq : q < N) => (lfV_bd bs c hq).1)
  have HP0 := hidd (pt_first bs c N1)
  obtain ⟨lb1, lb2⟩ := lnM_bd bs c N1
  have HPA := hidd (pt_all bs c N1)
  have HMX := hidd (show mxL (lfV bs c N) N = lnM bs c N from rfl)
  obtain ⟨M, hM⟩ : ∃ M, M = lnM bs c N := ⟨_, rfl⟩
  have HM := hidd hM
  rw [← hM] at lb1 lb2 HMX HPA ⊢
  clear hM hS hi2 hz0 hz1 hz3
  go_enter Tryd.func32, Tryd.ntmps32
  go_wp2_with fail
  refine HLN.out.mono ?_
  rintro e w1 ⟨rfl, hB1, hb1⟩
  have G1 := hidd (And.intro hB1 hb1)
  clear hB1 hb1
  go_wp2_with fail
  refine (max50 N (lfV bs c N) N1 N2 HFB.out w.heap.size _ (G1.out.1.alloc _)).mono ?_
  rintro e _ ⟨rfl, rfl⟩
  rw [HMX.out]
  go_wp2_with fail
  have hix := hidd (index51 N (lfV bs c N) (ptV bs c N 0) M HP0.out.1 (by have := pt_val bs c HP0.out.2.1; rw [HM.out]; omega) (fun j hj => by
    have h := HP0.out.2.2 j hj
    unfold ptP at h
    rw [if_pos rfl, Bool.true_and, decide_eq_false_iff_not] at h
    rw [HM.out]; omega) N2 w.heap.size _ ((G1.out.1.alloc (.cells #[Value.slice (some ⟨w.heap.size, 0, none⟩) N N] 25)).alloc (.cells #[Value.int IntKind.i64 M] 2)))
  refine hix.out.mono ?_
  rintro e _ ⟨rfl, rfl⟩
  clear hix
  have hl0 := G1.out.1.lt
  have HL0 := hidd hl0
  have HPL0 := hidd (show pathL bs c N 1 = [(ptV bs c N 0 : Int)] by simp [pathL, fl])
  have hPt : ptV bs c N 0 < N := HP0.out.1
  have HWL := hidd G1.out.2.size
  have H2 := hidd (show RelLn N (lfV bs c N) w.heap.size w1.heap.size (w1.heap.size + 1) w (M - 1) [(ptV bs c N 0 : Int)] (.slice (some ⟨w1.heap.size + 1 + 1, 0, none⟩) 1 1) (((w1.alloc (.cells #[Value.slice (some ⟨w.heap.size, 0, none⟩) N N] 25)).alloc (.cells #[Value.int IntKind.i64 (M - 1)] 2)).alloc (.cells #[Value.int IntKind.i64 (ptV bs c N 0 : Int)] 2)) from by
    refine ⟨((G1.out.1.alloc _).alloc _).alloc _, ((Blk.new _ _ _ _ rfl).alloc _).alloc _, (Blk.new _ _ _ _ (by simp)).alloc _, ?_, G1.out.2.trans ((((Below.refl _ _).alloc (Nat.le_refl _) _).alloc (by simp) _).alloc (by simp; omega) _ |>.mono HWL.out)⟩
    exact ⟨rfl, .inr ⟨w1.heap.size + 1 + 1, 1, #[Value.int IntKind.i64 (ptV bs c N 0 : Int)], rfl, Nat.le_refl _, Blk.new _ _ _ _ (by simp), Nat.le_refl _, by simp [maxLen], rfl, rfl⟩⟩)
  have hw1 : IntKind.i64.wrap (M - 1) = M - 1 := IntWalk.i64_in _ (by omega)
  obtain ⟨P0, hP0⟩ : ∃ P0 : Nat, P0 = ptV bs c N 0 := ⟨_, rfl⟩
  rw [← hP0] at hPt HPL0 H2 ⊢
  have HPP := hidd hP0
  clear hP0
  go_wp2_with fail
  clear hw1 hl0
  go_loopw [5, 6] (fun p v wr => ∃ k : Nat, ((k + 1 : Nat) : Int) ≤ M ∧ p = .int .i64 (ptV bs c N k : Int) ∧ slN v = k + 1 ∧ Hid (RelLn N (lfV bs c N) w.heap.size w1.heap.size (w1.heap.size + 1) w (M - 1 - k) (pathL bs c N (k + 1)) v wr)) (fun _ v _ => N - slN v)
  case atStart => exact ⟨0, by omega, by rw [HPP.out], rfl, by rw [HPL0.out]; simpa using H2⟩
  case round =>
    obtain ⟨k, hk, rfl, hsn, HR⟩ := hrel
    obtain ⟨hpN, hpv⟩ := HPA.out k (by omega)
    by_cases hlt : ((k + 1 : Nat) : Int) < M
    · obtain ⟨i, hi, hgi, hfi, hni⟩ := pt_place bs c (by rw [← HM.out]; exact hlt) hpN (by rw [← HM.out]; exact hpv)
      rw [← HM.out] at hfi hni
      obtain ⟨aa, caa, ca0, hsa⟩ := HSI.out.cells hpN
      have ca1 := (HR.out.2.2.2.2.cell (p := ⟨g, ptV bs c N k, none⟩) (block_lt_of_cell ca0)).trans ca0
      have hrl := upR_len bs c N (ptV bs c N k)
      have hl17 : (upR bs c N (ptV bs c N k)).length ≤ 17 := by omega
      have HRM := hidd (fun j (hj : j < (upR bs c N (ptV bs c N k)).length) => (show ∃ q : Nat, (upR bs c N (ptV bs c N k)).getD j 0 = (q : Int) ∧ q < N by
        obtain ⟨q, e, _, h, _⟩ := upR_get hj; exact ⟨q, e, h⟩))
      have hsa2 := hsa.below HR.out.2.2.2.2 (Nat.le_refl _)
      have c4 := HR.out.2.2.1.cell (j := 0) (show _ = some (Value.int .i64 (M - 1 - k)) from rfl)
      have c3 := HR.out.2.1.cell (j := 0) (show _ = some (Value.slice (some ⟨w.heap.size, 0, none⟩) N N) from rfl)
      have HIX := hidd (indexf52 N (lfV bs c N) N2 w.heap.size w1.heap.size (w1.heap.size + 1) (M - 1 - k) (upR bs c N (ptV bs c N k)) aa caa i hi hl17 HRM.out hfi hni wr hsa2 HR.out.1 c3 c4)
      have HSA := hidd hsa
      have HGI := hidd hgi
      have HIL := hidd hi
      have HPS := hidd (pathL_snoc bs c N (k + 1))
      obtain ⟨P, hP⟩ : ∃ P : Nat, P = ptV bs c N k := ⟨_, rfl⟩
      rw [← hP] at hpN ca1 hl17 HIX HSA HGI HIL ⊢
      obtain ⟨P', hP'⟩ : ∃ P' : Nat, P' = ptV bs c N (k + 1) := ⟨_, rfl⟩
      rw [← hP'] at HGI HPS
      have HPP' := hidd hP'
      have hgt : decide (M - 1 - (k : Int) > 0) = true := by simp; omega
      have hpNI : (P : Int) < (N : Int) := by omega
      clear hsa hsa2 hgi hi hfi hni hP hP' hrl hpv ca0 c3
      go_wp2_with fail
      refine HIX.out.mono ?_
      rintro e w2 ⟨rfl, hb2⟩
      have H3 := hidd (HR.out.below hb2)
      have ca2 := (hb2.cell (p := ⟨g, P, none⟩) (block_lt_of_cell ca1)).trans ca1
      rcases (HSA.out.below H3.out.2.2.2.2 (Nat.le_refl _)) with hz | ⟨b2, off2, ha2, hc2⟩
      · have := HIL.out; rw [hz] at this; simp at this
      subst ha2
      have hiL := HIL.out
      have cm := hc2 i hiL
      rw [HGI.out] at cm
      have hown := H3.out.2.2.2.1
      have hsz := HR.out.2.2.1.lt
      have hsz2 := H3.out.2.2.1.lt
      have hxl : (pathL bs c N (k + 1)).length = k + 1 := pathL_len _ _ _
      have hiI : (i : Int) < ((upR bs c N P).length : Int) := by omega
      clear hb2 hc2 ca1 c4
      go_wp2_with (at_builtin; refine wpList_append_own _ rfl _ _ 25 rfl (w1.heap.size + 1 + 1) 2 t0 (.int .i64 0) 1 8 Tryd.underlying25 HIF.out.1 HIF.out.2.1 HIF.out.2.2.1 HIF.out.2.2.2 rfl (by decide) _ _ _ rfl (hown.alloc _) ⟨w2.heap.size, 0, none⟩ 1 1 [.int .i64 (P' : Int)] rfl rfl ?c1 ?c2 ?c3 ?c4 ?c5 ?_)
      case c1 => exact one_new _ _ _
      case c2 => intro u hu; simp at hu; subst hu; rfl
      case c3 => unfold maxLen; omega
      case c4 => omega
      case c5 => simp; omega
      intro v' w3 hown' hgrow _
      have K3 := hidd (H3.out.step HL0.out (Nat.lt_succ_self _) (Nat.le_refl _) (by rw [hxl]; exact hown') hgrow)
      obtain ⟨a3, cap3, hv3, _⟩ := own_list (zs := pathL bs c N (k + 1) ++ [(P' : Int)]) K3.out.2.2.2.1
      have HV3 := hidd (show slN v' = k + 1 + 1 by rw [hv3]; simp [slN, hxl])
      have K4 := hidd (K3.out.left HL0.out (Nat.lt_succ_self _) (Nat.le_refl _) (M - 1 - (k : Int) - 1))
      have c5 := K3.out.2.2.1.cell (j := 0) (show _ = some (Value.int .i64 (M - 1 - k)) from rfl)
      have f5 := K3.out.2.2.1.fro 0
      have hw5 : IntKind.i64.wrap (M - 1 - (k : Int) - 1) = M - 1 - (k : Int) - 1 := IntWalk.i64_in _ (by omega)
      clear hown' hgrow hown hv3 cm ca2 hsz hsz2
      go_wp2_with fail
      go_roundw
      case rel => exact ⟨k + 1, by omega, by rw [HPP'.out], HV3.out, by rw [HPS.out]; have h := K4.out; rw [show M - 1 - (k : Int) - 1 = M - 1 - ((k + 1 : Nat) : Int) by omega] at h ⊢; exact h⟩
      case measure => rw [HV3.out, hsn]; omega
    · have hkM : (M : Int) = k + 1 := by omega
      have HKM := hidd (show (lnM bs c N).toNat = k + 1 by rw [← HM.out]; omega)
      obtain ⟨a3, cap3, hv3, ho3⟩ := own_list HR.out.2.2.2.1
      subst hv3
      have c4 := HR.out.2.2.1.cell (j := 0) (show _ = some (Value.int .i64 (M - 1 - k)) from rfl)
      have hgt : decide (M - 1 - (k : Int) > 0) = false := by simp; omega
      have HO3 := hidd ho3
      clear ho3
      go_wp2_with fail
      go_ret
      exact ⟨a3, ⟨cap3, rfl⟩, ownL_base HO3.out (by have := HL0.out; omega), HR.out.2.2.2.2⟩
end Go.Proofs.YtmeihpakbhfipaaDoor
