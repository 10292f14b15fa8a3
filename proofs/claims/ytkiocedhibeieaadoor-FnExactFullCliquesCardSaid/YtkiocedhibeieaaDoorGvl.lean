/- The layers' function: what it promises. -/
import Derived.Test.YtkiocedhibeieaaDoorSeq2
import Derived.Test.YtkiocedhibeieaaDoorRng
import Derived.Test.YtkiocedhibeieaaDoorCpn
namespace Go.Proofs.YtkiocedhibeieaaDoor
set_option linter.unusedVariables false
set_option linter.unusedSimpArgs false
open Go Go.RowKit Go.Shelf
theorem range_part {k K : Nat} (h : k < K) : List.range K = List.range k ++ k :: (List.range K).drop (k + 1) := by
  have h1 : List.range K = (List.range K).take k ++ (List.range K).drop k := (List.take_append_drop _ _).symm
  have h2 : (List.range K).take k = List.range k := by rw [List.take_range, Nat.min_eq_left (by omega)]
  have h3 : (List.range K).drop k = k :: (List.range K).drop (k + 1) := by
    rw [List.drop_eq_getElem_cons (by simpa using h)]; simp
  rw [h2, h3] at h1
  exact h1
/-- How many layers there are. -/
theorem least_zero {f : Nat → Nat} : ∀ n, f n = 0 → ∃ K, f K = 0 ∧ ∀ j, j < K → f j ≠ 0 := by
  intro n
  induction n using Nat.strongRecOn with
  | _ n ih =>
    intro h
    by_cases hx : ∃ j, j < n ∧ f j = 0
    · obtain ⟨j, hj, hz⟩ := hx
      exact ih j hj hz
    · exact ⟨n, h, fun j hj e => hx ⟨j, hj, e⟩⟩
theorem layers_end {F : Nat → Nat} {v : Nat} (hF : ∀ p, F p < 2 ^ 17) (hv : v < 17) : ∃ K, cmL F 17 v K = 0 ∧ ∀ j, j < K → cmL F 17 v j ≠ 0 := by
  by_cases hx : ∃ n, cmL F 17 v n = 0
  · obtain ⟨n, hn⟩ := hx
    exact least_zero n hn
  · have := cm_bound (N := 17) hF hv (k := 2 ^ 17 + 1) (fun j _ e => hx ⟨j, e⟩)
    omega
def RelG (W : World) (bp bg U v : Nat) (F : Nat → Nat) (J : List Nat → World → Prop) (k : Nat) (wr : World) : Prop :=
  J (List.range k) wr ∧ Blk wr bp #[.int .i64 (v : Int)] 2 ∧ Blk wr bg (gcell U F).toArray 79 ∧ Tz wr ∧ W.heap.size ≤ wr.heap.size
set_option maxRecDepth 100000 in
set_option maxHeartbeats 1000000 in
theorem gives92 (m bp bg U v K : Nat) (F : Nat → Nat) (hF : ∀ p, F p < 2 ^ 17) (hv : v < 17) (hK : cmL F 17 v K = 0) (hK' : ∀ j, j < K → cmL F 17 v j ≠ 0) (w : World) (hP0 : Blk w bp #[.int .i64 (v : Int)] 2) (hG0 : Blk w bg (gcell U F).toArray 79) (hT0 : Tz w) :
    Gives m 92 #[.pointer (some ⟨bp, 0, none⟩), .pointer (some ⟨bg, 0, none⟩)] (encL F v) [bp, bg, 0] (List.range K) w := by
  intro l J Jx W hsz hbs hJ hJx hY h0
  have hP : Blk W bp #[.int .i64 (v : Int)] 2 := (hbs bp (by simp)).trans hP0
  have hG : Blk W bg (gcell U F).toArray 79 := (hbs bg (by simp)).trans hG0
  have hT : Tz W := hT0.kp (hbs 0 (by simp))
  clear hP0 hG0 hT0 hbs
  refine callsIn_of_wp Tryd.func92 rfl trivial ?_ rfl
  simp only [Tryd.ntmps92, List.size_toArray, List.length_cons, List.length_nil, Nat.reduceAdd, Nat.reduceSub, Array.replicate_succ, Array.replicate_zero, List.push_toArray, List.append_toArray, List.nil_append, List.cons_append]
  have hfn : ∀ f, Fence.wide.fn f := fun _ => trivial
  have HY := hidd hY
  have HJ := hidd hJ
  have HK0 := hidd hK
  have HK1 := hidd hK'
  have HA := hidd (fun S hS W hT h0 => around86 U F S hS hF W hT h0)
  have HOR := hidd (cmP_or (N := 17) hF hv)
  have HPL := hidd (cmP_lt (N := 17) hF hv)
  have HLL := hidd (cmL_lt (N := 17) hF hv)
  have HAL := hidd (fun S => arU_lt (S := S) hF 17)
  have HBD := hidd (fun k => cm_bound (N := 17) hF hv (k := k))
  have HSZ := hidd (size79 U F)
  have HR0 := hidd (show RelG W bp bg U v F J 0 W from ⟨h0, hP, hG, hT, Nat.le_refl _⟩)
  obtain ⟨Y, hYv⟩ : ∃ Y : Nat, Y = 2 ^ v := ⟨_, rfl⟩
  have hY17 : Y < 2 ^ 17 := by rw [hYv]; exact Nat.pow_lt_pow_right (by omega) (by omega)
  have hsh : IntKind.u32.wrap (2 ^ v) = (Y : Int) := by rw [show (2 : Int) ^ v = ((2 ^ v : Nat) : Int) by simp, ← hYv, wrap_u32]; omega
  have HL0 := hidd (show cmL F 17 v 0 = Y from hYv.symm)
  have c0 := hP.cell (j := 0) (show _ = some (Value.int .i64 (v : Int)) from rfl)
  clear hY hJ hF hYv hP hG hT h0 hK hK'
  gi_wp2_with fail
  gi_loopw [4, 5, 6] (fun la re st wr => ∃ k : Nat, st = .int .i64 (k : Int) ∧ la = .int .u32 (cmL F 17 v k : Nat) ∧ re = .int .u32 (cmP F 17 v k : Nat) ∧ Hid (RelG W bp bg U v F J k wr ∧ ∀ j, j < k → cmL F 17 v j ≠ 0))
    (fun _ _ st _ => 2 ^ 17 + 1 - (intOf st).toNat)
  case atStart => exact ⟨0, rfl, by rw [HL0.out], rfl, HR0.out, fun j hj => absurd hj (by omega)⟩
  case round =>
    obtain ⟨k, rfl, rfl, rfl, HR⟩ := hrel
    have hk17 := HBD.out k HR.out.2
    have hL17 := HLL.out k
    have hP17 := HPL.out k
    have hLe : (encL F v k) = #[.int .i64 (k : Int), .int .u32 (cmL F 17 v k : Nat)] := rfl
    have HO := hidd (HOR.out k)
    have HN := hidd (cmL_next (F := F) (N := 17) (v := v) (k := k))
    have hA17 := HAL.out (cmL F 17 v k)
    have HA2 := hidd (HA.out (cmL F 17 v k) hL17)
    have hP17' := HPL.out (k + 1)
    obtain ⟨L, hL⟩ : ∃ L, L = cmL F 17 v k := ⟨_, rfl⟩
    have HLe := hidd hL
    rw [← hL] at hLe HO HN hA17 HA2 hL17 ⊢
    clear hL
    cases hq : ((L : Int) != 0) with
    | true =>
      have hLne : L ≠ 0 := fun e => by rw [e] at hq; simp at hq
      have hk1 : k + 1 ≤ 2 ^ 17 := HBD.out (k + 1) fun j hj => by
        rcases Nat.lt_or_ge j k with h | h
        · exact HR.out.2 j h
        · rw [show j = k by omega, ← HLe.out]; exact hLne
      have HNZ := hidd (fun j (hj : j < k + 1) => (by
        rcases Nat.lt_or_ge j k with h | h
        · exact HR.out.2 j h
        · rw [show j = k by omega, ← HLe.out]; exact hLne : cmL F 17 v j ≠ 0))
      have hkK : k < K := by
        by_cases h : K < k + 1
        · exact absurd HK0.out (HNZ.out K h)
        · omega
      have HSP := hidd (range_part hkK)
      obtain ⟨fn, tmps, assign, body, hy, hR⟩ := HY.out (List.range k) k _ wr HSP.out HR.out.1.1
      have HK := hidd HR.out.1.2
      have HRR := hidd hR
      clear hR hkK
      rw [hLe] at hy
      clear hLe
      gi_wp2
      refine HRR.out.mono ?_
      rintro e W3 ⟨hk3, ⟨rfl, hJ3⟩ | ⟨rfl, hx3⟩⟩
      · have e1 := hk3.2 bp HK.out.1.lt (.inr (by simp))
        have e2 := hk3.2 bg HK.out.2.1.lt (.inr (by simp))
        have e3 := hk3.2 0 (Nat.lt_of_le_of_lt (Nat.zero_le _) HK.out.1.lt) (.inr (by simp))
        have K3 := hidd (show RelG W bp bg U v F J (k + 1) W3 from ⟨by rw [List.range_succ]; exact hJ3, e1.trans HK.out.1, e2.trans HK.out.2.1, HK.out.2.2.1.kp e3, Nat.le_trans HK.out.2.2.2 hk3.1⟩)
        clear hJ3 hk3 e1 e2 e3
        have hor := u32_or_nat (cmP F 17 v k) L (by omega) (by omega)
        rw [HO.out] at hor
        obtain ⟨A, hAe⟩ : ∃ A, A = arU F L 17 := ⟨_, rfl⟩
        rw [← hAe] at HN hA17 HA2
        have han := u32_andnot_nat A (cmP F 17 v (k + 1)) (by omega) (by omega)
        rw [HN.out] at han
        clear hAe hq hLne
        gi_wp2_with (refine inLoadRow rfl 79 (.tmp 2) rfl bg rfl 79 _ _ K3.out.2.2.1 Tryd.underlying79 rfl HSZ.out ?_)
        refine (callsIn_wide.2 (HA2.out _ K3.out.2.2.2.1 (Nat.lt_of_le_of_lt (Nat.zero_le _) K3.out.2.2.1.lt))).mono ?_
        rintro e w1 ⟨rfl, hb1⟩
        have K4 := hidd (show RelG W bp bg U v F J (k + 1) w1 from ⟨HJ.out _ _ _ K3.out.1 (hb1.mono K3.out.2.2.2.2), K3.out.2.1.below hb1 K3.out.2.1.lt, K3.out.2.2.1.below hb1 K3.out.2.2.1.lt, K3.out.2.2.2.1.below hb1 (Nat.lt_of_le_of_lt (Nat.zero_le _) K3.out.2.2.1.lt), Nat.le_trans K3.out.2.2.2.2 hb1.size⟩)
        clear hb1
        gi_wp2_with fail
        go_roundw
        case rel => exact ⟨k + 1, by go_num, rfl, rfl, K4.out, HNZ.out⟩
        case measure => simp [intOf]; omega
      · have X3 := hidd hx3
        clear hx3
        gi_wp2
        refine bodyPost_ret (results_none rfl _ _ _) rfl ?_
        exact ⟨⟨_, rfl⟩, .inr ⟨_, _, _, HSP.out, X3.out⟩⟩
    | false =>
      have HZ := hidd (show cmL F 17 v k = 0 by rw [← HLe.out]; simpa using hq)
      have hkK : k = K := by
        by_cases h1 : k < K
        · exact absurd HZ.out (HK1.out k h1)
        · by_cases h2 : K < k
          · exact absurd HK0.out (HR.out.2 K h2)
          · omega
      subst hkK
      have HK := hidd HR.out.1.1
      clear hLe
      gi_wp2
      go_end0
      exact ⟨⟨_, rfl⟩, .inl HK.out⟩
end Go.Proofs.YtkiocedhibeieaaDoor
