/- The layers from a point: the program's iterator. -/
import Derived.Test.YtkiocedhibeieaaDoorArd
namespace Go.Proofs.YtkiocedhibeieaaDoor
set_option linter.unusedVariables false
set_option linter.unusedSimpArgs false
open Go Go.RowKit Go.Shelf
attribute [local go_sem] Oper.semAt_some
def cmP (F : Nat → Nat) (N v : Nat) : Nat → Nat
  | 0 => 0
  | k + 1 => cmS F N v k
theorem cmP_or {F : Nat → Nat} {N v : Nat} (hF : ∀ p, F p < 2 ^ 17) (hv : v < 17) : ∀ k, cmP F N v k ||| cmL F N v k = cmP F N v (k + 1)
  | 0 => by simp [cmP, cmL, cmS]
  | k + 1 => cmL_or hF hv k
theorem cmP_lt {F : Nat → Nat} {N v : Nat} (hF : ∀ p, F p < 2 ^ 17) (hv : v < 17) : ∀ k, cmP F N v k < 2 ^ 17
  | 0 => by simp [cmP]
  | k + 1 => cmS_lt hF hv k
theorem cmL_next {F : Nat → Nat} {N v k : Nat} : adn (arU F (cmL F N v k) N) (cmP F N v (k + 1)) = cmL F N v (k + 1) := rfl
theorem cm_bound {F : Nat → Nat} {N v : Nat} (hF : ∀ p, F p < 2 ^ 17) (hv : v < 17) {k : Nat} (h : ∀ j, j < k → cmL F N v j ≠ 0) : k ≤ 2 ^ 17 := by
  cases k with
  | zero => exact Nat.zero_le _
  | succ k =>
    have h1 := cmS_grow (F := F) (N := N) (v := v) k fun j hj e => h (j + 1) (by omega) ((cmL_zero hF hv j).2 e)
    have h2 := cmS_lt (N := N) hF hv k
    omega
def encL (F : Nat → Nat) (v : Nat) (k : Nat) : Array Value := #[.int .i64 (k : Int), .int .u32 (cmL F 17 v k : Nat)]
/-- The point's block, the graph's block and the table lie as they lay. -/
def KpL (bp bg : Nat) (W W' : World) : Prop := W'.heap[bp]? = W.heap[bp]? ∧ W'.heap[bg]? = W.heap[bg]? ∧ W'.heap[0]? = W.heap[0]?
theorem kpL_t {bp bg : Nat} {X Y Z : World} (h : KpL bp bg X Y) (k : KpL bp bg Y Z) : KpL bp bg X Z := ⟨Eq.trans k.1 h.1, Eq.trans k.2.1 h.2.1, Eq.trans k.2.2 h.2.2⟩
theorem kpL_b {bp bg : Nat} {w : World} (h1 : bp < w.heap.size) (h2 : bg < w.heap.size) (W : World) (l : Nat) (o o' : Obj) (hl : w.heap.size ≤ l) (_ : W.heap[l]? = some o) (_ : o.isCells = false) (_ : o.isWalk = false) : KpL bp bg W (W.putObj l o') :=
  ⟨World.putObj_heap_other (by omega), World.putObj_heap_other (by omega), World.putObj_heap_other (by omega)⟩
theorem Tz.kp {W W' : World} (h : Tz W) (k : W'.heap[0]? = W.heap[0]?) : Tz W' := fun j hj => by
  have := h j hj
  unfold World.cell? at this ⊢
  rw [k]; exact this
def RelL (bp bg U v : Nat) (F : Nat → Nat) (J : List Nat → World → Prop) (k : Nat) (wr : World) : Prop :=
  J (List.range k) wr ∧ Blk wr bp #[.int .i64 (v : Int)] 2 ∧ Blk wr bg (gcell U F).toArray 79 ∧ Tz wr
set_option maxRecDepth 100000 in
set_option maxHeartbeats 1000000 in
theorem iter92 (m l bp bg U v : Nat) (F : Nat → Nat) (hF : ∀ p, F p < 2 ^ 17) (hv : v < 17) (J Jx : List Nat → World → Prop)
    (hJ : ∀ xs W W', J xs W → Below W.heap.size W W' → J xs W')
    (hY : ∀ pre x W, J pre W → pre.length < 2 ^ 17 → YieldAt Fence.wide m Tryd.prog l (encL F v x) W fun e W' =>
      (e = .returned (.bool true) ∧ J (pre ++ [x]) W' ∧ KpL bp bg W W') ∨ (e = .returned (.bool false) ∧ Jx (pre ++ [x]) W'))
    (W : World) (hP : Blk W bp #[.int .i64 (v : Int)] 2) (hG : Blk W bg (gcell U F).toArray 79) (hT : Tz W) (h0 : J [] W) :
    CallsIn Fence.wide (m + 1) Tryd.prog 92 #[.func (.yield l) #[] #[], .pointer (some ⟨bp, 0, none⟩), .pointer (some ⟨bg, 0, none⟩)] W fun e W' => (∃ v, e = .returned v) ∧
      ((∃ ys : List Nat, (∃ K, ys = List.range K ∧ cmL F 17 v K = 0) ∧ J ys W') ∨ (∃ pre, True ∧ Jx pre W')) := by
  refine callsIn_of_wp Tryd.func92 rfl trivial ?_ rfl
  simp only [Tryd.ntmps92, List.size_toArray, List.length_cons, List.length_nil, Nat.reduceAdd, Nat.reduceSub, Array.replicate_succ, Array.replicate_zero, List.push_toArray, List.append_toArray, List.nil_append, List.cons_append]
  have hfn : ∀ f, Fence.wide.fn f := fun _ => trivial
  have HY := hidd hY
  have HJ := hidd hJ
  have HA := hidd (fun S hS W hT h0 => around86 U F S hS hF W hT h0)
  have HOR := hidd (cmP_or (N := 17) hF hv)
  have HPL := hidd (cmP_lt (N := 17) hF hv)
  have HLL := hidd (cmL_lt (N := 17) hF hv)
  have HAL := hidd (fun S => arU_lt (S := S) hF 17)
  have HBD := hidd (fun k => cm_bound (N := 17) hF hv (k := k))
  have HSZ := hidd (size79 U F)
  have HR0 := hidd (show RelL bp bg U v F J 0 W from ⟨h0, hP, hG, hT⟩)
  obtain ⟨Y, hYv⟩ : ∃ Y : Nat, Y = 2 ^ v := ⟨_, rfl⟩
  have hY17 : Y < 2 ^ 17 := by rw [hYv]; exact Nat.pow_lt_pow_right (by omega) (by omega)
  have hsh : IntKind.u32.wrap (2 ^ v) = (Y : Int) := by rw [show (2 : Int) ^ v = ((2 ^ v : Nat) : Int) by simp, ← hYv, wrap_u32]; omega
  have HL0 := hidd (show cmL F 17 v 0 = Y from hYv.symm)
  have c0 := hP.cell (j := 0) (show _ = some (Value.int .i64 (v : Int)) from rfl)
  clear hY hJ hF hYv hP hG hT h0
  gi_wp2_with fail
  gi_loopw [4, 5, 6] (fun la re st wr => ∃ k : Nat, st = .int .i64 (k : Int) ∧ la = .int .u32 (cmL F 17 v k : Nat) ∧ re = .int .u32 (cmP F 17 v k : Nat) ∧ Hid (RelL bp bg U v F J k wr ∧ ∀ j, j < k → cmL F 17 v j ≠ 0))
    (fun _ _ st _ => 2 ^ 17 + 1 - (intOf st).toNat)
  case atStart => exact ⟨0, rfl, by rw [HL0.out], rfl, HR0.out, fun j hj => absurd hj (by omega)⟩
  case round =>
    obtain ⟨k, rfl, rfl, rfl, HR⟩ := hrel
    have hk17 := HBD.out k HR.out.2
    have hL17 := HLL.out k
    have hP17 := HPL.out k
    have hLe : (encL F v k) = #[.int .i64 (k : Int), .int .u32 (cmL F 17 v k : Nat)] := rfl
    have HO := hidd (HOR.out k)
    have HN := hidd (cmL_next (F := F) (N := 17) (v := v) (k := k))
    have hA17 := HAL.out (cmL F 17 v k)
    have HA2 := hidd (HA.out (cmL F 17 v k) hL17)
    have hP17' := HPL.out (k + 1)
    obtain ⟨L, hL⟩ : ∃ L, L = cmL F 17 v k := ⟨_, rfl⟩
    have HLe := hidd hL
    rw [← hL] at hLe HO HN hA17 HA2 hL17 ⊢
    clear hL
    cases hq : ((L : Int) != 0) with
    | true =>
      have hLne : L ≠ 0 := fun e => by rw [e] at hq; simp at hq
      have hk1 : k + 1 ≤ 2 ^ 17 := HBD.out (k + 1) fun j hj => by
        rcases Nat.lt_or_ge j k with h | h
        · exact HR.out.2 j h
        · rw [show j = k by omega, ← HLe.out]; exact hLne
      have HNZ := hidd (fun j (hj : j < k + 1) => (by
        rcases Nat.lt_or_ge j k with h | h
        · exact HR.out.2 j h
        · rw [show j = k by omega, ← HLe.out]; exact hLne : cmL F 17 v j ≠ 0))
      obtain ⟨fn, tmps, assign, body, hy, hR⟩ := HY.out (List.range k) k wr HR.out.1.1 (by rw [List.length_range]; omega)
      have HK := hidd HR.out.1.2
      have HRR := hidd hR
      clear hR
      rw [hLe] at hy
      clear hLe
      gi_wp2
      refine HRR.out.mono ?_
      rintro e W3 (⟨rfl, hJ3, hk3⟩ | ⟨rfl, hx3⟩)
      · have K3 := hidd (show RelL bp bg U v F J (k + 1) W3 from ⟨by rw [List.range_succ]; exact hJ3, blk_kp HK.out.1 hk3.1, blk_kp HK.out.2.1 hk3.2.1, HK.out.2.2.kp hk3.2.2⟩)
        clear hJ3 hk3
        have hor := u32_or_nat (cmP F 17 v k) L (by omega) (by omega)
        rw [HO.out] at hor
        obtain ⟨A, hAe⟩ : ∃ A, A = arU F L 17 := ⟨_, rfl⟩
        rw [← hAe] at HN hA17 HA2
        have han := u32_andnot_nat A (cmP F 17 v (k + 1)) (by omega) (by omega)
        rw [HN.out] at han
        clear hAe hq hLne
        gi_wp2_with (refine inLoadRow rfl 79 (.tmp 2) rfl bg rfl 79 _ _ K3.out.2.2.1 Tryd.underlying79 rfl HSZ.out ?_)
        refine (callsIn_wide.2 (HA2.out _ K3.out.2.2.2 (Nat.lt_of_le_of_lt (Nat.zero_le _) K3.out.2.2.1.lt))).mono ?_
        rintro e w1 ⟨rfl, hb1⟩
        have K4 := hidd (show RelL bp bg U v F J (k + 1) w1 from ⟨HJ.out _ _ _ K3.out.1 hb1, K3.out.2.1.below hb1 K3.out.2.1.lt, K3.out.2.2.1.below hb1 K3.out.2.2.1.lt, K3.out.2.2.2.below hb1 (Nat.lt_of_le_of_lt (Nat.zero_le _) K3.out.2.2.1.lt)⟩)
        clear hb1
        gi_wp2_with fail
        go_roundw
        case rel => exact ⟨k + 1, by go_num, rfl, rfl, K4.out, HNZ.out⟩
        case measure => simp [intOf]; omega
      · have X3 := hidd hx3
        clear hx3
        gi_wp2
        refine bodyPost_ret (results_none rfl _ _ _) rfl ?_
        exact ⟨⟨_, rfl⟩, .inr ⟨_, trivial, X3.out⟩⟩
    | false =>
      have HZ := hidd (show cmL F 17 v k = 0 by rw [← HLe.out]; simpa using hq)
      have HK := hidd HR.out.1.1
      clear hLe
      gi_wp2
      go_end0
      exact ⟨⟨_, rfl⟩, .inl ⟨_, ⟨k, rfl, HZ.out⟩, HK.out⟩⟩
end Go.Proofs.YtkiocedhibeieaaDoor
