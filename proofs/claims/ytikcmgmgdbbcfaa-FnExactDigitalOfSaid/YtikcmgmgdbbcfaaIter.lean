/- The function that gives the edges, one by one: its contract for every loop body that leaves its captured number alone. -/
import Derived.Test.YtikcmgmgdbbcfaaNeighbours
import Derived.RangeFuncFrom
import Derived.RangeFuncKeeps
import Derived.RangeFuncLeaves
import Derived.Shelf.Abstract
import Derived.OwnWalkIn
import Derived.TacticsInMore
import Derived.LoopNIn
import Derived.LoopIn
import Derived.TacticsIn
import Derived.BigFrameIn
namespace Go.Proofs.Ytikcmgmgdbbcfaa
set_option linter.unusedVariables false
set_option linter.unusedSimpArgs false
open Go Go.RowKit Go.Shelf
attribute [local go_sem] Oper.semAt_some
/-- The number of the first edge of the greater point h. -/
def eN : Nat → Nat
  | 0 => 0
  | h + 1 => eN h + h
/-- The first l edges of the greater point h: number, lesser point, greater point. -/
def rowE (h l : Nat) : List (Nat × Nat × Nat) := (List.range l).map fun m => (eN h + m, m, h)
/-- The edges whose greater point is less than h. -/
def eseq : Nat → List (Nat × Nat × Nat)
  | 0 => []
  | h + 1 => eseq h ++ rowE h h
theorem eN_edg (h : Nat) : (eN h : Int) = edg (h : Int) := by
  induction h with
  | zero => rfl
  | succ h ih =>
    have := edg_step (h : Int)
    rw [eN]
    rw [show ((h + 1 : Nat) : Int) = (h : Int) + 1 by omega, this]; omega
theorem eseq_len (h : Nat) : (eseq h).length = eN h := by
  induction h with
  | zero => rfl
  | succ h ih => rw [eseq, eN, List.length_append, ih, rowE]; simp
theorem rowE_succ (h l : Nat) : rowE h (l + 1) = rowE h l ++ [(eN h + l, l, h)] := by
  simp [rowE, List.range_succ]
theorem eN_mono {a b : Nat} (h : a ≤ b) : eN a ≤ eN b := by
  induction b with
  | zero => obtain rfl : a = 0 := by omega
            exact Nat.le_refl _
  | succ b ih =>
    by_cases e : a = b + 1
    · subst e; exact Nat.le_refl _
    · exact Nat.le_trans (ih (by omega)) (by rw [eN]; omega)
theorem eN_17 {n : Nat} (h : n ≤ 17) : eN n ≤ 136 := by
  have := eN_mono h
  have e : eN 17 = 136 := rfl
  omega
/-- An edge between N points: its number, its lesser point, its greater point. -/
def Edg (N : Nat) : Type := { x : Nat × Nat × Nat // x.1 = eN x.2.2 + x.2.1 ∧ x.2.1 < x.2.2 ∧ x.2.2 < N }
def Edg.v {N : Nat} (x : Edg N) : Nat × Nat × Nat := x.1
def encE {N : Nat} (x : Edg N) : Array Value := #[.int .i64 (x.1.1 : Int), .agg #[.int .i64 (x.1.2.1 : Int), .int .i64 (x.1.2.2 : Int)]]
theorem Edg.lt {N : Nat} (x : Edg N) : x.1.1 < eN N := by
  obtain ⟨h1, h2, h3⟩ := x.2
  have := eN_mono (show x.1.2.2 + 1 ≤ N by omega)
  rw [eN] at this; omega
/-- The block B lies as it lay. -/
def KpB (B : Nat) (W W' : World) : Prop := W'.heap[B]? = W.heap[B]?
theorem kpB_t {B : Nat} {X Y Z : World} (h : KpB B X Y) (k : KpB B Y Z) : KpB B X Z := Eq.trans k h
theorem kpB_b {B : Nat} {w : World} (hB : B < w.heap.size) (W : World) (l : Nat) (o o' : Obj) (hl : w.heap.size ≤ l) (_ : W.heap[l]? = some o) (_ : o.isCells = false) (_ : o.isWalk = false) : KpB B W (W.putObj l o') :=
  World.putObj_heap_other (by omega)
theorem blk_kp {B : Nat} {W W' : World} {C : Array Value} {t : TypeId} (h : Blk W B C t) (k : KpB B W W') : Blk W' B C t := Eq.trans k h
def RelI (Bn : Nat) (N : Nat) (J : List (Edg N) → World → Prop) (xs : List (Nat × Nat × Nat)) (wr : World) : Prop := (∃ ys : List (Edg N), ys.map Edg.v = xs ∧ J ys wr) ∧ Blk wr Bn #[.int .i64 (N : Int)] 2
set_option maxRecDepth 100000 in
set_option maxHeartbeats 1000000 in
theorem iter80 (m l Bn : Nat) (N : Nat) (hN1 : 1 ≤ N) (hN : N ≤ 17) (J Jx : List (Edg N) → World → Prop)
    (hY : ∀ pre x W, J pre W → pre.length < eN N → YieldAt Fence.wide m Try.prog l (encE x) W fun e W' =>
      (e = .returned (.bool true) ∧ J (pre ++ [x]) W' ∧ KpB Bn W W') ∨ (e = .returned (.bool false) ∧ Jx (pre ++ [x]) W'))
    (W : World) (hB : Blk W Bn #[.int .i64 (N : Int)] 2) (h0 : J [] W) :
    CallsIn Fence.wide (m + 1) Try.prog 100 #[.func (.yield l) #[] #[], .pointer (some ⟨Bn, 0, none⟩)] W fun e W' => (∃ v, e = .returned v) ∧
      ((∃ ys : List (Edg N), ys.map Edg.v = eseq N ∧ J ys W') ∨ (∃ pre, True ∧ Jx pre W')) := by
  refine callsIn_of_wp Try.func100 rfl trivial ?_ rfl
  simp only [Try.ntmps100, List.size_toArray, List.length_cons, List.length_nil, Nat.reduceAdd, Nat.reduceSub, Array.replicate_succ, Array.replicate_zero, List.push_toArray, List.append_toArray, List.nil_append, List.cons_append]
  have HY := hidd hY
  clear hY
  gi_wp2
  gi_loopw [3, 4] (fun k h wr => ∃ b : Nat, b ≤ N ∧ 1 ≤ b ∧ h = .int .i64 b ∧ k = .int .i64 (eN b : Nat) ∧ RelI Bn N J (eseq b) wr)
    (fun _ h _ => N - (intOf h).toNat)
  case atStart => exact ⟨1, hN1, Nat.le_refl _, rfl, rfl, ⟨[], rfl, h0⟩, hB⟩
  case round =>
    obtain ⟨b, hb, hb1, rfl, rfl, HR⟩ := hrel
    obtain ⟨wo, rfl⟩ : ∃ wo : World, wo = wr := ⟨_, rfl⟩
    have hc := HR.2.cell (j := 0) (show _ = some (Value.int .i64 (N : Int)) from rfl)
    have hbig := eN_17 hN
    have hbb := eN_mono hb
    by_cases hlt : b < N
    · have HH := hidd HR
      clear HR
      gi_wp2
      gi_loopw [3, 5] (fun k e wr => ∃ i q : Nat, i ≤ b ∧ q = eN b + i ∧ e = .int .i64 i ∧ k = .int .i64 (q : Int) ∧ RelI Bn N J (eseq b ++ rowE b i) wr)
        (fun _ e _ => b - (intOf e).toNat)
      case atStart => exact ⟨0, eN b, by omega, rfl, rfl, rfl, by simpa [rowE] using HH.out⟩
      case round =>
        obtain ⟨i, q, hi, hq, rfl, rfl, HR2⟩ := hrel
        have hqb : q ≤ 272 := by omega
        have HQ := hidd hq
        clear hq
        by_cases hlt2 : i < b
        · obtain ⟨⟨ys, hys, hJy⟩, hBy⟩ := HR2
          have hlen : ys.length < eN N := by
            have h1 := eN_mono (show b + 1 ≤ N by omega)
            rw [eN] at h1
            have h2 : (ys.map Edg.v).length = (eseq b ++ rowE b i).length := by rw [hys]
            rw [List.length_map, List.length_append, eseq_len] at h2
            simp [rowE] at h2; omega
          have HYS := hidd hys
          clear hys
          obtain ⟨fn, tmps, assign, body, hy, hR⟩ := HY.out ys ⟨(q, i, b), HQ.out, hlt2, hlt⟩ wr hJy hlen
          have HK := hidd hBy
          have HRR := hidd hR
          clear hBy hR hlen hJy
          dsimp only [encE] at hy
          gi_wp2
          refine HRR.out.mono ?_
          rintro e W3 (⟨rfl, hJ3, hk3⟩ | ⟨rfl, hx3⟩)
          · have hrow : rowE b (i + 1) = rowE b i ++ [(q, i, b)] := by rw [rowE_succ, HQ.out]
            have K3 := hidd (show RelI Bn N J (eseq b ++ rowE b (i + 1)) W3 from ⟨⟨_, by rw [List.map_append, HYS.out, hrow, ← List.append_assoc]; rfl, hJ3⟩, blk_kp HK.out hk3⟩)
            clear hJ3 hk3 hrow
            gi_wp2
            go_roundw
            case rel => exact ⟨i + 1, q + 1, by omega, by have := HQ.out; omega, by go_num, by go_num, K3.out⟩
            case measure => simp [intOf]; omega
          · have X3 := hidd hx3
            clear hx3
            gi_wp2
            refine bodyPost_ret (results_none rfl _ _ _) rfl ?_
            exact ⟨⟨_, rfl⟩, .inr ⟨_, trivial, X3.out⟩⟩
        · have hib : i = b := by omega
          subst hib
          have HK := hidd HR2
          clear HR2
          gi_wp2
          go_roundw
          case rel => exact ⟨i + 1, by omega, by omega, by go_num, by rw [eN, ← HQ.out], by rw [eseq]; exact HK.out⟩
          case measure => simp [intOf]; omega
    · have hbN : b = N := by omega
      subst hbN
      have HK := hidd HR
      clear HR
      gi_wp2
      go_end0
      exact ⟨⟨_, rfl⟩, .inl HK.out.1⟩
end Go.Proofs.Ytikcmgmgdbbcfaa
