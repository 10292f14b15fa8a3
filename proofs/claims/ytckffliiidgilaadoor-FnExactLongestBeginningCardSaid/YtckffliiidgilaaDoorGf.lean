/- My texts Join, JoinIm, JoinSp, Angle, AngleIm, ClqSp, ClqMo, ClqIm, Com, ComIm, ExchIm, in one. -/
import Derived.Test.YtckffliiidgilaaDoorGc
/- JoinColours: the rule and the program. -/
namespace Go.Proofs.YtckffliiidgilaaDoor
set_option linter.unusedVariables false
set_option linter.unusedSimpArgs false
open Go Go.RowKit
def jq (c d x : Int) : Int := if x = d then c else if d < x then x - 1 else x
theorem jq_eq {c d x : Int} (h : x = d) : jq c d x = c := if_pos h
theorem jq_gt {c d x : Int} (h : d < x) : jq c d x = x - 1 := by unfold jq; rw [if_neg (by omega), if_pos h]
theorem jq_lt {c d x : Int} (h : x < d) : jq c d x = x := by unfold jq; rw [if_neg (by omega), if_neg (by omega)]
theorem jq_bd {c d x : Int} (hc : 0 ≤ c ∧ c < 256) (hd : 0 ≤ d) (hx : 0 ≤ x ∧ x < 256) : 0 ≤ jq c d x ∧ jq c d x < 256 := by
  unfold jq
  split
  · exact hc
  · split <;> omega
def jcCode (n k : Int) (bs : List Nat) (c d : Int) : Int := if isCol n k bs = true then (if setB [c, d] k = true then 0 else 2) else 1
def jcN (n k : Int) (bs : List Nat) (c d : Int) : Int := if jcCode n k bs c d = 0 then n else 0
def jcK (n k : Int) (bs : List Nat) (c d : Int) : Int := if jcCode n k bs c d = 0 then k - 1 else 0
def jcB (n k : Int) (bs : List Nat) (c d : Int) : List Nat := if jcCode n k bs c d = 0 then paintB n.toNat (fun lo hi => jq c d (colAt bs lo hi)) else zbl
def jcOut (n k : Int) (bs : List Nat) (c d : Int) : Value := .tuple #[.agg (ccells (jcN n k bs c d) (jcK n k bs c d) (jcB n k bs c d)).toArray, .int .i64 (jcCode n k bs c d)]
theorem jcOut_bad {n k : Int} {bs : List Nat} {c d m : Int} (h : jcCode n k bs c d = m) (hm : m ≠ 0) : jcOut n k bs c d = .tuple #[.agg (ccells 0 0 zbl).toArray, .int .i64 m] := by
  unfold jcOut jcN jcK jcB
  rw [h, if_neg hm, if_neg hm, if_neg hm]
theorem jcOut_good {n k : Int} {bs : List Nat} {c d : Int} (h : jcCode n k bs c d = 0) : jcOut n k bs c d = .tuple #[.agg (ccells n (k - 1) (paintB n.toNat (fun lo hi => jq c d (colAt bs lo hi)))).toArray, .int .i64 0] := by
  unfold jcOut jcN jcK jcB
  rw [h, if_pos rfl, if_pos rfl, if_pos rfl]
theorem jcCode_1 {n k : Int} {bs : List Nat} {c d : Int} (h : isCol n k bs = false) : jcCode n k bs c d = 1 := by simp [jcCode, h]
theorem jcCode_2 {n k : Int} {bs : List Nat} {c d : Int} (h : isCol n k bs = true) (h2 : setB [c, d] k = false) : jcCode n k bs c d = 2 := by simp [jcCode, h, h2]
theorem jcCode_0 {n k : Int} {bs : List Nat} {c d : Int} (h : isCol n k bs = true) (h2 : setB [c, d] k = true) : jcCode n k bs c d = 0 := by simp [jcCode, h, h2]
theorem set2 {c d k : Int} : setB [c, d] k = (decide (c < d) && belowB c k && belowB d k) := by
  unfold setB
  have h1 : ascB [c, d] = decide (c < d) := by
    by_cases h : c < d
    · rw [decide_eq_true h]
      exact ascB_yes (m := 1) (fun i hi1 hi2 => match i, hi1, hi2 with | 0, _, _ => h) (by simp)
    · rw [decide_eq_false h]
      exact ascB_no (i := 0) (by simp) h
  rw [h1]
  simp [allB, Bool.and_assoc]
theorem set2_bd {c d k : Int} (h : setB [c, d] k = true) : 0 ≤ c ∧ c < d ∧ d < k := by
  rw [set2, Bool.and_eq_true, Bool.and_eq_true] at h
  have h1 := of_decide_eq_true h.1.1
  have h2 := inB_bd h.1.2
  have h3 := inB_bd h.2
  omega
theorem jcB_bys {n k : Int} {bs : List Nat} (hb : Bys bs) (c d : Int) : Bys (jcB n k bs c d) := by
  unfold jcB
  split
  · rename_i h
    unfold jcCode at h
    split at h
    · rename_i hi
      split at h
      · rename_i hs
        have := set2_bd hs
        have := isCol_bd hi
        exact paintB_bys fun lo hi => jq_bd (by omega) (by omega) (colAt_bd hb _ _)
      · cases h
    · cases h
  · exact zbl_bys
end Go.Proofs.YtckffliiidgilaaDoor
/- JoinColours: the program. -/
namespace Go.Proofs.YtckffliiidgilaaDoor
set_option linter.unusedVariables false
set_option linter.unusedSimpArgs false
open Go Go.RowKit
end Go.Proofs.YtckffliiidgilaaDoor
/- JoinColours: its model. -/
namespace Go.Proofs.YtckffliiidgilaaDoor
set_option linter.unusedVariables false
set_option linter.unusedSimpArgs false
open Go Go.RowKit
def qL (c d : Int) (m : Nat) : List Int := (List.range m).map fun (o : Nat) => jq c d (o : Int)
theorem qL_len (c d : Int) (m : Nat) : (qL c d m).length = m := by simp [qL]
theorem qL_snoc (c d : Int) (m : Nat) : qL c d (m + 1) = qL c d m ++ [jq c d (m : Int)] := by simp [qL, List.range_succ]
theorem qL_get {c d : Int} {m i : Nat} (h : i < m) : (qL c d m).getD i 0 = jq c d (i : Int) := by simp [qL, List.getD, h]
def RelJ (c d : Int) (C Z : Array Value) (w : World) (j : Nat) (v : Value) (wr : World) : Prop :=
  Blk wr w.heap.size C 28 ∧ Blk wr (w.heap.size + 1) Z 28 ∧ wr.ownsRow (w.heap.size + 1 + 1) 2 1 v (qL c d j).length (icells (qL c d j)) ∧ Below w.heap.size w wr
theorem jc_paint {N : Nat} {k : Int} {bs : List Nat} {K : Nat} (hb : Bys bs) (hi : isCol (N : Int) k bs = true) (hk : (K : Int) = k) (c d : Int) :
    paintB N (fun lo hi => (qL c d K).getD (colAt bs lo hi).toNat 0) = paintB N (fun lo hi => jq c d (colAt bs lo hi)) := by
  have hbd := isCol_bd hi
  refine paint_congr fun lo hi' h1 h2 => ?_
  have h0 := (colAt_bd hb lo hi').1
  have he := colAt_eN bs h1
  have hm := eN_mono (a := hi' + 1) (b := N) (by omega)
  have h17 := eN_17 (n := N) (by omega)
  have hs : eN (hi' + 1) = eN hi' + hi' := rfl
  have := col_lo hi (i := eN hi' + lo) (by rw [← eN_edg]; omega) (by omega)
  rw [qL_get (by omega)]
  congr 1
end Go.Proofs.YtckffliiidgilaaDoor
/- The angle number: sums, and the model. -/
namespace Go.Proofs.YtckffliiidgilaaDoor
set_option linter.unusedVariables false
set_option linter.unusedSimpArgs false
open Go Go.RowKit Go.Shelf
def sm (f : Nat → Nat) : Nat → Nat
  | 0 => 0
  | m + 1 => sm f m + f m
theorem sm_congr {f g : Nat → Nat} : ∀ m, (∀ j, j < m → f j = g j) → sm f m = sm g m
  | 0, _ => rfl
  | m + 1, h => by rw [sm, sm, sm_congr m fun j hj => h j (by omega), h m (by omega)]
theorem sm_add (f g : Nat → Nat) : ∀ m, sm (fun i => f i + g i) m = sm f m + sm g m
  | 0 => rfl
  | m + 1 => by rw [sm, sm, sm, sm_add f g m]; omega
theorem sm_zero : ∀ m, sm (fun _ => 0) m = 0
  | 0 => rfl
  | m + 1 => by rw [sm, sm_zero m]
theorem sm_swap (f : Nat → Nat → Nat) (m : Nat) : ∀ n, sm (fun i => sm (fun j => f i j) m) n = sm (fun j => sm (fun i => f i j) n) m
  | 0 => by simp only [sm]; exact (sm_zero m).symm
  | n + 1 => by
    rw [sm, sm_swap f m n, ← sm_add]
    rfl
theorem sm_le {f : Nat → Nat} {B : Nat} : ∀ m, (∀ j, j < m → f j ≤ B) → sm f m ≤ m * B
  | 0, _ => by simp [sm]
  | m + 1, h => by
    have h1 := sm_le m fun j hj => h j (by omega)
    have h2 := h m (by omega)
    rw [sm, Nat.succ_mul]; omega
theorem i64_in {z : Int} (h0 : 0 ≤ z) (h1 : z ≤ 9223372036854775807) : IntKind.i64.wrap z = z := by
  simp [IntKind.wrap, IntKind.bits, IntKind.signed]; omega
def DD (bs : List Nat) (N p c : Nat) : Nat := cnt (nbB bs (p : Int) (c : Int)) N
theorem DD_le (bs : List Nat) (N p c : Nat) : DD bs N p c ≤ N := cnt_le _ N
def anH (bs : List Nat) (N p c d : Nat) : Nat := DD bs N p c * DD bs N p d
def anG (bs : List Nat) (N p c : Nat) : Nat := sm (anH bs N p c) c
def anF (bs : List Nat) (N K p : Nat) : Nat := sm (anG bs N p) K
def anS (bs : List Nat) (N K : Nat) : Nat := sm (anF bs N K) N
def anI (bs : List Nat) (N K : Nat) : Nat := sm (fun d => sm (fun c => sm (fun p => anH bs N p c d) N) d) K
theorem an_eq (bs : List Nat) (N K : Nat) : anI bs N K = anS bs N K := by
  have e : anS bs N K = sm (fun p => sm (fun d => sm (fun c => anH bs N p d c) d) K) N := rfl
  rw [e, sm_swap (fun p d => sm (fun c => anH bs N p d c) d)]
  refine sm_congr K fun d _ => ?_
  rw [sm_swap (fun p c => anH bs N p d c)]
  exact sm_congr d fun c _ => sm_congr N fun p _ => Nat.mul_comm _ _
theorem anH_le {bs : List Nat} {N : Nat} (hN : N ≤ 17) (p c d : Nat) : anH bs N p c d ≤ 289 := by
  have h1 := DD_le bs N p c
  have h2 := DD_le bs N p d
  exact Nat.le_trans (Nat.mul_le_mul (Nat.le_trans h1 hN) (Nat.le_trans h2 hN)) (by omega)
theorem anG_le {bs : List Nat} {N : Nat} (hN : N ≤ 17) {c : Nat} (hc : c ≤ 4) (p : Nat) : anG bs N p c ≤ 1156 :=
  Nat.le_trans (sm_le c fun j _ => anH_le hN p c j) (by omega)
theorem anF_le {bs : List Nat} {N K : Nat} (hN : N ≤ 17) (hK : K ≤ 4) (p : Nat) : anF bs N K p ≤ 4624 :=
  Nat.le_trans (sm_le K fun j hj => anG_le hN (show j ≤ 4 by omega) p) (by omega)
def anCode (n k : Int) (bs : List Nat) : Int := if isCol n k bs = true then 0 else 1
def anV (n k : Int) (bs : List Nat) : Int := if isCol n k bs = true then ((anS bs n.toNat k.toNat : Nat) : Int) else 0
theorem ones_DD (bs : List Nat) (N p c : Nat) : ones (arK (nbB bs (p : Int) (c : Int)) N) = DD bs N p c := ones_arK _ N
end Go.Proofs.YtckffliiidgilaaDoor
/- The angle number: the program. -/
namespace Go.Proofs.YtckffliiidgilaaDoor
set_option linter.unusedVariables false
set_option linter.unusedSimpArgs false
open Go Go.RowKit Go.Shelf
def an2 (bs : List Nat) (N d c : Nat) : Nat := sm (fun p => anH bs N p c d) N
def an1 (bs : List Nat) (N d : Nat) : Nat := sm (an2 bs N d) d
def dgZ (bs : List Nat) (N d : Nat) : List Int := dgL N (fun p => DD bs N p d)
theorem dgZ_len (bs : List Nat) (N d : Nat) : (dgZ bs N d).length = N := dgL_len _ _
theorem dgZ_get {bs : List Nat} {N d p : Nat} (h : p < N) : (dgZ bs N d).getD p 0 = (DD bs N p d : Int) := dgL_get h
theorem dg_dgZ {N : Nat} {k : Int} {bs : List Nat} {d : Nat} (hi : isCol (N : Int) k bs = true) (hd : (d : Int) < k) : dgList (N : Int) k bs (d : Int) = dgZ bs N d ∧ dgCode (N : Int) k bs (d : Int) = 0 :=
  dg_good (given_0 hi (inB_yes (by omega) (by omega)) rfl)
end Go.Proofs.YtckffliiidgilaaDoor
/- l02Clique and IsClique: the model. -/
namespace Go.Proofs.YtckffliiidgilaaDoor
set_option linter.unusedVariables false
set_option linter.unusedSimpArgs false
open Go Go.RowKit Go.Shelf
def cliB (bs : List Nat) (c : Int) (zs : List Int) : Bool := decide (∀ j, j < zs.length → ∀ i, i < j → colAt bs (zs.getD i 0) (zs.getD j 0) = c)
theorem cli_yes {bs : List Nat} {c : Int} {zs : List Int} (h : ∀ j, j < zs.length → ∀ i, i < j → colAt bs (zs.getD i 0) (zs.getD j 0) = c) : cliB bs c zs = true := decide_eq_true h
theorem cli_no {bs : List Nat} {c : Int} {zs : List Int} {i j : Nat} (hj : j < zs.length) (hi : i < j) (h : colAt bs (zs.getD i 0) (zs.getD j 0) ≠ c) : cliB bs c zs = false :=
  decide_eq_false fun hh => h (hh j hj i hi)
def Cli (bs : List Nat) (c : Int) (zs : List Int) (j : Nat) : Prop := ∀ j', j' < j → ∀ i, i < j' → colAt bs (zs.getD i 0) (zs.getD j' 0) = c
def Cli2 (bs : List Nat) (c : Int) (zs : List Int) (j i : Nat) : Prop := Cli bs c zs j ∧ ∀ i', i' < i → colAt bs (zs.getD i' 0) (zs.getD j 0) = c
theorem Cli2.done {bs : List Nat} {c : Int} {zs : List Int} {j : Nat} (h : Cli2 bs c zs j j) : Cli bs c zs (j + 1) := fun j' hj' i hi => by
  by_cases e : j' = j
  · subst e; exact h.2 i hi
  · exact h.1 j' (by omega) i hi
theorem Cli2.step {bs : List Nat} {c : Int} {zs : List Int} {j i : Nat} (h : Cli2 bs c zs j i) (hc : colAt bs (zs.getD i 0) (zs.getD j 0) = c) : Cli2 bs c zs j (i + 1) := ⟨h.1, fun i' hi' => by
  by_cases e : i' = i
  · subst e; exact hc
  · exact h.2 i' (by omega)⟩
def RelCq (C : Array Value) (zs : List Int) (a : Option Addr) (w : World) (wr : World) : Prop := Blk wr w.heap.size C 28 ∧ SlI wr a zs ∧ Below w.heap.size w wr
end Go.Proofs.YtckffliiidgilaaDoor
/- IsClique: its model. -/
namespace Go.Proofs.YtckffliiidgilaaDoor
set_option linter.unusedVariables false
set_option linter.unusedSimpArgs false
open Go Go.RowKit Go.Shelf
def icCode (n k : Int) (bs : List Nat) (c : Int) (zs : List Int) : Int := if isCol n k bs = true then (if (belowB c k && setB zs n) = true then 0 else 2) else 1
def icV (n k : Int) (bs : List Nat) (c : Int) (zs : List Int) : Bool := if icCode n k bs c zs = 0 then cliB bs c zs else false
theorem ic_bad {n k : Int} {bs : List Nat} {c : Int} {zs : List Int} {m : Int} (h : icCode n k bs c zs = m) (hm : m ≠ 0) : icV n k bs c zs = false ∧ icCode n k bs c zs = m := ⟨by unfold icV; rw [h, if_neg hm], h⟩
theorem icCode_1 {n k : Int} {bs : List Nat} {c : Int} {zs : List Int} (h : isCol n k bs = false) : icCode n k bs c zs = 1 := by simp [icCode, h]
theorem icCode_2 {n k : Int} {bs : List Nat} {c : Int} {zs : List Int} (h : isCol n k bs = true) (h2 : (belowB c k && setB zs n) = false) : icCode n k bs c zs = 2 := by unfold icCode; rw [if_pos h, h2]; rfl
theorem icCode_0 {n k : Int} {bs : List Nat} {c : Int} {zs : List Int} (h : isCol n k bs = true) (h2 : (belowB c k && setB zs n) = true) : icCode n k bs c zs = 0 := by unfold icCode; rw [if_pos h, h2]; rfl
theorem ic_good {n k : Int} {bs : List Nat} {c : Int} {zs : List Int} (h : icCode n k bs c zs = 0) : icV n k bs c zs = cliB bs c zs ∧ icCode n k bs c zs = 0 := ⟨by unfold icV; rw [h, if_pos rfl], h⟩
end Go.Proofs.YtckffliiidgilaaDoor
/- IsClique: the program. -/
namespace Go.Proofs.YtckffliiidgilaaDoor
set_option linter.unusedVariables false
set_option linter.unusedSimpArgs false
open Go Go.RowKit Go.Shelf
theorem slice38 (b o len cap j : Nat) (w : World) (h : j ≤ cap) : (Instr.sliceAt 25 (.slice (some ⟨b, o, none⟩) len cap) none (some (.int .i64 j)) none).run Tryd.prog w = .ok (.slice (some ⟨b, o, none⟩) j cap) w := by
  simp [Instr.sliceAt, Instr.slice, Instr.sureAddr, Instr.sliceBounds, Instr.sliceBound, Sem.run_bind, run_underlying Tryd.underlying25, asIntOf, h, Result.andThen, Addr.add]
end Go.Proofs.YtckffliiidgilaaDoor
/- CommonNeighbours: its model. -/
namespace Go.Proofs.YtckffliiidgilaaDoor
set_option linter.unusedVariables false
set_option linter.unusedSimpArgs false
open Go Go.RowKit Go.Shelf
def cmB (bs : List Nat) (i j c : Int) (q : Nat) : Bool := nbB bs i c q && nbB bs j c q
def cmCode (n k : Int) (bs : List Nat) (i j c : Int) : Int := if isCol n k bs = true then (if (pairB i j n && belowB c k) = true then 0 else 2) else 1
def cmList (n k : Int) (bs : List Nat) (i j c : Int) : List Int := if cmCode n k bs i j c = 0 then nbK (cmB bs i j c) n.toNat else []
theorem cm_bad {n k : Int} {bs : List Nat} {i j c m : Int} (h : cmCode n k bs i j c = m) (hm : m ≠ 0) : cmList n k bs i j c = [] ∧ cmCode n k bs i j c = m := ⟨by unfold cmList; rw [h, if_neg hm], h⟩
theorem cm_good {n k : Int} {bs : List Nat} {i j c : Int} (h : cmCode n k bs i j c = 0) : cmList n k bs i j c = nbK (cmB bs i j c) n.toNat ∧ cmCode n k bs i j c = 0 := ⟨by unfold cmList; rw [h, if_pos rfl], h⟩
theorem cmCode_1 {n k : Int} {bs : List Nat} {i j c : Int} (h : isCol n k bs = false) : cmCode n k bs i j c = 1 := by simp [cmCode, h]
theorem cmCode_2 {n k : Int} {bs : List Nat} {i j c : Int} (h : isCol n k bs = true) (h2 : (pairB i j n && belowB c k) = false) : cmCode n k bs i j c = 2 := by unfold cmCode; rw [if_pos h, h2]; rfl
theorem cmCode_0 {n k : Int} {bs : List Nat} {i j c : Int} (h : isCol n k bs = true) (h2 : (pairB i j n && belowB c k) = true) : cmCode n k bs i j c = 0 := by unfold cmCode; rw [if_pos h, h2]; rfl
theorem cmList_len {n k : Int} {bs : List Nat} {i j c : Int} : (cmList n k bs i j c).length ≤ 17 := by
  unfold cmList
  split
  · rename_i h
    cases hi : isCol n k bs with
    | false => rw [cmCode_1 hi] at h; cases h
    | true =>
      have := isCol_bd hi
      have := nbK_len (cmB bs i j c) n.toNat
      omega
  · simp
theorem cm_bits (bs : List Nat) (i j c : Int) (N : Nat) (q : Nat) : (arK (nbB bs i c) N &&& arK (nbB bs j c) N).testBit q = (decide (q < N) && cmB bs i j c q) := by
  rw [Nat.testBit_and, arK_bit, arK_bit]
  unfold cmB
  cases decide (q < N) <;> simp
end Go.Proofs.YtckffliiidgilaaDoor
/- CommonNeighbours: the program. -/
namespace Go.Proofs.YtckffliiidgilaaDoor
set_option linter.unusedVariables false
set_option linter.unusedSimpArgs false
open Go Go.RowKit Go.Shelf
theorem colAt_comm (bs : List Nat) {i j : Int} (h : i ≠ j) : colAt bs i j = colAt bs j i := by unfold colAt; rw [eix_comm h]
def cmf (bs : List Nat) (j c z : Int) : Bool := decide (z ≠ j) && decide (colAt bs z j = c)
theorem nbK_sift (p : Nat → Bool) (f : Int → Bool) : ∀ N, (nbK p N).filter f = nbK (fun q => p q && f (q : Int)) N
  | 0 => rfl
  | N + 1 => by
    rw [nbK, nbK, ← nbK_sift p f N]
    by_cases hp : p N = true
    · rw [if_pos hp, List.filter_append]
      by_cases hf : f (N : Int) = true
      · rw [if_pos (by rw [hp, hf]; rfl), List.filter_cons_of_pos hf]; rfl
      · rw [if_neg (by rw [hp]; simpa using hf), List.filter_cons_of_neg hf]; simp
    · rw [if_neg hp, if_neg (by simp [hp])]
theorem cm_sift (bs : List Nat) (i j c : Int) (N : Nat) : (nbK (nbB bs i c) N).filter (cmf bs j c) = nbK (cmB bs i j c) N := by
  rw [nbK_sift]
  refine nbK_congr N fun q _ => ?_
  unfold cmB cmf
  congr 1
  unfold nbB
  by_cases h : (q : Int) = j
  · simp [h]
  · rw [colAt_comm bs h]
def siftK (f : Int → Bool) (zs : List Int) (m : Nat) : List Int := (zs.take m).filter f
theorem sift_len (f : Int → Bool) (zs : List Int) (m : Nat) : (siftK f zs m).length ≤ m := by
  unfold siftK
  exact Nat.le_trans (List.length_filter_le _ _) (by simp; omega)
theorem sift_yes {f : Int → Bool} {zs : List Int} {m : Nat} (h : m < zs.length) (hf : f (zs.getD m 0) = true) : siftK f zs (m + 1) = siftK f zs m ++ [zs.getD m 0] := by
  have hg : zs.getD m 0 = zs[m] := by simp [List.getD, List.getElem?_eq_getElem h]
  unfold siftK
  rw [List.take_succ_eq_append_getElem h, List.filter_append, ← hg, List.filter_cons_of_pos hf]; rfl
theorem sift_no {f : Int → Bool} {zs : List Int} {m : Nat} (h : m < zs.length) (hf : f (zs.getD m 0) = false) : siftK f zs (m + 1) = siftK f zs m := by
  have hg : zs.getD m 0 = zs[m] := by simp [List.getD, List.getElem?_eq_getElem h]
  unfold siftK
  rw [List.take_succ_eq_append_getElem h, List.filter_append, ← hg, List.filter_cons_of_neg (by rw [hf]; simp)]; simp
theorem sift_all (f : Int → Bool) (zs : List Int) : siftK f zs zs.length = zs.filter f := by unfold siftK; rw [List.take_length]
def RelCm (f : Int → Bool) (zs : List Int) (w2 : World) (m : Nat) (v : Value) (wr : World) : Prop :=
  wr.ownsRow w2.heap.size 2 1 v (siftK f zs m).length (icells (siftK f zs m)) ∧ Below w2.heap.size w2 wr
theorem RelCm.skip {f : Int → Bool} {zs : List Int} {w2 wr w1 : World} {m : Nat} {v : Value} (h : RelCm f zs w2 m v wr) (hb : Below wr.heap.size wr w1) (e : siftK f zs (m + 1) = siftK f zs m) : RelCm f zs w2 (m + 1) v w1 :=
  ⟨by rw [e]; exact own_below h.1 hb (Nat.le_refl _), h.2.trans (hb.mono h.2.size)⟩
end Go.Proofs.YtckffliiidgilaaDoor
/- ExchangeColours: its model and the program. -/
namespace Go.Proofs.YtckffliiidgilaaDoor
set_option linter.unusedVariables false
set_option linter.unusedSimpArgs false
open Go Go.RowKit Go.Shelf
end Go.Proofs.YtckffliiidgilaaDoor
