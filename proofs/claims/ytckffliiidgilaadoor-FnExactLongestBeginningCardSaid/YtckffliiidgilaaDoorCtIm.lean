/- CountTriangles: the program's own text. -/
import Derived.Test.YtckffliiidgilaaDoorTriC
namespace Go.Proofs.YtckffliiidgilaaDoor
set_option linter.unusedVariables false
set_option linter.unusedSimpArgs false
open Go Go.RowKit Go.Shelf
attribute [local go_sem] Oper.semAt_some
theorem inLoadRowIf {F : Fence} {n : Nat} {P : Program} {ops : Array Oper} {rest : List Oper} {o : Oper} {a : Act} {w : World} {Q : Exit → Act → World → Prop} (hw : Region.wanted o (yielded ops a.tmps) = true) (ty : TypeId) (x : Operand) (ho : o.op = .load ty x)
    (g : Nat) (hx : a.eval x = .pointer (some ⟨g, 0, none⟩)) (t : TypeId) (cs : Array Value) (d : TypeDesc) (hg : Blk w g cs t)
    (hu : P.underlying ty = some d) (hd : (match d with | .struct _ | .array _ _ => true | _ => false) = true) (hi : (P.info? ty).map (·.size) = some cs.size)
    (h : wpListIn F n P ops Q rest (a.put o.dst (.agg cs)) w) : wpListIn F n P ops Q (o :: rest) a w := by
  refine BigFrame.wpListIn_want hw fun K hK => ?_
  unfold Oper.wpIn
  rw [Oper.semAt_eq _ _ _ (fun c h => by rw [ho] at h; cases h)]
  refine ⟨fun f hf => by simp [Oper.about, ho] at hf, ?_⟩
  unfold execOp
  simp only [ho, hx, Instr.loadAt, Instr.sureAddr, Sem.run_bind, Sem.run_pure, Result.andThen_ok, run_loadVar_row w g t ty cs (0, 0) d hg hu hd hi]
  exact hK _ _ h
theorem teC_le (bs : List Nat) (c : Nat) : ∀ (l : List (Nat × Nat × Nat)) (B : Nat), (∀ t ∈ l, t.2.1 ≤ B) → teC bs l c ≤ l.length * B
  | [], B, _ => by simp [teC]
  | t :: l, B, h => by
    have h1 := teC_le bs c l B (fun t ht => h t (List.mem_cons_of_mem _ ht))
    have h2 := teS_le bs (c : Int) t
    have h3 := h t (List.mem_cons_self ..)
    have : teC bs (t :: l) c = teS bs (c : Int) t + teC bs l c := rfl
    rw [this, List.length_cons, Nat.succ_mul]; omega
theorem te_hit {K : Nat} {bs : List Nat} {l : List (Nat × Nat × Nat)} {t : Nat × Nat × Nat} {m y : Nat} (hy : bs.getD t.1 0 = y) (h1 : colAt bs m t.2.1 = y) (h2 : colAt bs m t.2.2 = y) :
    (dgL K (teP bs l t m)).set y ((teP bs l t m y : Int) + 1) = dgL K (teP bs l t (m + 1)) := by
  have := dgL_set K (teP bs l t m) y (teP bs l t m y + 1)
  rw [Int.natCast_add] at this
  rw [show (1 : Int) = ((1 : Nat) : Int) from rfl, this]
  refine dgL_congr fun c _ => ?_
  rw [teP_step, hy]
  by_cases e : c = y
  · subst e; rw [if_pos rfl, if_pos ⟨rfl, h1, h2⟩]
  · rw [if_neg e, if_neg (fun h => e (by have := h.1; omega))]; rfl
theorem te_miss {K : Nat} {bs : List Nat} {l : List (Nat × Nat × Nat)} {t : Nat × Nat × Nat} {m y : Nat} (hy : bs.getD t.1 0 = y) (h : ¬ (colAt bs m t.2.1 = y ∧ colAt bs m t.2.2 = y)) :
    dgL K (teP bs l t (m + 1)) = dgL K (teP bs l t m) := by
  refine dgL_congr fun c _ => ?_
  rw [teP_step, hy]
  by_cases e : c = y
  · subst e; rw [if_neg (fun h' => h h'.2)]; rfl
  · rw [if_neg (fun h' => e (by have := h'.1; omega))]; rfl
theorem teP_le {N : Nat} (hN : N ≤ 17) (bs : List Nat) (pre : List (Edg N)) (hl : pre.length < 136) (t : Nat × Nat × Nat) (m c : Nat) (hm : m ≤ 17) : teP bs (pre.map Edg.v) t m c ≤ 4096 := by
  have h1 := teC_le bs c (pre.map Edg.v) 17 (fun t ht => by
    obtain ⟨x, _, rfl⟩ := List.mem_map.1 ht
    have := x.2
    show x.1.2.1 ≤ 17
    omega)
  rw [List.length_map] at h1
  unfold teP
  have h2 := sm_le (f := teF bs (c : Int) t.2.1 t.2.2) (B := 1) m (fun j _ => by unfold teF; split <;> omega)
  split <;> omega
def RelTd {N : Nat} (K : Nat) (k : Int) (bs : List Nat) (g : Nat) (w : World) (pre : List (Edg N)) (W : World) : Prop :=
  Blk W w.heap.size (ccells (N : Int) k bs).toArray 28 ∧ Blk W g (icells (dgL K (teC bs (pre.map Edg.v)))).toArray 2 ∧ Blk W (g + 1) #[.slice (some ⟨g, 0, none⟩) K K] 25 ∧ Below w.heap.size w W
theorem dgL_zero' (K : Nat) (bs : List Nat) : zrow K = (icells (dgL K (teC bs []))).toArray := by
  rw [zrow_icells]
  congr 2
  apply List.ext_getElem
  · simp [dgL]
  · intro p h1 h2
    simp [dgL, teC]
/-- In the inner loop. -/
def RelTi {N : Nat} (K : Nat) (k : Int) (bs : List Nat) (g b B : Nat) (w W : World) (pre : List (Edg N)) (t : Nat × Nat × Nat) (m : Nat) (wr : World) : Prop :=
  Blk wr w.heap.size (ccells (N : Int) k bs).toArray 28 ∧ Blk wr g (icells (dgL K (teP bs (pre.map Edg.v) t m))).toArray 2 ∧ Blk wr (g + 1) #[.slice (some ⟨g, 0, none⟩) K K] 25 ∧ Below w.heap.size w wr ∧
    Blk wr b #[.int .i64 (t.2.1 : Int), .int .i64 (t.2.2 : Int)] 145 ∧ KeepsFrom B W wr ∧ KpB (g + 1 + 1) W wr ∧ g + 1 + 1 < wr.heap.size
theorem relTi_step {N K : Nat} {k : Int} {bs : List Nat} {g b B : Nat} {w W : World} {pre : List (Edg N)} {t : Nat × Nat × Nat} {m : Nat} {wr w1 : World} (h : RelTi K k bs g b B w W pre t m wr) (hb : Below wr.heap.size wr w1) : RelTi K k bs g b B w W pre t m w1 :=
  ⟨h.1.below hb h.1.lt, h.2.1.below hb h.2.1.lt, h.2.2.1.below hb h.2.2.1.lt, h.2.2.2.1.trans (hb.mono h.2.2.2.1.size), h.2.2.2.2.1.below hb h.2.2.2.2.1.lt, h.2.2.2.2.2.1.trans (keeps_below hb), kpB_t h.2.2.2.2.2.2.1 (hb.block _ h.2.2.2.2.2.2.2), Nat.lt_of_lt_of_le h.2.2.2.2.2.2.2 hb.size⟩
end Go.Proofs.YtckffliiidgilaaDoor
