/- grow: the colouring has the points that are asked for. -/
import Derived.Test.YtckffliiidgilaaDoorGrq
namespace Go.Proofs.YtckffliiidgilaaDoor
set_option linter.unusedVariables false
set_option linter.unusedSimpArgs false
open Go Go.RowKit Go.Shelf
attribute [local go_sem] Oper.semAt_some
theorem inLoadMid {F : Fence} {n : Nat} {P : Program} {ops : Array Oper} {rest : List Oper} {o : Oper} {a : Act} {w : World} {Q : Exit → Act → World → Prop} (hgd : o.guard = none) (ty : TypeId) (x : Operand) (ho : o.op = .load ty x)
    (b off : Nat) (hx : a.eval x = .pointer (some ⟨b, off, none⟩)) (cs : List Value) (d : TypeDesc) (hc : w.rangeAt b off cs)
    (hu : P.underlying ty = some d) (hd : d.isRow = true) (hi : (P.info? ty).map (·.size) = some cs.length)
    (h : wpListIn F n P ops Q rest (a.put o.dst (.agg cs.toArray)) w) : wpListIn F n P ops Q (o :: rest) a w := by
  refine wpListIn_plain hgd fun K hK => ?_
  unfold Oper.wpIn
  rw [Oper.semAt_eq _ _ _ (fun c h => by rw [ho] at h; cases h)]
  refine ⟨fun f hf => by simp [Oper.about, ho] at hf, ?_⟩
  unfold execOp
  simp only [ho, hx, Instr.loadAt, Instr.sureAddr, Sem.run_bind, Sem.run_pure, Result.andThen_ok, run_loadVar_mid w b off ty cs d hc hu hd hi]
  exact hK _ _ h
theorem Kx.setCell {nb : List Nat} {B : Nat} {X Y : World} (h : Kx nb B X Y) (p : Addr) (v : Value) (hp : X.heap.size ≤ p.block) : Kx nb B X (Y.setCell p v) :=
  ⟨by simpa [World.setCell] using h.1, fun k hk hb => (heap_setCell_other Y p k v (by omega)).trans (h.2 k hk hb)⟩
theorem Kx.below {nb : List Nat} {B C : Nat} {X Y Z : World} (h : Kx nb B X Y) (hb : Below C Y Z) (hC : X.heap.size ≤ C) : Kx nb B X Z :=
  ⟨Nat.le_trans h.1 hb.size, fun k hk hx => (hb.block k (by omega)).trans (h.2 k hk hx)⟩
/-- The four boxes of a call. -/
def RelGb (w : World) (C : Array Value) (n : Int) (l : Nat) (r : Bool) (W : World) : Prop := Blk W w.heap.size C 56 ∧ Blk W (w.heap.size + 1) #[.int .i64 n] 2 ∧ Blk W (w.heap.size + 1 + 1) #[.func (.yield l) #[] #[]] 92 ∧ Blk W (w.heap.size + 1 + 1 + 1) #[.bool r] 4
theorem RelGb.below {w W W' : World} {C : Array Value} {n : Int} {l : Nat} {r : Bool} (h : RelGb w C n l r W) (hb : Below W.heap.size W W') : RelGb w C n l r W' :=
  ⟨h.1.below hb h.1.lt, h.2.1.below hb h.2.1.lt, h.2.2.1.below hb h.2.2.1.lt, h.2.2.2.below hb h.2.2.2.lt⟩
theorem RelGb.kx {w W W' : World} {C : Array Value} {n : Int} {l : Nat} {r : Bool} {nb : List Nat} {B : Nat} (h : RelGb w C n l r W) (hk : Kx nb B W W') (hB : B ≤ w.heap.size) : RelGb w C n l r W' :=
  ⟨(hk.2 _ h.1.lt (.inl hB)).trans h.1, (hk.2 _ h.2.1.lt (.inl (by omega))).trans h.2.1, (hk.2 _ h.2.2.1.lt (.inl (by omega))).trans h.2.2.1, (hk.2 _ h.2.2.2.lt (.inl (by omega))).trans h.2.2.2⟩
theorem RelGb.put {w W : World} {C : Array Value} {n : Int} {l : Nat} {r : Bool} (h : RelGb w C n l r W) (r' : Bool) : RelGb w C n l r' (W.setCell ⟨w.heap.size + 1 + 1 + 1, 0, none⟩ (.bool r')) :=
  ⟨h.1.other _ _ (by show w.heap.size ≠ w.heap.size + 1 + 1 + 1; omega), h.2.1.other _ _ (by show w.heap.size + 1 ≠ w.heap.size + 1 + 1 + 1; omega), h.2.2.1.other _ _ (by show w.heap.size + 1 + 1 ≠ w.heap.size + 1 + 1 + 1; omega), h.2.2.2.same 0 (.bool r')⟩
theorem RelGb.new (w : World) (C : Array Value) (n : Int) (l : Nat) : RelGb w C n l false ((((w.alloc (.cells C 56)).alloc (.cells #[.int .i64 n] 2)).alloc (.cells #[.func (.yield l) #[] #[]] 92)).alloc (.cells #[.bool false] 4)) ∧
    Below w.heap.size w ((((w.alloc (.cells C 56)).alloc (.cells #[.int .i64 n] 2)).alloc (.cells #[.func (.yield l) #[] #[]] 92)).alloc (.cells #[.bool false] 4)) ∧
    ((((w.alloc (.cells C 56)).alloc (.cells #[.int .i64 n] 2)).alloc (.cells #[.func (.yield l) #[] #[]] 92)).alloc (.cells #[.bool false] 4)).heap.size = w.heap.size + 4 :=
  ⟨⟨(((Blk.new _ _ _ _ rfl).alloc _).alloc _).alloc _, ((Blk.new _ _ _ _ (by simp)).alloc _).alloc _, (Blk.new _ _ _ _ (by simp)).alloc _, Blk.new _ _ _ _ (by simp)⟩,
    ((((Below.refl w.heap.size w).alloc (Nat.le_refl _) _).alloc (by simp) _).alloc (by simp; omega) _).alloc (by simp; omega) _, by simp⟩
set_option maxRecDepth 100000 in
set_option maxHeartbeats 4000000 in
theorem grow_base (zs : List Int) (K bl off cap n : Nat) : GrowC zs K bl off cap n 0 := by
  intro N bs w nb B l J Jx n1 hNn hb hi hs hnb hbl hB hJ hJx hY h0
  have hNn' : n = N := by omega
  subst hNn'
  have S1 := hidd (size_l28 (n : Int) (K : Int) hb)
  obtain ⟨C, hC⟩ : ∃ C, C = (scl (n : Int) (K : Int) bs (some ⟨bl, off, none⟩) K cap).toArray := ⟨_, rfl⟩
  have hC0 : C[0]? = some (.int .i64 (n : Int)) := by rw [hC]; exact scl_fst 0 _ rfl
  have HRG := hidd (fun W (h : Blk W w.heap.size C 56) => h.range 0 (ccells (n : Int) (K : Int) bs) (fun j v hj => by rw [hC]; exact scl_fst j v hj))
  rw [← hC]
  have HN := RelGb.new w C (n : Int) l
  have G := hidd HN
  have hJ0 : J [] ((((w.alloc (.cells C 56)).alloc (.cells #[.int .i64 (n : Int)] 2)).alloc (.cells #[.func (.yield l) #[] #[]] 92)).alloc (.cells #[.bool false] 4)) := hJ _ _ _ h0 (HN.2.1.mono hB)
  have HK0 := hidd (show Kx nb B w ((((w.alloc (.cells C 56)).alloc (.cells #[.int .i64 (n : Int)] 2)).alloc (.cells #[.func (.yield l) #[] #[]] 92)).alloc (.cells #[.bool false] 4)) from Kx.of_below HN.2.1)
  obtain ⟨fn, tmps, assign, body, hy, hRn⟩ := hY [] bs [] ((((w.alloc (.cells C 56)).alloc (.cells #[.int .i64 (n : Int)] 2)).alloc (.cells #[.func (.yield l) #[] #[]] 92)).alloc (.cells #[.bool false] 4)) (by rw [HN.2.2]; omega) rfl hJ0
  have HRR := hidd hRn
  have HJ := hidd hJ
  have HJX := hidd hJx
  have hbs : grL zs K 0 n bs = [bs] := rfl
  rw [hbs]
  have c0 := HN.1.1.cell hC0
  have c1 := HN.1.2.1.cell (j := 0) (show _ = some (Value.int .i64 (n : Int)) from rfl)
  have c2 := HN.1.2.2.1.cell (j := 0) (show _ = some (Value.func (.yield l) #[] #[]) from rfl)
  have hEq : ((n : Int) == (n : Int)) = true := by simp
  clear hC hC0 hY h0 hJ hJx hRn hs hJ0 HN
  refine (callsIn_wide (n := 1)).1 (callsIn_of_wp Tryd.func93 rfl trivial ?_ rfl)
  simp only [Tryd.ntmps93, List.size_toArray, List.length_cons, List.length_nil, Nat.reduceAdd, Nat.reduceSub, Array.replicate_succ, Array.replicate_zero, List.push_toArray, List.append_toArray, List.nil_append, List.cons_append]
  gi_wp2_with (refine inLoadMid rfl 28 (.tmp 14) rfl w.heap.size 0 rfl (ccells (n : Int) (K : Int) bs) _ (HRG.out _ G.out.1.1) Tryd.underlying28 rfl S1.out ?_)
  refine HRR.out.mono ?_
  rintro e W3 ⟨hk3, ⟨rfl, hJ3⟩ | ⟨rfl, hx3⟩⟩
  · have hR3 := G.out.1.kx hk3 hB
    have c3 := hR3.2.2.2.cell (j := 0) (show _ = some (Value.bool false) from rfl)
    have f3 := hR3.2.2.2.fro 0
    have HP := hidd (hR3.put true)
    have e3 := (hR3.put true).2.2.2.cell (j := 0) (show _ = some (Value.bool true) from rfl)
    have HK := hidd ((HK0.out.trans hk3).setCell ⟨w.heap.size + 1 + 1 + 1, 0, none⟩ (.bool true) (by show w.heap.size ≤ w.heap.size + 1 + 1 + 1; omega))
    have HF := hidd (HJ.out _ _ _ hJ3 ((Below.refl B W3).setCell (p := ⟨w.heap.size + 1 + 1 + 1, 0, none⟩) (by show B ≤ w.heap.size + 1 + 1 + 1; omega) (.bool true)))
    clear hJ3 hk3 hR3
    gi_wp2_with fail
    refine bodyPost_ret (v := .bool true) (by simp [results, Tryd.results93, go_sem, e3]) rfl ?_
    exact ⟨HK.out, .inl ⟨rfl, HF.out⟩⟩
  · have hR3 := G.out.1.kx hk3 hB
    have c3 := hR3.2.2.2.cell (j := 0) (show _ = some (Value.bool false) from rfl)
    have f3 := hR3.2.2.2.fro 0
    have e3 := (hR3.put false).2.2.2.cell (j := 0) (show _ = some (Value.bool false) from rfl)
    have HK := hidd ((HK0.out.trans hk3).setCell ⟨w.heap.size + 1 + 1 + 1, 0, none⟩ (.bool false) (by show w.heap.size ≤ w.heap.size + 1 + 1 + 1; omega))
    have HF := hidd (HJX.out _ _ (W3.setCell ⟨w.heap.size + 1 + 1 + 1, 0, none⟩ (.bool false)) hx3 ((Below.refl B W3).setCell (p := ⟨w.heap.size + 1 + 1 + 1, 0, none⟩) (by show B ≤ w.heap.size + 1 + 1 + 1; omega) (.bool false)) (by
      intro k C' t fr hk
      by_cases e : k = w.heap.size + 1 + 1 + 1
      · subst e
        have h5 := hR3.2.2.2.symm.trans hk
        have h6 := (hR3.put false).2.2.2
        rw [← h5]; exact h6
      · exact (heap_setCell_other W3 ⟨w.heap.size + 1 + 1 + 1, 0, none⟩ k (.bool false) e).trans hk))
    clear hx3 hk3 hR3
    gi_wp2_with fail
    refine bodyPost_ret (v := .bool false) (by simp [results, Tryd.results93, go_sem, e3]) rfl ?_
    exact ⟨HK.out, .inr ⟨rfl, [], bs, [], rfl, HF.out⟩⟩
end Go.Proofs.YtckffliiidgilaaDoor
