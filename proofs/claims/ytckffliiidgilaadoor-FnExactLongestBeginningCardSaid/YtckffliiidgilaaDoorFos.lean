/- firstOfSize: the first clique of a colour with so many points. -/
import Derived.Test.YtckffliiidgilaaDoorCit
namespace Go.Proofs.YtckffliiidgilaaDoor
set_option linter.unusedVariables false
set_option linter.unusedSimpArgs false
open Go Go.RowKit Go.Shelf
attribute [local go_sem] Oper.semAt_some
theorem nsF_sym (bs : List Nat) (c : Int) (l : List (Nat × Nat × Nat)) {N : Nat} (hN : N ≤ 17) : ∀ p q, p < N → q < N → (nsF bs c l q).testBit p = (nsF bs c l p).testBit q := by
  intro p q hp hq
  rw [nsF_bit, nsF_bit, decide_eq_true (show p < 17 by omega), decide_eq_true (show q < 17 by omega)]
  have : adjT bs c q p = adjT bs c p q := by
    funext t
    unfold adjT
    congr 1
    rw [Bool.or_comm, Bool.and_comm (decide (t.2.2 = q)), Bool.and_comm (decide (t.2.1 = q))]
  rw [this]
theorem kpC_t {bx bn : Nat} {X Y Z : World} (h : KpC bx bn X Y) (k : KpC bx bn Y Z) : KpC bx bn X Z := ⟨kpB_t h.1 k.1, kpB_t h.2 k.2⟩
theorem kpC_b {bx bn : Nat} {w : World} (h1 : bx < w.heap.size) (h2 : bn < w.heap.size) (W : World) (l : Nat) (o o' : Obj) (hl : w.heap.size ≤ l) (a : W.heap[l]? = some o) (b : o.isCells = false) (c : o.isWalk = false) : KpC bx bn W (W.putObj l o') :=
  ⟨kpB_b h1 W l o o' hl a b c, kpB_b h2 W l o o' hl a b c⟩
theorem seq58 (m bx bn : Nat) (N : Nat) (k : Int) (bs : List Nat) (hb : Bys bs) (F : Nat → Nat) (hN1 : 1 ≤ N) (hN : N ≤ 17) (hF : ∀ p, F p < 2 ^ 17) (hsym : ∀ p q, p < N → q < N → (F q).testBit p = (F p).testBit q)
    (w : World) (hB1 : Blk w bx (ccells (N : Int) k bs).toArray 28) (hB2 : Blk w bn (ncell F).toArray 125) :
    SeqStopsK Fence.wide (m + 1) Tryd.prog 110 #[.pointer (some ⟨bx, 0, none⟩), .pointer (some ⟨bn, 0, none⟩)] (fun x : Cl N => encC x) (KpC bx bn) (fun ys => ys.map Cl.v = cqR (fitR F) N [] N) (fun pre => ∃ rest, pre.map Cl.v ++ rest = cqR (fitR F) N [] N) (cqR (fitR F) N [] N).length w := fun l J Jx W hW hJ _ hY h0 =>
  iter58 m l bx bn N k bs hb F hN1 hN hF hsym J Jx W.heap.size hJ hY W (hB1.below hW hB1.lt) (hB2.below hW hB2.lt) h0
theorem results_cell_one {P : Program} {fn : Func} {p : Tmp} {ty : TypeId} (h : fn.results = #[.cell p ty]) (tmps : Array Value) (w : World) (g : Nat) (v : Value)
    (hp : tmps.getD p undef = .pointer (some ⟨g, 0, none⟩)) (hl : (loadVar ty ⟨g, 0, none⟩).run P w = .ok v w) :
    (results fn tmps).run P w = .ok v w := by
  have hp' : tmps[p]?.getD undef = .pointer (some ⟨g, 0, none⟩) := by simpa using hp
  simp [results, h, hp', asAddr, hl]
theorem load56 {w : World} {g : Nat} {v : Value} (h : w.cell? ⟨g, 0, none⟩ = some v) : (loadVar 88 ⟨g, 0, none⟩).run Tryd.prog w = .ok v w := by
  go_simp
/-- The first of them with so many points. -/
def fosX (F : Nat → Nat) (N : Nat) (m : Int) : Nat := bitS (((cqR (fitR F) N [] N).find? fun s => decide ((s.length : Int) = m)).getD [])
theorem find_none {α : Type} {p : α → Bool} {l : List α} (h : ∀ x ∈ l, p x = false) : l.find? p = none := List.find?_eq_none.2 fun x hx => by rw [h x hx]; simp
theorem find_here {α : Type} {p : α → Bool} {l r : List α} {x : α} (h : ∀ y ∈ l, p y = false) (hx : p x = true) : (l ++ x :: r).find? p = some x := by
  rw [List.find?_append, find_none h, List.find?_cons, hx]; rfl
def RelFo {N : Nat} (bx bn : Nat) (m : Int) (B : Nat) (w : World) (pre : List (Cl N)) (W : World) : Prop :=
  Blk W (w.heap.size + 1) #[.int .i64 m] 2 ∧ Blk W (w.heap.size + 1 + 1) #[.int .u32 0] 88 ∧ Below w.heap.size w W ∧ (∀ s ∈ pre.map Cl.v, decide ((s.length : Int) = m) = false) ∧ B ≤ W.heap.size
def RelFx {N : Nat} (F : Nat → Nat) (m : Int) (w : World) (c : Code) (pre : List (Cl N)) (W : World) : Prop :=
  c = .ret ∧ Below w.heap.size w W ∧ ∃ (pr : List (Cl N)) (x : Cl N), pre = pr ++ [x] ∧ (∀ s ∈ pr.map Cl.v, decide ((s.length : Int) = m) = false) ∧ decide ((x.1.length : Int) = m) = true ∧ Blk W (w.heap.size + 1 + 1) #[.int .u32 (bitS x.1 : Nat)] 88
set_option maxRecDepth 100000 in
set_option maxHeartbeats 1000000 in
theorem fos47 (N : Nat) (k c m : Int) (bs : List Nat) (hb : Bys bs) (w : World) (N1 : 1 ≤ N) (N2 : N ≤ 17) :
    Calls Tryd.prog 73 #[.agg (ccells (N : Int) k bs).toArray, .int .i64 c, .int .i64 m] w fun e w' => e = .returned (.int .u32 (fosX (nsF bs c (eseq N)) N m : Nat)) ∧ Below w.heap.size w w' := by
  have hfn : ∀ f, Fence.wide.fn f := fun _ => trivial
  have HS := hidd (size_c26 (N : Int) k hb)
  have HQ := hidd (fun W => cliques48 N k c bs hb W N1 N2)
  have hF := fun p => nsF_lt bs c (eseq N) p
  have hsym := nsF_sym bs c (eseq N) N2
  obtain ⟨F, hFe⟩ : ∃ F, F = nsF bs c (eseq N) := ⟨_, rfl⟩
  rw [← hFe] at HQ hF hsym ⊢
  have HF := hidd hF
  have HSY := hidd hsym
  clear hFe hF hsym
  refine (callsIn_wide (n := 8)).1 (callsIn_of_wp_marks Tryd.func73 rfl trivial ?_ rfl)
  simp only [Tryd.ntmps73, List.size_toArray, List.length_cons, List.length_nil, Nat.reduceAdd, Nat.reduceSub, Array.replicate_succ, Array.replicate_zero, List.push_toArray, List.append_toArray, List.nil_append, List.cons_append]
  have b3 : Blk (((w.alloc (Obj.cells (ccells (N : Int) k bs).toArray 28)).alloc (Obj.cells #[.int .i64 m] 2)).alloc (Obj.cells #[.int .u32 0] 88)) w.heap.size (ccells (N : Int) k bs).toArray 28 := ((Blk.new _ _ _ _ rfl).alloc _).alloc _
  have H3 := hidd b3
  gi_wp2_with (refine inLoadRow rfl 28 (.tmp 3) rfl w.heap.size rfl 28 _ _ H3.out Tryd.underlying28 rfl HS.out ?_)
  have b5 : Blk (((w.alloc (Obj.cells (ccells (N : Int) k bs).toArray 28)).alloc (Obj.cells #[.int .i64 m] 2)).alloc (Obj.cells #[.int .u32 0] 88)) (w.heap.size + 1) #[.int .i64 m] 2 := (Blk.new _ _ _ _ (by simp)).alloc _
  have b6 : Blk (((w.alloc (Obj.cells (ccells (N : Int) k bs).toArray 28)).alloc (Obj.cells #[.int .i64 m] 2)).alloc (Obj.cells #[.int .u32 0] 88)) (w.heap.size + 1 + 1) #[.int .u32 0] 88 := Blk.new _ _ _ _ (by simp)
  refine (callsIn_wide.2 (HQ.out _)).mono ?_
  rintro e W0 ⟨bx, bn, rfl, hBx, hBn, hb1⟩
  have hbl0 : Below w.heap.size w W0 := ((((Below.refl _ _).alloc (Nat.le_refl _) _).alloc (by simp) _).alloc (by simp; omega) _).trans (hb1.mono (by simp; omega))
  have h5 := b5.below hb1 b5.lt
  have h6 := b6.below hb1 b6.lt
  clear hb1 b3 b5 b6
  gi_wp2
  refine wpIn_rangeFunc_ownH rfl (by omega) (gf := 110) (lb := #[.pointer (some ⟨bx, 0, none⟩), .pointer (some ⟨bn, 0, none⟩)]) rfl trivial (enters_of Tryd.func110 (by kernel_rfl) rfl)
    (seq58 6 bx bn N k bs hb F N1 N2 HF.out HSY.out W0 hBx hBn) kpC_t (kpC_b hBx.lt hBn.lt) (Below.refl _ _) (fun _ => rfl)
    (fun pre W => RelFo bx bn m W0.heap.size w pre W)
    (fun c pre W => RelFx F m w c pre W)
    (fun s A B row hs hg hr => ⟨blk_own hs.1 hg hr, blk_own hs.2.1 hg hr, ownFrom_below (β := Unit) (Nat.le_refl _) hbl0.size () A B row hs.2.2.1 hg hr, hs.2.2.2.1, Nat.le_trans hs.2.2.2.2 hg.size⟩)
    (fun c s A B row hs hg hr => ⟨hs.1, ownFrom_below (β := Unit) (Nat.le_refl _) hbl0.size () A B row hs.2.1 hg hr, by
      obtain ⟨pr, x, h1, h2, h3, h4⟩ := hs.2.2
      exact ⟨pr, x, h1, h2, h3, blk_own h4 hg hr⟩⟩)
    ⟨h5, h6, hbl0, by simp, Nat.le_refl _⟩
    (fun x a' W => a' = { tmps := #[.agg (ccells (N : Int) k bs).toArray, .int .i64 c, .int .i64 m, .pointer (some ⟨w.heap.size, 0, none⟩), undef, .pointer (some ⟨w.heap.size + 1, 0, none⟩), .pointer (some ⟨w.heap.size + 1 + 1, 0, none⟩), .int .u32 (bitS x.1 : Nat), .agg (ccells (N : Int) k bs).toArray, .int .i64 c, .func (.func 110) #[] #[.pointer (some ⟨bx, 0, none⟩), .pointer (some ⟨bn, 0, none⟩)], .int .u32 (bitS x.1 : Nat), undef, undef, undef, undef, undef], defers := [] })
    (fun x a' s A B row hs hg hr => hs) ?assign ?body ?done ?stop
  case assign =>
    intro l pre x W Kx hI hK
    have HI := hidd hI
    have HK := hidd hK
    clear hI hK
    dsimp only [encC]
    gi_wp2
    exact HK.out _ _ (KeepsFrom.refl _ _) ⟨rfl, rfl⟩ HI.out rfl
  case body =>
    rintro l pre x a' W hl _ ⟨g5, g6, g7, g8, g9⟩ rfl hlen
    obtain ⟨xs1, xs2, xs3⟩ := x.2
    have hX17 : bitS x.1 < 2 ^ 17 := bitS_lt _ (fun q hq => by have := xs2 q hq; omega)
    have HZ := hidd (fun W => size34 (bitS x.1) hX17 W)
    rw [ones_bitS x.1 xs1] at HZ
    obtain ⟨X, hX⟩ : ∃ X, X = bitS x.1 := ⟨_, rfl⟩
    obtain ⟨ln, hln⟩ : ∃ ln, ln = x.1.length := ⟨_, rfl⟩
    rw [← hX, ← hln] at HZ
    rw [← hX]
    have HG := hidd (And.intro g5 (And.intro g6 (And.intro g7 (And.intro g8 g9))))
    have HXL := hidd (And.intro hX hln)
    clear g5 g6 g7 g8 g9 hX17 xs1 xs2 xs3 hX hln
    cases hq : ((ln : Int) == m) with
    | false =>
      have hd : decide ((x.1.length : Int) = m) = false := by rw [← HXL.out.2]; exact decide_eq_false (beq_eq_false_iff_ne.1 hq)
      have HD := hidd hd
      clear hd
      gi_wp2
      refine wpIn_region_tail_lit (lets_round l _) 3 (fun w' => Below W.heap.size W w') (by decide) (by kernel_rfl) ((Below.refl _ _).drew) (by kernel_rfl) (by kernel_rfl) (by kernel_rfl) (by kernel_rfl) (by kernel_rfl) ?_
      simp only [List.take_succ_cons, List.take_zero, List.drop_succ_cons, List.drop_zero, List.map_cons, List.map_nil, List.cons_append, List.nil_append, idle]
      refine qs rfl (fun KQ hKQ => ?_)
      apply Exists.intro
      refine ⟨fun w' hw' => ?_, ?_⟩
      · go_simp; exact rfl
      go_simp
      refine hKQ _ ?_
      clear hKQ KQ
      refine qs rfl (fun KQ hKQ => ?_)
      apply Exists.intro
      refine ⟨fun w' hw' => ?_, ?_⟩
      · go_simp; exact (HZ.out _).mono fun _ _ h => ⟨h.1, by rw [h.2]; exact hw'.drew⟩
      go_simp
      refine hKQ _ ?_
      clear hKQ KQ
      refine qs rfl (fun KQ hKQ => ?_)
      apply Exists.intro
      refine ⟨fun w' hw' => ?_, ?_⟩
      · have e1 := (HG.out.1.below hw' HG.out.1.lt).cell (j := 0) (show _ = some (Value.int .i64 m) from rfl); go_simp; exact rfl
      go_simp
      refine hKQ _ ?_
      clear hKQ KQ
      refine qs rfl (fun KQ hKQ => ?_)
      apply Exists.intro
      refine ⟨fun w' hw' => ?_, ?_⟩
      · go_simp; exact rfl
      go_simp
      refine hKQ _ ?_
      clear hKQ KQ
      refine wpQuiet_nil ?_
      intro w' hw'
      have hWx := Nat.lt_of_lt_of_le hBx.lt HG.out.2.2.2.2
      have hWn := Nat.lt_of_lt_of_le hBn.lt HG.out.2.2.2.2
      have K1 := hidd (show RelFo bx bn m W0.heap.size w (pre ++ [x]) w' from ⟨HG.out.1.below hw' HG.out.1.lt, HG.out.2.1.below hw' HG.out.2.1.lt, HG.out.2.2.1.trans (hw'.mono HG.out.2.2.1.size), fun s hs => by
        rw [List.map_append] at hs
        rcases List.mem_append.1 hs with h | h
        · exact HG.out.2.2.2.1 s h
        · rw [List.map_cons, List.map_nil, List.mem_singleton] at h
          rw [h]; exact HD.out, Nat.le_trans HG.out.2.2.2.2 hw'.size⟩)
      have K2 := hidd (show KpC bx bn W w' from ⟨hw'.block _ hWx, hw'.block _ hWn⟩)
      have K3 := hidd (keeps_below (B := W0.heap.size) hw')
      clear hw'
      gi_wp2_with fail
      exact ⟨K3.out, K2.out, K1.out⟩
    | true =>
      have hd : decide ((x.1.length : Int) = m) = true := by rw [← HXL.out.2]; exact decide_eq_true (beq_iff_eq.1 hq)
      have HD := hidd hd
      clear hd
      gi_wp2
      refine wpIn_region_tail_lit (lets_round l _) 3 (fun w' => Below W.heap.size W w') (by decide) (by kernel_rfl) ((Below.refl _ _).drew) (by kernel_rfl) (by kernel_rfl) (by kernel_rfl) (by kernel_rfl) (by kernel_rfl) ?_
      simp only [List.take_succ_cons, List.take_zero, List.drop_succ_cons, List.drop_zero, List.map_cons, List.map_nil, List.cons_append, List.nil_append, idle]
      refine qs rfl (fun KQ hKQ => ?_)
      apply Exists.intro
      refine ⟨fun w' hw' => ?_, ?_⟩
      · go_simp; exact rfl
      go_simp
      refine hKQ _ ?_
      clear hKQ KQ
      refine qs rfl (fun KQ hKQ => ?_)
      apply Exists.intro
      refine ⟨fun w' hw' => ?_, ?_⟩
      · go_simp; exact (HZ.out _).mono fun _ _ h => ⟨h.1, by rw [h.2]; exact hw'.drew⟩
      go_simp
      refine hKQ _ ?_
      clear hKQ KQ
      refine qs rfl (fun KQ hKQ => ?_)
      apply Exists.intro
      refine ⟨fun w' hw' => ?_, ?_⟩
      · have e1 := (HG.out.1.below hw' HG.out.1.lt).cell (j := 0) (show _ = some (Value.int .i64 m) from rfl); go_simp; exact rfl
      go_simp
      refine hKQ _ ?_
      clear hKQ KQ
      refine qs rfl (fun KQ hKQ => ?_)
      apply Exists.intro
      refine ⟨fun w' hw' => ?_, ?_⟩
      · go_simp; exact rfl
      go_simp
      refine hKQ _ ?_
      clear hKQ KQ
      refine wpQuiet_nil ?_
      intro w' hw'
      have r6 := HG.out.2.1.below hw' HG.out.2.1.lt
      have f6 := r6.fro 0
      have c6 := r6.cell (j := 0) (show _ = some (Value.int .u32 0) from rfl)
      have K1 := hidd (show RelFx F m w .ret (pre ++ [x]) (w'.setCell ⟨w.heap.size + 1 + 1, 0, none⟩ (.int .u32 (X : Int))) from ⟨rfl, (HG.out.2.2.1.trans (hw'.mono HG.out.2.2.1.size)).setCell (by show w.heap.size ≤ w.heap.size + 1 + 1; omega) _, pre, x, rfl, HG.out.2.2.2.1, HD.out, by
        rw [← HXL.out.1]; exact r6.same 0 _⟩)
      have K3 := hidd ((keeps_below (B := W0.heap.size) hw').trans ((KeepsOthers.setCell w' ⟨w.heap.size + 1 + 1, 0, none⟩ (.int .u32 (X : Int))).from _))
      clear hw' r6
      gi_wp2_with fail
      exact ⟨K3.out, K1.out⟩
  case done =>
    rintro D xs W hD hxs ⟨g5, g6, g7, g8, g9⟩ hK
    have hfx : fosX F N m = 0 := by unfold fosX; rw [← hxs, find_none g8]; rfl
    have f6 := g6.fro 0
    have c6 := g6.cell (j := 0) (show _ = some (Value.int .u32 0) from rfl)
    have hlt := hBx.lt
    have r6 := g6.same 0 (.int .u32 0)
    have hb2 : Below w.heap.size w (W.setCell ⟨w.heap.size + 1 + 1, 0, none⟩ (.int .u32 0)) := g7.setCell (by show w.heap.size ≤ w.heap.size + 1 + 1; omega) _
    have hDW : W0.heap.size ≤ D := hD
    have hlt6 := h6.lt
    have hK' : (W.setCell ⟨w.heap.size + 1 + 1, 0, none⟩ (.int .u32 0)).heap[D]? = some (.deferred (some [])) := (heap_setCell_other W ⟨w.heap.size + 1 + 1, 0, none⟩ D _ (by show D ≠ w.heap.size + 1 + 1; omega)).trans hK
    have R := hidd (And.intro r6 (And.intro hb2 hK'))
    have HFX := hidd hfx
    clear r6 hb2 hK' hK g5 g6 g7 g8 hfx
    gi_wp2
    refine ⟨by simp [Act.put], .inl ⟨_, _, rfl, run_takeDeferred R.out.2.2, ?_⟩⟩
    have hr : Blk ((W.setCell ⟨w.heap.size + 1 + 1, 0, none⟩ (.int .u32 0)).putObj D (.deferred none)) (w.heap.size + 1 + 1) #[.int .u32 0] 88 := (World.putObj_heap_other (by omega)).trans R.out.1
    have hb3 : Below w.heap.size w ((W.setCell ⟨w.heap.size + 1 + 1, 0, none⟩ (.int .u32 0)).putObj D (.deferred none)) := R.out.2.1.grown (grownBy_putObj' _ D (.deferred none)) R.out.2.1.size (fun k e => by cases e; omega)
    rw [HFX.out]
    exact ⟨_, results_cell_one rfl _ _ (w.heap.size + 1 + 1) _ rfl (load56 (hr.cell (j := 0) rfl)), rfl, hb3⟩
  case stop =>
    rintro D c pre W hD ⟨rest, hrest⟩ ⟨rfl, g1, pr, x, rfl, g2, g3, g4⟩ hK
    have hfx : fosX F N m = bitS x.1 := by
      unfold fosX
      rw [← hrest, List.map_append, List.append_assoc]
      show bitS ((List.find? _ (pr.map Cl.v ++ x.1 :: rest)).getD []) = _
      rw [find_here g2 g3]; rfl
    have HFX := hidd hfx
    have hDW : W0.heap.size ≤ D := hD
    have hlt6 := h6.lt
    have R := hidd (And.intro g4 (And.intro g1 hK))
    clear g4 g1 hK hfx
    apply wpIn_ret
    refine ⟨by simp [Act.put], .inl ⟨_, _, rfl, run_takeDeferred R.out.2.2, ?_⟩⟩
    have hr : Blk (W.putObj D (.deferred none)) (w.heap.size + 1 + 1) #[.int .u32 (bitS x.1 : Nat)] 88 := (World.putObj_heap_other (by omega)).trans R.out.1
    have hb3 : Below w.heap.size w (W.putObj D (.deferred none)) := R.out.2.1.grown (grownBy_putObj' _ D (.deferred none)) R.out.2.1.size (fun k e => by cases e; omega)
    rw [HFX.out]
    exact ⟨_, results_cell_one rfl _ _ (w.heap.size + 1 + 1) _ rfl (load56 (hr.cell (j := 0) rfl)), rfl, hb3⟩
end Go.Proofs.YtckffliiidgilaaDoor
