/- My texts Fos, Avi, CnM, PtM, Giv, Gcl, Clm, Only, Lls, Llm, Llw, Tz, in one. -/
import Derived.Test.YtkiocedhibeieaaDoorHf
import Derived.Test.YtkiocedhibeieaaDoorHe
import Derived.Test.YtkiocedhibeieaaDoorHd
import Derived.Lib.TrailingZeros
import Derived.Test.YtkiocedhibeieaaDoorHa
import Derived.Test.YtkiocedhibeieaaDoorHc
/- firstOfSize: the first clique of a colour with so many points. -/
namespace Go.Proofs.YtkiocedhibeieaaDoor
set_option linter.unusedVariables false
set_option linter.unusedSimpArgs false
open Go Go.RowKit Go.Shelf
attribute [local go_sem] Oper.semAt_some
theorem nsF_sym (bs : List Nat) (c : Int) (l : List (Nat × Nat × Nat)) {N : Nat} (hN : N ≤ 17) : ∀ p q, p < N → q < N → (nsF bs c l q).testBit p = (nsF bs c l p).testBit q := by
  intro p q hp hq
  rw [nsF_bit, nsF_bit, decide_eq_true (show p < 17 by omega), decide_eq_true (show q < 17 by omega)]
  have : adjT bs c q p = adjT bs c p q := by
    funext t
    unfold adjT
    congr 1
    rw [Bool.or_comm, Bool.and_comm (decide (t.2.2 = q)), Bool.and_comm (decide (t.2.1 = q))]
  rw [this]
theorem kpC_t {bx bn : Nat} {X Y Z : World} (h : KpC bx bn X Y) (k : KpC bx bn Y Z) : KpC bx bn X Z := ⟨kpB_t h.1 k.1, kpB_t h.2 k.2⟩
theorem kpC_b {bx bn : Nat} {w : World} (h1 : bx < w.heap.size) (h2 : bn < w.heap.size) (W : World) (l : Nat) (o o' : Obj) (hl : w.heap.size ≤ l) (a : W.heap[l]? = some o) (b : o.isCells = false) (c : o.isWalk = false) : KpC bx bn W (W.putObj l o') :=
  ⟨kpB_b h1 W l o o' hl a b c, kpB_b h2 W l o o' hl a b c⟩
theorem seq58 (m bx bn : Nat) (N : Nat) (k : Int) (bs : List Nat) (hb : Bys bs) (F : Nat → Nat) (hN1 : 1 ≤ N) (hN : N ≤ 17) (hF : ∀ p, F p < 2 ^ 17) (hsym : ∀ p q, p < N → q < N → (F q).testBit p = (F p).testBit q)
    (w : World) (hB1 : Blk w bx (ccells (N : Int) k bs).toArray 28) (hB2 : Blk w bn (ncell F).toArray 73) :
    SeqStopsK Fence.wide (m + 1) Tryd.prog 77 #[.pointer (some ⟨bx, 0, none⟩), .pointer (some ⟨bn, 0, none⟩)] (fun x : Cl N => encC x) (KpC bx bn) (fun ys => ys.map Cl.v = cqR (fitR F) N [] N) (fun pre => ∃ rest, pre.map Cl.v ++ rest = cqR (fitR F) N [] N) (cqR (fitR F) N [] N).length w := fun l J Jx W hW hJ _ hY h0 =>
  iter58 m l bx bn N k bs hb F hN1 hN hF hsym J Jx W.heap.size hJ hY W (hB1.below hW hB1.lt) (hB2.below hW hB2.lt) h0
theorem results_cell_one {P : Program} {fn : Func} {p : Tmp} {ty : TypeId} (h : fn.results = #[.cell p ty]) (tmps : Array Value) (w : World) (g : Nat) (v : Value)
    (hp : tmps.getD p undef = .pointer (some ⟨g, 0, none⟩)) (hl : (loadVar ty ⟨g, 0, none⟩).run P w = .ok v w) :
    (results fn tmps).run P w = .ok v w := by
  have hp' : tmps[p]?.getD undef = .pointer (some ⟨g, 0, none⟩) := by simpa using hp
  simp [results, h, hp', asAddr, hl]
theorem load56 {w : World} {g : Nat} {v : Value} (h : w.cell? ⟨g, 0, none⟩ = some v) : (loadVar 56 ⟨g, 0, none⟩).run Tryd.prog w = .ok v w := by
  go_simp
/-- The first of them with so many points. -/
def fosX (F : Nat → Nat) (N : Nat) (m : Int) : Nat := bitS (((cqR (fitR F) N [] N).find? fun s => decide ((s.length : Int) = m)).getD [])
theorem find_none {α : Type} {p : α → Bool} {l : List α} (h : ∀ x ∈ l, p x = false) : l.find? p = none := List.find?_eq_none.2 fun x hx => by rw [h x hx]; simp
theorem find_here {α : Type} {p : α → Bool} {l r : List α} {x : α} (h : ∀ y ∈ l, p y = false) (hx : p x = true) : (l ++ x :: r).find? p = some x := by
  rw [List.find?_append, find_none h, List.find?_cons, hx]; rfl
def RelFo {N : Nat} (bx bn : Nat) (m : Int) (B : Nat) (w : World) (pre : List (Cl N)) (W : World) : Prop :=
  Blk W (w.heap.size + 1) #[.int .i64 m] 2 ∧ Blk W (w.heap.size + 1 + 1) #[.int .u32 0] 56 ∧ Below w.heap.size w W ∧ (∀ s ∈ pre.map Cl.v, decide ((s.length : Int) = m) = false) ∧ B ≤ W.heap.size
def RelFx {N : Nat} (F : Nat → Nat) (m : Int) (w : World) (c : Code) (pre : List (Cl N)) (W : World) : Prop :=
  c = .ret ∧ Below w.heap.size w W ∧ ∃ (pr : List (Cl N)) (x : Cl N), pre = pr ++ [x] ∧ (∀ s ∈ pr.map Cl.v, decide ((s.length : Int) = m) = false) ∧ decide ((x.1.length : Int) = m) = true ∧ Blk W (w.heap.size + 1 + 1) #[.int .u32 (bitS x.1 : Nat)] 56
set_option maxRecDepth 100000 in
set_option maxHeartbeats 1000000 in
theorem fos47 (N : Nat) (k c m : Int) (bs : List Nat) (hb : Bys bs) (w : World) (N1 : 1 ≤ N) (N2 : N ≤ 17) :
    Calls Tryd.prog 74 #[.agg (ccells (N : Int) k bs).toArray, .int .i64 c, .int .i64 m] w fun e w' => e = .returned (.int .u32 (fosX (nsF bs c (eseq N)) N m : Nat)) ∧ Below w.heap.size w w' := by
  have hfn : ∀ f, Fence.wide.fn f := fun _ => trivial
  have HS := hidd (size_c26 (N : Int) k hb)
  have HQ := hidd (fun W => cliques48 N k c bs hb W N1 N2)
  have hF := fun p => nsF_lt bs c (eseq N) p
  have hsym := nsF_sym bs c (eseq N) N2
  obtain ⟨F, hFe⟩ : ∃ F, F = nsF bs c (eseq N) := ⟨_, rfl⟩
  rw [← hFe] at HQ hF hsym ⊢
  have HF := hidd hF
  have HSY := hidd hsym
  clear hFe hF hsym
  refine (callsIn_wide (n := 8)).1 (callsIn_of_wp_marks Tryd.func74 rfl trivial ?_ rfl)
  simp only [Tryd.ntmps74, List.size_toArray, List.length_cons, List.length_nil, Nat.reduceAdd, Nat.reduceSub, Array.replicate_succ, Array.replicate_zero, List.push_toArray, List.append_toArray, List.nil_append, List.cons_append]
  have b3 : Blk (((w.alloc (Obj.cells (ccells (N : Int) k bs).toArray 28)).alloc (Obj.cells #[.int .i64 m] 2)).alloc (Obj.cells #[.int .u32 0] 56)) w.heap.size (ccells (N : Int) k bs).toArray 28 := ((Blk.new _ _ _ _ rfl).alloc _).alloc _
  have H3 := hidd b3
  gi_wp2_with (refine inLoadRow rfl 28 (.tmp 3) rfl w.heap.size rfl 28 _ _ H3.out Tryd.underlying28 rfl HS.out ?_)
  have b5 : Blk (((w.alloc (Obj.cells (ccells (N : Int) k bs).toArray 28)).alloc (Obj.cells #[.int .i64 m] 2)).alloc (Obj.cells #[.int .u32 0] 56)) (w.heap.size + 1) #[.int .i64 m] 2 := (Blk.new _ _ _ _ (by simp)).alloc _
  have b6 : Blk (((w.alloc (Obj.cells (ccells (N : Int) k bs).toArray 28)).alloc (Obj.cells #[.int .i64 m] 2)).alloc (Obj.cells #[.int .u32 0] 56)) (w.heap.size + 1 + 1) #[.int .u32 0] 56 := Blk.new _ _ _ _ (by simp)
  refine (callsIn_wide.2 (HQ.out _)).mono ?_
  rintro e W0 ⟨bx, bn, rfl, hBx, hBn, hb1⟩
  have hbl0 : Below w.heap.size w W0 := ((((Below.refl _ _).alloc (Nat.le_refl _) _).alloc (by simp) _).alloc (by simp; omega) _).trans (hb1.mono (by simp; omega))
  have h5 := b5.below hb1 b5.lt
  have h6 := b6.below hb1 b6.lt
  clear hb1 b3 b5 b6
  gi_wp2
  refine wpIn_rangeFunc_ownH rfl (by omega) (gf := 77) (lb := #[.pointer (some ⟨bx, 0, none⟩), .pointer (some ⟨bn, 0, none⟩)]) rfl trivial (enters_of Tryd.func77 (by kernel_rfl) rfl)
    (seq58 6 bx bn N k bs hb F N1 N2 HF.out HSY.out W0 hBx hBn) kpC_t (kpC_b hBx.lt hBn.lt) (Below.refl _ _) (fun _ => rfl)
    (fun pre W => RelFo bx bn m W0.heap.size w pre W)
    (fun c pre W => RelFx F m w c pre W)
    (fun s A B row hs hg hr => ⟨blk_own hs.1 hg hr, blk_own hs.2.1 hg hr, ownFrom_below (β := Unit) (Nat.le_refl _) hbl0.size () A B row hs.2.2.1 hg hr, hs.2.2.2.1, Nat.le_trans hs.2.2.2.2 hg.size⟩)
    (fun c s A B row hs hg hr => ⟨hs.1, ownFrom_below (β := Unit) (Nat.le_refl _) hbl0.size () A B row hs.2.1 hg hr, by
      obtain ⟨pr, x, h1, h2, h3, h4⟩ := hs.2.2
      exact ⟨pr, x, h1, h2, h3, blk_own h4 hg hr⟩⟩)
    ⟨h5, h6, hbl0, by simp, Nat.le_refl _⟩
    (fun x a' W => a' = { tmps := #[.agg (ccells (N : Int) k bs).toArray, .int .i64 c, .int .i64 m, .pointer (some ⟨w.heap.size, 0, none⟩), undef, .pointer (some ⟨w.heap.size + 1, 0, none⟩), .pointer (some ⟨w.heap.size + 1 + 1, 0, none⟩), .int .u32 (bitS x.1 : Nat), .agg (ccells (N : Int) k bs).toArray, .int .i64 c, .func (.func 77) #[] #[.pointer (some ⟨bx, 0, none⟩), .pointer (some ⟨bn, 0, none⟩)], .int .u32 (bitS x.1 : Nat), undef, undef, undef, undef, undef], defers := [] })
    (fun x a' s A B row hs hg hr => hs) ?assign ?body ?done ?stop
  case assign =>
    intro l pre x W Kx hI hK
    have HI := hidd hI
    have HK := hidd hK
    clear hI hK
    dsimp only [encC]
    gi_wp2
    exact HK.out _ _ (KeepsFrom.refl _ _) ⟨rfl, rfl⟩ HI.out rfl
  case body =>
    rintro l pre x a' W hl _ ⟨g5, g6, g7, g8, g9⟩ rfl hlen
    obtain ⟨xs1, xs2, xs3⟩ := x.2
    have hX17 : bitS x.1 < 2 ^ 17 := bitS_lt _ (fun q hq => by have := xs2 q hq; omega)
    have HZ := hidd (fun W => size34 (bitS x.1) hX17 W)
    rw [ones_bitS x.1 xs1] at HZ
    obtain ⟨X, hX⟩ : ∃ X, X = bitS x.1 := ⟨_, rfl⟩
    obtain ⟨ln, hln⟩ : ∃ ln, ln = x.1.length := ⟨_, rfl⟩
    rw [← hX, ← hln] at HZ
    rw [← hX]
    have HG := hidd (And.intro g5 (And.intro g6 (And.intro g7 (And.intro g8 g9))))
    have HXL := hidd (And.intro hX hln)
    clear g5 g6 g7 g8 g9 hX17 xs1 xs2 xs3 hX hln
    cases hq : ((ln : Int) == m) with
    | false =>
      have hd : decide ((x.1.length : Int) = m) = false := by rw [← HXL.out.2]; exact decide_eq_false (beq_eq_false_iff_ne.1 hq)
      have HD := hidd hd
      clear hd
      gi_wp2
      refine wpIn_region_tail_lit (lets_round l _) 3 (fun w' => Below W.heap.size W w') (by decide) (by kernel_rfl) ((Below.refl _ _).drew) (by kernel_rfl) (by kernel_rfl) (by kernel_rfl) (by kernel_rfl) (by kernel_rfl) ?_
      simp only [List.take_succ_cons, List.take_zero, List.drop_succ_cons, List.drop_zero, List.map_cons, List.map_nil, List.cons_append, List.nil_append, idle]
      refine qs rfl (fun KQ hKQ => ?_)
      apply Exists.intro
      refine ⟨fun w' hw' => ?_, ?_⟩
      · go_simp; exact rfl
      go_simp
      refine hKQ _ ?_
      clear hKQ KQ
      refine qs rfl (fun KQ hKQ => ?_)
      apply Exists.intro
      refine ⟨fun w' hw' => ?_, ?_⟩
      · go_simp; exact (HZ.out _).mono fun _ _ h => ⟨h.1, by rw [h.2]; exact hw'.drew⟩
      go_simp
      refine hKQ _ ?_
      clear hKQ KQ
      refine qs rfl (fun KQ hKQ => ?_)
      apply Exists.intro
      refine ⟨fun w' hw' => ?_, ?_⟩
      · have e1 := (HG.out.1.below hw' HG.out.1.lt).cell (j := 0) (show _ = some (Value.int .i64 m) from rfl); go_simp; exact rfl
      go_simp
      refine hKQ _ ?_
      clear hKQ KQ
      refine qs rfl (fun KQ hKQ => ?_)
      apply Exists.intro
      refine ⟨fun w' hw' => ?_, ?_⟩
      · go_simp; exact rfl
      go_simp
      refine hKQ _ ?_
      clear hKQ KQ
      refine wpQuiet_nil ?_
      intro w' hw'
      have hWx := Nat.lt_of_lt_of_le hBx.lt HG.out.2.2.2.2
      have hWn := Nat.lt_of_lt_of_le hBn.lt HG.out.2.2.2.2
      have K1 := hidd (show RelFo bx bn m W0.heap.size w (pre ++ [x]) w' from ⟨HG.out.1.below hw' HG.out.1.lt, HG.out.2.1.below hw' HG.out.2.1.lt, HG.out.2.2.1.trans (hw'.mono HG.out.2.2.1.size), fun s hs => by
        rw [List.map_append] at hs
        rcases List.mem_append.1 hs with h | h
        · exact HG.out.2.2.2.1 s h
        · rw [List.map_cons, List.map_nil, List.mem_singleton] at h
          rw [h]; exact HD.out, Nat.le_trans HG.out.2.2.2.2 hw'.size⟩)
      have K2 := hidd (show KpC bx bn W w' from ⟨hw'.block _ hWx, hw'.block _ hWn⟩)
      have K3 := hidd (keeps_below (B := W0.heap.size) hw')
      clear hw'
      gi_wp2_with fail
      exact ⟨K3.out, K2.out, K1.out⟩
    | true =>
      have hd : decide ((x.1.length : Int) = m) = true := by rw [← HXL.out.2]; exact decide_eq_true (beq_iff_eq.1 hq)
      have HD := hidd hd
      clear hd
      gi_wp2
      refine wpIn_region_tail_lit (lets_round l _) 3 (fun w' => Below W.heap.size W w') (by decide) (by kernel_rfl) ((Below.refl _ _).drew) (by kernel_rfl) (by kernel_rfl) (by kernel_rfl) (by kernel_rfl) (by kernel_rfl) ?_
      simp only [List.take_succ_cons, List.take_zero, List.drop_succ_cons, List.drop_zero, List.map_cons, List.map_nil, List.cons_append, List.nil_append, idle]
      refine qs rfl (fun KQ hKQ => ?_)
      apply Exists.intro
      refine ⟨fun w' hw' => ?_, ?_⟩
      · go_simp; exact rfl
      go_simp
      refine hKQ _ ?_
      clear hKQ KQ
      refine qs rfl (fun KQ hKQ => ?_)
      apply Exists.intro
      refine ⟨fun w' hw' => ?_, ?_⟩
      · go_simp; exact (HZ.out _).mono fun _ _ h => ⟨h.1, by rw [h.2]; exact hw'.drew⟩
      go_simp
      refine hKQ _ ?_
      clear hKQ KQ
      refine qs rfl (fun KQ hKQ => ?_)
      apply Exists.intro
      refine ⟨fun w' hw' => ?_, ?_⟩
      · have e1 := (HG.out.1.below hw' HG.out.1.lt).cell (j := 0) (show _ = some (Value.int .i64 m) from rfl); go_simp; exact rfl
      go_simp
      refine hKQ _ ?_
      clear hKQ KQ
      refine qs rfl (fun KQ hKQ => ?_)
      apply Exists.intro
      refine ⟨fun w' hw' => ?_, ?_⟩
      · go_simp; exact rfl
      go_simp
      refine hKQ _ ?_
      clear hKQ KQ
      refine wpQuiet_nil ?_
      intro w' hw'
      have r6 := HG.out.2.1.below hw' HG.out.2.1.lt
      have f6 := r6.fro 0
      have c6 := r6.cell (j := 0) (show _ = some (Value.int .u32 0) from rfl)
      have K1 := hidd (show RelFx F m w .ret (pre ++ [x]) (w'.setCell ⟨w.heap.size + 1 + 1, 0, none⟩ (.int .u32 (X : Int))) from ⟨rfl, (HG.out.2.2.1.trans (hw'.mono HG.out.2.2.1.size)).setCell (by show w.heap.size ≤ w.heap.size + 1 + 1; omega) _, pre, x, rfl, HG.out.2.2.2.1, HD.out, by
        rw [← HXL.out.1]; exact r6.same 0 _⟩)
      have K3 := hidd ((keeps_below (B := W0.heap.size) hw').trans ((KeepsOthers.setCell w' ⟨w.heap.size + 1 + 1, 0, none⟩ (.int .u32 (X : Int))).from _))
      clear hw' r6
      gi_wp2_with fail
      exact ⟨K3.out, K1.out⟩
  case done =>
    rintro D xs W hD hxs ⟨g5, g6, g7, g8, g9⟩ hK
    have hfx : fosX F N m = 0 := by unfold fosX; rw [← hxs, find_none g8]; rfl
    have f6 := g6.fro 0
    have c6 := g6.cell (j := 0) (show _ = some (Value.int .u32 0) from rfl)
    have hlt := hBx.lt
    have r6 := g6.same 0 (.int .u32 0)
    have hb2 : Below w.heap.size w (W.setCell ⟨w.heap.size + 1 + 1, 0, none⟩ (.int .u32 0)) := g7.setCell (by show w.heap.size ≤ w.heap.size + 1 + 1; omega) _
    have hDW : W0.heap.size ≤ D := hD
    have hlt6 := h6.lt
    have hK' : (W.setCell ⟨w.heap.size + 1 + 1, 0, none⟩ (.int .u32 0)).heap[D]? = some (.deferred (some [])) := (heap_setCell_other W ⟨w.heap.size + 1 + 1, 0, none⟩ D _ (by show D ≠ w.heap.size + 1 + 1; omega)).trans hK
    have R := hidd (And.intro r6 (And.intro hb2 hK'))
    have HFX := hidd hfx
    clear r6 hb2 hK' hK g5 g6 g7 g8 hfx
    gi_wp2
    refine ⟨by simp [Act.put], .inl ⟨_, _, rfl, run_takeDeferred R.out.2.2, ?_⟩⟩
    have hr : Blk ((W.setCell ⟨w.heap.size + 1 + 1, 0, none⟩ (.int .u32 0)).putObj D (.deferred none)) (w.heap.size + 1 + 1) #[.int .u32 0] 56 := (World.putObj_heap_other (by omega)).trans R.out.1
    have hb3 : Below w.heap.size w ((W.setCell ⟨w.heap.size + 1 + 1, 0, none⟩ (.int .u32 0)).putObj D (.deferred none)) := R.out.2.1.grown (grownBy_putObj' _ D (.deferred none)) R.out.2.1.size (fun k e => by cases e; omega)
    rw [HFX.out]
    exact ⟨_, results_cell_one rfl _ _ (w.heap.size + 1 + 1) _ rfl (load56 (hr.cell (j := 0) rfl)), rfl, hb3⟩
  case stop =>
    rintro D c pre W hD ⟨rest, hrest⟩ ⟨rfl, g1, pr, x, rfl, g2, g3, g4⟩ hK
    have hfx : fosX F N m = bitS x.1 := by
      unfold fosX
      rw [← hrest, List.map_append, List.append_assoc]
      show bitS ((List.find? _ (pr.map Cl.v ++ x.1 :: rest)).getD []) = _
      rw [find_here g2 g3]; rfl
    have HFX := hidd hfx
    have hDW : W0.heap.size ≤ D := hD
    have hlt6 := h6.lt
    have R := hidd (And.intro g4 (And.intro g1 hK))
    clear g4 g1 hK hfx
    apply wpIn_ret
    refine ⟨by simp [Act.put], .inl ⟨_, _, rfl, run_takeDeferred R.out.2.2, ?_⟩⟩
    have hr : Blk (W.putObj D (.deferred none)) (w.heap.size + 1 + 1) #[.int .u32 (bitS x.1 : Nat)] 56 := (World.putObj_heap_other (by omega)).trans R.out.1
    have hb3 : Below w.heap.size w (W.putObj D (.deferred none)) := R.out.2.1.grown (grownBy_putObj' _ D (.deferred none)) R.out.2.1.size (fun k e => by cases e; omega)
    rw [HFX.out]
    exact ⟨_, results_cell_one rfl _ _ (w.heap.size + 1 + 1) _ rfl (load56 (hr.cell (j := 0) rfl)), rfl, hb3⟩
end Go.Proofs.YtkiocedhibeieaaDoor
/- AvoidsSizes: the program's own text. -/
namespace Go.Proofs.YtkiocedhibeieaaDoor
set_option linter.unusedVariables false
set_option linter.unusedSimpArgs false
open Go Go.RowKit Go.Shelf
attribute [local go_sem] Oper.semAt_some
theorem fitR_congr {F R : Nat → Nat} {N : Nat} (h : ∀ p, p < N → F p = R p) (p : Nat) : ∀ (s : List Nat), (∀ q ∈ s, q < N) → fitR F s p = fitR R s p
  | [], _ => rfl
  | q :: s, hs => by rw [fitR_cons, fitR_cons, h q (hs q (List.mem_cons_self ..)), fitR_congr h p s (fun r hr => hs r (List.mem_cons_of_mem _ hr))]
theorem cqE_congr {F R : Nat → Nat} {N : Nat} (h : ∀ p, p < N → F p = R p) : ∀ (d : Nat) (s : List Nat), d ≤ N → (∀ q ∈ s, q < N) → cqE (fitR F) N d s = cqE (fitR R) N d s
  | 0, _, _, _ => rfl
  | d + 1, s, hd, hs => by
    have hc : ∀ q ∈ (N - (d + 1)) :: s, q < N := fun q hq => by
      rcases List.mem_cons.1 hq with h1 | h1
      · omega
      · exact hs q h1
    rw [cqE, cqE, fitR_congr h _ s hs, cqE_congr h d s (by omega) hs, cqE_congr h d _ (by omega) hc]
/-- There is a clique of so many points where the model's list is not empty. -/
theorem fosX_zero (bs : List Nat) (c : Int) {N m : Nat} (hN : N ≤ 17) (hm : m ≠ 0) : (fosX (nsF bs c (eseq N)) N (m : Int) = 0) ↔ (clqL bs c N m).isEmpty = true := by
  have hl : cqR (fitR (nsF bs c (eseq N))) N [] N = cqE (fitR (rwN bs c N)) N N [] := cqE_congr (fun p hp => nsF_rw bs c hp hN) N [] (Nat.le_refl _) (by simp)
  unfold fosX clqL
  rw [cqH_less (by simpa using fun e => hm e.symm), hl]
  unfold cqL
  rw [List.isEmpty_iff, List.map_eq_nil_iff, List.filter_eq_nil_iff]
  cases hf : (cqE (fitR (rwN bs c N)) N N []).find? fun s => decide ((s.length : Int) = (m : Int)) with
  | none =>
    rw [List.find?_eq_none] at hf
    constructor
    · intro _ s hs
      have := hf s hs
      simp only [decide_eq_true_eq] at this ⊢
      omega
    · intro _; rfl
  | some s =>
    have h1 := List.mem_of_find?_eq_some hf
    have h2 := List.find?_some hf
    constructor
    · intro h
      have : s = [] := bitS_zero.1 h
      subst this
      simp at h2; omega
    · intro h
      simp only [decide_eq_true_eq] at h2
      exact absurd (by simp only [decide_eq_true_eq]; omega) (h s h1)
/-- The least colour with a clique of its size, and the first such clique. -/
def fsR (N : Nat) (bs : List Nat) (zs : List Int) (K : Nat) : Nat × Nat :=
  match (List.range K).find? fun (c : Nat) => decide (fosX (nsF bs (c : Int) (eseq N)) N (zs.getD c 0) ≠ 0) with
  | none => (0, 0)
  | some c => (c, fosX (nsF bs (c : Int) (eseq N)) N (zs.getD c 0))
theorem fsR_none {N : Nat} {bs : List Nat} {zs : List Int} {K : Nat} (h : ∀ j, j < K → fosX (nsF bs (j : Int) (eseq N)) N (zs.getD j 0) = 0) : fsR N bs zs K = (0, 0) := by
  unfold fsR
  rw [List.find?_eq_none.2 (fun j hj => by rw [h j (List.mem_range.1 hj)]; simp)]
theorem fsR_hit {N : Nat} {bs : List Nat} {zs : List Int} {K d : Nat} (h : ∀ j, j < d → fosX (nsF bs (j : Int) (eseq N)) N (zs.getD j 0) = 0) (hd : d < K) (h2 : fosX (nsF bs (d : Int) (eseq N)) N (zs.getD d 0) ≠ 0) :
    fsR N bs zs K = (d, fosX (nsF bs (d : Int) (eseq N)) N (zs.getD d 0)) := by
  unfold fsR
  have e : (List.range K).find? (fun (c : Nat) => decide (fosX (nsF bs (c : Int) (eseq N)) N (zs.getD c 0) ≠ 0)) = some d := by
    rw [List.find?_range_eq_some]
    exact ⟨by simpa using h2, List.mem_range.2 hd, fun j hj => by rw [h j hj]; simp⟩
  rw [e]
theorem fsR_av {N : Nat} {bs : List Nat} {zs : List Int} {K : Nat} (hN : N ≤ 17) (hsz : szP zs K = true) : (((fsR N bs zs K).2 : Int) == 0) = avP N bs zs K := by
  have hz : ∀ j, j < K → ((fosX (nsF bs (j : Int) (eseq N)) N (zs.getD j 0) = 0) ↔ (clqL bs (j : Int) N (zs.getD j 0).toNat).isEmpty = true) := fun j hj => by
    have h1 := szP_get hsz hj
    have h2 : 1 ≤ zs.getD j 0 := by
      unfold inB at h1
      simp at h1; simp; omega
    obtain ⟨m, hm⟩ := Int.eq_ofNat_of_zero_le (show 0 ≤ zs.getD j 0 by omega)
    rw [hm, Int.toNat_natCast]
    exact fosX_zero bs j hN (by omega)
  cases ha : avP N bs zs K with
  | true =>
    rw [fsR_none (fun j hj => (hz j hj).2 (List.all_eq_true.1 ha j (List.mem_range.2 hj)))]; rfl
  | false =>
    rw [beq_eq_false_iff_ne]
    intro h0
    unfold fsR at h0
    split at h0
    · rename_i hn
      rw [List.find?_eq_none] at hn
      have : avP N bs zs K = true := List.all_eq_true.2 fun j hj => (hz j (List.mem_range.1 hj)).1 (by simpa using hn j hj)
      rw [this] at ha; cases ha
    · rename_i c hc
      have := List.find?_some hc
      simp at this h0
      exact this h0
set_option maxRecDepth 100000 in
set_option maxHeartbeats 1000000 in
theorem sizes30 (k : Int) (zs : List Int) (a : Option Addr) (cap : Nat) (w : World) (hs : SlI w a zs) (hl : zs.length ≤ 1048576) :
    Calls Tryd.prog 45 #[.slice a zs.length cap, .int .i64 k] w fun e w' => e = .returned (.bool (szOk k zs)) ∧ w = w' := by
  have HSL := hidd hs
  have hwl : IntKind.i64.wrap (zs.length : Int) = zs.length := IntWalk.i64_in _ (by omega)
  go_enter Tryd.func45, Tryd.ntmps45
  go_wp2_with fail
  go_loopw [9] (fun e wr => ∃ j : Nat, j ≤ zs.length ∧ e = .int .i64 (j : Int) ∧ Hid (szP zs j = true) ∧ Hid (w = wr)) (fun e _ => zs.length - (intOf e).toNat)
  case atStart => exact ⟨0, Nat.zero_le _, rfl, rfl, rfl⟩
  case round =>
    obtain ⟨j, hj, rfl, HK, hww⟩ := hrel
    obtain rfl : w = wr := hww
    by_cases hlt : j < zs.length
    · have hltI : decide ((j : Int) < (zs.length : Int)) = true := by simp; omega
      rcases HSL.out with hz | ⟨bl, off, ha, hc⟩
      · rw [hz] at hlt; simp at hlt
      · subst ha
        have cj := hc j hlt
        obtain ⟨z, hzz⟩ : ∃ z, z = zs.getD j 0 := ⟨_, rfl⟩
        rw [← hzz] at cj
        have hst := szP_step zs j
        rw [HK.out, Bool.true_and, ← hzz] at hst
        cases hin : inB z 1 17 with
        | true =>
          have HST := hidd (hst.trans hin)
          have HIN := hidd hin
          clear hc hst hin hzz
          go_wp2_with (go_at_call 53; refine (within45 _ _ _ _).mono ?_; rintro e w' ⟨rfl, rfl⟩; rw [HIN.out])
          go_roundw
          case rel => exact ⟨j + 1, by omega, by go_num, HST.out, trivial⟩
          case measure => simp [intOf]; omega
        | false =>
          have HST := hidd (szP_fall (zs := zs) (d := j) (by rw [← hzz]; exact hin) hlt)
          have HIN := hidd hin
          clear hc hst hin hzz
          go_wp2_with (go_at_call 53; refine (within45 _ _ _ _).mono ?_; rintro e w' ⟨rfl, rfl⟩; rw [HIN.out])
          go_ret
          exact ⟨by unfold szOk; rw [HST.out, Bool.and_false]; rfl, rfl⟩
    · have hltI : decide ((j : Int) < (zs.length : Int)) = false := by simp; omega
      have hje : j = zs.length := by omega
      have HP := hidd (show szP zs zs.length = true by rw [← hje]; exact HK.out)
      clear hje
      go_wp2_with fail
      go_ret
      exact ⟨by unfold szOk; rw [HP.out, Bool.and_true]; rfl, rfl⟩
set_option maxRecDepth 100000 in
set_option maxHeartbeats 1000000 in
theorem firsts31 (N K : Nat) (bs : List Nat) (hb : Bys bs) (zs : List Int) (a : Option Addr) (cap : Nat) (w : World) (hs : SlI w a zs) (hl : zs.length = K) (n1 : 1 ≤ N) (hN17 : N ≤ 17) (hK : K ≤ 4) :
    Calls Tryd.prog 46 #[.agg (ccells (N : Int) (K : Int) bs).toArray, .slice a K cap] w fun e w' => e = .returned (.tuple #[.int .i64 ((fsR N bs zs K).1 : Int), .int .u32 ((fsR N bs zs K).2 : Int)]) ∧ Below w.heap.size w w' := by
  have HS := hidd (size_c26 (N : Int) (K : Int) hb)
  have HSL := hidd hs
  have HL := hidd hl
  have HFO := hidd (fun c m W => fos47 N (K : Int) c m bs hb W n1 hN17)
  clear hs hl
  go_enter Tryd.func46, Tryd.ntmps46
  go_wp2_with fail
  go_loopw [11] (fun e wr => ∃ j : Nat, j ≤ K ∧ e = .int .i64 (j : Int) ∧ Hid ((∀ i, i < j → fosX (nsF bs (i : Int) (eseq N)) N (zs.getD i 0) = 0) ∧ Blk wr w.heap.size (ccells (N : Int) (K : Int) bs).toArray 28 ∧ Below w.heap.size w wr)) (fun e _ => K - (intOf e).toNat)
  case atStart => exact ⟨0, Nat.zero_le _, rfl, fun i hi => by omega, Blk.new _ _ _ _ rfl, (Below.refl _ _).alloc (Nat.le_refl _) _⟩
  case round =>
    obtain ⟨j, hj, rfl, HK⟩ := hrel
    by_cases hlt : j < K
    · have hltI : decide ((j : Int) < (K : Int)) = true := by simp; omega
      rcases HSL.out with hz | ⟨bl, off, ha, hc⟩
      · have := HL.out; rw [hz] at this; simp at this; omega
      · subst ha
        have cj := cell_below (hc j (by rw [HL.out]; exact hlt)) HK.out.2.2
        obtain ⟨z, hzz⟩ : ∃ z, z = zs.getD j 0 := ⟨_, rfl⟩
        rw [← hzz] at cj
        have HF := hidd (HFO.out (j : Int) z)
        obtain ⟨X, hX⟩ : ∃ X, X = fosX (nsF bs (j : Int) (eseq N)) N z := ⟨_, rfl⟩
        rw [← hX] at HF
        rw [hzz] at hX
        by_cases h0 : X = 0
        · have HX := hidd (hX.symm.trans h0)
          have hXI : ((X : Int) != 0) = false := by rw [bne_eq_false_iff_eq]; omega
          clear hc hzz hX h0
          go_wp2_with (refine wpList_load_row rfl 28 (.tmp 2) rfl w.heap.size rfl 28 _ (0,0) _ HK.out.2.1 Tryd.underlying28 rfl HS.out ?_)
          refine (HF.out _).mono ?_
          rintro e w1 ⟨rfl, hb1⟩
          have K1 := hidd (And.intro (HK.out.2.1.below hb1 HK.out.2.1.lt) (HK.out.2.2.trans (hb1.mono HK.out.2.2.size)))
          clear hb1
          go_wp2_with fail
          go_roundw
          case rel =>
            refine ⟨j + 1, by omega, by go_num, ⟨fun i hi => ?_, K1.out⟩⟩
            by_cases e : i = j
            · subst e; exact HX.out
            · exact HK.out.1 i (by omega)
          case measure => simp [intOf]; omega
        · have HR := hidd (fsR_hit (zs := zs) (K := K) HK.out.1 hlt (by rw [← hX]; exact h0))
          have HX := hidd hX
          have hXI : ((X : Int) != 0) = true := by rw [bne_iff_ne]; omega
          clear hc hzz hX h0
          go_wp2_with (refine wpList_load_row rfl 28 (.tmp 2) rfl w.heap.size rfl 28 _ (0,0) _ HK.out.2.1 Tryd.underlying28 rfl HS.out ?_)
          refine (HF.out _).mono ?_
          rintro e w1 ⟨rfl, hb1⟩
          have K1 := hidd (HK.out.2.2.trans (hb1.mono HK.out.2.2.size))
          clear hb1
          go_wp2_with fail
          go_ret2
          exact ⟨by rw [HR.out, ← HX.out]; rfl, K1.out⟩
    · have hltI : decide ((j : Int) < (K : Int)) = false := by simp; omega
      have hje : j = K := by omega
      subst hje
      have HR := hidd (fsR_none HK.out.1)
      go_wp2_with fail
      go_ret2
      exact ⟨by rw [HR.out]; rfl, HK.out.2.2⟩
end Go.Proofs.YtkiocedhibeieaaDoor
/- The greatest cliques' sizes: nothing of the program. -/
namespace Go.Proofs.YtkiocedhibeieaaDoor
set_option linter.unusedVariables false
set_option linter.unusedSimpArgs false
open Go Go.RowKit Go.Shelf
/-- With a clique there is one of each lesser size that goes on from the same beginning. -/
theorem cqE_less {fit : List Nat → Nat → Bool} {N : Nat} : ∀ (d : Nat) (s c : List Nat) (m : Nat), c ∈ cqE fit N d s → s.length < m → m ≤ c.length → ∃ c', c' ∈ cqE fit N d s ∧ c'.length = m
  | 0, s, c, m, h, _, _ => by simp [cqE] at h
  | d + 1, s, c, m, h, h1, h2 => by
    rw [cqE] at h ⊢
    split at h
    · rename_i hf
      rw [if_pos hf]
      rcases List.mem_cons.1 h with rfl | h
      · exact ⟨_, List.mem_cons_self .., by simp at h2 ⊢; omega⟩
      · rcases List.mem_append.1 h with h | h
        · by_cases e : m = s.length + 1
          · exact ⟨_, List.mem_cons_self .., by simp; omega⟩
          · obtain ⟨c', k1, k2⟩ := cqE_less d _ c m h (by simp; omega) h2
            exact ⟨c', List.mem_cons_of_mem _ (List.mem_append_left _ k1), k2⟩
        · obtain ⟨c', k1, k2⟩ := cqE_less d s c m h h1 h2
          exact ⟨c', List.mem_cons_of_mem _ (List.mem_append_right _ k1), k2⟩
    · rename_i hf
      rw [if_neg hf]
      exact cqE_less d s c m h h1 h2
/-- The first of the longest lists. -/
def gst (g : List Nat) (l : List (List Nat)) : List Nat := l.foldl (fun g s => if g.length < s.length then s else g) g
theorem gst_snoc (g : List Nat) (l : List (List Nat)) (s : List Nat) : gst g (l ++ [s]) = if (gst g l).length < s.length then s else gst g l := by unfold gst; rw [List.foldl_append]; rfl
theorem gst_ge (l : List (List Nat)) : ∀ (g s : List Nat), s ∈ l → s.length ≤ (gst g l).length := by
  have mono : ∀ (l : List (List Nat)) (g : List Nat), g.length ≤ (gst g l).length := by
    intro l
    induction l with
    | nil => intro g; exact Nat.le_refl _
    | cons x l ih =>
      intro g
      show g.length ≤ (gst (if g.length < x.length then x else g) l).length
      split
      · exact Nat.le_trans (by omega) (ih x)
      · exact ih g
  induction l with
  | nil => intro g s h; simp at h
  | cons x l ih =>
    intro g s h
    show s.length ≤ (gst (if g.length < x.length then x else g) l).length
    rcases List.mem_cons.1 h with rfl | h
    · split
      · exact mono l s
      · exact Nat.le_trans (by omega) (mono l g)
    · exact ih _ s h
theorem gst_mem (l : List (List Nat)) : ∀ (g : List Nat), gst g l = g ∨ gst g l ∈ l := by
  induction l with
  | nil => intro g; exact .inl rfl
  | cons x l ih =>
    intro g
    show gst (if g.length < x.length then x else g) l = g ∨ gst (if g.length < x.length then x else g) l ∈ x :: l
    split
    · rcases ih x with h | h
      · exact .inr (by rw [h]; exact List.mem_cons_self ..)
      · exact .inr (List.mem_cons_of_mem _ h)
    · rcases ih g with h | h
      · exact .inl h
      · exact .inr (List.mem_cons_of_mem _ h)
/-- The number of points of the greatest clique of a colour. -/
def gsz (N : Nat) (bs : List Nat) (c : Int) : Nat := (gst [] (cqR (fitR (nsF bs c (eseq N))) N [] N)).length
theorem clq_list (bs : List Nat) (c : Int) {N : Nat} (hN : N ≤ 17) : cqR (fitR (nsF bs c (eseq N))) N [] N = cqE (fitR (rwN bs c N)) N N [] := cqE_congr (fun p hp => nsF_rw bs c hp hN) N [] (Nat.le_refl _) (by simp)
theorem clqL_isEmpty (bs : List Nat) (c : Int) {N m : Nat} (hm : m ≠ 0) : (clqL bs c N m).isEmpty = true ↔ ∀ s ∈ cqE (fitR (rwN bs c N)) N N [], s.length ≠ m := by
  unfold clqL
  rw [cqH_less (by simpa using fun e => hm e.symm)]
  unfold cqL
  rw [List.isEmpty_iff, List.map_eq_nil_iff, List.filter_eq_nil_iff]
  simp
theorem gsz_none {N : Nat} {bs : List Nat} {c : Int} (hN : N ≤ 17) {m : Nat} (h : gsz N bs c < m) : (clqL bs c N m).isEmpty = true := by
  refine (clqL_isEmpty bs c (by omega)).2 fun s hs => ?_
  unfold gsz at h
  rw [clq_list bs c hN] at h
  have := gst_ge _ [] s hs
  omega
theorem gsz_some {N : Nat} {bs : List Nat} {c : Int} (hN : N ≤ 17) {m : Nat} (h0 : m ≠ 0) (h : m ≤ gsz N bs c) : (clqL bs c N m).isEmpty = false := by
  cases he : (clqL bs c N m).isEmpty with
  | false => rfl
  | true =>
    have h1 := (clqL_isEmpty bs c h0).1 he
    unfold gsz at h
    rw [clq_list bs c hN] at h
    rcases gst_mem (cqE (fitR (rwN bs c N)) N N []) [] with e | e
    · rw [e] at h; simp at h; omega
    · obtain ⟨c', k1, k2⟩ := cqE_less N [] _ m e (by simp; omega) h
      exact absurd k2 (h1 c' k1)
theorem gsz_le {N : Nat} {bs : List Nat} {c : Int} (hN : N ≤ 17) : gsz N bs c ≤ N := by
  unfold gsz
  rw [clq_list bs c hN]
  rcases gst_mem (cqE (fitR (rwN bs c N)) N N []) [] with e | e
  · rw [e]; simp
  · have h1 := cqE_most (fitR_mono (rwN bs c N)) N [] _ e
    rw [← frB_ones (Nat.le_refl N), frB_full] at h1
    rw [List.length_nil, Nat.zero_add] at h1
    refine Nat.le_trans h1 ?_
    have : frB (rwN bs c N) N [] N = 2 ^ N - 1 := frB_full _ _
    rw [← this]
    unfold frB
    rw [ones_arK]
    exact cnt_le _ _
theorem gsz_pos {N : Nat} {bs : List Nat} {c : Int} (h1 : 1 ≤ N) (hN : N ≤ 17) : 1 ≤ gsz N bs c := by
  unfold gsz
  rw [clq_list bs c hN]
  have hm : [0] ∈ cqE (fitR (rwN bs c N)) N N [] := by
    obtain ⟨d, rfl⟩ : ∃ d, N = d + 1 := ⟨N - 1, by omega⟩
    rw [cqE, if_pos (by rfl), Nat.sub_self]
    exact List.mem_cons_self ..
  have := gst_ge _ [] _ hm
  simpa using this
/-- The cliques of one colour with m points have m points. -/
theorem clqL_len {bs : List Nat} {c : Int} {N m : Nat} (hm : m ≠ 0) {zs : List Int} (h : zs ∈ clqL bs c N m) : zs.length = m := by
  unfold clqL at h
  rw [cqH_less (by simpa using fun e => hm e.symm)] at h
  unfold cqL at h
  obtain ⟨s, h1, rfl⟩ := List.mem_map.1 h
  rw [rv_len]
  simpa using (List.mem_filter.1 h1).2
/-- The numbers of all colours. -/
def cnF (N : Nat) (bs : List Nat) (c : Nat) : Int := (gsz N bs (c : Int) : Int)
def cnList (n k : Int) (bs : List Nat) : List Int := if isCol n k bs then fillA (cnF n.toNat bs) k.toNat else []
theorem cnList_len {n k : Int} {bs : List Nat} : (cnList n k bs).length ≤ 17 := by
  unfold cnList
  split
  · rename_i h
    have := isCol_bd h
    rw [fillA_len]; omega
  · simp
end Go.Proofs.YtkiocedhibeieaaDoor
/- The points of a set: the least one. Nothing of the program. -/
namespace Go.Proofs.YtkiocedhibeieaaDoor
set_option linter.unusedVariables false
set_option linter.unusedSimpArgs false
theorem low_form {t : List Nat} {q : Nat} (h : ∀ p ∈ t, q < p) (hb : ∀ p ∈ t ++ [q], p < 17) : ∃ m, bitS (t ++ [q]) = 2 ^ q * (2 * m + 1) ∧ Lib.ctz 32 (bitS (t ++ [q])) = q := by
  have hx0 : bitS (t ++ [q]) ≠ 0 := fun e => by have := bitS_zero.1 e; simp at this
  have hx17 : bitS (t ++ [q]) < 2 ^ 32 := Nat.lt_of_lt_of_le (bitS_lt _ hb) (by decide)
  have hc : Lib.ctz 32 (bitS (t ++ [q])) = Lib.ctzFrom 32 (bitS (t ++ [q])) := by simp [Lib.ctz, hx0]
  obtain ⟨m, hm, hk⟩ := Lib.ctzFrom_spec 32 (bitS (t ++ [q])) (by omega) hx17
  rw [← hc] at hm hk
  generalize hkk : Lib.ctz 32 (bitS (t ++ [q])) = k at hm hk
  have hbit : ∀ j, (bitS (t ++ [q])).testBit j = (decide (k ≤ j) && (2 * m + 1).testBit (j - k)) := fun j => by
    rw [hm, Nat.mul_comm, Nat.testBit_mul_two_pow]
  have h1 : k ∈ t ++ [q] := by
    have := hbit k
    rw [bitS_bit] at this
    simpa [Nat.testBit_zero] using this
  have h2 : k ≤ q := by
    have := hbit q
    rw [bitS_bit, decide_eq_true (show q ∈ t ++ [q] by simp)] at this
    have := (Bool.and_eq_true_iff.1 this.symm).1
    exact of_decide_eq_true this
  have hkq : k = q := by
    rcases List.mem_append.1 h1 with h3 | h3
    · have := h k h3; omega
    · simpa using h3
  subst hkq
  exact ⟨m, hm, rfl⟩
theorem low_drop {t : List Nat} {q : Nat} (h : ∀ p ∈ t, q < p) (hb : ∀ p ∈ t ++ [q], p < 17) : bitS (t ++ [q]) &&& (bitS (t ++ [q]) - 1) = bitS t := by
  obtain ⟨m, hm, _⟩ := low_form h hb
  have e1 : bitS (t ++ [q]) = 2 ^ (q + 1) * m + 2 ^ q := by rw [hm, Nat.pow_succ]; rw [Nat.mul_add, Nat.mul_one, Nat.mul_assoc]
  have hp : 1 ≤ 2 ^ q := Nat.one_le_two_pow
  have e2 : bitS (t ++ [q]) - 1 = 2 ^ (q + 1) * m + (2 ^ q - 1) := by omega
  have l1 : 2 ^ q < 2 ^ (q + 1) := by rw [Nat.pow_succ]; omega
  apply Nat.eq_of_testBit_eq
  intro j
  have hj : (bitS (t ++ [q])).testBit j = if j < q + 1 then (2 ^ q).testBit j else m.testBit (j - (q + 1)) := by rw [e1, Nat.testBit_two_pow_mul_add _ l1]
  have hj2 : (bitS (t ++ [q]) - 1).testBit j = if j < q + 1 then (2 ^ q - 1).testBit j else m.testBit (j - (q + 1)) := by rw [e2, Nat.testBit_two_pow_mul_add _ (by omega)]
  rw [Nat.testBit_and, hj2]
  by_cases hlt : j < q + 1
  · rw [if_pos hlt, hj, if_pos hlt, Nat.testBit_two_pow, Nat.testBit_two_pow_sub_one, bitS_bit]
    have hnt : ¬ j ∈ t := fun hm => by have := h j hm; omega
    by_cases e : q = j
    · subst e; simp [hnt]
    · simp [hnt, e]
  · rw [if_neg hlt]
    have h3 := hj
    rw [if_neg hlt] at h3
    rw [← h3, Bool.and_self, bitS_bit, bitS_bit]
    have : (j ∈ t ++ [q]) ↔ j ∈ t := by
      rw [List.mem_append]
      constructor
      · rintro (h | h)
        · exact h
        · simp at h; omega
      · exact .inl
    simp only [this]
end Go.Proofs.YtkiocedhibeieaaDoor
/- Tests that the first texts lack in this seat, and the code of a colouring, a colour and points. -/
namespace Go.Proofs.YtkiocedhibeieaaDoor
set_option linter.unusedVariables false
set_option linter.unusedSimpArgs false
open Go Go.RowKit
theorem below61 (n m : Int) (w : World) : Calls Tryd.prog 50 #[.int .i64 n, .int .i64 m] w fun e w' => e = .returned (.bool (belowB n m)) ∧ w = w' := by
  by_cases h1 : 0 ≤ n
  · by_cases h2 : n < m
    · have H := hidd (show belowB n m = true from inB_yes h1 (by omega))
      go_enter Tryd.func50, Tryd.ntmps50
      go_wp2
      go_ret
      exact ⟨by rw [H.out]; rfl, rfl⟩
    · have H := hidd (show belowB n m = false from inB_no (by omega))
      have hd : decide (n < m) = false := by simpa using h2
      clear h2
      go_enter Tryd.func50, Tryd.ntmps50
      go_wp2
      go_ret
      exact ⟨by rw [H.out]; rfl, rfl⟩
  · have H := hidd (show belowB n m = false from inB_no (by omega))
    have hd : decide (0 ≤ n) = false := by simpa using h1
    clear h1
    go_enter Tryd.func50, Tryd.ntmps50
    go_wp2
    go_ret
    exact ⟨by rw [H.out]; rfl, rfl⟩
set_option maxRecDepth 100000 in
set_option maxHeartbeats 400000 in
theorem all50 (zs : List Int) (a : Option Addr) (cap : Nat) (k : Int) (w : World) (hs : SlI w a zs) (hl : zs.length ≤ 9223372036854775807) (hk1 : 0 ≤ k) (hk2 : k ≤ 9223372036854775807) :
    Calls Tryd.prog 76 #[.slice a zs.length cap, .int .i64 k] w fun e w' => e = .returned (.bool (allB zs k)) ∧ w = w' := by
  go_enter Tryd.func76, Tryd.ntmps76
  go_wp2_with fail
  go_loop [5] (fun i => ∃ j : Nat, j ≤ zs.length ∧ i = .int .i64 j ∧ ∀ m, m < j → belowB (zs.getD m 0) k = true) (fun i => zs.length - (intOf i).toNat)
  case atStart => exact ⟨0, by omega, rfl, fun m hm => absurd hm (by omega)⟩
  case round =>
    obtain ⟨j, hj, rfl, hall⟩ := hrel
    have HA := hidd hall
    clear hall
    by_cases hlt : j < zs.length
    · rcases hs with hs | ⟨b, off, rfl, hc⟩
      · subst hs; simp at hlt
      · have hcj := hc j hlt
        obtain ⟨z, hz⟩ : ∃ z, z = zs.getD j 0 := ⟨_, rfl⟩
        rw [← hz] at hcj
        have HZ := hidd hz
        have HC := hidd hc
        clear hz hc
        cases hb : belowB z k with
        | true =>
          have HB := hidd (show inB z 0 (k - 1) = true from hb)
          clear hb
          go_wp2_with (go_at_call 52; refine (in49 _ _ _ _).mono ?_; rintro e w' ⟨rfl, rfl⟩; rw [HB.out])
          go_round
          case rel => exact ⟨j + 1, by omega, by go_num, fun m hm => by
            by_cases e : m = j
            · subst e; rw [← HZ.out]; exact HB.out
            · exact HA.out m (by omega)⟩
          case measure => simp [intOf]; omega
        | false =>
          have HB := hidd (show inB z 0 (k - 1) = false from hb)
          have H := hidd (allB_no hlt (by rw [← HZ.out]; exact hb))
          clear hb
          go_wp2_with (go_at_call 52; refine (in49 _ _ _ _).mono ?_; rintro e w' ⟨rfl, rfl⟩; rw [HB.out])
          go_ret
          exact ⟨by rw [H.out]; rfl, rfl⟩
    · have hje : j = zs.length := by omega
      subst hje
      have H := hidd (allB_yes HA.out)
      go_wp2_with fail
      go_ret
      exact ⟨by rw [H.out]; rfl, rfl⟩
set_option maxRecDepth 100000 in
set_option maxHeartbeats 400000 in
theorem given56 (n k : Int) (bs : List Nat) (hb : Bys bs) (c : Int) (zs : List Int) (a : Option Addr) (cap : Nat) (w : World) (hs : SlI w a zs) (hl : zs.length ≤ 9223372036854775807) :
    Calls Tryd.prog 48 #[.agg (ccells n k bs).toArray, .int .i64 c, .slice a zs.length cap] w fun e w' => e = .returned (.int .i64 (given n k bs c zs)) ∧ Below w.heap.size w w' := by
  have HS := hidd (size_c26 n k hb)
  cases hi : isCol n k bs with
  | false =>
    have HI := hidd hi
    have H := hidd (given_1 (c := c) (zs := zs) hi)
    clear hi
    go_enter Tryd.func48, Tryd.ntmps48
    go_wp2_with (refine wpList_load_row rfl 28 (.tmp 3) rfl w.heap.size rfl 28 _ (0,0) _ (Blk.new _ _ _ _ rfl) Tryd.underlying28 rfl HS.out ?_)
    refine (l01Is_any n k bs hb _).mono ?_
    rintro e w1 ⟨rfl, hb1⟩
    rw [HI.out]
    go_wp2
    go_ret
    exact ⟨by rw [H.out]; rfl, ((Below.refl _ _).alloc (Nat.le_refl _) _).trans (hb1.mono (by simp))⟩
  | true =>
    have HI := hidd hi
    obtain ⟨n1, n2, k1, k2⟩ := isCol_bd hi
    have hc0 : (ccells n k bs).toArray[0]? = some (.int .i64 n) := rfl
    have hc1 : (ccells n k bs).toArray[1]? = some (.int .i64 k) := rfl
    have HC := hidd (And.intro hc0 hc1)
    clear hc0 hc1
    cases h1 : belowB c k with
    | false =>
      have H := hidd (given_2 (zs := zs) (c := c) hi (by rw [h1]; rfl))
      have H1 := hidd (show inB c 0 (k - 1) = false from h1)
      clear h1 hi
      go_enter Tryd.func48, Tryd.ntmps48
      go_wp2_with (refine wpList_load_row rfl 28 (.tmp 3) rfl w.heap.size rfl 28 _ (0,0) _ (Blk.new _ _ _ _ rfl) Tryd.underlying28 rfl HS.out ?_)
      refine (l01Is_any n k bs hb _).mono ?_
      rintro e w1 ⟨rfl, hb1⟩
      rw [HI.out]
      have hB := (Blk.new w (ccells n k bs).toArray 28 _ rfl).below hb1 (by simp)
      have g0 := hB.cell HC.out.1
      have g1 := hB.cell HC.out.2
      have G := hidd (((Below.refl w.heap.size w).alloc (Nat.le_refl _) _).trans (hb1.mono (by simp)))
      clear hb1 hB
      go_wp2_with (go_at_call 52; refine (in49 _ _ _ _).mono ?_; rintro e w' ⟨rfl, rfl⟩; rw [H1.out])
      go_ret
      exact ⟨by rw [H.out]; rfl, G.out⟩
    | true =>
      have H1 := hidd (show inB c 0 (k - 1) = true from h1)
      cases h2 : allB zs n with
      | false =>
        have H := hidd (given_2 (zs := zs) (c := c) hi (by rw [h2, Bool.and_false]))
        have H2 := hidd h2
        clear h1 hi h2
        go_enter Tryd.func48, Tryd.ntmps48
        go_wp2_with (refine wpList_load_row rfl 28 (.tmp 3) rfl w.heap.size rfl 28 _ (0,0) _ (Blk.new _ _ _ _ rfl) Tryd.underlying28 rfl HS.out ?_)
        refine (l01Is_any n k bs hb _).mono ?_
        rintro e w1 ⟨rfl, hb1⟩
        rw [HI.out]
        have hB := (Blk.new w (ccells n k bs).toArray 28 _ rfl).below hb1 (by simp)
        have g0 := hB.cell HC.out.1
        have g1 := hB.cell HC.out.2
        have G := hidd (((Below.refl w.heap.size w).alloc (Nat.le_refl _) _).trans (hb1.mono (by simp)))
        have hs1 := hidd (hs.below G.out (Nat.le_refl _))
        clear hb1 hB hs
        go_wp2_with (first | (go_at_call 52; refine (in49 _ _ _ _).mono ?_; rintro e w' ⟨rfl, rfl⟩; rw [H1.out]) | (go_at_call 76; refine (all50 _ _ _ _ _ hs1.out hl (by omega) (by omega)).mono ?_; rintro e w' ⟨rfl, rfl⟩; rw [H2.out]))
        go_ret
        exact ⟨by rw [H.out]; rfl, G.out⟩
      | true =>
        have H := hidd (given_0 (zs := zs) (c := c) hi h1 h2)
        have H2 := hidd h2
        clear h1 hi h2
        go_enter Tryd.func48, Tryd.ntmps48
        go_wp2_with (refine wpList_load_row rfl 28 (.tmp 3) rfl w.heap.size rfl 28 _ (0,0) _ (Blk.new _ _ _ _ rfl) Tryd.underlying28 rfl HS.out ?_)
        refine (l01Is_any n k bs hb _).mono ?_
        rintro e w1 ⟨rfl, hb1⟩
        rw [HI.out]
        have hB := (Blk.new w (ccells n k bs).toArray 28 _ rfl).below hb1 (by simp)
        have g0 := hB.cell HC.out.1
        have g1 := hB.cell HC.out.2
        have G := hidd (((Below.refl w.heap.size w).alloc (Nat.le_refl _) _).trans (hb1.mono (by simp)))
        have hs1 := hidd (hs.below G.out (Nat.le_refl _))
        clear hb1 hB hs
        go_wp2_with (first | (go_at_call 52; refine (in49 _ _ _ _).mono ?_; rintro e w' ⟨rfl, rfl⟩; rw [H1.out]) | (go_at_call 76; refine (all50 _ _ _ _ _ hs1.out hl (by omega) (by omega)).mono ?_; rintro e w' ⟨rfl, rfl⟩; rw [H2.out]))
        go_ret
        exact ⟨by rw [H.out]; rfl, G.out⟩
end Go.Proofs.YtkiocedhibeieaaDoor
/- The first of the greatest cliques: nothing of the program. -/
namespace Go.Proofs.YtkiocedhibeieaaDoor
set_option linter.unusedVariables false
set_option linter.unusedSimpArgs false
open Go Go.RowKit Go.Shelf
theorem gst_first (l : List (List Nat)) : ∀ g, gst g l = g ∨ (g.length < (gst g l).length ∧ ∃ a b, l = a ++ gst g l :: b ∧ ∀ s ∈ a, s.length < (gst g l).length) := by
  induction l with
  | nil => intro g; exact .inl rfl
  | cons x l ih =>
    intro g
    have e : gst g (x :: l) = gst (if g.length < x.length then x else g) l := rfl
    rw [e]
    by_cases hc : g.length < x.length
    · rw [if_pos hc]
      rcases ih x with h | ⟨h0, a, b, h1, h2⟩
      · rw [h]; exact .inr ⟨hc, [], l, rfl, by simp⟩
      · refine .inr ⟨by omega, x :: a, b, by rw [List.cons_append, ← h1], fun s hs => ?_⟩
        rcases List.mem_cons.1 hs with rfl | hs
        · exact h0
        · exact h2 s hs
    · rw [if_neg hc]
      rcases ih g with h | ⟨h0, a, b, h1, h2⟩
      · exact .inl h
      · refine .inr ⟨h0, x :: a, b, by rw [List.cons_append, ← h1], fun s hs => ?_⟩
        rcases List.mem_cons.1 hs with rfl | hs
        · omega
        · exact h2 s hs
theorem cqE_ok {fit : List Nat → Nat → Bool} {N : Nat} : ∀ (d : Nat) (s c : List Nat), d ≤ N → s.Pairwise (· > ·) → (∀ q ∈ s, q < N - d) → c ∈ cqE fit N d s → c.Pairwise (· > ·) ∧ ∀ q ∈ c, q < N
  | 0, s, c, _, _, _, h => by simp [cqE] at h
  | d + 1, s, c, hd, hp, hq, h => by
    have hp2 : ((N - (d + 1)) :: s).Pairwise (· > ·) := List.pairwise_cons.2 ⟨fun q h => hq q h, hp⟩
    have hq2 : ∀ q ∈ (N - (d + 1)) :: s, q < N - d := fun q h => by
      rcases List.mem_cons.1 h with h | h
      · omega
      · have := hq q h; omega
    rw [cqE] at h
    split at h
    · rcases List.mem_cons.1 h with rfl | h
      · exact ⟨hp2, fun q h => by have := hq2 q h; omega⟩
      · rcases List.mem_append.1 h with h | h
        · exact cqE_ok d _ c (by omega) hp2 hq2 h
        · exact cqE_ok d s c (by omega) hp (fun q h => by have := hq q h; omega) h
    · exact cqE_ok d s c (by omega) hp (fun q h => by have := hq q h; omega) h
/-- The first of the greatest cliques of a colour, its points backwards. -/
def gcS (N : Nat) (bs : List Nat) (c : Int) : List Nat := gst [] (cqR (fitR (nsF bs c (eseq N))) N [] N)
theorem gcS_len (N : Nat) (bs : List Nat) (c : Int) : (gcS N bs c).length = gsz N bs c := rfl
theorem gcS_mem {N : Nat} {bs : List Nat} {c : Int} (h1 : 1 ≤ N) (hN : N ≤ 17) : gcS N bs c ∈ cqE (fitR (rwN bs c N)) N N [] := by
  have h := gsz_pos (bs := bs) (c := c) h1 hN
  rw [← gcS_len] at h
  unfold gcS at h ⊢
  rw [clq_list bs c hN] at h ⊢
  rcases gst_mem (cqE (fitR (rwN bs c N)) N N []) [] with e | e
  · rw [e] at h; simp at h
  · exact e
theorem gcS_ok {N : Nat} {bs : List Nat} {c : Int} (h1 : 1 ≤ N) (hN : N ≤ 17) : (gcS N bs c).Pairwise (· > ·) ∧ ∀ q ∈ gcS N bs c, q < 17 := by
  have h := cqE_ok N [] _ (Nat.le_refl _) List.Pairwise.nil (by simp) (gcS_mem (bs := bs) (c := c) h1 hN)
  exact ⟨h.1, fun q hq => by have := h.2 q hq; omega⟩
theorem clqL_take {bs : List Nat} {c : Int} {N m : Nat} (hm : m ≠ 0) : clqL bs c N m = ((cqE (fitR (rwN bs c N)) N N []).filter fun s => decide (s.length = m)).map rv := by
  unfold clqL
  rw [cqH_less (by simpa using fun e => hm e.symm)]
  rfl
theorem gcS_take {N : Nat} {bs : List Nat} {c : Int} (h1 : 1 ≤ N) (hN : N ≤ 17) : (clqL bs c N (gsz N bs c)).take 1 = [rv (gcS N bs c)] := by
  have h := gsz_pos (bs := bs) (c := c) h1 hN
  rw [clqL_take (by omega), ← gcS_len]
  rw [← gcS_len] at h
  unfold gcS at h ⊢
  rw [clq_list bs c hN] at h ⊢
  rcases gst_first (cqE (fitR (rwN bs c N)) N N []) [] with e | ⟨_, a, b, e1, e2⟩
  · rw [e] at h; simp at h
  · generalize hg : gst [] (cqE (fitR (rwN bs c N)) N N []) = G at e1 e2 ⊢
    rw [e1, List.filter_append, List.filter_eq_nil_iff.2 (fun s hs => by have := e2 s hs; simp; omega), List.nil_append, List.filter_cons_of_pos (by simp)]
    rfl
theorem clq_one {N : Nat} {bs : List Nat} {c : Int} (h1 : 1 ≤ N) : (clqL bs c N 1).take 1 = [[0]] := by
  rw [clqL_take (by omega)]
  obtain ⟨d, rfl⟩ : ∃ d, N = d + 1 := ⟨N - 1, by omega⟩
  rw [cqE, if_pos (by rfl), Nat.sub_self, List.filter_cons_of_pos (by simp)]
  rfl
def gcList (n k : Int) (bs : List Nat) (c : Int) : List Int := if given n k bs c [] = 0 then rv (gcS n.toNat bs c) else []
theorem given_ok {n k : Int} {bs : List Nat} {c : Int} {zs : List Int} (h : given n k bs c zs = 0) : isCol n k bs = true ∧ belowB c k = true := by
  cases h1 : isCol n k bs with
  | false => rw [given_1 h1] at h; omega
  | true =>
    cases h2 : belowB c k with
    | false => rw [given_2 h1 (by rw [h2]; rfl)] at h; omega
    | true => exact ⟨rfl, rfl⟩
theorem gcList_len {n k : Int} {bs : List Nat} {c : Int} : (gcList n k bs c).length ≤ 17 := by
  unfold gcList
  split
  · rename_i h
    obtain ⟨n1, n2, k1, k2⟩ := isCol_bd (given_ok h).1
    rw [rv_len, gcS_len]
    have := gsz_le (N := n.toNat) (bs := bs) (c := c) (by omega)
    omega
  · simp
end Go.Proofs.YtkiocedhibeieaaDoor
/- CliqueList: what it answers; nothing of the program. -/
namespace Go.Proofs.YtkiocedhibeieaaDoor
set_option linter.unusedVariables false
set_option linter.unusedSimpArgs false
open Go Go.RowKit Go.Shelf
def clCode (n k : Int) (bs : List Nat) (c m : Int) : Int :=
  if given n k bs c [] ≠ 0 then given n k bs c [] else if inB m 1 17 = false then 2 else if 200 < (clqL bs c n.toNat m.toNat).length then 3 else 0
def clList (n k : Int) (bs : List Nat) (c m : Int) : List (List Int) := if clCode n k bs c m = 0 then clqL bs c n.toNat m.toNat else []
theorem cl_1 {n k : Int} {bs : List Nat} {c m : Int} (h : given n k bs c [] ≠ 0) : clCode n k bs c m = given n k bs c [] ∧ clList n k bs c m = [] := by
  have e : clCode n k bs c m = given n k bs c [] := by unfold clCode; rw [if_pos h]
  exact ⟨e, by unfold clList; rw [e, if_neg h]⟩
theorem cl_2 {n k : Int} {bs : List Nat} {c m : Int} (h : given n k bs c [] = 0) (h2 : inB m 1 17 = false) : clCode n k bs c m = 2 ∧ clList n k bs c m = [] := by
  have e : clCode n k bs c m = 2 := by unfold clCode; rw [if_neg (by omega), if_pos h2]
  exact ⟨e, by unfold clList; rw [e]; rfl⟩
theorem cl_3 {n k : Int} {bs : List Nat} {c m : Int} (h : given n k bs c [] = 0) (h2 : inB m 1 17 = true) (h3 : 200 < (clqL bs c n.toNat m.toNat).length) : clCode n k bs c m = 3 ∧ clList n k bs c m = [] := by
  have e : clCode n k bs c m = 3 := by unfold clCode; rw [if_neg (by omega), if_neg (by rw [h2]; simp), if_pos h3]
  exact ⟨e, by unfold clList; rw [e]; rfl⟩
theorem cl_0 {n k : Int} {bs : List Nat} {c m : Int} (h : given n k bs c [] = 0) (h2 : inB m 1 17 = true) (h3 : ¬ 200 < (clqL bs c n.toNat m.toNat).length) : clCode n k bs c m = 0 ∧ clList n k bs c m = clqL bs c n.toNat m.toNat := by
  have e : clCode n k bs c m = 0 := by unfold clCode; rw [if_neg (by omega), if_neg (by rw [h2]; simp), if_neg h3]
  exact ⟨e, by unfold clList; rw [e]; rfl⟩
theorem clList_len {n k : Int} {bs : List Nat} {c m : Int} : (clList n k bs c m).length ≤ 200 ∧ ∀ z ∈ clList n k bs c m, z.length ≤ 17 := by
  by_cases h : given n k bs c [] = 0
  · cases h2 : inB m 1 17 with
    | false => rw [(cl_2 h h2).2]; simp
    | true =>
      by_cases h3 : 200 < (clqL bs c n.toNat m.toNat).length
      · rw [(cl_3 h h2 h3).2]; simp
      · rw [(cl_0 h h2 h3).2]
        have hb := inB_bd h2
        refine ⟨by omega, fun z hz => ?_⟩
        have := clqL_len (bs := bs) (c := c) (N := n.toNat) (m := m.toNat) (by omega) hz
        omega
  · rw [(cl_1 h).2]; simp
/-- The cliques of m points among those that have come. -/
def flS {N : Nat} (m : Nat) (pre : List (Cl N)) : List (List Int) := ((pre.map Cl.v).filter fun s => decide (s.length = m)).map rv
theorem flS_nil {N : Nat} (m : Nat) : flS m ([] : List (Cl N)) = [] := rfl
theorem flS_skip {N : Nat} {m : Nat} {pre : List (Cl N)} {x : Cl N} (h : decide (x.1.length = m) = false) : flS m (pre ++ [x]) = flS m pre := by
  unfold flS
  rw [List.map_append, List.filter_append, List.map_cons, List.map_nil, List.filter_cons_of_neg (by show ¬ decide ((Cl.v x).length = m) = true; rw [show Cl.v x = x.1 from rfl, h]; simp), List.filter_nil, List.append_nil]
theorem flS_take {N : Nat} {m : Nat} {pre : List (Cl N)} {x : Cl N} (h : decide (x.1.length = m) = true) : flS m (pre ++ [x]) = flS m pre ++ [rv x.1] := by
  unfold flS
  rw [List.map_append, List.filter_append, List.map_cons, List.map_nil, List.filter_cons_of_pos (by show decide ((Cl.v x).length = m) = true; exact h), List.filter_nil, List.map_append]; rfl
theorem flS_all {N m : Nat} {bs : List Nat} {c : Int} (hN : N ≤ 17) (hm : m ≠ 0) {xs : List (Cl N)} (h : xs.map Cl.v = cqR (fitR (nsF bs c (eseq N))) N [] N) : flS m xs = clqL bs c N m := by
  unfold flS
  rw [h, clqL_take hm, clq_list bs c hN]
theorem flS_more {N m : Nat} {bs : List Nat} {c : Int} (hN : N ≤ 17) (hm : m ≠ 0) {xs : List (Cl N)} {rest : List (List Nat)} (h : xs.map Cl.v ++ rest = cqR (fitR (nsF bs c (eseq N))) N [] N) : (flS m xs).length ≤ (clqL bs c N m).length := by
  unfold flS
  rw [clqL_take hm, ← clq_list bs c hN, ← h, List.filter_append, List.map_append, List.length_append]; omega
end Go.Proofs.YtkiocedhibeieaaDoor
/- Marks laid into a list: no other block turns. -/
namespace Go.Proofs.YtkiocedhibeieaaDoor
set_option linter.unusedVariables false
set_option linter.unusedSimpArgs false
open Go Go.RowKit
/-- Nothing has turned but the block at which a list lies. -/
def Only (a : Option Addr) (w w' : World) : Prop := (∀ B, B ≤ w.heap.size → (∀ p, a = some p → B ≤ p.block) → Below B w w') ∧ ∀ b, (∀ p, a = some p → b ≠ p.block) → w'.heap[b]? = w.heap[b]?
theorem Only.refl (a : Option Addr) (w : World) : Only a w w := ⟨fun B h _ => Below.refl _ _, fun _ _ => rfl⟩
theorem Only.blk {a : Option Addr} {w w' : World} (h : Only a w w') {b : Nat} {C : Array Value} {t : TypeId} (hb : Blk w b C t) (hne : ∀ p, a = some p → b ≠ p.block) : Blk w' b C t := by
  unfold Blk at *
  rw [h.2 b hne]; exact hb
theorem Only.own {a : Option Addr} {w w' : World} (h : Only a w w') {B : Nat} {a2 : Option Addr} {zs : List Int} (ho : OwnL w B a2 zs) (hne : ∀ p q, a = some p → a2 = some q → q.block ≠ p.block) : OwnL w' B a2 zs := by
  rcases ho with ho | ⟨g, C, h1, h2, h3, h4⟩
  · exact .inl ho
  · exact .inr ⟨g, C, h1, h2, h.blk h3 (fun p hp => hne p _ hp h2), h4⟩
/-- The same of a list that may be empty. -/
def MkOnly (zs : List Int) (a : Option Addr) (w w' : World) : Prop := (zs ≠ [] → Only a w w') ∧ (zs = [] → w = w')
theorem MkOnly.below {zs : List Int} {a : Option Addr} {w w' : World} (h : MkOnly zs a w w') {B : Nat} (ho : OwnL w B a zs) (hB : B ≤ w.heap.size) : Below B w w' := by
  by_cases e : zs = []
  · rw [← h.2 e]; exact Below.refl _ _
  · refine (h.1 e).1 B hB ?_
    rcases ho with ho | ⟨g, C, h1, h2, _⟩
    · exact absurd ho e
    · intro p hp; rw [h2] at hp; cases hp; exact h1
theorem MkOnly.own {zs : List Int} {a : Option Addr} {w w' : World} (h : MkOnly zs a w w') {B : Nat} {a2 : Option Addr} {zs2 : List Int} (ho : OwnL w B a2 zs2) (hne : zs ≠ [] → zs2 ≠ [] → ∀ p q, a = some p → a2 = some q → q.block ≠ p.block) : OwnL w' B a2 zs2 := by
  by_cases e : zs = []
  · rw [← h.2 e]; exact ho
  · by_cases e2 : zs2 = []
    · exact .inl e2
    · exact (h.1 e).own ho (hne e e2)
theorem MkOnly.blk {zs : List Int} {a : Option Addr} {w w' : World} (h : MkOnly zs a w w') {b : Nat} {C : Array Value} {t : TypeId} (hb : Blk w b C t) (hne : zs ≠ [] → ∀ p, a = some p → b ≠ p.block) : Blk w' b C t := by
  by_cases e : zs = []
  · rw [← h.2 e]; exact hb
  · exact (h.1 e).blk hb (hne e)
theorem MkOnly.size {zs : List Int} {a : Option Addr} {w w' : World} (h : MkOnly zs a w w') {B : Nat} (ho : OwnL w B a zs) (hB : B ≤ w.heap.size) : w.heap.size ≤ w'.heap.size := (h.below ho hB).size
def RelM2 (C : Array Value) (k : Int) (g : Nat) (w : World) (j : Nat) (D : Array Value) (wr : World) : Prop :=
  Blk wr g D 2 ∧ D.size = C.size ∧ (∀ m, m < j → D[m]? = some (.int .i64 (k + (m : Int)))) ∧ Below g w wr ∧ ∀ b, b ≠ g → wr.heap[b]? = w.heap[b]?
set_option maxRecDepth 100000 in
set_option maxHeartbeats 400000 in
theorem mark29o (n : Nat) (a : Option Addr) (cap : Nat) (B : Nat) (k : Int) (zs : List Int) (w : World) (hz : zs.length = n) (h : OwnL w B a zs) (hn : n ≤ 1048576) (hk0 : 0 ≤ k) (hk1 : k ≤ 1048576) :
    Calls Tryd.prog 18 #[.slice a n cap, .int .i64 k] w fun e w' => e = .returned (.int .i64 (k + n)) ∧ OwnL w' B a (marks k n) ∧ MkOnly zs a w w' := by
  rcases h with h | ⟨g, C, h1, h2, h3, h4, h5⟩
  · subst h
    simp at hz
    subst hz
    go_enter Tryd.func18, Tryd.ntmps18
    go_wp2
    refine wp_loop_rounds 1 ?_
    rw [rounds_succ]
    go_wp2
    go_ret
    exact ⟨by simp, .inl rfl, fun h => absurd rfl h, fun _ => rfl⟩
  · subst h2
    rw [hz] at h4
    have HNZ := hidd (show zs = [] → n = 0 from fun e => by rw [← hz, e]; rfl)
    clear h5 hz
    have hk := h3.lt
    go_enter Tryd.func18, Tryd.ntmps18
    go_wp2_with fail
    go_loopw [1, 5] (fun kk i wr => ∃ j : Nat, j ≤ n ∧ i = .int .i64 j ∧ kk = .int .i64 (k + j) ∧ Hid ((∃ D, RelM2 C k g w j D wr) ∧ (j = 0 → w = wr))) (fun _ i _ => n - (intOf i).toNat)
    case atStart => exact ⟨0, by omega, rfl, by simp, ⟨C, h3, rfl, fun m hm => absurd hm (by omega), Below.refl _ _, fun _ _ => rfl⟩, fun _ => rfl⟩
    case round =>
      obtain ⟨j, hj, rfl, rfl, HD⟩ := hrel
      obtain ⟨D, HR0⟩ := HD.out.1
      have HJ := hidd HD.out.2
      have HR := hidd HR0
      clear HD HR0
      by_cases hlt : j < n
      · obtain ⟨old, ho⟩ : ∃ old, wr.cell? ⟨g, j, none⟩ = some old := ⟨_, HR.out.1.cell (Array.getElem?_eq_getElem (by rw [HR.out.2.1]; omega))⟩
        have hf := HR.out.1.fro j
        have K := hidd (show RelM2 C k g w (j + 1) (D.setIfInBounds j (.int .i64 (k + (j : Int)))) (wr.setCell ⟨g, j, none⟩ (.int .i64 (k + (j : Int)))) from
          ⟨HR.out.1.same _ _, by simp [HR.out.2.1], fun m hm => by
            rw [Array.getElem?_setIfInBounds]
            by_cases e : j = m
            · subst e; rw [if_pos rfl, if_pos (by rw [HR.out.2.1]; omega)]
            · rw [if_neg e]; exact HR.out.2.2.1 m (by omega), HR.out.2.2.2.1.setCell (Nat.le_refl _) _, fun b hb => (heap_setCell_other wr ⟨g, j, none⟩ b _ hb).trans (HR.out.2.2.2.2 b hb)⟩)
        clear HR
        go_wp2_with fail
        go_roundw
        case rel => exact ⟨j + 1, by omega, by go_num, by congr 1; omega, ⟨_, K.out⟩, fun e => by omega⟩
        case measure => simp [intOf]; omega
      · have hje : j = n := by omega
        subst hje
        go_wp2_with fail
        go_ret
        exact ⟨rfl, .inr ⟨g, D, h1, rfl, HR.out.1, by rw [marks_len, HR.out.2.1]; exact h4, fun m hm => by
          rw [marks_len] at hm
          rw [HR.out.2.2.1 m hm, marks_get hm]⟩, fun _ => ⟨fun B' _ hB' => HR.out.2.2.2.1.mono (hB' _ rfl), fun b hb => HR.out.2.2.2.2 b (hb _ rfl)⟩, fun e => HJ.out (HNZ.out e)⟩
theorem OwnL.ge {w : World} {B : Nat} {a : Option Addr} {zs : List Int} (h : OwnL w B a zs) (h0 : zs ≠ []) : ∀ p, a = some p → B ≤ p.block := by
  rcases h with h | ⟨g, C, h1, h2, _⟩
  · exact absurd h h0
  · intro p hp; rw [h2] at hp; cases hp; exact h1
theorem OwnL.lt {w : World} {B : Nat} {a : Option Addr} {zs : List Int} (h : OwnL w B a zs) (h0 : zs ≠ []) : ∀ p, a = some p → p.block < w.heap.size := by
  rcases h with h | ⟨g, C, h1, h2, h3, _⟩
  · exact absurd h h0
  · intro p hp; rw [h2] at hp; cases hp; exact h3.lt
/-- A list's own block, read back as a list. -/
theorem own_of_blk {w : World} {b B : Nat} {zs : List Int} (h : Blk w b (icells zs).toArray 2) (hB : B ≤ b) : OwnL w B (some ⟨b, 0, none⟩) zs :=
  .inr ⟨b, _, hB, rfl, h, by simp [icells], fun j hj => icells_get hj⟩
end Go.Proofs.YtkiocedhibeieaaDoor
/- Lists of lists: read, compared, marked and held. -/
namespace Go.Proofs.YtkiocedhibeieaaDoor
set_option linter.unusedVariables false
set_option linter.unusedSimpArgs false
open Go Go.RowKit
set_option maxRecDepth 100000 in
set_option maxHeartbeats 400000 in
/-- Equal lists: only draws. -/
theorem eq17q (zs : List Int) (a b : Option Addr) (cap cap' : Nat) (w : World) (hs : SlI w a zs) (ht : SlI w b zs) (hl : zs.length ≤ 1048576) :
    Calls Tryd.prog 17 #[.slice a zs.length cap, .slice b zs.length cap'] w fun e w' => e = .returned (.bool true) ∧ ∃ m, w' = w.drewN m := by
  have hne : ((zs.length : Int) != (zs.length : Int)) = false := by simp
  go_enter Tryd.func17, Tryd.ntmps17
  go_wp2_with fail
  go_loopw [5] (fun i wr => ∃ k : Nat, k ≤ zs.length ∧ i = .int .i64 k ∧ Hid (∃ m, wr = w.drewN m)) (fun i _ => zs.length - (intOf i).toNat)
  case atStart => exact ⟨0, by omega, rfl, 0, rfl⟩
  case round =>
    obtain ⟨k, hk, rfl, HR⟩ := hrel
    obtain ⟨m, hm⟩ := HR.out
    have hB : Below w.heap.size w wr := by rw [hm]; exact below_drewN (Below.refl _ _) _
    have HM := hidd hm
    clear hm HR
    by_cases hlt : k < zs.length
    · rcases hs.below hB (Nat.le_refl _) with hz | ⟨x, o, ha, hc⟩
      · subst hz; simp at hlt
      · rcases ht.below hB (Nat.le_refl _) with hz | ⟨y, p, hb, hd⟩
        · subst hz; simp at hlt
        · subst ha
          subst hb
          have hck := hc k hlt
          have hdk := hd k hlt
          obtain ⟨z, hz⟩ : ∃ z, z = zs.getD k 0 := ⟨_, rfl⟩
          rw [← hz] at hck hdk
          have hzz : (z != z) = false := by simp
          clear hz hc hd hs ht hB
          go_wp2_with fail
          go_quiet (fail)
          go_wp2
          go_roundw
          case rel => exact ⟨k + 1, by omega, by go_num, m + nq, by rw [HM.out, World.drewN_drewN]⟩
          case measure => simp [intOf]; omega
    · have hke : k = zs.length := by omega
      subst hke
      go_wp2_with fail
      go_ret
      exact ⟨rfl, m, HM.out⟩
/-- A list of lists that can be read. -/
def LLr (w : World) (a : Option Addr) (L : List (List Int)) : Prop :=
  L = [] ∨ ∃ g, a = some ⟨g, 0, none⟩ ∧ ∀ j, j < L.length → ∃ b c, w.cell? ⟨g, j, none⟩ = some (.slice b (L.getD j []).length c) ∧ SlI w b (L.getD j [])
theorem cell_blw {w w' : World} {p : Addr} {v : Value} (h : w.cell? p = some v) (hb : Below w.heap.size w w') : w'.cell? p = some v := by
  rw [World.cell?_of_block (hb.block _ (World.block_lt_of_cell? w p h))]; exact h
theorem LLr.below {w w' : World} {a : Option Addr} {L : List (List Int)} (h : LLr w a L) {B : Nat} (hb : Below B w w') (hB : w.heap.size ≤ B) : LLr w' a L := by
  rcases h with h | ⟨g, ha, h⟩
  · exact .inl h
  · refine .inr ⟨g, ha, fun j hj => ?_⟩
    obtain ⟨b, c, h1, h2⟩ := h j hj
    exact ⟨b, c, cell_blw h1 (hb.mono hB), h2.below hb hB⟩
theorem LL.reads {w : World} {v : Value} {L : List (List Int)} (h : LL w v L) : ∃ a cap, v = .slice a L.length cap ∧ LLr w a L := by
  obtain ⟨xs, ⟨hxl, h | ⟨g, cap, cur, hv, hg, hc, hn, hm, hs, ht⟩⟩, h2⟩ := h
  · exact ⟨none, 0, by rw [h.1, h.2], .inl (List.length_eq_zero_iff.1 h.2)⟩
  · refine ⟨_, _, hv, .inr ⟨g, rfl, fun j hj => ?_⟩⟩
    obtain ⟨a, c, h3, h4⟩ := h2 j (L.getD j []) (by simp [List.getD, hj])
    refine ⟨a, c, ?_, h4.sl⟩
    have hb : Blk w g cur 25 := hc
    refine hb.cell ?_
    rw [← ht, List.getElem?_take, if_pos (by omega)] at h3
    simpa using h3
set_option maxRecDepth 100000 in
set_option maxHeartbeats 1000000 in
theorem eq24 (L : List (List Int)) (a b : Option Addr) (cap cap' : Nat) (w : World) (hs : LLr w a L) (ht : LLr w b L) (hl : L.length ≤ 1048576) (hi : ∀ z ∈ L, z.length ≤ 1048576) :
    Calls Tryd.prog 24 #[.slice a L.length cap, .slice b L.length cap'] w fun e w' => e = .returned (.bool true) ∧ ∃ m, w' = w.drewN m := by
  have hne : ((L.length : Int) != (L.length : Int)) = false := by simp
  have HI := hidd hi
  clear hi
  go_enter Tryd.func24, Tryd.ntmps24
  go_wp2_with fail
  go_loopw [5] (fun i wr => ∃ k : Nat, k ≤ L.length ∧ i = .int .i64 k ∧ Hid (∃ m, wr = w.drewN m)) (fun i _ => L.length - (intOf i).toNat)
  case atStart => exact ⟨0, by omega, rfl, 0, rfl⟩
  case round =>
    obtain ⟨k, hk, rfl, HR⟩ := hrel
    obtain ⟨m, hm⟩ := HR.out
    have hB : Below w.heap.size w wr := by rw [hm]; exact below_drewN (Below.refl _ _) _
    have HM := hidd hm
    clear hm HR
    by_cases hlt : k < L.length
    · rcases hs.below hB (Nat.le_refl _) with hz | ⟨x, ha, hc⟩
      · subst hz; simp at hlt
      · rcases ht.below hB (Nat.le_refl _) with hz | ⟨y, hb, hd⟩
        · subst hz; simp at hlt
        · subst ha
          subst hb
          obtain ⟨b1, c1, hck, hsk⟩ := hc k hlt
          obtain ⟨b2, c2, hdk, htk⟩ := hd k hlt
          obtain ⟨z, hz⟩ : ∃ z, z = L.getD k [] := ⟨_, rfl⟩
          rw [← hz] at hck hdk hsk htk
          have hzl : z.length ≤ 1048576 := by
            rw [hz]; exact HI.out _ (by simp [List.getD, hlt])
          have HEQ := hidd (fun n => eq17q z b1 b2 c1 c2 (wr.drewN n) (hsk.below (below_drewN (Below.refl _ _) _) (Nat.le_refl _)) (htk.below (below_drewN (Below.refl _ _) _) (Nat.le_refl _)) hzl)
          clear hz hc hd hs ht hB hsk htk hzl
          go_wp2_with fail
          go_quiet ((go_at_call 17; exact Calls.quiet_of (HEQ.out _)))
          go_wp2
          go_roundw
          case rel => exact ⟨k + 1, by omega, by go_num, m + nq, by rw [HM.out, World.drewN_drewN]⟩
          case measure => simp [intOf]; omega
    · have hke : k = L.length := by omega
      have hkk : decide ((k : Int) < (L.length : Int)) = false := by simp; omega
      clear hke
      go_wp2_with fail
      go_ret
      exact ⟨rfl, m, HM.out⟩
end Go.Proofs.YtkiocedhibeieaaDoor
/- Lists of lists of the call's own: marked and held. -/
namespace Go.Proofs.YtkiocedhibeieaaDoor
set_option linter.unusedVariables false
set_option linter.unusedSimpArgs false
open Go Go.RowKit
/-- n lists of the call's own, from block B on, no two in one block. -/
def LLf (w : World) (B g : Nat) (A : Nat → Option Addr × Nat) (C : Array Value) (n : Nat) (f : Nat → List Int) : Prop :=
  B ≤ g ∧ Blk w g C 25 ∧ n ≤ C.size ∧ (∀ j, j < n → C[j]? = some (.slice (A j).1 (f j).length (A j).2) ∧ OwnL w B (A j).1 (f j)) ∧
    ∀ i j, i < n → j < n → i ≠ j → f i ≠ [] → f j ≠ [] → ∀ p q, (A i).1 = some p → (A j).1 = some q → p.block ≠ q.block
def LLO (w : World) (B : Nat) (a : Option Addr) (n : Nat) (f : Nat → List Int) : Prop := n = 0 ∨ ∃ g A C, a = some ⟨g, 0, none⟩ ∧ LLf w B g A C n f
theorem LLO.below {w w' : World} {B : Nat} {a : Option Addr} {n : Nat} {f : Nat → List Int} (h : LLO w B a n f) {B' : Nat} (hb : Below B' w w') (hB : w.heap.size ≤ B') : LLO w' B a n f := by
  rcases h with h | ⟨g, A, C, h1, h2, h3, h4, h5, h6⟩
  · exact .inl h
  · exact .inr ⟨g, A, C, h1, h2, h3.below hb (by have := h3.lt; omega), h4, fun j hj => ⟨(h5 j hj).1, (h5 j hj).2.below hb hB⟩, h6⟩
theorem LLO.base {w : World} {B B' : Nat} {a : Option Addr} {n : Nat} {f : Nat → List Int} (h : LLO w B a n f) (hB : B' ≤ B) : LLO w B' a n f := by
  rcases h with h | ⟨g, A, C, h1, h2, h3, h4, h5, h6⟩
  · exact .inl h
  · exact .inr ⟨g, A, C, h1, by omega, h3, h4, fun j hj => ⟨(h5 j hj).1, by
      rcases (h5 j hj).2 with e | ⟨g', C', k1, k2⟩
      · exact .inl e
      · exact .inr ⟨g', C', by omega, k2⟩⟩, h6⟩
theorem LLO.reads {w : World} {B : Nat} {a : Option Addr} {L : List (List Int)} (h : LLO w B a L.length fun j => L.getD j []) : LLr w a L := by
  rcases h with h | ⟨g, A, C, h1, h2, h3, h4, h5, h6⟩
  · exact .inl (List.length_eq_zero_iff.1 h)
  · exact .inr ⟨g, h1, fun j hj => ⟨_, _, h3.cell (h5 j hj).1, (h5 j hj).2.sl⟩⟩
/-- How many numbers the first lists have. -/
def offF (f : Nat → List Int) : Nat → Nat
  | 0 => 0
  | j + 1 => offF f j + (f j).length
theorem offF_le {f : Nat → List Int} {n : Nat} (h : ∀ i, i < n → (f i).length ≤ 1000) : ∀ j, j ≤ n → offF f j ≤ j * 1000
  | 0, _ => Nat.le_refl _
  | j + 1, hj => by
    have h1 := offF_le h j (by omega)
    have h2 := h j (by omega)
    rw [offF]; omega
/-- The first j lists marked. -/
def mkF (f : Nat → List Int) (k : Int) (j : Nat) (i : Nat) : List Int := if i < j then marks (k + (offF f i : Nat)) (f i).length else f i
theorem mkF_len (f : Nat → List Int) (k : Int) (j i : Nat) : (mkF f k j i).length = (f i).length := by
  unfold mkF; split
  · exact marks_len _ _
  · rfl
theorem mkF_nil {f : Nat → List Int} {k : Int} {j i : Nat} : mkF f k j i ≠ [] ↔ f i ≠ [] := by
  rw [← List.length_pos_iff, ← List.length_pos_iff, mkF_len]
theorem mkF_at (f : Nat → List Int) (k : Int) (j : Nat) : mkF f k j j = f j := by unfold mkF; rw [if_neg (by omega)]
theorem mkF_next (f : Nat → List Int) (k : Int) (j : Nat) : mkF f k (j + 1) j = marks (k + (offF f j : Nat)) (f j).length := by unfold mkF; rw [if_pos (by omega)]
theorem mkF_other {f : Nat → List Int} {k : Int} {j i : Nat} (h : i ≠ j) : mkF f k (j + 1) i = mkF f k j i := by
  unfold mkF
  by_cases e : i < j
  · rw [if_pos e, if_pos (by omega)]
  · rw [if_neg e, if_neg (by omega)]
theorem mkF_zero (f : Nat → List Int) (k : Int) : mkF f k 0 = f := by funext i; unfold mkF; rw [if_neg (by omega)]
theorem own_blk2 {w : World} {B : Nat} {a : Option Addr} {zs : List Int} (h : OwnL w B a zs) (h0 : zs ≠ []) : ∀ p, a = some p → ∃ C, Blk w p.block C 2 := by
  rcases h with h | ⟨g, C, h1, h2, h3, _⟩
  · exact absurd h h0
  · intro p hp; rw [h2] at hp; cases hp; exact ⟨C, h3⟩
theorem blk_dif {W : World} {a b : Nat} {C D : Array Value} (h : Blk W a C 25) (k : Blk W b D 2) : a ≠ b := fun e => by
  subst e
  unfold Blk at h k
  rw [h] at k
  cases k
theorem mark_step {w w' : World} {B g : Nat} {A : Nat → Option Addr × Nat} {C : Array Value} {n : Nat} {f : Nat → List Int} {k : Int} {j : Nat} (h : LLf w B g A C n (mkF f k j)) (hj : j < n)
    (ho : OwnL w' B (A j).1 (marks (k + (offF f j : Nat)) (f j).length)) (hm : MkOnly (f j) (A j).1 w w') : LLf w' B g A C n (mkF f k (j + 1)) := by
  obtain ⟨h1, h2, h3, h4, h5⟩ := h
  have hoj := (h4 j hj).2
  rw [mkF_at] at hoj
  refine ⟨h1, hm.blk h2 (fun e p hp => ?_), h3, fun i hi => ?_, fun i i' hi hi' hne hn1 hn2 p q hp hq => h5 i i' hi hi' hne (mkF_nil.2 (mkF_nil.1 hn1)) (mkF_nil.2 (mkF_nil.1 hn2)) p q hp hq⟩
  · obtain ⟨D, hD⟩ := own_blk2 hoj e p hp
    exact blk_dif h2 hD
  · refine ⟨by rw [mkF_len, ← mkF_len f k j]; exact (h4 i hi).1, ?_⟩
    by_cases e : i = j
    · subst e; rw [mkF_next]; exact ho
    · rw [mkF_other e]
      exact hm.own (h4 i hi).2 (fun n1 n2 p q hp hq => fun e2 => h5 i j hi hj e n2 (by rw [mkF_at]; exact n1) q p hq hp e2)
set_option maxRecDepth 100000 in
set_option maxHeartbeats 1000000 in
theorem mark25 (n : Nat) (f : Nat → List Int) (a : Option Addr) (cap : Nat) (B : Nat) (k : Int) (w : World) (h : LLO w B a n f) (hB : B ≤ w.heap.size) (hn : n ≤ 1000) (hf : ∀ i, i < n → (f i).length ≤ 1000) (hk0 : 0 ≤ k) (hk1 : k ≤ 1000) :
    Calls Tryd.prog 25 #[.slice a n cap, .int .i64 k] w fun e w' => e = .returned (.int .i64 (k + (offF f n : Nat))) ∧ LLO w' B a n (mkF f k n) ∧ Below B w w' := by
  have HOF := hidd (offF_le hf)
  have HF := hidd hf
  clear hf
  rcases h with h | ⟨g, A, C, rfl, hL⟩
  · subst h
    go_enter Tryd.func25, Tryd.ntmps25
    go_wp2
    refine wp_loop_rounds 1 ?_
    rw [rounds_succ]
    go_wp2
    go_ret
    exact ⟨by simp [offF], .inl rfl, Below.refl _ _⟩
  · have HL := hidd hL
    clear hL
    go_enter Tryd.func25, Tryd.ntmps25
    go_wp2_with fail
    go_loopw [1, 5] (fun kk i wr => ∃ j : Nat, j ≤ n ∧ i = .int .i64 j ∧ kk = .int .i64 (k + (offF f j : Nat)) ∧ Hid (LLf wr B g A C n (mkF f k j) ∧ Below B w wr)) (fun _ i _ => n - (intOf i).toNat)
    case atStart => exact ⟨0, by omega, rfl, by simp [offF], by rw [mkF_zero]; exact HL.out, Below.refl _ _⟩
    case round =>
      obtain ⟨j, hj, rfl, rfl, HR⟩ := hrel
      by_cases hlt : j < n
      · have hc := (HR.out.1.2.2.2.1 j hlt).1
        have ho := (HR.out.1.2.2.2.1 j hlt).2
        have cj := HR.out.1.2.1.cell hc
        rw [mkF_at] at ho cj
        have HO := hidd ho
        have ho1 := HOF.out j hj
        have ho2 := HF.out j hlt
        obtain ⟨q, hq⟩ : ∃ q, q = k + (offF f j : Nat) := ⟨_, rfl⟩
        have hq0 : 0 ≤ q := by omega
        have hq1 : q ≤ 1048576 := by omega
        have HST := hidd (fun (w' : World) ho' hm => mark_step (w' := w') HR.out.1 hlt ho' hm)
        have hnx : k + (offF f (j + 1) : Nat) = q + (f j).length := by rw [offF, hq]; omega
        have HNX := hidd hnx
        rw [← hq] at HST ⊢
        have HMK := hidd (mark29o (f j).length (A j).1 (A j).2 B q (f j) wr rfl HO.out (by omega) hq0 hq1)
        have HOO := hidd (fun w' (h : MkOnly (f j) (A j).1 wr w') => h.below HO.out (Nat.le_trans hB HR.out.2.size))
        obtain ⟨aj, haj⟩ : ∃ x, x = (A j).1 := ⟨_, rfl⟩
        obtain ⟨cj', hcj⟩ : ∃ x, x = (A j).2 := ⟨_, rfl⟩
        obtain ⟨lj, hlj⟩ : ∃ x, x = (f j).length := ⟨_, rfl⟩
        rw [← haj, ← hcj, ← hlj] at cj HMK
        rw [← haj, ← hlj] at HST
        rw [← haj] at HOO
        rw [← hlj] at HNX
        clear hc ho hq hnx haj hcj hlj
        go_wp2_with fail
        refine HMK.out.mono ?_
        rintro e w1 ⟨rfl, ho', hm'⟩
        have K := hidd (And.intro (HST.out w1 ho' hm') (HR.out.2.trans (HOO.out w1 hm')))
        clear ho' hm'
        go_wp2_with fail
        go_roundw
        case rel => exact ⟨j + 1, by omega, by go_num, by rw [HNX.out], K.out⟩
        case measure => simp [intOf]; omega
      · have hje : j = n := by omega
        subst hje
        go_wp2_with fail
        go_ret
        exact ⟨rfl, .inr ⟨g, A, C, rfl, HR.out.1⟩, HR.out.2⟩
set_option maxRecDepth 100000 in
set_option maxHeartbeats 1000000 in
theorem held26 (n : Nat) (f : Nat → List Int) (a : Option Addr) (cap : Nat) (B : Nat) (k : Int) (w : World) (h : LLO w B a n (mkF f k n)) (hn : n ≤ 1000) (hf : ∀ i, i < n → (f i).length ≤ 1000) (hk0 : 0 ≤ k) (hk1 : k ≤ 1000) :
    Calls Tryd.prog 26 #[.slice a n cap, .int .i64 k] w fun e w' => e = .returned (.int .i64 (k + (offF f n : Nat))) ∧ w = w' := by
  have HOF := hidd (offF_le hf)
  have HF := hidd hf
  clear hf
  rcases h with h | ⟨g, A, C, rfl, hL⟩
  · subst h
    go_enter Tryd.func26, Tryd.ntmps26
    go_wp2
    refine wp_loop_rounds 1 ?_
    rw [rounds_succ]
    go_wp2
    go_ret
    exact ⟨by simp [offF], rfl⟩
  · have HL := hidd hL
    clear hL
    go_enter Tryd.func26, Tryd.ntmps26
    go_wp2_with fail
    go_loop [1, 5] (fun kk i => ∃ j : Nat, j ≤ n ∧ i = .int .i64 j ∧ kk = .int .i64 (k + (offF f j : Nat))) (fun _ i => n - (intOf i).toNat)
    case atStart => exact ⟨0, by omega, rfl, by simp [offF]⟩
    case round =>
      obtain ⟨j, hj, rfl, rfl⟩ := hrel
      by_cases hlt : j < n
      · have hc := (HL.out.2.2.2.1 j hlt).1
        have ho := (HL.out.2.2.2.1 j hlt).2
        have cj := HL.out.2.1.cell hc
        have ho1 := HOF.out j hj
        have ho2 := HF.out j hlt
        rw [mkF_len] at cj
        have hmk : mkF f k n j = marks (k + (offF f j : Nat)) (f j).length := by unfold mkF; rw [if_pos hlt]
        rw [hmk] at ho
        obtain ⟨q, hq⟩ : ∃ q, q = k + (offF f j : Nat) := ⟨_, rfl⟩
        have hq0 : 0 ≤ q := by omega
        have hq1 : q ≤ 1048576 := by omega
        have hnx : k + (offF f (j + 1) : Nat) = q + (f j).length := by rw [offF, hq]; omega
        have HNX := hidd hnx
        rw [← hq] at ho ⊢
        have HMK := hidd (held30 (f j).length (A j).1 (A j).2 B q w ho (by omega) hq0 hq1)
        obtain ⟨aj, haj⟩ : ∃ x, x = (A j).1 := ⟨_, rfl⟩
        obtain ⟨cj', hcj⟩ : ∃ x, x = (A j).2 := ⟨_, rfl⟩
        obtain ⟨lj, hlj⟩ : ∃ x, x = (f j).length := ⟨_, rfl⟩
        rw [← haj, ← hcj, ← hlj] at cj HMK
        rw [← hlj] at HNX
        clear hc ho hmk hq hnx haj hcj hlj
        go_wp2_with fail
        refine HMK.out.mono ?_
        rintro e w1 ⟨rfl, rfl⟩
        go_wp2_with fail
        go_round
        case rel => exact ⟨j + 1, by omega, by go_num, by rw [HNX.out]⟩
        case measure => simp [intOf]; omega
      · have hje : j = n := by omega
        subst hje
        go_wp2_with fail
        go_ret
        exact ⟨rfl, rfl⟩
end Go.Proofs.YtkiocedhibeieaaDoor
/- A list of lists while it is built: each inner list in a block of its own. -/
namespace Go.Proofs.YtkiocedhibeieaaDoor
set_option linter.unusedVariables false
set_option linter.unusedSimpArgs false
open Go Go.RowKit Go.Shelf
/-- The outer cells. -/
def lcells (A : Nat → Option Addr × Nat) (L : List (List Int)) : List Value := (List.range L.length).map fun j => Value.slice (A j).1 (L.getD j []).length (A j).2
theorem lcells_len (A : Nat → Option Addr × Nat) (L : List (List Int)) : (lcells A L).length = L.length := by simp [lcells]
theorem lcells_get {A : Nat → Option Addr × Nat} {L : List (List Int)} {j : Nat} (h : j < L.length) : (lcells A L)[j]? = some (Value.slice (A j).1 (L.getD j []).length (A j).2) := by
  simp [lcells, h]
def LLW (w : World) (B : Nat) (v : Value) (L : List (List Int)) : Prop :=
  ∃ A : Nat → Option Addr × Nat, w.ownsRow B 25 1 v L.length (lcells A L) ∧ (∀ j, j < L.length → OwnL w B (A j).1 (L.getD j [])) ∧
    ∀ i j, i < L.length → j < L.length → i ≠ j → L.getD i [] ≠ [] → L.getD j [] ≠ [] → ∀ p q, (A i).1 = some p → (A j).1 = some q → p.block ≠ q.block
theorem LLW.nil (w : World) (B : Nat) : LLW w B (.slice none 0 0) [] := ⟨fun _ => (none, 0), ⟨rfl, .inl ⟨rfl, rfl⟩⟩, fun j hj => by simp at hj, fun i j hi => by simp at hi⟩
theorem LLW.below {w w' : World} {B : Nat} {v : Value} {L : List (List Int)} (h : LLW w B v L) {B' : Nat} (hb : Below B' w w') (hB : w.heap.size ≤ B') : LLW w' B v L := by
  obtain ⟨A, h1, h2, h3⟩ := h
  exact ⟨A, own_below h1 hb hB, fun j hj => (h2 j hj).below hb hB, h3⟩
theorem own_grow {B : Nat} {W W' : World} {e : TypeId} {size : Nat} {v : Value} {n : Nat} {xs : List Value} {row : Option Nat} (h : W.ownsRow B e size v n xs) (hg : W.grownBy W' row) (hr : ∀ r, row = some r → ∃ o : Obj, W.heap[r]? = some o ∧ o.isCells = false) : W'.ownsRow B e size v n xs := by
  refine ⟨h.1, ?_⟩
  rcases h.2 with h2 | ⟨g, cap, cur, hv, hB, hc, r⟩
  · exact .inl h2
  · refine .inr ⟨g, cap, cur, hv, hB, (hg.block g (Array.getElem?_eq_some_iff.1 hc).1 (fun e => ?_)).trans hc, r⟩
    obtain ⟨o, ho, hcl⟩ := hr g e.symm
    rw [hc] at ho
    cases ho; cases hcl
theorem ownL_grow {B : Nat} {W W' : World} {a : Option Addr} {zs : List Int} {row : Option Nat} (h : OwnL W B a zs) (hg : W.grownBy W' row) (hr : ∀ r, row = some r → ∃ o : Obj, W.heap[r]? = some o ∧ o.isCells = false) : OwnL W' B a zs := by
  rcases h with h | ⟨g, C, h1, h2, h3, h4⟩
  · exact .inl h
  · refine .inr ⟨g, C, h1, h2, (hg.block g h3.lt (fun e => ?_)).trans h3, h4⟩
    obtain ⟨o, ho, hcl⟩ := hr g e.symm
    rw [show W.heap[g]? = _ from h3] at ho
    cases ho; cases hcl
theorem LLW.grow {w w' : World} {B : Nat} {v : Value} {L : List (List Int)} {row : Option Nat} (h : LLW w B v L) (hg : w.grownBy w' row) (hr : ∀ r, row = some r → ∃ o : Obj, w.heap[r]? = some o ∧ o.isCells = false) : LLW w' B v L := by
  obtain ⟨A, h1, h2, h3⟩ := h
  exact ⟨A, own_grow h1 hg hr, fun j hj => ownL_grow (h2 j hj) hg hr, h3⟩
theorem LLW.shape {w : World} {B : Nat} {v : Value} {L : List (List Int)} (h : LLW w B v L) : ∃ a cap, v = .slice a L.length cap := by
  obtain ⟨A, ⟨_, h | ⟨g, cap, cur, hv, _⟩⟩, _⟩ := h
  · exact ⟨none, 0, by rw [h.1, h.2]⟩
  · exact ⟨_, _, hv⟩
theorem LLW.row {w : World} {B : Nat} {v : Value} {L : List (List Int)} (h : LLW w B v L) : ∀ r, v.ownBlock = some r → B ≤ r ∧ ∃ C, Blk w r C 25 := by
  obtain ⟨A, ⟨_, h | ⟨g, cap, cur, hv, hg, hc, _⟩⟩, _⟩ := h
  · intro r hr; rw [h.1] at hr; cases hr
  · intro r hr; rw [hv] at hr; cases hr; exact ⟨hg, cur, hc⟩
theorem LLW.out {w : World} {B : Nat} {v : Value} {L : List (List Int)} (h : LLW w B v L) : ∃ a cap, v = .slice a L.length cap ∧ LLO w B a L.length fun j => L.getD j [] := by
  obtain ⟨A, ⟨hl, h | ⟨g, cap, cur, hv, hg, hc, hn, hm, hs, ht⟩⟩, h2, h3⟩ := h
  · exact ⟨none, 0, by rw [h.1, h.2], .inl h.2⟩
  · refine ⟨_, _, hv, .inr ⟨g, A, cur, rfl, hg, hc, by omega, fun j hj => ⟨?_, h2 j hj⟩, h3⟩⟩
    have h4 := lcells_get (A := A) hj
    rw [← ht, List.getElem?_take, if_pos (by omega)] at h4
    simpa using h4
/-- One list more: laid in new memory, its slice put behind the others. -/
theorem LLW.push {W X Y : World} {B : Nat} {v v' : Value} {L : List (List Int)} {zs : List Int} {a : Option Addr} {c : Nat} {o : Obj} (h : LLW W B v L) (hB : B ≤ W.heap.size) (hb : Below W.heap.size W X) (ho : OwnL X W.heap.size a zs)
    (hg : (X.alloc o).grownBy Y v.ownBlock) {A : Nat → Option Addr × Nat} (hA : (∀ j, j < L.length → OwnL W B (A j).1 (L.getD j [])) ∧ ∀ i j, i < L.length → j < L.length → i ≠ j → L.getD i [] ≠ [] → L.getD j [] ≠ [] → ∀ p q, (A i).1 = some p → (A j).1 = some q → p.block ≠ q.block)
    (hown : Y.ownsRow B 25 1 v' (L.length + 1) (lcells A L ++ [.slice a zs.length c])) : LLW Y B v' (L ++ [zs]) := by
  have hrow : ∀ r, v.ownBlock = some r → ∃ C, Blk (X.alloc o) r C 25 := fun r hr => by
    obtain ⟨h1, C, h2⟩ := h.row r hr
    exact ⟨C, (h2.below hb h2.lt).alloc _⟩
  have hga : ∀ {a : Option Addr} {B' : Nat} {ys : List Int}, OwnL X B' a ys → OwnL Y B' a ys := fun h1 => by
    refine OwnL.grown (h1.below ((Below.refl X.heap.size X).alloc (Nat.le_refl _) o) (Nat.le_refl _)) hg hrow
  let A' : Nat → Option Addr × Nat := fun j => if j < L.length then A j else (a, c)
  have hlt : ∀ {j}, j < L.length → A' j = A j := fun h => if_pos h
  have hge : A' L.length = (a, c) := if_neg (Nat.lt_irrefl _)
  have gl : ∀ {j}, j < L.length → (L ++ [zs]).getD j [] = L.getD j [] := fun {j} h => by simp [List.getD, List.getElem?_append_left h]
  have ge : (L ++ [zs]).getD L.length [] = zs := by simp [List.getD]
  refine ⟨A', ?_, fun j hj => ?_, fun i j hi hj hne hi0 hj0 p q hp hq => ?_⟩
  · have e : lcells A' (L ++ [zs]) = lcells A L ++ [.slice a zs.length c] := by
      apply List.ext_getElem?
      intro j
      by_cases hj : j < L.length
      · rw [lcells_get (by simp; omega), List.getElem?_append_left (by rw [lcells_len]; exact hj), lcells_get hj, gl hj, hlt hj]
      · by_cases hj2 : j = L.length
        · subst hj2
          rw [lcells_get (by simp), ge, hge, List.getElem?_append_right (by rw [lcells_len]; exact Nat.le_refl _), lcells_len]; simp
        · rw [List.getElem?_eq_none (by rw [lcells_len]; simp; omega), List.getElem?_eq_none (by simp [lcells_len]; omega)]
    rw [e, List.length_append]; exact hown
  · by_cases hl : j < L.length
    · rw [gl hl, hlt hl]
      exact hga ((hA.1 j hl).below hb (Nat.le_refl _))
    · have hj2 : j = L.length := by simp at hj; omega
      subst hj2
      rw [ge, hge]
      exact hga (ownL_base ho hB)
  · by_cases hl : i < L.length
    · by_cases hl2 : j < L.length
      · rw [gl hl] at hi0
        rw [gl hl2] at hj0
        rw [hlt hl] at hp
        rw [hlt hl2] at hq
        exact hA.2 i j hl hl2 hne hi0 hj0 p q hp hq
      · have hj2 : j = L.length := by simp at hj; omega
        subst hj2
        rw [gl hl] at hi0
        rw [hlt hl] at hp
        rw [ge] at hj0
        rw [hge] at hq
        have h1 := (hA.1 i hl).lt hi0 p hp
        have h2 := ho.ge hj0 q hq
        omega
    · have hi2 : i = L.length := by simp at hi; omega
      subst hi2
      have hl2 : j < L.length := by simp at hj; omega
      rw [ge] at hi0
      rw [hge] at hp
      rw [gl hl2] at hj0
      rw [hlt hl2] at hq
      have h1 := (hA.1 j hl2).lt hj0 q hq
      have h2 := ho.ge hi0 p hp
      omega
/-- A list of lists of the call's own and a code. -/
def LLOut (w : World) (L : List (List Int)) (code : Int) (e : Ending) (w' : World) : Prop :=
  ∃ a cap, e = .returned (.tuple #[.slice a L.length cap, .int .i64 code]) ∧ (LLO w' w.heap.size a L.length fun j => L.getD j []) ∧ Below w.heap.size w w'
/-- .. that can be read. -/
def LLOut0 (w : World) (L : List (List Int)) (code : Int) (e : Ending) (w' : World) : Prop :=
  ∃ a cap, e = .returned (.tuple #[.slice a L.length cap, .int .i64 code]) ∧ LLr w' a L ∧ Below w.heap.size w w'
end Go.Proofs.YtkiocedhibeieaaDoor
/- math/bits.TrailingZeros32, and the least point of a set. -/
namespace Go.Proofs.YtkiocedhibeieaaDoor
set_option linter.unusedVariables false
set_option linter.unusedSimpArgs false
open Go Go.RowKit
/-- The table of the trailing zeros lies as its initialiser lays it. -/
def Tz (w : World) : Prop := ∀ j, j < 32 → w.cell? ⟨0, j, none⟩ = some (.int .u8 ((Lib.deBruijn32tab.getD j 0 : Nat) : Int))
theorem Tz.below {w w' : World} (h : Tz w) {B : Nat} (hb : Below B w w') (hB : 0 < B) : Tz w' := fun j hj => by
  rw [hb.cell (p := ⟨0, j, none⟩) hB]; exact h j hj
theorem Tz.drew {w : World} (h : Tz w) : Tz w.drew := h
theorem wrap_u32 (n : Int) : IntKind.u32.wrap n = n % 4294967296 := by simp [IntKind.wrap, IntKind.signed, IntKind.bits]
theorem u32_andn (a b : Nat) (ha : a < 4294967296) (hb : b < 4294967296) : bits .and .u32 (a : Int) (b : Int) = ((a &&& b : Nat) : Int) := by
  have hx : a &&& b < 2 ^ 32 := Nat.and_lt_two_pow _ (by omega)
  have h1 : (BitVec.ofInt 32 (a : Int)).toNat = a := by
    rw [BitVec.ofInt_natCast, BitVec.toNat_ofNat]; exact Nat.mod_eq_of_lt (by omega)
  have h2 : (BitVec.ofInt 32 (b : Int)).toNat = b := by
    rw [BitVec.ofInt_natCast, BitVec.toNat_ofNat]; exact Nat.mod_eq_of_lt (by omega)
  show IntKind.u32.wrap ((BitVec.ofInt 32 (a : Int) &&& BitVec.ofInt 32 (b : Int)).toNat : Int) = _
  rw [BitVec.toNat_and, h1, h2, wrap_u32]
  omega
theorem tz_key (x a : Nat) (hx : x < 4294967296) (hx0 : x ≠ 0) (hlow : x &&& (4294967296 - x) = a) :
    bits BinOp.and IntKind.u32 (x : Int) (-(x : Int) % 4294967296) * 125613361 % 4294967296 / 134217728 = ((a * 125613361 % 4294967296 / 134217728 : Nat) : Int) := by
  have e1 : -(x : Int) % 4294967296 = ((4294967296 - x : Nat) : Int) := by omega
  rw [e1, u32_andn x _ hx (by omega), hlow]
  omega
set_option maxHeartbeats 1000000 in
theorem tz_core (x k idx : Nat) (w : World) (hx0 : ((x : Int) == 0) = false)
    (key : bits BinOp.and IntKind.u32 (x : Int) (-(x : Int) % 4294967296) * 125613361 % 4294967296 / 134217728 = (idx : Int))
    (hi : idx < 32) (hk : k < 32) (hcell : w.cell? ⟨0, idx, none⟩ = some (.int .u8 k)) :
    Calls Tryd.prog 75 #[.int .u32 x] w fun e w' => e = .returned (.int .i64 k) ∧ w = w' := by
  go_enter Tryd.func75, Tryd.ntmps75
  go_wp2_with (simp only [key])
  go_ret
  exact ⟨rfl, rfl⟩
/-- math/bits.TrailingZeros32 at a number that is not 0. -/
theorem tz32 (x : Nat) (hx : x < 4294967296) (hx0 : x ≠ 0) (w : World) (hT : Tz w) :
    Calls Tryd.prog 75 #[.int .u32 x] w fun e w' => e = .returned (.int .i64 (Lib.ctz 32 x : Nat)) ∧ w = w' := by
  obtain ⟨hlow, hk⟩ := Lib.lowest_bit 32 x hx0 hx
  obtain ⟨hi, htab⟩ := Lib.deBruijn32_at _ hk
  have hcell := hT _ hi
  rw [htab] at hcell
  exact tz_core x _ _ w (by simp; omega) (tz_key x _ hx hx0 hlow) hi hk hcell
end Go.Proofs.YtkiocedhibeieaaDoor
