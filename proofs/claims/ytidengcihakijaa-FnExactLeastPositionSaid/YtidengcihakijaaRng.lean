/- Ranges over a function of which each round keeps whatever the function has laid so far: what such a function promises, and the statement 'for .. range' over it. -/
import Derived.Test.YtidengcihakijaaGb
import Derived.RangeFuncNested
import Derived.RangeFuncLeaves
namespace Go.Proofs.Ytidengcihakijaa
set_option linter.unusedVariables false
set_option linter.unusedSimpArgs false
open Go Go.RowKit Go.Shelf
/-- What is said outlasts whatever happens at or above block B. -/
def Stab {β : Type} (B : Nat) (J : β → World → Prop) : Prop := ∀ s A A', J s A → Below B A A' → J s A'
/-- No variable, no list and no array turns. -/
def CKept (A A' : World) : Prop := ∀ (k : Nat) (C : Array Value) (t : TypeId) (fr : Nat × Nat), A.heap[k]? = some (Obj.cells C t fr) → A'.heap[k]? = some (Obj.cells C t fr)
theorem CKept.refl (A : World) : CKept A A := fun _ _ _ _ h => h
theorem CKept.trans {A B C : World} (h : CKept A B) (k : CKept B C) : CKept A C := fun i c t f e => k i c t f (h i c t f e)
theorem CKept.put {A : World} {l : Nat} {o : Obj} (hl : A.heap[l]? = some o) (ho : o.isCells = false) (o' : Obj) : CKept A (A.putObj l o') := by
  intro k C t fr h
  have hne : k ≠ l := by
    rintro rfl
    rw [h] at hl
    cases hl
    cases ho
  exact (World.putObj_heap_other hne).trans h
/-- The same of what outlasts only what leaves all variables alone. -/
def StabX {β : Type} (B : Nat) (J : β → World → Prop) : Prop := ∀ s A A', J s A → Below B A A' → CKept A A' → J s A'
theorem Stab.x {β : Type} {B : Nat} {J : β → World → Prop} (h : Stab B J) : StabX B J := fun s A A' a b _ => h s A A' a b
/-- The blocks from B on, and those that are named, lie as they lay. -/
def Kx (bs : List Nat) (B : Nat) (W W' : World) : Prop := W.heap.size ≤ W'.heap.size ∧ ∀ k, k < W.heap.size → B ≤ k ∨ k ∈ bs → W'.heap[k]? = W.heap[k]?
theorem Kx.refl (bs : List Nat) (B : Nat) (W : World) : Kx bs B W W := ⟨Nat.le_refl _, fun _ _ _ => rfl⟩
theorem Kx.trans {bs : List Nat} {B : Nat} {X Y Z : World} (h : Kx bs B X Y) (k : Kx bs B Y Z) : Kx bs B X Z :=
  ⟨Nat.le_trans h.1 k.1, fun i hi hb => (k.2 i (Nat.lt_of_lt_of_le hi h.1) hb).trans (h.2 i hi hb)⟩
theorem Kx.up {bs : List Nat} {B B' : Nat} {X Y : World} (h : Kx bs B X Y) (hB : B ≤ B') : Kx bs B' X Y := ⟨h.1, fun i hi hb => h.2 i hi (hb.imp (fun e => Nat.le_trans hB e) id)⟩
theorem Kx.of_below {bs : List Nat} {B : Nat} {X Y : World} (h : Below X.heap.size X Y) : Kx bs B X Y := ⟨h.size, fun i hi _ => h.block i hi⟩
theorem Kx.put {bs : List Nat} {B l : Nat} {X : World} (o : Obj) (h1 : l < B) (h2 : ¬ l ∈ bs) : Kx bs B X (X.putObj l o) :=
  ⟨by simp, fun i _ hb => World.putObj_heap_other (fun e => by subst e; rcases hb with hb | hb; omega; exact h2 hb)⟩
theorem below_put {B l : Nat} {X : World} (o : Obj) (h : B ≤ l) : Below B X (X.putObj l o) := ⟨rfl, rfl, rfl, by simp, fun k hk => World.putObj_heap_other (by omega)⟩
/-- What a function that hands out the elements of a list, one by one, promises: m is the depth of a round. -/
def Gives {α : Type} (m : Nat) (g : Nat) (lb : Array Value) (encs : α → Array Value) (bs : List Nat) (all : List α) (w : World) : Prop :=
  ∀ (l : Nat) (J Jx : List α → World → Prop) (W : World), w.heap.size ≤ W.heap.size → (∀ b, b ∈ bs → W.heap[b]? = w.heap[b]?) → Stab W.heap.size J → StabX W.heap.size Jx →
    (∀ pre x rest W1, all = pre ++ x :: rest → J pre W1 → YieldAt Fence.wide m Try.prog l (encs x) W1 fun e W' =>
      Kx bs W.heap.size W1 W' ∧ ((e = .returned (.bool true) ∧ J (pre ++ [x]) W') ∨ (e = .returned (.bool false) ∧ Jx (pre ++ [x]) W'))) →
    J [] W →
    CallsIn Fence.wide (m + 1) Try.prog g (#[.func (.yield l) #[] #[]] ++ lb) W fun e W' => (∃ v, e = .returned v) ∧ (J all W' ∨ ∃ pre x rest, all = pre ++ x :: rest ∧ Jx (pre ++ [x]) W')
/-- How a round ends. -/
def rndPost {α : Type} (bs : List Nat) (B : Nat) (I Ix : List α → World → Prop) (xs : List α) (W : World) : Exit → Act → World → Prop
  | .normal, _, W' => Kx bs B W W' ∧ I xs W'
  | .ret, _, W' => Kx bs B W W' ∧ Ix xs W'
  | _, _, _ => False
theorem range_gives {α : Type} {g : Operand} {ps : Array Tmp} {assign body : Code} {Q : Exit → Act → World → Prop} {a : Act} {w : World} {m gf : Nat} {lb : Array Value}
    (hg : a.eval g = .func (.func gf) #[] lb) (eg : ∀ args w, (callFunc gf args).run Try.prog w = .ok (.enter gf args) w)
    {encs : α → Array Value} {bs : List Nat} {all : List α} (hseq : Gives m gf lb encs bs all w) (hbs : ∀ b, b ∈ bs → b < w.heap.size) (hps : ∀ x, (encs x).size = ps.size)
    (I Ix : List α → World → Prop) (hI : Stab w.heap.size I) (hIx : StabX w.heap.size Ix) (h0 : I [] w)
    (Ax : α → Act → World → Prop) (hAx : ∀ x a' A l o o', Ax x a' A → A.heap[l]? = some o → o.isCells = false → Ax x a' (A.putObj l o'))
    (hassign : ∀ (l : Nat) pre x rest (W : World) (K : Act → World → Prop), all = pre ++ x :: rest → I pre W → w.heap.size ≤ W.heap.size → (∀ a' W', Below W.heap.size W W' → Ax x a' W' → K a' W') →
      assign.wpIn (Fence.wide.inRound l) m Try.prog (Exit.then K (fun _ _ _ => False)) { tmps := (ps.zip (encs x)).foldl (fun t (p, v) => t.setIfInBounds p v) a.tmps, defers := [] } W)
    (hbody : ∀ (l : Nat) pre x rest (a' : Act) (W : World), all = pre ++ x :: rest → w.heap.size ≤ W.heap.size → I pre W → Ax x a' W →
      body.wpIn (Fence.wide.inRound l) m Try.prog (rndPost bs w.heap.size I Ix (pre ++ [x]) W) a' W)
    (hdone : ∀ (D : Nat) (W : World), w.heap.size ≤ D → I all W → W.heap[D]? = some (.deferred (some [])) → Q .normal { a with defers := { target := .collected D, args := #[] } :: a.defers } W)
    (hstop : ∀ (D : Nat) pre x rest (W : World), w.heap.size ≤ D → all = pre ++ x :: rest → Ix (pre ++ [x]) W → W.heap[D]? = some (.deferred (some [])) →
      Code.ret.wpIn Fence.wide (m + 2) Try.prog Q { a with defers := { target := .collected D, args := #[] } :: a.defers } W) :
    (Code.rangeFunc g ps assign body).wpIn Fence.wide (m + 2) Try.prog Q a w := by
  refine wpIn_rangeFunc fun fn hfn => ?_
  have hlD : ¬ w.heap.size ∈ bs := fun h => by have := hbs _ h; omega
  have hlL : ¬ (w.heap.size + 1) ∈ bs := fun h => by have := hbs _ h; omega
  obtain ⟨st, hst⟩ : ∃ st : LoopState → Option Code → Loop, st = fun s p => { state := s, pending := p, fn, tmps := a.tmps, params := ps, assign, body, defers := w.heap.size } := ⟨_, rfl⟩
  obtain ⟨V, hV⟩ : ∃ V, V = (w.alloc (.deferred (some []))).alloc (.loop (st .ready none)) := ⟨_, rfl⟩
  have hVw : Below w.heap.size w V := by rw [hV]; exact ((Below.refl _ _).alloc (Nat.le_refl _) _).alloc (by simp) _
  have hVs : V.heap.size = w.heap.size + 2 := by rw [hV]; simp
  have hVl : V.heap[w.heap.size + 1]? = some (.loop (st .ready none)) := by
    rw [hV]; have := World.alloc_heap_new (w.alloc (.deferred (some []))) (.loop (st .ready none)); rwa [World.size_alloc] at this
  have hVd : V.heap[w.heap.size]? = some (.deferred (some [])) := by rw [hV]; exact (Below.heap_alloc _ _ _ (by simp)).trans (World.alloc_heap_new w _)
  -- the two blocks of the loop's own books
  obtain ⟨Bk, hBk⟩ : ∃ Bk : LoopState → Option Code → World → Prop, Bk = fun s p W => V.heap.size ≤ W.heap.size ∧ W.heap[w.heap.size + 1]? = some (.loop (st s p)) ∧ W.heap[w.heap.size]? = some (.deferred (some [])) := ⟨_, rfl⟩
  have bkBelow : ∀ s p A A', Bk s p A → Below V.heap.size A A' → Bk s p A' := fun s p A A' h hb => by
    rw [hBk] at h ⊢
    exact ⟨Nat.le_trans h.1 hb.size, (hb.block _ (by omega)).trans h.2.1, (hb.block _ (by omega)).trans h.2.2⟩
  have bkKx : ∀ s p A A', Bk s p A → Kx bs w.heap.size A A' → Bk s p A' := fun s p A A' h hb => by
    rw [hBk] at h ⊢
    exact ⟨Nat.le_trans h.1 hb.1, (hb.2 _ (by have := h.1; omega) (.inl (by omega))).trans h.2.1, (hb.2 _ (by have := h.1; omega) (.inl (Nat.le_refl _))).trans h.2.2⟩
  have bkPut : ∀ s p s' p' A, Bk s p A → Bk s' p' (A.putObj (w.heap.size + 1) (.loop (st s' p'))) := fun s p s' p' A h => by
    rw [hBk] at h ⊢
    exact ⟨by simpa using h.1, World.putObj_heap_same (by have := h.1; omega), (World.putObj_heap_other (by omega)).trans h.2.2⟩
  have xPut : ∀ {xs A} {r : Loop} (o : Obj), A.heap[w.heap.size + 1]? = some (.loop r) → Ix xs A → Ix xs (A.putObj (w.heap.size + 1) o) := fun o hl h => hIx _ _ _ h (below_put o (by omega)) (CKept.put hl rfl o)
  have iPut : ∀ {J : List α → World → Prop}, Stab w.heap.size J → ∀ {xs A} (o : Obj), J xs A → J xs (A.putObj (w.heap.size + 1) o) := fun hJ xs A o h => hJ xs A _ h (below_put o (by omega))
  refine ⟨w.heap.size + 1, [{ target := .collected w.heap.size, args := #[] }], V, { target := .fn (.func gf) lb, args := #[.func (.yield (w.heap.size + 1)) #[] #[]] }, V, gf,
    #[.func (.yield (w.heap.size + 1)) #[] #[]] ++ lb, V, ?_, ?_, ?_, ?_, fun _ => by omega, ?_⟩
  · rw [hV, hst]; exact run_enterLoop_outer _ _ _ _ _
  · simp only [resolve, hg]
    simp [go_sem]
  · intro f' hf'; exact trivial
  · simp [invoke, go_sem, eg]
  · refine (hseq (w.heap.size + 1) (fun xs W => I xs W ∧ Bk .ready none W) (fun xs W => Ix xs W ∧ Bk .done (some .ret) W) V hVw.size (fun b hb => hVw.block b (hbs b hb))
      (fun xs A A' h hb => ⟨hI xs A A' h.1 (hb.mono hVw.size), bkBelow _ _ _ _ h.2 hb⟩) (fun xs A A' h hb hc => ⟨hIx xs A A' h.1 (hb.mono hVw.size) hc, bkBelow _ _ _ _ h.2 hb⟩) ?_ ⟨hI _ _ _ h0 hVw, by rw [hBk]; exact ⟨Nat.le_refl _, hVl, hVd⟩⟩).mono ?_
    · rintro pre x rest W1 hall ⟨hi1, hb1⟩
      have hl1 : W1.heap[w.heap.size + 1]? = some (.loop (st .ready none)) := by rw [hBk] at hb1; exact hb1.2.1
      have hs1 : V.heap.size ≤ W1.heap.size := by rw [hBk] at hb1; exact hb1.1
      have hy := run_yield (P := Try.prog) (args := encs x) hl1 (by rw [hst]; exact hps x)
      rw [hst] at hy
      refine ⟨fn, _, assign, body, hy, roundIn_of_wpIn hfn (hassign _ pre x rest W1 _ hall hi1 (by omega) ?_)⟩
      intro a2 W2 hw2 hax
      have hb2 := bkBelow _ _ _ _ hb1 (hw2.mono hs1)
      have hi2 := hI _ _ _ hi1 (hw2.mono (show w.heap.size ≤ W1.heap.size by omega))
      have hl2 : W2.heap[w.heap.size + 1]? = some (.loop (st .ready none)) := by rw [hBk] at hb2; exact hb2.2.1
      have hbeg := run_beginRound (P := Try.prog) hl2 (by rw [hst])
      have hbusy : ({ st .ready none with state := .busy } : Loop) = st .busy none := by rw [hst]
      rw [hbusy] at hbeg
      refine ⟨_, hbeg, ?_⟩
      refine wpIn_mono (hbody _ pre x rest a2 _ hall (by have := hw2.size; simp; omega) (iPut hI _ hi2) (hAx x a2 W2 _ _ _ hax hl2 rfl)) ?_
      have hb3 := bkPut _ _ .busy none _ hb2
      have kx1 : Kx bs V.heap.size W1 (W2.putObj (w.heap.size + 1) (.loop (st .busy none))) := (Kx.of_below hw2).trans (Kx.put _ (by omega) hlL)
      have over : ∀ (jump : Option Code) (W3 : World), Kx bs w.heap.size (W2.putObj (w.heap.size + 1) (.loop (st .busy none))) W3 →
          ∃ W4, (Instr.endRound (w.heap.size + 1) jump).run Try.prog W3 = .ok (.bool jump.isNone) W4 ∧ W4 = W3.putObj (w.heap.size + 1) (.loop (st (if jump.isNone then .ready else .done) jump)) ∧
            Kx bs V.heap.size W1 W4 ∧ Bk (if jump.isNone then .ready else .done) jump W4 ∧ W3.heap[w.heap.size + 1]? = some (.loop (st .busy none)) := fun jump W3 h3 => by
        have hb4 := bkKx _ _ _ _ hb3 h3
        have hl4 : W3.heap[w.heap.size + 1]? = some (.loop (st .busy none)) := by rw [hBk] at hb4; exact hb4.2.1
        have hend := run_endRound (P := Try.prog) jump hl4
        have hrec : ({ st .busy none with state := if jump.isNone then .ready else .done, pending := jump } : Loop) = st (if jump.isNone then .ready else .done) jump := by rw [hst]
        rw [hrec] at hend
        exact ⟨_, hend, rfl, (kx1.trans (h3.up hVw.size)).trans (Kx.put _ (by omega) hlL), bkPut _ _ _ _ _ hb4, hl4⟩
      rintro e a3 W3 hp
      cases e with
      | normal =>
        obtain ⟨W4, h1, h2, h3, h4, h5⟩ := over none W3 hp.1
        exact ⟨_, W4, h1, h3, .inl ⟨rfl, by rw [h2]; exact iPut hI _ hp.2, h4⟩⟩
      | ret =>
        obtain ⟨W4, h1, h2, h3, h4, h5⟩ := over (some .ret) W3 hp.1
        exact ⟨_, W4, h1, h3, .inr ⟨rfl, by rw [h2]; exact xPut _ h5 hp.2, h4⟩⟩
      | exit id => exact hp.elim
      | goto t => exact hp.elim
      | panic ch => exact hp.elim
      | outgrown => exact hp.elim
    · rintro e W2 ⟨⟨v, rfl⟩, h2⟩
      rcases h2 with ⟨hi, hb⟩ | ⟨pre, x, rest, hall, hi, hb⟩
      · rw [hBk] at hb
        have hend := run_endLoop (P := Try.prog) hb.2.1 (by rw [hst]; simp)
        rw [hst] at hend
        exact ⟨none, _, hend, hdone _ _ (Nat.le_refl _) (iPut hI _ hi) ((World.putObj_heap_other (by omega)).trans hb.2.2)⟩
      · rw [hBk] at hb
        have hend := run_endLoop (P := Try.prog) hb.2.1 (by rw [hst]; simp)
        rw [hst] at hend
        exact ⟨some .ret, _, hend, hstop _ pre x rest _ (Nat.le_refl _) hall (xPut _ hb.2.1 hi) ((World.putObj_heap_other (by omega)).trans hb.2.2)⟩
end Go.Proofs.Ytidengcihakijaa
