/- Ranges over a function that writes memory of its own between the rounds (from YtckffliiidgilaaDoor). -/
import Derived.Test.YtidengcihakijaaOut
import Derived.Test.YtidengcihakijaaAdv
namespace Go.Proofs.Ytidengcihakijaa
set_option linter.unusedVariables false
set_option linter.unusedSimpArgs false
open Go Go.RowKit Go.Shelf
/-- All blocks lie as they lay, but for those from B to D. -/
def Away (B D : Nat) (A A' : World) : Prop := A'.os = A.os ∧ A'.tape = A.tape ∧ A'.output = A.output ∧ A.heap.size ≤ A'.heap.size ∧ ∀ k, k < A.heap.size → k < B ∨ D ≤ k → A'.heap[k]? = A.heap[k]?
theorem Away.of_below {B D : Nat} {A A' : World} (h : Below A.heap.size A A') : Away B D A A' := ⟨h.os, h.tape, h.output, h.size, fun k hk _ => h.block k hk⟩
theorem Away.trans {B D : Nat} {X Y Z : World} (h : Away B D X Y) (k : Away B D Y Z) : Away B D X Z :=
  ⟨k.1.trans h.1, k.2.1.trans h.2.1, k.2.2.1.trans h.2.2.1, Nat.le_trans h.2.2.2.1 k.2.2.2.1, fun i hi hb => (k.2.2.2.2 i (Nat.lt_of_lt_of_le hi h.2.2.2.1) hb).trans (h.2.2.2.2 i hi hb)⟩
theorem Away.down {B B' D : Nat} {A A' : World} (h : Away B D A A') (hB : B' ≤ B) : Away B' D A A' := ⟨h.1, h.2.1, h.2.2.1, h.2.2.2.1, fun k hk hb => h.2.2.2.2 k hk (hb.imp (fun e => Nat.lt_of_lt_of_le e hB) id)⟩
theorem Away.put {B D l : Nat} {A : World} (o : Obj) (h1 : B ≤ l) (h2 : l < D) : Away B D A (A.putObj l o) :=
  ⟨rfl, rfl, rfl, by simp, fun k _ hb => World.putObj_heap_other (fun e => by subst e; omega)⟩
theorem Away.set {B D : Nat} {A : World} (p : Addr) (u : Value) (h1 : B ≤ p.block) (h2 : p.block < D) : Away B D A (A.setCell p u) :=
  ⟨rfl, rfl, rfl, by simp [World.setCell], fun k _ hb => heap_setCell_other A p k u (by omega)⟩
theorem Away.blk {B D b : Nat} {A A' : World} {C : Array Value} {t : TypeId} (h : Away B D A A') (hb : Blk A b C t) (hk : b < B ∨ D ≤ b) : Blk A' b C t := (h.2.2.2.2 b hb.lt hk).trans hb
/-- What is said outlasts all that leaves the blocks outside B to D alone. -/
def StabD {β : Type} (B D : Nat) (J : β → World → Prop) : Prop := ∀ s A A', J s A → Away B D A A' → J s A'
/-- The blocks from B to D, and those that are named, lie as they lay. -/
def KxD (bs : List Nat) (B D : Nat) (W W' : World) : Prop := W.heap.size ≤ W'.heap.size ∧ ∀ k, k < W.heap.size → (B ≤ k ∧ k < D) ∨ k ∈ bs → W'.heap[k]? = W.heap[k]?
theorem KxD.trans {bs : List Nat} {B D : Nat} {X Y Z : World} (h : KxD bs B D X Y) (k : KxD bs B D Y Z) : KxD bs B D X Z :=
  ⟨Nat.le_trans h.1 k.1, fun i hi hb => (k.2 i (Nat.lt_of_lt_of_le hi h.1) hb).trans (h.2 i hi hb)⟩
theorem KxD.up {bs : List Nat} {B B' D : Nat} {X Y : World} (h : KxD bs B D X Y) (hB : B ≤ B') : KxD bs B' D X Y := ⟨h.1, fun i hi hb => h.2 i hi (hb.imp (fun e => ⟨Nat.le_trans hB e.1, e.2⟩) id)⟩
theorem KxD.of_below {bs : List Nat} {B D : Nat} {X Y : World} (h : Below X.heap.size X Y) : KxD bs B D X Y := ⟨h.size, fun i hi _ => h.block i hi⟩
theorem KxD.put {bs : List Nat} {B D l : Nat} {X : World} (o : Obj) (h1 : l < B) (h2 : ¬ l ∈ bs) : KxD bs B D X (X.putObj l o) :=
  ⟨by simp, fun i _ hb => World.putObj_heap_other (fun e => by subst e; rcases hb with hb | hb; omega; exact h2 hb)⟩
/-- What a function that hands out the elements of a list promises: its own memory lies from B to D; a round leaves that alone. -/
def GivesD {α : Type} (m : Nat) (g : Nat) (lb : Array Value) (Enc : α → Nat → Nat → World → Array Value → Prop) (bs : List Nat) (all : List α) (w : World) : Prop :=
  ∀ (l : Nat) (J Jx : Nat → List α → World → Prop) (W : World), w.heap.size ≤ W.heap.size → (∀ b, b ∈ bs → W.heap[b]? = w.heap[b]?) → (∀ D, StabD W.heap.size D (J D)) →
    (∀ D pre x rest args W1, W.heap.size ≤ D → D ≤ W1.heap.size → all = pre ++ x :: rest → J D pre W1 → Enc x W.heap.size D W1 args → YieldAt Fence.wide m Try.prog l args W1 fun e W' =>
      KxD bs W.heap.size D W1 W' ∧ ((e = .returned (.bool true) ∧ J D (pre ++ [x]) W') ∨ (e = .returned (.bool false) ∧ Jx D (pre ++ [x]) W'))) →
    (∀ D, J D [] W) →
    CallsIn Fence.wide (m + 1) Try.prog g (#[.func (.yield l) #[] #[]] ++ lb) W fun e W' => (∃ v, e = .returned v) ∧ ∃ D, W.heap.size ≤ D ∧ D ≤ W'.heap.size ∧ (J D all W' ∨ ∃ pre x rest, all = pre ++ x :: rest ∧ Jx D (pre ++ [x]) W')
/-- How a round ends. -/
def rndPostD {α : Type} (bs : List Nat) (B D : Nat) (I Ix : List α → World → Prop) (xs : List α) (W : World) : Exit → Act → World → Prop
  | .normal, _, W' => KxD bs B D W W' ∧ I xs W'
  | .ret, _, W' => KxD bs B D W W' ∧ Ix xs W'
  | _, _, _ => False
theorem range_givesD {α : Type} {g : Operand} {ps : Array Tmp} {assign body : Code} {Q : Exit → Act → World → Prop} {a : Act} {w : World} {m gf : Nat} {lb : Array Value}
    (hg : a.eval g = .func (.func gf) #[] lb) (eg : ∀ args w, (callFunc gf args).run Try.prog w = .ok (.enter gf args) w)
    {Enc : α → Nat → Nat → World → Array Value → Prop} {bs : List Nat} {all : List α} (hseq : GivesD m gf lb Enc bs all w) (hbs : ∀ b, b ∈ bs → b < w.heap.size) (hps : ∀ x B D W args, Enc x B D W args → args.size = ps.size)
    (I Ix : Nat → List α → World → Prop) (hI : ∀ D, StabD w.heap.size D (I D)) (hIx : ∀ D xs A l o o', Ix D xs A → w.heap.size ≤ l → l < D → A.heap[l]? = some o → o.isCells = false → Ix D xs (A.putObj l o')) (h0 : ∀ D, I D [] w)
    (Ax : α → Nat → Act → World → Prop) (hAx : ∀ x D a' A l o o', Ax x D a' A → A.heap[l]? = some o → o.isCells = false → Ax x D a' (A.putObj l o'))
    (hassign : ∀ (l D B : Nat) pre x rest (args : Array Value) (W : World) (K : Act → World → Prop), all = pre ++ x :: rest → I D pre W → w.heap.size ≤ B → B ≤ D → D ≤ W.heap.size → Enc x B D W args → (∀ a' W', Below W.heap.size W W' → Ax x D a' W' → K a' W') →
      assign.wpIn (Fence.wide.inRound l) m Try.prog (Exit.then K (fun _ _ _ => False)) { tmps := (ps.zip args).foldl (fun t (p, v) => t.setIfInBounds p v) a.tmps, defers := [] } W)
    (hbody : ∀ (l D : Nat) pre x rest (a' : Act) (W : World), all = pre ++ x :: rest → w.heap.size ≤ D → D ≤ W.heap.size → I D pre W → Ax x D a' W →
      body.wpIn (Fence.wide.inRound l) m Try.prog (rndPostD bs w.heap.size D (I D) (Ix D) (pre ++ [x]) W) a' W)
    (hdone : ∀ (Dd D : Nat) (W : World), w.heap.size ≤ Dd → w.heap.size ≤ D → D ≤ W.heap.size → I D all W → W.heap[Dd]? = some (.deferred (some [])) → Q .normal { a with defers := { target := .collected Dd, args := #[] } :: a.defers } W)
    (hstop : ∀ (Dd D : Nat) pre x rest (W : World), w.heap.size ≤ Dd → w.heap.size ≤ D → D ≤ W.heap.size → all = pre ++ x :: rest → Ix D (pre ++ [x]) W → W.heap[Dd]? = some (.deferred (some [])) →
      Code.ret.wpIn Fence.wide (m + 2) Try.prog Q { a with defers := { target := .collected Dd, args := #[] } :: a.defers } W) :
    (Code.rangeFunc g ps assign body).wpIn Fence.wide (m + 2) Try.prog Q a w := by
  refine wpIn_rangeFunc fun fn hfn => ?_
  have hlD : ¬ w.heap.size ∈ bs := fun h => by have := hbs _ h; omega
  have hlL : ¬ (w.heap.size + 1) ∈ bs := fun h => by have := hbs _ h; omega
  obtain ⟨st, hst⟩ : ∃ st : LoopState → Option Code → Loop, st = fun s p => { state := s, pending := p, fn, tmps := a.tmps, params := ps, assign, body, defers := w.heap.size } := ⟨_, rfl⟩
  obtain ⟨V, hV⟩ : ∃ V, V = (w.alloc (.deferred (some []))).alloc (.loop (st .ready none)) := ⟨_, rfl⟩
  have hVw : Below w.heap.size w V := by rw [hV]; exact ((Below.refl _ _).alloc (Nat.le_refl _) _).alloc (by simp) _
  have hVs : V.heap.size = w.heap.size + 2 := by rw [hV]; simp
  have hVl : V.heap[w.heap.size + 1]? = some (.loop (st .ready none)) := by
    rw [hV]; have := World.alloc_heap_new (w.alloc (.deferred (some []))) (.loop (st .ready none)); rwa [World.size_alloc] at this
  have hVd : V.heap[w.heap.size]? = some (.deferred (some [])) := by rw [hV]; exact (Below.heap_alloc _ _ _ (by simp)).trans (World.alloc_heap_new w _)
  -- the two blocks of the loop's own books
  obtain ⟨Bk, hBk⟩ : ∃ Bk : LoopState → Option Code → World → Prop, Bk = fun s p W => V.heap.size ≤ W.heap.size ∧ W.heap[w.heap.size + 1]? = some (.loop (st s p)) ∧ W.heap[w.heap.size]? = some (.deferred (some [])) := ⟨_, rfl⟩
  have bkBelow : ∀ s p A A', Bk s p A → Below V.heap.size A A' → Bk s p A' := fun s p A A' h hb => by
    rw [hBk] at h ⊢
    exact ⟨Nat.le_trans h.1 hb.size, (hb.block _ (by omega)).trans h.2.1, (hb.block _ (by omega)).trans h.2.2⟩
  have bkAway : ∀ s p D A A', Bk s p A → Away V.heap.size D A A' → Bk s p A' := fun s p D A A' h hb => by
    rw [hBk] at h ⊢
    exact ⟨Nat.le_trans h.1 hb.2.2.2.1, (hb.2.2.2.2 _ (by have := h.1; omega) (.inl (by omega))).trans h.2.1, (hb.2.2.2.2 _ (by have := h.1; omega) (.inl (by omega))).trans h.2.2⟩
  have bkKx : ∀ s p D A A', V.heap.size ≤ D → Bk s p A → KxD bs w.heap.size D A A' → Bk s p A' := fun s p D A A' hD h hb => by
    rw [hBk] at h ⊢
    exact ⟨Nat.le_trans h.1 hb.1, (hb.2 _ (by have := h.1; omega) (.inl ⟨by omega, by omega⟩)).trans h.2.1, (hb.2 _ (by have := h.1; omega) (.inl ⟨Nat.le_refl _, by omega⟩)).trans h.2.2⟩
  have bkPut : ∀ s p s' p' A, Bk s p A → Bk s' p' (A.putObj (w.heap.size + 1) (.loop (st s' p'))) := fun s p s' p' A h => by
    rw [hBk] at h ⊢
    exact ⟨by simpa using h.1, World.putObj_heap_same (by have := h.1; omega), (World.putObj_heap_other (by omega)).trans h.2.2⟩
  have xPut : ∀ {D xs A} {r : Loop} (o : Obj), V.heap.size ≤ D → A.heap[w.heap.size + 1]? = some (.loop r) → Ix D xs A → Ix D xs (A.putObj (w.heap.size + 1) o) := fun {D xs A r} o hD hl h => hIx D xs A _ _ o h (by omega) (by omega) hl rfl
  have iPut : ∀ {D xs A} (o : Obj), V.heap.size ≤ D → I D xs A → I D xs (A.putObj (w.heap.size + 1) o) := fun {D xs A} o hD h => hI D xs A _ h (Away.put o (by omega) (by omega))
  refine ⟨w.heap.size + 1, [{ target := .collected w.heap.size, args := #[] }], V, { target := .fn (.func gf) lb, args := #[.func (.yield (w.heap.size + 1)) #[] #[]] }, V, gf,
    #[.func (.yield (w.heap.size + 1)) #[] #[]] ++ lb, V, ?_, ?_, ?_, ?_, fun _ => by omega, ?_⟩
  · rw [hV, hst]; exact run_enterLoop_outer _ _ _ _ _
  · simp only [resolve, hg]
    simp [go_sem]
  · intro f' hf'; exact trivial
  · simp [invoke, go_sem, eg]
  · refine (hseq (w.heap.size + 1) (fun D xs W => I D xs W ∧ Bk .ready none W) (fun D xs W => Ix D xs W ∧ Bk .done (some .ret) W) V hVw.size (fun b hb => hVw.block b (hbs b hb))
      (fun D xs A A' h hb => ⟨hI D xs A A' h.1 (hb.down hVw.size), bkAway _ _ _ _ _ h.2 hb⟩) ?_ (fun D => ⟨hI D _ _ _ (h0 D) (Away.of_below hVw), by rw [hBk]; exact ⟨Nat.le_refl _, hVl, hVd⟩⟩)).mono ?_
    · rintro D pre x rest args W1 hVD hDW hall ⟨hi1, hb1⟩ henc
      have hl1 : W1.heap[w.heap.size + 1]? = some (.loop (st .ready none)) := by rw [hBk] at hb1; exact hb1.2.1
      have hs1 : V.heap.size ≤ W1.heap.size := by rw [hBk] at hb1; exact hb1.1
      have hy := run_yield (P := Try.prog) (args := args) hl1 (by rw [hst]; exact hps x _ _ _ _ henc)
      rw [hst] at hy
      refine ⟨fn, _, assign, body, hy, roundIn_of_wpIn hfn (hassign _ D V.heap.size pre x rest args W1 _ hall hi1 hVw.size hVD hDW henc ?_)⟩
      intro a2 W2 hw2 hax
      have hb2 := bkBelow _ _ _ _ hb1 (hw2.mono hs1)
      have hi2 := hI D _ _ _ hi1 (Away.of_below hw2)
      have hl2 : W2.heap[w.heap.size + 1]? = some (.loop (st .ready none)) := by rw [hBk] at hb2; exact hb2.2.1
      have hbeg := run_beginRound (P := Try.prog) hl2 (by rw [hst])
      have hbusy : ({ st .ready none with state := .busy } : Loop) = st .busy none := by rw [hst]
      rw [hbusy] at hbeg
      refine ⟨_, hbeg, ?_⟩
      refine wpIn_mono (hbody _ D pre x rest a2 _ hall (by omega) (by have := hw2.size; simp; omega) (iPut _ hVD hi2) (hAx x D a2 W2 _ _ _ hax hl2 rfl)) ?_
      have hb3 := bkPut _ _ .busy none _ hb2
      have kx1 : KxD bs V.heap.size D W1 (W2.putObj (w.heap.size + 1) (.loop (st .busy none))) := (KxD.of_below hw2).trans (KxD.put _ (by omega) hlL)
      have over : ∀ (jump : Option Code) (W3 : World), KxD bs w.heap.size D (W2.putObj (w.heap.size + 1) (.loop (st .busy none))) W3 →
          ∃ W4, (Instr.endRound (w.heap.size + 1) jump).run Try.prog W3 = .ok (.bool jump.isNone) W4 ∧ W4 = W3.putObj (w.heap.size + 1) (.loop (st (if jump.isNone then .ready else .done) jump)) ∧
            KxD bs V.heap.size D W1 W4 ∧ Bk (if jump.isNone then .ready else .done) jump W4 ∧ W3.heap[w.heap.size + 1]? = some (.loop (st .busy none)) := fun jump W3 h3 => by
        have hb4 := bkKx _ _ _ _ _ hVD hb3 h3
        have hl4 : W3.heap[w.heap.size + 1]? = some (.loop (st .busy none)) := by rw [hBk] at hb4; exact hb4.2.1
        have hend := run_endRound (P := Try.prog) jump hl4
        have hrec : ({ st .busy none with state := if jump.isNone then .ready else .done, pending := jump } : Loop) = st (if jump.isNone then .ready else .done) jump := by rw [hst]
        rw [hrec] at hend
        exact ⟨_, hend, rfl, (kx1.trans (h3.up hVw.size)).trans (KxD.put _ (by omega) hlL), bkPut _ _ _ _ _ hb4, hl4⟩
      rintro e a3 W3 hp
      cases e with
      | normal =>
        obtain ⟨W4, h1, h2, h3, h4, h5⟩ := over none W3 hp.1
        exact ⟨_, W4, h1, h3, .inl ⟨rfl, by rw [h2]; exact iPut _ hVD hp.2, h4⟩⟩
      | ret =>
        obtain ⟨W4, h1, h2, h3, h4, h5⟩ := over (some .ret) W3 hp.1
        exact ⟨_, W4, h1, h3, .inr ⟨rfl, by rw [h2]; exact xPut _ hVD h5 hp.2, h4⟩⟩
      | exit id => exact hp.elim
      | goto t => exact hp.elim
      | panic ch => exact hp.elim
      | outgrown => exact hp.elim
    · rintro e W2 ⟨⟨v, rfl⟩, D, hVD, hDW, h2⟩
      rcases h2 with ⟨hi, hb⟩ | ⟨pre, x, rest, hall, hi, hb⟩
      · rw [hBk] at hb
        have hend := run_endLoop (P := Try.prog) hb.2.1 (by rw [hst]; simp)
        rw [hst] at hend
        exact ⟨none, _, hend, hdone _ D _ (Nat.le_refl _) (by omega) (by simpa using hDW) (iPut _ hVD hi) ((World.putObj_heap_other (by omega)).trans hb.2.2)⟩
      · rw [hBk] at hb
        have hend := run_endLoop (P := Try.prog) hb.2.1 (by rw [hst]; simp)
        rw [hst] at hend
        exact ⟨some .ret, _, hend, hstop _ D pre x rest _ (Nat.le_refl _) (by omega) (by simpa using hDW) hall (xPut _ hVD hb.2.1 hi) ((World.putObj_heap_other (by omega)).trans hb.2.2)⟩
end Go.Proofs.Ytidengcihakijaa
