/- My texts Set, Part, Tail, PartSpec, PartOn, Deg, Degrees, DegreesIm, Take, TakeIm, TakeSp, Turn, Turned, Clq, Tail2, TailIn, in one. -/
import Derived.Test.YtidengcihakijaaGb
import Derived.StillTailTactics
import Derived.Deep.Quiet
import Derived.Deep.QuietTactic
import Derived.StillTail
import Derived.Sort.QuietTacIn
import Derived.OrdersIn
import Derived.TacticsIn
import Derived.OwnWalkIn
import Derived.RangeFuncCalls
/- Sets of points: the program's test and its model's. -/
namespace Go.Proofs.Ytidengcihakijaa
set_option linter.unusedVariables false
set_option linter.unusedSimpArgs false
open Go Go.RowKit Go.Shelf
/-- A list of numbers goes up as far as a place. -/
def Asc (zs : List Int) (m : Nat) : Prop := ∀ i, i < m → i + 1 < zs.length → zs.getD i 0 < zs.getD (i + 1) 0
def ascB (zs : List Int) : Bool := decide (∀ i, i < zs.length → i + 1 < zs.length → zs.getD i 0 < zs.getD (i + 1) 0)
theorem ascB_yes {zs : List Int} {m : Nat} (h : Asc zs m) (hm : zs.length ≤ m + 1) : ascB zs = true := by
  unfold ascB
  rw [decide_eq_true_iff]
  intro i _ hi
  exact h i (by omega) hi
theorem ascB_no {zs : List Int} {i : Nat} (hi : i + 1 < zs.length) (h : ¬ zs.getD i 0 < zs.getD (i + 1) 0) : ascB zs = false := by
  unfold ascB
  rw [decide_eq_false_iff_not]
  intro hc
  exact h (hc i (by omega) hi)
def RelS (zs : List Int) (a : Option Addr) (w : World) (wr : World) : Prop := SlI wr a zs ∧ Below w.heap.size w wr
def setB (zs : List Int) (n : Int) : Bool := ascB zs && allB zs n
set_option maxRecDepth 100000 in
set_option maxHeartbeats 1000000 in
theorem set69 (zs : List Int) (a : Option Addr) (cap : Nat) (n : Int) (w : World) (hs : SlI w a zs) (hl : zs.length ≤ 9223372036854775807) :
    Calls Try.prog 62 #[.slice a zs.length cap, .int .i64 n] w fun e w' => e = .returned (.bool (setB zs n)) ∧ Below w.heap.size w w' := by
  go_enter Try.func62, Try.ntmps62
  go_wp2_with fail
  go_loopw [5] (fun i wr => ∃ j : Nat, (j + 1 ≤ zs.length ∨ j = 0) ∧ i = .int .i64 (j + 1 : Nat) ∧ Asc zs j ∧ RelS zs a w wr) (fun i _ => zs.length - (intOf i).toNat)
  case atStart => exact ⟨0, .inr rfl, rfl, fun _ h => absurd h (by omega), hs, Below.refl _ _⟩
  case round =>
    obtain ⟨j, hj, rfl, hasc, HR⟩ := hrel
    by_cases hlt : j + 1 < zs.length
    · rcases HR.1 with hz | ⟨x, o, ha, hc⟩
      · subst hz; simp at hlt
      · subst ha
        have hck := hc (j + 1) hlt
        have hdk := hc j (by omega)
        by_cases hup : zs.getD j 0 < zs.getD (j + 1) 0
        · have hge : decide (zs.getD j 0 ≥ zs.getD (j + 1) 0) = false := by rw [decide_eq_false_iff_not]; omega
          obtain ⟨y, hy⟩ : ∃ y, y = zs.getD j 0 := ⟨_, rfl⟩
          obtain ⟨z, hz⟩ : ∃ z, z = zs.getD (j + 1) 0 := ⟨_, rfl⟩
          rw [← hz] at hck hge
          rw [← hy] at hdk hge
          have K := hidd HR
          have A := hidd (show Asc zs (j + 1) from fun i hi h2 => by
            by_cases he : i = j
            · subst he; exact hup
            · exact hasc i (by omega) h2)
          clear hz hy hc HR hs hasc hup
          go_wp2_with fail
          go_quiet (fail)
          go_wp2
          go_roundw
          case rel => exact ⟨j + 1, by omega, by go_num, A.out, K.out.1.below (below_drewN (Below.refl _ _) _) (Nat.le_refl _), below_drewN K.out.2 _⟩
          case measure => simp [intOf]; omega
        · have hge : decide (zs.getD j 0 ≥ zs.getD (j + 1) 0) = true := by rw [decide_eq_true_iff]; omega
          have HN := hidd (show setB zs n = false by unfold setB; rw [ascB_no hlt hup]; rfl)
          obtain ⟨y, hy⟩ : ∃ y, y = zs.getD j 0 := ⟨_, rfl⟩
          obtain ⟨z, hz⟩ : ∃ z, z = zs.getD (j + 1) 0 := ⟨_, rfl⟩
          rw [← hz] at hck hge
          rw [← hy] at hdk hge
          have K := hidd HR
          clear hz hy hc HR hs hasc hup
          go_wp2_with fail
          go_quiet (fail)
          go_wp2
          go_ret
          exact ⟨by rw [HN.out]; rfl, below_drewN K.out.2 _⟩
    · have HN := hidd (show setB zs n = allB zs n by unfold setB; rw [ascB_yes hasc (by omega)]; rfl)
      have K := hidd HR
      clear hasc HR hs
      go_wp2_with fail
      refine (all51 zs a cap n _ K.out.1 hl).mono ?_
      rintro e w' ⟨rfl, rfl⟩
      go_wp2
      go_ret
      exact ⟨by rw [HN.out]; rfl, K.out.2⟩
def setCode (n k : Int) (bs : List Nat) (zs : List Int) : Int := if given n k bs 0 zs = 0 then (if ascB zs = true then 0 else 2) else given n k bs 0 zs
def RelQ (C : Array Value) (zs : List Int) (a : Option Addr) (w : World) (wr : World) : Prop := SlI wr a zs ∧ Below w.heap.size w wr
end Go.Proofs.Ytidengcihakijaa
/- PartOn: the program's own text. -/
namespace Go.Proofs.Ytidengcihakijaa
set_option linter.unusedVariables false
set_option linter.unusedSimpArgs false
open Go Go.RowKit Go.Shelf
/-- The load of a whole row in a region that draws its order. -/
theorem stillRow {P : Program} {ops : Array Oper} {rest : List Oper} {o : Oper} {a : Act} {w : World} {Q : Act → Prop} (hw : Region.wanted o (yielded ops a.tmps) = true) (ty : TypeId) (x : Operand) (ho : o.op = .load ty x)
    (g : Nat) (hx : a.eval x = .pointer (some ⟨g, 0, none⟩)) (t : TypeId) (cs : Array Value) (d : TypeDesc) (hg : Blk w g cs t)
    (hu : P.underlying ty = some d) (hd : (match d with | .struct _ | .array _ _ => true | _ => false) = true) (hi : (P.info? ty).map (·.size) = some cs.size)
    (h : wpStill P ops w Q rest (a.put o.dst (.agg cs))) : wpStill P ops w Q (o :: rest) a := by
  refine wpStill_step fun K hK => ?_
  rw [if_pos hw]
  unfold Oper.still execOp
  simp only [ho, hx, Instr.loadAt, Instr.sureAddr, Sem.run_bind, Sem.run_pure, Result.andThen_ok, run_loadVar_row w g t ty cs (0, 0) d hg hu hd hi]
  rw [Oper.stillUpon_value]
  exact hK _ h
theorem set_get {zs : List Int} {n : Int} (h : setB zs n = true) : (∀ i, i < zs.length → 0 ≤ zs.getD i 0 ∧ zs.getD i 0 < n) ∧ ∀ i, i + 1 < zs.length → zs.getD i 0 < zs.getD (i + 1) 0 := by
  unfold setB at h
  rw [Bool.and_eq_true] at h
  refine ⟨fun i hi => allB_get h.2 hi, fun i hi => ?_⟩
  have := of_decide_eq_true h.1
  exact this i (by omega) hi
theorem set_up {zs : List Int} {n : Int} (h : setB zs n = true) {i : Nat} : ∀ d, i + d < zs.length → zs.getD i 0 + d ≤ zs.getD (i + d) 0
  | 0, _ => by simp
  | d + 1, hd => by
    have h1 := set_up h (i := i) d (by omega)
    have h2 := (set_get h).2 (i + d) (by omega)
    rw [← Nat.add_assoc]; omega
theorem set_len {zs : List Int} {n : Int} (h : setB zs n = true) (hn : 0 ≤ n) : (zs.length : Int) ≤ n := by
  by_cases h0 : zs.length = 0
  · omega
  · have h1 := set_up h (i := 0) (zs.length - 1) (by omega)
    have h2 := (set_get h).1 (zs.length - 1) (by omega)
    have h3 := (set_get h).1 0 (by omega)
    rw [Nat.zero_add] at h1
    omega
def poCode (n k : Int) (bs : List Nat) (zs : List Int) : Int := if isCol n k bs = true then (if zs.length ≠ 0 ∧ setB zs n = true then 0 else 2) else 1
def poN (n k : Int) (bs : List Nat) (zs : List Int) : Int := if poCode n k bs zs = 0 then (zs.length : Int) else 0
def poK (n k : Int) (bs : List Nat) (zs : List Int) : Int := if poCode n k bs zs = 0 then k else 0
def poB (n k : Int) (bs : List Nat) (zs : List Int) : List Nat := if poCode n k bs zs = 0 then paintB zs.length (fun lo hi => colAt bs (zs.getD lo 0) (zs.getD hi 0)) else zbl
/-- What PartOn returns. -/
def poOut (n k : Int) (bs : List Nat) (zs : List Int) : Value := .tuple #[.agg (ccells (poN n k bs zs) (poK n k bs zs) (poB n k bs zs)).toArray, .int .i64 (poCode n k bs zs)]
theorem poOut_bad {n k : Int} {bs : List Nat} {zs : List Int} {m : Int} (h : poCode n k bs zs = m) (hm : m ≠ 0) : poOut n k bs zs = .tuple #[.agg (ccells 0 0 zbl).toArray, .int .i64 m] := by
  simp [poOut, poN, poK, poB, h, hm]
theorem poOut_good {n k : Int} {bs : List Nat} {zs : List Int} (h : poCode n k bs zs = 0) : poOut n k bs zs = .tuple #[.agg (ccells (zs.length : Int) k (paintB zs.length (fun lo hi => colAt bs (zs.getD lo 0) (zs.getD hi 0)))).toArray, .int .i64 0] := by
  simp [poOut, poN, poK, poB, h]
theorem poCode_1 {n k : Int} {bs : List Nat} {zs : List Int} (h : isCol n k bs = false) : poCode n k bs zs = 1 := by simp [poCode, h]
theorem poCode_2 {n k : Int} {bs : List Nat} {zs : List Int} (h : isCol n k bs = true) (h2 : ¬ (zs.length ≠ 0 ∧ setB zs n = true)) : poCode n k bs zs = 2 := by unfold poCode; rw [if_pos h, if_neg h2]
theorem poCode_0 {n k : Int} {bs : List Nat} {zs : List Int} (h : isCol n k bs = true) (h2 : zs.length ≠ 0 ∧ setB zs n = true) : poCode n k bs zs = 0 := by unfold poCode; rw [if_pos h, if_pos h2]
theorem paintB_bys {N : Nat} {r : Nat → Nat → Int} (hr : ∀ lo hi, 0 ≤ r lo hi ∧ r lo hi < 256) : Bys (paintB N r) := by
  unfold paintB
  suffices h : ∀ (l : List (Nat × Nat × Nat)) b, Bys b → Bys (l.foldl (fun b t => b.set t.1 (r t.2.1 t.2.2).toNat) b) from h _ _ zbl_bys
  intro l
  induction l with
  | nil => intro b hb; exact hb
  | cons x l ih => intro b hb; exact ih _ (hb.set _ _ (by have := hr x.2.1 x.2.2; omega))
end Go.Proofs.Ytidengcihakijaa
/- A region that draws its order and ends in one operation that waits for all others: the others only read or lay blocks. -/
namespace Go.Proofs.Ytidengcihakijaa
set_option linter.unusedVariables false
set_option linter.unusedSimpArgs false
open Go
section
variable {P : Program} {md : Region.Mode} {ops : Array Oper} {C : World → Prop}
/-- No guards, and every operation waits for earlier ones only. -/
def plainB (md : Region.Mode) (ops : Array Oper) : Bool :=
  (List.range ops.size).all fun i => match ops[i]? with
    | some o => o.guard.isNone && o.after.all fun e => !Region.binds md e || decide (e.on < i)
    | none => true
theorem plain_spec (h : plainB md ops = true) {i : Nat} {o : Oper} (ho : ops[i]? = some o) : o.guard = none ∧ ∀ e ∈ o.after, Region.binds md e = true → e.on < i := by
  have hi : i < ops.size := (Array.getElem?_eq_some_iff.1 ho).1
  have h1 := List.all_eq_true.1 h i (List.mem_range.2 hi)
  simp only [ho, Bool.and_eq_true] at h1
  refine ⟨by simpa using h1.1, fun e he hb => ?_⟩
  have h2 := Array.all_eq_true'.1 h1.2 e he
  rw [hb] at h2
  simpa using h2
theorem wanted_free {o : Oper} (h : o.guard = none) (y : Nat → Option Bool) : Region.wanted o y = true := by
  unfold Region.wanted; rw [h]
theorem some_ready (h : plainB md ops = true) {listed : Array Bool} (hs : listed.size = ops.size) : ∀ (k : Nat), k < ops.size → listed.getD k true = false → Region.ready md ops listed ≠ [] := by
  intro k
  induction k using Nat.strongRecOn with
  | _ k ih =>
    intro hk hun hr
    obtain ⟨o, ho⟩ : ∃ o, ops[k]? = some o := ⟨_, Array.getElem?_eq_getElem hk⟩
    by_cases hall : ∀ e ∈ o.after, Region.binds md e = true → listed.getD e.on false = true
    · have : k ∈ Region.ready md ops listed := mem_ready.2 ⟨hun, o, ho, hall⟩
      rw [hr] at this; cases this
    · refine hall fun e he hb => ?_
      cases hl : listed.getD e.on false with
      | true => rfl
      | false =>
        have hlt := (plain_spec h ho).2 e he hb
        exact absurd hr (ih e.on hlt (by omega) (getD_in (by omega) hl))
theorem none_ready {m : Nat} (hsz : ops.size = m + 1) (hk : (Region.sinkB md ops m && Region.chainB md ops m) = true) {listed : Array Bool} (inv : HeadInv md ops m listed) (hr : m ∈ Region.ready md ops listed) :
    Region.ready md ops (listed.setIfInBounds m true) = [] := by
  rw [Bool.and_eq_true] at hk
  have hs := inv.size
  refine List.eq_nil_iff_forall_not_mem.2 fun j hj => ?_
  obtain ⟨hun, oj, hoj, _⟩ := mem_ready.1 hj
  have hjs : j < ops.size := (Array.getElem?_eq_some_iff.1 hoj).1
  by_cases e : j = m
  · subst e
    have : (listed.setIfInBounds j true).getD j true = true := by simp [Array.getD]
    rw [this] at hun; cases hun
  · rw [getD_set_ne true (Ne.symm e)] at hun
    exact tail_waits hk.1 hk.2 (by omega) inv _ j rfl (by omega) hun m (Nat.le_refl _) hr
/-- The last operation, with nothing done. -/
def idle (o : Oper) : Oper := { o with op := .move (.const undef), dst := none }
theorem ready_idle {m : Nat} {o : Oper} (ho : ops[m]? = some o) (listed : Array Bool) : Region.ready md (ops.setIfInBounds m (idle o)) listed = Region.ready md ops listed := by
  unfold Region.ready
  rw [Array.size_setIfInBounds]
  congr 1
  funext i
  rw [Array.getElem?_setIfInBounds]
  by_cases e : m = i
  · subst e
    have hlt := (Array.getElem?_eq_some_iff.1 ho).1
    rw [if_pos rfl, if_pos hlt, ho]; rfl
  · rw [if_neg e]
theorem wpAny_of_idle {m : Nat} {o : Oper} {Qa : Act → Prop} {Q' : Exit → Act → World → Prop} (hsz : ops.size = m + 1) (ho : ops[m]? = some o) (hp : plainB md ops = true) (hk : (Region.sinkB md ops m && Region.chainB md ops m) = true)
    (hQ : ∀ a w, C w → Qa a → wpList P ops Q' [o] a w) :
    ∀ (fuel : Nat) (listed : Array Bool) (a : Act) (w : World), HeadInv md ops m listed → C w →
      wpAnyQ P md (ops.setIfInBounds m (idle o)) C Qa fuel listed a → wpAny P md ops Q' fuel listed a w
  | 0, listed, a, w, inv, hC, h => by
    have hs := inv.size
    have hun := inv.tail m (Nat.le_refl _) (by omega)
    have := h.1
    rw [ready_idle ho] at this
    exact absurd this (some_ready hp hs m (by omega) hun)
  | fuel + 1, listed, a, w, inv, hC, h => by
    have hs := inv.size
    have hun := inv.tail m (Nat.le_refl _) (by omega)
    refine ⟨fun h0 => absurd h0 (some_ready hp hs m (by omega) hun), fun i hi => ?_⟩
    have hq := h.2 i (by rw [ready_idle ho]; exact hi)
    by_cases e : i = m
    · subst e
      have hn := none_ready hsz hk inv hi
      have hw : ∀ (h : wpList P ops Q' [o] a w), wpOp P ops Q' i (wpList P ops Q' []) a w := fun h => by unfold wpOp; simp only [ho]; exact h
      refine wpOp_mono (fun a' w' hq' => ?_) (hw (hQ a w hC ?_))
      · have hq' : Q' .normal a' w' := hq'
        cases fuel with
        | zero => exact ⟨hn, hq'⟩
        | succ f => exact ⟨fun _ => hq', fun j hj => by rw [hn] at hj; cases hj⟩
      · unfold qOp at hq
        rw [Array.getElem?_setIfInBounds, if_pos rfl, if_pos (by omega)] at hq
        simp only [] at hq
        rw [if_pos (wanted_free (o := idle o) (plain_spec hp ho).1 _)] at hq
        obtain ⟨v, _, h3⟩ := hq
        have h4 : wpAnyQ P md (ops.setIfInBounds i (idle o)) C Qa fuel (listed.setIfInBounds i true) a := h3
        cases fuel with
        | zero => exact h4.2
        | succ f => exact h4.1 (by rw [ready_idle ho]; exact hn)
    · obtain ⟨_, oi, hoi, _⟩ := mem_ready.1 hi
      have hlt : i < m := by have := (Array.getElem?_eq_some_iff.1 hoi).1; omega
      refine wpOp_of_qOp hC (fun a' w' hw' hkk => wpAny_of_idle hsz ho hp hk hQ fuel (listed.setIfInBounds i true) a' w' (inv.set hi hlt) hw' hkk) ?_
      unfold qOp at hq ⊢
      rw [Array.getElem?_setIfInBounds, if_neg (Ne.symm e), hoi] at hq
      simp only [hoi] at hq ⊢
      rw [if_pos (wanted_free (plain_spec hp hoi).1 _)] at hq ⊢
      exact hq
/-- **The others are walked once, in the text's order; then the last one.** -/
theorem wp_region_last {id : Nat} {Q : Exit → Act → World → Prop} {a : Act} {w : World} {l : List Oper} {o : Oper} (hm : P.follows .mixedOrders = true) (hC : C w.drew)
    (hp : plainB .any (l ++ [o]).toArray = true) (hk : (Region.sinkB .any (l ++ [o]).toArray l.length && Region.chainB .any (l ++ [o]).toArray l.length) = true) (hB : Region.lexB .any (l ++ [idle o]).toArray = true)
    (h : wpQuiet P (l ++ [idle o]).toArray C (fun a' => ∀ w', C w' → wpList P (l ++ [o]).toArray Q [o] a' w') (l ++ [idle o]) a) : (Code.region id (l ++ [o]).toArray true).wp P Q a w := by
  have ho : (l ++ [o]).toArray[l.length]? = some o := by simp
  have hset : (l ++ [o]).toArray.setIfInBounds l.length (idle o) = (l ++ [idle o]).toArray := by simp
  simp only [Region.lexB, Bool.and_eq_true] at hB
  refine wp_region_any hm (wpAny_of_idle (C := C) (m := l.length) (o := o) (Qa := fun a' => ∀ w', C w' → wpList P (l ++ [o]).toArray Q [o] a' w') (by simp) ho hp hk (fun a w hw hq => hq w hw) _ _ _ _ ⟨by simp, fun j oj _ hl => (by rw [getD_replicate_false] at hl; cases hl), fun t _ ht => getD_in (by simpa using ht) (getD_replicate_false _ _)⟩ hC ?_)
  rw [hset]
  have := wpAnyQ_lex (C := C) (md := .any) hB.1 (l ++ [idle o]) 0 (Array.replicate (l ++ [idle o]).toArray.size false) a (by simp) (by simpa using hB.2) h
  simpa using this
/-- The same, the region written out: its last operation is number n. -/
theorem wp_region_last_lit {id : Nat} {Q : Exit → Act → World → Prop} {a : Act} {w : World} {L : List Oper} {o : Oper} (n : Nat) (C : World → Prop) (hn : L.length = n + 1) (ho : L[n]? = some o) (hm : P.follows .mixedOrders = true) (hC : C w.drew)
    (hp : plainB .any L.toArray = true) (hk : (Region.sinkB .any L.toArray n && Region.chainB .any L.toArray n) = true) (hB : Region.lexB .any (L.take n ++ [idle o]).toArray = true)
    (h : wpQuiet P (L.take n ++ [idle o]).toArray C (fun a' => ∀ w', C w' → wpList P L.toArray Q [o] a' w') (L.take n ++ [idle o]) a) : (Code.region id L.toArray true).wp P Q a w := by
  have e : L = L.take n ++ [o] := by
    have h1 := List.getElem?_eq_some_iff.1 ho
    obtain ⟨hlt, hget⟩ := h1
    rw [← hget, List.take_append_getElem hlt]
    exact (List.take_of_length_le (by omega)).symm
  have hl : (L.take n).length = n := by simp; omega
  rw [e]
  rw [e] at hp
  refine wp_region_last (C := C) hm hC hp ?_ ?_ ?_
  · rw [hl, ← e]; exact hk
  · exact hB
  · rw [← e]; exact h
theorem qs {o : Oper} {rest : List Oper} {a : Act} {Q : Act → Prop} (hg : o.guard = none) (h : ∀ K : Act → Prop, (∀ a, wpQuiet P ops C Q rest a → K a) → o.quiet P a C K) : wpQuiet P ops C Q (o :: rest) a := by
  unfold wpQuiet
  rw [if_pos (wanted_free hg _)]
  exact h _ (fun _ h => h)
end
end Go.Proofs.Ytidengcihakijaa
/- PartOn: its model. -/
namespace Go.Proofs.Ytidengcihakijaa
set_option linter.unusedVariables false
set_option linter.unusedSimpArgs false
open Go Go.RowKit Go.Shelf
def ptB (r : Nat → Nat → Int) (j i : Nat) : List Nat := (eseq j ++ rowE j i).foldl (fun b t => b.set t.1 (r t.2.1 t.2.2).toNat) zbl
theorem ptB_step (r : Nat → Nat → Int) (j i : Nat) : ptB r j (i + 1) = (ptB r j i).set (eN j + i) (r i j).toNat := by
  unfold ptB
  rw [rowE_succ, ← List.append_assoc, List.foldl_append]
  rfl
theorem ptB_row (r : Nat → Nat → Int) (j : Nat) : ptB r j j = ptB r (j + 1) 0 := by
  unfold ptB
  simp [eseq, rowE]
theorem ptB_done (r : Nat → Nat → Int) (j : Nat) : ptB r j 0 = paintB j r := by
  unfold ptB paintB
  simp [rowE]
theorem ptB_bys {r : Nat → Nat → Int} (hr : ∀ lo hi, 0 ≤ r lo hi ∧ r lo hi < 256) (j i : Nat) : Bys (ptB r j i) := by
  unfold ptB
  suffices h : ∀ (l : List (Nat × Nat × Nat)) b, Bys b → Bys (l.foldl (fun b t => b.set t.1 (r t.2.1 t.2.2).toNat) b) from h _ _ zbl_bys
  intro l
  induction l with
  | nil => intro b hb; exact hb
  | cons x l ih => intro b hb; exact ih _ (hb.set _ _ (by have := hr x.2.1 x.2.2; omega))
def RelPp (n k : Int) (bs : List Nat) (zs : List Int) (a : Option Addr) (r : Nat → Nat → Int) (w : World) (j i : Nat) (wr : World) : Prop :=
  Blk wr w.heap.size (ccells n k bs).toArray 32 ∧ Blk wr (w.heap.size + 1) (ccells 0 0 zbl).toArray 32 ∧ Blk wr (w.heap.size + 1 + 1) (ccells (zs.length : Int) k (ptB r j i)).toArray 32 ∧ SlI wr a zs ∧ Below w.heap.size w wr
theorem quietRow {P : Program} {C : World → Prop} {o : Oper} {a : Act} {w : World} (ty : TypeId) (x : Operand) (ho : o.op = .load ty x)
    (g : Nat) (hx : a.eval x = .pointer (some ⟨g, 0, none⟩)) (t : TypeId) (cs : Array Value) (d : TypeDesc) (hg : Blk w g cs t)
    (hu : P.underlying ty = some d) (hd : (match d with | .struct _ | .array _ _ => true | _ => false) = true) (hi : (P.info? ty).map (·.size) = some cs.size) : o.quietAt P a C w (.agg cs) := by
  unfold Oper.quietAt execOp
  simp only [ho, hx, Instr.loadAt, Instr.sureAddr, Sem.run_bind, Sem.run_pure, Result.andThen_ok, run_loadVar_row w g t ty cs (0, 0) d hg hu hd hi]
  exact ⟨rfl, rfl⟩
end Go.Proofs.Ytidengcihakijaa
/- PartOn: its model's entry. -/
namespace Go.Proofs.Ytidengcihakijaa
set_option linter.unusedVariables false
set_option linter.unusedSimpArgs false
open Go Go.RowKit Go.Shelf
theorem poB_bys (n k : Int) {bs : List Nat} (hb : Bys bs) (zs : List Int) : Bys (poB n k bs zs) := by
  unfold poB
  split
  · exact paintB_bys fun lo hi => colAt_bd hb _ _
  · exact zbl_bys
theorem setCode_0 {n k : Int} {bs : List Nat} {zs : List Int} (hi : isCol n k bs = true) (h : setB zs n = true) : setCode n k bs zs = 0 := by
  have hbd := isCol_bd hi
  unfold setB at h
  rw [Bool.and_eq_true] at h
  unfold setCode
  rw [if_pos (given_0 hi (inB_yes (by omega) (by omega)) h.2), if_pos h.1]
theorem setCode_2 {n k : Int} {bs : List Nat} {zs : List Int} (hi : isCol n k bs = true) (h : setB zs n = false) : setCode n k bs zs = 2 := by
  have hbd := isCol_bd hi
  have hc : belowB 0 k = true := inB_yes (by omega) (by omega)
  unfold setCode
  cases ha : allB zs n with
  | false =>
    have := given_2 (c := 0) hi (by rw [hc, ha]; rfl)
    rw [this]; rfl
  | true =>
    rw [if_pos (given_0 hi hc ha), if_neg]
    unfold setB at h
    rw [ha, Bool.and_true] at h
    rw [h]; simp
theorem setCode_1 {n k : Int} {bs : List Nat} {zs : List Int} (hi : isCol n k bs = false) : setCode n k bs zs = 1 := by
  unfold setCode; rw [given_1 hi]; rfl
end Go.Proofs.Ytidengcihakijaa
/- Degrees: counts of neighbours, of digits, of edges. -/
namespace Go.Proofs.Ytidengcihakijaa
set_option linter.unusedVariables false
set_option linter.unusedSimpArgs false
open Go Go.RowKit Go.Shelf
def cnt (p : Nat → Bool) : Nat → Nat
  | 0 => 0
  | k + 1 => cnt p k + (if p k = true then 1 else 0)
theorem cnt_le (p : Nat → Bool) : ∀ k, cnt p k ≤ k
  | 0 => Nat.le_refl _
  | k + 1 => by have := cnt_le p k; unfold cnt; split <;> omega
theorem cnt_congr {p q : Nat → Bool} : ∀ (k : Nat), (∀ j, j < k → p j = q j) → cnt p k = cnt q k
  | 0, _ => rfl
  | k + 1, h => by unfold cnt; rw [h k (by omega), cnt_congr k (fun j hj => h j (by omega))]
/-- The number of ones in base 2. -/
def ones (x : Nat) : Nat := if h : x = 0 then 0 else x % 2 + ones (x / 2)
termination_by x
decreasing_by omega
theorem ones_0 : ones 0 = 0 := by rw [ones]; rfl
theorem ones_eq (x : Nat) : ones x = x % 2 + ones (x / 2) := by
  by_cases h : x = 0
  · subst h; simp [ones_0]
  · conv => lhs; rw [ones]
    rw [dif_neg h]
theorem ones_le (x : Nat) : ones x ≤ x := by
  induction x using Nat.strongRecOn with
  | _ x ih =>
    rw [ones_eq]
    by_cases h : x = 0
    · subst h; simp [ones_0]
    · have := ih (x / 2) (by omega)
      omega
theorem ones_pow : ∀ (k a : Nat), a < 2 ^ k → ones (a + 2 ^ k) = ones a + 1
  | 0, a, h => by
    obtain rfl : a = 0 := by simpa using h
    rw [ones_eq]; simp [ones_0]
  | k + 1, a, h => by
    rw [Nat.pow_succ] at h ⊢
    have h1 : (a + 2 ^ k * 2) % 2 = a % 2 := by omega
    have h2 : (a + 2 ^ k * 2) / 2 = a / 2 + 2 ^ k := by omega
    rw [ones_eq (a + 2 ^ k * 2), h1, h2, ones_pow k (a / 2) (by omega), ones_eq a]
    omega
theorem ones_arK (p : Nat → Bool) : ∀ k, ones (arK p k) = cnt p k
  | 0 => ones_0
  | k + 1 => by
    unfold arK cnt
    by_cases h : p k = true
    · rw [if_pos h, if_pos h]
      have hlt := arK_lt p k
      have := Nat.two_pow_add_eq_or_of_lt hlt 1
      rw [Nat.mul_one, Nat.or_comm] at this
      rw [← this, Nat.add_comm, ones_pow k _ hlt, ones_arK p k]
    · rw [if_neg h, if_neg h, ones_arK p k, Nat.add_zero]
/-- Does an edge of the colour c end at p? -/
def hit (bs : List Nat) (c : Int) (p : Nat) (t : Nat × Nat × Nat) : Bool := decide (((bs.getD t.1 0 : Nat) : Int) = c) && (decide (t.2.1 = p) || decide (t.2.2 = p))
def dgL (N : Nat) (f : Nat → Nat) : List Int := (List.range N).map fun p => ((f p : Nat) : Int)
theorem dgL_len (N : Nat) (f : Nat → Nat) : (dgL N f).length = N := by simp [dgL]
theorem dgL_get {N : Nat} {f : Nat → Nat} {p : Nat} (h : p < N) : (dgL N f).getD p 0 = (f p : Int) := by simp [dgL, List.getD, h]
theorem dgL_congr {N : Nat} {f g : Nat → Nat} (h : ∀ p, p < N → f p = g p) : dgL N f = dgL N g := by
  unfold dgL
  exact List.map_congr_left (fun p hp => by rw [h p (by simpa using hp)])
theorem dgL_set (N : Nat) (f : Nat → Nat) (i v : Nat) : (dgL N f).set i (v : Int) = dgL N (fun p => if p = i then v else f p) := by
  apply List.ext_getElem
  · simp [dgL]
  · intro p h1 h2
    simp only [dgL, List.getElem_set, List.getElem_map, List.getElem_range]
    by_cases e : i = p
    · subst e; simp
    · rw [if_neg e, if_neg (fun h => e h.symm)]
theorem dgL_snoc (N : Nat) (f : Nat → Nat) : dgL N f ++ [(f N : Int)] = dgL (N + 1) f := by simp [dgL, List.range_succ]
def eCnt (bs : List Nat) (c : Int) (l : List (Nat × Nat × Nat)) (p : Nat) : Nat := l.countP (hit bs c p)
theorem eCnt_snoc (bs : List Nat) (c : Int) (l : List (Nat × Nat × Nat)) (t : Nat × Nat × Nat) (p : Nat) : eCnt bs c (l ++ [t]) p = eCnt bs c l p + (if hit bs c p t = true then 1 else 0) := by
  simp only [eCnt, List.countP_append, List.countP_cons, List.countP_nil, Nat.zero_add]
theorem eCnt_le (bs : List Nat) (c : Int) (l : List (Nat × Nat × Nat)) (p : Nat) : eCnt bs c l p ≤ l.length := List.countP_le_length
theorem colAt_eN (bs : List Nat) {lo hi : Nat} (h : lo < hi) : colAt bs (lo : Int) (hi : Int) = ((bs.getD (eN hi + lo) 0 : Nat) : Int) := by
  unfold colAt eix
  rw [if_neg (by omega), ← eN_edg, ← Int.natCast_add, Int.toNat_natCast]
theorem colAt_eN' (bs : List Nat) {lo hi : Nat} (h : lo < hi) : colAt bs (hi : Int) (lo : Int) = ((bs.getD (eN hi + lo) 0 : Nat) : Int) := by
  rw [← colAt_eN bs h]; unfold colAt; rw [eix_comm (by omega)]
theorem eCnt_row (bs : List Nat) (c : Int) (h p : Nat) : ∀ l, l ≤ h → eCnt bs c (rowE h l) p = (if p < l then (if nbB bs p c h = true then 1 else 0) else 0) + (if p = h then cnt (nbB bs h c) l else 0)
  | 0, _ => by simp [rowE, eCnt, cnt]
  | l + 1, hl => by
    rw [rowE_succ, eCnt_snoc, eCnt_row bs c h p l (by omega)]
    have e1 := colAt_eN bs (lo := l) (hi := h) (by omega)
    have e2 := colAt_eN' bs (lo := l) (hi := h) (by omega)
    by_cases hp : p = h
    · subst hp
      rw [cnt]
      have : hit bs c p (eN p + l, l, p) = nbB bs (p : Int) c l := by
        unfold hit nbB
        rw [e2]
        have h1 : (l : Int) ≠ (p : Int) := by omega
        simp [h1]
      rw [this]
      simp [show ¬ p < l by omega, show ¬ p < l + 1 by omega]
    · by_cases hpl : p = l
      · subst hpl
        have : hit bs c p (eN h + p, p, h) = nbB bs (p : Int) c h := by
          unfold hit nbB
          rw [e1]
          have h1 : (h : Int) ≠ (p : Int) := by omega
          simp [h1]
        rw [this]
        simp [hp]
      · have : hit bs c p (eN h + l, l, h) = false := by
          unfold hit
          simp [show ¬ l = p from fun e => hpl e.symm, show ¬ h = p from fun e => hp e.symm]
        rw [this]
        simp only [hp, if_false, Nat.add_zero]
        by_cases hq : p < l
        · rw [if_pos hq, if_pos (show p < l + 1 by omega)]; simp
        · rw [if_neg hq, if_neg (show ¬ p < l + 1 by omega)]; simp
theorem eCnt_seq (bs : List Nat) (c : Int) (p : Nat) : ∀ h, eCnt bs c (eseq h) p = if p < h then cnt (nbB bs p c) h else 0
  | 0 => by simp [eseq, eCnt]
  | h + 1 => by
    have e : eCnt bs c (eseq (h + 1)) p = eCnt bs c (eseq h) p + eCnt bs c (rowE h h) p := by simp [eCnt, eseq, List.countP_append]
    rw [e, eCnt_seq bs c p h, eCnt_row bs c h p h (Nat.le_refl _)]
    by_cases hp : p = h
    · subst hp
      rw [cnt]
      have : nbB bs (p : Int) c p = false := by simp [nbB]
      simp [this]
    · by_cases hq : p < h
      · rw [cnt]; simp [hq, hp, show p < h + 1 by omega]
      · simp [hq, hp, show ¬ p < h + 1 by omega]
def dgCode (n k : Int) (bs : List Nat) (c : Int) : Int := given n k bs c []
def dgList (n k : Int) (bs : List Nat) (c : Int) : List Int := if given n k bs c [] = 0 then dgL n.toNat (fun p => cnt (nbB bs p c) n.toNat) else []
theorem dg_bad {n k : Int} {bs : List Nat} {c m : Int} (h : given n k bs c [] = m) (hm : m ≠ 0) : dgList n k bs c = [] ∧ dgCode n k bs c = m := by
  unfold dgList dgCode; rw [h]; exact ⟨if_neg hm, rfl⟩
theorem dg_good {n k : Int} {bs : List Nat} {c : Int} (h : given n k bs c [] = 0) : dgList n k bs c = dgL n.toNat (fun p => cnt (nbB bs p c) n.toNat) ∧ dgCode n k bs c = 0 := by
  unfold dgList dgCode; rw [h]; exact ⟨if_pos rfl, rfl⟩
theorem dgList_len {n k : Int} {bs : List Nat} {c : Int} : (dgList n k bs c).length ≤ 17 := by
  unfold dgList
  split
  · rename_i h
    cases hi : isCol n k bs with
    | false => rw [given_1 hi] at h; cases h
    | true => have := isCol_bd hi; rw [dgL_len]; omega
  · simp
end Go.Proofs.Ytidengcihakijaa
/- DegreesOf: the program and its model. -/
namespace Go.Proofs.Ytidengcihakijaa
set_option linter.unusedVariables false
set_option linter.unusedSimpArgs false
open Go Go.RowKit Go.Shelf
def RelDg (bs : List Nat) (c : Int) (N : Nat) (C : Array Value) (w : World) (j : Nat) (v : Value) (wr : World) : Prop :=
  Blk wr w.heap.size C 32 ∧ wr.ownsRow (w.heap.size + 1) 2 1 v (dgL j (fun p => cnt (nbB bs p c) N)).length (icells (dgL j (fun p => cnt (nbB bs p c) N))) ∧ Below w.heap.size w wr
end Go.Proofs.Ytidengcihakijaa
/- DegreesOf: the program's own text. -/
namespace Go.Proofs.Ytidengcihakijaa
set_option linter.unusedVariables false
set_option linter.unusedSimpArgs false
open Go Go.RowKit Go.Shelf
attribute [local go_sem] Oper.semAt_some
theorem dg_hit {N : Nat} {bs : List Nat} {c : Int} {l : List (Nat × Nat × Nat)} {t : Nat × Nat × Nat} (hc : ((bs.getD t.1 0 : Nat) : Int) = c) (hne : t.2.1 ≠ t.2.2) :
    ((dgL N (eCnt bs c l)).set t.2.1 ((eCnt bs c l t.2.1 + 1 : Nat) : Int)).set t.2.2 ((eCnt bs c l t.2.2 + 1 : Nat) : Int) = dgL N (eCnt bs c (l ++ [t])) := by
  rw [dgL_set, dgL_set]
  refine dgL_congr fun p _ => ?_
  rw [eCnt_snoc]
  unfold hit
  simp only [decide_eq_true hc, Bool.true_and]
  by_cases h2 : p = t.2.2
  · subst h2; simp
  · by_cases h1 : p = t.2.1
    · subst h1; simp [h2]
    · simp [h1, h2, show ¬ t.2.1 = p from fun e => h1 e.symm, show ¬ t.2.2 = p from fun e => h2 e.symm]
theorem dg_miss {N : Nat} {bs : List Nat} {c : Int} {l : List (Nat × Nat × Nat)} {t : Nat × Nat × Nat} (hc : ¬ ((bs.getD t.1 0 : Nat) : Int) = c) :
    dgL N (eCnt bs c (l ++ [t])) = dgL N (eCnt bs c l) := by
  refine dgL_congr fun p _ => ?_
  rw [eCnt_snoc]
  unfold hit
  simp only [decide_eq_false hc, Bool.false_and]
  simp
theorem ko_drewN (W : World) (m : Nat) : KeepsOthers W (W.drewN m) := ⟨Nat.le_refl _, fun _ _ h _ => h⟩
def RelDe {N : Nat} (k : Int) (bs : List Nat) (c : Int) (g : Nat) (w : World) (pre : List (Edg N)) (W : World) : Prop :=
  Blk W w.heap.size (ccells (N : Int) k bs).toArray 32 ∧ Blk W (w.heap.size + 1) #[.int .i64 c] 2 ∧ Blk W g (icells (dgL N (eCnt bs c (pre.map Edg.v)))).toArray 2 ∧ Blk W (g + 1) #[.slice (some ⟨g, 0, none⟩) N N] 22 ∧ Below w.heap.size w W
theorem dgL_zero (N : Nat) (bs : List Nat) (c : Int) : zrow N = (icells (dgL N (eCnt bs c []))).toArray := by
  rw [zrow_icells]
  congr 2
  apply List.ext_getElem
  · simp [dgL]
  · intro p h1 h2
    simp [dgL, eCnt]
end Go.Proofs.Ytidengcihakijaa
/- The points but one. -/
namespace Go.Proofs.Ytidengcihakijaa
set_option linter.unusedVariables false
set_option linter.unusedSimpArgs false
open Go Go.RowKit
theorem nbK_in (p : Nat → Bool) : ∀ (k j : Nat), j < (nbK p k).length → 0 ≤ (nbK p k).getD j 0 ∧ (nbK p k).getD j 0 < (k : Int)
  | 0, j, h => by simp [nbK] at h
  | k + 1, j, h => by
    rw [nbK] at h ⊢
    split
    · rename_i hp
      rw [if_pos hp, List.length_append] at h
      by_cases hj : j < (nbK p k).length
      · have := nbK_in p k j hj
        simp only [List.getD, List.getElem?_append_left hj] at *
        omega
      · have e : j = (nbK p k).length := by simp at h; omega
        subst e
        simp [List.getD]; omega
    · rename_i hp
      rw [if_neg hp] at h
      have := nbK_in p k j h
      omega
theorem nbK_asc (p : Nat → Bool) : ∀ (k i : Nat), i + 1 < (nbK p k).length → (nbK p k).getD i 0 < (nbK p k).getD (i + 1) 0
  | 0, j, h => by simp [nbK] at h
  | k + 1, j, h => by
    rw [nbK] at h ⊢
    split
    · rename_i hp
      rw [if_pos hp, List.length_append] at h
      by_cases hj : j + 1 < (nbK p k).length
      · have := nbK_asc p k j hj
        simp only [List.getD, List.getElem?_append_left hj, List.getElem?_append_left (show j < (nbK p k).length by omega)] at *
        exact this
      · have e : j + 1 = (nbK p k).length := by simp at h; omega
        have := (nbK_in p k j (by omega)).2
        simp only [List.getD, List.getElem?_append_left (show j < (nbK p k).length by omega)] at *
        rw [e]
        simp
        omega
    · rename_i hp
      rw [if_neg hp] at h
      exact nbK_asc p k j h
theorem nbK_set (p : Nat → Bool) {N : Nat} {n : Int} (h : (N : Int) = n) : setB (nbK p N) n = true := by
  unfold setB
  rw [Bool.and_eq_true]
  refine ⟨ascB_yes (m := (nbK p N).length) (fun i _ hi => nbK_asc p N i hi) (by omega), allB_yes fun j hj => ?_⟩
  have := nbK_in p N j hj
  exact inB_yes (by omega) (by omega)
def othB (p : Int) (j : Nat) : Bool := decide ((j : Int) ≠ p)
theorem oth_len (P : Nat) : ∀ N, (nbK (othB (P : Int)) N).length = if P < N then N - 1 else N
  | 0 => by simp [nbK]
  | N + 1 => by
    rw [nbK]
    have ih := oth_len P N
    by_cases h : N = P
    · subst h
      rw [if_neg (by simp [othB])]
      rw [ih]; simp
    · rw [if_pos (by simp [othB]; omega), List.length_append, ih]
      simp only [List.length_singleton]
      split <;> split <;> omega
def tkZ (n p : Int) : List Int := nbK (othB p) n.toNat
def tkCode (n k : Int) (bs : List Nat) (p : Int) : Int := if isCol n k bs = true then (if belowB p n = true then (if n = 1 then 5 else 0) else 2) else 1
def tkN (n k : Int) (bs : List Nat) (p : Int) : Int := if tkCode n k bs p = 0 then poN n k bs (tkZ n p) else 0
def tkK (n k : Int) (bs : List Nat) (p : Int) : Int := if tkCode n k bs p = 0 then poK n k bs (tkZ n p) else 0
def tkB (n k : Int) (bs : List Nat) (p : Int) : List Nat := if tkCode n k bs p = 0 then poB n k bs (tkZ n p) else zbl
def tkOut (n k : Int) (bs : List Nat) (p : Int) : Value := .tuple #[.agg (ccells (tkN n k bs p) (tkK n k bs p) (tkB n k bs p)).toArray, .int .i64 (tkCode n k bs p)]
theorem tkOut_bad {n k : Int} {bs : List Nat} {p m : Int} (h : tkCode n k bs p = m) (hm : m ≠ 0) : tkOut n k bs p = .tuple #[.agg (ccells 0 0 zbl).toArray, .int .i64 m] := by
  unfold tkOut tkN tkK tkB
  rw [h, if_neg hm, if_neg hm, if_neg hm]
theorem tkCode_1 {n k : Int} {bs : List Nat} {p : Int} (h : isCol n k bs = false) : tkCode n k bs p = 1 := by simp [tkCode, h]
theorem tkCode_2 {n k : Int} {bs : List Nat} {p : Int} (h : isCol n k bs = true) (h2 : belowB p n = false) : tkCode n k bs p = 2 := by simp [tkCode, h, h2]
theorem tkCode_5 {k : Int} {bs : List Nat} {p : Int} (h : isCol 1 k bs = true) (h2 : belowB p 1 = true) : tkCode 1 k bs p = 5 := by simp [tkCode, h, h2]
theorem tkCode_0 {n k : Int} {bs : List Nat} {p : Int} (h : isCol n k bs = true) (h2 : belowB p n = true) (h3 : n ≠ 1) : tkCode n k bs p = 0 := by simp [tkCode, h, h2, h3]
theorem tk_fit {n k : Int} {bs : List Nat} {p : Int} (h : isCol n k bs = true) (h2 : belowB p n = true) (h3 : n ≠ 1) : (tkZ n p).length ≠ 0 ∧ setB (tkZ n p) n = true := by
  have hb := isCol_bd h
  have hp := inB_bd h2
  obtain ⟨N, rfl⟩ := Int.eq_ofNat_of_zero_le (show 0 ≤ n by omega)
  obtain ⟨P, rfl⟩ := Int.eq_ofNat_of_zero_le (show 0 ≤ p by omega)
  refine ⟨?_, nbK_set _ rfl⟩
  have := oth_len P N
  unfold tkZ
  rw [show Int.toNat (N : Int) = N from rfl, this]
  split <;> omega
theorem tkOut_good {n k : Int} {bs : List Nat} {p : Int} (h : tkCode n k bs p = 0) (h0 : poCode n k bs (tkZ n p) = 0) : tkOut n k bs p = poOut n k bs (tkZ n p) := by
  unfold tkOut tkN tkK tkB poOut
  rw [if_pos h, if_pos h, if_pos h, h, h0]
theorem tkB_bys {n k : Int} {bs : List Nat} (hb : Bys bs) (p : Int) : Bys (tkB n k bs p) := by
  unfold tkB
  split
  · exact poB_bys n k hb _
  · exact zbl_bys
theorem tkZ_len {n p : Int} (h : n ≤ 17) : (tkZ n p).length ≤ 17 := by
  have := nbK_len (othB p) n.toNat
  unfold tkZ; omega
end Go.Proofs.Ytidengcihakijaa
/- TakePoint: the program. -/
namespace Go.Proofs.Ytidengcihakijaa
set_option linter.unusedVariables false
set_option linter.unusedSimpArgs false
open Go Go.RowKit
def RelT (p : Nat → Bool) (C Z : Array Value) (w : World) (j : Nat) (v : Value) (wr : World) : Prop :=
  Blk wr w.heap.size C 32 ∧ Blk wr (w.heap.size + 1) Z 32 ∧ wr.ownsRow (w.heap.size + 1 + 1) 2 1 v (nbK p j).length (icells (nbK p j)) ∧ Below w.heap.size w wr
theorem RelT.skip {p : Nat → Bool} {C Z : Array Value} {w wr w1 : World} {j : Nat} {v : Value} (h : RelT p C Z w j v wr) (hb : Below wr.heap.size wr w1) (hp : p j = false) : RelT p C Z w (j + 1) v w1 :=
  ⟨h.1.below hb h.1.lt, h.2.1.below hb h.2.1.lt, by rw [nbK, hp]; exact own_below h.2.2.1 hb (Nat.le_refl _), h.2.2.2.trans (hb.mono h.2.2.2.size)⟩
end Go.Proofs.Ytidengcihakijaa
/- TakePoint: its model, and what both answer. -/
namespace Go.Proofs.Ytidengcihakijaa
set_option linter.unusedVariables false
set_option linter.unusedSimpArgs false
open Go Go.RowKit
end Go.Proofs.Ytidengcihakijaa
/- A colouring with its colours put through a list (the model). -/
namespace Go.Proofs.Ytidengcihakijaa
set_option linter.unusedVariables false
set_option linter.unusedSimpArgs false
open Go Go.RowKit
theorem eseq_bd {h : Nat} {t : Nat × Nat × Nat} (ht : t ∈ eseq h) : t.2.1 < t.2.2 ∧ t.2.2 < h := by
  induction h with
  | zero => simp [eseq] at ht
  | succ h ih =>
    rw [eseq, List.mem_append] at ht
    rcases ht with ht | ht
    · have := ih ht; omega
    · simp only [rowE, List.mem_map, List.mem_range] at ht
      obtain ⟨m, hm, rfl⟩ := ht
      exact ⟨hm, by show h < h + 1; omega⟩
theorem eseq_136 {N : Nat} (hN : N ≤ 17) {t : Nat × Nat × Nat} (ht : t ∈ eseq N) : eN t.2.2 + t.2.1 < 136 := by
  have h := eseq_bd ht
  have h1 := eN_mono (a := t.2.2 + 1) (b := N) (by omega)
  have h2 := eN_17 hN
  have : eN (t.2.2 + 1) = eN t.2.2 + t.2.2 := rfl
  omega
def turnL (f : Int → Int) (bs : List Nat) : List Int := (List.range 136).map fun e => f ((bs.getD e 0 : Nat) : Int)
theorem turnL_get {f : Int → Int} {bs : List Nat} {e : Nat} (h : e < 136) : (turnL f bs).getD e 0 = f ((bs.getD e 0 : Nat) : Int) := by
  simp [turnL, List.getD, h]
theorem turnL_len (f : Int → Int) (bs : List Nat) : (turnL f bs).length = 136 := by simp [turnL]
theorem paint_congr {N : Nat} {r s : Nat → Nat → Int} (h : ∀ lo hi, lo < hi → hi < N → r lo hi = s lo hi) : paintB N r = paintB N s := by
  unfold paintB
  exact foldl_congr _ _ fun t ht b => by have := eseq_bd ht; rw [h _ _ this.1 this.2]
theorem paint_turn {N : Nat} (hN : N ≤ 17) (f : Int → Int) (bs : List Nat) : paintB N (fun lo hi => f (colAt bs lo hi)) = putK zbl 0 (turnL f bs) (eN N) := by
  rw [← paint_list]
  unfold paintB
  exact foldl_congr _ _ fun t ht b => by
    have := eseq_bd ht
    show b.set t.1 (f (colAt bs t.2.1 t.2.2)).toNat = b.set t.1 ((turnL f bs).getD (eN t.2.2 + t.2.1) 0).toNat
    rw [turnL_get (eseq_136 hN ht), colAt_eN bs this.1]
theorem putK_len (bs : List Nat) (zs : List Int) : ∀ m, (putK bs 0 zs m).length = bs.length
  | 0 => rfl
  | m + 1 => by rw [putK, List.length_set, putK_len bs zs m]
theorem putK_get {bs : List Nat} {zs : List Int} {i : Nat} (hi : i < bs.length) : ∀ m, (putK bs 0 zs m).getD i 0 = if i < m then (zs.getD i 0).toNat else bs.getD i 0
  | 0 => by simp [putK]
  | m + 1 => by
    have ih := putK_get (bs := bs) (zs := zs) hi m
    have hl := putK_len bs zs m
    rw [putK]
    by_cases h : i = m
    · subst h
      simp only [List.getD, Nat.zero_add, if_pos (Nat.lt_succ_self i)]
      rw [List.getElem?_set_self (by omega)]
      rfl
    · simp only [List.getD, Nat.zero_add] at *
      rw [List.getElem?_set_ne (fun e => h e.symm), ih]
      by_cases h2 : i < m
      · rw [if_pos h2, if_pos (by omega)]
      · rw [if_neg h2, if_neg (by omega)]
theorem putK_same {a b : List Nat} {zs : List Int} (h : a.length = b.length) {m : Nat} (hab : ∀ i, m ≤ i → i < a.length → a.getD i 0 = b.getD i 0) : putK a 0 zs m = putK b 0 zs m := by
  apply List.ext_getElem (by rw [putK_len, putK_len, h])
  intro i h1 h2
  rw [putK_len] at h1 h2
  have e1 := putK_get (zs := zs) h1 m
  have e2 := putK_get (zs := zs) h2 m
  have l1 : i < (putK a 0 zs m).length := by rw [putK_len]; exact h1
  have l2 : i < (putK b 0 zs m).length := by rw [putK_len]; exact h2
  have : (putK a 0 zs m).getD i 0 = (putK b 0 zs m).getD i 0 := by
    rw [e1, e2]
    split
    · rfl
    · exact hab i (by omega) h1
  simpa [List.getD, l1, l2] using this
theorem col_hi {n k : Int} {bs : List Nat} (h : isCol n k bs = true) {i : Nat} (h1 : edg n ≤ (i : Int)) (h2 : i < 136) : bs.getD i 0 = 0 := by
  have := (isCol_good h).2 i h2
  unfold goodAt at this
  rw [if_neg (by omega)] at this
  simpa using this
theorem col_lo {n k : Int} {bs : List Nat} (h : isCol n k bs = true) {i : Nat} (h1 : (i : Int) < edg n) (h2 : i < 136) : ((bs.getD i 0 : Nat) : Int) < k := by
  have := (isCol_good h).2 i h2
  unfold goodAt at this
  rw [if_pos h1] at this
  simpa using this
theorem turn_put {N : Nat} {k : Int} {bs : List Nat} (hb : Bys bs) (hi : isCol (N : Int) k bs = true) (f : Int → Int) : putK bs 0 (turnL f bs) (eN N) = paintB N (fun lo hi => f (colAt bs lo hi)) := by
  have hN := (isCol_bd hi).2.1
  rw [paint_turn (by omega)]
  refine putK_same (by rw [hb.len, zbl_len]) fun i h1 h2 => ?_
  rw [hb.len] at h2
  rw [col_hi hi (by rw [← eN_edg]; omega) h2]
  show 0 = (List.replicate 136 0).getD i 0
  rw [List.getD, List.getElem?_replicate, if_pos h2]; rfl
end Go.Proofs.Ytidengcihakijaa
/- l01Turned's walk. -/
namespace Go.Proofs.Ytidengcihakijaa
set_option linter.unusedVariables false
set_option linter.unusedSimpArgs false
open Go Go.RowKit
def RelTu (n k : Int) (bs : List Nat) (L : List Int) (w : World) (j : Nat) (wr : World) : Prop :=
  Blk wr w.heap.size (ccells n k (putK bs 0 L j)).toArray 32 ∧ Blk wr (w.heap.size + 1) (ccells 0 0 zbl).toArray 32 ∧ Below w.heap.size w wr
end Go.Proofs.Ytidengcihakijaa
/- Sets of points as digits; what a clique is. -/
namespace Go.Proofs.Ytidengcihakijaa
set_option linter.unusedVariables false
set_option linter.unusedSimpArgs false
open Go Go.RowKit
theorem set_pair {zs : List Int} {n : Int} (h : setB zs n = true) : zs.Pairwise (· < ·) := by
  rw [List.pairwise_iff_getElem]
  intro i j hi hj hij
  have := set_up h (i := i) (j - i) (by omega)
  rw [show i + (j - i) = j by omega] at this
  simp only [List.getD, List.getElem?_eq_getElem hi, List.getElem?_eq_getElem hj, Option.getD_some] at this
  omega
theorem filter_step (m : Int) : ∀ (zs : List Int), zs.Pairwise (· < ·) → zs.filter (fun z => decide (z < m + 1)) = zs.filter (fun z => decide (z < m)) ++ (if m ∈ zs then [m] else [])
  | [], _ => by simp
  | x :: xs, h => by
    obtain ⟨hx, hxs⟩ := List.pairwise_cons.1 h
    have ih := filter_step m xs hxs
    have hno : ∀ y, m ≤ y → (∀ z ∈ xs, y < z) → xs.filter (fun z => decide (z < m + 1)) = [] ∧ m ∉ xs := fun y hy hall => by
      refine ⟨List.filter_eq_nil_iff.2 fun z hz => ?_, fun hm => ?_⟩
      · have := hall z hz; simp; omega
      · have := hall m hm; omega
    by_cases h1 : x < m
    · rw [List.filter_cons_of_pos (by simp; omega), List.filter_cons_of_pos (by simpa using h1), ih, List.cons_append]
      have : (m ∈ x :: xs) ↔ m ∈ xs := by simp; omega
      by_cases hm : m ∈ xs
      · rw [if_pos hm, if_pos (this.2 hm)]
      · rw [if_neg hm, if_neg (fun e => hm (this.1 e))]
    · obtain ⟨e1, e2⟩ := hno x (by omega) hx
      have e3 : xs.filter (fun z => decide (z < m)) = [] := List.filter_eq_nil_iff.2 fun z hz => by have := hx z hz; simp; omega
      by_cases h2 : x = m
      · subst h2
        rw [List.filter_cons_of_pos (by simp; omega), List.filter_cons_of_neg (by simp), e1, e3, if_pos (by simp)]
        rfl
      · rw [List.filter_cons_of_neg (by simp; omega), List.filter_cons_of_neg (by simpa using h1), e1, e3, if_neg (by simp [e2]; omega)]
        rfl
def memB (zs : List Int) (j : Nat) : Bool := decide ((j : Int) ∈ zs)
theorem nbK_filter {zs : List Int} (h : zs.Pairwise (· < ·)) (h0 : ∀ z ∈ zs, 0 ≤ z) : ∀ m : Nat, nbK (memB zs) m = zs.filter (fun z => decide (z < (m : Int)))
  | 0 => by
    rw [nbK]
    exact (List.filter_eq_nil_iff.2 fun z hz => by have := h0 z hz; simp; omega).symm
  | m + 1 => by
    have ih := nbK_filter h h0 m
    rw [show ((m + 1 : Nat) : Int) = (m : Int) + 1 by omega, filter_step (m : Int) zs h, nbK, ih]
    by_cases hm : (m : Int) ∈ zs
    · rw [if_pos (by simpa [memB] using hm), if_pos hm]
    · rw [if_neg (by simpa [memB] using hm), if_neg hm, List.append_nil]
theorem set_mem {zs : List Int} {n : Int} (h : setB zs n = true) {z : Int} (hz : z ∈ zs) : 0 ≤ z ∧ z < n := by
  obtain ⟨i, hi, rfl⟩ := List.getElem_of_mem hz
  have := (set_get h).1 i hi
  simpa [List.getD, List.getElem?_eq_getElem hi] using this
theorem nbK_set_eq {zs : List Int} {n : Int} (h : setB zs n = true) {m : Nat} (hn : n ≤ (m : Int)) : nbK (memB zs) m = zs := by
  rw [nbK_filter (set_pair h) (fun z hz => (set_mem h hz).1)]
  exact List.filter_eq_self.2 fun z hz => by have := set_mem h hz; simp; omega
/-- The digits of the first points of a list. -/
def bitsK (zs : List Int) : Nat → Nat
  | 0 => 0
  | m + 1 => bitsK zs m ||| 2 ^ (zs.getD m 0).toNat
theorem bitsK_lt {zs : List Int} {n : Int} (h : setB zs n = true) (hn : n ≤ 17) : ∀ m, m ≤ zs.length → bitsK zs m < 2 ^ 17
  | 0, _ => by simp [bitsK]
  | m + 1, hm => by
    have := (set_get h).1 m (by omega)
    rw [bitsK]
    exact Nat.or_lt_two_pow (bitsK_lt h hn m (by omega)) (Nat.pow_lt_pow_right (by omega) (by omega))
theorem bitsK_bit {zs : List Int} {n : Int} (h : setB zs n = true) (j : Nat) : ∀ m, m ≤ zs.length → (bitsK zs m).testBit j = memB (zs.take m) j
  | 0, _ => by simp [bitsK, memB]
  | m + 1, hm => by
    have hb := (set_get h).1 m (by omega)
    have ih := bitsK_bit h j m (by omega)
    rw [bitsK, Nat.testBit_or, ih, Nat.testBit_two_pow]
    have hg : zs.getD m 0 = zs[m]'(by omega) := by simp [List.getD, List.getElem?_eq_getElem (show m < zs.length by omega)]
    rw [hg] at hb
    rw [hg, List.take_succ_eq_append_getElem (by omega)]
    simp only [memB, List.mem_append, List.mem_singleton]
    by_cases h1 : (j : Int) ∈ zs.take m
    · simp [h1]
    · by_cases h2 : (j : Int) = zs[m]'(by omega)
      · simp [h2, show (zs[m]'(by omega)).toNat = j by omega]
      · simp [h1, h2, show ¬ (zs[m]'(by omega)).toNat = j by omega]
end Go.Proofs.Ytidengcihakijaa
/- A region that draws its order: a head that only reads or lays blocks, in any order, and a tail in the text's order that waits for all of it. -/
namespace Go.Proofs.Ytidengcihakijaa
set_option linter.unusedVariables false
set_option linter.unusedSimpArgs false
open Go
section
variable {P : Program} {md : Region.Mode} {ops ops' : Array Oper} {C : World → Prop}
theorem ready_idles {m : Nat} (hsz : ops'.size = ops.size) (hh : ∀ i, i < m → ops'[i]? = ops[i]?) (ht : ∀ i o, m ≤ i → ops[i]? = some o → ops'[i]? = some (idle o)) (listed : Array Bool) : Region.ready md ops' listed = Region.ready md ops listed := by
  unfold Region.ready
  rw [hsz]
  congr 1
  funext i
  by_cases h : i < m
  · rw [hh i h]
  · cases ho : ops[i]? with
    | some o => rw [ht i o (by omega) ho]; rfl
    | none =>
      have : ops'[i]? = none := by rw [Array.getElem?_eq_none_iff] at ho ⊢; omega
      rw [this]
def unl (listed : Array Bool) : Nat := (List.range listed.size).countP fun j => !listed.getD j true
theorem countP_drop {p q : Nat → Bool} {i : Nat} : ∀ (l : List Nat), (∀ j, q j = true → p j = true) → i ∈ l → p i = true → q i = false → l.countP q + 1 ≤ l.countP p
  | [], _, h, _, _ => by cases h
  | x :: l, hpq, h, hp, hq => by
    have hm : l.countP q ≤ l.countP p := List.countP_mono_left fun j _ hj => hpq j hj
    rw [List.countP_cons, List.countP_cons]
    by_cases e : x = i
    · subst e
      rw [if_neg (by simp [hq]), if_pos hp]; omega
    · have hl : i ∈ l := by
        rcases List.mem_cons.1 h with h | h
        · exact absurd h.symm e
        · exact h
      have ih := countP_drop l hpq hl hp hq
      by_cases hx : q x = true
      · rw [if_pos hx, if_pos (hpq x hx)]; omega
      · rw [if_neg hx]; omega
theorem unl_set {listed : Array Bool} {i : Nat} (hi : i < listed.size) (h : listed.getD i true = false) : unl (listed.setIfInBounds i true) + 1 ≤ unl listed := by
  unfold unl
  rw [Array.size_setIfInBounds]
  refine countP_drop _ (fun j hj => ?_) (List.mem_range.2 hi) (by rw [h]; rfl) ?_
  · by_cases e : i = j
    · subst e; simp [Array.getD, hi] at hj
    · rwa [getD_set_ne true e] at hj
  · have : (listed.setIfInBounds i true).getD i true = true := by simp [Array.getD, hi]
    rw [this]; rfl
def finAt (m s : Nat) : Array Bool := (List.replicate m true ++ List.replicate (s - m) false).toArray
theorem fin_of {m : Nat} {listed : Array Bool} (hm : m ≤ ops.size) (inv : HeadInv md ops m listed) (h : ∀ i, i < m → listed.getD i true = true) : listed = finAt m ops.size := by
  have hs := inv.size
  apply Array.ext'
  show listed.toList = List.replicate m true ++ List.replicate (ops.size - m) false
  have hl : listed.toList.length = ops.size := by simpa using hs
  apply List.ext_getElem
  · simp; omega
  · intro i h1 h2
    rw [List.getElem_append]
    split
    · rename_i h3
      rw [List.getElem_replicate]
      have := h i (by simpa using h3)
      simpa [Array.getD, show i < listed.size by omega] using this
    · rename_i h3
      rw [List.getElem_replicate]
      have := inv.tail i (by simpa using h3) (by omega)
      simpa [Array.getD, show i < listed.size by omega] using this
theorem unl_fin (m s : Nat) (h : m ≤ s) : unl (finAt m s) = s - m := by
  have key : ∀ (a b : Nat), (List.range (a + b)).countP (fun j => !(List.replicate a true ++ List.replicate b false).toArray.getD j true) = b := by
    intro a b
    rw [List.range_add, List.countP_append]
    have h1 : (List.range a).countP (fun j => !(List.replicate a true ++ List.replicate b false).toArray.getD j true) = 0 := by
      rw [List.countP_eq_zero]
      intro j hj
      have hj := List.mem_range.1 hj
      simp [Array.getD, List.getElem_append, hj]
    have h2 : ((List.range b).map (a + ·)).countP (fun j => !(List.replicate a true ++ List.replicate b false).toArray.getD j true) = b := by
      rw [List.countP_map, List.countP_eq_length.2, List.length_range]
      intro j hj
      have hj := List.mem_range.1 hj
      simp [Array.getD, List.getElem_append, hj]
    rw [h1, h2, Nat.zero_add]
  have := key m (s - m)
  unfold unl finAt
  simp only [List.size_toArray, List.length_append, List.length_replicate]
  exact this
theorem wpAny_of_seq_more {Q' : Exit → Act → World → Prop} : ∀ (l : List Oper) (k g : Nat) (listed : Array Bool) (a : Act) (w : World), (∀ j, l[j]? = ops[k + j]?) →
    Region.seqB md ops l.length k listed = true → wpList P ops Q' l a w → wpAny P md ops Q' (l.length + g) listed a w
  | [], _, 0, _, _, _, _, hB, h => ⟨by simpa [Region.seqB] using hB, h⟩
  | [], _, g + 1, listed, _, _, _, hB, h => by
    have hr : Region.ready md ops listed = [] := by simpa [Region.seqB] using hB
    rw [show ([] : List Oper).length + (g + 1) = g + 1 by simp]
    exact ⟨fun _ => h, fun j hj => by rw [hr] at hj; cases hj⟩
  | o :: l, k, g, listed, a, w, hl, hB, h => by
    have h0 : ops[k]? = some o := by simpa using (hl 0).symm
    simp only [List.length_cons, Region.seqB, Bool.and_eq_true, decide_eq_true_eq] at hB
    rw [show (o :: l).length + g = (l.length + g) + 1 by simp; omega]
    refine ⟨fun h1 => (by rw [hB.1] at h1; cases h1), fun i hi => ?_⟩
    rw [hB.1] at hi
    have hik : i = k := by simpa using hi
    subst hik
    have hw : wpOp P ops Q' i (wpList P ops Q' l) a w := by unfold wpOp; simp only [h0]; exact h
    exact wpOp_mono (fun a' w' h' => wpAny_of_seq_more l (i + 1) g _ a' w' (fun j => by have := hl (j + 1); simpa [Nat.add_assoc, Nat.add_comm 1 j] using this) hB.2 h') hw
theorem qa_of_tail {m : Nat} {Qa : Act → Prop} (hsz : ops'.size = ops.size) (hh : ∀ i, i < m → ops'[i]? = ops[i]?) (ht : ∀ i o, m ≤ i → ops[i]? = some o → ops'[i]? = some (idle o)) (hp : plainB md ops = true) :
    ∀ (fuel : Nat) (listed : Array Bool) (a : Act), listed.size = ops.size → (∀ i, i < m → listed.getD i true = true) → wpAnyQ P md ops' C Qa fuel listed a → Qa a
  | 0, _, _, _, _, h => h.2
  | fuel + 1, listed, a, hs, hd, h => by
    cases hr : Region.ready md ops' listed with
    | nil => exact h.1 hr
    | cons i r =>
      have hi : i ∈ Region.ready md ops' listed := by rw [hr]; exact List.mem_cons_self
      have hi2 := hi
      rw [ready_idles hsz hh ht] at hi2
      obtain ⟨hun, o, ho, _⟩ := mem_ready.1 hi2
      have him : m ≤ i := Nat.le_of_not_lt fun hlt => by rw [hd i hlt] at hun; cases hun
      have hq := h.2 i hi
      unfold qOp at hq
      rw [ht i o him ho] at hq
      simp only [] at hq
      rw [if_pos (wanted_free (o := idle o) (plain_spec hp ho).1 _)] at hq
      obtain ⟨v, _, h3⟩ := hq
      have h4 : wpAnyQ P md ops' C Qa fuel (listed.setIfInBounds i true) a := h3
      exact qa_of_tail hsz hh ht hp fuel _ a (by rw [Array.size_setIfInBounds]; exact hs) (fun j hj => by rw [getD_set_ne true (by omega)]; exact hd j hj) h4
theorem wpAny_of_idles {m : Nat} {Qa : Act → Prop} {Q' : Exit → Act → World → Prop} (hsz : ops'.size = ops.size) (hh : ∀ i, i < m → ops'[i]? = ops[i]?) (ht : ∀ i o, m ≤ i → ops[i]? = some o → ops'[i]? = some (idle o))
    (hmlt : m < ops.size) (hp : plainB md ops = true) (hk : (Region.sinkB md ops m && Region.chainB md ops m) = true)
    (hQ : ∀ a w g, C w → Qa a → wpAny P md ops Q' (ops.size - m + g) (finAt m ops.size) a w) :
    ∀ (fuel : Nat) (listed : Array Bool) (a : Act) (w : World), HeadInv md ops m listed → unl listed ≤ fuel → C w →
      wpAnyQ P md ops' C Qa fuel listed a → wpAny P md ops Q' fuel listed a w := by
  have hkk := hk
  rw [Bool.and_eq_true] at hkk
  intro fuel
  induction fuel with
  | zero =>
    intro listed a w inv hu hC h
    have hs := inv.size
    have hun := inv.tail m (Nat.le_refl _) hmlt
    have := h.1
    rw [ready_idles hsz hh ht] at this
    exact absurd this (some_ready hp hs m hmlt hun)
  | succ fuel ih =>
    intro listed a w inv hu hC h
    have hs := inv.size
    have hun := inv.tail m (Nat.le_refl _) hmlt
    by_cases hmr : m ∈ Region.ready md ops listed
    · have hd : ∀ i, i < m → listed.getD i true = true := fun i hi => by
        cases hx : listed.getD i true with
        | true => rfl
        | false => exact absurd hmr (tail_waits hkk.1 hkk.2 hmlt inv _ i rfl hi hx m (Nat.le_refl _))
      have hqa := qa_of_tail hsz hh ht hp (fuel + 1) listed a hs hd h
      have hf := fin_of (Nat.le_of_lt hmlt) inv hd
      rw [hf] at hu ⊢
      rw [unl_fin m ops.size (Nat.le_of_lt hmlt)] at hu
      have := hQ a w (fuel + 1 - (ops.size - m)) hC hqa
      rw [show ops.size - m + (fuel + 1 - (ops.size - m)) = fuel + 1 by omega] at this
      exact this
    · refine ⟨fun h0 => absurd h0 (some_ready hp hs m hmlt hun), fun i hi => ?_⟩
      have hq := h.2 i (by rw [ready_idles hsz hh ht]; exact hi)
      obtain ⟨hiun, oi, hoi, hall⟩ := mem_ready.1 hi
      have his : i < ops.size := (Array.getElem?_eq_some_iff.1 hoi).1
      have hlt : i < m := by
        refine Nat.lt_of_not_le fun him => ?_
        by_cases e : i = m
        · subst e; exact hmr hi
        · have h1 := List.all_eq_true.1 hkk.2 i (List.mem_range.2 his)
          simp only [Bool.or_eq_true, decide_eq_true_eq] at h1
          rcases h1 with h1 | h1
          · omega
          · obtain ⟨o', ho', e', he', hb', hon'⟩ := Region.waitsFor_spec h1
            have : o' = oi := Option.some.inj (ho'.symm.trans hoi)
            subst this
            have h2 := hall e' he' hb'
            rw [hon', getD_both (inv.tail (i - 1) (by omega) (by omega))] at h2
            cases h2
      refine wpOp_of_qOp hC (fun a' w' hw' hkq => ih (listed.setIfInBounds i true) a' w' (inv.set hi hlt) (by have := unl_set (listed := listed) (i := i) (by omega) hiun; omega) hw' hkq) ?_
      unfold qOp at hq ⊢
      rw [hh i hlt, hoi] at hq
      simp only [hoi] at hq ⊢
      rw [if_pos (wanted_free (plain_spec hp hoi).1 _)] at hq ⊢
      exact hq
theorem unl_none (s : Nat) : unl (Array.replicate s false) ≤ s := by
  unfold unl
  refine Nat.le_trans List.countP_le_length ?_
  simp
/-- **The head is walked once, in the text's order; then the tail.** n: how many operations the head has. -/
theorem wp_region_tail_lit {id : Nat} {Q : Exit → Act → World → Prop} {a : Act} {w : World} {L : List Oper} (n : Nat) (C : World → Prop) (hn : n < L.length) (hm : P.follows .mixedOrders = true) (hC : C w.drew)
    (hp : plainB .any L.toArray = true) (hk : (Region.sinkB .any L.toArray n && Region.chainB .any L.toArray n) = true) (hs : Region.seqB .any L.toArray (L.drop n).length n (finAt n L.toArray.size) = true)
    (hB : Region.lexB .any (L.take n ++ (L.drop n).map idle).toArray = true)
    (h : wpQuiet P (L.take n ++ (L.drop n).map idle).toArray C (fun a' => ∀ w', C w' → wpList P L.toArray Q (L.drop n) a' w') (L.take n ++ (L.drop n).map idle) a) : (Code.region id L.toArray true).wp P Q a w := by
  have htl : (L.take n).length = n := by simp; omega
  have hsz : (L.take n ++ (L.drop n).map idle).toArray.size = L.toArray.size := by simp; omega
  have hh : ∀ i, i < n → (L.take n ++ (L.drop n).map idle).toArray[i]? = L.toArray[i]? := fun i hi => by
    rw [List.getElem?_toArray, List.getElem?_append_left (by omega), List.getElem?_toArray, List.getElem?_take, if_pos hi]
  have ht : ∀ i o, n ≤ i → L.toArray[i]? = some o → (L.take n ++ (L.drop n).map idle).toArray[i]? = some (idle o) := fun i o hi ho => by
    rw [List.getElem?_toArray] at ho
    rw [List.getElem?_toArray, List.getElem?_append_right (by omega), htl, List.getElem?_map, List.getElem?_drop, show n + (i - n) = i by omega, ho]; rfl
  simp only [Region.lexB, Bool.and_eq_true] at hB
  have inv0 : HeadInv .any L.toArray n (Array.replicate L.toArray.size false) :=
    ⟨by simp, fun j oj _ hl => (by rw [getD_replicate_false] at hl; cases hl), fun t _ ht => getD_in (by simpa using ht) (getD_replicate_false _ _)⟩
  refine wp_region_any hm (wpAny_of_idles (C := C) (m := n) (Qa := fun a' => ∀ w', C w' → wpList P L.toArray Q (L.drop n) a' w') hsz hh ht (by simpa using hn) hp hk (fun a w g hw hq => ?_) _ _ _ _ inv0 (unl_none _) hC ?_)
  · have e : L.toArray.size - n = (L.drop n).length := by simp
    rw [e]
    exact wpAny_of_seq_more (L.drop n) n g _ a w (fun j => by rw [List.getElem?_toArray, List.getElem?_drop]) hs (hq w hw)
  · have := wpAnyQ_lex (C := C) (md := .any) hB.1 (L.take n ++ (L.drop n).map idle) 0 (Array.replicate (L.take n ++ (L.drop n).map idle).toArray.size false) a (by simp) (by simpa using hB.2) h
    rw [hsz] at this
    simpa [htl, Nat.add_sub_cancel' (Nat.le_of_lt hn)] using this
end
end Go.Proofs.Ytidengcihakijaa
/- Tail2's law inside a fence: a region that draws its order, a head that only reads or lays blocks, a tail that waits for it. -/
namespace Go.Proofs.Ytidengcihakijaa
set_option linter.unusedVariables false
set_option linter.unusedSimpArgs false
open Go
section
variable {F : Fence} {n : Nat} {P : Program} {md : Region.Mode} {ops ops' : Array Oper} {C : World → Prop}
def calmB (ops : Array Oper) : Bool := ops.all fun o => match o.op with | .defer _ => false | _ => true
theorem calm_spec (h : calmB ops = true) {i : Nat} {o : Oper} (ho : ops[i]? = some o) : ∀ c, o.op ≠ .defer c := fun c e => by
  obtain ⟨hi, rfl⟩ := Array.getElem?_eq_some_iff.1 ho
  have := Array.all_eq_true.1 h i hi
  rw [e] at this; cases this
/-- What a fence must let by: every function, and every call that has a contract. -/
structure Lets (F : Fence) (n : Nat) (P : Program) : Prop where
  fn : ∀ f, F.fn f
  deep : F.depth.isSome = true → 1 ≤ n
  calls : ∀ f args w (R : Ending → World → Prop), Calls P f args w R → CallsIn F (n - 1) P f args w R
theorem wpIn_of_quiet (hL : Lets F n P) {o : Oper} (hdf : ∀ c, o.op ≠ .defer c) {a : Act} {K : Act → Prop} {K' : Act → World → Prop} {Q' : Exit → Act → World → Prop} {w : World} (hw : C w) (h : ∀ a w', C w' → K a → K' a w') (hh : o.quiet P a C K) : o.wpIn F n P a w K' Q' := by
  obtain ⟨v, h1, h2⟩ := hh
  have h3 := h1 w hw
  unfold Oper.quietAt at h3
  unfold Oper.wpIn
  refine ⟨fun f _ => hL.fn f, ?_⟩
  rw [Oper.semAt_eq _ _ _ hdf]
  generalize (execOp a.eval o).run P w = r at *
  cases r with
  | ok n' w' =>
    cases n' <;> simp only [Oper.quietUpon] at h3 <;> simp only [Oper.uponIn]
    case value u =>
      obtain ⟨e1, e2⟩ := h3
      rw [e1, e2]
      exact h _ _ hw h2
    case skip =>
      obtain ⟨e1, e2⟩ := h3
      rw [e1, ← e2]
      exact h _ _ hw h2
    case enter f args =>
      obtain ⟨e1, hc⟩ := h3
      rw [e1]
      exact ⟨hL.deep, (hL.calls _ _ _ _ hc).mono fun e w'' ⟨he, hw''⟩ => by subst he; exact h _ _ hw'' h2⟩
  | halt x w' => simp only [Oper.quietUpon] at h3
theorem wpAnyIn_of_seq_more {Q' : Exit → Act → World → Prop} : ∀ (l : List Oper) (k g : Nat) (listed : Array Bool) (a : Act) (w : World), (∀ j, l[j]? = ops[k + j]?) →
    Region.seqB md ops l.length k listed = true → wpListIn F n P ops Q' l a w → wpAnyIn F n P md ops Q' (l.length + g) listed a w
  | [], _, 0, _, _, _, _, hB, h => ⟨by simpa [Region.seqB] using hB, h⟩
  | [], _, g + 1, listed, _, _, _, hB, h => by
    have hr : Region.ready md ops listed = [] := by simpa [Region.seqB] using hB
    rw [show ([] : List Oper).length + (g + 1) = g + 1 by simp]
    exact ⟨fun _ => h, fun j hj => by rw [hr] at hj; cases hj⟩
  | o :: l, k, g, listed, a, w, hl, hB, h => by
    have h0 : ops[k]? = some o := by simpa using (hl 0).symm
    simp only [List.length_cons, Region.seqB, Bool.and_eq_true, decide_eq_true_eq] at hB
    rw [show (o :: l).length + g = (l.length + g) + 1 by simp; omega]
    refine ⟨fun h1 => (by rw [hB.1] at h1; cases h1), fun i hi => ?_⟩
    rw [hB.1] at hi
    have hik : i = k := by simpa using hi
    subst hik
    have hw : wpOpIn F n P ops Q' i (wpListIn F n P ops Q' l) a w := by unfold wpOpIn; simp only [h0]; exact h
    exact wpOpIn_mono (fun a' w' h' => wpAnyIn_of_seq_more l (i + 1) g _ a' w' (fun j => by have := hl (j + 1); simpa [Nat.add_assoc, Nat.add_comm 1 j] using this) hB.2 h') hw
theorem wpAnyIn_of_idles (hL : Lets F n P) {m : Nat} {Qa : Act → Prop} {Q' : Exit → Act → World → Prop} (hsz : ops'.size = ops.size) (hh : ∀ i, i < m → ops'[i]? = ops[i]?) (ht : ∀ i o, m ≤ i → ops[i]? = some o → ops'[i]? = some (idle o))
    (hmlt : m < ops.size) (hp : plainB md ops = true) (hcm : calmB ops = true) (hk : (Region.sinkB md ops m && Region.chainB md ops m) = true)
    (hQ : ∀ a w g, C w → Qa a → wpAnyIn F n P md ops Q' (ops.size - m + g) (finAt m ops.size) a w) :
    ∀ (fuel : Nat) (listed : Array Bool) (a : Act) (w : World), HeadInv md ops m listed → unl listed ≤ fuel → C w →
      wpAnyQ P md ops' C Qa fuel listed a → wpAnyIn F n P md ops Q' fuel listed a w := by
  have hkk := hk
  rw [Bool.and_eq_true] at hkk
  intro fuel
  induction fuel with
  | zero =>
    intro listed a w inv hu hC h
    have hs := inv.size
    have hun := inv.tail m (Nat.le_refl _) hmlt
    have := h.1
    rw [ready_idles hsz hh ht] at this
    exact absurd this (some_ready hp hs m hmlt hun)
  | succ fuel ih =>
    intro listed a w inv hu hC h
    have hs := inv.size
    have hun := inv.tail m (Nat.le_refl _) hmlt
    by_cases hmr : m ∈ Region.ready md ops listed
    · have hd : ∀ i, i < m → listed.getD i true = true := fun i hi => by
        cases hx : listed.getD i true with
        | true => rfl
        | false => exact absurd hmr (tail_waits hkk.1 hkk.2 hmlt inv _ i rfl hi hx m (Nat.le_refl _))
      have hqa := qa_of_tail hsz hh ht hp (fuel + 1) listed a hs hd h
      have hf := fin_of (Nat.le_of_lt hmlt) inv hd
      rw [hf] at hu ⊢
      rw [unl_fin m ops.size (Nat.le_of_lt hmlt)] at hu
      have := hQ a w (fuel + 1 - (ops.size - m)) hC hqa
      rw [show ops.size - m + (fuel + 1 - (ops.size - m)) = fuel + 1 by omega] at this
      exact this
    · refine ⟨fun h0 => absurd h0 (some_ready hp hs m hmlt hun), fun i hi => ?_⟩
      have hq := h.2 i (by rw [ready_idles hsz hh ht]; exact hi)
      obtain ⟨hiun, oi, hoi, hall⟩ := mem_ready.1 hi
      have his : i < ops.size := (Array.getElem?_eq_some_iff.1 hoi).1
      have hlt : i < m := by
        refine Nat.lt_of_not_le fun him => ?_
        by_cases e : i = m
        · subst e; exact hmr hi
        · have h1 := List.all_eq_true.1 hkk.2 i (List.mem_range.2 his)
          simp only [Bool.or_eq_true, decide_eq_true_eq] at h1
          rcases h1 with h1 | h1
          · omega
          · obtain ⟨o', ho', e', he', hb', hon'⟩ := Region.waitsFor_spec h1
            have : o' = oi := Option.some.inj (ho'.symm.trans hoi)
            subst this
            have h2 := hall e' he' hb'
            rw [hon', getD_both (inv.tail (i - 1) (by omega) (by omega))] at h2
            cases h2
      unfold qOp at hq
      rw [hh i hlt, hoi] at hq
      simp only [] at hq
      have hwt := wanted_free (o := oi) (plain_spec hp hoi).1 (yielded ops a.tmps)
      have hwt' := wanted_free (o := oi) (plain_spec hp hoi).1 (yielded ops' a.tmps)
      rw [if_pos hwt'] at hq
      unfold wpOpIn
      simp only [hoi]
      rw [if_pos hwt]
      exact wpIn_of_quiet hL (calm_spec hcm hoi) hC (fun a' w' hw' hkq => ih (listed.setIfInBounds i true) a' w' (inv.set hi hlt) (by have := unl_set (listed := listed) (i := i) (by omega) hiun; omega) hw' hkq) hq
theorem wpIn_region_tail_lit (hL : Lets F n P) {id : Nat} {Q : Exit → Act → World → Prop} {a : Act} {w : World} {L : List Oper} (m : Nat) (C : World → Prop) (hn : m < L.length) (hm : P.follows .mixedOrders = true) (hC : C w.drew)
    (hp : plainB .any L.toArray = true) (hcm : calmB L.toArray = true) (hk : (Region.sinkB .any L.toArray m && Region.chainB .any L.toArray m) = true) (hs : Region.seqB .any L.toArray (L.drop m).length m (finAt m L.toArray.size) = true)
    (hB : Region.lexB .any (L.take m ++ (L.drop m).map idle).toArray = true)
    (h : wpQuiet P (L.take m ++ (L.drop m).map idle).toArray C (fun a' => ∀ w', C w' → wpListIn F n P L.toArray Q (L.drop m) a' w') (L.take m ++ (L.drop m).map idle) a) : (Code.region id L.toArray true).wpIn F n P Q a w := by
  have htl : (L.take m).length = m := by simp; omega
  have hsz : (L.take m ++ (L.drop m).map idle).toArray.size = L.toArray.size := by simp; omega
  have hh : ∀ i, i < m → (L.take m ++ (L.drop m).map idle).toArray[i]? = L.toArray[i]? := fun i hi => by
    rw [List.getElem?_toArray, List.getElem?_append_left (by omega), List.getElem?_toArray, List.getElem?_take, if_pos hi]
  have ht : ∀ i o, m ≤ i → L.toArray[i]? = some o → (L.take m ++ (L.drop m).map idle).toArray[i]? = some (idle o) := fun i o hi ho => by
    rw [List.getElem?_toArray] at ho
    rw [List.getElem?_toArray, List.getElem?_append_right (by omega), htl, List.getElem?_map, List.getElem?_drop, show m + (i - m) = i by omega, ho]; rfl
  simp only [Region.lexB, Bool.and_eq_true] at hB
  have inv0 : HeadInv .any L.toArray m (Array.replicate L.toArray.size false) :=
    ⟨by simp, fun j oj _ hl => (by rw [getD_replicate_false] at hl; cases hl), fun t _ ht => getD_in (by simpa using ht) (getD_replicate_false _ _)⟩
  refine wpIn_region_any hm (wpAnyIn_of_idles hL (C := C) (m := m) (Qa := fun a' => ∀ w', C w' → wpListIn F n P L.toArray Q (L.drop m) a' w') hsz hh ht (by simpa using hn) hp hcm hk (fun a w g hw hq => ?_) _ _ _ _ inv0 (unl_none _) hC ?_)
  · have e : L.toArray.size - m = (L.drop m).length := by simp
    rw [e]
    exact wpAnyIn_of_seq_more (L.drop m) m g _ a w (fun j => by rw [List.getElem?_toArray, List.getElem?_drop]) hs (hq w hw)
  · have := wpAnyQ_lex (C := C) (md := .any) hB.1 (L.take m ++ (L.drop m).map idle) 0 (Array.replicate (L.take m ++ (L.drop m).map idle).toArray.size false) a (by simp) (by simpa using hB.2) h
    rw [hsz] at this
    simpa [htl, Nat.add_sub_cancel' (Nat.le_of_lt hn)] using this
end
theorem lets_round (l m : Nat) {P : Program} : Lets (Fence.wide.inRound l) m P := ⟨fun _ => trivial, fun h => (by cases h), fun f args w R h => CallsIn.inRound l (callsIn_wide.2 h)⟩
end Go.Proofs.Ytidengcihakijaa
