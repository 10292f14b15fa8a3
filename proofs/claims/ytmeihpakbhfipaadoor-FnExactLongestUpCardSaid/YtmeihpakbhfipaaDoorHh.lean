/- My texts Pts, Gof, HeldIn, Cli, Llx, HeldTail, Clj, Clk, Gre, Gqs, in one. -/
import Derived.Test.YtmeihpakbhfipaaDoorHg
import Derived.Test.YtmeihpakbhfipaaDoorHc
import Derived.Deep.RegionHeld2
/- points(): the points of a set as a list, ascending. -/
namespace Go.Proofs.YtmeihpakbhfipaaDoor
set_option linter.unusedVariables false
set_option linter.unusedSimpArgs false
open Go Go.RowKit Go.Shelf
theorem make0 (n : Nat) (h : n ≤ 1048576) (w : World) : (Instr.makeSlice 25 (.int .i64 0) (.int .i64 n)).run Tryd.prog w = .ok (.slice (some ⟨w.heap.size, 0, none⟩) 0 n) (w.alloc (.cells (zrow n) 2)) := by
  obtain ⟨i, hi, hz0, hz1, hz2⟩ := info_parts info2
  have := run_make (P := Tryd.prog) w 25 2 i (.int .i64 0) Tryd.underlying25 hi hz0 .i64 .i64 0 n (by omega) (by omega) (by rw [hz2]; omega) (by omega)
  rw [this, hz1]
  simp [zrow, Value.cells]
def RelPo (w : World) (u : List Nat) (v : Value) (wr : World) : Prop := wr.ownsRow w.heap.size 2 1 v (rv u).length (icells (rv u)) ∧ Below w.heap.size w wr
theorem ones_17 {X : Nat} (h : X < 2 ^ 17) : ones X ≤ 17 := by rw [ones_cnt h]; exact cnt_le _ _
set_option maxRecDepth 100000 in
set_option maxHeartbeats 1000000 in
theorem points47 (s : List Nat) (hs : s.Pairwise (· > ·)) (h17 : ∀ q ∈ s, q < 17) (w : World) (hT : Tz w) (h0 : 0 < w.heap.size) :
    Calls Tryd.prog 38 #[.int .u32 (bitS s : Nat)] w fun e w' => ∃ a cap, e = .returned (.slice a s.length cap) ∧ OwnL w' w.heap.size a (rv s) ∧ Below w.heap.size w w' := by
  have hsz := size34 (bitS s) (bitS_lt _ h17)
  have hsl := ones_17 (bitS_lt _ h17)
  rw [ones_bitS s hs] at hsz hsl
  have HZ := hidd hsz
  have hmk := make0 s.length (by omega)
  obtain ⟨X0, hX0⟩ : ∃ X0, X0 = bitS s := ⟨_, rfl⟩
  obtain ⟨t0, hi2, hz0, hz1, hz3⟩ := info_parts info2
  have HIF := hidd (And.intro hi2 (And.intro hz0 (And.intro hz1 hz3)))
  rw [← hX0] at HZ ⊢
  have HX0 := hidd hX0
  have HT := hidd hT
  have HSS := hidd (And.intro hs h17)
  clear hsz hi2 hz0 hz1 hz3 hX0 hT hs h17
  go_enter Tryd.func38, Tryd.ntmps38
  go_wp2_with (go_at_call 57; refine (HZ.out _).mono ?_; rintro e w' ⟨rfl, rfl⟩)
  clear hmk
  go_loopw [3, 4] (fun v r wr => ∃ t u, s = t ++ u ∧ r = .int .u32 (bitS t : Nat) ∧ Hid (RelPo w u v wr)) (fun _ r _ => (intOf r).toNat)
  case atStart =>
    refine ⟨s, [], by simp, by rw [HX0.out], ⟨rfl, .inr ⟨w.heap.size, s.length, zrow s.length, rfl, Nat.le_refl _, ?_, ?_, ?_, ?_, ?_⟩⟩, ((Below.refl _ _).drew).alloc (Nat.le_refl _) _⟩
    · exact Blk.new _ _ _ _ rfl
    · simp [rv]
    · simp [maxLen]; omega
    · simp [zrow_size]
    · simp [rv, icells]
  case round =>
    obtain ⟨t, u, hst, rfl, HR⟩ := hrel
    rcases List.eq_nil_or_concat t with rfl | ⟨t', q, rfl⟩
    · have hx : ((bitS [] : Nat) : Int) = 0 := rfl
      obtain rfl : s = u := hst
      obtain ⟨a, cap, rfl, ho⟩ := own_list HR.out.1
      have K := hidd (And.intro ho HR.out.2)
      rw [hx]
      clear hx ho
      rw [rv_len]
      go_wp2_with fail
      go_ret
      exact ⟨a, cap, rfl, K.out.1, K.out.2⟩
    · rw [List.concat_eq_append] at hst ⊢
      have hbd : ∀ p ∈ t' ++ [q], p < 17 := fun p hp => HSS.out.2 p (by rw [hst]; exact List.mem_append_left _ hp)
      have hpw : ∀ p ∈ t', q < p := by
        have h := HSS.out.1
        rw [hst, List.append_assoc, List.pairwise_append] at h
        exact fun p hp => h.2.2 p hp q (by simp)
      obtain ⟨m, hm, hctz⟩ := low_form hpw hbd
      have hand := low_drop hpw hbd
      have hX17 := bitS_lt _ hbd
      have hX1 : 1 ≤ bitS (t' ++ [q]) := Nat.one_le_iff_ne_zero.2 fun e => by have := bitS_zero.1 e; simp at this
      have hTZ := fun W hW => tz32 (bitS (t' ++ [q])) (by omega) (by omega) W hW
      rw [hctz] at hTZ
      obtain ⟨X, hX⟩ : ∃ X, X = bitS (t' ++ [q]) := ⟨_, rfl⟩
      rw [← hX] at hTZ hX17 hX1 hand ⊢
      have hY : bitS t' ≤ X - 1 := by rw [← hand]; exact Nat.and_le_right
      obtain ⟨Y, hYY⟩ : ∃ Y, Y = bitS t' := ⟨_, rfl⟩
      rw [← hYY] at hand hY
      have hbt : bits .and .u32 (X : Int) ((X : Int) - 1) = (Y : Int) := by
        rw [show (X : Int) - 1 = ((X - 1 : Nat) : Int) by omega, u32_andn X _ (by omega) (by omega), hand]
      have hrv : rv (q :: u) = rv u ++ [(q : Int)] := rv_cons q u
      have HTZ := hidd hTZ
      have HQ := hidd (And.intro hst (And.intro hYY hrv))
      have hlu : (rv u).length ≤ 17 := by rw [rv_len]; have := congrArg List.length hst; simp at this; omega
      clear hm hctz hand hX hTZ hst hYY hrv hbd hpw
      have HTW := hidd (HT.out.below HR.out.2 h0)
      go_wp2_with fail
      refine (HTZ.out _ HTW.out).mono ?_
      rintro e w' ⟨rfl, rfl⟩
      have hown := HR.out.1
      have hsz := HR.out.2.size
      go_wp2_with (at_builtin; refine wpList_append_own _ rfl _ _ 25 rfl w.heap.size 2 t0 (.int .i64 0) 1 8 Tryd.underlying25 HIF.out.1 HIF.out.2.1 HIF.out.2.2.1 HIF.out.2.2.2 rfl (by decide) _ _ _ rfl (hown.alloc _) ⟨wr.heap.size, 0, none⟩ 1 1 [.int .i64 (q : Int)] rfl rfl ?c1 ?c2 ?c3 ?c4 ?c5 ?_)
      case c1 => exact one_new _ _ _
      case c2 => intro u hu; simp at hu; subst hu; rfl
      case c3 => unfold maxLen; omega
      case c4 => omega
      case c5 => simp; omega
      intro v' w2 hown' hgrow _
      have K3 := hidd (show RelPo w (q :: u) v' w2 from ⟨by rw [HQ.out.2.2, icells_app, List.length_append]; exact hown', HR.out.2.trans ((grown_step hown hgrow (by omega)).mono (by omega))⟩)
      clear hown' hgrow hown
      go_wp2
      go_roundw
      case rel => exact ⟨t', q :: u, by rw [HQ.out.1]; simp, by rw [← HQ.out.2.1], K3.out⟩
      case measure => simp [intOf]; omega
end Go.Proofs.YtmeihpakbhfipaaDoor
/- greatestOf: the first of the greatest cliques of a colour. -/
namespace Go.Proofs.YtmeihpakbhfipaaDoor
set_option linter.unusedVariables false
set_option linter.unusedSimpArgs false
open Go Go.RowKit Go.Shelf
attribute [local go_sem] Oper.semAt_some
/-- The greatest clique of a colour, as digits. -/
def grB (N : Nat) (bs : List Nat) (c : Int) : Nat := bitS (gst [] (cqR (fitR (nsF bs c (eseq N))) N [] N))
theorem none0 : ones (bitS []) = ([] : List Nat).length ∧ bitS [] < 2 ^ 17 := by
  have h : bitS [] = 0 := bitS_zero.2 rfl
  exact ⟨ones_bitS [] List.Pairwise.nil, by rw [h]; decide⟩
theorem blk_ne {W : World} {a b : Nat} {C D : Array Value} {t u : TypeId} (h : Blk W a C t) (k : Blk W b D u) (hn : t ≠ u) : a ≠ b := fun e => by
  subst e
  unfold Blk at h k
  rw [h] at k
  injection k with k
  injection k with k1 k2 k3
  exact hn k2
def RelGo {N : Nat} (B : Nat) (w : World) (pre : List (Cl N)) (W : World) : Prop :=
  Blk W (w.heap.size + 1) #[.int .u32 (bitS (gst [] (pre.map Cl.v)) : Nat)] 54 ∧ Below w.heap.size w W ∧ ones (bitS (gst [] (pre.map Cl.v))) = (gst [] (pre.map Cl.v)).length ∧ bitS (gst [] (pre.map Cl.v)) < 2 ^ 17 ∧ B ≤ W.heap.size
end Go.Proofs.YtmeihpakbhfipaaDoor
/- Inside a fence, in a round too: a region that draws its order; what yields in every world that meets S is taken first. -/
namespace Go.Proofs.YtmeihpakbhfipaaDoor
set_option linter.unusedVariables false
set_option linter.unusedSimpArgs false
open Go
section
variable {F : Fence} {n : Nat} {P : Program} {md : Region.Mode} {ops : Array Oper} {Q : Exit → Act → World → Prop} {S : World → Prop}
theorem yieldsIf_wpOpIn (hL : Lets F n P) {i : Nat} {o : Oper} {v : Value} {a : Act} (hi : ops[i]? = some o) (hdf : ∀ c, o.op ≠ .defer c) (hy : YieldsIf P ops S o v a)
    {K : Act → World → Prop} {w : World} (hS : S w) (h : K (a.put o.dst v) w) : wpOpIn F n P ops Q i K a w := by
  unfold Go.wpOpIn
  simp only [hi]
  rcases hy with ⟨hw, hv⟩ | ⟨hw, rfl⟩
  · simp only [hw, if_true, Oper.wpIn]
    rw [Oper.semAt_eq _ _ _ hdf, hv w hS]
    exact ⟨fun f _ => hL.fn f, h⟩
  · simp only [hw, Bool.false_eq_true, if_false]; exact ⟨fun f _ => hL.fn f, h⟩
theorem wpOpIn_putIf (hL : Lets F n P) {j : Nat} {oi oj : Oper} {v : Value} (hj : ops[j]? = some oj) (hdj : ∀ c, oj.op ≠ .defer c) (hap : oi.apart ops oj = true)
    (hsi : ∀ cs b, oi.op ≠ .select cs b) (hsj : ∀ cs b, oj.op ≠ .select cs b)
    (hQ : ∀ c a w, Q (.panic c) (a.put oi.dst v) w → Q (.panic c) a w) {K : Act → World → Prop} {a : Act} {w : World}
    (hy : YieldsIf P ops S oi v a) (h : wpOpIn F n P ops Q j K (a.put oi.dst v) w) :
    wpOpIn F n P ops Q j (fun a' w' => YieldsIf P ops S oi v a' ∧ K (a'.put oi.dst v) w') a w := by
  obtain ⟨h1, h2, h3⟩ := Oper.apart_spec hap
  have keep : ∀ (a : Act), YieldsIf P ops S oi v a → ∀ u, YieldsIf P ops S oi v (a.put oj.dst u) := fun a hy u =>
    hy.of_same (execOp_put oi hsi a oj.dst u h3) (wanted_put oi a oj.dst u h3)
  have keepD : ∀ d, YieldsIf P ops S oi v { a with defers := d :: a.defers } := fun d => hy.of_same rfl rfl
  unfold wpOpIn at *
  simp only [hj] at *
  rw [wanted_put oj a oi.dst v h1, about_put oj w a oi.dst v h1] at h
  split
  · rename_i hw
    simp only [hw, if_true] at h
    unfold Oper.wpIn at *
    rw [about_put oj w a oi.dst v h1] at h
    refine ⟨h.1, ?_⟩
    have h := h.2
    rw [Oper.semAt_eq _ _ _ hdj, execOp_put oj hsj a oi.dst v h1] at h
    rw [Oper.semAt_eq _ _ _ hdj]
    generalize (execOp a.eval oj).run P w = r at *
    cases r with
    | ok x w' =>
      cases x <;> simp only [Oper.uponIn] at h ⊢
      case value u => exact ⟨keep a hy u, by rw [← Act.put_comm a v u h2]; exact h⟩
      case skip => exact ⟨keep a hy _, by rw [← Act.put_comm a v undef h2]; exact h⟩
      case defer d =>
        refine ⟨keep _ (keepD d) _, ?_⟩
        rw [← Act.put_comm _ v undef h2, ← Act.put_defers]
        exact h
      case enter f args =>
        refine ⟨h.1, CallsIn.mono h.2 fun e w'' he => ?_⟩
        cases e with
        | returned u => exact ⟨keep a hy u, by rw [← Act.put_comm a v u h2]; exact he⟩
        | panicked c => exact hQ _ _ _ he
        | outgrown => exact he
      case row row args => exact ⟨h.1, RowsIn.mono h.2 fun u w'' he => ⟨keep a hy u, by rw [← Act.put_comm a v u h2]; exact he⟩⟩
      case round l f tmps assign body =>
        refine ⟨h.1, RoundIn.mono h.2 fun e w'' he => ?_⟩
        cases e with
        | returned u => exact ⟨keep a hy u, by rw [← Act.put_comm a v u h2]; exact he⟩
        | panicked c => exact hQ _ _ _ he
        | outgrown => exact he
    | halt x w' =>
      cases x <;> simp only [Oper.uponIn] at h ⊢
      case panic u => exact hQ _ _ _ h
  · rename_i hw
    simp only [hw] at h
    exact ⟨h.1, keep a hy _, by rw [← Act.put_comm a v undef h2]; exact h.2⟩
def wpAnyHI (F : Fence) (n : Nat) (P : Program) (md : Region.Mode) (ops : Array Oper) (Q : Exit → Act → World → Prop) (S : World → Prop) : Nat → Array Bool → Act → World → Prop
  | 0, listed, a, w => Region.ready md ops listed = [] ∧ Q .normal a w
  | fuel + 1, listed, a, w =>
    (Region.ready md ops listed = [] → Q .normal a w) ∧
    ∀ i ∈ Region.ready md ops listed, wpOpIn F n P ops Q i (fun a' w' => S w' ∧ wpAnyHI F n P md ops Q S fuel (listed.setIfInBounds i true) a' w') a w
theorem wpAnyIn_of_held : ∀ (fuel : Nat) (listed : Array Bool) (a : Act) (w : World), wpAnyHI F n P md ops Q S fuel listed a w → wpAnyIn F n P md ops Q fuel listed a w
  | 0, _, _, _, h => h
  | fuel + 1, _, _, _, h => ⟨h.1, fun i hi => wpOpIn_mono (fun a' w' h' => wpAnyIn_of_held fuel _ a' w' h'.2) (h.2 i hi)⟩
theorem wpAnyHI_first (hL : Lets F n P) (hcm : calmB ops = true) {i : Nat} {oi : Oper} {v : Value} (hi : ops[i]? = some oi) (hsel : ∀ (j : Nat) (o : Oper) cs b, ops[j]? = some o → o.op ≠ .select cs b)
    (hQ : ∀ c a w, Q (.panic c) (a.put oi.dst v) w → Q (.panic c) a w) :
    ∀ (fuel : Nat) (listed : Array Bool) (a : Act) (w : World),
      (∀ j oj, ops[j]? = some oj → j ≠ i → listed.getD j true = false → (∀ e ∈ oj.after, Region.binds md e = true → e.on ≠ i) → oi.apart ops oj = true) →
      i ∈ Region.ready md ops listed → YieldsIf P ops S oi v a → S w →
      wpAnyHI F n P md ops Q S fuel (listed.setIfInBounds i true) (a.put oi.dst v) w → wpAnyHI F n P md ops Q S (fuel + 1) listed a w := by
  intro fuel
  induction fuel with
  | zero =>
    intro listed a w _ hr hy hS H
    refine ⟨fun h => (by rw [h] at hr; cases hr), fun j hj => ?_⟩
    by_cases hji : j = i
    · subst hji; exact yieldsIf_wpOpIn hL hi (calm_spec hcm hi) hy hS ⟨hS, H⟩
    · have := ready_mono hj hji
      rw [H.1] at this
      cases this
  | succ fuel ih =>
    intro listed a w hfree hr hy hS H
    refine ⟨fun h => (by rw [h] at hr; cases hr), fun j hj => ?_⟩
    by_cases hji : j = i
    · subst hji; exact yieldsIf_wpOpIn hL hi (calm_spec hcm hi) hy hS ⟨hS, H⟩
    · have h1 := H.2 j (ready_mono hj hji)
      obtain ⟨hjun, oj, hoj, hall⟩ := mem_ready.1 hj
      have hnot : ∀ e ∈ oj.after, Region.binds md e = true → e.on ≠ i := fun e he hb heq => by
        have h1 := hall e he hb
        have h0 := (mem_ready.1 hr).1
        rw [heq] at h1
        rcases Nat.lt_or_ge i listed.size with h' | h'
        · simp [h'] at h0 h1; rw [h0] at h1; cases h1
        · simp [Array.getElem?_eq_none h'] at h1
      have h2 := wpOpIn_putIf hL hoj (calm_spec hcm hoj) (hfree j oj hoj hji hjun hnot) (fun cs b => hsel i oi cs b hi) (fun cs b => hsel j oj cs b hoj) hQ hy h1
      have hfree' : ∀ k ok, ops[k]? = some ok → k ≠ i → (listed.setIfInBounds j true).getD k true = false →
          (∀ e ∈ ok.after, Region.binds md e = true → e.on ≠ i) → oi.apart ops ok = true := fun k ok hk hki hun hno => by
        refine hfree k ok hk hki ?_ hno
        by_cases hjk : j = k
        · subst hjk; exact hjun
        · rw [getD_set_ne true hjk] at hun; exact hun
      refine wpOpIn_mono (fun a' w' h3 => ⟨h3.2.1, ih (listed.setIfInBounds j true) a' w' hfree' (ready_mono hr (Ne.symm hji)) h3.1 h3.2.1 ?_⟩) h2
      rw [Array.setIfInBounds_comm _ _ hji]
      exact h3.2.2
theorem wpAnyHI_take (hL : Lets F n P) (hcm : calmB ops = true) {i : Nat} {oi : Oper} {v : Value} {fuel : Nat} {listed : Array Bool} {a : Act} {w : World} (hi : ops[i]? = some oi)
    (hs : Region.noSelect ops = true) (hf : Region.free md ops listed i = true) (hr : (Region.ready md ops listed).contains i = true)
    (hQ : ∀ c a w, Q (.panic c) (a.put oi.dst v) w → Q (.panic c) a w) (hy : YieldsIf P ops S oi v a) (hS : S w)
    (h : wpAnyHI F n P md ops Q S fuel (listed.setIfInBounds i true) (a.put oi.dst v) w) : wpAnyHI F n P md ops Q S (fuel + 1) listed a w :=
  wpAnyHI_first hL hcm hi (Region.noSelect_spec hs) hQ fuel listed a w (Region.free_spec hi hf) (by simpa using hr) hy hS h
def AllReadyHI (F : Fence) (n : Nat) (P : Program) (md : Region.Mode) (ops : Array Oper) (Q : Exit → Act → World → Prop) (S : World → Prop) (fuel : Nat) (listed : Array Bool) (a : Act) (w : World) (rs : List Nat) : Prop :=
  ∀ i ∈ rs, wpOpIn F n P ops Q i (fun a' w' => S w' ∧ wpAnyHI F n P md ops Q S fuel (listed.setIfInBounds i true) a' w') a w
theorem AllReadyHI.nil {fuel : Nat} {listed : Array Bool} {a : Act} {w : World} : AllReadyHI F n P md ops Q S fuel listed a w [] := fun _ h => by cases h
theorem AllReadyHI.cons {fuel : Nat} {listed : Array Bool} {a : Act} {w : World} {i : Nat} {o : Oper} {rs : List Nat} (ho : ops[i]? = some o)
    (h : ∀ K' : Act → World → Prop, Shut (∀ a w, S w → (S w → wpAnyHI F n P md ops Q S fuel (listed.setIfInBounds i true) a w) → K' a w) → if Region.wanted o (yielded ops a.tmps) = true then Oper.wpIn F n P o a w K' Q else (∀ f, o.about P w a.eval = some f → F.fn f) ∧ K' (a.put o.dst undef) w)
    (hs : AllReadyHI F n P md ops Q S fuel listed a w rs) : AllReadyHI F n P md ops Q S fuel listed a w (i :: rs) := fun j hj => by
  rcases List.mem_cons.1 hj with rfl | hj
  · exact wpOpIn_step ho (fun K' hK => h K' (fun a w hS hW => hK a w ⟨hS, hW hS⟩))
  · exact hs j hj
theorem wpAnyHI_ready {rs : List Nat} {fuel : Nat} {listed : Array Bool} {a : Act} {w : World} (hr : Region.ready md ops listed = rs) (hne : rs ≠ [])
    (h : AllReadyHI F n P md ops Q S fuel listed a w rs) : wpAnyHI F n P md ops Q S (fuel + 1) listed a w := ⟨fun h0 => absurd (hr ▸ h0) hne, hr ▸ h⟩
theorem wpAnyHI_done {listed : Array Bool} {a : Act} {w : World} (hr : Region.ready md ops listed = []) (h : Q .normal a w) :
    ∀ fuel, wpAnyHI F n P md ops Q S fuel listed a w
  | 0 => ⟨hr, h⟩
  | _ + 1 => ⟨fun _ => h, by rw [hr]; simp⟩
theorem wpIn_region_held_drew {id : Nat} {a : Act} {w : World} (hm : P.follows .mixedOrders = true) (hS : S w.drew)
    (h : S w.drew → wpAnyHI F n P .any ops Q S ops.size (Array.replicate ops.size false) a w.drew) : (Code.region id ops true).wpIn F n P Q a w :=
  wpIn_region_any hm (wpAnyIn_of_held _ _ _ _ (h hS))
end
end Go.Proofs.YtmeihpakbhfipaaDoor
/- CliqueList: the program. -/
namespace Go.Proofs.YtmeihpakbhfipaaDoor
set_option linter.unusedVariables false
set_option linter.unusedSimpArgs false
open Go Go.RowKit Go.Shelf
attribute [local go_sem] Oper.semAt_some
/-- The call's first blocks. -/
def Cl4 (C : Array Value) (m : Int) (w W : World) : Prop :=
  Blk W w.heap.size C 28 ∧ Blk W (w.heap.size + 1) #[.int .i64 m] 2 ∧ Blk W (w.heap.size + 1 + 1) #[.slice none 0 0] 40 ∧ Blk W (w.heap.size + 1 + 1 + 1) #[.int .i64 0] 2 ∧ Below w.heap.size w W
theorem cl4_start (C : Array Value) (m : Int) (w : World) : Cl4 C m w ((((w.alloc (Obj.cells C 28)).alloc (Obj.cells #[.int .i64 m] 2)).alloc (Obj.cells #[.slice none 0 0] 40)).alloc (Obj.cells #[.int .i64 0] 2)) :=
  ⟨(((Blk.new _ _ _ _ rfl).alloc _).alloc _).alloc _, ((Blk.new _ _ _ _ (by simp)).alloc _).alloc _, (Blk.new _ _ _ _ (by simp)).alloc _, Blk.new _ _ _ _ (by simp),
    ((((Below.refl _ _).alloc (Nat.le_refl _) _).alloc (by simp) _).alloc (by simp; omega) _).alloc (by simp; omega) _⟩
theorem Cl4.below {C : Array Value} {m : Int} {w W W' : World} (h : Cl4 C m w W) (hb : Below W.heap.size W W') : Cl4 C m w W' :=
  ⟨h.1.below hb h.1.lt, h.2.1.below hb h.2.1.lt, h.2.2.1.below hb h.2.2.1.lt, h.2.2.2.1.below hb h.2.2.2.1.lt, h.2.2.2.2.trans (hb.mono h.2.2.2.2.size)⟩
theorem results_cells2 {P : Program} {fn : Func} {p q : Tmp} {ty ty2 : TypeId} (h : fn.results = #[.cell p ty, .cell q ty2]) (tmps : Array Value) (w : World) (g1 g2 : Nat) (v1 v2 : Value)
    (hp : tmps.getD p undef = .pointer (some ⟨g1, 0, none⟩)) (hq : tmps.getD q undef = .pointer (some ⟨g2, 0, none⟩)) (hl1 : (loadVar ty ⟨g1, 0, none⟩).run P w = .ok v1 w) (hl2 : (loadVar ty2 ⟨g2, 0, none⟩).run P w = .ok v2 w) :
    (results fn tmps).run P w = .ok (.tuple #[v1, v2]) w := by
  have hp' : tmps[p]?.getD undef = .pointer (some ⟨g1, 0, none⟩) := by simpa using hp
  have hq' : tmps[q]?.getD undef = .pointer (some ⟨g2, 0, none⟩) := by simpa using hq
  simp [results, h, hp', hq', asAddr, hl1, hl2]
theorem load37 {w : World} {g : Nat} {v : Value} (h : w.cell? ⟨g, 0, none⟩ = some v) : (loadVar 40 ⟨g, 0, none⟩).run Tryd.prog w = .ok v w := by
  go_simp
theorem load2 {w : World} {g : Nat} {v : Value} (h : w.cell? ⟨g, 0, none⟩ = some v) : (loadVar 2 ⟨g, 0, none⟩).run Tryd.prog w = .ok v w := by
  go_simp
/-- Both results stored. -/
theorem cl4_stores {C : Array Value} {m : Int} {w W : World} (h : Cl4 C m w W) (v : Value) (cd : Int) :
    Blk ((W.setCell ⟨w.heap.size + 1 + 1, 0, none⟩ v).setCell ⟨w.heap.size + 1 + 1 + 1, 0, none⟩ (.int .i64 cd)) (w.heap.size + 1 + 1) #[v] 40 ∧
    Blk ((W.setCell ⟨w.heap.size + 1 + 1, 0, none⟩ v).setCell ⟨w.heap.size + 1 + 1 + 1, 0, none⟩ (.int .i64 cd)) (w.heap.size + 1 + 1 + 1) #[.int .i64 cd] 2 ∧
    Below w.heap.size w ((W.setCell ⟨w.heap.size + 1 + 1, 0, none⟩ v).setCell ⟨w.heap.size + 1 + 1 + 1, 0, none⟩ (.int .i64 cd)) :=
  ⟨(h.2.2.1.same 0 _).other _ _ (by show w.heap.size + 1 + 1 ≠ w.heap.size + 1 + 1 + 1; omega), (h.2.2.2.1.other _ _ (by show w.heap.size + 1 + 1 + 1 ≠ w.heap.size + 1 + 1; omega)).same 0 _,
    (h.2.2.2.2.setCell (by show w.heap.size ≤ w.heap.size + 1 + 1; omega) _).setCell (by show w.heap.size ≤ w.heap.size + 1 + 1 + 1; omega) _⟩
end Go.Proofs.YtmeihpakbhfipaaDoor
/- What stays of a list of lists and of a call's blocks when cells elsewhere are written. -/
namespace Go.Proofs.YtmeihpakbhfipaaDoor
set_option linter.unusedVariables false
set_option linter.unusedSimpArgs false
open Go Go.RowKit Go.Shelf
theorem ownL_set {W : World} {B : Nat} {a : Option Addr} {zs : List Int} (h : OwnL W B a zs) (p : Addr) (u : Value) (hp : p.block < B) : OwnL (W.setCell p u) B a zs := by
  rcases h with h | ⟨g, C, h1, h2, h3, h4⟩
  · exact .inl h
  · exact .inr ⟨g, C, h1, h2, h3.other p u (by omega), h4⟩
theorem LLW.set {W : World} {B : Nat} {v : Value} {L : List (List Int)} (h : LLW W B v L) (p : Addr) (u : Value) (hp : p.block < B) : LLW (W.setCell p u) B v L := by
  obtain ⟨A, ⟨hl, h1⟩, h2, h3⟩ := h
  refine ⟨A, ⟨hl, ?_⟩, fun j hj => ownL_set (h2 j hj) p u hp, h3⟩
  rcases h1 with h1 | ⟨g, cap, cur, hv, hg, hc, r⟩
  · exact .inl h1
  · exact .inr ⟨g, cap, cur, hv, hg, (heap_setCell_other W p g u (by omega)).trans hc, r⟩
theorem Cl4.belowB {C : Array Value} {m : Int} {w W W' : World} (h : Cl4 C m w W) {B : Nat} (hb : Below B W W') (hB : w.heap.size + 1 + 1 + 1 < B) : Cl4 C m w W' :=
  ⟨h.1.below hb (by omega), h.2.1.below hb (by omega), h.2.2.1.below hb (by omega), h.2.2.2.1.below hb hB, h.2.2.2.2.trans (hb.mono (by omega))⟩
theorem Cl4.set {C : Array Value} {m : Int} {w W : World} (h : Cl4 C m w W) (p : Addr) (u : Value) (hp : w.heap.size + 1 + 1 + 1 < p.block) : Cl4 C m w (W.setCell p u) :=
  ⟨h.1.other p u (by omega), h.2.1.other p u (by omega), h.2.2.1.other p u (by omega), h.2.2.2.1.other p u (by omega), h.2.2.2.2.setCell (by omega) u⟩
theorem keeps_grown {W W' : World} {B b : Nat} {e : TypeId} {size : Nat} {v : Value} {n : Nat} {xs : List Value} (hown : W.ownsRow b e size v n xs) (hg : W.grownBy W' v.ownBlock) : KeepsFrom B W W' := by
  refine ⟨hg.size, fun k o _ hk hc => (hg.block k (Array.getElem?_eq_some_iff.1 hk).1 (fun he => ?_)).trans hk⟩
  rcases hown.2 with ⟨h1, _⟩ | ⟨g, cap, cur, hv, _, hcur, _⟩
  · rw [h1] at he; cases he
  · rw [hv] at he
    cases he
    rw [hcur] at hk
    cases hk; cases hc
end Go.Proofs.YtmeihpakbhfipaaDoor
/- Inside a fence, in a round too: a region that draws its order: a head whose reads are taken first (HeldIn), a tail that waits for it. -/
namespace Go.Proofs.YtmeihpakbhfipaaDoor
set_option linter.unusedVariables false
set_option linter.unusedSimpArgs false
open Go
section
variable {F : Fence} {n : Nat} {P : Program} {md : Region.Mode} {ops ops' : Array Oper} {S : World → Prop}
/-- What is asked behind the head; an end other than the normal one is as it was. -/
def endQ (Qt : Act → World → Prop) (Q : Exit → Act → World → Prop) (e : Exit) (a : Act) (w : World) : Prop :=
  match e with
  | .normal => Qt a w
  | e => Q e a w
theorem letsOut_endQ {Qt : Act → World → Prop} {Q : Exit → Act → World → Prop} (h : LetsOut (endQ Qt Q)) : LetsOut Q := h
theorem wpIn_endQ {o : Oper} {a : Act} {K K' : Act → World → Prop} {Qt : Act → World → Prop} {Q : Exit → Act → World → Prop} {w : World} (hK : ∀ a w, K a w → K' a w) (h : o.wpIn F n P a w K (endQ Qt Q)) : o.wpIn F n P a w K' Q := by
  unfold Oper.wpIn at *
  refine ⟨h.1, ?_⟩
  have hh := h.2
  generalize (o.semAt F.round a.eval).run P w = r at *
  cases r with
  | ok x w' =>
    cases x <;> simp only [Oper.uponIn] at hh ⊢
    case value u => exact hK _ _ hh
    case skip => exact hK _ _ hh
    case defer d => exact hK _ _ hh
    case enter f args =>
      refine ⟨hh.1, CallsIn.mono hh.2 fun e w'' he => ?_⟩
      cases e with
      | returned u => exact hK _ _ he
      | panicked c => exact he
      | outgrown => exact letsOut_endQ he
    case row row args => exact ⟨hh.1, RowsIn.mono hh.2 fun u w'' he => hK _ _ he⟩
    case round l f tmps assign body =>
      refine ⟨hh.1, RoundIn.mono hh.2 fun e w'' he => ?_⟩
      cases e with
      | returned u => exact hK _ _ he
      | panicked c => exact he
      | outgrown => exact letsOut_endQ he
  | halt x w' =>
    cases x <;> simp only [Oper.uponIn] at hh ⊢
    case panic u => exact hh
theorem qt_of_tail {m : Nat} {Qt : Act → World → Prop} {Q : Exit → Act → World → Prop} (hsz : ops'.size = ops.size) (hh : ∀ i, i < m → ops'[i]? = ops[i]?) (ht : ∀ i o, m ≤ i → ops[i]? = some o → ops'[i]? = some (idle o)) (hp : plainB md ops = true) :
    ∀ (fuel : Nat) (listed : Array Bool) (a : Act) (w : World), listed.size = ops.size → (∀ i, i < m → listed.getD i true = true) → wpAnyHI F n P md ops' (endQ Qt Q) S fuel listed a w → Qt a w
  | 0, _, _, _, _, _, h => h.2
  | fuel + 1, listed, a, w, hs, hd, h => by
    cases hr : Region.ready md ops' listed with
    | nil => exact h.1 hr
    | cons i r =>
      have hi : i ∈ Region.ready md ops' listed := by rw [hr]; exact List.mem_cons_self
      have hi2 := hi
      rw [ready_idles hsz hh ht] at hi2
      obtain ⟨hun, o, ho, _⟩ := mem_ready.1 hi2
      have him : m ≤ i := Nat.le_of_not_lt fun hlt => by rw [hd i hlt] at hun; cases hun
      have hq := h.2 i hi
      unfold wpOpIn at hq
      rw [ht i o him ho] at hq
      simp only [] at hq
      rw [if_pos (wanted_free (o := idle o) (plain_spec hp ho).1 _)] at hq
      have h2 := hq.2
      rw [Oper.semAt_eq _ _ _ (fun c e => by cases e)] at h2
      have h4 : wpAnyHI F n P md ops' (endQ Qt Q) S fuel (listed.setIfInBounds i true) a w := h2.2
      exact qt_of_tail hsz hh ht hp fuel _ a w (by rw [Array.size_setIfInBounds]; exact hs) (fun j hj => by rw [getD_set_ne true (by omega)]; exact hd j hj) h4
theorem wpAnyIn_of_idlesH {m : Nat} {Qt : Act → World → Prop} {Q' : Exit → Act → World → Prop} (hsz : ops'.size = ops.size) (hh : ∀ i, i < m → ops'[i]? = ops[i]?) (ht : ∀ i o, m ≤ i → ops[i]? = some o → ops'[i]? = some (idle o))
    (hmlt : m < ops.size) (hp : plainB md ops = true) (hk : (Region.sinkB md ops m && Region.chainB md ops m) = true)
    (hQ : ∀ a w g, Qt a w → wpAnyIn F n P md ops Q' (ops.size - m + g) (finAt m ops.size) a w) :
    ∀ (fuel : Nat) (listed : Array Bool) (a : Act) (w : World), HeadInv md ops m listed → unl listed ≤ fuel →
      wpAnyHI F n P md ops' (endQ Qt Q') S fuel listed a w → wpAnyIn F n P md ops Q' fuel listed a w := by
  have hkk := hk
  rw [Bool.and_eq_true] at hkk
  intro fuel
  induction fuel with
  | zero =>
    intro listed a w inv hu h
    have hs := inv.size
    have hun := inv.tail m (Nat.le_refl _) hmlt
    have := h.1
    rw [ready_idles hsz hh ht] at this
    exact absurd this (some_ready hp hs m hmlt hun)
  | succ fuel ih =>
    intro listed a w inv hu h
    have hs := inv.size
    have hun := inv.tail m (Nat.le_refl _) hmlt
    by_cases hmr : m ∈ Region.ready md ops listed
    · have hd : ∀ i, i < m → listed.getD i true = true := fun i hi => by
        cases hx : listed.getD i true with
        | true => rfl
        | false => exact absurd hmr (tail_waits hkk.1 hkk.2 hmlt inv _ i rfl hi hx m (Nat.le_refl _))
      have hqa := qt_of_tail hsz hh ht hp (fuel + 1) listed a w hs hd h
      have hf := fin_of (Nat.le_of_lt hmlt) inv hd
      rw [hf] at hu ⊢
      rw [unl_fin m ops.size (Nat.le_of_lt hmlt)] at hu
      have := hQ a w (fuel + 1 - (ops.size - m)) hqa
      rw [show ops.size - m + (fuel + 1 - (ops.size - m)) = fuel + 1 by omega] at this
      exact this
    · refine ⟨fun h0 => absurd h0 (some_ready hp hs m hmlt hun), fun i hi => ?_⟩
      have hq := h.2 i (by rw [ready_idles hsz hh ht]; exact hi)
      obtain ⟨hiun, oi, hoi, hall⟩ := mem_ready.1 hi
      have his : i < ops.size := (Array.getElem?_eq_some_iff.1 hoi).1
      have hlt : i < m := by
        refine Nat.lt_of_not_le fun him => ?_
        by_cases e : i = m
        · subst e; exact hmr hi
        · have h1 := List.all_eq_true.1 hkk.2 i (List.mem_range.2 his)
          simp only [Bool.or_eq_true, decide_eq_true_eq] at h1
          rcases h1 with h1 | h1
          · omega
          · obtain ⟨o', ho', e', he', hb', hon'⟩ := Region.waitsFor_spec h1
            have : o' = oi := Option.some.inj (ho'.symm.trans hoi)
            subst this
            have h2 := hall e' he' hb'
            rw [hon', getD_both (inv.tail (i - 1) (by omega) (by omega))] at h2
            cases h2
      unfold wpOpIn at hq ⊢
      rw [hh i hlt, hoi] at hq
      simp only [hoi] at hq ⊢
      rw [if_pos (wanted_free (plain_spec hp hoi).1 _)] at hq ⊢
      exact wpIn_endQ (fun a' w' hkq => ih (listed.setIfInBounds i true) a' w' (inv.set hi hlt) (by have := unl_set (listed := listed) (i := i) (by omega) hiun; omega) hkq.2) hq
/-- The head: m operations, S kept; then the tail, in the text's order. -/
theorem wpIn_region_heldtail {id : Nat} {Q : Exit → Act → World → Prop} {a : Act} {w : World} {L : List Oper} (m : Nat) (S : World → Prop) (hn : m < L.length) (hm : P.follows .mixedOrders = true)
    (hp : plainB .any L.toArray = true) (hk : (Region.sinkB .any L.toArray m && Region.chainB .any L.toArray m) = true) (hs : Region.seqB .any L.toArray (L.drop m).length m (finAt m L.toArray.size) = true)
    (hS : S w.drew)
    (h : S w.drew → wpAnyHI F n P .any (L.take m ++ (L.drop m).map idle).toArray (endQ (fun a' w' => wpListIn F n P L.toArray Q (L.drop m) a' w') Q) S L.toArray.size (Array.replicate L.toArray.size false) a w.drew) : (Code.region id L.toArray true).wpIn F n P Q a w := by
  have htl : (L.take m).length = m := by simp; omega
  have hsz : (L.take m ++ (L.drop m).map idle).toArray.size = L.toArray.size := by simp; omega
  have hh : ∀ i, i < m → (L.take m ++ (L.drop m).map idle).toArray[i]? = L.toArray[i]? := fun i hi => by
    rw [List.getElem?_toArray, List.getElem?_append_left (by omega), List.getElem?_toArray, List.getElem?_take, if_pos hi]
  have ht : ∀ i o, m ≤ i → L.toArray[i]? = some o → (L.take m ++ (L.drop m).map idle).toArray[i]? = some (idle o) := fun i o hi ho => by
    rw [List.getElem?_toArray] at ho
    rw [List.getElem?_toArray, List.getElem?_append_right (by omega), htl, List.getElem?_map, List.getElem?_drop, show m + (i - m) = i by omega, ho]; rfl
  have inv0 : HeadInv .any L.toArray m (Array.replicate L.toArray.size false) :=
    ⟨by simp, fun j oj _ hl => (by rw [getD_replicate_false] at hl; cases hl), fun t _ ht => getD_in (by simpa using ht) (getD_replicate_false _ _)⟩
  refine wpIn_region_any hm (wpAnyIn_of_idlesH (S := S) (m := m) (Qt := fun a' w' => wpListIn F n P L.toArray Q (L.drop m) a' w') hsz hh ht (by simpa using hn) hp hk (fun a w g hq => ?_) _ _ _ _ inv0 (unl_none _) (h hS))
  have e : L.toArray.size - m = (L.drop m).length := by simp
  rw [e]
  exact wpAnyIn_of_seq_more (L.drop m) m g _ a w (fun j => by rw [List.getElem?_toArray, List.getElem?_drop]) hs hq
end
end Go.Proofs.YtmeihpakbhfipaaDoor
/- CliqueList: the program's loop over the cliques. -/
namespace Go.Proofs.YtmeihpakbhfipaaDoor
set_option linter.unusedVariables false
set_option linter.unusedSimpArgs false
open Go Go.RowKit Go.Shelf
attribute [local go_sem] Oper.semAt_some
def RelCl {N : Nat} (C : Array Value) (m : Nat) (w : World) (b8 B : Nat) (pre : List (Cl N)) (W : World) : Prop :=
  Cl4 C (m : Int) w W ∧ (∃ v, Blk W b8 #[v] 40 ∧ LLW W B v (flS m pre)) ∧ (flS m pre).length ≤ 200 ∧ B ≤ W.heap.size
def RelCx {N : Nat} (m : Nat) (w : World) (c : Code) (pre : List (Cl N)) (W : World) : Prop :=
  c = .ret ∧ Below w.heap.size w W ∧ 200 < (flS m pre).length ∧ Blk W (w.heap.size + 1 + 1) #[.slice none 0 0] 40 ∧ Blk W (w.heap.size + 1 + 1 + 1) #[.int .i64 3] 2
theorem cl4_own {C : Array Value} {m : Int} {w W W' : World} {B : Nat} {row : Option Nat} (h : Cl4 C m w W) (hB : w.heap.size ≤ B) (hg : W.grownBy W' row) (hr : ∀ r, row = some r → B ≤ r ∧ ∃ o : Obj, W.heap[r]? = some o ∧ o.isCells = false) : Cl4 C m w W' :=
  ⟨blk_own h.1 hg hr, blk_own h.2.1 hg hr, blk_own h.2.2.1 hg hr, blk_own h.2.2.2.1 hg hr, ownFrom_below (β := Unit) (Nat.le_refl _) hB () W W' row h.2.2.2.2 hg hr⟩
end Go.Proofs.YtmeihpakbhfipaaDoor
/- CliqueList: the program, every argument. -/
namespace Go.Proofs.YtmeihpakbhfipaaDoor
set_option linter.unusedVariables false
set_option linter.unusedSimpArgs false
open Go Go.RowKit Go.Shelf
end Go.Proofs.YtmeihpakbhfipaaDoor
/- CliqueNumbers: the model's text. -/
namespace Go.Proofs.YtmeihpakbhfipaaDoor
set_option linter.unusedVariables false
set_option linter.unusedSimpArgs false
open Go Go.RowKit Go.Shelf
theorem ll_one {w : World} {v : Value} {z : List Int} (h : LL w v [z]) : ∃ g cap, v = .slice (some ⟨g, 0, none⟩) 1 cap ∧ ∃ a c, w.cell? ⟨g, 0, none⟩ = some (.slice a z.length c) := by
  obtain ⟨xs, ⟨hxl, h1⟩, h2⟩ := h
  obtain ⟨a, c, hx, _⟩ := h2 0 z rfl
  rcases h1 with h1 | ⟨g, cap, cur, hv, hg, hc, hle, hmx, hsz, htk⟩
  · simp at h1
  · refine ⟨g, cap, hv, a, c, ?_⟩
    have hb : Blk w g cur 25 := hc
    refine hb.cell ?_
    rw [← htk, List.getElem?_take_of_lt (by simp)] at hx
    simpa using hx
def sliLen : Value → Nat
  | .slice _ n _ => n
  | _ => 0
def RelCn (N : Nat) (bs : List Nat) (C : Array Value) (w : World) (g d : Nat) (v : Value) (wr : World) : Prop :=
  Blk wr w.heap.size C 28 ∧ wr.ownsRow g 2 1 v (fillA (cnF N bs) d).length (icells (fillA (cnF N bs) d)) ∧ Below w.heap.size w wr ∧ w.heap.size < g
end Go.Proofs.YtmeihpakbhfipaaDoor
/- GreatestClique: its model. -/
namespace Go.Proofs.YtmeihpakbhfipaaDoor
set_option linter.unusedVariables false
set_option linter.unusedSimpArgs false
open Go Go.RowKit Go.Shelf
/-- A list and a code; the list need not be new. -/
def LOut0 (w : World) (zs : List Int) (code : Int) (e : Ending) (w' : World) : Prop :=
  ∃ a cap, e = .returned (.tuple #[.slice a zs.length cap, .int .i64 code]) ∧ OwnL w' 0 a zs ∧ Below w.heap.size w w'
theorem ll_first {w : World} {v : Value} {z : List Int} (h : LL w v [z]) : ∃ g cap, v = .slice (some ⟨g, 0, none⟩) 1 cap ∧ ∃ a c, w.cell? ⟨g, 0, none⟩ = some (.slice a z.length c) ∧ OwnL w 0 a z := by
  obtain ⟨xs, ⟨hxl, h1⟩, h2⟩ := h
  obtain ⟨a, c, hx, ho⟩ := h2 0 z rfl
  rcases h1 with h1 | ⟨g, cap, cur, hv, hg, hc, hle, hmx, hsz, htk⟩
  · simp at h1
  · refine ⟨g, cap, hv, a, c, ?_, ho⟩
    have hb : Blk w g cur 25 := hc
    refine hb.cell ?_
    rw [← htk, List.getElem?_take_of_lt (by simp)] at hx
    simpa using hx
/-- The greatest clique as a list. -/
def gcL (N : Nat) (bs : List Nat) (c : Int) : List Int := rv (gcS N bs c)
theorem gcL_len (N : Nat) (bs : List Nat) (c : Int) : (gcL N bs c).length = gsz N bs c := by unfold gcL; rw [rv_len, gcS_len]
theorem sl_none (w : World) : SlI w none [] := .inl rfl
end Go.Proofs.YtmeihpakbhfipaaDoor
