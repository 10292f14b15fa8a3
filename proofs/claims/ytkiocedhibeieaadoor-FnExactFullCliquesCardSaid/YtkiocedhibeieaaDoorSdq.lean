/- Sides of a colour: the round in the model, numbers only. -/
import Derived.Test.YtkiocedhibeieaaDoorSdm
import Derived.Test.YtkiocedhibeieaaDoorCpr
namespace Go.Proofs.YtkiocedhibeieaaDoor
set_option linter.unusedVariables false
set_option linter.unusedSimpArgs false
open Go Go.RowKit Go.Shelf
/-- A list by its places. -/
def fl (N : Nat) (f : Nat → Int) : List Int := (List.range N).map f
theorem fl_len (N : Nat) (f : Nat → Int) : (fl N f).length = N := by simp [fl]
theorem fl_get {N q : Nat} (f : Nat → Int) (h : q < N) : (fl N f).getD q 0 = f q := by simp [fl, List.getD, h]
theorem fl_congr {N : Nat} {f g : Nat → Int} (h : ∀ q, q < N → f q = g q) : fl N f = fl N g := List.map_congr_left fun q hq => h q (List.mem_range.1 hq)
theorem fl_set {N p : Nat} (f g : Nat → Int) (v : Int) (hp : g p = v) (h : ∀ q, q < N → q ≠ p → g q = f q) : (fl N f).set p v = fl N g := by
  apply List.ext_getElem
  · simp [fl]
  · intro q h1 h2
    have hq : q < N := by simpa [fl] using h2
    rw [List.getElem_set]
    by_cases e : p = q
    · subst e; rw [if_pos rfl]; simp [fl, hp]
    · rw [if_neg e]; simp [fl, h q hq (fun e' => e e'.symm)]
def upd (o : Nat → Int) (u : Nat) (v : Int) (q : Nat) : Int := if q = u then v else o q
theorem upd_at (o : Nat → Int) (u : Nat) (v : Int) : upd o u v u = v := if_pos rfl
theorem upd_ne (o : Nat → Int) {u q : Nat} (v : Int) (h : q ≠ u) : upd o u v q = o q := if_neg h
theorem fl_upd (N : Nat) (o : Nat → Int) (u : Nat) (v : Int) : (fl N o).set u v = fl N (upd o u v) := fl_set o _ v (upd_at _ _ _) fun q _ h => upd_ne _ _ h
theorem nsF_nbrs (bs : List Nat) (c : Int) {N : Nat} (hN : N ≤ 17) : Nbrs N (nsF bs c (eseq N)) := by
  refine ⟨hN, fun p => ?_, fun p q hp hq h => ?_⟩
  · by_cases hp : p < N
    · rw [nsF_rw bs c hp hN]; exact arK_lt _ _
    · rw [nsF_hi bs c (q := 0) (by omega) hN]; exact Nat.two_pow_pos N
  · rw [nsF_sym bs c _ hN p q hp hq]; exact h
def sd1 (f : Nat → Bool) (q : Nat) : Int := if f q = true then 1 else 0
theorem sd1_01 (f : Nat → Bool) (q : Nat) : sd1 f q = 0 ∨ sd1 f q = 1 := by unfold sd1; split <;> simp
theorem sd1_ne {f : Nat → Bool} {p q : Nat} (h : f p ≠ f q) : sd1 f q = 1 - sd1 f p := by
  unfold sd1
  revert h
  cases f p <;> cases f q <;> simp
theorem Nbrs.lst_same {N : Nat} {F : Nat → Nat} (h : Nbrs N F) {v y : Nat} (hv : v < N) (hy : (cmC F N v).testBit y = true) : Go.Proofs.YtkiocedhibeieaaDoor.lst F N y = Go.Proofs.YtkiocedhibeieaaDoor.lst F N v := by
  unfold Go.Proofs.YtkiocedhibeieaaDoor.lst
  rw [h.same hv hy]
theorem Nbrs.lst_le {N : Nat} {F : Nat → Nat} (h : Nbrs N F) {p : Nat} (hp : p < N) : Go.Proofs.YtkiocedhibeieaaDoor.lst F N p ≤ p := by
  have h17 : cmC F N p < 2 ^ 17 := Nat.lt_of_lt_of_le (cmC_lt h.lt hp) (Nat.pow_le_pow_right (by omega) h.top)
  have h0 : cmC F N p ≠ 0 := by
    intro e
    have := cmC_own (F := F) (N := N) (v := p)
    rw [e] at this
    simp at this
  have h1 := (lo_bit h0 h17).2.1 p
  unfold Go.Proofs.YtkiocedhibeieaaDoor.lst
  by_cases hlt : p < Lib.ctz 32 (cmC F N p)
  · have := h1 hlt
    rw [cmC_own] at this
    cases this
  · omega
/-- What holds of the sides that are told so far. -/
structure Osb (N : Nat) (F : Nat → Nat) (o : Nat → Int) : Prop where
  val : ∀ q, q < N → o q = -1 ∨ o q = 0 ∨ o q = 1
  agree : ∀ f, Sds N F f → ∀ q, q < N → o q ≠ -1 → o q = sd1 f q
  least : ∀ q, q < N → o q ≠ -1 → o (lst F N q) = 0
/-- What holds before the round of point p. -/
structure Osd (N : Nat) (F : Nat → Nat) (p : Nat) (o : Nat → Int) : Prop where
  b : Osb N F o
  old : ∀ q, q < p → q < N → o q ≠ -1
  closed : ∀ q u, q < N → u < N → o q ≠ -1 → (F q).testBit u = true → o u ≠ -1 ∧ o u ≠ o q
/-- What holds in the queue of point s, at place i of it. -/
structure Qsd (N : Nat) (F : Nat → Nat) (s i : Nat) (o : Nat → Int) (L : List Nat) : Prop where
  b : Osb N F o
  old : ∀ q, q < s + 1 → q < N → o q ≠ -1
  mem : ∀ u, u ∈ L → u < N ∧ o u ≠ -1 ∧ (cmC F N s).testBit u = true
  nod : L.Nodup
  done : ∀ q, q < N → o q ≠ -1 → q ∈ L.drop i ∨ ∀ u, u < N → (F q).testBit u = true → o u ≠ -1 ∧ o u ≠ o q
/-- What holds of the neighbours before j of the point v. -/
def Prt (F : Nat → Nat) (v j : Nat) (o : Nat → Int) : Prop := ∀ u, u < j → (F v).testBit u = true → o u ≠ -1 ∧ o u ≠ o v
theorem osd_start (N : Nat) (F : Nat → Nat) : Osd N F 0 (fun _ => -1) :=
  ⟨⟨fun _ _ => .inl rfl, fun _ _ _ _ h => absurd rfl h, fun _ _ h => absurd rfl h⟩, fun q h => absurd h (by omega), fun _ _ _ _ h => absurd rfl h⟩
theorem Osd.skip {N : Nat} {F : Nat → Nat} {p : Nat} {o : Nat → Int} (h : Osd N F p o) (hp : o p ≠ -1) : Osd N F (p + 1) o :=
  ⟨h.b, fun q hq hN => by
    by_cases e : q = p
    · subst e; exact hp
    · exact h.old q (by omega) hN, h.closed⟩
theorem Osd.least {N : Nat} {F : Nat → Nat} (hF : Nbrs N F) {p : Nat} {o : Nat → Int} (h : Osd N F p o) (hp : p < N) (e : o p = -1) : lst F N p = p := by
  have h1 := hF.lst_le hp
  obtain ⟨h2, h3⟩ := hF.lst hp
  by_cases hlt : lst F N p < p
  · exfalso
    have h4 := hF.symm hp h2
    have h5 := cmC_ind (F := F) (M := N) (v := lst F N p) (P := fun z => z < N ∧ o z ≠ -1) ⟨h3, h.old _ hlt h3⟩ (fun a u ha hu => ?_) p h4
    · exact h5.2 e
    · have hu' : u < N := bit_lt (hF.lt a) hu
      exact ⟨hu', (h.closed a u ha.1 hu' ha.2 hu).1⟩
  · omega
theorem Osd.open {N : Nat} {F : Nat → Nat} (hF : Nbrs N F) {p : Nat} {o : Nat → Int} (h : Osd N F p o) (hp : p < N) (e : o p = -1) : Qsd N F p 0 (upd o p 0) [p] := by
  have hl := h.least hF hp e
  have hne : ∀ q, o q ≠ -1 → q ≠ p := fun q hq e' => hq (e' ▸ e)
  refine ⟨⟨fun q hq => ?_, fun f hf q hq hn => ?_, fun q hq hn => ?_⟩, fun q hq hN => ?_, fun u hu => ?_, by simp, fun q hq hn => ?_⟩
  · by_cases e' : q = p
    · subst e'; rw [upd_at]; simp
    · rw [upd_ne _ _ e']; exact h.b.val q hq
  · by_cases e' : q = p
    · subst e'
      rw [upd_at]
      have := hf.2 q hq
      rw [hl] at this
      unfold sd1; rw [this]; rfl
    · rw [upd_ne _ _ e'] at hn ⊢; exact h.b.agree f hf q hq hn
  · by_cases e' : q = p
    · subst e'; rw [hl, upd_at]
    · rw [upd_ne _ _ e'] at hn
      have h1 := h.b.least q hq hn
      rw [upd_ne _ _ (hne _ (by rw [h1]; decide))]; exact h1
  · by_cases e' : q = p
    · subst e'; rw [upd_at]; decide
    · rw [upd_ne _ _ e']; exact h.old q (by omega) hN
  · rw [List.mem_singleton] at hu
    subst hu
    exact ⟨hp, by rw [upd_at]; decide, cmC_own⟩
  · by_cases e' : q = p
    · subst e'; exact .inl (by simp)
    · rw [upd_ne _ _ e'] at hn
      refine .inr fun u hu hb => ?_
      have h1 := h.closed q u hq hu hn hb
      rw [upd_ne _ _ (hne u h1.1), upd_ne _ _ e']
      exact h1
theorem Qsd.shut {N : Nat} {F : Nat → Nat} {s i : Nat} {o : Nat → Int} {L : List Nat} (h : Qsd N F s i o L) (hi : L.length ≤ i) : Osd N F (s + 1) o :=
  ⟨h.b, fun q hq hN => h.old q hq hN, fun q u hq hu hn hb => by
    rcases h.done q hq hn with h1 | h1
    · rw [List.drop_eq_nil_of_le hi] at h1; cases h1
    · exact h1 u hu hb⟩
theorem Qsd.at {N : Nat} {F : Nat → Nat} {s i : Nat} {o : Nat → Int} {L : List Nat} (h : Qsd N F s i o L) (hi : i < L.length) : L.getD i 0 ∈ L := by
  rw [List.getD, List.getElem?_eq_getElem hi]; exact List.getElem_mem hi
theorem Qsd.next {N : Nat} {F : Nat → Nat} {s i : Nat} {o : Nat → Int} {L : List Nat} (h : Qsd N F s i o L) (hi : i < L.length) (hp : Prt F (L.getD i 0) N o) : Qsd N F s (i + 1) o L :=
  ⟨h.b, h.old, h.mem, h.nod, fun q hq hn => by
    rcases h.done q hq hn with h1 | h1
    · rw [List.drop_eq_getElem_cons hi] at h1
      rcases List.mem_cons.1 h1 with e | h2
      · refine .inr fun u hu hb => ?_
        have e2 : L.getD i 0 = q := by rw [List.getD, List.getElem?_eq_getElem hi]; exact e.symm
        rw [e2] at hp
        exact hp u hu hb
      · exact .inl h2
    · exact .inr h1⟩
theorem prt_start (F : Nat → Nat) (v : Nat) (o : Nat → Int) : Prt F v 0 o := fun u hu => absurd hu (by omega)
theorem Prt.skip {F : Nat → Nat} {v j : Nat} {o : Nat → Int} (h : Prt F v j o) (hb : (F v).testBit j = false) : Prt F v (j + 1) o := fun u hu h1 => by
  by_cases e : u = j
  · subst e; rw [hb] at h1; cases h1
  · exact h u (by omega) h1
theorem Prt.keep {F : Nat → Nat} {v j : Nat} {o : Nat → Int} (h : Prt F v j o) (h1 : o j ≠ -1) (h2 : o j ≠ o v) : Prt F v (j + 1) o := fun u hu h3 => by
  by_cases e : u = j
  · subst e; exact ⟨h1, h2⟩
  · exact h u (by omega) h3
theorem Qsd.v1 {N : Nat} {F : Nat → Nat} {s i : Nat} {o : Nat → Int} {L : List Nat} (h : Qsd N F s i o L) (hi : i < L.length) : L.getD i 0 < N ∧ (o (L.getD i 0) = 0 ∨ o (L.getD i 0) = 1) := by
  obtain ⟨h1, h2, _⟩ := h.mem _ (h.at hi)
  rcases h.b.val _ h1 with h3 | h3
  · exact absurd h3 h2
  · exact ⟨h1, h3⟩
/-- Two neighbours on one side: there are no sides. -/
theorem Qsd.no {N : Nat} {F : Nat → Nat} {s i j : Nat} {o : Nat → Int} {L : List Nat} (h : Qsd N F s i o L) (hi : i < L.length) (hj : j < N) (hb : (F (L.getD i 0)).testBit j = true) (e : o j = o (L.getD i 0)) : ¬ ∃ f, Sds N F f := by
  rintro ⟨f, hf⟩
  obtain ⟨h1, h2⟩ := h.v1 hi
  have a1 := h.b.agree f hf _ h1 (by omega)
  have a2 := h.b.agree f hf j hj (by omega)
  have a3 := sd1_ne (hf.1 _ _ h1 hj hb)
  have := sd1_01 f (L.getD i 0)
  omega
/-- A neighbour gets the other side and joins the queue. -/
theorem Qsd.more {N : Nat} {F : Nat → Nat} (hF : Nbrs N F) {s i j : Nat} {o : Nat → Int} {L : List Nat} (h : Qsd N F s i o L) (hs : s < N) (hi : i < L.length) (hj : j < N) (hb : (F (L.getD i 0)).testBit j = true) (e : o j = -1) : Qsd N F s i (upd o j (1 - o (L.getD i 0))) (L ++ [j]) := by
  obtain ⟨h1, h2⟩ := h.v1 hi
  have hv := h.mem _ (h.at hi)
  have hr : (cmC F N s).testBit j = true := cmC_closed hF.lt17 (by have := hF.top; omega) hv.2.2 h1 hb
  have hne : ∀ q, o q ≠ -1 → q ≠ j := fun q hq e' => hq (e' ▸ e)
  have hls : o (lst F N s) = 0 := by
    have := h.b.least _ h1 hv.2.1
    rwa [hF.lst_same hs hv.2.2] at this
  refine ⟨⟨fun q hq => ?_, fun f hf q hq hn => ?_, fun q hq hn => ?_⟩, fun q hq hN => ?_, fun u hu => ?_, ?_, fun q hq hn => ?_⟩
  · by_cases e' : q = j
    · subst e'; rw [upd_at]; omega
    · rw [upd_ne _ _ e']; exact h.b.val q hq
  · by_cases e' : q = j
    · subst e'
      rw [upd_at, sd1_ne (hf.1 _ _ h1 hj hb), h.b.agree f hf _ h1 hv.2.1]
    · rw [upd_ne _ _ e'] at hn ⊢; exact h.b.agree f hf q hq hn
  · by_cases e' : q = j
    · subst e'
      rw [hF.lst_same hs hr, upd_ne _ _ (hne _ (by rw [hls]; decide))]; exact hls
    · rw [upd_ne _ _ e'] at hn
      have h3 := h.b.least q hq hn
      rw [upd_ne _ _ (hne _ (by rw [h3]; decide))]; exact h3
  · have h3 := h.old q hq hN
    rw [upd_ne _ _ (hne _ h3)]; exact h3
  · rcases List.mem_append.1 hu with hu | hu
    · obtain ⟨a, b, c⟩ := h.mem u hu
      exact ⟨a, by rw [upd_ne _ _ (hne _ b)]; exact b, c⟩
    · rw [List.mem_singleton] at hu
      subst hu
      exact ⟨hj, by rw [upd_at]; omega, hr⟩
  · rw [List.nodup_append]
    refine ⟨h.nod, by simp, fun a ha b hb' => ?_⟩
    rw [List.mem_singleton] at hb'
    subst hb'
    exact hne _ (h.mem a ha).2.1
  · by_cases e' : q = j
    · subst e'
      refine .inl ?_
      rw [List.drop_append_of_le_length (by omega)]
      exact List.mem_append_right _ (List.mem_singleton.2 rfl)
    · rw [upd_ne _ _ e'] at hn
      rcases h.done q hq hn with h3 | h3
      · refine .inl ?_
        rw [List.drop_append_of_le_length (by omega)]
        exact List.mem_append_left _ h3
      · refine .inr fun u hu hb' => ?_
        have h4 := h3 u hu hb'
        rw [upd_ne _ _ (hne u h4.1), upd_ne _ _ e']
        exact h4
theorem Prt.more {N : Nat} {F : Nat → Nat} {s i j : Nat} {o : Nat → Int} {L : List Nat} (h : Qsd N F s i o L) (hi : i < L.length) (e : o j = -1) (hp : Prt F (L.getD i 0) j o) : Prt F ((L ++ [j]).getD i 0) (j + 1) (upd o j (1 - o (L.getD i 0))) := by
  obtain ⟨h1, h2⟩ := h.v1 hi
  have e2 : (L ++ [j]).getD i 0 = L.getD i 0 := by simp [List.getD, List.getElem?_append_left hi]
  rw [e2]
  have hvj : L.getD i 0 ≠ j := fun e' => by rw [e', e] at h2; omega
  intro u hu hb
  rw [upd_ne _ _ hvj]
  by_cases e' : u = j
  · subst e'; rw [upd_at]; omega
  · rw [upd_ne _ _ e']; exact hp u (by omega) hb
theorem nodupN : ∀ (N : Nat) (l : List Nat), l.Nodup → (∀ x ∈ l, x < N) → l.length ≤ N
  | 0, l, _, h => by
    cases l with
    | nil => simp
    | cons x l => have := h x (by simp); omega
  | N + 1, l, hn, h => by
    by_cases hm : N ∈ l
    · have h1 := nodupN N (l.erase N) (hn.erase _) (fun x hx => by
        have h2 := (hn.mem_erase_iff).1 hx
        have := h x h2.2
        have := h2.1
        omega)
      rw [List.length_erase_of_mem hm] at h1
      omega
    · have h1 := nodupN N l hn (fun x hx => by
        have := h x hx
        have : x ≠ N := fun e => hm (e ▸ hx)
        omega)
      omega
theorem Qsd.len {N : Nat} {F : Nat → Nat} {s i : Nat} {o : Nat → Int} {L : List Nat} (h : Qsd N F s i o L) : L.length ≤ N := nodupN N L h.nod fun u hu => (h.mem u hu).1
/-- All is told: these are the sides. -/
theorem Osd.end {N : Nat} {F : Nat → Nat} (hF : Nbrs N F) {o : Nat → Int} (h : Osd N F N o) : ∃ f, Sds N F f ∧ fl N o = fl N (sd1 f) := by
  have h01 : ∀ q, q < N → o q = 0 ∨ o q = 1 := fun q hq => by
    have := h.old q hq hq
    rcases h.b.val q hq with h1 | h1
    · exact absurd h1 this
    · exact h1
  refine ⟨fun q => decide (o q = 1), ⟨fun p q hp hq hb e => ?_, fun p hp => ?_⟩, fl_congr fun q hq => ?_⟩
  · have h1 := (h.closed p q hp hq (h.old p hp hp) hb).2
    have e1 := h01 p hp
    have e2 := h01 q hq
    have e3 : (o p = 1) ↔ (o q = 1) := by simpa using e
    omega
  · have := h.b.least p hp (h.old p hp hp)
    simp [this]
  · unfold sd1
    rcases h01 q hq with h1 | h1 <;> simp [h1]
/-- What SidesOf returns. -/
noncomputable def sdR (N : Nat) (F : Nat → Nat) : List Int := open Classical in if h : ∃ f, Sds N F f then fl N (sd1 (Classical.choose h)) else []
theorem sdR_yes {N : Nat} {F : Nat → Nat} (hF : Nbrs N F) {f : Nat → Bool} (hf : Sds N F f) : sdR N F = fl N (sd1 f) := by
  unfold sdR
  have h : ∃ f, Sds N F f := ⟨f, hf⟩
  rw [dif_pos h]
  exact fl_congr fun q hq => by
    unfold sd1
    rw [Sds.one hF (Classical.choose_spec h) hf hq]
noncomputable def sdC (N : Nat) (F : Nat → Nat) : Int := open Classical in if ∃ f, Sds N F f then 0 else 4
noncomputable def sdL (n k : Int) (bs : List Nat) (c : Int) : List Int := if given n k bs c [] = 0 then sdR n.toNat (nsF bs c (eseq n.toNat)) else []
noncomputable def sdCode (n k : Int) (bs : List Nat) (c : Int) : Int := if given n k bs c [] = 0 then sdC n.toNat (nsF bs c (eseq n.toNat)) else given n k bs c []
theorem sdR_len (N : Nat) (F : Nat → Nat) : (sdR N F).length ≤ N := by
  unfold sdR
  split
  · rw [fl_len]; exact Nat.le_refl _
  · simp
theorem sdC_yes {N : Nat} {F : Nat → Nat} (h : ∃ f, Sds N F f) : sdC N F = 0 := by unfold sdC; exact if_pos h
theorem sdC_no {N : Nat} {F : Nat → Nat} (h : ¬ ∃ f, Sds N F f) : sdC N F = 4 := by unfold sdC; exact if_neg h
theorem sdR_no {N : Nat} {F : Nat → Nat} (h : ¬ ∃ f, Sds N F f) : sdR N F = [] := by unfold sdR; exact dif_neg h
end Go.Proofs.YtkiocedhibeieaaDoor
