/- The extensions' function: its own memory. -/
import Derived.Test.YtckffliiidgilaaDoorRgd
import Derived.Test.YtckffliiidgilaaDoorJmq
import Derived.Test.YtckffliiidgilaaDoorExf
import Derived.Test.YtckffliiidgilaaDoorEbd
namespace Go.Proofs.YtckffliiidgilaaDoor
set_option linter.unusedVariables false
set_option linter.unusedSimpArgs false
open Go Go.RowKit Go.Shelf
/-- The free sets' slices that have been laid. -/
def fcel (gf : Nat → Nat) (Y j : Nat) : List Value := (List.range 4).map fun c => if c < j then .slice (some ⟨gf c, 0, none⟩) Y Y else .slice none 0 0
def tcel (s : Nat → Nat) : List Value := (List.range 4).map fun c => .int .u32 (s c : Int)
theorem fcel_get {gf : Nat → Nat} {Y j i : Nat} (h : i < 4) : (fcel gf Y j).toArray[i]? = some (if i < j then .slice (some ⟨gf i, 0, none⟩) Y Y else .slice none 0 0) := by simp [fcel, h]
theorem tcel_get {s : Nat → Nat} {i : Nat} (h : i < 4) : (tcel s).toArray[i]? = some (.int .u32 (s i : Int)) := by simp [tcel, h]
theorem tcel_set {s : Nat → Nat} {c v : Nat} (h : c < 4) : (tcel s).toArray.setIfInBounds c (.int .u32 (v : Int)) = (tcel (setF s c v)).toArray := by
  apply Array.ext_getElem?
  intro i
  rw [Array.getElem?_setIfInBounds]
  by_cases hi : i < 4
  · rw [tcel_get hi, tcel_get hi]
    by_cases e : c = i
    · subst e; rw [if_pos rfl, if_pos (by simp [tcel]; exact h), setF_same]
    · rw [if_neg e, setF_ne _ _ (fun x => e x.symm)]
  · rw [if_neg (by omega), Array.getElem?_eq_none (by simp [tcel]; omega), Array.getElem?_eq_none (by simp [tcel]; omega)]
theorem fcel_set {gf : Nat → Nat} {Y c g : Nat} (h : c < 4) : (fcel gf Y c).toArray.setIfInBounds c (.slice (some ⟨g, 0, none⟩) Y Y) = (fcel (setF gf c g) Y (c + 1)).toArray := by
  apply Array.ext_getElem?
  intro i
  rw [Array.getElem?_setIfInBounds]
  by_cases hi : i < 4
  · rw [fcel_get hi, fcel_get hi]
    by_cases e : c = i
    · subst e; rw [if_pos rfl, if_pos (by simp [fcel]; exact h), if_pos (by omega), setF_same]
    · rw [if_neg e, setF_ne _ _ (fun x => e x.symm)]
      by_cases h2 : i < c
      · rw [if_pos h2, if_pos (by omega)]
      · rw [if_neg h2, if_neg (by omega)]
  · rw [if_neg (by omega), Array.getElem?_eq_none (by simp [fcel]; omega), Array.getElem?_eq_none (by simp [fcel]; omega)]
theorem info102 : (Tryd.prog.info? 102).map (fun i => (i.zero, i.size)) = some (some (.agg (fcel (fun _ => 0) 0 0).toArray), 4) := by kernel_rfl
theorem zero102 : ∀ w, (zeroValue 102).run Tryd.prog w = .ok (.agg (fcel (fun _ => 0) 0 0).toArray) w := (zero_of_info info102).1
theorem info103 : (Tryd.prog.info? 103).map (fun i => (i.zero, i.size)) = some (some (.agg (tcel fun _ => 0).toArray), 4) := by kernel_rfl
theorem zero103 : ∀ w, (zeroValue 103).run Tryd.prog w = .ok (.agg (tcel fun _ => 0).toArray) w := (zero_of_info info103).1
/-- The memory of the search, as it lies: s the points by colour, cs the colours that are given. -/
structure RelX (N K Y B bx : Nat) (C : Array Value) (fr : Nat → Nat → Bool) (J : List (List Int) → World → Prop) (D : Nat) (gf : Nat → Nat) (pre : List (List Int)) (s : Nat → Nat) (cs : List Int) (wr : World) : Prop where
  j : J pre wr
  x : Blk wr bx C 56
  f : Blk wr B (fcel gf Y K).toArray 102
  fs : ∀ c, c < K → Blk wr (gf c) (bcl (fr c) Y Y).toArray 4 ∧ B + 3 ≤ gf c ∧ gf c < D
  t : Blk wr (B + 1) (tcel s).toArray 103
  cl : ∃ cl : List Int, cl.length = N ∧ Blk wr (B + 2) (icells cl).toArray 2 ∧ ∀ i, i < cs.length → cl.getD i 0 = cs.getD i 0
  sz : D ≤ wr.heap.size
  hd : B + 3 ≤ D
  hx : bx < B
section
variable {N K Y B bx : Nat} {C : Array Value} {fr : Nat → Nat → Bool} {J : List (List Int) → World → Prop} {D : Nat} {gf : Nat → Nat} {pre : List (List Int)} {s : Nat → Nat} {cs : List Int} {wr : World}
theorem RelX.below {W : World} (h : RelX N K Y B bx C fr J D gf pre s cs wr) (hJ : StabD B D J) (hb : Below wr.heap.size wr W) : RelX N K Y B bx C fr J D gf pre s cs W := by
  obtain ⟨cl, h1, h2, h3⟩ := h.cl
  exact ⟨hJ _ _ _ h.j (Away.of_below hb), h.x.below hb h.x.lt, h.f.below hb h.f.lt, fun c hc => ⟨(h.fs c hc).1.below hb (h.fs c hc).1.lt, (h.fs c hc).2⟩, h.t.below hb h.t.lt, ⟨cl, h1, h2.below hb h2.lt, h3⟩, Nat.le_trans h.sz hb.size, h.hd, h.hx⟩
/-- Behind a round that leaves the memory alone. -/
theorem RelX.kept {W : World} {pre' : List (List Int)} {bl : Nat} (h : RelX N K Y B bx C fr J D gf pre s cs wr) (hk : KxD [bx, bl] B D wr W) (hj : J pre' W) : RelX N K Y B bx C fr J D gf pre' s cs W := by
  obtain ⟨cl, h1, h2, h3⟩ := h.cl
  have hd := h.hd
  exact ⟨hj, (hk.2 _ h.x.lt (.inr (by simp))).trans h.x, (hk.2 _ h.f.lt (.inl ⟨Nat.le_refl _, by omega⟩)).trans h.f, fun c hc => ⟨(hk.2 _ (h.fs c hc).1.lt (.inl ⟨by have := (h.fs c hc).2.1; omega, (h.fs c hc).2.2⟩)).trans (h.fs c hc).1, (h.fs c hc).2⟩,
    (hk.2 _ h.t.lt (.inl ⟨by omega, by omega⟩)).trans h.t, ⟨cl, h1, (hk.2 _ h2.lt (.inl ⟨by omega, by omega⟩)).trans h2, h3⟩, Nat.le_trans h.sz hk.1, h.hd, h.hx⟩
theorem RelX.setT {c v : Nat} (h : RelX N K Y B bx C fr J D gf pre s cs wr) (hJ : StabD B D J) (hc : c < 4) : RelX N K Y B bx C fr J D gf pre (setF s c v) cs (wr.setCell ⟨B + 1, c, none⟩ (.int .u32 (v : Int))) := by
  obtain ⟨cl, h1, h2, h3⟩ := h.cl
  have hd := h.hd
  have hx := h.hx
  exact ⟨hJ _ _ _ h.j (Away.set _ _ (by show B ≤ B + 1; omega) (by show B + 1 < D; omega)), h.x.other _ _ (by show bx ≠ B + 1; omega), h.f.other _ _ (by show B ≠ B + 1; omega), fun c hc => ⟨(h.fs c hc).1.other _ _ (by show gf c ≠ B + 1; have := (h.fs c hc).2.1; omega), (h.fs c hc).2⟩,
    by have := h.t.same c (.int .u32 (v : Int)); rwa [tcel_set hc] at this, ⟨cl, h1, h2.other _ _ (by show B + 2 ≠ B + 1; omega), h3⟩, by simpa [World.setCell] using h.sz, h.hd, h.hx⟩
theorem RelX.setC {x : Int} (h : RelX N K Y B bx C fr J D gf pre s cs wr) (hJ : StabD B D J) (hc : cs.length < N) : RelX N K Y B bx C fr J D gf pre s (cs ++ [x]) (wr.setCell ⟨B + 2, cs.length, none⟩ (.int .i64 x)) := by
  obtain ⟨cl, h1, h2, h3⟩ := h.cl
  have hd := h.hd
  have hx := h.hx
  refine ⟨hJ _ _ _ h.j (Away.set _ _ (by show B ≤ B + 2; omega) (by show B + 2 < D; omega)), h.x.other _ _ (by show bx ≠ B + 2; omega), h.f.other _ _ (by show B ≠ B + 2; omega), fun c hc => ⟨(h.fs c hc).1.other _ _ (by show gf c ≠ B + 2; have := (h.fs c hc).2.1; omega), (h.fs c hc).2⟩,
    h.t.other _ _ (by show B + 1 ≠ B + 2; omega), ⟨cl.set cs.length x, by simpa using h1, ?_, fun i hi => ?_⟩, by simpa [World.setCell] using h.sz, h.hd, h.hx⟩
  · have := h2.same cs.length (.int .i64 x); rwa [icells_put] at this
  · rw [List.length_append] at hi
    by_cases e : i = cs.length
    · subst e
      simp [List.getD, List.getElem?_set, h1, hc]
    · have hi2 : i < cs.length := by simp at hi; omega
      have h4 := h3 i hi2
      simp only [List.getD, List.getElem?_set, if_neg (fun x => e (Eq.symm x)), List.getElem?_append_left hi2] at h4 ⊢
      exact h4
theorem RelX.drop {x : Int} (h : RelX N K Y B bx C fr J D gf pre s (cs ++ [x]) wr) : RelX N K Y B bx C fr J D gf pre s cs wr := by
  obtain ⟨cl, h1, h2, h3⟩ := h.cl
  refine ⟨h.j, h.x, h.f, h.fs, h.t, ⟨cl, h1, h2, fun i hi => ?_⟩, h.sz, h.hd, h.hx⟩
  rw [h3 i (by simp; omega)]
  simp [List.getD, List.getElem?_append_left hi]
theorem RelX.full (h : RelX N K Y B bx C fr J D gf pre s cs wr) (hc : cs.length = N) : Blk wr (B + 2) (icells cs).toArray 2 := by
  obtain ⟨cl, h1, h2, h3⟩ := h.cl
  have e : cl = cs := by
    apply List.ext_getElem?
    intro i
    by_cases hi : i < N
    · have := h3 i (by omega)
      simp only [List.getD] at this
      rw [List.getElem?_eq_getElem (by omega), List.getElem?_eq_getElem (by omega)] at this ⊢
      simpa using this
    · rw [List.getElem?_eq_none (by omega), List.getElem?_eq_none (by omega)]
  rw [← e]; exact h2
theorem RelX.last {x : Int} (h : RelX N K Y B bx C fr J D gf pre s (cs ++ [x]) wr) (hc : cs.length < N) : wr.cell? ⟨B + 2, cs.length, none⟩ = some (.int .i64 x) := by
  obtain ⟨cl, h1, h2, h3⟩ := h.cl
  have h4 := h3 cs.length (by simp)
  rw [show (cs ++ [x]).getD cs.length 0 = x by simp [List.getD]] at h4
  have h5 := h2.cell (icells_get (zs := cl) (j := cs.length) (by omega))
  rw [h4] at h5
  exact h5
end
theorem muO_end {K N c c0 : Nat} {ds : List Nat} (hc : c0 ≤ c) : muO K N false ds c ≤ muO K N true ds c0 := by
  unfold muO
  have h1 : xvO K N ds c0 ≤ xvO K N ds c := by unfold xvO; exact Nat.mul_le_mul_right _ (by omega)
  have h2 : ((K + 1) ^ (N + 1) - xvO K N ds c) * (N + 1) ≤ ((K + 1) ^ (N + 1) - xvO K N ds c0) * (N + 1) := Nat.mul_le_mul_right _ (by omega)
  simp only [if_true]
  simp
  omega
/-- What is told of a jump forward. -/
def JF (all : List (List Int)) (N K Y B bx l : Nat) (C : Array Value) (fr : Nat → Nat → Bool) (J : Nat → List (List Int) → World → Prop) (i : List Nat × Nat) (a : Act) (w : World) : Prop :=
  ∃ (D : Nat) (gf : Nat → Nat) (pre : List (List Int)) (u2 u8 u9 u10 u11 u12 u13 u14 u15 u16 u17 u18 u19 u20 u21 u22 u23 u24 u25 u26 u27 u28 u29 u30 u31 u32 u33 u34 u35 u36 u37 u38 u39 u40 u41 u42 u43 u44 u45 u46 u47 u48 u49 u50 u51 u52 u53 u54 u55 u56 u57 u58 u59 u60 u61 u62 u63 u64 u65 u66 u67 u68 u69 u70 u71 u72 u73 u74 u75 u76 u77 u78 u79 u80 u81 : Value), a = { tmps := #[.func (.yield l) #[] #[], .pointer (some ⟨bx, 0, none⟩), u2, .pointer (some ⟨B, 0, none⟩), .pointer (some ⟨B + 1, 0, none⟩), .slice (some ⟨B + 2, 0, none⟩) N N, .int .i64 (i.1.length : Int), .int .i64 (i.2 : Int), u8, u9, u10, u11, u12, u13, u14, u15, u16, u17, u18, u19, u20, u21, u22, u23, u24, u25, u26, u27, u28, u29, u30, u31, u32, u33, u34, u35, u36, u37, u38, u39, u40, u41, u42, u43, u44, u45, u46, u47, u48, u49, u50, u51, u52, u53, u54, u55, u56, u57, u58, u59, u60, u61, u62, u63, u64, u65, u66, u67, u68, u69, u70, u71, u72, u73, u74, u75, u76, u77, u78, u79, u80, u81], defers := [] } ∧ Hid (i.1.length ≤ N ∧ (∀ d ∈ i.1, d < K) ∧ i.2 ≤ K ∧ all = pre ++ exR (okf fr) K N i.1 i.2 ∧ RelX N K Y B bx C fr (J D) D gf pre (stO i.1) (colI i.1) w)
/-- .. and back. -/
def JB (all : List (List Int)) (N K Y B bx l : Nat) (C : Array Value) (fr : Nat → Nat → Bool) (J : Nat → List (List Int) → World → Prop) (i : List Nat × Nat) (a : Act) (w : World) : Prop :=
  ∃ (D : Nat) (gf : Nat → Nat) (pre : List (List Int)) (u7 u2 u8 u9 u10 u11 u12 u13 u14 u15 u16 u17 u18 u19 u20 u21 u22 u23 u24 u25 u26 u27 u28 u29 u30 u31 u32 u33 u34 u35 u36 u37 u38 u39 u40 u41 u42 u43 u44 u45 u46 u47 u48 u49 u50 u51 u52 u53 u54 u55 u56 u57 u58 u59 u60 u61 u62 u63 u64 u65 u66 u67 u68 u69 u70 u71 u72 u73 u74 u75 u76 u77 u78 u79 u80 u81 : Value), a = { tmps := #[.func (.yield l) #[] #[], .pointer (some ⟨bx, 0, none⟩), u2, .pointer (some ⟨B, 0, none⟩), .pointer (some ⟨B + 1, 0, none⟩), .slice (some ⟨B + 2, 0, none⟩) N N, .int .i64 (i.1.length : Int), u7, u8, u9, u10, u11, u12, u13, u14, u15, u16, u17, u18, u19, u20, u21, u22, u23, u24, u25, u26, u27, u28, u29, u30, u31, u32, u33, u34, u35, u36, u37, u38, u39, u40, u41, u42, u43, u44, u45, u46, u47, u48, u49, u50, u51, u52, u53, u54, u55, u56, u57, u58, u59, u60, u61, u62, u63, u64, u65, u66, u67, u68, u69, u70, u71, u72, u73, u74, u75, u76, u77, u78, u79, u80, u81], defers := [] } ∧ Hid (i.1.length ≤ N ∧ (∀ d ∈ i.1, d < K) ∧ i.2 ≤ K ∧ all = pre ++ exB (okf fr) K N i.1 ∧ RelX N K Y B bx C fr (J D) D gf pre (stO i.1) (colI i.1) w)
/-- An extension, handed out in the search's own memory. -/
def EncX (N : Nat) (x : List Int) (B D : Nat) (W : World) (args : Array Value) : Prop := ∃ g : Nat, args = #[.slice (some ⟨g, 0, none⟩) N N] ∧ B ≤ g ∧ g < D ∧ Blk W g (icells x).toArray 2
end Go.Proofs.YtckffliiidgilaaDoor
