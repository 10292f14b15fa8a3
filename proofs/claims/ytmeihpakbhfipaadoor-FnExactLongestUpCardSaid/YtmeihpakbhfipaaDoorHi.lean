/- My texts Cls, CtB, Fzm, Fzi, Fzs, Ge, Gqi, LstSp, in one. -/
import Derived.Test.YtmeihpakbhfipaaDoorHg
import Derived.Test.YtmeihpakbhfipaaDoorHh
import Derived.Test.YtmeihpakbhfipaaDoorHe
import Derived.Test.YtmeihpakbhfipaaDoorHf
import Derived.Test.YtmeihpakbhfipaaDoorRows
import Derived.Test.YtmeihpakbhfipaaDoorHa
import Derived.ChangeOld
import Derived.Test.YtmeihpakbhfipaaDoorHc
/- CliqueList: its model. -/
namespace Go.Proofs.YtmeihpakbhfipaaDoor
set_option linter.unusedVariables false
set_option linter.unusedSimpArgs false
open Go Go.RowKit Go.Shelf
end Go.Proofs.YtmeihpakbhfipaaDoor
/- CountTriangles: the program answers as the model's list tells. -/
namespace Go.Proofs.YtmeihpakbhfipaaDoor
set_option linter.unusedVariables false
set_option linter.unusedSimpArgs false
open Go Go.RowKit Go.Shelf
theorem ct_eq (n k : Int) (bs : List Nat) : (if isCol n k bs then dgL k.toNat (teC bs (eseq n.toNat)) else []) = ctList n k bs := by
  unfold ctList
  rw [show teC bs (eseq n.toNat) = ctF bs n.toNat from funext fun c => teC_cC bs c n.toNat]
theorem ctList_len {n k : Int} {bs : List Nat} : (ctList n k bs).length ≤ 17 := by
  unfold ctList
  split
  · rename_i h
    have := isCol_bd h
    rw [dgL_len]; omega
  · simp
end Go.Proofs.YtmeihpakbhfipaaDoor
/- The first clique of a size: nothing of the program. -/
namespace Go.Proofs.YtmeihpakbhfipaaDoor
set_option linter.unusedVariables false
set_option linter.unusedSimpArgs false
open Go Go.RowKit Go.Shelf
/-- The first clique of m points of a colour, its points backwards; no point if there is none. -/
def foS (N : Nat) (bs : List Nat) (c : Int) (m : Nat) : List Nat := ((cqE (fitR (rwN bs c N)) N N []).find? fun s => decide (s.length = m)).getD []
theorem foS_take {N : Nat} {bs : List Nat} {c : Int} {m : Nat} (hm : m ≠ 0) : (clqL bs c N m).take 1 = if foS N bs c m = [] then [] else [rv (foS N bs c m)] := by
  rw [clqL_take hm]
  unfold foS
  have h := List.head?_filter (p := fun s : List Nat => decide (s.length = m)) (l := cqE (fitR (rwN bs c N)) N N [])
  rw [← h]
  cases hf : (cqE (fitR (rwN bs c N)) N N []).filter fun s => decide (s.length = m) with
  | nil => simp
  | cons s l =>
    have hs : s ∈ (cqE (fitR (rwN bs c N)) N N []).filter fun s => decide (s.length = m) := by rw [hf]; exact List.mem_cons_self ..
    have hl : s.length = m := by simpa using (List.mem_filter.1 hs).2
    have hne : s ≠ [] := fun e => by subst e; simp at hl; omega
    simp [hne]
theorem foS_ok {N : Nat} {bs : List Nat} {c : Int} {m : Nat} (hN : N ≤ 17) : (foS N bs c m).Pairwise (· > ·) ∧ ∀ q ∈ foS N bs c m, q < 17 := by
  unfold foS
  cases hf : (cqE (fitR (rwN bs c N)) N N []).find? fun s => decide (s.length = m) with
  | none => exact ⟨List.Pairwise.nil, by simp⟩
  | some s =>
    have h := cqE_ok N [] s (Nat.le_refl _) List.Pairwise.nil (by simp) (List.mem_of_find?_eq_some hf)
    exact ⟨h.1, fun q hq => by have := h.2 q hq; omega⟩
theorem foS_X {N : Nat} {bs : List Nat} {c : Int} {m : Nat} (hN : N ≤ 17) : fosX (nsF bs c (eseq N)) N (m : Int) = bitS (foS N bs c m) := by
  unfold fosX foS
  rw [clq_list bs c hN]
  have e : (fun s : List Nat => decide ((s.length : Int) = (m : Int))) = fun s => decide (s.length = m) := by
    funext s
    by_cases h : s.length = m
    · rw [decide_eq_true h, decide_eq_true (by omega)]
    · rw [decide_eq_false h, decide_eq_false (by omega)]
  rw [e]
theorem find_congr {α : Type} {p q : α → Bool} : ∀ (l : List α), (∀ x ∈ l, p x = q x) → l.find? p = l.find? q
  | [], _ => rfl
  | x :: l, h => by
    rw [List.find?_cons, List.find?_cons, h x (List.mem_cons_self ..), find_congr l (fun y hy => h y (List.mem_cons_of_mem _ hy))]
/-- The set that is told for the colour j. -/
def fzS (N : Nat) (bs : List Nat) (zs : List Int) (j : Nat) : List Nat := foS N bs (j : Int) (zs.getD j 0).toNat
/-- The least colour with a clique of its size. -/
def fzI (N : Nat) (bs : List Nat) (zs : List Int) (K : Nat) : Option Nat := (List.range K).find? fun c => decide (fzS N bs zs c ≠ [])
theorem fzI_none {N : Nat} {bs : List Nat} {zs : List Int} {K : Nat} (h : ∀ j, j < K → fzS N bs zs j = []) : fzI N bs zs K = none := by
  unfold fzI
  exact List.find?_eq_none.2 (fun j hj => by rw [h j (List.mem_range.1 hj)]; simp)
theorem fzI_hit {N : Nat} {bs : List Nat} {zs : List Int} {K d : Nat} (h : ∀ j, j < d → fzS N bs zs j = []) (hd : d < K) (h2 : fzS N bs zs d ≠ []) : fzI N bs zs K = some d := by
  unfold fzI
  rw [List.find?_range_eq_some]
  exact ⟨by simpa using h2, List.mem_range.2 hd, fun j hj => by rw [h j hj]; simp⟩
def fzR (N : Nat) (bs : List Nat) (zs : List Int) (K : Nat) : Int × List Int × Int :=
  match fzI N bs zs K with
  | none => (0, [], 4)
  | some c => ((c : Int), rv (fzS N bs zs c), 0)
theorem fzR_none {N : Nat} {bs : List Nat} {zs : List Int} {K : Nat} (h : fzI N bs zs K = none) : fzR N bs zs K = (0, [], 4) := by unfold fzR; rw [h]
theorem fzR_some {N : Nat} {bs : List Nat} {zs : List Int} {K c : Nat} (h : fzI N bs zs K = some c) : fzR N bs zs K = ((c : Int), rv (fzS N bs zs c), 0) := by unfold fzR; rw [h]
theorem fsR_fz {N : Nat} {bs : List Nat} {zs : List Int} {K : Nat} (hN : N ≤ 17) (hsz : szP zs K = true) :
    fsR N bs zs K = match fzI N bs zs K with | none => (0, 0) | some c => (c, bitS (fzS N bs zs c)) := by
  have hz : ∀ j, j < K → fosX (nsF bs (j : Int) (eseq N)) N (zs.getD j 0) = bitS (fzS N bs zs j) := fun j hj => by
    have h1 := inB_bd (szP_get hsz hj)
    unfold fzS
    obtain ⟨m, hm⟩ := Int.eq_ofNat_of_zero_le (show 0 ≤ zs.getD j 0 by omega)
    rw [hm, Int.toNat_natCast]
    exact foS_X hN
  have e : ((List.range K).find? fun (c : Nat) => decide (fosX (nsF bs (c : Int) (eseq N)) N (zs.getD c 0) ≠ 0)) = fzI N bs zs K := by
    unfold fzI
    refine find_congr _ fun j hj => ?_
    rw [hz j (List.mem_range.1 hj)]
    by_cases h : fzS N bs zs j = []
    · rw [h]; rfl
    · have h2 : bitS (fzS N bs zs j) ≠ 0 := fun e => h (bitS_zero.1 e)
      rw [decide_eq_true h, decide_eq_true h2]
  unfold fsR
  rw [e]
  cases hi : fzI N bs zs K with
  | none => rfl
  | some c =>
    have hc : c < K := List.mem_range.1 (List.mem_of_find?_eq_some hi)
    simp only [hz c hc]
def fzC (n k : Int) (bs : List Nat) (zs : List Int) : Int := if szCode n k bs zs = 0 then (fzR n.toNat bs zs k.toNat).1 else 0
def fzL (n k : Int) (bs : List Nat) (zs : List Int) : List Int := if szCode n k bs zs = 0 then (fzR n.toNat bs zs k.toNat).2.1 else []
def fzE (n k : Int) (bs : List Nat) (zs : List Int) : Int := if szCode n k bs zs = 0 then (fzR n.toNat bs zs k.toNat).2.2 else szCode n k bs zs
theorem fz_bad {n k : Int} {bs : List Nat} {zs : List Int} (h : szCode n k bs zs ≠ 0) : fzC n k bs zs = 0 ∧ fzL n k bs zs = [] ∧ fzE n k bs zs = szCode n k bs zs := by
  unfold fzC fzL fzE; rw [if_neg h, if_neg h, if_neg h]; exact ⟨rfl, rfl, rfl⟩
theorem fz_good {n k : Int} {bs : List Nat} {zs : List Int} (h : szCode n k bs zs = 0) : fzC n k bs zs = (fzR n.toNat bs zs k.toNat).1 ∧ fzL n k bs zs = (fzR n.toNat bs zs k.toNat).2.1 ∧ fzE n k bs zs = (fzR n.toNat bs zs k.toNat).2.2 := by
  unfold fzC fzL fzE; rw [if_pos h, if_pos h, if_pos h]; exact ⟨rfl, rfl, rfl⟩
theorem sz_ok {n k : Int} {bs : List Nat} {zs : List Int} (h : szCode n k bs zs = 0) : isCol n k bs = true ∧ szOk k zs = true := by
  cases h1 : isCol n k bs with
  | false => rw [szCode_1 h1] at h; omega
  | true =>
    cases h2 : szOk k zs with
    | false => rw [szCode_2 h1 h2] at h; omega
    | true => exact ⟨rfl, rfl⟩
theorem pw_len : ∀ {s : List Nat} {m : Nat}, s.Pairwise (· > ·) → (∀ q ∈ s, q < m) → s.length ≤ m
  | [], _, _, _ => Nat.zero_le _
  | q :: s, m, h, hb => by
    rw [List.pairwise_cons] at h
    have h1 := pw_len h.2 h.1
    have h2 := hb q (List.mem_cons_self ..)
    simp; omega
theorem fzL_len {n k : Int} {bs : List Nat} {zs : List Int} : (fzL n k bs zs).length ≤ 17 := by
  by_cases h : szCode n k bs zs = 0
  · rw [(fz_good h).2.1]
    obtain ⟨n1, n2, k1, k2⟩ := isCol_bd (sz_ok h).1
    unfold fzR
    split
    · simp
    · rename_i c _
      have ho := foS_ok (bs := bs) (c := (c : Int)) (m := (zs.getD c 0).toNat) (show n.toNat ≤ 17 by omega)
      show (rv _).length ≤ 17
      rw [rv_len]
      exact pw_len ho.1 ho.2
  · rw [(fz_bad h).2.1]; simp
end Go.Proofs.YtmeihpakbhfipaaDoor
/- FirstOfSizes: the program. -/
namespace Go.Proofs.YtmeihpakbhfipaaDoor
set_option linter.unusedVariables false
set_option linter.unusedSimpArgs false
open Go Go.RowKit Go.Shelf
/-- A number, a list of the call's own and a code. -/
def NOut (w : World) (c : Int) (zs : List Int) (code : Int) (e : Ending) (w' : World) : Prop :=
  ∃ a cap, e = .returned (.tuple #[.int .i64 c, .slice a zs.length cap, .int .i64 code]) ∧ OwnL w' w.heap.size a zs ∧ Below w.heap.size w w'
theorem fsR_no {N : Nat} {bs : List Nat} {zs : List Int} {K : Nat} (hN : N ≤ 17) (hsz : szP zs K = true) (h : fzI N bs zs K = none) : fsR N bs zs K = (0, 0) := by
  have := fsR_fz (bs := bs) hN hsz
  rw [h] at this
  exact this
theorem fsR_yes {N : Nat} {bs : List Nat} {zs : List Int} {K d : Nat} (hN : N ≤ 17) (hsz : szP zs K = true) (h : fzI N bs zs K = some d) : fsR N bs zs K = (d, bitS (fzS N bs zs d)) := by
  have := fsR_fz (bs := bs) hN hsz
  rw [h] at this
  exact this
end Go.Proofs.YtmeihpakbhfipaaDoor
/- FirstOfSizes: its model. -/
namespace Go.Proofs.YtmeihpakbhfipaaDoor
set_option linter.unusedVariables false
set_option linter.unusedSimpArgs false
open Go Go.RowKit Go.Shelf
/-- A number, a list and a code; the list need not be new. -/
def NOut0 (w : World) (c : Int) (zs : List Int) (code : Int) (e : Ending) (w' : World) : Prop :=
  ∃ a cap, e = .returned (.tuple #[.int .i64 c, .slice a zs.length cap, .int .i64 code]) ∧ OwnL w' 0 a zs ∧ Below w.heap.size w w'
end Go.Proofs.YtmeihpakbhfipaaDoor
/- My texts Law, Laws, Keep, in one. -/
/- What every law's proof wants of the program as a whole. -/
namespace Go.Proofs.YtmeihpakbhfipaaDoor
open Go Go.RowKit Go.ChangeShapes Go.WideShapes Go.ChangeAt
theorem own : ownKnob Tryd.prog.godebug = none := by kernel_rfl
theorem laidOut : laidOutB Tryd.prog = true := by kernel_rfl
theorem read24 : Tryd.prog.readableRec 24 = true := by kernel_rfl
theorem read2 : Tryd.prog.readableRec 2 = true := by kernel_rfl
theorem read29 : Tryd.prog.readableRec 25 = true := by kernel_rfl
theorem row24 : 24 < Tryd.prog.types.size := of_decide_eq_true (by kernel_rfl)
theorem row2 : 2 < Tryd.prog.types.size := of_decide_eq_true (by kernel_rfl)
theorem row29 : 25 < Tryd.prog.types.size := of_decide_eq_true (by kernel_rfl)
set_option maxRecDepth 100000 in
/-- A number that came in. -/
theorem open_num {H : Type} {enc : TypeId × Value → H} {w : World} {base : Nat} {spare : Nat → Bool} {held : Bool} {v : Value} {d : DataW H} {ps : List MemPlace} {r : Reach} {b : Nat}
    (hv : Value.okWide Tryd.prog w r b 2 v) (h : DataW.Trod enc Tryd.prog w base spare held 2 v d ps) : ∃ n, v = .int .i64 n ∧ -9223372036854775808 ≤ n ∧ n ≤ 9223372036854775807 := by
  obtain ⟨n, rfl, _, _, wn⟩ := open_int Tryd.underlying2 hv h
  exact ⟨n, rfl, i64_bd wn⟩
theorem lt_of_trod {H : Type} {enc : TypeId × Value → H} {w : World} {spare : Nat → Bool} {held : Bool} {t : TypeId} {v : Value} {d : DataW H} {ps : List MemPlace}
    (h : DataW.Trod enc Tryd.prog w 0 spare held t v d ps) : ∀ x ∈ ps, x.block < w.heap.size := by
  obtain ⟨m, hm⟩ := h; exact DataW.trod_lt m _ _ _ hm
end Go.Proofs.YtmeihpakbhfipaaDoor
/- Lists that came in. -/
namespace Go.Proofs.YtmeihpakbhfipaaDoor
set_option linter.unusedVariables false
set_option linter.unusedSimpArgs false
open Go Go.RowKit Go.ChangeShapes Go.WideShapes Go.ChangeAt
set_option maxRecDepth 100000 in
theorem open_list {H : Type} {enc : TypeId × Value → H} {w : World} {base : Nat} {held : Bool} {v : Value} {d : DataW H} {ps : List MemPlace} {r : Reach} {b : Nat}
    (hv : Value.okWide Tryd.prog w r b 25 v) (h : DataW.Trod enc Tryd.prog w base (fun _ => true) held 25 v d ps) :
    ∃ a zs cap, v = .slice a (zs : List Int).length cap ∧ SlI w a zs ∧ zs.length ≤ 9223372036854775807 ∧ ∀ j, j < zs.length → -9223372036854775808 ≤ zs.getD j 0 ∧ zs.getD j 0 ≤ 9223372036854775807 := by
  obtain ⟨a, len, cap, rfl⟩ := okWide_slice Tryd.underlying25 hv
  obtain ⟨fuel, hf⟩ := h
  rcases open_ints Tryd.underlying25 Tryd.underlying2 cells2 hf with ⟨hcs, _⟩ | ⟨x, l, c, zs, hcs, _, hl, hm, hz, _, hcell, hwz⟩
  · simp [Value.cells] at hcs
    obtain ⟨rfl, rfl, rfl⟩ := hcs
    exact ⟨none, [], 0, rfl, .inl rfl, by simp, fun j hj => by simp at hj⟩
  · simp [Value.cells] at hcs
    obtain ⟨rfl, rfl, rfl⟩ := hcs
    have hzl : zs.length = cap := by simpa using hz
    have htl : (zs.take len).length = len := by simp; omega
    unfold maxLen at hm
    refine ⟨some x, zs.take len, cap, by rw [htl], ?_, by omega, fun j hj => ?_⟩
    · by_cases h0 : len = 0
      · left; simp [h0]
      · obtain ⟨bl, off, spot⟩ := x
        have hc := hcell 0 (by omega)
        have hspot : spot = none := by simpa [Addr.add] using World.cell?_spot hc
        subst hspot
        refine .inr ⟨bl, off, rfl, fun j hj => ?_⟩
        rw [htl] at hj
        have hcj := hcell j (by omega)
        rw [Addr.add_mid] at hcj
        rw [hcj]
        simp [List.getD, List.getElem?_take, hj]
    · rw [htl] at hj
      have hj2 : j < zs.length := by omega
      have e : (zs.take len).getD j 0 = zs[j] := by simp [List.getD, List.getElem?_take, hj, hj2]
      rw [e]
      exact i64_bd (hwz _ (List.getElem_mem hj2))
end Go.Proofs.YtmeihpakbhfipaaDoor
/- What is kept when a law stores a result and goes on. -/
namespace Go.Proofs.YtmeihpakbhfipaaDoor
set_option linter.unusedVariables false
set_option linter.unusedSimpArgs false
open Go Go.RowKit Go.ChangeShapes Go.WideShapes Go.ChangeAt
/-- A variable of its own for a colouring: what is known behind the store. -/
theorem kept_row {w w2 : World} {C D : Array Value} {b : Nat} {t : TypeId} (g : Blk w2 b C t) (h : Below w.heap.size w w2) (Z : Array Value) :
    Blk ((w2.alloc (.cells Z 28)).setRow w2.heap.size D) b C t ∧ Blk ((w2.alloc (.cells Z 28)).setRow w2.heap.size D) w2.heap.size D 28 ∧ Below w.heap.size w ((w2.alloc (.cells Z 28)).setRow w2.heap.size D) :=
  ⟨(g.alloc _).rowOther _ _ (by have := g.lt; omega), (Blk.new _ _ _ _ rfl).rowSame _, below_setRow (h.alloc h.size _) h.size _⟩
theorem kept_more {w2 : World} {C D : Array Value} {b : Nat} {t : TypeId} (g : Blk w2 b C t) (Z : Array Value) : Blk ((w2.alloc (.cells Z 28)).setRow w2.heap.size D) b C t :=
  (g.alloc _).rowOther _ _ (by have := g.lt; omega)
end Go.Proofs.YtmeihpakbhfipaaDoor
/- GreatestClique: the program. -/
namespace Go.Proofs.YtmeihpakbhfipaaDoor
set_option linter.unusedVariables false
set_option linter.unusedSimpArgs false
open Go Go.RowKit Go.Shelf
theorem grB_gcS (N : Nat) (bs : List Nat) (c : Int) : grB N bs c = bitS (gcS N bs c) := rfl
end Go.Proofs.YtmeihpakbhfipaaDoor
/- ListOfCircular: its model. -/
namespace Go.Proofs.YtmeihpakbhfipaaDoor
set_option linter.unusedVariables false
set_option linter.unusedSimpArgs false
open Go Go.RowKit Go.Shelf
def RelLs (bs : List Nat) (C : Array Value) (w : World) (d : Nat) (v : Value) (wr : World) : Prop :=
  Blk wr w.heap.size C 28 ∧ wr.ownsRow (w.heap.size + 1) 2 1 v (fillA (fcol bs) d).length (icells (fillA (fcol bs) d)) ∧ Below w.heap.size w wr
/-- What l03List returns: a list and whether it tells the colouring. -/
def LB (w : World) (zs : List Int) (c : Bool) (e : Ending) (w' : World) : Prop :=
  ∃ a cap, e = .returned (.tuple #[.slice a zs.length cap, .bool c]) ∧ OwnL w' w.heap.size a zs ∧ Below w.heap.size w w'
end Go.Proofs.YtmeihpakbhfipaaDoor
