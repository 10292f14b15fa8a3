/- lengthsFrom: the program. -/
import Derived.Test.YtmeihpakbhfipaaDoorBwd
import Derived.Test.YtmeihpakbhfipaaDoorUli
namespace Go.Proofs.YtmeihpakbhfipaaDoor
set_option linter.unusedVariables false
set_option linter.unusedSimpArgs false
open Go Go.RowKit Go.Shelf
attribute [local go_sem] Oper.semAt_some
theorem backward62 (a : Option Addr) (len cap : Nat) (w : World) : Calls Tryd.prog 62 #[.slice a len cap] w fun e w' => e = .returned (.func (.func 68) #[] #[.pointer (some ⟨w.heap.size, 0, none⟩)]) ∧ w.alloc (.cells #[.slice a len cap] 41) = w' := by
  have hmf : ∀ (fn : Fn) (first cap : Array Value) (w : World), (Instr.makeFunc fn first cap).run Tryd.prog w = .ok (.func fn first cap) w := fun _ _ _ _ => rfl
  go_enter Tryd.func62, Tryd.ntmps62
  go_wp2_with fail
  go_ret
  exact ⟨rfl, rfl⟩
/-- The greatest length by way of the points of a list. -/
def lrM (L : Nat → Int) (xs : List Int) : Int := xs.foldl (fun a z => max a (L z.toNat + 1)) 1
theorem lrM_snoc (L : Nat → Int) (xs : List Int) (z : Int) : lrM L (xs ++ [z]) = max (lrM L xs) (L z.toNat + 1) := by simp [lrM]
theorem lfK_row (bs : List Nat) (c : Int) (L : Nat → Int) (p : Nat) : ∀ k, lfK bs c L p k = lrM L (nbK (upP bs c p) k)
  | 0 => rfl
  | k + 1 => by
    rw [lfK, nbK, lfK_row bs c L p k]
    split
    · rw [lrM_snoc, Int.toNat_natCast]
    · rfl
/-- The lengths in the round of the point N - (d + 1), behind m of its greater neighbours. -/
def lfM (bs : List Nat) (c : Int) (N d m q : Nat) : Int := if q = N - (d + 1) then lrM (lfA bs c N d) ((upR bs c N (N - (d + 1))).take m) else lfA bs c N d q
theorem lfM_start (bs : List Nat) (c : Int) (N d : Nat) : (fl N (lfA bs c N d)).set (N - (d + 1)) 1 = fl N (lfM bs c N d 0) :=
  fl_set _ _ _ (by simp [lfM, lrM]) fun q _ hq => by simp [lfM, hq]
theorem lfM_end (bs : List Nat) (c : Int) {N d m : Nat} (h : (upR bs c N (N - (d + 1))).length ≤ m) : fl N (lfM bs c N d m) = fl N (lfA bs c N (d + 1)) := fl_congr fun q _ => by
  unfold lfM
  rw [List.take_of_length_le h, lfA]
  simp only []
  rw [lfK_row]
  rfl
theorem lfM_step (bs : List Nat) (c : Int) {N d m p q : Nat} (hp : p = N - (d + 1)) (hm : m < (upR bs c N p).length) (hq : (upR bs c N p).getD m 0 = (q : Int)) (hpq : p < q) :
    (fl N (lfM bs c N d m)).set p (max (lfM bs c N d m p) (lfM bs c N d m q + 1)) = fl N (lfM bs c N d (m + 1)) := by
  have hget : (upR bs c N p)[m] = (q : Int) := by simpa [List.getD, List.getElem?_eq_getElem hm] using hq
  have htake : (upR bs c N p).take (m + 1) = (upR bs c N p).take m ++ [(q : Int)] := by rw [List.take_succ_eq_append_getElem hm, hget]
  subst hp
  refine fl_set _ _ _ ?_ fun r _ hr => by simp [lfM, hr]
  unfold lfM
  rw [if_pos rfl, if_pos rfl, if_neg (by omega), htake, lrM_snoc, Int.toNat_natCast]
theorem lrM_bd {L : Nat → Int} {B : Int} : ∀ (xs : List Int), 1 ≤ B → (∀ z ∈ xs, L z.toNat + 1 ≤ B) → 1 ≤ lrM L xs ∧ lrM L xs ≤ B := by
  intro xs hB
  unfold lrM
  suffices ∀ a : Int, 1 ≤ a → a ≤ B → (∀ z ∈ xs, L z.toNat + 1 ≤ B) → 1 ≤ xs.foldl (fun a z => max a (L z.toNat + 1)) a ∧ xs.foldl (fun a z => max a (L z.toNat + 1)) a ≤ B from fun h => this 1 (by omega) hB h
  induction xs with
  | nil => intro a h1 h2 _; exact ⟨h1, h2⟩
  | cons x xs ih =>
    intro a h1 h2 h3
    rw [List.foldl_cons]
    exact ih _ (by omega) (by have := h3 x (by simp); omega) fun z hz => h3 z (by simp [hz])
theorem lfA_bd0 (bs : List Nat) (c : Int) {N : Nat} : ∀ d, d ≤ N → ∀ q, q < N → 0 ≤ lfA bs c N d q ∧ lfA bs c N d q ≤ N
  | d, hd, q, hq => by
    by_cases h : N - d ≤ q
    · have := lfA_bd bs c d hd q h hq
      omega
    · have : ∀ e, e ≤ d → lfA bs c N e q = 0 := by
        intro e
        induction e with
        | zero => intro _; rfl
        | succ e ih =>
          intro he
          rw [lfA]
          simp only []
          rw [if_neg (by omega)]
          exact ih (by omega)
      rw [this d (Nat.le_refl _)]
      omega
theorem lfM_bd (bs : List Nat) (c : Int) {N d m q : Nat} (hd : d < N) (hq : q < N) : 0 ≤ lfM bs c N d m q ∧ lfM bs c N d m q ≤ N + 1 := by
  unfold lfM
  split
  · have := lrM_bd (L := lfA bs c N d) (B := N + 1) ((upR bs c N (N - (d + 1))).take m) (by omega) fun z hz => by
      obtain ⟨r, e, _, h2, _⟩ := upR_mem.1 (List.mem_of_mem_take hz)
      subst e
      have := lfA_bd0 bs c (N := N) d (by omega) r h2
      rw [Int.toNat_natCast]; omega
    omega
  · have := lfA_bd0 bs c (N := N) d (by omega) q hq
    omega
/-- The lengths as far as they are made, and the variable that holds them. -/
def RelLf (N : Nat) (f : Nat → Int) (w wr : World) : Prop :=
  Blk wr w.heap.size (icells (fl N f)).toArray 2 ∧ Blk wr (w.heap.size + 1) #[.slice (some ⟨w.heap.size, 0, none⟩) N N] 25 ∧ Below w.heap.size w wr
theorem RelLf.more {N : Nat} {f : Nat → Int} {w wr w2 : World} {B : Nat} (h : RelLf N f w wr) (hB : w.heap.size + 1 < B) (hb : Below B wr w2) : RelLf N f w w2 :=
  ⟨h.1.below hb (by omega), h.2.1.below hb hB, h.2.2.trans (hb.mono (by omega))⟩
theorem RelLf.drew {N : Nat} {f : Nat → Int} {w wr : World} (h : RelLf N f w wr) : RelLf N f w wr.drew := h.more h.2.1.lt (Below.refl _ _).drew
theorem RelLf.store {N q : Nat} {f g : Nat → Int} {w wr : World} {v : Int} (h : RelLf N f w wr) (e : (fl N f).set q v = fl N g) : RelLf N g w (wr.setCell ⟨w.heap.size, q, none⟩ (.int .i64 v)) :=
  ⟨fl_store h.1 e, h.2.1.other _ _ (by show _ ≠ w.heap.size; omega), h.2.2.setCell (p := ⟨w.heap.size, q, none⟩) (Nat.le_refl _) _⟩
/-- The same, and what the function that hands out the rows needs. -/
def RelLg (N : Nat) (f : Nat → Int) (w : World) (bs : List Nat) (B : Nat) (Wx wr : World) : Prop := RelLf N f w wr ∧ Kx bs B Wx wr
theorem RelLg.drew {N : Nat} {f : Nat → Int} {w : World} {bs : List Nat} {B : Nat} {Wx wr : World} (h : RelLg N f w bs B Wx wr) : RelLg N f w bs B Wx wr.drew := ⟨h.1.drew, h.2.trans (Kx.refl _ _ _)⟩
theorem RelLg.store {N q : Nat} {f g : Nat → Int} {w : World} {bs : List Nat} {B : Nat} {Wx wr : World} {v : Int} (h : RelLg N f w bs B Wx wr) (hB : w.heap.size < B) (hb : ¬ w.heap.size ∈ bs) (e : (fl N f).set q v = fl N g) :
    RelLg N g w bs B Wx (wr.setCell ⟨w.heap.size, q, none⟩ (.int .i64 v)) :=
  ⟨h.1.store e, h.2.trans ⟨by simp [World.setCell], fun k hk hx => heap_setCell_other wr ⟨w.heap.size, q, none⟩ k (.int .i64 v) (by
    show k ≠ w.heap.size
    rcases hx with hx | hx
    · omega
    · intro e; subst e; exact hb hx)⟩⟩
end Go.Proofs.YtmeihpakbhfipaaDoor
