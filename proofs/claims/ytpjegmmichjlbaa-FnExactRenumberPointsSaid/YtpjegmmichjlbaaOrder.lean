/- Orders: the program's test. -/
import Derived.Test.YtpjegmmichjlbaaSort
import Derived.Test.YtpjegmmichjlbaaClq
import Derived.Test.YtpjegmmichjlbaaPartOn
namespace Go.Proofs.Ytpjegmmichjlbaa
set_option linter.unusedVariables false
set_option linter.unusedSimpArgs false
open Go Go.RowKit Go.Shelf
/-- All numbers below n, each once. -/
def ordB (zs : List Int) (n : Int) : Bool := decide ((zs.length : Int) = n) && (allB zs n && decide zs.Nodup)
theorem srt_perm (zs : List Int) : (srt zs).Perm zs := List.mergeSort_perm zs _
theorem srt_pair (zs : List Int) : (srt zs).Pairwise (· ≤ ·) := by
  have h := List.pairwise_mergeSort (le := fun (x y : Int) => decide (x ≤ y)) (fun a b c h1 h2 => by simp at *; omega) (fun a b => by simp; omega) zs
  exact h.imp fun h => by simpa using h
theorem allB_mem {zs : List Int} {n : Int} : allB zs n = true ↔ ∀ z ∈ zs, belowB z n = true := by
  unfold allB; exact List.all_eq_true
theorem pair_asc {zs : List Int} (h : zs.Pairwise (· < ·)) : ascB zs = true := by
  refine ascB_yes (m := zs.length) (fun i _ hi => ?_) (by omega)
  have := List.pairwise_iff_getElem.1 h i (i + 1) (by omega) hi (by omega)
  simpa [List.getD, List.getElem?_eq_getElem (show i < zs.length by omega), List.getElem?_eq_getElem hi] using this
theorem srt_set (zs : List Int) (n : Int) : setB (srt zs) n = (allB zs n && decide zs.Nodup) := by
  have hall : allB (srt zs) n = allB zs n := by
    rw [Bool.eq_iff_iff, allB_mem, allB_mem]
    exact ⟨fun h z hz => h z ((srt_perm zs).mem_iff.2 hz), fun h z hz => h z ((srt_perm zs).mem_iff.1 hz)⟩
  cases ha : allB zs n with
  | false => unfold setB; rw [hall, ha, Bool.and_false]; rfl
  | true =>
    rw [Bool.true_and, Bool.eq_iff_iff, decide_eq_true_iff]
    constructor
    · intro h
      have hp := set_pair h
      have : (srt zs).Nodup := hp.imp fun h e => by omega
      exact (srt_perm zs).nodup_iff.1 this
    · intro h
      have hn : (srt zs).Nodup := (srt_perm zs).nodup_iff.2 h
      have hp : (srt zs).Pairwise (· < ·) := by
        have := List.Pairwise.and (srt_pair zs) hn
        exact this.imp fun h => by have h1 := h.1; have h2 := h.2; omega
      unfold setB
      rw [pair_asc hp, hall, ha]; rfl
set_option maxRecDepth 100000 in
set_option maxHeartbeats 1000000 in
theorem order65 (zs : List Int) (a : Option Addr) (cap : Nat) (n : Int) (w : World) (hs : SlI w a zs) (hl : zs.length ≤ 9223372036854775807) (n1 : 1 ≤ n) (n2 : n ≤ 17) :
    Calls Try.prog 65 #[.slice a zs.length cap, .int .i64 n] w fun e w' => e = .returned (.bool (ordB zs n)) ∧ Below w.heap.size w w' := by
  by_cases hn : (zs.length : Int) = n
  · have HO := hidd (show ordB zs n = setB (srt zs) n by unfold ordB; rw [decide_eq_true hn, Bool.true_and, srt_set])
    have hq : ((zs.length : Int) == n) = true := by simpa using hn
    have HSL := hidd (hs.below ((Below.refl w.heap.size w).alloc (Nat.le_refl _) (.cells #[.slice a zs.length cap] 38)) (Nat.le_refl _))
    have hz1 : 1 ≤ zs.length := by omega
    have hz2 : zs.length ≤ 17 := by omega
    clear hs hn
    go_enter Try.func65, Try.ntmps65
    go_wp2_with (go_at_call 84; refine (values84 a zs.length cap w).mono ?_; rintro e w' ⟨rfl, rfl⟩)
    refine (sorted83 w.heap.size zs a cap hz1 (by omega) _ (by simp) ((Blk.new w #[.slice a zs.length cap] 38 _ rfl).cell rfl) HSL.out).mono ?_
    rintro e w1 ⟨v, rfl, hown, hb1⟩
    obtain ⟨a1, cap1, rfl, ho⟩ := own_list hown
    have G := hidd (And.intro ho.sl (((Below.refl w.heap.size w).alloc (Nat.le_refl _) (.cells #[.slice a zs.length cap] 38)).trans (hb1.mono (by simp))))
    have hl1 := hidd (srt_len zs)
    clear hown ho hb1
    go_wp2_with fail
    refine (set69 (srt zs) a1 cap1 n _ G.out.1 (by have := hl1.out; omega)).mono ?_
    rintro e w2 ⟨rfl, hb2⟩
    have R := hidd (G.out.2.trans (hb2.mono G.out.2.size))
    clear hb2
    go_wp2
    go_ret
    exact ⟨by rw [HO.out]; rfl, R.out⟩
  · have HO := hidd (show ordB zs n = false by unfold ordB; rw [decide_eq_false hn]; rfl)
    have hq : ((zs.length : Int) == n) = false := by rw [beq_eq_false_iff_ne]; exact hn
    clear hs hn
    go_enter Try.func65, Try.ntmps65
    go_wp2
    go_ret
    exact ⟨by rw [HO.out]; rfl, Below.refl _ _⟩
end Go.Proofs.Ytpjegmmichjlbaa
