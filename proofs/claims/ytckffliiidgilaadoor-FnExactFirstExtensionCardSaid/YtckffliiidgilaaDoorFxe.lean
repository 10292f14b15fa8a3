/- FirstExtension: the program, at every argument. -/
import Derived.Test.YtckffliiidgilaaDoorFxg
namespace Go.Proofs.YtckffliiidgilaaDoor
set_option linter.unusedVariables false
set_option linter.unusedSimpArgs false
open Go Go.RowKit Go.Shelf Go.Extern.Stop Go.Stop Go.Extern
theorem sl_some {w : World} {a : Option Addr} {zs : List Int} (hs : SlI w a zs) (hl : 1 ≤ zs.length) : ∃ bl off, a = some ⟨bl, off, none⟩ ∧ bl < w.heap.size := by
  rcases hs with h | ⟨bl, off, ha, hc⟩
  · rw [h] at hl; simp at hl
  · exact ⟨bl, off, ha, block_lt_of_cell (hc 0 (by omega))⟩
theorem impl21 (n k : Int) (bs : List Nat) (hb : Bys bs) (zs : List Int) (a : Option Addr) (cap : Nat) (e0 : Addr) (w : World) (hs : SlI w a zs) (hl : zs.length ≤ 1048576) (hE : Er w e0) :
    Calls Tryd.prog 21 #[.agg (ccells n k bs).toArray, .slice a zs.length cap] w fun e w' => LOut w (fxV n k bs zs) (fxC n k bs zs) e w' := by
  by_cases h0 : eaC 12 n k bs zs = 0
  · obtain ⟨hsz, hav, hn12⟩ := eaC_ok h0
    obtain ⟨hi, ho⟩ := szCode_ok hsz
    obtain ⟨n1, n2, k1, k2⟩ := isCol_bd hi
    obtain ⟨hlk, hsp⟩ := szOk_bd ho
    obtain ⟨N, rfl⟩ := Int.eq_ofNat_of_zero_le (show 0 ≤ n by omega)
    obtain ⟨K, rfl⟩ := Int.eq_ofNat_of_zero_le (show 0 ≤ k by omega)
    have hlK : zs.length = K := by omega
    rw [hlK] at hsp
    obtain ⟨bl, off, rfl, hbl⟩ := sl_some hs (by omega)
    have := impl21_good N K bs hb zs bl off cap e0 w hs hl hE h0 hlK (by omega) (by omega) (by omega) (by omega) (no1_of_av (by omega) hsp hav) hsp hbl
    rw [hlK]
    exact this
  · obtain ⟨hv, hc⟩ := fx_bad h0
    rw [hv, hc]
    exact impl21_bad n k bs hb zs a cap e0 w hs hl hE h0
end Go.Proofs.YtckffliiidgilaaDoor
