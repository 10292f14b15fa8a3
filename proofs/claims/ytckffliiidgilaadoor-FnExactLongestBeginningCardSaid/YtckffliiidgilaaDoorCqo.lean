/- cliquesOf: the sets of neighbours are laid once; and does a point fit. -/
import Derived.Test.YtckffliiidgilaaDoorNear
import Derived.Test.YtckffliiidgilaaDoorFit
namespace Go.Proofs.YtckffliiidgilaaDoor
set_option linter.unusedVariables false
set_option linter.unusedSimpArgs false
open Go Go.RowKit Go.Shelf
set_option maxRecDepth 100000 in
theorem fits59 (R : Nat → Nat) (X p : Nat) (hR : R p < 2 ^ 17) (hX : X < 2 ^ 17) (hp : p < 17) (w : World) :
    Calls Tryd.prog 111 #[.agg (ncell R).toArray, .int .u32 (X : Int), .int .i64 (p : Int)] w fun e w' => e = .returned (.bool (((adn X (R p) : Nat) : Int) == 0)) ∧ Below w.heap.size w w' := by
  have c0 := (Blk.new w (ncell R).toArray 125 _ rfl).cell (ncell_get (f := R) hp)
  obtain ⟨Y, hY⟩ : ∃ Y, Y = R p := ⟨_, rfl⟩
  rw [← hY] at c0 hR
  have hand := u32_andnot_nat X Y (by omega) (by omega)
  obtain ⟨d, hd⟩ : ∃ d, d = adn X Y := ⟨_, rfl⟩
  rw [← hd] at hand
  rw [← hY, ← hd]
  have hp17 : (p : Int) < 17 := by omega
  clear hY hd
  go_enter Tryd.func111, Tryd.ntmps111
  go_wp2_with fail
  go_ret
  exact ⟨rfl, (Below.refl _ _).alloc (Nat.le_refl _) _⟩
set_option maxRecDepth 100000 in
theorem cliques48 (N : Nat) (k c : Int) (bs : List Nat) (hb : Bys bs) (w : World) (N1 : 1 ≤ N) (N2 : N ≤ 17) :
    Calls Tryd.prog 100 #[.agg (ccells (N : Int) k bs).toArray, .int .i64 c] w fun e w' => ∃ bx bn : Nat, e = .returned (.func (.func 110) #[] #[.pointer (some ⟨bx, 0, none⟩), .pointer (some ⟨bn, 0, none⟩)]) ∧
      Blk w' bx (ccells (N : Int) k bs).toArray 28 ∧ Blk w' bn (ncell (nsF bs c (eseq N))).toArray 125 ∧ Below w.heap.size w w' := by
  have Hz := zero84
  have hmf : ∀ (fn : Fn) (first cap : Array Value) (w : World), (Instr.makeFunc fn first cap).run Tryd.prog w = .ok (.func fn first cap) w := fun _ _ _ _ => rfl
  have HS := hidd (size_c26 (N : Int) k hb)
  obtain ⟨F, hF⟩ : ∃ F, F = nsF bs c (eseq N) := ⟨_, rfl⟩
  have HN := hidd (fun W => near57 N k c bs hb W N1 N2)
  rw [← hF] at HN ⊢
  have HS1 := hidd (size_n F)
  have HO1 := hidd (show (ncell fun _ => 0).toArray.size = (ncell F).toArray.size by simp [ncell])
  have HA1 := hidd (ncell_one F)
  clear hF
  go_enter Tryd.func100, Tryd.ntmps100
  go_wp2_with (first
    | (refine wpList_load_row rfl 28 (.tmp 2) rfl w.heap.size rfl 28 _ (0,0) _ (Blk.new _ _ _ _ rfl) Tryd.underlying28 rfl HS.out ?_)
    | (refine wpList_store_row rfl 125 (.tmp 5) (.tmp 8) rfl _ _ rfl rfl 125 _ (Blk.new _ _ _ _ rfl) HS1.out HO1.out HA1.out ?_)
    | (go_at_call 109; refine (HN.out _).mono ?_; rintro e w1 ⟨rfl, hb1⟩))
  have hB := (Blk.new w (ccells (N : Int) k bs).toArray 28 _ rfl).below hb1 (by simp)
  have hbl := ((Below.refl _ _).alloc (Nat.le_refl _) _).trans (hb1.mono (B' := w.heap.size) (by simp))
  have hz1 := hB.lt
  go_ret
  exact ⟨_, _, rfl, (hB.alloc _).rowOther _ _ (by omega), (Blk.new _ _ _ _ rfl).rowSame _, below_setRow (hbl.alloc hbl.size _) (by omega) _⟩
end Go.Proofs.YtckffliiidgilaaDoor
