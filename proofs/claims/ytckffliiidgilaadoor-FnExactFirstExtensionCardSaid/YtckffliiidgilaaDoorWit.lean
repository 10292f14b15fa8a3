/- The listed variable: a world that holds it, and its reading before and behind a call. -/
import Derived.Test.YtckffliiidgilaaDoorErr
import Derived.ChangeVars
import Derived.LaidLaws
import Derived.Stop.ErrReads
import Derived.JoinedOf
import Derived.ChangeSame
namespace Go.Proofs.YtckffliiidgilaaDoor
set_option linter.unusedVariables false
set_option linter.unusedSimpArgs false
open Go Go.RowKit Go.ChangeShapes Go.WideShapes Go.ChangeAt
abbrev errS : ByteArray := { data := #[116, 104, 101, 32, 108, 105, 115, 116, 32, 105, 115, 32, 110, 111, 32, 115, 105, 122, 101, 115, 32, 102, 111, 114, 32, 116, 104, 101, 32, 99, 111, 108, 111, 117, 114, 115, 32, 116, 111, 108, 100] }
noncomputable def low : Nat := (World.holding Tryd.prog default ⟨#[], #[], []⟩).heap.size
noncomputable def laidWorld (os : Os) : World :=
  let w0 := World.holding Tryd.prog os ⟨#[.cells #[.string errS] 172], #[], []⟩
  { w0 with heap := w0.heap.modify 0 fun
      | .cells _ t frozen => .cells #[.iface 147 (.pointer (some ⟨low, 0, none⟩))] t frozen
      | o => o }
theorem laid_met (os : Os) (args : Array Value) : laidMet Tryd.prog [("loop.example/g01362/impl.errNoSizes", Rows.laid_loop_example_g01362_impl_errNoSizes)] ((laidWorld os).forCall (fun _ _ => 0) ⟨#[], args, []⟩).memory :=
  laidMet_of_run (ps := [.cell 0 0, .cell low 0]) 8 (by kernel_rfl) (by kernel_rfl) (by kernel_rfl)
theorem var_below {n : String} {W W' : World} {cs : Array Value} (hb : Below W.heap.size W W') (h : W.var? Tryd.prog n = some cs) : W'.var? Tryd.prog n = some cs := by
  unfold World.var? at h ⊢
  cases hg : Tryd.prog.globalNamed n with
  | none => simp [hg] at h
  | some g =>
    simp only [hg, Option.bind_some] at h ⊢
    have hlt : g < W.heap.size := by
      rcases Nat.lt_or_ge g W.heap.size with h' | h'
      · exact h'
      · simp [Array.getElem?_eq_none h'] at h
    rw [hb.block g hlt]
    exact h
theorem vars_read {H : Type} (enc : TypeId × Value → H) {W : World} {x0 : Value} (h0 : W.var? Tryd.prog "loop.example/g01362/impl.errNoSizes" = some #[x0]) (i0 : IsIface x0) (sp : Nat → Bool) :
    DataW.TrodVars enc Tryd.prog W sp ["loop.example/g01362/impl.errNoSizes"] [tok enc x0] [.cell 0 0] :=
  ⟨0, 107, #[x0], 1, [], [], gErr, gErrT, h0, trod_held Tryd.underlying107 i0 0, rfl, rfl⟩
theorem er_of2 {W : World} (h : laidMetH Tryd.prog [("loop.example/g01362/impl.errNoSizes", Rows.laid_loop_example_g01362_impl_errNoSizes)] W) : ∃ a, Er W a ∧ W.var? Tryd.prog "loop.example/g01362/impl.errNoSizes" = some #[.iface 147 (.pointer (some a))] := by
  obtain ⟨a, s, hv, _, _, _⟩ := laid_sentinel (r := []) (nm := "*errors.errorString") h gErr gErrT Tryd.underlying107 rowErr Tryd.underlying147 Tryd.underlying172 rfl rfl Tryd.underlying9 (by kernel_rfl) (by kernel_rfl)
  exact ⟨a, World.var?_cell gErr hv 0, hv⟩
end Go.Proofs.YtckffliiidgilaaDoor
