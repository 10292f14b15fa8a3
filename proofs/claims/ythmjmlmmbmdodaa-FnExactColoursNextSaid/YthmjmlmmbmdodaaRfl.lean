/- ReflectPart: slices.Clone, the program and its model. -/
import Derived.Test.YthmjmlmmbmdodaaPt
import Derived.Test.YthmjmlmmbmdodaaRev
import Derived.WalkSpells
namespace Go.Proofs.Ythmjmlmmbmdodaa
set_option linter.unusedVariables false
set_option linter.unusedSimpArgs false
open Go Go.RowKit Go.Shelf Go.Proofs Go.Sort
theorem empty_own (w : World) : (w.alloc (.cells #[] 2)).ownsRow w.heap.size 2 1 (.slice (some ⟨w.heap.size, 0, none⟩) 0 0) 0 (icells []) :=
  ⟨rfl, .inr ⟨w.heap.size, 0, #[], rfl, Nat.le_refl _, Blk.new _ _ _ _ rfl, Nat.le_refl _, by simp [maxLen], rfl, rfl⟩⟩
set_option maxRecDepth 100000 in
set_option maxHeartbeats 1000000 in
theorem clone41 (b off cap : Nat) (zs : List Int) (w : World) (hs : SlI w (some ⟨b, off, none⟩) zs) (hl : zs.length ≤ 1048576) :
    Calls Try.prog 41 #[.slice (some ⟨b, off, none⟩) zs.length cap] w fun e w' => ∃ g c, e = .returned (.slice (some ⟨g, 0, none⟩) zs.length c) ∧ w'.ownsRow w.heap.size 2 1 (.slice (some ⟨g, 0, none⟩) zs.length c) zs.length (icells zs) ∧ Below w.heap.size w w' := by
  have hq : ∀ W : World, (binOp .eql 22 (.slice (some ⟨b, off, none⟩) zs.length cap) (.slice none 0 0)).run Try.prog W = .ok (.bool false) W := fun W => Lib.run_eql_slice_nil W 22 2 (some ⟨b, off, none⟩) zs.length cap 0 0 Try.underlying22
  obtain ⟨t0, hi2, hz0, hz1, hz3⟩ := info_parts info2
  have HIF := hidd (And.intro hi2 (And.intro hz0 (And.intro hz1 hz3)))
  have hown := empty_own w
  have HSL := hidd hs
  clear hi2 hz0 hz1 hz3 hs
  go_enter Try.func41, Try.ntmps41
  go_wp2_with (at_builtin; refine wpList_append_own _ rfl _ _ 22 rfl w.heap.size 2 t0 (.int .i64 0) 1 8 Try.underlying22 HIF.out.1 HIF.out.2.1 HIF.out.2.2.1 HIF.out.2.2.2 rfl (by decide) _ _ _ rfl hown ⟨b, off, none⟩ zs.length cap (icells zs) rfl ?c0 ?c1 ?c2 ?c3 ?c4 ?c5 ?_)
  case c0 => simp [icells]
  case c1 =>
    intro j u hu
    have hj : j < zs.length := by have := (List.getElem?_eq_some_iff.1 hu).1; simpa [icells] using this
    rcases HSL.out with hz | ⟨b', off', ha, hc⟩
    · subst hz; simp at hj
    · cases ha
      have h1 := hc j hj
      have h2 := (show (icells zs)[j]? = some (Value.int .i64 (zs.getD j 0)) by simpa using icells_get hj)
      rw [h2] at hu; cases hu
      have hlt := block_lt_of_cell h1
      rw [show (⟨b, off, none⟩ : Addr).add j = ⟨b, off + j, none⟩ from by simp [Addr.add]]
      rw [Below.cell ((Below.refl w.heap.size w).alloc (Nat.le_refl _) (.cells #[] 2)) (by exact hlt)]
      exact h1
  case c2 => intro u hu; simp only [icells, List.mem_map] at hu; obtain ⟨x, _, rfl⟩ := hu; rfl
  case c3 => unfold maxLen; omega
  case c4 => omega
  case c5 => simp
  intro v' w1 hown' hgrow hnn
  have hb1 := ((Below.refl w.heap.size w).alloc (Nat.le_refl _) (.cells #[] 2)).grown hgrow (by simp) (fun k hk => by cases hk; exact Nat.le_refl _)
  simp only [Nat.zero_add, icells, List.map_nil, List.nil_append] at hown'
  have R := hidd (And.intro hown' (And.intro hb1 hnn))
  clear hown' hgrow hnn hb1 hown
  go_wp2
  go_ret
  obtain ⟨r1, r2, r3⟩ := R.out
  rcases r1.2 with ⟨rfl, _⟩ | ⟨g, c, cur, rfl, hx⟩
  · exact (r3 rfl).elim
  · exact ⟨g, c, rfl, r1, r2⟩
def rpCode (k : Int) (zs : List Int) : Int := if partB k zs = true then 0 else 2
def rpList (k : Int) (zs : List Int) : List Int := if partB k zs = true then zs.reverse else []
theorem rp_2 {k : Int} {zs : List Int} (h : partB k zs = false) : rpList k zs = [] ∧ rpCode k zs = 2 := by simp [rpList, rpCode, h]
theorem rp_0 {k : Int} {zs : List Int} (h : partB k zs = true) : rpList k zs = zs.reverse ∧ rpCode k zs = 0 := by simp [rpList, rpCode, h]
theorem rpList_len {k : Int} {zs : List Int} : (rpList k zs).length ≤ 1000 := by
  cases h : partB k zs with
  | false => rw [(rp_2 h).1]; simp
  | true => have := partB_bd h; rw [(rp_0 h).1]; simp; omega
set_option maxRecDepth 100000 in
set_option maxHeartbeats 1000000 in
theorem impl30r (k : Int) (zs : List Int) (b : Nat) (cap : Nat) (w : World) (hs : SlI w (some ⟨b, 0, none⟩) zs) (hl : zs.length ≤ 9223372036854775807) :
    Calls Try.prog 30 #[.int .i64 k, .slice (some ⟨b, 0, none⟩) zs.length cap] w (LOut w (rpList k zs) (rpCode k zs)) := by
  have HSL := hidd hs
  clear hs
  cases hp : partB k zs with
  | false =>
    obtain ⟨e1, e2⟩ := rp_2 hp
    have HP := hidd hp
    rw [e1, e2]
    clear hp e1 e2
    go_enter Try.func30, Try.ntmps30
    go_wp2_with (go_at_call 43; refine (isPart43 _ _ _ _ _ HSL.out hl).mono ?_; rintro e w' ⟨rfl, rfl⟩; rw [HP.out])
    go_ret2
    exact lout_nil rfl (Below.refl _ _)
  | true =>
    obtain ⟨e1, e2⟩ := rp_0 hp
    obtain ⟨k1, k2, hl40, _⟩ := partB_bd hp
    have HP := hidd hp
    have HLR := hidd (show zs.reverse.length = zs.length from List.length_reverse)
    rw [e1, e2]
    clear hp e1 e2
    go_enter Try.func30, Try.ntmps30
    go_wp2_with (go_at_call 43; refine (isPart43 _ _ _ _ _ HSL.out hl).mono ?_; rintro e w' ⟨rfl, rfl⟩; rw [HP.out])
    refine (clone41 b 0 cap zs _ HSL.out (by omega)).mono ?_
    rintro e w1 ⟨g, c, rfl, hrow, hb⟩
    rcases hrow.2 with ⟨h0, _⟩ | ⟨gb, cp, cur, hv, hbase, hgb, r1, r2, r3, r4⟩
    · cases h0
    · cases hv
      have hH : Holds (Value.int .i64) w1 g 0 zs.toArray := holds_of_blockI hgb (by simpa [icells] using r4)
      have cR := rev51 g 0 c zs w1 hH (by omega)
      have hr := fun n => ownsRow_sortedI (n := n) (os := #[]) (ss := zs) (ts := zs.reverse) (by simp) hbase hgb r1 r2 r3
      have hbb := fun n => hb.grown (grownBy_sortedI (w := w1) (g := g) (n := n) (os := #[]) zs.reverse.toArray) hb.size (fun j hj => by cases hj; exact hbase)
      simp only [grow_empty] at hr hbb
      have R := hidd (fun n => And.intro (hr n) (hbb n))
      have HCR := hidd cR
      clear hrow hb hgb r1 r2 r3 r4 hH cR hr hbb hbase
      go_wp2_with fail
      refine HCR.out.mono ?_
      rintro e w2 ⟨rfl, n, rfl⟩
      have R1 := R.out n
      have HR1 := hidd R1
      clear R1
      go_wp2_with fail
      go_ret2
      obtain ⟨q1, q2⟩ := HR1.out
      rw [← HLR.out] at q1
      obtain ⟨a', cap', ha', ho⟩ := own_list (zs := zs.reverse) q1
      exact ⟨a', cap', by rw [← ha', HLR.out]; rfl, ho, q2⟩
end Go.Proofs.Ythmjmlmmbmdodaa
