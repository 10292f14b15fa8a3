/- grown: the function that hands out the colourings that begin with one and avoid the sizes. -/
import Derived.Test.YtckffliiidgilaaDoorGrs
namespace Go.Proofs.YtckffliiidgilaaDoor
set_option linter.unusedVariables false
set_option linter.unusedSimpArgs false
open Go Go.RowKit Go.Shelf
attribute [local go_sem] Oper.semAt_some
/-- All of n points, if the first one avoids the sizes. -/
def gwL (zs : List Int) (K n N : Nat) (bs : List Nat) : List (List Nat) := if avP N bs zs K = true then grL zs K (n - N) N bs else []
def encG (n K : Nat) (x : List Nat) : Array Value := #[.agg (ccells (n : Int) (K : Int) x).toArray]
theorem at64 (n k : Int) (bs : List Nat) (hb : Bys bs) (a : Option Addr) (K cap : Nat) (C : Array Value) (hC : C = (scl n k bs a K cap).toArray) (m : Int) (w : World) :
    Calls Tryd.prog 64 #[.agg C, .int .i64 m] w fun e w' => e = .returned (.func (.func 92) #[] #[.pointer (some ⟨w.heap.size, 0, none⟩), .pointer (some ⟨w.heap.size + 1, 0, none⟩)]) ∧ Blk w' w.heap.size C 56 ∧ Blk w' (w.heap.size + 1) #[.int .i64 m] 2 ∧ Below w.heap.size w w' := by
  have hmf : ∀ (fn : Fn) (first cap : Array Value) (w : World), (Instr.makeFunc fn first cap).run Tryd.prog w = .ok (.func fn first cap) w := fun _ _ _ _ => rfl
  have hbb := hidd (((Below.refl w.heap.size w).alloc (Nat.le_refl _) (.cells C 56)).alloc (by simp) (.cells #[.int .i64 m] 2))
  have h1 := hidd ((Blk.new w C 56 _ rfl).alloc (.cells #[.int .i64 m] 2))
  have h2 := hidd (Blk.new (w.alloc (.cells C 56)) #[.int .i64 m] 2 (w.heap.size + 1) (by simp))
  clear hC
  go_enter Tryd.func64, Tryd.ntmps64
  go_wp2_with fail
  go_ret
  exact ⟨rfl, h1.out, h2.out, hbb.out⟩
set_option maxRecDepth 100000 in
set_option maxHeartbeats 4000000 in
theorem grown92 (zs : List Int) (K bl off cap n N b1 b2 : Nat) (bs : List Nat) (w : World) (hl : zs.length = K) (k1 : 1 ≤ K) (hK : K ≤ 4) (hsz : szP zs K = true) (hn : n ≤ 12) (n1 : 1 ≤ N) (hNn : N ≤ n) (hb : Bys bs) (hi : isCol (N : Int) (K : Int) bs = true)
    (hs : SlI w (some ⟨bl, off, none⟩) zs) (hbl : bl < w.heap.size) (hX1 : Blk w b1 (scl (N : Int) (K : Int) bs (some ⟨bl, off, none⟩) K cap).toArray 56) (hX2 : Blk w b2 #[.int .i64 (n : Int)] 2) :
    Gives 0 92 #[.pointer (some ⟨b1, 0, none⟩), .pointer (some ⟨b2, 0, none⟩)] (encG n K) [b1, b2, bl] (gwL zs K n N bs) w := by
  intro l J Jx W hszW hbs hJ hJx hY h0
  have HS56 := hidd (size_s56 (n := (N : Int)) (k := (K : Int)) hb (some ⟨bl, off, none⟩) K cap)
  have HX1 := hidd (show Blk W b1 (scl (N : Int) (K : Int) bs (some ⟨bl, off, none⟩) K cap).toArray 56 from (hbs b1 (by simp)).trans hX1)
  have HX2 := hidd (show Blk W b2 #[.int .i64 (n : Int)] 2 from (hbs b2 (by simp)).trans hX2)
  have HSL := hidd (sl_kept hs (hbs bl (by simp)))
  have HAV := hidd (fun W' (h : Below W.heap.size W W') => avoids50 N K bs hb zs (some ⟨bl, off, none⟩) cap W' (HSL.out.below h (Nat.le_refl _)) hl n1 (by omega) hK hsz)
  have HJ := hidd hJ
  have HJX := hidd hJx
  have H0 := hidd h0
  have hblW : bl < W.heap.size := Nat.lt_of_lt_of_le hbl hszW
  cases hav : avP N bs zs K with
  | false =>
    have hg : gwL zs K n N bs = [] := by unfold gwL; rw [hav]; rfl
    rw [hg]
    rw [hav] at HAV
    obtain ⟨C, hC⟩ : ∃ C, C = (scl (N : Int) (K : Int) bs (some ⟨bl, off, none⟩) K cap).toArray := ⟨_, rfl⟩
    rw [← hC] at HS56 HX1 HAV
    clear hX1 hX2 hs hbs hJ hJx hY h0 hC hg hav
    refine callsIn_of_wp Tryd.func92 rfl trivial ?_ rfl
    simp only [Tryd.ntmps92, List.size_toArray, List.length_cons, List.length_nil, Nat.reduceAdd, Nat.reduceSub, Array.replicate_succ, Array.replicate_zero, List.push_toArray, List.append_toArray, List.nil_append, List.cons_append]
    gi_wp2_with (refine inLoadRow rfl 56 (.tmp 1) rfl b1 rfl 56 _ _ HX1.out Tryd.underlying56 rfl HS56.out ?_)
    refine ⟨trivial, (callsIn_wide.2 (HAV.out _ (Below.refl _ _))).mono ?_⟩
    rintro e w1 ⟨rfl, hb1⟩
    have HF := hidd (HJ.out _ _ _ H0.out hb1)
    clear hb1
    gi_wp2_with fail
    go_end0
    exact ⟨⟨_, rfl⟩, .inl HF.out⟩
  | true =>
    have hg : gwL zs K n N bs = grL zs K (n - N) N bs := by unfold gwL; rw [if_pos hav]
    rw [hg] at hY ⊢
    have h2 := no1_of_av n1 hsz hav
    have HGR := hidd (grow93 zs K bl off cap n hl k1 hK h2 hsz hn (n - N))
    have HY := hidd hY
    rw [hav] at HAV
    have HCC := hidd (And.intro hb hi)
    obtain ⟨C, hC⟩ : ∃ C, C = (scl (N : Int) (K : Int) bs (some ⟨bl, off, none⟩) K cap).toArray := ⟨_, rfl⟩
    have HG2 := hidd (fun w1 (hb1 : Below W.heap.size W w1) => (show Calls Tryd.prog 93 #[.agg C, .int .i64 (n : Int), .func (.yield l) #[] #[]] w1 fun e W' =>
      Kx [b1, b2, bl] W.heap.size w1 W' ∧ ((e = .returned (.bool true) ∧ J (grL zs K (n - N) N bs) W') ∨ (e = .returned (.bool false) ∧ ∃ pre x rest, grL zs K (n - N) N bs = pre ++ x :: rest ∧ Jx (pre ++ [x]) W')) from by
      rw [hC]
      exact HGR.out N bs w1 [b1, b2, bl] W.heap.size l J Jx n1 (by omega) HCC.out.1 HCC.out.2 (HSL.out.below hb1 (Nat.le_refl _)) (by simp) (Nat.lt_of_lt_of_le hblW hb1.size) hb1.size HJ.out HJX.out
        (fun pre x rest W1 _ hall hJ1 => HY.out pre x rest W1 hall hJ1) (HJ.out _ _ _ H0.out hb1)))
    rw [← hC] at HS56 HX1 HAV
    clear hX1 hX2 hs hbs hJ hJx hY h0 hC hg hav h2 hsz
    refine callsIn_of_wp Tryd.func92 rfl trivial ?_ rfl
    simp only [Tryd.ntmps92, List.size_toArray, List.length_cons, List.length_nil, Nat.reduceAdd, Nat.reduceSub, Array.replicate_succ, Array.replicate_zero, List.push_toArray, List.append_toArray, List.nil_append, List.cons_append]
    gi_wp2_with (refine inLoadRow rfl 56 (.tmp 1) rfl b1 rfl 56 _ _ HX1.out Tryd.underlying56 rfl HS56.out ?_)
    refine ⟨trivial, (callsIn_wide.2 (HAV.out _ (Below.refl _ _))).mono ?_⟩
    rintro e w1 ⟨rfl, hb1⟩
    have HB1 := hidd hb1
    have c2 := (HX2.out.below hb1 HX2.out.lt).cell (j := 0) (show _ = some (Value.int .i64 (n : Int)) from rfl)
    have HX3 := hidd (HX1.out.below hb1 HX1.out.lt)
    clear hb1
    gi_wp2_with (refine inLoadRow rfl 56 (.tmp 1) rfl b1 rfl 56 _ _ HX3.out Tryd.underlying56 rfl HS56.out ?_)
    refine ⟨trivial, (callsIn_wide.2 (HG2.out _ HB1.out)).mono ?_⟩
    rintro e w2 ⟨hk, ⟨rfl, h1⟩ | ⟨rfl, h1⟩⟩
    · have HF := hidd h1
      clear hk h1
      gi_wp2_with fail
      go_end0
      exact ⟨⟨_, rfl⟩, .inl HF.out⟩
    · have HF := hidd h1
      clear hk h1
      gi_wp2_with fail
      go_end0
      exact ⟨⟨_, rfl⟩, .inr HF.out⟩
/-- How many there are, at most. -/
theorem exL_many {ok : Nat → Nat → Nat → Bool} {K N : Nat} : ∀ (r : Nat) (s : Nat → Nat) (cs : List Int), (exL ok K N r s cs).length ≤ K ^ r
  | 0, s, cs => by rw [exL]; simp
  | r + 1, s, cs => by
    rw [exL, Nat.pow_succ, Nat.mul_comm]
    refine fm_len K fun c _ => ?_
    split
    · exact exL_many r _ _
    · exact Nat.zero_le _
theorem grL_many (zs : List Int) {K M : Nat} (hK : K ≤ 4) : ∀ (r N : Nat) (bs : List Nat), N + r ≤ M + 1 → (grL zs K r N bs).length ≤ (4 ^ M) ^ r
  | 0, N, bs, _ => by rw [grL]; simp
  | r + 1, N, bs, h => by
    rw [grL, Nat.pow_succ, Nat.mul_comm]
    have h1 : (exA bs N K zs).length ≤ 4 ^ M := Nat.le_trans (exL_many N _ _) (Nat.le_trans (Nat.pow_le_pow_left hK N) (Nat.pow_le_pow_right (by decide) (by omega)))
    have key : ∀ L : List (List Int), (L.flatMap fun cs => grL zs K r (N + 1) (puB N bs cs)).length ≤ L.length * (4 ^ M) ^ r := fun L => by
      induction L with
      | nil => simp
      | cons x L ih =>
        rw [List.flatMap_cons, List.length_append, List.length_cons, Nat.succ_mul]
        rw [Nat.add_comm (L.length * _)]
        exact Nat.add_le_add (grL_many zs hK r (N + 1) (puB N bs x) (by omega)) ih
    exact Nat.le_trans (key _) (Nat.mul_le_mul_right _ h1)
end Go.Proofs.YtckffliiidgilaaDoor
