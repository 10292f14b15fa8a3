/- The iterator of the cliques: its order is that of the lists. -/
import Derived.Test.YtckffliiidgilaaDoorCqo
import Derived.Test.YtckffliiidgilaaDoorCliques
import Derived.WalkMore
namespace Go.Proofs.YtckffliiidgilaaDoor
set_option linter.unusedVariables false
set_option linter.unusedSimpArgs false
open Go Go.RowKit Go.Shelf
attribute [local go_sem] Oper.semAt_some
section
variable {P : Program} {b : Frame} {a : Act} {k : List Item} {cs : List Frame} {w : World} {Q : Exit → Act → World → Prop} {F : Fence} {n : Nat}
theorem stepR_scope {c : Code} : step P (lone (b.atR a (.code (.scope c) :: k)) cs w) = .next (lone (b.atR a (.code c :: .inScope c :: k)) cs w) :=
  step_lone_go (by simp [stepG, stepG.exec, Frame.atR])
theorem stepR_inScope {c : Code} : step P (lone (b.atR a (.inScope c :: k)) cs w) = .next (lone (b.atR a k) cs w) :=
  step_lone_go (by simp [stepG, stepG.exec, Frame.atR])
/-- A scope through which the run goes without a jump, inside a fence. -/
theorem wpIn_scope_straight {c : Code} (h : c.wpIn F n P (Exit.noGoto Q) a w) : (Code.scope c).wpIn F n P Q a w := by
  intro b k cs hro hb hr
  have h0 : (lone (b.atR a (.code (.scope c) :: k)) cs w).fenced P F := fenced_calm hb hr rfl
  obtain ⟨e, a₁, w₁, hq, harr⟩ := h b (.inScope c :: k) cs hro hb hr
  cases e with
  | normal => exact ⟨.normal, a₁, w₁, hq, .head h0 stepR_scope (StepsIn.trans harr (.one (fenced_calm hb hr rfl) stepR_inScope))⟩
  | exit id =>
    have hx : exitTo id (.inScope c :: k) = exitTo id k := by simp [exitTo]
    exact ⟨.exit id, a₁, w₁, hq, .of_steps (.one h0 stepR_scope) ⟨fun k' hk => harr.1 k' (by rw [hx]; exact hk), fun h1 h2 => harr.2 h1 (by rw [hx]; exact h2)⟩⟩
  | goto l => exact hq.elim
  | ret => exact ⟨_, a₁, w₁, hq, .of_steps (.one h0 stepR_scope) harr⟩
  | panic ch => exact ⟨_, a₁, w₁, hq, .of_steps (.one h0 stepR_scope) harr⟩
  | outgrown => exact ⟨_, a₁, w₁, hq, .of_steps (.one h0 stepR_scope) harr⟩
end
def stK (X : Nat) : Nat → List Nat
  | 0 => []
  | k + 1 => if X.testBit k = true then k :: stK X k else stK X k
theorem stK_congr {X Y : Nat} : ∀ k, (∀ j, j < k → X.testBit j = Y.testBit j) → stK X k = stK Y k
  | 0, _ => rfl
  | k + 1, h => by rw [stK, stK, h k (by omega), stK_congr k (fun j hj => h j (by omega))]
theorem stK_bitS : ∀ (k : Nat) (s : List Nat), s.Pairwise (· > ·) → (∀ q ∈ s, q < k) → stK (bitS s) k = s
  | 0, s, _, h => by
    cases s with
    | nil => rfl
    | cons q s => exact absurd (h q (List.mem_cons_self ..)) (by omega)
  | k + 1, s, hp, h => by
    rw [stK]
    cases s with
    | nil =>
      rw [if_neg (by rw [bitS_bit]; simp), stK_bitS k [] hp (by simp)]
    | cons q s =>
      rw [List.pairwise_cons] at hp
      have hq := h q (List.mem_cons_self ..)
      by_cases e : q = k
      · subst e
        rw [if_pos (by rw [bitS_bit]; simp)]
        congr 1
        rw [stK_congr (Y := bitS s) q (fun j hj => ?_), stK_bitS q s hp.2 (fun p hp' => hp.1 p hp')]
        rw [bitS_bit, bitS_bit]
        simp [show ¬ j = q by omega]
      · have hk : ¬ k ∈ q :: s := by
          intro hm
          rcases List.mem_cons.1 hm with h1 | h1
          · exact e h1.symm
          · have := hp.1 k h1; omega
        rw [if_neg (by rw [bitS_bit]; simp only [decide_eq_true_eq]; exact hk)]
        exact stK_bitS k (q :: s) (List.pairwise_cons.2 hp) (fun p hp' => by
          have h1 := h p hp'
          rcases List.mem_cons.1 hp' with h2 | h2
          · omega
          · have := hp.1 p h2; omega)
/-- What a round of the search still has before it. -/
def mea (F : Nat → Nat) (N : Nat) (X l : Nat) : Nat := 2 * (cqR (fitR F) N (stK X 17) (N - l)).length + (stK X 17).length
theorem mea_eq {F : Nat → Nat} {N l : Nat} {s : List Nat} (hN : N ≤ 17) (hl : l ≤ N) (hp : s.Pairwise (· > ·)) (h : ∀ q ∈ s, q < l) : mea F N (bitS s) l = 2 * (cqR (fitR F) N s (N - l)).length + s.length := by
  unfold mea
  rw [stK_bitS 17 s hp (fun q hq => by have := h q hq; omega)]
/-- A clique as the iterator tells it: its last point first. -/
def Cl (N : Nat) : Type := { s : List Nat // s.Pairwise (· > ·) ∧ (∀ q ∈ s, q < N) ∧ s ≠ [] }
def Cl.v {N : Nat} (x : Cl N) : List Nat := x.1
def encC {N : Nat} (x : Cl N) : Array Value := #[.int .u32 (bitS x.1 : Nat)]
def KpC (bx bn : Nat) (W W' : World) : Prop := KpB bx W W' ∧ KpB bn W W'
theorem below_grows {W W' : World} (h : Below W.heap.size W W') : W.grownBy W' none := ⟨h.os, h.tape, h.output, h.size, fun k hk _ => h.block k hk⟩
def RelCi (bx bn N : Nat) (CC NN : Array Value) (F : Nat → Nat) (J : List (Cl N) → World → Prop) (s : List Nat) (l : Nat) (wr : World) : Prop :=
  (∃ ys : List (Cl N), ys.map Cl.v ++ cqR (fitR F) N s (N - l) = cqR (fitR F) N [] N ∧ J ys wr) ∧ Blk wr bx CC 28 ∧ Blk wr bn NN 125
theorem RelCi.grow {bx bn N : Nat} {CC NN : Array Value} {F : Nat → Nat} {J : List (Cl N) → World → Prop} {s : List Nat} {l B : Nat} {wr w1 : World} (hJ : AbidesFrom B J) (h : RelCi bx bn N CC NN F J s l wr) (hb : Below wr.heap.size wr w1) : RelCi bx bn N CC NN F J s l w1 := by
  obtain ⟨⟨ys, h1, h2⟩, h3, h4⟩ := h
  exact ⟨⟨ys, h1, hJ _ _ _ none h2 (below_grows hb) (fun r e => by cases e)⟩, h3.below hb h3.lt, h4.below hb h4.lt⟩
theorem RelCi.skip {bx bn N : Nat} {CC NN : Array Value} {F : Nat → Nat} {J : List (Cl N) → World → Prop} {s : List Nat} {p : Nat} {wr : World} (h : RelCi bx bn N CC NN F J s p wr) (hp : p < N) (hf : fitR F s p = false) : RelCi bx bn N CC NN F J s (p + 1) wr := by
  obtain ⟨⟨ys, h1, h2⟩, h3⟩ := h
  refine ⟨⟨ys, ?_, h2⟩, h3⟩
  rw [← h1, show N - p = (N - (p + 1)) + 1 by omega, cqR_skip (by rw [show N - (N - (p + 1) + 1) = p by omega]; exact hf)]
theorem cq_skip {F : Nat → Nat} {N p : Nat} {s : List Nat} (hp : p < N) (hf : fitR F s p = false) : cqR (fitR F) N s (N - (p + 1)) = cqR (fitR F) N s (N - p) := by
  have e : N - (N - (p + 1) + 1) = p := by omega
  rw [show N - p = (N - (p + 1)) + 1 by omega, cqR_skip (by rw [e]; exact hf)]
theorem cq_fit {F : Nat → Nat} {N p : Nat} {s : List Nat} (hp : p < N) (hf : fitR F s p = true) : cqR (fitR F) N s (N - p) = (p :: s) :: cqR (fitR F) N (p :: s) (N - (p + 1)) := by
  have e : N - (N - (p + 1) + 1) = p := by omega
  rw [show N - p = (N - (p + 1)) + 1 by omega, cqR_fit (by omega) (by rw [e]; exact hf), e]
set_option maxRecDepth 100000 in
set_option maxHeartbeats 1000000 in
theorem iter58 (m l bx bn : Nat) (N : Nat) (k : Int) (bs : List Nat) (hb : Bys bs) (F : Nat → Nat) (hN1 : 1 ≤ N) (hN : N ≤ 17) (hF : ∀ p, F p < 2 ^ 17) (hsym : ∀ p q, p < N → q < N → (F q).testBit p = (F p).testBit q) (J Jx : List (Cl N) → World → Prop)
    (B : Nat) (hJ : AbidesFrom B J)
    (hY : ∀ pre x W, J pre W → pre.length < (cqR (fitR F) N [] N).length → YieldAt Fence.wide m Tryd.prog l (encC x) W fun e W' =>
      (e = .returned (.bool true) ∧ J (pre ++ [x]) W' ∧ KpC bx bn W W') ∨ (e = .returned (.bool false) ∧ Jx (pre ++ [x]) W'))
    (W : World) (hB1 : Blk W bx (ccells (N : Int) k bs).toArray 28) (hB2 : Blk W bn (ncell F).toArray 125) (h0 : J [] W) :
    CallsIn Fence.wide (m + 1) Tryd.prog 110 #[.func (.yield l) #[] #[], .pointer (some ⟨bx, 0, none⟩), .pointer (some ⟨bn, 0, none⟩)] W fun e W' => (∃ v, e = .returned v) ∧
      ((∃ ys : List (Cl N), ys.map Cl.v = cqR (fitR F) N [] N ∧ J ys W') ∨ (∃ pre : List (Cl N), (∃ rest, pre.map Cl.v ++ rest = cqR (fitR F) N [] N) ∧ Jx pre W')) := by
  have HF := hidd hF
  have HSY := hidd hsym
  have HJ := hidd hJ
  have HY := hidd hY
  have hfn : ∀ f, Fence.wide.fn f := fun _ => trivial
  have HC0 := hidd (show (ccells (N : Int) k bs).toArray[0]? = some (.int .i64 (N : Int)) from rfl)
  have HS1 := hidd (size_n F)
  have H0 := hidd (show RelCi bx bn N (ccells (N : Int) k bs).toArray (ncell F).toArray F J [] 0 W from ⟨⟨[], rfl, h0⟩, hB1, hB2⟩)
  clear hF hsym hY hJ h0 hB1 hB2
  refine callsIn_of_wp Tryd.func110 rfl trivial ?_ rfl
  simp only [Tryd.ntmps110, List.size_toArray, List.length_cons, List.length_nil, Nat.reduceAdd, Nat.reduceSub, Array.replicate_succ, Array.replicate_zero, List.push_toArray, List.append_toArray, List.nil_append, List.cons_append]
  gi_wp2_with (first | apply wpIn_scope_straight | apply wpIn_label)
  gi_loopw [4, 5] (fun c h wr => ∃ (s : List Nat) (a X : Nat), a ≤ N ∧ X < 2 ^ 17 ∧ c = .int .u32 (X : Int) ∧ h = .int .i64 (a : Int) ∧ Hid (s.Pairwise (· > ·) ∧ (∀ q ∈ s, q < a) ∧ X = bitS s) ∧ Hid (RelCi bx bn N (ccells (N : Int) k bs).toArray (ncell F).toArray F J s a wr))
    (fun c h _ => mea F N (intOf c).toNat (intOf h).toNat)
  case atStart => exact ⟨[], 0, 0, by omega, by omega, rfl, rfl, ⟨List.Pairwise.nil, by simp, rfl⟩, H0.out⟩
  case round =>
    obtain ⟨s, a, X, ha, hX, rfl, rfl, HS, HR⟩ := hrel
    obtain ⟨wo, rfl⟩ : ∃ wo : World, wo = wr := ⟨_, rfl⟩
    gi_wp2
    gi_loopw [4, 5, 6] (fun c h e wr => c = .int .u32 (X : Int) ∧ h = .int .i64 (a : Int) ∧ ∃ p : Nat, p ≤ N ∧ a ≤ p ∧ e = .int .i64 (p : Int) ∧ Hid (cqR (fitR F) N s (N - p) = cqR (fitR F) N s (N - a)) ∧ Hid (RelCi bx bn N (ccells (N : Int) k bs).toArray (ncell F).toArray F J s p wr))
      (fun _ _ e _ => N - (intOf e).toNat)
    case atStart => exact ⟨rfl, rfl, a, ha, by omega, rfl, rfl, HR.out⟩
    case round =>
      obtain ⟨rfl, rfl, p, hp, hpa, rfl, HCQ, HR2⟩ := hrel
      have c0 := HR2.out.2.1.cell HC0.out
      have hsp : ∀ q ∈ s, q < p := fun q hq => by have := HS.out.2.1 q hq; omega
      have HSP := hidd hsp
      clear hsp
      by_cases hlt : p < N
      · have HFT := hidd (fun W => fits59 F X p (HF.out p) hX (by omega) W)
        have hiff := adn_fit (R := F) (s := s) (p := p) (fun q hq => by have := HSP.out q hq; omega) (fun q hq => HSY.out p q hlt (by have := HSP.out q hq; omega))
        rw [← HS.out.2.2] at hiff
        cases hv : (((adn X (F p) : Nat) : Int) == 0) with
        | true =>
          rw [hv] at HFT
          have hft : fitR F s p = true := hiff.1 (by have := beq_iff_eq.1 hv; omega)
          have t1 : min p 64 = p := by omega
          have p1 : 2 ^ p < 2 ^ 17 := Nat.pow_lt_pow_right (by omega) (by omega)
          obtain ⟨P1, hP1⟩ : ∃ P1, P1 = 2 ^ p := ⟨_, rfl⟩
          have s1 : IntKind.u32.wrap (2 ^ p) = (P1 : Int) := by rw [hP1]; rw [show ((2 : Int) ^ p) = ((2 ^ p : Nat) : Int) by simp]; exact u32_in (by omega) (by omega)
          have u1 := u32_or_nat X P1 (by omega) (by omega)
          obtain ⟨Y, hYe⟩ : ∃ Y, Y = X ||| P1 := ⟨_, rfl⟩
          rw [← hYe] at u1
          have hY17 : Y < 2 ^ 17 := by rw [hYe]; exact Nat.or_lt_two_pow hX (by omega)
          have hYb : Y = bitS (p :: s) := by rw [hYe, HS.out.2.2, hP1]; rfl
          have HYB := hidd hYb
          clear hYe hP1 hiff p1 hYb hv
          gi_wp2_with (refine inLoadRow rfl 125 (.tmp 2) rfl bn rfl 125 _ _ HR2.out.2.2 Tryd.underlying125 rfl HS1.out ?_)
          refine (callsIn_wide.2 (HFT.out _)).mono ?_
          rintro e w1 ⟨rfl, hb1⟩
          obtain ⟨⟨ys, hys, hJy⟩, hBx, hBn⟩ := HR2.out.grow HJ.out hb1
          rw [cq_fit hlt hft] at hys
          have hlen : ys.length < (cqR (fitR F) N [] N).length := by rw [← hys]; simp
          have HYS := hidd hys
          have HSO := hidd (show (p :: s).Pairwise (· > ·) ∧ (∀ q ∈ p :: s, q < p + 1) from ⟨List.pairwise_cons.2 ⟨HSP.out, HS.out.1⟩, fun q hq => by
            rcases List.mem_cons.1 hq with h1 | h1
            · omega
            · have := HSP.out q h1; omega⟩)
          obtain ⟨fn, tmps, assign, body, hy, hR⟩ := HY.out ys ⟨p :: s, HSO.out.1, fun q hq => by have := HSO.out.2 q hq; omega, by simp⟩ w1 hJy hlen
          have HK := hidd (And.intro hBx hBn)
          have HRR := hidd hR
          clear hBx hBn hR hlen hJy hys hb1
          dsimp only [encC] at hy
          rw [← HYB.out] at hy
          gi_wp2
          refine HRR.out.mono ?_
          rintro e W3 (⟨rfl, hJ3, hk3⟩ | ⟨rfl, hx3⟩)
          · have K3 := hidd (show RelCi bx bn N (ccells (N : Int) k bs).toArray (ncell F).toArray F J (p :: s) (p + 1) W3 from ⟨⟨_, by rw [List.map_append, ← HYS.out, List.append_assoc]; rfl, hJ3⟩, blk_kp HK.out.1 hk3.1, blk_kp HK.out.2 hk3.2⟩)
            clear hJ3 hk3
            gi_wp2
            go_roundw
            case rel => exact ⟨p :: s, p + 1, Y, by omega, hY17, rfl, by go_num, ⟨HSO.out.1, HSO.out.2, HYB.out⟩, K3.out⟩
            case measure =>
              have hm1 := mea_eq (F := F) (l := p + 1) hN (by omega) HSO.out.1 HSO.out.2
              have hm2 := mea_eq (F := F) (l := a) hN ha HS.out.1 HS.out.2.1
              rw [← HYB.out] at hm1
              rw [← HS.out.2.2, ← HCQ.out, cq_fit hlt hft] at hm2
              show mea F N (Y : Int).toNat ((p : Int) + 1).toNat < mea F N (X : Int).toNat (a : Int).toNat
              rw [show ((p : Int) + 1).toNat = p + 1 by omega, Int.toNat_natCast, Int.toNat_natCast, Int.toNat_natCast, hm1, hm2]
              simp only [List.length_cons]; omega
          · have X3 := hidd hx3
            clear hx3
            gi_wp2
            rw [Exit.noGoto_ret]
            refine bodyPost_ret (results_none rfl _ _ _) rfl ?_
            exact ⟨⟨_, rfl⟩, .inr ⟨_, ⟨cqR (fitR F) N (p :: s) (N - (p + 1)), by rw [List.map_append, ← HYS.out, List.append_assoc]; rfl⟩, X3.out⟩⟩
        | false =>
          rw [hv] at HFT
          have hft : fitR F s p = false := by
            cases hf : fitR F s p with
            | false => rfl
            | true => have := hiff.2 hf; rw [this] at hv; exact absurd hv (by decide)
          clear hiff hv
          gi_wp2_with (refine inLoadRow rfl 125 (.tmp 2) rfl bn rfl 125 _ _ HR2.out.2.2 Tryd.underlying125 rfl HS1.out ?_)
          refine (callsIn_wide.2 (HFT.out _)).mono ?_
          rintro e w1 ⟨rfl, hb1⟩
          have K1 := hidd ((HR2.out.grow HJ.out hb1).skip hlt hft)
          have HCS := hidd ((cq_skip hlt hft).trans HCQ.out)
          clear hb1
          gi_wp2
          go_roundw
          case rel => exact ⟨rfl, rfl, p + 1, by omega, by omega, by go_num, HCS.out, K1.out⟩
          case measure => simp [intOf]; omega
      · have hpN : p = N := by omega
        subst hpN
        by_cases hX0 : X = 0
        · subst hX0
          have hs0 : s = [] := bitS_zero.1 HS.out.2.2.symm
          subst hs0
          obtain ⟨⟨ys, hys, hJy⟩, hBx, hBn⟩ := HR2.out
          rw [Nat.sub_self, cqR_end, List.append_nil] at hys
          have K1 := hidd (And.intro hys hJy)
          clear hys hJy hBx hBn
          gi_wp2
          rw [Exit.noGoto_ret]
          refine bodyPost_ret (results_none rfl _ _ _) rfl ?_
          exact ⟨⟨_, rfl⟩, .inl ⟨_, K1.out⟩⟩
        · obtain ⟨q, s', rfl⟩ : ∃ q s', s = q :: s' := by
            cases s with
            | nil => exact absurd (by rw [HS.out.2.2]; rfl) hX0
            | cons q s' => exact ⟨q, s', rfl⟩
          have hpw := List.pairwise_cons.1 HS.out.1
          have hqa := HS.out.2.1 q (List.mem_cons_self ..)
          have hlq : ∀ r ∈ s', r < q := fun r hr => hpw.1 r hr
          have HL := hidd (fun W => last60 hlq (show q < 17 by omega) W)
          rw [← HS.out.2.2] at HL
          have t1 : min q 64 = q := by omega
          have p1 : 2 ^ q < 2 ^ 17 := Nat.pow_lt_pow_right (by omega) (by omega)
          have hdr := adn_drop hlq (show q < 17 by omega)
          rw [← HS.out.2.2] at hdr
          obtain ⟨P1, hP1⟩ : ∃ P1, P1 = 2 ^ q := ⟨_, rfl⟩
          rw [← hP1] at hdr p1
          have s1 : IntKind.u32.wrap (2 ^ q) = (P1 : Int) := by rw [hP1]; rw [show ((2 : Int) ^ q) = ((2 ^ q : Nat) : Int) by simp]; exact u32_in (by omega) (by omega)
          have u1 := u32_andnot_nat X P1 (by omega) (by omega)
          obtain ⟨Y, hYe⟩ : ∃ Y, Y = bitS s' := ⟨_, rfl⟩
          rw [hdr, ← hYe] at u1
          have hY17 : Y < 2 ^ 17 := by rw [hYe]; exact bitS_lt _ (fun r hr => by have := hlq r hr; omega)
          have hXI : ((X : Int) == 0) = false := by rw [beq_eq_false_iff_ne]; omega
          have HYB := hidd hYe
          have HSO := hidd (And.intro hpw.2 hlq)
          have hcq : cqR (fitR F) p (q :: s') (p - p) = cqR (fitR F) p s' (p - (q + 1)) := by rw [Nat.sub_self]; exact cqR_up q s'
          have hcu := HCQ.out
          rw [hcq] at hcu
          have HCU := hidd hcu
          obtain ⟨⟨ys, hys, hJy⟩, hBx, hBn⟩ := HR2.out
          rw [hcq] at hys
          have K1 := hidd (show RelCi bx bn p (ccells (p : Int) k bs).toArray (ncell F).toArray F J s' (q + 1) wr from ⟨⟨ys, hys, hJy⟩, hBx, hBn⟩)
          clear hys hJy hBx hBn hcu hcq hdr p1 hP1 hYe hlq hpw
          gi_wp2_with (gi_at_call 76; refine (callsIn_wide.2 (HL.out _)).mono ?_; rintro e w1 ⟨rfl, rfl⟩)
          go_roundw
          case rel => exact ⟨s', q + 1, Y, by omega, hY17, rfl, by go_num, ⟨HSO.out.1, fun r hr => by have := HSO.out.2 r hr; omega, HYB.out⟩, K1.out⟩
          case measure =>
            have hm1 := mea_eq (F := F) (N := p) (l := q + 1) hN (by omega) HSO.out.1 (fun r hr => by have := HSO.out.2 r hr; omega)
            have hm2 := mea_eq (F := F) (N := p) (l := a) hN ha HS.out.1 HS.out.2.1
            rw [← HYB.out] at hm1
            rw [← HS.out.2.2, ← HCU.out] at hm2
            show mea F p (Y : Int).toNat ((q : Int) + 1).toNat < mea F p (X : Int).toNat (a : Int).toNat
            rw [show ((q : Int) + 1).toNat = q + 1 by omega, Int.toNat_natCast, Int.toNat_natCast, Int.toNat_natCast, hm1, hm2]
            simp only [List.length_cons]; omega
end Go.Proofs.YtckffliiidgilaaDoor
