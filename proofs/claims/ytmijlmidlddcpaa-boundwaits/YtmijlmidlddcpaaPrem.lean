/- PROVED: what the laws' own premise answers. CONDITIONS: none beyond each theorem's own. -/
import Derived.Test.YtmijlmidlddcpaaHeld
import Derived.Test.YtmijlmidlddcpaaAsked
namespace Go.Proofs.Ytmijlmidlddcpaa
open Go.RowKit

/-- curves, as long, small; what comes keeps to r, what goes is no less than s lets -/
def prem (i o r s : List Int) : Prop := right i ∧ right o ∧ o.length = i.length ∧ r.length = i.length ∧ s.length = i.length ∧ (allIn i ∧ allIn o ∧ allIn r ∧ allIn s) ∧ holds i r ∧ below (conv i s) o
instance (i o r s : List Int) : Decidable (prem i o r s) := inferInstanceAs (Decidable (_ ∧ _ ∧ _ ∧ _ ∧ _ ∧ (_ ∧ _ ∧ _ ∧ _) ∧ _ ∧ _))

theorem contains_n (a : Option Addr) (c n : Nat) (f : List Int) (w : World) (k : Row w a f) (e1 : f.length = n) (h : n ≤ 35184372088832) (b : Bool) (hb : decide (¬ allIn f) = b) :
    Calls Try.prog 23 #[.slice a n c, .func (.func 49) #[] #[]] w fun e w' => e = .returned (.bool b) ∧ w' = w := by
  subst e1; subst hb
  exact contains49_any a c f w k h

/-- one of four -/
def four {α : Type} (a b c d : α) : Nat → α
  | 0 => a
  | 1 => b
  | 2 => c
  | _ => d
theorem four_cell (w : World) (a b c d : Value) (k : Nat) (hk : k < 4) : (w.alloc (.cells #[a, b, c, d] 22)).cell? ⟨w.heap.size, k, none⟩ = some (four a b c d k) := by
  rw [World.cell?_alloc_at _ _ _ _ rfl]
  match k, hk with
  | 0, _ => rfl
  | 1, _ => rfl
  | 2, _ => rfl
  | 3, _ => rfl

set_option maxHeartbeats 3200000 in
theorem premise_same (x0 x1 x2 x3 : Option Addr) (c0 c1 c2 c3 n : Nat) (i o r s : List Int) (w : World) (r0 : Row w x0 i) (r1 : Row w x1 o) (r2 : Row w x2 r) (r3 : Row w x3 s)
    (l0 : Hid (i.length = n)) (l1 : Hid (o.length = n)) (l2 : Hid (r.length = n)) (l3 : Hid (s.length = n)) (hn : n ≤ 17592186044414) (hc : n ≤ c0) (hi : Hid (decide (right i) = true)) (ho : Hid (decide (right o) = true)) :
    Calls Try.prog 27 #[.slice x0 n c0, .slice x1 n c1, .slice x2 n c2, .slice x3 n c3] w fun e w' => e = .returned (.bool (decide ((allIn i ∧ allIn o ∧ allIn r ∧ allIn s) ∧ holds i r ∧ below (conv i s) o))) ∧ Below w.heap.size w w' := by
  have B : Below w.heap.size w w := Below.refl _ _
  have hd : ¬ (n : Int) ≠ (n : Int) := fun h => h rfl
  have hX : Hid (∀ k, k < 4 → four (.slice x0 n c0) (.slice x1 n c1) (.slice x2 n c2) (.slice x3 n c3) k = Value.slice (four x0 x1 x2 x3 k) n (four c0 c1 c2 c3 k)) := fun k hk => by
    match k, hk with
    | 0, _ => rfl
    | 1, _ => rfl
    | 2, _ => rfl
    | 3, _ => rfl
  have hL : Hid (∀ k, k < 4 → (four i o r s k).length = n) := fun k hk => by
    match k, hk with
    | 0, _ => exact l0.out
    | 1, _ => exact l1.out
    | 2, _ => exact l2.out
    | 3, _ => exact l3.out
  have hR : Hid (∀ v, Below w.heap.size w v → ∀ k, k < 4 → Row v (four x0 x1 x2 x3 k) (four i o r s k)) := fun v b k hk => by
    match k, hk with
    | 0, _ => exact r0.kept b
    | 1, _ => exact r1.kept b
    | 2, _ => exact r2.kept b
    | 3, _ => exact r3.kept b
  have hall : Hid ((∀ k, k < 4 → allIn (four i o r s k)) ↔ (allIn i ∧ allIn o ∧ allIn r ∧ allIn s)) := by
    show _ ↔ _
    constructor
    · intro h; exact ⟨h 0 (by omega), h 1 (by omega), h 2 (by omega), h 3 (by omega)⟩
    · rintro ⟨a, b, c, d⟩ k hk
      match k, hk with
      | 0, _ => exact a
      | 1, _ => exact b
      | 2, _ => exact c
      | 3, _ => exact d
  have T1 := tok
  have T2 := tok
  go_enter Try.func27, Try.ntmps27
  go_wp2_with (first
    | (clear T1; go_at_call 22; refine (right_n x0 _ n i _ r0 l0.out (by omega) true hi.out).mono ?_; rintro e v1 ⟨rfl, b1⟩; replace B := bthen B b1; replace r0 := r0.kept b1; replace r1 := r1.kept b1; replace r2 := r2.kept b1; replace r3 := r3.kept b1; clear b1)
    | (clear T2; go_at_call 22; refine (right_n x1 _ n o _ r1 l1.out (by omega) true ho.out).mono ?_; rintro e v2 ⟨rfl, b2⟩; replace B := bthen B b2; replace r0 := r0.kept b2; replace r1 := r1.kept b2; replace r2 := r2.kept b2; replace r3 := r3.kept b2; clear b2))
  have hcell : Hid (∀ k, k < 4 → (v2.alloc (.cells #[.slice x0 n c0, .slice x1 n c1, .slice x2 n c2, .slice x3 n c3] 22)).cell? ⟨v2.heap.size, k, none⟩ = some (.slice (four x0 x1 x2 x3 k) n (four c0 c1 c2 c3 k))) := fun k hk => by rw [four_cell _ _ _ _ _ k hk, hX.out k hk]
  replace B := balloc B (.cells #[.slice x0 n c0, .slice x1 n c1, .slice x2 n c2, .slice x3 n c3] 22)
  replace r0 := r0.alloc (.cells #[.slice x0 n c0, .slice x1 n c1, .slice x2 n c2, .slice x3 n c3] 22)
  replace r1 := r1.alloc (.cells #[.slice x0 n c0, .slice x1 n c1, .slice x2 n c2, .slice x3 n c3] 22)
  replace r2 := r2.alloc (.cells #[.slice x0 n c0, .slice x1 n c1, .slice x2 n c2, .slice x3 n c3] 22)
  replace r3 := r3.alloc (.cells #[.slice x0 n c0, .slice x1 n c1, .slice x2 n c2, .slice x3 n c3] 22)
  generalize v2.alloc (.cells #[.slice x0 n c0, .slice x1 n c1, .slice x2 n c2, .slice x3 n c3] 22) = v3 at hcell B r0 r1 r2 r3 ⊢
  generalize v2.heap.size = O at hcell ⊢
  have hRR : Hid (∀ k, k < 4 → Row v3 (four x0 x1 x2 x3 k) (four i o r s k)) := fun k hk => hR.out v3 B k hk
  clear hR hX hd
  go_loopw [46] (fun i' wr => ∃ k : Nat, k ≤ 4 ∧ i' = .int .i64 k ∧ (∀ j, j < k → allIn (four i o r s j)) ∧ v3 = wr) (fun i' _ => 4 - (intOf i').toNat)
  case atStart => exact ⟨0, Nat.zero_le _, rfl, fun j hj => by omega, rfl⟩
  case round =>
    obtain ⟨k, hk, rfl, hin, rfl⟩ := hrel
    replace hin : Hid _ := hin
    by_cases hlt : k < 4
    · have ck := hcell.out k hlt
      have rk := hRR.out k hlt
      have lk := hL.out k hlt
      have hkI : (k : Int) < 4 := by omega
      have hno : Hid (¬ allIn (four i o r s k) → decide ((allIn i ∧ allIn o ∧ allIn r ∧ allIn s) ∧ holds i r ∧ below (conv i s) o) = false) := fun h => decide_eq_false fun q => h (hall.out.2 q.1 k hlt)
      have hyes : Hid (allIn (four i o r s k) → ∀ j, j < k + 1 → allIn (four i o r s j)) := fun h j hj => by
        by_cases e : j = k
        · subst e; exact h
        · exact hin.out j (by omega)
      by_cases c : allIn (four i o r s k)
      · have hcn := contains_n (four x0 x1 x2 x3 k) (four c0 c1 c2 c3 k) n (four i o r s k) v3 rk lk (by omega) false (decide_eq_false fun q => q c)
        have hy := hyes.out c
        replace hy : Hid _ := hy
        generalize four x0 x1 x2 x3 k = xk at ck hcn
        generalize four c0 c1 c2 c3 k = cp at ck hcn
        clear hno hyes c rk lk hin
        go_wp2_with (go_at_call 23; refine hcn.mono ?_; rintro e w'' ⟨rfl, hw⟩; obtain rfl : v3 = w'' := hw.symm; clear hcn hw)
        go_roundw
        case rel => exact ⟨k + 1, by omega, by go_num, hy.out, by first | rfl | trivial⟩
        case measure => simp [intOf]; omega
      · have hcn := contains_n (four x0 x1 x2 x3 k) (four c0 c1 c2 c3 k) n (four i o r s k) v3 rk lk (by omega) true (decide_eq_true c)
        have hf := hno.out c
        replace hf : Hid _ := hf
        generalize four x0 x1 x2 x3 k = xk at ck hcn
        generalize four c0 c1 c2 c3 k = cp at ck hcn
        clear hno hyes c rk lk hin
        go_wp2_with (go_at_call 23; refine hcn.mono ?_; rintro e w'' ⟨rfl, hw⟩; obtain rfl : v3 = w'' := hw.symm; clear hcn hw)
        go_ret
        exact ⟨by rw [hf.out]; rfl, B⟩
    · obtain rfl : k = 4 := by omega
      have hin4 : allIn i ∧ allIn o ∧ allIn r ∧ allIn s := hall.out.1 hin.out
      have lc : Hid ((conv i s).length = n) := by show _ = _; rw [conv_len, l0.out, l3.out, Nat.min_self]
      by_cases ch : holds i r
      · have e : Hid (decide ((allIn i ∧ allIn o ∧ allIn r ∧ allIn s) ∧ holds i r ∧ below (conv i s) o) = decide (below (conv i s) o)) := by
          show _ = _
          rw [Bool.eq_iff_iff]; simp only [decide_eq_true_eq]
          exact ⟨fun q => q.2.2, fun q => ⟨hin4, ch, q⟩⟩
        have hh := holds_n x0 x2 c0 c2 n n i r v3 r0 r2 l0.out l2.out (by omega) (by omega) hc true (decide_eq_true ch)
        generalize hb : decide (below (conv i s) o) = b at e
        replace hb : Hid _ := hb
        generalize hC : conv i s = C at lc hb
        replace hC : Hid _ := hC
        clear hin hin4 ch hall
        have T3 := tok
        have T4 := tok
        have T5 := tok
        go_wp2_with (first
          | (clear T3; go_at_call 15; refine hh.mono ?_; rintro e w4 ⟨rfl, b4⟩; replace B := bthen B b4; replace r0 := r0.kept b4; replace r1 := r1.kept b4; replace r3 := r3.kept b4; clear b4 hh)
          | (clear T4; go_at_call 26; refine (conv_r x0 x3 _ _ n i s C hC.out _ r0 r3 l0.out l3.out (by omega)).mono ?_; rintro e w5 ⟨a5, c5, rfl, _, r5, b5⟩; replace B := bthen B b5; replace r1 := r1.kept b5; clear b5)
          | (clear T5; go_at_call 25; refine (within_n a5 x1 _ _ n n C o _ r5 r1 lc.out l1.out (by omega) (by omega) b hb.out).mono ?_; rintro e w6 ⟨rfl, b6⟩; replace B := bthen B b6; clear b6))
        go_ret
        exact ⟨by rw [e.out]; rfl, B⟩
      · have hf : Hid (decide ((allIn i ∧ allIn o ∧ allIn r ∧ allIn s) ∧ holds i r ∧ below (conv i s) o) = false) := decide_eq_false fun q => ch q.2.1
        have hh := holds_n x0 x2 c0 c2 n n i r v3 r0 r2 l0.out l2.out (by omega) (by omega) hc false (decide_eq_false ch)
        clear hin hin4 ch hall
        have T3 := tok
        go_wp2_with (clear T3; go_at_call 15; refine hh.mono ?_; rintro e w4 ⟨rfl, b4⟩; replace B := bthen B b4; clear b4 hh)
        go_ret
        exact ⟨by rw [hf.out]; rfl, B⟩

set_option maxHeartbeats 1600000 in
theorem premise_any (x0 x1 x2 x3 : Option Addr) (c0 c1 c2 c3 n0 n1 n2 n3 : Nat) (i o r s : List Int) (w : World) (r0 : Row w x0 i) (r1 : Row w x1 o) (r2 : Row w x2 r) (r3 : Row w x3 s)
    (l0 : i.length = n0) (l1 : o.length = n1) (l2 : r.length = n2) (l3 : s.length = n3) (hn : n0 ≤ 17592186044414) (hn1 : n1 ≤ 17592186044414) (hc : n0 ≤ c0) (b : Bool) (hb : decide (prem i o r s) = b) :
    Calls Try.prog 27 #[.slice x0 n0 c0, .slice x1 n1 c1, .slice x2 n2 c2, .slice x3 n3 c3] w fun e w' => e = .returned (.bool b) ∧ Below w.heap.size w w' := by
  have B : Below w.heap.size w w := Below.refl _ _
  by_cases h0 : right i
  · by_cases h1 : right o
    · by_cases e1 : n1 = n0
      · by_cases e2 : n2 = n0
        · by_cases e3 : n3 = n0
          · subst e1 e2 e3
            have e : decide (prem i o r s) = decide ((allIn i ∧ allIn o ∧ allIn r ∧ allIn s) ∧ holds i r ∧ below (conv i s) o) := by
              rw [Bool.eq_iff_iff]; simp only [decide_eq_true_eq]
              exact ⟨fun q => q.2.2.2.2.2, fun q => ⟨h0, h1, by omega, by omega, by omega, q⟩⟩
            rw [← hb, e]
            exact premise_same x0 x1 x2 x3 c0 c1 c2 c3 _ i o r s w r0 r1 r2 r3 l0 l1 l2 l3 hn hc (decide_eq_true h0) (decide_eq_true h1)
          · have hf : b = false := by rw [← hb]; exact decide_eq_false fun q => e3 (by have := q.2.2.2.2.1; omega)
            subst hf
            clear hb
            subst e1 e2
            have d3 : ¬ (n3 : Int) = (n2 : Int) := by omega
            replace l0 : Hid _ := l0
            replace l1 : Hid _ := l1
            replace l2 : Hid _ := l2
            replace l3 : Hid _ := l3
            have T1 := tok
            have T2 := tok
            go_enter Try.func27, Try.ntmps27
            go_wp2_with (first
              | (clear T1; go_at_call 22; refine (right_n x0 _ n2 i _ r0 l0.out (by omega) true (decide_eq_true h0)).mono ?_; rintro e v1 ⟨rfl, b1⟩; replace B := bthen B b1; replace r1 := r1.kept b1; clear b1 r0)
              | (clear T2; go_at_call 22; refine (right_n x1 _ n2 o _ r1 l1.out (by omega) true (decide_eq_true h1)).mono ?_; rintro e v2 ⟨rfl, b2⟩; replace B := bthen B b2; clear b2 r1))
            go_ret
            exact ⟨rfl, B⟩
        · have hf : b = false := by rw [← hb]; exact decide_eq_false fun q => e2 (by have := q.2.2.2.1; omega)
          subst hf
          clear hb
          subst e1
          have d2 : ¬ (n2 : Int) = (n1 : Int) := by omega
          replace l0 : Hid _ := l0
          replace l1 : Hid _ := l1
          replace l2 : Hid _ := l2
          replace l3 : Hid _ := l3
          have T1 := tok
          have T2 := tok
          go_enter Try.func27, Try.ntmps27
          go_wp2_with (first
            | (clear T1; go_at_call 22; refine (right_n x0 _ n1 i _ r0 l0.out (by omega) true (decide_eq_true h0)).mono ?_; rintro e v1 ⟨rfl, b1⟩; replace B := bthen B b1; replace r1 := r1.kept b1; clear b1 r0)
            | (clear T2; go_at_call 22; refine (right_n x1 _ n1 o _ r1 l1.out (by omega) true (decide_eq_true h1)).mono ?_; rintro e v2 ⟨rfl, b2⟩; replace B := bthen B b2; clear b2 r1))
          go_ret
          exact ⟨rfl, B⟩
      · have hf : b = false := by rw [← hb]; exact decide_eq_false fun q => e1 (by have := q.2.2.1; omega)
        subst hf
        clear hb
        have d1 : ¬ (n1 : Int) = (n0 : Int) := by omega
        replace l0 : Hid _ := l0
        replace l1 : Hid _ := l1
        replace l2 : Hid _ := l2
        replace l3 : Hid _ := l3
        have T1 := tok
        have T2 := tok
        go_enter Try.func27, Try.ntmps27
        go_wp2_with (first
          | (clear T1; go_at_call 22; refine (right_n x0 _ n0 i _ r0 l0.out (by omega) true (decide_eq_true h0)).mono ?_; rintro e v1 ⟨rfl, b1⟩; replace B := bthen B b1; replace r1 := r1.kept b1; clear b1 r0)
          | (clear T2; go_at_call 22; refine (right_n x1 _ n1 o _ r1 l1.out (by omega) true (decide_eq_true h1)).mono ?_; rintro e v2 ⟨rfl, b2⟩; replace B := bthen B b2; clear b2 r1))
        go_ret
        exact ⟨rfl, B⟩
    · have hf : b = false := by rw [← hb]; exact decide_eq_false fun q => h1 q.2.1
      subst hf
      clear hb
      replace l0 : Hid _ := l0
      replace l1 : Hid _ := l1
      replace l2 : Hid _ := l2
      replace l3 : Hid _ := l3
      have T1 := tok
      have T2 := tok
      go_enter Try.func27, Try.ntmps27
      go_wp2_with (first
        | (clear T1; go_at_call 22; refine (right_n x0 _ n0 i _ r0 l0.out (by omega) true (decide_eq_true h0)).mono ?_; rintro e v1 ⟨rfl, b1⟩; replace B := bthen B b1; replace r1 := r1.kept b1; clear b1 r0)
        | (clear T2; go_at_call 22; refine (right_n x1 _ n1 o _ r1 l1.out (by omega) false (decide_eq_false h1)).mono ?_; rintro e v2 ⟨rfl, b2⟩; replace B := bthen B b2; clear b2 r1))
      go_ret
      exact ⟨rfl, B⟩
  · have hf : b = false := by rw [← hb]; exact decide_eq_false fun q => h0 q.1
    subst hf
    clear hb
    replace l0 : Hid _ := l0
    replace l1 : Hid _ := l1
    replace l2 : Hid _ := l2
    replace l3 : Hid _ := l3
    have T1 := tok
    have T2 := tok
    go_enter Try.func27, Try.ntmps27
    go_wp2_with (first
      | (clear T1; go_at_call 22; refine (right_n x0 _ n0 i _ r0 l0.out (by omega) false (decide_eq_false h0)).mono ?_; rintro e v1 ⟨rfl, b1⟩; replace B := bthen B b1; replace r1 := r1.kept b1; clear b1 r0))
    go_ret
    exact ⟨rfl, B⟩

end Go.Proofs.Ytmijlmidlddcpaa
