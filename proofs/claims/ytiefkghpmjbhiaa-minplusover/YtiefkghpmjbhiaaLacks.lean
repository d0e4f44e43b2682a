/- PROVED: the steps of MinplusOver. CONDITIONS: none beyond each theorem's own. -/
import Derived.Test.YtiefkghpmjbhiaaTold
namespace Go.Proofs.Ytiefkghpmjbhiaa
open Go.RowKit

/-- one of three rows -/
def one3 {α : Type} (x y z : α) (k : Nat) : α := if k = 0 then x else if k = 1 then y else z
theorem cell3 (w : World) (x y z : Value) (k : Nat) (h : k < 3) : (w.alloc (.cells #[x, y, z] 22)).cell? ⟨w.heap.size, k, none⟩ = some (one3 x y z k) := by
  rw [World.cell?_alloc_at _ _ _ _ rfl]
  match k, h with
  | 0, _ => rfl
  | 1, _ => rfl
  | 2, _ => rfl
theorem one3_slice (x y z : Option Addr) (n p q r k : Nat) : one3 (Value.slice x n p) (.slice y n q) (.slice z n r) k = .slice (one3 x y z k) n (one3 p q r k) := by
  unfold one3
  split
  · rfl
  · split <;> rfl
theorem one3_all {α : Type} {P : α → Prop} {x y z : α} (hx : P x) (hy : P y) (hz : P z) (k : Nat) : P (one3 x y z k) := by
  unfold one3
  split
  · exact hx
  · split
    · exact hy
    · exact hz
theorem one3_row {w : World} {x y z : Option Addr} {p q r : List Int} (hx : Row w x p) (hy : Row w y q) (hz : Row w z r) (k : Nat) : Row w (one3 x y z k) (one3 p q r k) := by
  unfold one3
  split
  · exact hx
  · split
    · exact hy
    · exact hz

set_option maxHeartbeats 4000000 in
theorem over_go (a0 : Option Addr) (cap0 : Nat) (z0 : List Int) (a1 : Option Addr) (cap1 : Nat) (z1 : List Int) (a2 : Option Addr) (cap2 : Nat) (z2 : List Int) (w : World) (r0 : Row w a0 z0) (r1 : Row w a1 z1) (r2 : Row w a2 z2)
    (n : Nat) (e0 : z0.length = n) (e1 : z1.length = n) (e2 : z2.length = n) (hn : n ≤ 17592186044416) (k0 : n ≤ cap0) (O V : List Int) (hO : Hid (over z0 z1 = O)) (hV : Hid (conv z1 z2 = V)) (lO : O.length = n) (lV : V.length = n)
    (hT : Hid ((∀ j, j < 3 → ∀ t, t < n → tame ((one3 z0 z1 z2 j).getD t 0)) → decide (below O z2) = decide (below z0 V))) :
    Calls Try.prog 6 #[.slice a0 n cap0, .slice a1 n cap1, .slice a2 n cap2] w fun e w' => e = .returned (.bool true) ∧ Below w.heap.size w w' := by
  have B : Below w.heap.size w w := Below.refl _ _
  go_enter Try.func6, Try.ntmps6
  go_wp2_with (go_at_call 20; refine (alive_any _).mono ?_; rintro e v ⟨rfl, b⟩; replace B := bthen B b; clear b)
  have hc3 := cell3 v (.slice a0 n cap0) (.slice a1 n cap1) (.slice a2 n cap2)
  replace B := balloc B (.cells #[.slice a0 n cap0, .slice a1 n cap1, .slice a2 n cap2] 22)
  obtain ⟨v1, hv1⟩ : ∃ v1, v.alloc (.cells #[.slice a0 n cap0, .slice a1 n cap1, .slice a2 n cap2] 22) = v1 := ⟨_, rfl⟩
  rw [hv1] at B hc3 ⊢
  clear hv1
  have hr3 := one3_row (r0.kept B) (r1.kept B) (r2.kept B)
  have hl3 := one3_all (P := fun z : List Int => z.length = n) e0 e1 e2
  go_loopw [30] (fun i wr => ∃ k : Nat, k ≤ 3 ∧ i = .int .i64 k ∧ (∀ j, j < k → ∀ t, t < n → tame ((one3 z0 z1 z2 j).getD t 0)) ∧ v1 = wr) (fun i _ => 3 - (intOf i).toNat)
  case atStart => exact ⟨0, by omega, rfl, fun j h => by omega, rfl⟩
  case round =>
    obtain ⟨k, hk, rfl, hA, rfl⟩ := hrel
    by_cases hlt : k < 3
    · have hc := hc3 k hlt
      rw [one3_slice] at hc
      have hr := hr3 k
      have hl := hl3 k
      have hk3 : (k : Int) < 3 := by omega
      have hA2 : Hid ((∀ t, t < n → tame ((one3 z0 z1 z2 k).getD t 0)) → ∀ j, j < k + 1 → ∀ t, t < n → tame ((one3 z0 z1 z2 j).getD t 0)) := fun h j hj => by
        by_cases e : j = k
        · subst e; exact h
        · exact hA j (by omega)
      clear hA hc3 hr3 hl3
      generalize one3 z0 z1 z2 k = z at hr hl hA2
      generalize one3 a0 a1 a2 k = a at hc hr
      generalize one3 cap0 cap1 cap2 k = cp at hc
      go_wp2
      go_loopw [36] (fun i wr => ∃ t : Nat, t ≤ n ∧ i = .int .i64 t ∧ (∀ s, s < t → tame (z.getD s 0)) ∧ v1 = wr) (fun i _ => n - (intOf i).toNat)
      case atStart => exact ⟨0, by omega, rfl, fun s h => by omega, rfl⟩
      case round =>
        obtain ⟨t, ht, rfl, hS, rfl⟩ := hrel
        by_cases htn : t < n
        · obtain ⟨g, o, rfl, hcz⟩ := hr.at (by omega)
          have cx := hcz t (by omega)
          have hti : (t : Int) < n := by omega
          have hS2 : Hid (tame (z.getD t 0) → ∀ s, s < t + 1 → tame (z.getD s 0)) := fun h s hs => by
            by_cases e : s = t
            · subst e; exact h
            · exact hS s (by omega)
          clear hS hcz
          generalize z.getD t 0 = x at cx hS2
          by_cases t1 : 1099511627776 < fit x
          · by_cases t2 : fit x < 1152921504606846976
            · go_wp2_with (go_at_call 22; refine (fit_any _ _).mono ?_; rintro e v2 ⟨rfl, rfl⟩)
              go_ret
              exact ⟨rfl, B⟩
            · have hX := hS2.out (fun q => t2 q.2)
              go_wp2_with (go_at_call 22; refine (fit_any _ _).mono ?_; rintro e v2 ⟨rfl, rfl⟩)
              go_roundw
              case rel => exact ⟨t + 1, by omega, by go_num, hX, by simp⟩
              case measure => simp [intOf]; omega
          · have hX := hS2.out (fun q => t1 q.1)
            go_wp2_with (go_at_call 22; refine (fit_any _ _).mono ?_; rintro e v2 ⟨rfl, rfl⟩)
            go_roundw
            case rel => exact ⟨t + 1, by omega, by go_num, hX, by simp⟩
            case measure => simp [intOf]; omega
        · obtain rfl : t = n := by omega
          go_wp2
          go_roundw
          case rel => exact ⟨k + 1, by omega, by go_num, hA2.out hS, by simp⟩
          case measure => simp [intOf]; omega
    · obtain rfl : k = 3 := by omega
      have hb1 := hT.out hA
      obtain ⟨b, hb2⟩ : ∃ b, decide (below z0 V) = b := ⟨_, rfl⟩
      rw [hb2] at hb1
      replace hb1 : Hid (decide (below O z2) = b) := hb1
      replace hb2 : Hid (decide (below z0 V) = b) := hb2
      clear hA hT hc3 hr3 hl3
      have T2 := tok
      have T3 := tok
      have T4 := tok
      have T5 := tok
      go_wp2_with (first
        | (clear T2; go_at_call 14; refine (over_r _ _ _ _ n z0 z1 O hO.out _ (r0.kept B) (r1.kept B) e0 e1 hn k0).mono ?_; rintro e v2 ⟨x2, d2, rfl, l2, p2, b2⟩; replace B := bthen B b2; clear b2)
        | (clear T3; go_at_call 23; refine (within_n _ _ _ _ n n O z2 _ p2 (r2.kept B) lO e2 hn hn b hb1.out).mono ?_; rintro e v3 ⟨rfl, b3⟩; replace B := bthen B b3; clear b3 p2)
        | (clear T4; go_at_call 12; refine (conv_r _ _ _ _ n z1 z2 V hV.out _ (r1.kept B) (r2.kept B) e1 e2 hn).mono ?_; rintro e v4 ⟨x4, d4, rfl, l4, p4, b4⟩; replace B := bthen B b4; clear b4)
        | (clear T5; go_at_call 23; refine (within_n _ _ _ _ n n z0 V _ (r0.kept B) p4 e0 lV hn hn b hb2.out).mono ?_; rintro e v5 ⟨rfl, b5⟩; replace B := bthen B b5; clear b5 p4))
      go_ret
      exact ⟨by simp, B⟩

end Go.Proofs.Ytiefkghpmjbhiaa
