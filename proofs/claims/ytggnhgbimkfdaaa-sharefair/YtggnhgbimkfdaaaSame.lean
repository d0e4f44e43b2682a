/- PROVED: what slices.Equal answers, by a walk of its own text. CONDITIONS: none beyond each theorem's own. -/
import Derived.Test.YtggnhgbimkfdaaaAns
namespace Go.Proofs.Ytggnhgbimkfdaaa
open Go.RowKit

set_option maxHeartbeats 1600000 in
theorem equal_any (a1 a2 : Option Addr) (c1 c2 : Nat) (xs ys : List Int) (w : World) (h1 : Row w a1 xs) (h2 : Row w a2 ys) (b1 : xs.length ≤ 35184372088832) :
    Calls Try.prog 11 #[.slice a1 xs.length c1, .slice a2 ys.length c2] w fun e w' => e = .returned (.bool (decide (xs = ys))) ∧ ∃ q, w' = w.drewN q := by
  by_cases hl : xs.length = ys.length
  · have hyes : Hid ((∀ j, j < xs.length → xs.getD j 0 = ys.getD j 0) → decide (xs = ys) = true) := fun h => decide_eq_true (list_ext hl h)
    have hno : Hid (∀ j, j < xs.length → xs.getD j 0 ≠ ys.getD j 0 → decide (xs = ys) = false) := fun j _ h => decide_eq_false fun k => h (by rw [k])
    generalize decide (xs = ys) = ans at hyes hno ⊢
    obtain ⟨n, hn⟩ : ∃ n, xs.length = n := ⟨_, rfl⟩
    have hlx : Hid (xs.length = n) := hn
    have hly : Hid (ys.length = n) := hl.symm.trans hn
    rw [← hl, hn]
    rw [hn] at hyes hno b1
    clear hl hn
    go_enter Try.func11, Try.ntmps11
    go_wp2
    go_loopw [13] (fun i wr => ∃ k q : Nat, k ≤ n ∧ i = .int .i64 k ∧ wr = w.drewN q ∧ ∀ j, j < k → xs.getD j 0 = ys.getD j 0) (fun i _ => n - (intOf i).toNat)
    case atStart => exact ⟨0, 0, Nat.zero_le _, rfl, rfl, fun j h => by omega⟩
    case round =>
      obtain ⟨k, q, hk, rfl, rfl, hA⟩ := hrel
      by_cases hlt : k < n
      · have q1 := hlx.out
        have q2 := hly.out
        obtain ⟨g1, o1, rfl, e1⟩ := h1.at (by omega)
        obtain ⟨g2, o2, rfl, e2⟩ := h2.at (by omega)
        have cx := e1 k (by omega)
        have cy := e2 k (by omega)
        have hkI : (k : Int) < n := by omega
        have hA2 : Hid (xs.getD k 0 = ys.getD k 0 → ∀ j, j < k + 1 → xs.getD j 0 = ys.getD j 0) := fun h j hj => by
          by_cases e : j = k
          · subst e; exact h
          · exact hA j (by omega)
        have hno2 : Hid (xs.getD k 0 ≠ ys.getD k 0 → ans = false) := hno.out k hlt
        clear hA e1 e2 hno hyes q1 q2 h1 h2
        generalize xs.getD k 0 = x at cx hA2 hno2
        generalize ys.getD k 0 = y at cy hA2 hno2
        by_cases hx : x = y
        · have d : (x == y) = true := beq_iff_eq.2 hx
          have hA3 := hA2.out hx
          replace hA3 : Hid _ := hA3
          clear hA2 hno2 hx
          go_wp2
          go_quiet (fail)
          go_wp2
          go_roundw
          case rel => exact ⟨k + 1, q + nq, by omega, by go_num, rfl, hA3.out⟩
          case measure => simp [intOf]; omega
        · have d : (x == y) = false := beq_eq_false_iff_ne.2 hx
          have ha : Hid (ans = false) := hno2.out hx
          clear hA2 hno2 hx
          go_wp2
          go_quiet (fail)
          go_wp2
          go_ret
          exact ⟨by rw [ha.out]; rfl, q + nq, World.drewN_drewN _ _ _⟩
      · obtain rfl : k = n := by omega
        have ha : Hid (ans = true) := hyes.out hA
        clear hA hyes hno
        go_wp2
        go_ret
        exact ⟨by rw [ha.out]; rfl, q, rfl⟩
  · have e : decide (xs = ys) = false := decide_eq_false fun k => hl (by rw [k])
    rw [e]
    have hd : ((xs.length : Int) == (ys.length : Int)) = false := beq_eq_false_iff_ne.2 (by omega)
    generalize xs.length = n at *
    generalize ys.length = m at *
    clear hl e h1 h2
    go_enter Try.func11, Try.ntmps11
    go_wp2
    go_ret
    exact ⟨rfl, 0, rfl⟩

end Go.Proofs.Ytggnhgbimkfdaaa
