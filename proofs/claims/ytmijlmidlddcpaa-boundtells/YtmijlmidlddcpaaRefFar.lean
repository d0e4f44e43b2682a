/- PROVED: what the document's own answers of chapter 8 are. CONDITIONS: none beyond each theorem's own. -/
import Derived.Test.YtmijlmidlddcpaaAns
import Derived.Test.YtmijlmidlddcpaaStack
import Derived.Test.YtmijlmidlddcpaaConv
import Derived.Test.YtmijlmidlddcpaaOf
namespace Go.Proofs.Ytmijlmidlddcpaa
open Go.RowKit

/-- what is told of tick t by the first k numbers -/
def attk (z : List Int) (t : Int) (k : Nat) : Int := if k = 0 ∨ t < 0 then 0 else fit (z.getD (min t (k - 1)).toNat 0)
theorem attk_all (z : List Int) (t : Int) : attk z t z.length = att z t := rfl
theorem attk_in (z : List Int) (t : Int) (k : Nat) (h : (k : Int) ≤ t) : attk z t (k + 1) = fit (z.getD k 0) := by
  unfold attk
  rw [if_neg (by omega), show (min t (((k + 1 : Nat) : Int) - 1)).toNat = k by omega]
theorem attk_out (z : List Int) (t : Int) (k : Nat) (h : t < (k : Int)) : attk z t (k + 1) = attk z t k := by
  unfold attk
  by_cases ht : t < 0
  · rw [if_pos (.inr ht), if_pos (.inr ht)]
  · rw [if_neg (by omega), if_neg (by omega), show (min t (((k + 1 : Nat) : Int) - 1)).toNat = (min t ((k : Int) - 1)).toNat by omega]

set_option maxHeartbeats 1600000 in
theorem dat_any (a : Option Addr) (cap : Nat) (z : List Int) (t : Int) (w : World) (hz : Row w a z) (hl : z.length ≤ 17592186044416) :
    Calls Try.prog 43 #[.slice a z.length cap, .int .i64 t] w fun e w' => e = .returned (.int .i64 (att z t)) ∧ w' = w := by
  go_enter Try.func43, Try.ntmps43
  go_wp2
  go_loopw [5, 10] (fun x i wr => ∃ k : Nat, k ≤ z.length ∧ i = .int .i64 k ∧ x = .int .i64 (attk z t k) ∧ wr = w) (fun _ i _ => z.length - (intOf i).toNat)
  case atStart => exact ⟨0, Nat.zero_le _, rfl, by unfold attk; rw [if_pos (.inl rfl)], rfl⟩
  case round =>
    obtain ⟨k, hkn, rfl, rfl, rfl⟩ := hrel
    by_cases hlt : k < z.length
    · obtain ⟨g, off, rfl, hcz⟩ := hz.at (by omega)
      have hx := hcz k hlt
      by_cases hkt : (k : Int) ≤ t
      · have hA : Hid (attk z t (k + 1) = fit (z.getD k 0)) := attk_in z t k hkt
        generalize z.getD k 0 = x at hx hA
        generalize attk z t k = y
        clear hcz hz
        go_wp2_with (go_at_call 36; refine (rfit_any _ _).mono ?_; rintro e w' ⟨rfl, rfl⟩)
        go_roundw
        case rel => exact ⟨k + 1, by omega, by go_num, by rw [hA.out], by trivial⟩
        case measure => simp [intOf]; omega
      · have hkt2 : t < (k : Int) := by omega
        have hA : Hid (attk z t (k + 1) = attk z t k) := attk_out z t k hkt2
        generalize z.getD k 0 = x at hx
        generalize attk z t k = y at hA ⊢
        clear hcz hz
        go_wp2
        go_roundw
        case rel => exact ⟨k + 1, by omega, by go_num, by rw [hA.out], by trivial⟩
        case measure => simp [intOf]; omega
    · obtain rfl : k = z.length := by omega
      rw [attk_all]
      go_wp2
      go_ret
      exact ⟨rfl, rfl⟩


/-! HFar. -/
/-- how far the nearest of the last k ticks is that has enough -/
def bst (x : Int) (g : List Int) (t : Nat) : Nat → Int
  | 0 => -1
  | k + 1 => if fit x ≤ fit (g.getD (g.length - (k + 1)) 0) then ((g.length - (k + 1) : Nat) : Int) - t else bst x g t k
theorem bst_is (x : Int) (g : List Int) (t k : Nat) (hk : t + k ≤ g.length) :
    (bst x g t k = -1 ∧ ∀ j, g.length - k ≤ j → j < g.length → fit (g.getD j 0) < fit x) ∨
    (∃ j, g.length - k ≤ j ∧ j < g.length ∧ bst x g t k = (j : Int) - t ∧ fit x ≤ fit (g.getD j 0) ∧ ∀ i, g.length - k ≤ i → i < j → fit (g.getD i 0) < fit x) := by
  induction k with
  | zero => exact .inl ⟨rfl, fun j a b => by omega⟩
  | succ k ih =>
    simp only [bst]
    by_cases c : fit x ≤ fit (g.getD (g.length - (k + 1)) 0)
    · rw [if_pos c]
      exact .inr ⟨g.length - (k + 1), Nat.le_refl _, by omega, rfl, c, fun i a b => by omega⟩
    · rw [if_neg c]
      rcases ih (by omega) with ⟨e, a⟩ | ⟨j, a, b, e, d, f⟩
      · refine .inl ⟨e, fun j p q => ?_⟩
        by_cases z : j = g.length - (k + 1)
        · subst z; omega
        · exact a j (by omega) q
      · refine .inr ⟨j, by omega, b, e, d, fun i p q => ?_⟩
        by_cases z : i = g.length - (k + 1)
        · subst z; omega
        · exact f i (by omega) q
theorem bst_fd (x : Int) (g : List Int) (t : Nat) : (t + fd x g t < g.length ∧ bst x g t (g.length - t) = (fd x g t : Int)) ∨ (¬ t + fd x g t < g.length ∧ bst x g t (g.length - t) = -1) := by
  by_cases ht : t ≤ g.length
  · rcases bst_is x g t (g.length - t) (by omega) with ⟨e, a⟩ | ⟨j, a, b, e, d, f⟩
    · exact .inr ⟨fd_no x g t fun j p q => a j (by omega) q, e⟩
    · have k : fd x g t = j - t := fd_is x g t (j - t) (by omega) (fun i hi => f (t + i) (by omega) (by omega)) (by rw [show t + (j - t) = j by omega]; exact d)
      exact .inl ⟨by omega, by rw [e, k]; omega⟩
  · exact .inr ⟨by omega, by rw [show g.length - t = 0 by omega]; rfl⟩

set_option maxHeartbeats 1600000 in
theorem hfar_any (a1 a2 : Option Addr) (c1 c2 : Nat) (f g : List Int) (w : World) (hf : Row w a1 f) (hg : Row w a2 g) (h1 : f.length ≤ 17592186044415) (h2 : g.length ≤ 17592186044415) :
    Calls Try.prog 9 #[.slice a1 f.length c1, .slice a2 g.length c2] w fun e w' => e = .returned (.tuple #[.int .i64 (far f g : Nat), .bool (decide (reach f g))]) ∧ w' = w := by
  obtain ⟨n, hn⟩ : ∃ n, f.length = n := ⟨_, rfl⟩
  obtain ⟨m, hm⟩ : ∃ m, g.length = m := ⟨_, rfl⟩
  rw [hn, hm]
  rw [hn] at h1
  rw [hm] at h2
  replace hn : Hid _ := hn
  replace hm : Hid _ := hm
  go_enter Try.func9, Try.ntmps9
  go_wp2
  go_loopw [6, 13] (fun mo i wr => ∃ k : Nat, k ≤ n ∧ i = .int .i64 k ∧ mo = .int .i64 (wst (fdt f g) k : Nat) ∧ (∀ t, t < k → t + fdt f g t < m) ∧ w = wr) (fun _ i _ => n - (intOf i).toNat)
  case atStart => exact ⟨0, Nat.zero_le _, rfl, rfl, fun t ht => by omega, rfl⟩
  case round =>
    obtain ⟨k, hk, rfl, rfl, hR, rfl⟩ := hrel
    replace hR : Hid _ := hR
    by_cases hlt : k < n
    · obtain ⟨b1, o1, rfl, hF⟩ := hf.at (by rw [hn.out]; omega)
      have cx := hF k (by rw [hn.out]; exact hlt)
      have hlI : (k : Int) < n := by omega
      have hbs := bst_fd (f.getD k 0) g k
      rw [hm.out] at hbs
      have hW : Hid (wst (fdt f g) (k + 1) = max (wst (fdt f g) k) (fd (f.getD k 0) g k)) := rfl
      have hfk : Hid (fdt f g k = fd (f.getD k 0) g k) := rfl
      generalize f.getD k 0 = x at cx hbs hW hfk
      generalize wst (fdt f g) k = W at hW ⊢
      clear hF
      replace hbs : Hid _ := hbs
      go_wp2
      go_loopw [9, 10] (fun be u wr => ∃ j : Nat, j ≤ m - k ∧ u = .int .i64 ((m : Int) - j - 1) ∧ be = .int .i64 (bst x g k j) ∧ w = wr) (fun _ u _ => ((intOf u) - k + 1).toNat)
      case atStart => exact ⟨0, Nat.zero_le _, by simp, rfl, rfl⟩
      case round =>
        obtain ⟨j, hj, rfl, rfl, rfl⟩ := hrel
        by_cases hlt2 : j < m - k
        · obtain ⟨b2, o2, rfl, hG⟩ := hg.at (by rw [hm.out]; omega)
          obtain ⟨p, hp⟩ : ∃ p, m - (j + 1) = p := ⟨_, rfl⟩
          have cy := hG p (by rw [hm.out]; omega)
          have hB1 : Hid (bst x g k (j + 1) = if fit x ≤ fit (g.getD p 0) then (p : Int) - k else bst x g k j) := by
            show _ = _
            simp only [bst]
            rw [hm.out, hp]
          have hpi : (m : Int) - j - 1 = (p : Int) := by omega
          have hpm : (p : Int) < m := by omega
          have hkp : (k : Int) ≤ p := by omega
          generalize g.getD p 0 = y at cy hB1
          generalize bst x g k j = B at hB1 ⊢
          clear hG
          rw [hpi]
          by_cases c : fit x ≤ fit y
          · have hB2 : Hid (bst x g k (j + 1) = (p : Int) - k) := by show _ = _; rw [hB1.out, if_pos c]
            clear hB1
            go_wp2_with (go_at_call 36; refine (rfit_any _ _).mono ?_; rintro e w'' ⟨rfl, hw⟩; obtain rfl : w = w'' := hw.symm; clear hw)
            go_roundw
            case rel => exact ⟨j + 1, by omega, by go_num, by rw [hB2.out], by first | rfl | trivial⟩
            case measure => simp [intOf]; omega
          · have hB2 : Hid (bst x g k (j + 1) = B) := by show _ = _; rw [hB1.out, if_neg c]
            have c2 : fit y < fit x := by omega
            clear hB1 c
            go_wp2_with (go_at_call 36; refine (rfit_any _ _).mono ?_; rintro e w'' ⟨rfl, hw⟩; obtain rfl : w = w'' := hw.symm; clear hw)
            go_roundw
            case rel => exact ⟨j + 1, by omega, by go_num, by rw [hB2.out], by first | rfl | trivial⟩
            case measure => simp [intOf]; omega
        · obtain rfl : j = m - k := by omega
          have hend : (m : Int) - ((m - k : Nat) : Int) - 1 < (k : Int) := by omega
          rcases hbs.out with ⟨r1, r2⟩ | ⟨r1, r2⟩
          · have hR2 : Hid (∀ t, t < k + 1 → t + fdt f g t < m) := fun t ht => by
              by_cases e : t = k
              · subst e; rw [hfk.out]; exact r1
              · exact hR.out t (by omega)
            rw [r2]
            generalize (m : Int) - ((m - k : Nat) : Int) - 1 = uu at hend ⊢
            generalize fd x g k = d at hW ⊢
            clear r2 r1 hR hbs
            go_wp2
            go_roundw
            case rel => exact ⟨k + 1, by omega, by go_num, by rw [hW.out]; go_num, hR2.out, by first | rfl | trivial⟩
            case measure => simp [intOf]; omega
          · have hno : ¬ reach f g := fun q => r1 (by have := q k (by rw [hn.out]; exact hlt); rw [hm.out, hfk.out] at this; exact this)
            rw [r2]
            generalize (m : Int) - ((m - k : Nat) : Int) - 1 = uu at hend ⊢
            clear r2 r1 hR hbs
            go_wp2
            go_ret2
            exact ⟨by unfold far; rw [if_neg hno, decide_eq_false hno]; rfl, rfl⟩
    · obtain rfl : k = n := by omega
      have hyes : reach f g := fun t ht => by rw [hm.out]; exact hR.out t (by rw [← hn.out]; exact ht)
      have hfar : far f g = wst (fdt f g) k := by unfold far; rw [if_pos hyes, hn.out]
      clear hR
      go_wp2
      go_ret2
      exact ⟨by rw [hfar, decide_eq_true hyes]; rfl, rfl⟩

end Go.Proofs.Ytmijlmidlddcpaa
