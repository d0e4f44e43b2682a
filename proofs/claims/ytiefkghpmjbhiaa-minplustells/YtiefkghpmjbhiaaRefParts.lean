/- PROVED: what the document's own EParts answers. CONDITIONS: none beyond each theorem's own. -/
import Derived.Test.YtiefkghpmjbhiaaConv
namespace Go.Proofs.Ytiefkghpmjbhiaa
open Go.RowKit

set_option maxHeartbeats 4000000 in
theorem eparts_any (a : Option Addr) (c : Nat) (f : List Int) (w : World) (k1 : Row w a f) (h1 : f.length ≤ 17592186044416) :
    Calls Try.prog 19 #[.slice a f.length c] w fun e w' => e = .returned (.bool (decide (parts f))) ∧ w' = w := by
  have hnot : Hid (∀ s u, s + u < f.length → plus (f.getD s 0) (f.getD u 0) < fit (f.getD (s + u) 0) → decide (parts f) = false) := fun s u hs h => decide_eq_false (parts_not hs h)
  have hyes : Hid ((∀ s u, s + u < f.length → fit (f.getD (s + u) 0) ≤ plus (f.getD s 0) (f.getD u 0)) → (f.length = 0 ∨ f.getD 0 0 ≤ 0) → decide (parts f) = true) := fun h h0 => decide_eq_true (parts_pairs f h h0)
  have hbeg : Hid (f.length ≠ 0 → 0 < f.getD 0 0 → decide (parts f) = false) := fun h h0 => decide_eq_false (parts_begin h h0)
  generalize decide (parts f) = ans at hnot hyes hbeg ⊢
  obtain ⟨n, hn⟩ : ∃ n, f.length = n := ⟨_, rfl⟩
  rw [hn] at h1 hnot hyes hbeg ⊢
  go_enter Try.func19, Try.ntmps19
  go_wp2
  go_loopw [9] (fun i wr => ∃ s : Nat, s ≤ n ∧ i = .int .i64 s ∧ (∀ s', s' < s → ∀ u, s' + u < n → fit (f.getD (s' + u) 0) ≤ plus (f.getD s' 0) (f.getD u 0)) ∧ w = wr) (fun i _ => n - (intOf i).toNat)
  case atStart => exact ⟨0, Nat.zero_le _, rfl, fun s h => by omega, rfl⟩
  case round =>
    obtain ⟨s, hs, rfl, hA, rfl⟩ := hrel
    by_cases hlf : s < n
    · obtain ⟨b, o, rfl, e1⟩ := k1.at (by omega)
      rw [hn] at e1
      have cx := e1 s hlf
      replace e1 : Hid _ := e1
      have hsI : (s : Int) < n := by omega
      have hns := hnot.out s
      replace hns : Hid _ := hns
      have hA2 : Hid ((∀ u, u < n → s + u < n → fit (f.getD (s + u) 0) ≤ plus (f.getD s 0) (f.getD u 0)) → ∀ s', s' < s + 1 → ∀ u, s' + u < n → fit (f.getD (s' + u) 0) ≤ plus (f.getD s' 0) (f.getD u 0)) := fun h s' hs' u hu => by
        by_cases e : s' = s
        · subst e; exact h u (by omega) hu
        · exact hA s' (by omega) u hu
      clear hA
      generalize hx : f.getD s 0 = x at cx hns
      replace hx : Hid (f.getD s 0 = x) := hx
      go_wp2
      go_loopw [16] (fun i wr => ∃ u : Nat, u ≤ n ∧ i = .int .i64 u ∧ (∀ u', u' < u → s + u' < n → fit (f.getD (s + u') 0) ≤ plus x (f.getD u' 0)) ∧ w = wr) (fun i _ => n - (intOf i).toNat)
      case atStart => exact ⟨0, Nat.zero_le _, rfl, fun u h => by omega, rfl⟩
      case round =>
        obtain ⟨u, hu, rfl, hU, rfl⟩ := hrel
        by_cases hlg : u < n
        · have cy := e1.out u hlg
          have huI : (u : Int) < n := by omega
          obtain ⟨t, ht⟩ : ∃ t : Nat, s + u = t := ⟨_, rfl⟩
          have hti : (s : Int) + (u : Int) = (t : Int) := by omega
          have hU2 : Hid ((s + u < n → fit (f.getD (s + u) 0) ≤ plus x (f.getD u 0)) → ∀ u', u' < u + 1 → s + u' < n → fit (f.getD (s + u') 0) ≤ plus x (f.getD u' 0)) := fun h u' hu' => by
            by_cases e : u' = u
            · subst e; exact h
            · exact hU u' (by omega)
          have hnu := hns.out u
          rw [ht] at hnu
          clear hU
          by_cases htl : t < n
          · have ct := e1.out t htl
            have htI : (t : Int) < n := by omega
            have hU3 : Hid (fit (f.getD t 0) ≤ plus x (f.getD u 0) → ∀ u', u' < u + 1 → s + u' < n → fit (f.getD (s + u') 0) ≤ plus x (f.getD u' 0)) := fun h => hU2.out fun _ => by rw [ht]; exact h
            have hnu2 := hnu htl
            replace hnu2 : Hid _ := hnu2
            clear hnu hU2 e1
            generalize f.getD u 0 = y at cy hU3 hnu2
            generalize f.getD t 0 = z at ct hU3 hnu2
            have pl := plus_lo x y
            have ph := plus_hi x y
            have fl := fit_lo z
            have fh := fit_hi z
            by_cases hp : plus x y < fit z
            · have hF := hnu2.out hp
              clear hnu2 hU3 hyes hbeg hnot hns
              go_wp2_with (first
                | (go_at_call 30; refine (rfit_any _ _).mono ?_; rintro e w'' ⟨rfl, rfl⟩)
                | (go_at_call 27; refine (rplus_any _ _ _).mono ?_; rintro e w'' ⟨rfl, rfl⟩))
              go_ret
              exact ⟨by rw [hF]; rfl, rfl⟩
            · have hX := hU3.out (by omega)
              clear hnu2 hU3
              go_wp2_with (first
                | (go_at_call 30; refine (rfit_any _ _).mono ?_; rintro e w'' ⟨rfl, rfl⟩)
                | (go_at_call 27; refine (rplus_any _ _ _).mono ?_; rintro e w'' ⟨rfl, rfl⟩))
              go_roundw
              case rel => exact ⟨u + 1, by omega, by go_num, hX, by simp⟩
              case measure => simp [intOf]; omega
          · have htI : ¬ (t : Int) < n := by omega
            have hX := hU2.out (fun h => by omega)
            clear hnu hU2 e1
            generalize f.getD u 0 = y at cy
            go_wp2
            go_roundw
            case rel => exact ⟨u + 1, by omega, by go_num, hX, by simp⟩
            case measure => simp [intOf]; omega
        · obtain e : n = u := by omega
          subst e
          have hX := hA2.out (fun u hu hsu => by rw [hx.out]; exact hU u hu hsu)
          clear e1
          go_wp2
          go_roundw
          case rel => exact ⟨s + 1, by omega, by go_num, hX, by simp⟩
          case measure => simp [intOf]; omega
    · obtain e : n = s := by omega
      subst e
      have hY := hyes.out (fun s u hsu => hA s (by omega) u hsu)
      replace hY : Hid _ := hY
      clear hA hyes hnot
      by_cases h0 : n = 0
      · have hT := hY.out (.inl h0)
        clear hbeg hY k1 h1
        subst h0
        go_wp2
        go_ret
        exact ⟨by rw [hT]; rfl, rfl⟩
      · obtain ⟨b, o, rfl, e1⟩ := k1.at (by omega)
        have c0 := e1 0 (by omega)
        rw [Nat.add_zero] at c0
        have hI : ((n : Int) == 0) = false := beq_eq_false_iff_ne.2 (by omega)
        have hIp : (0 : Int) < n := by omega
        have hb := hbeg.out h0
        replace hb : Hid _ := hb
        have hy : Hid (f.getD 0 0 ≤ 0 → ans = true) := fun h => hY.out (.inr h)
        clear hbeg hY h0 k1 e1 hn
        generalize f.getD 0 0 = x at c0 hb hy
        by_cases hx : x ≤ 0
        · have hT := hy.out hx
          have dx : decide (x ≤ 0) = true := decide_eq_true hx
          clear hb hy
          go_wp2
          go_ret
          exact ⟨by simp [hT], rfl⟩
        · have hT := hb.out (by omega)
          have dx : decide (x ≤ 0) = false := decide_eq_false hx
          clear hb hy
          go_wp2
          go_ret
          exact ⟨by simp, rfl⟩

end Go.Proofs.Ytiefkghpmjbhiaa
