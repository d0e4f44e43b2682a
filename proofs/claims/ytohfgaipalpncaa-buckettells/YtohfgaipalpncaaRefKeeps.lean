/- PROVED: what the document's own FKeeps answers. CONDITIONS: none beyond each theorem's own. -/
import Derived.Test.YtohfgaipalpncaaRefLine
namespace Go.Proofs.Ytohfgaipalpncaa
open Go.RowKit

theorem keepsTo_no {R B : Int} {F : Nat → Int} {n i j : Nat} (h : i + j < n) (hl : B + (j : Int) * min R B < acc F (i + j + 1) - acc F i) : ¬ keepsTo R B F n := fun k => by
  have := k (i + j + 1) (by omega) i (by omega)
  rw [show i + j + 1 - i = j + 1 by omega, lf_succ] at this
  omega
theorem keepsTo_yes {R B : Int} {F : Nat → Int} {n : Nat} (h : ∀ i j, i + j < n → acc F (i + j + 1) - acc F i ≤ B + (j : Int) * min R B) : keepsTo R B F n := fun t ht u hu => by
  by_cases e : u = t
  · subst e; rw [Nat.sub_self, lf_zero]; omega
  · have := h u (t - u - 1) (by omega)
    rw [← lf_succ, show u + (t - u - 1) + 1 = t by omega, show t - u - 1 + 1 = t - u by omega] at this
    omega

set_option maxRecDepth 100000 in
set_option maxHeartbeats 6400000 in
theorem fkeeps_any (R B : Int) (a : Option Addr) (cap : Nat) (z : List Int) (w : World) (hz : Row w a z) (hlz : z.length ≤ 17592186044414) (hcap : z.length ≤ cap) :
    Calls Try.prog 15 #[.agg #[.int .i64 R, .int .i64 B], .slice a z.length cap] w fun e w' => e = .returned (.bool (decide (keeps R B z))) ∧ Below w.heap.size w w' := by
  obtain ⟨w0, hw0⟩ : ∃ w0, w.alloc (.cells #[.int .i64 R, .int .i64 B] 23) = w0 := ⟨_, rfl⟩
  have hb0 : Below w.heap.size w w0 := by rw [← hw0]; exact balloc (Below.refl _ _) _
  have hK : Bk w0 w.heap.size R B := by rw [← hw0]; exact Bk.new w R B
  have hzw := hz.kept hb0
  have hb := fright_any R B a cap z w0 hzw hlz
  have cr0 := hK.r
  have cb0 := hK.b
  by_cases h : bright R B z
  · have hyes0 : (∀ i j, i + j < z.length → acc (fun j => z.getD j 0) (i + j + 1) - acc (fun j => z.getD j 0) i ≤ B + (j : Int) * min R B) → decide (keeps R B z) = true := fun k => decide_eq_true ((keeps_iff h).2 (keepsTo_yes k))
    have hno0 : ∀ i j, i + j < z.length → B + (j : Int) * min R B < acc (fun j => z.getD j 0) (i + j + 1) - acc (fun j => z.getD j 0) i → decide (keeps R B z) = false := fun i j h1 h2 => decide_eq_false fun k => keepsTo_no h1 h2 ((keeps_iff h).1 k)
    generalize decide (keeps R B z) = ans at hyes0 hno0 ⊢
    rw [decide_eq_true h] at hb
    obtain ⟨hR, hB, hn0, hF⟩ := h
    obtain ⟨n, hn⟩ : ∃ n, z.length = n := ⟨_, rfl⟩
    have hz2' : Hid (Row w0 a z) := hzw
    unfold allIn at hF
    rw [hn] at hb hn0 hF hlz hcap hyes0 hno0 ⊢
    replace hn : Hid (z.length = n) := hn
    have hz3 : ∀ v, Below w0.heap.size w0 v → 0 < n → ∃ b o, a = some ⟨b, o, none⟩ ∧ ∀ j, j < n → v.cell? ⟨b, o + j, none⟩ = some (.int .i64 (z.getD j 0)) := fun v hv hp => by
      obtain ⟨b, o, e, k⟩ := (hz2'.out.kept hv).at (by rw [hn.out]; exact hp)
      exact ⟨b, o, e, fun j hj => k j (by rw [hn.out]; exact hj)⟩
    replace hz3 : Hid _ := hz3
    clear hz hzw
    have hFi : ∀ j, j < n → inr ((fun j => z.getD j 0) j) := hF
    generalize hFd : (fun j => z.getD j 0) = F at hFi hyes0 hno0
    have hFF : ∀ j, z.getD j 0 = F j := fun j => by rw [← hFd]
    clear hFd
    replace hFF : Hid _ := hFF
    clear hF
    have hyes : Hid _ := hyes0
    have hno : Hid _ := hno0
    have hinr : Hid (∀ j, j < n → inr (F j)) := hFi
    have hacc : Hid (∀ t, t ≤ n → _) := acc_lo hFi
    clear hFi hyes0 hno0
    unfold inr at hR hB
    go_enter Try.func15, Try.ntmps15
    go_wp2_with (go_at_call 10; refine hb.mono ?_; rintro e w1 ⟨rfl, b1⟩; clear hb)
    have hK1 := hK.kept b1
    have cr := hK1.r
    have cb := hK1.b
    clear cr0 cb0
    go_loopw [15] (fun i wr => ∃ k : Nat, k ≤ n ∧ i = .int .i64 k ∧ (∀ i', i' < k → ∀ j, i' + j < n → acc F (i' + j + 1) - acc F i' ≤ B + (j : Int) * min R B) ∧ w1 = wr) (fun i _ => n - (intOf i).toNat)
    case atStart => exact ⟨0, Nat.zero_le _, rfl, fun i h => by omega, rfl⟩
    case round =>
      obtain ⟨k, hk, rfl, hA, rfl⟩ := hrel
      by_cases hlt : k < n
      · obtain ⟨b, o, rfl, e1⟩ := hz3.out w1 b1 (by omega)
        have e2 : Hid (∀ j, j < n → w1.cell? ⟨b, o + j, none⟩ = some (.int .i64 (F j))) := fun j hj => by rw [e1 j hj, hFF.out]
        clear e1
        have hlI : (k : Int) < n := by omega
        have hkc : k < cap := by omega
        obtain ⟨m, hm⟩ : ∃ m, n - k = m := ⟨_, rfl⟩
        have hA2 : Hid ((∀ j, k + j < n → acc F (k + j + 1) - acc F k ≤ B + (j : Int) * min R B) → ∀ i', i' < k + 1 → ∀ j, i' + j < n → acc F (i' + j + 1) - acc F i' ≤ B + (j : Int) * min R B) := fun h i' hi' j hj => by
          by_cases e : i' = k
          · subst e; exact h j hj
          · exact hA i' (by omega) j hj
        clear hA
        have hS0 : Hid (acc F (k + 0) - acc F k = 0) := Int.sub_self _
        go_wp2
        go_loopw [6, 22] (fun sv i wr => ∃ j : Nat, j ≤ m ∧ i = .int .i64 j ∧ sv = .int .i64 (acc F (k + j) - acc F k) ∧ (∀ j', j' < j → acc F (k + j' + 1) - acc F k ≤ B + (j' : Int) * min R B) ∧ w1 = wr) (fun _ i _ => m - (intOf i).toNat)
        case atStart => exact ⟨0, Nat.zero_le _, rfl, by rw [hS0.out], fun j h => by omega, rfl⟩
        case round =>
          obtain ⟨j, hj, rfl, rfl, hU, rfl⟩ := hrel
          by_cases hjl : j < m
          · have cx := e2.out (k + j) (by omega)
            rw [← Nat.add_assoc] at cx
            have hjI : (j : Int) < m := by omega
            obtain ⟨hp0, hp1⟩ := mul_in (m := min R B) j (by omega) (by omega) (by omega)
            have s1 := hacc.out k hk
            have s2 := hacc.out (k + j) (by omega)
            have i3 := hinr.out (k + j) (by omega)
            unfold inr at i3
            have hs : acc F (k + j + 1) - acc F k = acc F (k + j) - acc F k + F (k + j) := by simp only [acc]; omega
            have hn1 := hno.out k j (by omega)
            have hU2 : Hid (acc F (k + j + 1) - acc F k ≤ B + (j : Int) * min R B → ∀ j', j' < j + 1 → acc F (k + j' + 1) - acc F k ≤ B + (j' : Int) * min R B) := fun h j' hj' => by
              by_cases e : j' = j
              · subst e; exact h
              · exact hU j' (by omega)
            have hb1 : -400000000000000 ≤ acc F (k + j) - acc F k ∧ acc F (k + j) - acc F k ≤ 400000000000000 := by omega
            have hnx : Hid (acc F (k + (j + 1)) - acc F k = acc F (k + j) - acc F k + F (k + j)) := hs
            rw [hs] at hn1 hU2
            clear hU s1 s2 hs
            generalize hP : (j : Int) * min R B = P at hp0 hp1 hn1 hU2
            generalize F (k + j) = x at cx i3 hn1 hU2 hnx
            generalize acc F (k + j) - acc F k = s at hb1 hn1 hU2 hnx ⊢
            by_cases hx : B + P < s + x
            · have ha := hn1 hx
              replace ha : Hid _ := ha
              replace hnx : Hid _ := hnx
              go_wp2
              go_ret
              exact ⟨by rw [ha.out]; rfl, bthen hb0 b1⟩
            · have hU3 := hU2.out (by omega)
              replace hU3 : Hid _ := hU3
              clear hn1 hU2
              have hx2 : decide (B + P < s + x) = false := decide_eq_false hx
              go_wp2
              go_roundw
              case rel => exact ⟨j + 1, by omega, by go_num, by rw [hnx.out], hU3.out, by first | rfl | trivial⟩
              case measure => simp [intOf]; omega
          · obtain rfl : j = m := by omega
            have hA3 := hA2.out fun j' hj' => hU j' (by omega)
            replace hA3 : Hid _ := hA3
            clear hU hA2
            go_wp2
            go_roundw
            case rel => exact ⟨k + 1, by omega, by go_num, hA3.out, by first | rfl | trivial⟩
            case measure => simp [intOf]; omega
      · obtain rfl : k = n := by omega
        have ha : Hid (ans = true) := hyes.out fun i j hij => hA i (by omega) j hij
        clear hA
        go_wp2
        go_ret
        exact ⟨by rw [ha.out]; rfl, bthen hb0 b1⟩
  · have hk : decide (keeps R B z) = false := decide_eq_false fun k => h k.1
    rw [hk]
    rw [decide_eq_false h] at hb
    go_enter Try.func15, Try.ntmps15
    go_wp2_with (go_at_call 10; refine hb.mono ?_; rintro e w1 ⟨rfl, b1⟩; clear hb)
    go_ret
    exact ⟨rfl, bthen hb0 b1⟩

end Go.Proofs.Ytohfgaipalpncaa
