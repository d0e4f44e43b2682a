/- PROVED: what the document's own QWeigh answers. CONDITIONS: none beyond each theorem's own. -/
import Derived.Test.YtdbpgcaodgkcjaaQWr
import Derived.Test.YtdbpgcaodgkcjaaWei
namespace Go.Proofs.Ytdbpgcaodgkcjaa
open Go.RowKit

theorem qweigh_wrong (n : Int) (a a1 : Option Addr) (cap cap1 m : Nat) (L : List Ed) (w : World) (hE : ERow w a L) (hl : L.length ≤ 9223372036854775807) (hg : ¬ grt n L) :
    Calls Try.prog 10 #[.agg #[.int .i64 n, .slice a L.length cap], .slice a1 m cap1] w fun e w' => e = .returned (.tuple #[.int .i64 0, .int .i64 2]) ∧ Below w.heap.size w w' := by
  have hB0 : Below w.heap.size w (w.alloc (.cells #[.int .i64 n, .slice a L.length cap] 24)) := balloc (Below.refl _ _) _
  have hw := qwrong_any n a cap L (w.alloc (.cells #[.int .i64 n, .slice a L.length cap] 24)) (hE.kept hB0) hl
  rw [gwr_no hg] at hw
  generalize L.length = k at *
  clear hE hg
  go_enter Try.func10, Try.ntmps10
  go_wp2_with (go_at_call 17; refine hw.mono ?_; rintro e w1 ⟨rfl, b1⟩; clear hw)
  go_ret2
  exact ⟨rfl, bthen hB0 b1⟩

set_option maxHeartbeats 3200000 in
theorem qweigh_any (n : Nat) (es : List Eg) (hG : Gph n es) (a a1 : Option Addr) (cap cap1 : Nat) (z : List Int) (w : World) (hE : GRow w a es) (hz : Row w a1 z) (hl : z.length ≤ 9223372036854775807) :
    Calls Try.prog 10 #[.agg #[.int .i64 n, .slice a es.length cap], .slice a1 z.length cap1] w fun e w' => e = .returned (.tuple #[.int .i64 (wge es z).1, .int .i64 (wge es z).2]) ∧ Below w.heap.size w w' := by
  have hm4 := hG.m4
  have hB0 : Below w.heap.size w (w.alloc (.cells #[.int .i64 n, .slice a es.length cap] 24)) := balloc (Below.refl _ _) _
  have hw := qwrong_any n a cap (es.map upE) (w.alloc (.cells #[.int .i64 n, .slice a es.length cap] 24)) (ERow.kept hE hB0) (by rw [List.length_map]; omega)
  rw [gwr_yes (gph_grt hG), List.length_map] at hw
  obtain ⟨p, hp⟩ : ∃ p, z.length = p := ⟨_, rfl⟩
  have hyes : Hid (wkz es z p → (wge es z).1 = wsz es z p ∧ (wge es z).2 = 0) := fun h => by rw [wge_yes (by rw [hp]; exact h), hp]; exact ⟨rfl, rfl⟩
  have hno : Hid (¬ wkz es z p → (wge es z).1 = 0 ∧ (wge es z).2 = 1) := fun h => by rw [wge_no (by rw [hp]; exact h)]; exact ⟨rfl, rfl⟩
  generalize (wge es z).1 = A1 at hyes hno ⊢
  generalize (wge es z).2 = A2 at hyes hno ⊢
  have hzp : Hid (z.length = p) := hp
  rw [hp] at hl ⊢
  clear hp
  have K0 := Gb.new w n a es.length cap
  have hE0 := hE.kept hB0
  have hz0 := hz.kept hB0
  obtain ⟨m, hm⟩ : ∃ m, es.length = m := ⟨_, rfl⟩
  have hlm : Hid (es.length = m) := hm
  rw [hm] at hB0 hw K0 hE0 hz0 hm4 ⊢
  clear hm hG hE hz
  obtain ⟨w0, hw0⟩ : ∃ w0, w.alloc (.cells #[.int .i64 n, .slice a m cap] 24) = w0 := ⟨_, rfl⟩
  rw [hw0] at K0 hB0 hE0 hz0 hw
  obtain ⟨c0, c1⟩ := id K0
  go_enter Try.func10, Try.ntmps10
  go_wp2_with (go_at_call 17; refine hw.mono ?_; rintro e w1 ⟨rfl, b1⟩; clear hw; have K1 := K0.kept b1; have hE1 := hE0.kept b1; have hz1 := hz0.kept b1)
  clear K0 hE0 hz0 c0 c1
  have hB1 := bthen hB0 b1
  clear hB0 b1
  go_loopw [7, 8, 18] (fun s t i wr => ∃ (k : Nat) (A : Int), k ≤ p ∧ i = .int .i64 k ∧ s = .int .i64 (wsz es z k) ∧ t = .int .i64 A ∧ (k = 0 ∧ A = -1 ∨ 0 < k ∧ A = ((eg es (z.getD (k - 1) 0).toNat).t : Int)) ∧ wkz es z k ∧ Below w1.heap.size w1 wr) (fun _ _ i _ => p - (intOf i).toNat)
  case atStart => exact ⟨0, -1, Nat.zero_le _, rfl, rfl, rfl, .inl ⟨rfl, rfl⟩, fun j hj => by omega, Below.refl _ _⟩
  case round =>
    obtain ⟨k, A, hk, rfl, rfl, rfl, hAt, hA, hB⟩ := hrel
    by_cases hlt : k < p
    · have q1 := hzp.out
      have q2 := hlm.out
      obtain ⟨g1, o1, rfl, e1⟩ := (hz1.kept hB).at (by omega)
      have cx := e1 k (by omega)
      obtain ⟨g0, g1'⟩ := K1.kept hB
      have hkI : (k : Int) < p := by omega
      have hno2 : Hid (¬ (0 ≤ z.getD k 0 ∧ z.getD k 0 < m ∧ (0 < k → (eg es (z.getD k 0).toNat).f = (eg es (z.getD (k - 1) 0).toNat).t)) → A1 = 0 ∧ A2 = 1) := fun h => hno.out fun q => h (by rw [← q2]; exact q k hlt)
      have hA2 : Hid ((0 ≤ z.getD k 0 ∧ z.getD k 0 < m ∧ (0 < k → (eg es (z.getD k 0).toNat).f = (eg es (z.getD (k - 1) 0).toNat).t)) → wkz es z (k + 1)) := fun h j hj => by
        by_cases e : j = k
        · subst e; rw [q2]; exact h
        · exact hA j (by omega)
      have hSS : Hid (wsz es z (k + 1) = wrap64 (wsz es z k + (eg es (z.getD k 0).toNat).x)) := rfl
      clear hno hyes
      by_cases h0 : z.getD k 0 < 0
      · obtain ⟨rfl, rfl⟩ := hno2.out fun q => by omega
        have d0 : decide (z.getD k 0 < 0) = true := decide_eq_true h0
        generalize z.getD k 0 = x at *
        clear hno2 hA2 hSS e1 hA q1 q2 hAt
        go_wp2
        go_ret2
        exact ⟨rfl, bthen hB1 hB⟩
      · have d0 : decide (z.getD k 0 < 0) = false := decide_eq_false h0
        by_cases h1 : (m : Int) ≤ z.getD k 0
        · obtain ⟨rfl, rfl⟩ := hno2.out fun q => by omega
          have d1 : decide ((m : Int) ≤ z.getD k 0) = true := decide_eq_true h1
          generalize z.getD k 0 = x at *
          clear hno2 hA2 hSS e1 hA q1 q2 hAt
          go_wp2
          go_ret2
          exact ⟨rfl, bthen hB1 hB⟩
        · have d1 : decide ((m : Int) ≤ z.getD k 0) = false := decide_eq_false h1
          obtain ⟨q, hq⟩ : ∃ q : Nat, z.getD k 0 = (q : Int) := ⟨(z.getD k 0).toNat, by omega⟩
          have hAn : Hid ((k + 1 = 0 ∧ ((eg es q).t : Int) = -1) ∨ 0 < k + 1 ∧ ((eg es q).t : Int) = ((eg es (z.getD (k + 1 - 1) 0).toNat).t : Int)) := .inr ⟨by omega, by rw [Nat.add_sub_cancel, hq]; rfl⟩
          rw [hq] at cx d0 d1 hno2 hA2 hSS h1
          have hqm : q < m := by omega
          have d1' : decide (m ≤ q) = false := decide_eq_false (by omega)
          obtain ⟨b, off, rfl, e2⟩ := (hE1.kept hB).at (by omega)
          obtain ⟨ex, ey, ez⟩ := e2 q (by omega)
          have hqI : (q : Int) < (m : Int) := by omega
          rw [Int.toNat_natCast] at hno2 hA2 hSS
          rcases hAt with ⟨hk0, rfl⟩ | ⟨hk0, hA0⟩
          · have hA3 := hA2.out ⟨by omega, by omega, fun h => by omega⟩
            replace hA3 : Hid _ := hA3
            replace hk0 : Hid _ := hk0
            generalize ((eg es q).f : Int) = f at *
            generalize ((eg es q).t : Int) = t at *
            generalize (eg es q).x = x at *
            obtain ⟨S1, hS1⟩ : ∃ S1, wrap64 (wsz es z k + x) = S1 := ⟨_, rfl⟩
            have hS1' : IntKind.i64.wrap (wsz es z k + x) = S1 := by rw [wrapEq]; exact hS1
            have hS2 : Hid (wsz es z (k + 1) = S1) := hSS.out.trans hS1
            generalize wsz es z k = S at *
            clear hno2 hA2 hSS e1 hA q1 q2 e2 hq h0 h1
            go_wp2
            go_quiet (fail)
            go_wp2
            go_roundw
            case rel => exact ⟨k + 1, t, by omega, by go_num, by first | rw [hS2.out, ← hS1'] | rw [hS2.out], rfl, hAn.out, hA3.out, below_drewN hB _⟩
            case measure => simp [intOf]; omega
          · obtain ⟨T, hT⟩ : ∃ T, (eg es (z.getD (k - 1) 0).toNat).t = T := ⟨_, rfl⟩
            rw [hT] at hno2 hA2 hA0
            subst hA0
            have d2 : decide (0 ≤ (T : Int)) = true := decide_eq_true (by omega)
            by_cases hft : (eg es q).f = T
            · have hA3 := hA2.out ⟨by omega, by omega, fun _ => hft⟩
              replace hA3 : Hid _ := hA3
              have d4 : (((eg es q).f : Int) != (T : Int)) = false := by rw [hft]; exact bne_self_eq_false _
              clear hft hno2 hA2
              generalize ((eg es q).f : Int) = f at *
              generalize ((eg es q).t : Int) = t at *
              generalize (eg es q).x = x at *
              obtain ⟨S1, hS1⟩ : ∃ S1, wrap64 (wsz es z k + x) = S1 := ⟨_, rfl⟩
              have hS1' : IntKind.i64.wrap (wsz es z k + x) = S1 := by rw [wrapEq]; exact hS1
              have hS2 : Hid (wsz es z (k + 1) = S1) := hSS.out.trans hS1
              generalize wsz es z k = S at *
              clear hSS e1 hA q1 q2 e2 hq h0 h1
              go_wp2
              go_quiet (fail)
              go_wp2
              go_roundw
              case rel => exact ⟨k + 1, t, by omega, by go_num, by first | rw [hS2.out, ← hS1'] | rw [hS2.out], rfl, hAn.out, hA3.out, below_drewN hB _⟩
              case measure => simp [intOf]; omega
            · obtain ⟨rfl, rfl⟩ := hno2.out fun q => hft (q.2.2 hk0)
              have d4 : (((eg es q).f : Int) != (T : Int)) = true := bne_iff_ne.2 (by omega)
              clear hft hno2 hA2
              generalize ((eg es q).f : Int) = f at *
              generalize ((eg es q).t : Int) = t at *
              generalize (eg es q).x = x at *
              generalize wsz es z k = S at *
              clear hSS e1 hA q1 q2 e2 hq h0 h1
              go_wp2
              go_ret2
              exact ⟨rfl, bthen hB1 hB⟩
    · obtain rfl : p = k := by omega
      obtain ⟨rfl, rfl⟩ := hyes.out hA
      clear hA hyes hno
      go_wp2
      go_ret2
      exact ⟨rfl, bthen hB1 hB⟩

end Go.Proofs.Ytdbpgcaodgkcjaa
