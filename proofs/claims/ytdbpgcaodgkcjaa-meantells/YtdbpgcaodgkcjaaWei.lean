/- PROVED: what potential.Weigh answers of a right graph, and of a wrong one. CONDITIONS: none beyond each theorem's own. -/
import Derived.Test.YtdbpgcaodgkcjaaWr
namespace Go.Proofs.Ytdbpgcaodgkcjaa
open Go.RowKit

/-- the first k numbers are a walk -/
def wkz (es : List Eg) (z : List Int) (k : Nat) : Prop := ∀ j, j < k → 0 ≤ z.getD j 0 ∧ z.getD j 0 < es.length ∧ (0 < j → (eg es (z.getD j 0).toNat).f = (eg es (z.getD (j - 1) 0).toNat).t)
instance (es : List Eg) (z : List Int) (k : Nat) : Decidable (wkz es z k) := inferInstanceAs (Decidable (∀ j, j < k → _))
/-- what the first k weigh, as the machine adds up -/
def wsz (es : List Eg) (z : List Int) : Nat → Int
  | 0 => 0
  | k + 1 => wrap64 (wsz es z k + (eg es (z.getD k 0).toNat).x)
/-- what Weigh tells of a right graph -/
def wge (es : List Eg) (z : List Int) : Int × Int := if wkz es z z.length then (wsz es z z.length, 0) else (0, 1)
theorem wge_yes {es : List Eg} {z : List Int} (h : wkz es z z.length) : wge es z = (wsz es z z.length, 0) := if_pos h
theorem wge_no {es : List Eg} {z : List Int} (h : ¬ wkz es z z.length) : wge es z = (0, 1) := if_neg h

theorem weigh_wrong (n : Int) (a a1 : Option Addr) (cap cap1 m : Nat) (L : List Ed) (w : World) (hE : ERow w a L) (hl : L.length ≤ 9223372036854775807) (hg : ¬ grt n L) :
    Calls Try.prog 13 #[.agg #[.int .i64 n, .slice a L.length cap], .slice a1 m cap1] w fun e w' => e = .returned (.tuple #[.int .i64 0, .int .i64 2]) ∧ Below w.heap.size w w' := by
  have hB0 : Below w.heap.size w (w.alloc (.cells #[.int .i64 n, .slice a L.length cap] 24)) := balloc (Below.refl _ _) _
  have hw := wrong_any n a cap L (w.alloc (.cells #[.int .i64 n, .slice a L.length cap] 24)) (hE.kept hB0) hl
  rw [gwr_no hg] at hw
  generalize L.length = k at *
  clear hE hg
  go_enter Try.func13, Try.ntmps13
  go_wp2_with (go_at_call 15; refine hw.mono ?_; rintro e w1 ⟨rfl, b1⟩; clear hw)
  go_ret2
  exact ⟨rfl, bthen hB0 b1⟩

set_option maxHeartbeats 3200000 in
theorem weigh_any (n : Nat) (es : List Eg) (hG : Gph n es) (a a1 : Option Addr) (cap cap1 : Nat) (z : List Int) (w : World) (hE : GRow w a es) (hz : Row w a1 z) (hl : z.length ≤ 9223372036854775807) :
    Calls Try.prog 13 #[.agg #[.int .i64 n, .slice a es.length cap], .slice a1 z.length cap1] w fun e w' => e = .returned (.tuple #[.int .i64 (wge es z).1, .int .i64 (wge es z).2]) ∧ Below w.heap.size w w' := by
  have hm4 := hG.m4
  have hB0 : Below w.heap.size w (w.alloc (.cells #[.int .i64 n, .slice a es.length cap] 24)) := balloc (Below.refl _ _) _
  have hw := wrong_any n a cap (es.map upE) (w.alloc (.cells #[.int .i64 n, .slice a es.length cap] 24)) (ERow.kept hE hB0) (by rw [List.length_map]; omega)
  rw [gwr_yes (gph_grt hG), List.length_map] at hw
  obtain ⟨p, hp⟩ : ∃ p, z.length = p := ⟨_, rfl⟩
  have hyes : Hid (wkz es z p → (wge es z).1 = wsz es z p ∧ (wge es z).2 = 0) := fun h => by rw [wge_yes (by rw [hp]; exact h), hp]; exact ⟨rfl, rfl⟩
  have hno : Hid (¬ wkz es z p → (wge es z).1 = 0 ∧ (wge es z).2 = 1) := fun h => by rw [wge_no (by rw [hp]; exact h)]; exact ⟨rfl, rfl⟩
  generalize (wge es z).1 = A1 at hyes hno ⊢
  generalize (wge es z).2 = A2 at hyes hno ⊢
  have hzp : Hid (z.length = p) := hp
  rw [hp] at hl ⊢
  clear hp
  have hinn : Hid (Gph n es) := hG
  have K0 := Gb.new w n a es.length cap
  have hE0 := hE.kept hB0
  have hz0 := hz.kept hB0
  obtain ⟨m, hm⟩ : ∃ m, es.length = m := ⟨_, rfl⟩
  have hlm : Hid (es.length = m) := hm
  rw [hm] at hB0 hw K0 hE0 hz0 hm4 ⊢
  clear hm hG hE hz
  obtain ⟨w0, hw0⟩ : ∃ w0, w.alloc (.cells #[.int .i64 n, .slice a m cap] 24) = w0 := ⟨_, rfl⟩
  rw [hw0] at K0 hB0 hE0 hz0 hw
  obtain ⟨c0, c1⟩ := id K0
  go_enter Try.func13, Try.ntmps13
  go_wp2_with (go_at_call 15; refine hw.mono ?_; rintro e w1 ⟨rfl, b1⟩; clear hw; have K1 := K0.kept b1; have hE1 := hE0.kept b1; have hz1 := hz0.kept b1)
  clear K0 hE0 hz0 c0 c1
  have hB1 := bthen hB0 b1
  clear hB0 b1
  go_loopw [7, 18] (fun s i wr => ∃ k : Nat, k ≤ p ∧ i = .int .i64 k ∧ s = .int .i64 (wsz es z k) ∧ wkz es z k ∧ Below w1.heap.size w1 wr) (fun _ i _ => p - (intOf i).toNat)
  case atStart => exact ⟨0, Nat.zero_le _, rfl, rfl, fun j hj => by omega, Below.refl _ _⟩
  case round =>
    obtain ⟨k, hk, rfl, rfl, hA, hB⟩ := hrel
    by_cases hlt : k < p
    · have q1 := hzp.out
      have q2 := hlm.out
      obtain ⟨g1, o1, rfl, e1⟩ := (hz1.kept hB).at (by omega)
      have cx := e1 k (by omega)
      obtain ⟨g0, g1'⟩ := K1.kept hB
      have hkI : (k : Int) < p := by omega
      have hno2 : Hid (¬ (0 ≤ z.getD k 0 ∧ z.getD k 0 < m ∧ (0 < k → (eg es (z.getD k 0).toNat).f = (eg es (z.getD (k - 1) 0).toNat).t)) → A1 = 0 ∧ A2 = 1) := fun h => hno.out fun q => h (by rw [← q2]; exact q k hlt)
      have hA2 : Hid ((0 ≤ z.getD k 0 ∧ z.getD k 0 < m ∧ (0 < k → (eg es (z.getD k 0).toNat).f = (eg es (z.getD (k - 1) 0).toNat).t)) → wkz es z (k + 1)) := fun h j hj => by
        by_cases e : j = k
        · subst e; rw [q2]; exact h
        · exact hA j (by omega)
      have hSS : Hid (wsz es z (k + 1) = wrap64 (wsz es z k + (eg es (z.getD k 0).toNat).x)) := rfl
      clear hno hyes
      by_cases h0 : z.getD k 0 < 0
      · obtain ⟨rfl, rfl⟩ := hno2.out fun q => by omega
        have d0 : decide (z.getD k 0 < 0) = true := decide_eq_true h0
        generalize z.getD k 0 = x at *
        clear hno2 hA2 hSS e1 hA q1 q2
        go_wp2
        go_ret2
        exact ⟨rfl, bthen hB1 hB⟩
      · have d0 : decide (z.getD k 0 < 0) = false := decide_eq_false h0
        by_cases h1 : (m : Int) ≤ z.getD k 0
        · obtain ⟨rfl, rfl⟩ := hno2.out fun q => by omega
          have d1 : decide ((m : Int) ≤ z.getD k 0) = true := decide_eq_true h1
          generalize z.getD k 0 = x at *
          clear hno2 hA2 hSS e1 hA q1 q2
          go_wp2
          go_ret2
          exact ⟨rfl, bthen hB1 hB⟩
        · have d1 : decide ((m : Int) ≤ z.getD k 0) = false := decide_eq_false h1
          obtain ⟨q, hq⟩ : ∃ q : Nat, z.getD k 0 = (q : Int) := ⟨(z.getD k 0).toNat, by omega⟩
          rw [hq] at cx d0 d1 hno2 hA2 hSS h1
          have hqm : q < m := by omega
          obtain ⟨b, off, rfl, e2⟩ := (hE1.kept hB).at (by omega)
          obtain ⟨ex, ey, ez⟩ := e2 q (by omega)
          have hqI : (q : Int) < (m : Int) := by omega
          rw [Int.toNat_natCast] at hno2 hA2 hSS
          obtain ⟨g2, g3⟩ := (K1.kept hB).alloc (.cells #[.int .i64 ((eg es q).f : Int), .int .i64 ((eg es q).t : Int), .int .i64 (eg es q).x] 36)
          have hB2 : Below w1.heap.size w1 (wr.alloc (.cells #[.int .i64 ((eg es q).f : Int), .int .i64 ((eg es q).t : Int), .int .i64 (eg es q).x] 36)) := balloc hB _
          by_cases hk0 : k = 0
          · have hA3 := hA2.out ⟨by omega, by omega, fun h => by omega⟩
            replace hA3 : Hid _ := hA3
            have d2 : decide ((0 : Int) < (k : Int)) = false := decide_eq_false (by omega)
            have d3 : decide (0 < k) = false := decide_eq_false (by omega)
            replace hk0 : Hid _ := hk0
            generalize ((eg es q).f : Int) = f at *
            generalize ((eg es q).t : Int) = t at *
            generalize (eg es q).x = x at *
            obtain ⟨S1, hS1⟩ : ∃ S1, wrap64 (wsz es z k + x) = S1 := ⟨_, rfl⟩
            have hS2 : Hid (wsz es z (k + 1) = S1) := hSS.out.trans hS1
            generalize wsz es z k = S at *
            clear hno2 hA2 hSS e1 hA q1 q2 e2 hq h0 h1
            go_wp2
            go_quiet (fail)
            go_wp2
            go_roundw
            case rel => exact ⟨k + 1, by omega, by go_num, by rw [hS2.out, ← hS1], hA3.out, by first | exact below_drewN hB2 _ | exact hB2⟩
            case measure => simp [intOf]; omega
          · obtain ⟨kk, hkk⟩ : ∃ kk, k = kk + 1 := ⟨k - 1, by omega⟩
            have hp1 := hA kk (by omega)
            obtain ⟨r, hr⟩ : ∃ r : Nat, z.getD kk 0 = (r : Int) := ⟨(z.getD kk 0).toNat, by omega⟩
            have cy := (((hz1.kept hB).alloc (.cells #[.int .i64 ((eg es q).f : Int), .int .i64 ((eg es q).t : Int), .int .i64 (eg es q).x] 36)).at (by omega))
            obtain ⟨g5, o5, hg5, e5⟩ := cy
            injection hg5 with hg5
            injection hg5 with hg5 ho5 _
            subst hg5 ho5
            have cy := e5 kk (by omega)
            obtain ⟨g6, o6, hg6, e6⟩ := (((hE1.kept hB).alloc (.cells #[.int .i64 ((eg es q).f : Int), .int .i64 ((eg es q).t : Int), .int .i64 (eg es q).x] 36)).at (by omega))
            injection hg6 with hg6
            injection hg6 with hg6 ho6 _
            subst hg6 ho6
            obtain ⟨_, fy, _⟩ := e6 r (by omega)
            rw [hr] at cy hp1
            have hrI : (r : Int) < (m : Int) := by omega
            have hkkI : (kk : Int) < (p : Int) := by omega
            have hkI1 : (k : Int) - 1 = (kk : Int) := by omega
            have hwk : IntKind.i64.wrap (kk : Int) = (kk : Int) := wrap_in (by omega)
            have d2 : decide ((0 : Int) < (k : Int)) = true := decide_eq_true (by omega)
            have d3 : decide (0 < k) = true := decide_eq_true (by omega)
            rw [show k - 1 = kk by omega, hr, Int.toNat_natCast] at hno2 hA2
            replace hkk : Hid _ := hkk
            clear e5 e6 hp1
            by_cases hft : (eg es q).f = (eg es r).t
            · have hA3 := hA2.out ⟨by omega, by omega, fun _ => hft⟩
              replace hA3 : Hid _ := hA3
              have d4 : (((eg es q).f : Int) == ((eg es r).t : Int)) = true := beq_iff_eq.2 (by omega)
              clear hft hno2 hA2
              generalize ((eg es q).f : Int) = f at *
              generalize ((eg es q).t : Int) = t at *
              generalize ((eg es r).t : Int) = tr at *
              generalize (eg es q).x = x at *
              obtain ⟨S1, hS1⟩ : ∃ S1, wrap64 (wsz es z k + x) = S1 := ⟨_, rfl⟩
              have hS2 : Hid (wsz es z (k + 1) = S1) := hSS.out.trans hS1
              generalize wsz es z k = S at *
              clear hSS e1 hA q1 q2 e2 hq h0 h1 hr
              go_wp2
              go_quiet (fail)
              go_wp2
              go_roundw
              case rel => exact ⟨k + 1, by omega, by go_num, by rw [hS2.out, ← hS1], hA3.out, by first | exact below_drewN hB2 _ | exact hB2⟩
              case measure => simp [intOf]; omega
            · obtain ⟨rfl, rfl⟩ := hno2.out fun q => hft (q.2.2 (by have := hkk.out; omega))
              have d4 : (((eg es q).f : Int) == ((eg es r).t : Int)) = false := beq_eq_false_iff_ne.2 (by omega)
              clear hft hno2 hA2
              generalize ((eg es q).f : Int) = f at *
              generalize ((eg es q).t : Int) = t at *
              generalize ((eg es r).t : Int) = tr at *
              generalize (eg es q).x = x at *
              generalize wsz es z k = S at *
              clear hSS e1 hA q1 q2 e2 hq h0 h1 hr
              go_wp2
              go_quiet (fail)
              go_wp2
              go_ret2
              exact ⟨rfl, by first | exact bthen hB1 (below_drewN hB2 _) | exact bthen hB1 hB2⟩
    · obtain rfl : p = k := by omega
      obtain ⟨rfl, rfl⟩ := hyes.out hA
      clear hA hyes hno
      go_wp2
      go_ret2
      exact ⟨rfl, bthen hB1 hB⟩

end Go.Proofs.Ytdbpgcaodgkcjaa
