/- PROVED: what frac.divisor, frac.Lowest and share.Even answer. CONDITIONS: none beyond each theorem's own. -/
import Derived.Test.YtggnhgbimkfdaaaGive
import Derived.Test.YtggnhgbimkfdaaaFr
namespace Go.Proofs.Ytggnhgbimkfdaaa
open Go.RowKit

set_option maxHeartbeats 800000 in
theorem divisor_any (a b : Int) (w : World) (ha : 0 ≤ a) (hb : 0 ≤ b) (ha1 : a ≤ 9223372036854775807) (hb1 : b ≤ 9223372036854775807) :
    Calls Try.prog 28 #[.int .i64 a, .int .i64 b] w fun e w' => e = .returned (.int .i64 (gcd a b)) ∧ ∃ q, w' = w.drewN q := by
  obtain ⟨G, hG⟩ : ∃ G, gcd a b = G := ⟨_, rfl⟩
  rw [hG]
  go_enter Try.func28, Try.ntmps28
  go_wp2
  go_loopw [0, 1] (fun x y wr => ∃ (u v : Int) (q : Nat), 0 ≤ u ∧ 0 ≤ v ∧ u ≤ 9223372036854775807 ∧ v ≤ 9223372036854775807 ∧ x = .int .i64 u ∧ y = .int .i64 v ∧ gcd u v = G ∧ wr = w.drewN q) (fun _ y _ => (intOf y).toNat)
  case atStart => exact ⟨a, b, 0, ha, hb, ha1, hb1, rfl, rfl, hG, rfl⟩
  case round =>
    obtain ⟨u, v, q, hu, hv, hu1, hv1, rfl, rfl, hg, rfl⟩ := hrel
    clear ha hb ha1 hb1 hG
    by_cases c : 0 < v
    · have hg2 : Hid (gcd v (u.tmod v) = G) := (gcd_step hu).trans hg
      obtain ⟨m, hm⟩ : ∃ m, u.tmod v = m := ⟨_, rfl⟩
      have m0 : 0 ≤ m := by rw [← hm]; exact Int.tmod_nonneg _ hu
      have m1 : m < v := by rw [← hm]; exact Int.tmod_lt_of_pos _ c
      have d1 : (v == 0) = false := beq_eq_false_iff_ne.2 (by omega)
      have d2 : ¬ v = 0 := by omega
      rw [hm] at hg2
      clear hg
      go_wp2
      go_region
      all_goals
        go_wp2
        go_roundw
        case rel => exact ⟨v, m, q + 1, by omega, by omega, by omega, by omega, rfl, rfl, hg2.out, by first | rfl | exact World.drewN_drewN _ q 1⟩
        case measure => simp [intOf]; omega
    · obtain rfl : v = 0 := by omega
      have e := hg
      rw [gcd_zero hu] at e
      subst e
      clear hg
      go_wp2
      go_ret
      exact ⟨rfl, q, rfl⟩

/-- a fraction in lowest terms -/
def low1 (a b : Int) : Int := a.tdiv (gcd a b)
def low2 (a b : Int) : Int := b.tdiv (gcd a b)
theorem tdiv_in {a g : Int} (ha : 0 ≤ a) (hg : 0 < g) : 0 ≤ a.tdiv g ∧ a.tdiv g ≤ a := by
  rw [Int.tdiv_eq_ediv_of_nonneg ha]
  exact ⟨Int.ediv_nonneg ha (by omega), Int.ediv_le_self _ ha⟩

set_option maxHeartbeats 1600000 in
theorem lowest_any (a b : Int) (w : World) (ha : 0 ≤ a) (hb : 0 < b) (ha1 : a ≤ 9223372036854775807) (hb1 : b ≤ 9223372036854775807) :
    Calls Try.prog 21 #[.int .i64 a, .int .i64 b] w fun e w' => e = .returned (.agg #[.int .i64 (low1 a b), .int .i64 (low2 a b)]) ∧ Below w.heap.size w w' := by
  have hd := fun w0 => divisor_any a b w0 ha (by omega) ha1 hb1
  have hng : wrap64 (-a) = -a := IntWalk.wrap64_in _ (by omega)
  have hmx : max a (-a) = a := by omega
  have hp := gcd_pos (a := a) hb
  have h1 := tdiv_in ha hp
  have h2 := tdiv_in (a := b) (by omega) hp
  unfold low1 low2
  generalize gcd a b = G at *
  have d1 : (G == 0) = false := beq_eq_false_iff_ne.2 (by omega)
  have d2 : ¬ G = 0 := by omega
  obtain ⟨A, hA⟩ : ∃ A, a.tdiv G = A := ⟨_, rfl⟩
  obtain ⟨B, hB⟩ : ∃ B, b.tdiv G = B := ⟨_, rfl⟩
  rw [hA] at h1
  rw [hB] at h2
  rw [hA, hB]
  obtain ⟨x1, x2⟩ := h1
  obtain ⟨y1, y2⟩ := h2
  go_enter Try.func21, Try.ntmps21
  go_wp2_with (go_at_call 28; refine (hd _).mono ?_; rintro e w2 ⟨rfl, q, hw⟩; clear hd; have X : Fr w2 w.heap.size 0 0 := (by rw [hw]; exact (Fr.new w _ rfl 0 0).drewN q); have HB : Below w.heap.size w w2 := (by rw [hw]; exact below_drewN (balloc (Below.refl _ _) _) q); clear hw; obtain ⟨c0, c1, f0, f1⟩ := X)
  go_region
  all_goals
    go_wp2
    refine bodyPost_ret (v := .agg #[.int .i64 A, .int .i64 B]) (by simp [results, Try.results21, go_sem, c0, c1]) rfl ⟨rfl, ?_⟩
    repeat (first | refine Below.setCell ?_ (by simp) _ | refine Below.drew ?_)
    exact HB

/-- the sum, the sum of the squares -/
def sm (z : List Int) (k : Nat) : Int := tot (wt z) k
def sq (z : List Int) (k : Nat) : Int := tot (fun j => wt z j * wt z j) k
theorem sq_le {x : Int} (h0 : 0 ≤ x) (h1 : x ≤ 1048576) : 0 ≤ x * x ∧ x * x ≤ 1099511627776 := by
  refine ⟨Int.mul_nonneg h0 h0, ?_⟩
  have := Int.mul_le_mul h1 h1 h0 (by omega)
  omega
theorem sm_in {z : List Int} (h : sright z) (k : Nat) (hk : k ≤ z.length) : 0 ≤ sm z k ∧ sm z k ≤ 314572800 := by
  have a := tot_in (wt z) 1048576 k fun j hj => h.2 j (by omega)
  have b := h.1
  refine ⟨a.1, ?_⟩
  have c := a.2
  show tot _ k ≤ _
  omega
theorem sq_in {z : List Int} (h : sright z) (k : Nat) (hk : k ≤ z.length) : 0 ≤ sq z k ∧ sq z k ≤ 329853488332800 := by
  have a := tot_in (fun j => wt z j * wt z j) 1099511627776 k fun j hj => by
    have := h.2 j (by omega)
    exact sq_le this.1 this.2
  have b := h.1
  refine ⟨a.1, ?_⟩
  have c := a.2
  show tot _ k ≤ _
  omega
/-- what Even tells: both parts, and the number of its error -/
def even (z : List Int) : Int × Int × Int :=
  if sright z then if sm z z.length = 0 then (0, 0, 3) else (low1 (sm z z.length * sm z z.length) (z.length * sq z z.length), low2 (sm z z.length * sm z z.length) (z.length * sq z z.length), 0) else (0, 0, 2)
theorem even_no {z : List Int} (h : ¬ sright z) : even z = (0, 0, 2) := if_neg h
theorem even_none {z : List Int} (h : sright z) (k : sm z z.length = 0) : even z = (0, 0, 3) := by unfold even; rw [if_pos h, if_pos k]
theorem even_yes {z : List Int} (h : sright z) (k : ¬ sm z z.length = 0) : even z = (low1 (sm z z.length * sm z z.length) (z.length * sq z z.length), low2 (sm z z.length * sm z z.length) (z.length * sq z z.length), 0) := by unfold even; rw [if_pos h, if_neg k]
/-- where the sum is above 0 so is the sum of the squares -/
theorem sq_pos {z : List Int} (h : sright z) (k : Nat) (hk : k ≤ z.length) : sm z k ≤ sq z k := by
  refine tot_le k fun j hj => ?_
  have := (h.2 j (by omega)).1
  show wt z j ≤ wt z j * wt z j
  have e : wt z j = z.getD j 0 := rfl
  rw [e]
  by_cases c : z.getD j 0 = 0
  · rw [c]; omega
  · have := Int.mul_le_mul_of_nonneg_left (a := 1) (b := z.getD j 0) (c := z.getD j 0) (by omega) (by omega)
    omega

def EvenIs (w : World) (v : Int × Int × Int) (e : Ending) (w' : World) : Prop := e = .returned (.tuple #[.agg #[.int .i64 v.1, .int .i64 v.2.1], .int .i64 v.2.2]) ∧ Below w.heap.size w w'

set_option maxHeartbeats 3200000 in
theorem even_any (a : Option Addr) (cap : Nat) (z : List Int) (w : World) (hz : Row w a z) (hl : z.length ≤ 35184372088832) :
    Calls Try.prog 7 #[.slice a z.length cap] w (EvenIs w (even z)) := by
  have hz2 := hz.alloc (.cells #[.int .i64 0, .int .i64 0] 24)
  have o1 := right_any a cap z _ hz2 hl
  have X := Fr.new w _ rfl 0 0
  have HB : Below w.heap.size w (w.alloc (.cells #[.int .i64 0, .int .i64 0] 24)) := balloc (Below.refl _ _) _
  by_cases hr : sright z
  · rw [decide_eq_true hr] at o1
    have hin : Hid (∀ k, k < z.length → 0 ≤ z.getD k 0 ∧ z.getD k 0 ≤ 1048576) := hr.2
    have h1 : Hid (∀ k, k ≤ z.length → 0 ≤ sm z k ∧ sm z k ≤ 314572800) := fun k hk => sm_in hr k hk
    have h2 : Hid (∀ k, k ≤ z.length → 0 ≤ sq z k ∧ sq z k ≤ 329853488332800) := fun k hk => sq_in hr k hk
    have h3 : Hid (sm z z.length ≤ sq z z.length ∧ (z.length = 0 → sm z z.length = 0)) := ⟨sq_pos hr _ (Nat.le_refl _), fun q => by rw [q]; rfl⟩
    have e1 : Hid (sm z z.length = 0 → even z = (0, 0, 3)) := fun k => even_none hr k
    have e2 : Hid (¬ sm z z.length = 0 → even z = (low1 (sm z z.length * sm z z.length) (z.length * sq z z.length), low2 (sm z z.length * sm z z.length) (z.length * sq z z.length), 0)) := fun k => even_yes hr k
    have hl3 := hr.1
    clear hr
    generalize even z = E at *
    obtain ⟨n, hn⟩ : ∃ n, z.length = n := ⟨_, rfl⟩
    rw [hn] at o1 hin h1 h2 h3 e1 e2 hl3 ⊢
    have hzl : Hid (z.length = n) := hn
    clear hn hl
    go_enter Try.func7, Try.ntmps7
    go_wp2_with (go_at_call 9; refine o1.mono ?_; rintro e w2 ⟨rfl, hw⟩; rw [← hw] at hz2 X HB; clear o1 hw)
    go_loopw [4, 5, 14] (fun s t i wr => ∃ k : Nat, k ≤ n ∧ i = .int .i64 k ∧ s = .int .i64 (sm z k) ∧ t = .int .i64 (sq z k) ∧ w2 = wr) (fun _ _ i _ => n - (intOf i).toNat)
    case atStart => exact ⟨0, Nat.zero_le _, rfl, rfl, rfl, rfl⟩
    case round =>
      obtain ⟨k, hk, rfl, rfl, rfl, rfl⟩ := hrel
      by_cases hlt : k < n
      · have q1 := hzl.out
        obtain ⟨b, off, rfl, k1⟩ := hz2.at (by omega)
        have cx := k1 k (by omega)
        have hkI : (k : Int) < n := by omega
        obtain ⟨x0, x1⟩ := hin.out k hlt
        obtain ⟨s0, s1⟩ := h1.out k hk
        obtain ⟨t0, t1⟩ := h2.out k hk
        have g1 : Hid (sm z k + z.getD k 0 = sm z (k + 1)) := rfl
        have g2 : Hid (sq z k + z.getD k 0 * z.getD k 0 = sq z (k + 1)) := rfl
        generalize z.getD k 0 = x at cx x0 x1 g1 g2
        obtain ⟨y0, y1⟩ := sq_le x0 x1
        obtain ⟨y, hy⟩ : ∃ y, x * x = y := ⟨_, rfl⟩
        rw [hy] at g2 y0 y1
        generalize sm z k = S at g1 s0 s1 ⊢
        generalize sq z k = T at g2 t0 t1 ⊢
        clear k1 q1 hin h1 h2 h3 e1 e2
        go_wp2
        go_roundw
        case rel => exact ⟨k + 1, by omega, by go_num, by rw [g1.out], by rw [g2.out], by first | rfl | trivial⟩
        case measure => simp [intOf]; omega
      · obtain rfl : k = n := by omega
        obtain ⟨s0, s1⟩ := h1.out k hk
        obtain ⟨t0, t1⟩ := h2.out k hk
        obtain ⟨st, sn⟩ := h3.out
        replace sn : Hid _ := sn
        generalize sm z k = S at *
        generalize sq z k = T at *
        obtain ⟨c0, c1, f0, f1⟩ := X
        clear h1 h2 h3 hin
        by_cases c : S = 0
        · have d : (S == 0) = true := beq_iff_eq.2 c
          have e : Hid _ := e1.out c
          clear e1 e2 c
          go_wp2
          refine bodyPost_ret (v := .tuple #[.agg #[.int .i64 0, .int .i64 0], .int .i64 3]) (by simp [results, Try.results7, go_sem, c0, c1]) rfl ⟨by rw [e.out], ?_⟩
          repeat (first | refine Below.setCell ?_ (by simp) _ | refine Below.drew ?_)
          exact HB
        · have d : (S == 0) = false := beq_eq_false_iff_ne.2 c
          have e := e2.out c
          clear e1 e2
          have p0 : 0 ≤ S * S := Int.mul_nonneg s0 s0
          have p1 : S * S ≤ 98956046499840000 := by
            have := Int.mul_le_mul s1 s1 s0 (by omega)
            omega
          have q0 : 0 < (k : Int) * T := Int.mul_pos (by
            have : k ≠ 0 := fun q => c (sn.out q)
            omega) (by omega)
          have q1 : (k : Int) * T ≤ 98956046499840000 := by
            have := Int.mul_le_mul (show (k : Int) ≤ 300 by omega) t1 t0 (by omega)
            omega
          have ho := fun v => lowest_any (S * S) (k * T) v p0 q0 (by omega) (by omega)
          generalize low1 (S * S) (k * T) = A at *
          generalize low2 (S * S) (k * T) = B at *
          replace e : Hid _ := e
          obtain ⟨P, hP⟩ : ∃ P, S * S = P := ⟨_, rfl⟩
          obtain ⟨Q, hQ⟩ : ∃ Q, (k : Int) * T = Q := ⟨_, rfl⟩
          rw [hP] at p0 p1 ho
          rw [hQ] at q0 q1 ho
          go_wp2_with (go_at_call 21; refine (ho _).mono ?_; rintro e' w3 ⟨rfl, b3⟩; clear ho; obtain ⟨c0, c1, f0, f1⟩ := (Fr.mk c0 c1 f0 f1).kept b3; replace HB := bthen HB b3; clear b3)
          refine bodyPost_ret (v := .tuple #[.agg #[.int .i64 A, .int .i64 B], .int .i64 0]) (by simp [results, Try.results7, go_sem, c0, c1]) rfl ⟨by rw [e.out], ?_⟩
          repeat (first | refine Below.setCell ?_ (by simp) _ | refine Below.drew ?_)
          exact HB
  · rw [decide_eq_false hr] at o1
    rw [even_no hr]
    clear hr
    generalize z.length = n at *
    obtain ⟨c0, c1, f0, f1⟩ := X
    go_enter Try.func7, Try.ntmps7
    go_wp2_with (go_at_call 9; refine o1.mono ?_; rintro e w2 ⟨rfl, hw⟩; subst hw; clear o1)
    refine bodyPost_ret (v := .tuple #[.agg #[.int .i64 0, .int .i64 0], .int .i64 2]) (by simp [results, Try.results7, go_sem, c0, c1]) rfl ⟨rfl, ?_⟩
    repeat (first | refine Below.setCell ?_ (by simp) _ | refine Below.drew ?_)
    exact HB

end Go.Proofs.Ytggnhgbimkfdaaa
