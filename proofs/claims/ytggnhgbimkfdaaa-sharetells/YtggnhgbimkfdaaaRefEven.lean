/- PROVED: what the document's own Lowest and NEven answer. CONDITIONS: none beyond each theorem's own. -/
import Derived.Test.YtggnhgbimkfdaaaRef
namespace Go.Proofs.Ytggnhgbimkfdaaa
open Go.RowKit

theorem gcd_left {a b : Int} (ha : 0 ≤ a) : gcd (a.tmod b) b = gcd a b := (gcd_comm _ _).trans (gcd_step ha)
theorem gcd_right {a b : Int} (hb : 0 ≤ b) : gcd a (b.tmod a) = gcd a b := (gcd_step hb).trans (gcd_comm _ _)
theorem gcd_max {u v : Int} (hu : 0 ≤ u) (hv : 0 ≤ v) (h : u = 0 ∨ v = 0) : max u v = gcd u v := by
  rcases h with rfl | rfl
  · rw [gcd_comm, gcd_zero hv]; omega
  · rw [gcd_zero hu]; omega

set_option maxHeartbeats 3200000 in
theorem nlowest_any (a b : Int) (w : World) (ha : 0 ≤ a) (hb : 0 < b) (ha1 : a ≤ 9223372036854775807) (hb1 : b ≤ 9223372036854775807) :
    Calls Try.prog 22 #[.int .i64 a, .int .i64 b] w fun e w' => e = .returned (.agg #[.int .i64 (low1 a b), .int .i64 (low2 a b)]) ∧ Below w.heap.size w w' := by
  have hp := gcd_pos (a := a) hb
  have h1 := tdiv_in ha hp
  have h2 := tdiv_in (a := b) (by omega) hp
  have hg0 : Hid (gcd a b = gcd a b) := rfl
  unfold low1 low2
  generalize hG : gcd a b = G at *
  have d1 : (G == 0) = false := beq_eq_false_iff_ne.2 (by omega)
  have d2 : ¬ G = 0 := by omega
  obtain ⟨A, hA⟩ : ∃ A, a.tdiv G = A := ⟨_, rfl⟩
  obtain ⟨B, hB⟩ : ∃ B, b.tdiv G = B := ⟨_, rfl⟩
  rw [hA] at h1
  rw [hB] at h2
  rw [hA, hB]
  obtain ⟨x1, x2⟩ := h1
  obtain ⟨y1, y2⟩ := h2
  have hmx : max a (-a) = a := by omega
  replace hG : Hid _ := hG
  have X := Fr.new w _ rfl 0 0
  have HB : Below w.heap.size w (w.alloc (.cells #[.int .i64 0, .int .i64 0] 24)) := balloc (Below.refl _ _) _
  go_enter Try.func22, Try.ntmps22
  go_wp2
  generalize w.alloc (.cells #[.int .i64 0, .int .i64 0] 24) = w0 at *
  go_loopw [5, 6] (fun x y wr => ∃ (u v : Int), 0 ≤ u ∧ 0 ≤ v ∧ u ≤ 9223372036854775807 ∧ v ≤ 9223372036854775807 ∧ x = .int .i64 u ∧ y = .int .i64 v ∧ gcd u v = G ∧ w0 = wr) (fun x y _ => (intOf x).toNat + (intOf y).toNat)
  case atStart => exact ⟨a, b, ha, by omega, ha1, hb1, rfl, rfl, hG.out, rfl⟩
  case round =>
    obtain ⟨u, v, hu, hv, hu1, hv1, rfl, rfl, hg, rfl⟩ := hrel
    by_cases c1 : 0 < u
    · by_cases c2 : 0 < v
      · by_cases c3 : v < u
        · have hg2 : Hid (gcd (u.tmod v) v = G) := (gcd_left hu).trans hg
          obtain ⟨m, hm⟩ : ∃ m, u.tmod v = m := ⟨_, rfl⟩
          have m0 : 0 ≤ m := by rw [← hm]; exact Int.tmod_nonneg _ hu
          have m1 : m < v := by rw [← hm]; exact Int.tmod_lt_of_pos _ c2
          have z1 : (v == 0) = false := beq_eq_false_iff_ne.2 (by omega)
          have z2 : ¬ v = 0 := by omega
          rw [hm] at hg2
          clear hg hA hB x1 x2 y1 y2 hmx ha hb ha1 hb1
          go_wp2
          go_roundw
          case rel => exact ⟨m, v, by omega, by omega, by omega, by omega, rfl, rfl, hg2.out, by first | rfl | trivial⟩
          case measure => simp [intOf]; omega
        · have hg2 : Hid (gcd u (v.tmod u) = G) := (gcd_right hv).trans hg
          obtain ⟨m, hm⟩ : ∃ m, v.tmod u = m := ⟨_, rfl⟩
          have m0 : 0 ≤ m := by rw [← hm]; exact Int.tmod_nonneg _ hv
          have m1 : m < u := by rw [← hm]; exact Int.tmod_lt_of_pos _ c1
          have z1 : (u == 0) = false := beq_eq_false_iff_ne.2 (by omega)
          have z2 : ¬ u = 0 := by omega
          rw [hm] at hg2
          clear hg hA hB x1 x2 y1 y2 hmx ha hb ha1 hb1
          go_wp2
          go_roundw
          case rel => exact ⟨u, m, by omega, by omega, by omega, by omega, rfl, rfl, hg2.out, by first | rfl | trivial⟩
          case measure => simp [intOf]; omega
      · have hx : max u v = G := (gcd_max hu hv (.inr (by omega))).trans hg
        have f1 : decide (0 < u) = true := decide_eq_true c1
        have f2 : decide (0 < v) = false := decide_eq_false c2
        clear hg c1 c2 hmx
        obtain ⟨c0, c1, f0, f1⟩ := X
        go_wp2
        go_region
        all_goals
          go_wp2
          refine bodyPost_ret (v := .agg #[.int .i64 A, .int .i64 B]) (by simp [results, Try.results22, go_sem, c0, c1]) rfl ⟨rfl, ?_⟩
          repeat (first | refine Below.setCell ?_ (by simp) _ | refine Below.drew ?_)
          exact HB
    · have hx : max u v = G := (gcd_max hu hv (.inl (by omega))).trans hg
      have f1 : decide (0 < u) = false := decide_eq_false c1
      clear hg c1 hmx
      obtain ⟨c0, c1, f0, f1⟩ := X
      go_wp2
      go_region
      all_goals
        go_wp2
        refine bodyPost_ret (v := .agg #[.int .i64 A, .int .i64 B]) (by simp [results, Try.results22, go_sem, c0, c1]) rfl ⟨rfl, ?_⟩
        repeat (first | refine Below.setCell ?_ (by simp) _ | refine Below.drew ?_)
        exact HB

/-- the sum of the products with the first k, and with some of the next one's -/
def iv (z : List Int) (k j : Nat) : Int := sm z k * sm z z.length + z.getD k 0 * sm z j
theorem iv_zero (z : List Int) (k : Nat) : iv z k 0 = sm z k * sm z z.length := by
  show _ + z.getD k 0 * 0 = _
  rw [Int.mul_zero, Int.add_zero]
theorem iv_step (z : List Int) (k j : Nat) : iv z k j + z.getD k 0 * z.getD j 0 = iv z k (j + 1) := by
  show _ + _ = sm z k * sm z z.length + z.getD k 0 * (sm z j + z.getD j 0)
  rw [Int.mul_add]; unfold iv; omega
theorem iv_all (z : List Int) (k : Nat) : iv z k z.length = sm z (k + 1) * sm z z.length := by
  show _ = (sm z k + z.getD k 0) * sm z z.length
  rw [Int.add_mul]; rfl
theorem mul_in {a b A B : Int} (a0 : 0 ≤ a) (a1 : a ≤ A) (b0 : 0 ≤ b) (b1 : b ≤ B) : 0 ≤ a * b ∧ a * b ≤ A * B := ⟨Int.mul_nonneg a0 b0, Int.mul_le_mul a1 b1 b0 (by omega)⟩
theorem iv_in {z : List Int} (h : sright z) (k j : Nat) (hk : k < z.length) (hj : j ≤ z.length) : 0 ≤ iv z k j ∧ iv z k j ≤ 200000000000000000 := by
  have a := sm_in h k (by omega)
  have b := sm_in h z.length (Nat.le_refl _)
  have c := sm_in h j hj
  have d := h.2 k hk
  unfold inr at d
  have e := mul_in a.1 a.2 b.1 b.2
  have f := mul_in d.1 d.2 c.1 c.2
  unfold iv
  omega
theorem smm_in {z : List Int} (h : sright z) (k : Nat) (hk : k ≤ z.length) : 0 ≤ sm z k * sm z z.length ∧ sm z k * sm z z.length ≤ 98956046499840000 := by
  have a := sm_in h k (by omega)
  have b := sm_in h z.length (Nat.le_refl _)
  have e := mul_in a.1 a.2 b.1 b.2
  omega
/-- the sum of the squares of the first k, times how many there are -/
def qn (z : List Int) (k : Nat) : Int := sq z k * z.length
theorem qn_step (z : List Int) (k : Nat) : qn z k + z.getD k 0 * z.getD k 0 * z.length = qn z (k + 1) := by
  show _ = (sq z k + z.getD k 0 * z.getD k 0) * _
  rw [Int.add_mul]; rfl
theorem qn_in {z : List Int} (h : sright z) (k : Nat) (hk : k ≤ z.length) : 0 ≤ qn z k ∧ qn z k ≤ 98956046499840000 := by
  have a := sq_in h k hk
  have b := h.1
  have e := mul_in (b := (z.length : Int)) (B := 300) a.1 a.2 (by omega) (by omega)
  unfold qn
  omega
/-- the sum of the squares is no more than 2^20 times the sum -/
theorem sq_hi {z : List Int} (h : sright z) (k : Nat) (hk : k ≤ z.length) : sq z k ≤ 1048576 * sm z k := by
  show _ ≤ 1048576 * tot (wt z) k
  rw [← tot_mul]
  refine tot_le k fun j hj => ?_
  have := h.2 j (by omega)
  unfold inr at this
  show z.getD j 0 * z.getD j 0 ≤ 1048576 * z.getD j 0
  exact Int.mul_le_mul_of_nonneg_right this.2 this.1
theorem qn_zero {z : List Int} (h : sright z) : qn z z.length = 0 ↔ sm z z.length = 0 := by
  have a := sq_hi h z.length (Nat.le_refl _)
  have b := sq_in h z.length (Nat.le_refl _)
  have c := sq_pos h z.length (Nat.le_refl _)
  have d := sm_in h z.length (Nat.le_refl _)
  unfold qn
  rw [Int.mul_eq_zero]
  constructor
  · rintro (e | e)
    · omega
    · have : z.length = 0 := by omega
      rw [this]; rfl
  · intro e
    left; omega

set_option maxHeartbeats 6400000 in
theorem neven_any (a : Option Addr) (cap : Nat) (z : List Int) (w : World) (hz : Row w a z) (hl : z.length ≤ 35184372088832) :
    Calls Try.prog 8 #[.slice a z.length cap] w (EvenIs w (even z)) := by
  have hz2 := hz.alloc (.cells #[.int .i64 0, .int .i64 0] 24)
  have o1 := nright_any a cap z _ hz2 hl
  have X := Fr.new w _ rfl 0 0
  have HB : Below w.heap.size w (w.alloc (.cells #[.int .i64 0, .int .i64 0] 24)) := balloc (Below.refl _ _) _
  by_cases hr : sright z
  · rw [decide_eq_true hr] at o1
    have hin : Hid (∀ k, k < z.length → 0 ≤ z.getD k 0 ∧ z.getD k 0 ≤ 1048576) := hr.2
    have i0 : Hid (∀ k, iv z k 0 = sm z k * sm z z.length) := iv_zero z
    have i1 : Hid (∀ k j, iv z k j + z.getD k 0 * z.getD j 0 = iv z k (j + 1)) := iv_step z
    have i2 : Hid (∀ k, iv z k z.length = sm z (k + 1) * sm z z.length) := iv_all z
    have i3 : Hid (∀ k j, k < z.length → j ≤ z.length → 0 ≤ iv z k j ∧ iv z k j ≤ 200000000000000000) := iv_in hr
    have s1 : Hid (∀ k, k ≤ z.length → 0 ≤ sm z k * sm z z.length ∧ sm z k * sm z z.length ≤ 98956046499840000) := smm_in hr
    have s0 : Hid (sm z 0 * sm z z.length = 0) := Int.zero_mul _
    have q1 : Hid (∀ k, qn z k + z.getD k 0 * z.getD k 0 * z.length = qn z (k + 1)) := qn_step z
    have q2 : Hid (∀ k, k ≤ z.length → 0 ≤ qn z k ∧ qn z k ≤ 98956046499840000) := qn_in hr
    have q0 : Hid (qn z 0 = 0) := Int.zero_mul _
    have e1 : Hid (qn z z.length = 0 → even z = (0, 0, 3)) := fun k => even_none hr ((qn_zero hr).1 k)
    have e2 : Hid (¬ qn z z.length = 0 → even z = (low1 (sm z z.length * sm z z.length) (qn z z.length), low2 (sm z z.length * sm z z.length) (qn z z.length), 0)) := fun k => by
      show even z = _
      rw [even_yes hr (fun q => k ((qn_zero hr).2 q))]
      unfold qn
      rw [Int.mul_comm (sq z z.length)]
    have hl3 := hr.1
    clear hr
    generalize even z = E at *
    obtain ⟨n, hn⟩ : ∃ n, z.length = n := ⟨_, rfl⟩
    rw [hn] at o1 hin i0 i2 i3 s1 s0 q1 q2 e1 e2 hl3 ⊢
    have hzl : Hid (z.length = n) := hn
    clear hn hl
    generalize hSM : (fun k => sm z k * sm z n) = M at *
    replace i0 : Hid (∀ k, iv z k 0 = M k) := by rw [← hSM]; exact i0
    replace i2 : Hid (∀ k, iv z k n = M (k + 1)) := by rw [← hSM]; exact i2
    replace s1 : Hid (∀ k, k ≤ n → 0 ≤ M k ∧ M k ≤ 98956046499840000) := by rw [← hSM]; exact s1
    replace s0 : Hid (M 0 = 0) := by rw [← hSM]; exact s0
    replace e2 : Hid (¬ qn z n = 0 → E = (low1 (M n) (qn z n), low2 (M n) (qn z n), 0)) := by rw [← hSM]; exact e2
    clear hSM
    generalize qn z = Q at *
    generalize iv z = V at *
    go_enter Try.func8, Try.ntmps8
    go_wp2_with (go_at_call 10; refine o1.mono ?_; rintro e w2 ⟨rfl, hw⟩; rw [← hw] at hz2 X HB; clear o1 hw)
    go_loopw [4, 5, 16] (fun s t i wr => ∃ k : Nat, k ≤ n ∧ i = .int .i64 k ∧ s = .int .i64 (M k) ∧ t = .int .i64 (Q k) ∧ w2 = wr) (fun _ _ i _ => n - (intOf i).toNat)
    case atStart => exact ⟨0, Nat.zero_le _, rfl, by rw [s0.out], by rw [q0.out], rfl⟩
    case round =>
      obtain ⟨k, hk, rfl, rfl, rfl, rfl⟩ := hrel
      by_cases hlt : k < n
      · have ql := hzl.out
        obtain ⟨b, off, rfl, k1⟩ := hz2.at (by omega)
        have cx := k1 k (by omega)
        have hkI : (k : Int) < n := by omega
        obtain ⟨x0, x1⟩ := hin.out k hlt
        obtain ⟨t0, t1⟩ := q2.out k hk
        have g2 : Hid (Q k + z.getD k 0 * z.getD k 0 * n = Q (k + 1)) := q1.out k
        have iv1 : Hid (∀ j, V k j + z.getD k 0 * z.getD j 0 = V k (j + 1)) := i1.out k
        have iv0 := i0.out k
        have iv2 : Hid (V k n = M (k + 1)) := i2.out k
        have iv3 : Hid (∀ j, j ≤ n → 0 ≤ V k j ∧ V k j ≤ 200000000000000000) := fun j hj => i3.out k j hlt hj
        rw [← iv0]
        generalize z.getD k 0 = x at cx x0 x1 g2 iv1
        obtain ⟨y0, y1⟩ := sq_le x0 x1
        obtain ⟨y, hy⟩ : ∃ y, x * x = y := ⟨_, rfl⟩
        rw [hy] at g2 y0 y1
        obtain ⟨u0, u1⟩ := mul_in (b := (n : Int)) (B := 300) y0 y1 (by omega) (by omega)
        obtain ⟨u, hu⟩ : ∃ u, y * (n : Int) = u := ⟨_, rfl⟩
        rw [hu] at g2 u0 u1
        have k1' : Hid (∀ j, j < n → w2.cell? ⟨b, off + j, none⟩ = some (.int .i64 (z.getD j 0))) := fun j hj => k1 j (by omega)
        generalize Q k = T at g2 t0 t1 ⊢
        generalize V k = U at *
        clear k1 ql i0 i1 i2 i3 s1 s0 q1 q2 q0 e1 e2 iv0
        go_wp2
        go_loopw [4, 22] (fun s i wr => ∃ j : Nat, j ≤ n ∧ i = .int .i64 j ∧ s = .int .i64 (U j) ∧ w2 = wr) (fun _ i _ => n - (intOf i).toNat)
        case atStart => exact ⟨0, Nat.zero_le _, rfl, rfl, rfl⟩
        case round =>
          obtain ⟨j, hj, rfl, rfl, rfl⟩ := hrel
          by_cases hjt : j < n
          · have cz := k1'.out j hjt
            have hjI : (j : Int) < n := by omega
            obtain ⟨v0, v1⟩ := hin.out j hjt
            have gs : Hid (U j + x * z.getD j 0 = U (j + 1)) := iv1.out j
            obtain ⟨p0, p1⟩ := iv3.out j hj
            generalize z.getD j 0 = v at cz v0 v1 gs
            obtain ⟨r0, r1⟩ := mul_in x0 x1 v0 v1
            obtain ⟨r, hr⟩ : ∃ r, x * v = r := ⟨_, rfl⟩
            rw [hr] at gs r0 r1
            generalize U j = P at gs p0 p1 ⊢
            clear k1' iv1 iv2 iv3 hin g2 hy hu
            go_wp2
            go_roundw
            case rel => exact ⟨j + 1, by omega, by go_num, by rw [gs.out], by first | rfl | trivial⟩
            case measure => simp [intOf]; omega
          · obtain rfl : n = j := by omega
            clear iv1 iv3 hin k1'
            go_wp2
            go_roundw
            case rel => exact ⟨k + 1, by omega, by go_num, by rw [iv2.out], by rw [g2.out], by first | rfl | trivial⟩
            case measure => simp [intOf]; omega
      · obtain rfl : k = n := by omega
        obtain ⟨s2, s3⟩ := s1.out k hk
        obtain ⟨t0, t1⟩ := q2.out k hk
        generalize M k = S at *
        generalize Q k = T at *
        obtain ⟨c0, c1, f0, f1⟩ := X
        clear i0 i1 i2 i3 s1 s0 q1 q2 q0 hin
        by_cases c : T = 0
        · have d : (T == 0) = true := beq_iff_eq.2 c
          have e : Hid _ := e1.out c
          clear e1 e2 c
          go_wp2
          refine bodyPost_ret (v := .tuple #[.agg #[.int .i64 0, .int .i64 0], .int .i64 3]) (by simp [results, Try.results8, go_sem, c0, c1]) rfl ⟨by rw [e.out], ?_⟩
          repeat (first | refine Below.setCell ?_ (by simp) _ | refine Below.drew ?_)
          exact HB
        · have d : (T == 0) = false := beq_eq_false_iff_ne.2 c
          have e := e2.out c
          clear e1 e2
          have ho := fun v => nlowest_any S T v s2 (by omega) (by omega) (by omega)
          generalize low1 S T = A at *
          generalize low2 S T = B at *
          replace e : Hid _ := e
          go_wp2_with (go_at_call 22; refine (ho _).mono ?_; rintro e' w3 ⟨rfl, b3⟩; clear ho; obtain ⟨c0, c1, f0, f1⟩ := (Fr.mk c0 c1 f0 f1).kept b3; replace HB := bthen HB b3; clear b3)
          refine bodyPost_ret (v := .tuple #[.agg #[.int .i64 A, .int .i64 B], .int .i64 0]) (by simp [results, Try.results8, go_sem, c0, c1]) rfl ⟨by rw [e.out], ?_⟩
          repeat (first | refine Below.setCell ?_ (by simp) _ | refine Below.drew ?_)
          exact HB
  · rw [decide_eq_false hr] at o1
    rw [even_no hr]
    clear hr
    generalize z.length = n at *
    obtain ⟨c0, c1, f0, f1⟩ := X
    go_enter Try.func8, Try.ntmps8
    go_wp2_with (go_at_call 10; refine o1.mono ?_; rintro e w2 ⟨rfl, hw⟩; subst hw; clear o1)
    refine bodyPost_ret (v := .tuple #[.agg #[.int .i64 0, .int .i64 0], .int .i64 2]) (by simp [results, Try.results8, go_sem, c0, c1]) rfl ⟨rfl, ?_⟩
    repeat (first | refine Below.setCell ?_ (by simp) _ | refine Below.drew ?_)
    exact HB

end Go.Proofs.Ytggnhgbimkfdaaa
