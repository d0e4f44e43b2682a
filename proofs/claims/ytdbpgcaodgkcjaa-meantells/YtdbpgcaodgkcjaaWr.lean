/- PROVED: what potential.isNode and potential.Wrong answer. CONDITIONS: none beyond each theorem's own. -/
import Derived.Test.YtdbpgcaodgkcjaaEdg
namespace Go.Proofs.Ytdbpgcaodgkcjaa
open Go.RowKit

theorem node_any (n : Int) (a : Option Addr) (m cap : Nat) (x : Int) (w : World) :
    Calls Try.prog 25 #[.agg #[.int .i64 n, .slice a m cap], .int .i64 x] w fun e w' => e = .returned (.bool (decide (0 ≤ x ∧ x < n))) ∧ Below w.heap.size w w' := by
  have hB : Below w.heap.size w (w.alloc (.cells #[.int .i64 n, .slice a m cap] 24)) := balloc (Below.refl _ _) _
  by_cases h0 : 0 ≤ x
  · have d0 : decide (0 ≤ x) = true := decide_eq_true h0
    have e : decide (0 ≤ x ∧ x < n) = decide (x < n) := by rw [Bool.eq_iff_iff]; simp [h0]
    rw [e]
    obtain ⟨t, ht⟩ : ∃ t, decide (x < n) = t := ⟨_, rfl⟩
    rw [ht]
    clear e h0
    go_enter Try.func25, Try.ntmps25
    go_wp2
    go_ret
    exact ⟨by first | rfl | (rw [ht]), hB⟩
  · have d0 : decide (0 ≤ x) = false := decide_eq_false h0
    have e : decide (0 ≤ x ∧ x < n) = false := decide_eq_false (by omega)
    rw [e]
    clear e h0
    go_enter Try.func25, Try.ntmps25
    go_wp2
    go_ret
    exact ⟨rfl, hB⟩

set_option maxHeartbeats 3200000 in
theorem wrong_any (n : Int) (a : Option Addr) (cap : Nat) (L : List Ed) (w : World) (hE : ERow w a L) (hl : L.length ≤ 9223372036854775807) :
    Calls Try.prog 15 #[.agg #[.int .i64 n, .slice a L.length cap]] w fun e w' => e = .returned (.int .i64 (gwr n L)) ∧ Below w.heap.size w w' := by
  obtain ⟨m, hm⟩ : ∃ m, L.length = m := ⟨_, rfl⟩
  have hyes : Hid ((0 ≤ n ∧ n ≤ 300 ∧ m ≤ 4800) → (∀ j, j < m → eok n (ed L j)) → gwr n L = 0) := fun h k => gwr_yes ⟨h.1, h.2.1, by rw [hm]; exact h.2.2, fun j hj => k j (by omega)⟩
  have hno : Hid (∀ j, j < m → ¬ eok n (ed L j) → gwr n L = 2) := fun j hj h => gwr_no fun k => h (k.2.2.2 j (by omega))
  have hno1 : Hid (¬ (0 ≤ n ∧ n ≤ 300 ∧ m ≤ 4800) → gwr n L = 2) := fun h => gwr_no fun k => h ⟨k.1, k.2.1, by rw [← hm]; exact k.2.2.1⟩
  generalize gwr n L = ans at hyes hno hno1 ⊢
  have hlm : Hid (L.length = m) := hm
  rw [hm] at hl ⊢
  clear hm
  obtain ⟨O, hO⟩ : ∃ O, w.heap.size = O := ⟨_, rfl⟩
  have K0 : Gb (w.alloc (.cells #[.int .i64 n, .slice a m cap] 24)) O n a m cap := hO ▸ Gb.new w n a m cap
  have hB0 : Below w.heap.size w (w.alloc (.cells #[.int .i64 n, .slice a m cap] 24)) := balloc (Below.refl _ _) _
  have hE0 := hE.kept hB0
  obtain ⟨w0, hw0⟩ : ∃ w0, w.alloc (.cells #[.int .i64 n, .slice a m cap] 24) = w0 := ⟨_, rfl⟩
  rw [hw0] at K0 hB0 hE0
  obtain ⟨c0, c1⟩ := id K0
  by_cases hN : n < 0
  · have ha : ans = 2 := hno1.out (by omega)
    subst ha
    have d : decide (n < 0) = true := decide_eq_true hN
    clear hyes hno hno1 hE hE0 K0
    go_enter Try.func15, Try.ntmps15
    go_wp2
    go_ret
    exact ⟨rfl, by first | exact hB0 | (rw [← hO]; exact hB0)⟩
  · have d : decide (n < 0) = false := decide_eq_false hN
    by_cases hN3 : 300 < n
    · have ha : ans = 2 := hno1.out (by omega)
      subst ha
      have d1 : decide (300 < n) = true := decide_eq_true hN3
      clear hyes hno hno1 hE hE0 K0
      go_enter Try.func15, Try.ntmps15
      go_wp2
      go_ret
      exact ⟨rfl, by first | exact hB0 | (rw [← hO]; exact hB0)⟩
    · have d1 : decide (300 < n) = false := decide_eq_false hN3
      by_cases hM : 4800 < m
      · have ha : ans = 2 := hno1.out (by omega)
        subst ha
        have d2 : decide ((4800 : Int) < (m : Int)) = true := decide_eq_true (by omega)
        have d3 : decide (4800 < m) = true := decide_eq_true (by omega)
        clear hyes hno hno1 hE hE0 K0
        go_enter Try.func15, Try.ntmps15
        go_wp2
        go_ret
        exact ⟨rfl, by first | exact hB0 | (rw [← hO]; exact hB0)⟩
      · have d2 : decide ((4800 : Int) < (m : Int)) = false := decide_eq_false (by omega)
        have d3 : decide (4800 < m) = false := decide_eq_false (by omega)
        replace hyes : Hid ((∀ j, j < m → eok n (ed L j)) → ans = 0) := hyes.out (by omega)
        clear hno1 hE
        go_enter Try.func15, Try.ntmps15
        go_wp2
        go_loopw [22] (fun i wr => ∃ k : Nat, k ≤ m ∧ i = .int .i64 k ∧ (∀ j, j < k → eok n (ed L j)) ∧ Below w0.heap.size w0 wr) (fun i _ => m - (intOf i).toNat)
        case atStart => exact ⟨0, Nat.zero_le _, rfl, fun j h => by omega, Below.refl _ _⟩
        case round =>
          obtain ⟨k, hk, rfl, hA, hB⟩ := hrel
          clear d d1 d2 d3 c0 c1
          by_cases hlt : k < m
          · have q1 := hlm.out
            obtain ⟨b, off, rfl, e1⟩ := (hE0.kept hB).at (by omega)
            obtain ⟨cx, cy, cz⟩ := e1 k (by omega)
            have hkI : (k : Int) < m := by omega
            have hA2 : Hid (eok n (ed L k) → ∀ j, j < k + 1 → eok n (ed L j)) := fun h j hj => by
              by_cases e : j = k
              · subst e; exact h
              · exact hA j (by omega)
            have hno2 : Hid (¬ eok n (ed L k) → ans = 2) := hno.out k hlt
            clear hA e1 hno hyes q1
            obtain ⟨⟨f, t, x⟩, hxy⟩ : ∃ p, ed L k = p := ⟨_, rfl⟩
            rw [hxy] at cx cy cz hA2 hno2
            clear hxy
            simp only at cx cy cz
            have c1 := node_any n (some ⟨b, off, none⟩) m cap f
            have c2 := node_any n (some ⟨b, off, none⟩) m cap t
            have hB1 : Below wr.heap.size wr (wr.alloc (.cells #[.int .i64 f, .int .i64 t, .int .i64 x] 36)) := balloc (Below.refl _ _) _
            obtain ⟨g0, g1⟩ := (K0.kept hB).alloc (.cells #[.int .i64 f, .int .i64 t, .int .i64 x] 36)
            have hx0 : (wr.alloc (.cells #[.int .i64 f, .int .i64 t, .int .i64 x] 36)).cell? ⟨wr.heap.size, 1, none⟩ = some (.int .i64 t) := by rw [World.cell?_alloc_at _ _ _ _ rfl]; rfl
            have hx1 : (wr.alloc (.cells #[.int .i64 f, .int .i64 t, .int .i64 x] 36)).cell? ⟨wr.heap.size, 2, none⟩ = some (.int .i64 x) := by rw [World.cell?_alloc_at _ _ _ _ rfl]; rfl
            have hx2 : (wr.alloc (.cells #[.int .i64 f, .int .i64 t, .int .i64 x] 36)).cell? ⟨wr.heap.size, 0, none⟩ = some (.int .i64 f) := by rw [World.cell?_alloc_at _ _ _ _ rfl]; rfl
            have hB2 : Below w0.heap.size w0 (wr.alloc (.cells #[.int .i64 f, .int .i64 t, .int .i64 x] 36)) := balloc hB _
            have K1 := (K0.kept hB).alloc (.cells #[.int .i64 f, .int .i64 t, .int .i64 x] 36)
            obtain ⟨W1, hW1⟩ : ∃ W1, wr.alloc (.cells #[.int .i64 f, .int .i64 t, .int .i64 x] 36) = W1 := ⟨_, rfl⟩
            rw [hW1] at hB1 g0 g1 hx0 hx1 hx2 hB2 K1
            obtain ⟨E, hEE⟩ : ∃ E, wr.heap.size = E := ⟨_, rfl⟩
            rw [hEE] at hx0 hx1 hx2
            by_cases h1 : 0 ≤ f ∧ f < n
            · rw [decide_eq_true h1] at c1
              by_cases h2 : 0 ≤ t ∧ t < n
              · rw [decide_eq_true h2] at c2
                replace c1 : Hid _ := c1
                replace c2 : Hid _ := c2
                by_cases h3 : x < -1048576
                · have ha : ans = 2 := hno2.out fun q => by obtain ⟨_, _, q, _⟩ := q; simp only at q; omega
                  subst ha
                  have d4 : decide (x < -1048576) = true := decide_eq_true h3
                  clear hA2 hno2 h1 h2 h3
                  go_wp2_with (first
                    | (go_at_call 25; refine (c1.out _).mono ?_; rintro e W2 ⟨rfl, b1⟩; clear c1; obtain ⟨g2, g3⟩ := K1.kept b1; have hx3 := (b1.cell (p := ⟨E, 1, none⟩) (block_lt hx0)).trans hx0; have hx4 := (b1.cell (p := ⟨E, 2, none⟩) (block_lt hx1)).trans hx1)
                    | (go_at_call 25; refine (c2.out _).mono ?_; rintro e W3 ⟨rfl, b2⟩; clear c2; have hx5 := (b2.cell (p := ⟨E, 2, none⟩) (block_lt hx4)).trans hx4))
                  go_ret
                  exact ⟨rfl, bthen hB0 (bthen (bthen hB2 b1) b2)⟩
                · have d4 : decide (x < -1048576) = false := decide_eq_false h3
                  by_cases h4 : 1048576 < x
                  · have ha : ans = 2 := hno2.out fun q => by obtain ⟨_, _, _, q⟩ := q; simp only at q; omega
                    subst ha
                    have d5 : decide (1048576 < x) = true := decide_eq_true h4
                    clear hA2 hno2 h1 h2 h3 h4
                    go_wp2_with (first
                      | (go_at_call 25; refine (c1.out _).mono ?_; rintro e W2 ⟨rfl, b1⟩; clear c1; obtain ⟨g2, g3⟩ := K1.kept b1; have hx3 := (b1.cell (p := ⟨E, 1, none⟩) (block_lt hx0)).trans hx0; have hx4 := (b1.cell (p := ⟨E, 2, none⟩) (block_lt hx1)).trans hx1)
                      | (go_at_call 25; refine (c2.out _).mono ?_; rintro e W3 ⟨rfl, b2⟩; clear c2; have hx5 := (b2.cell (p := ⟨E, 2, none⟩) (block_lt hx4)).trans hx4))
                    go_ret
                    exact ⟨rfl, bthen hB0 (bthen (bthen hB2 b1) b2)⟩
                  · have d5 : decide (1048576 < x) = false := decide_eq_false h4
                    have hA3 := hA2.out ⟨h1, h2, by simp only; omega, by simp only; omega⟩
                    replace hA3 : Hid _ := hA3
                    clear hA2 hno2 h1 h2 h3 h4
                    go_wp2_with (first
                      | (go_at_call 25; refine (c1.out _).mono ?_; rintro e W2 ⟨rfl, b1⟩; clear c1; obtain ⟨g2, g3⟩ := K1.kept b1; have hx3 := (b1.cell (p := ⟨E, 1, none⟩) (block_lt hx0)).trans hx0; have hx4 := (b1.cell (p := ⟨E, 2, none⟩) (block_lt hx1)).trans hx1)
                      | (go_at_call 25; refine (c2.out _).mono ?_; rintro e W3 ⟨rfl, b2⟩; clear c2; have hx5 := (b2.cell (p := ⟨E, 2, none⟩) (block_lt hx4)).trans hx4))
                    go_roundw
                    case rel => exact ⟨k + 1, by omega, by go_num, hA3.out, bthen (bthen hB2 b1) b2⟩
                    case measure => simp [intOf]; omega
              · rw [decide_eq_false h2] at c2
                have ha : ans = 2 := hno2.out fun q => h2 q.2.1
                subst ha
                replace c1 : Hid _ := c1
                replace c2 : Hid _ := c2
                clear hA2 hno2 h1 h2
                go_wp2_with (first
                  | (go_at_call 25; refine (c1.out _).mono ?_; rintro e W2 ⟨rfl, b1⟩; clear c1; obtain ⟨g2, g3⟩ := K1.kept b1; have hx3 := (b1.cell (p := ⟨E, 1, none⟩) (block_lt hx0)).trans hx0; have hx4 := (b1.cell (p := ⟨E, 2, none⟩) (block_lt hx1)).trans hx1)
                  | (go_at_call 25; refine (c2.out _).mono ?_; rintro e W3 ⟨rfl, b2⟩; clear c2; have hx5 := (b2.cell (p := ⟨E, 2, none⟩) (block_lt hx4)).trans hx4))
                go_ret
                exact ⟨rfl, bthen hB0 (bthen (bthen hB2 b1) b2)⟩
            · rw [decide_eq_false h1] at c1
              have ha : ans = 2 := hno2.out fun q => h1 q.1
              subst ha
              replace c1 : Hid _ := c1
              clear hA2 hno2 h1 c2
              go_wp2_with (go_at_call 25; refine (c1.out _).mono ?_; rintro e W2 ⟨rfl, b1⟩; clear c1; obtain ⟨g2, g3⟩ := K1.kept b1; have hx3 := (b1.cell (p := ⟨E, 1, none⟩) (block_lt hx0)).trans hx0; have hx4 := (b1.cell (p := ⟨E, 2, none⟩) (block_lt hx1)).trans hx1)
              go_ret
              exact ⟨rfl, bthen hB0 (bthen hB2 b1)⟩
          · obtain rfl : m = k := by omega
            have ha : ans = 0 := hyes.out hA
            subst ha
            clear hA hyes hno
            go_wp2
            go_ret
            exact ⟨rfl, bthen hB0 hB⟩

end Go.Proofs.Ytdbpgcaodgkcjaa
