/- PROVED: what the document's own IRight answers. CONDITIONS: none beyond each theorem's own. -/
import Derived.Test.YtolijbhokaieeaaRight
namespace Go.Proofs.Ytolijbhokaieeaa
open Go.RowKit

/-- this packet is as it should be -/
def okAt (t l : List Int) (k : Nat) : Prop := inr (t.getD k 0) ∧ inr (l.getD k 0) ∧ (0 < k → t.getD (k - 1) 0 ≤ t.getD k 0)
theorem jright_iff {t l : List Int} (h : t.length = l.length) : jright t l ↔ ∀ j, j < t.length → okAt t l j := by
  constructor
  · rintro ⟨_, u, a, b⟩ j hj
    refine ⟨a j hj, b j (by omega), fun h0 => ?_⟩
    have := u (j - 1) (by omega)
    rw [show j - 1 + 1 = j by omega] at this
    exact this
  · intro k
    refine ⟨h, fun j hj => ?_, fun j hj => (k j hj).1, fun j hj => (k j (by omega)).2.1⟩
    have := (k (j + 1) (by omega)).2.2 (by omega)
    rw [show j + 1 - 1 = j by omega] at this
    exact this

set_option maxHeartbeats 1600000 in
theorem iright_any (a1 a2 : Option Addr) (c1 c2 : Nat) (t l : List Int) (w : World) (ht : Row w a1 t) (hl : Row w a2 l) (_b1 : t.length ≤ 17592186044416) (b2 : l.length ≤ 17592186044416) :
    Calls Try.prog 8 #[.slice a1 t.length c1, .slice a2 l.length c2] w fun e w' => e = .returned (.bool (decide (jright t l))) ∧ ∃ q, w' = w.drewN q := by
  by_cases h1 : t.length = l.length
  · have hyes : Hid ((∀ j, j < t.length → okAt t l j) → decide (jright t l) = true) := fun k => decide_eq_true ((jright_iff h1).2 k)
    have hno : Hid (∀ j, j < t.length → ¬ okAt t l j → decide (jright t l) = false) := fun j hj k => decide_eq_false fun q => k ((jright_iff h1).1 q j hj)
    generalize decide (jright t l) = ans at hyes hno ⊢
    obtain ⟨n, hn⟩ : ∃ n, t.length = n := ⟨_, rfl⟩
    have hlt1 : ∀ j, j < n → j < t.length := fun j hj => by omega
    have hlt2 : ∀ j, j < n → j < l.length := fun j hj => by omega
    rw [← h1] at b2 ⊢
    rw [hn] at b2 hyes hno ⊢
    replace hlt1 : Hid _ := hlt1
    replace hlt2 : Hid _ := hlt2
    clear h1 _b1 hn
    go_enter Try.func8, Try.ntmps8
    go_wp2
    go_loopw [13] (fun i wr => ∃ k q : Nat, k ≤ n ∧ i = .int .i64 k ∧ (∀ j, j < k → okAt t l j) ∧ wr = w.drewN q) (fun i _ => n - (intOf i).toNat)
    case atStart => exact ⟨0, 0, Nat.zero_le _, rfl, fun j h => by omega, rfl⟩
    case round =>
      obtain ⟨k, q, hk, rfl, hA, rfl⟩ := hrel
      by_cases hlt : k < n
      · have p1 := hlt1.out k hlt
        have p2 := hlt2.out k hlt
        obtain ⟨g1, o1, rfl, k1⟩ := ht.at (by omega)
        obtain ⟨g2, o2, rfl, k2⟩ := hl.at (by omega)
        have cx := k1 k p1
        have cy := k2 k p2
        have hA2 : Hid (okAt t l k → ∀ j, j < k + 1 → okAt t l j) := fun h j hj => by
          by_cases e : j = k
          · subst e; exact h
          · exact hA j (by omega)
        have hno2 : Hid (¬ okAt t l k → ans = false) := hno.out k hlt
        have hltI : (k : Int) < n := by omega
        by_cases hk0 : 0 < k
        · obtain ⟨p, hp⟩ : ∃ p, k = p + 1 := ⟨k - 1, by omega⟩
          have cz := k1 p (by have := hlt1.out p (by omega); exact this)
          have hok : Hid (okAt t l k ↔ inr (t.getD k 0) ∧ inr (l.getD k 0) ∧ t.getD p 0 ≤ t.getD k 0) := by
            show _ ↔ _
            unfold okAt
            rw [show k - 1 = p by omega]
            exact ⟨fun h => ⟨h.1, h.2.1, h.2.2 hk0⟩, fun h => ⟨h.1, h.2.1, fun _ => h.2.2⟩⟩
          have hpi : (k : Int) - 1 = (p : Int) := by omega
          have hplt : (p : Int) < n := by omega
          have hk1 : (0 : Int) < k := by omega
          generalize t.getD k 0 = x at cx hok
          generalize l.getD k 0 = y at cy hok
          generalize t.getD p 0 = z at cz hok
          clear hA k1 k2 hno hyes hlt1 hlt2 p1 p2 hp
          by_cases q1 : x < 0
          · have ha : Hid (ans = false) := hno2.out fun h => by have := (hok.out.1 h).1; unfold inr at this; omega
            have d1 : decide (x < 0) = true := decide_eq_true q1
            clear hno2 hA2 hok q1
            go_wp2
            go_quiet (fail)
            go_wp2
            go_ret
            exact ⟨by rw [ha.out]; rfl, q + nq, World.drewN_drewN _ _ _⟩
          · have d1 : decide (x < 0) = false := decide_eq_false q1
            by_cases q2 : y < 0
            · have ha : Hid (ans = false) := hno2.out fun h => by have := (hok.out.1 h).2.1; unfold inr at this; omega
              have d2 : decide (y < 0) = true := decide_eq_true q2
              clear hno2 hA2 hok q1 q2
              go_wp2
              go_quiet (fail)
              go_wp2
              go_ret
              exact ⟨by rw [ha.out]; rfl, q + nq, World.drewN_drewN _ _ _⟩
            · have d2 : decide (y < 0) = false := decide_eq_false q2
              by_cases q3 : 1099511627776 < x
              · have ha : Hid (ans = false) := hno2.out fun h => by have := (hok.out.1 h).1; unfold inr at this; omega
                have d3 : decide (1099511627776 < x) = true := decide_eq_true q3
                clear hno2 hA2 hok q1 q2 q3
                go_wp2
                go_quiet (fail)
                go_wp2
                go_ret
                exact ⟨by rw [ha.out]; rfl, q + nq, World.drewN_drewN _ _ _⟩
              · have d3 : decide (1099511627776 < x) = false := decide_eq_false q3
                by_cases q4 : 1099511627776 < y
                · have ha : Hid (ans = false) := hno2.out fun h => by have := (hok.out.1 h).2.1; unfold inr at this; omega
                  have d4 : decide (1099511627776 < y) = true := decide_eq_true q4
                  clear hno2 hA2 hok q1 q2 q3 q4
                  go_wp2
                  go_quiet (fail)
                  go_wp2
                  go_ret
                  exact ⟨by rw [ha.out]; rfl, q + nq, World.drewN_drewN _ _ _⟩
                · have d4 : decide (1099511627776 < y) = false := decide_eq_false q4
                  by_cases q5 : x < z
                  · have ha : Hid (ans = false) := hno2.out fun h => by have := (hok.out.1 h).2.2; omega
                    have d5 : decide (x < z) = true := decide_eq_true q5
                    clear hno2 hA2 hok q1 q2 q3 q4 q5
                    go_wp2
                    go_quiet (fail)
                    go_wp2
                    go_ret
                    exact ⟨by rw [ha.out]; rfl, q + nq, World.drewN_drewN _ _ _⟩
                  · have d5 : decide (x < z) = false := decide_eq_false q5
                    have hS : Hid (∀ j, j < k + 1 → okAt t l j) := hA2.out (hok.out.2 ⟨by unfold inr; omega, by unfold inr; omega, by omega⟩)
                    clear hno2 hA2 hok q1 q2 q3 q4 q5
                    go_wp2
                    go_quiet (fail)
                    go_wp2
                    go_roundw
                    case rel => exact ⟨k + 1, q + nq, by omega, by go_num, hS.out, rfl⟩
                    case measure => simp [intOf]; omega
        · have hok : Hid (okAt t l k ↔ inr (t.getD k 0) ∧ inr (l.getD k 0)) := by
            show _ ↔ _
            unfold okAt
            exact ⟨fun h => ⟨h.1, h.2.1⟩, fun h => ⟨h.1, h.2, fun c => absurd c hk0⟩⟩
          have hk1 : decide ((0 : Int) < k) = false := decide_eq_false (by omega)
          have hk2 : decide (0 < k) = false := decide_eq_false (by omega)
          generalize t.getD k 0 = x at cx hok
          generalize l.getD k 0 = y at cy hok
          clear hA k1 k2 hno hyes hlt1 hlt2 p1 p2 hk0
          by_cases q1 : x < 0
          · have ha : Hid (ans = false) := hno2.out fun h => by have := (hok.out.1 h).1; unfold inr at this; omega
            have d1 : decide (x < 0) = true := decide_eq_true q1
            clear hno2 hA2 hok q1
            go_wp2
            go_quiet (fail)
            go_wp2
            go_ret
            exact ⟨by rw [ha.out]; rfl, q + nq, World.drewN_drewN _ _ _⟩
          · have d1 : decide (x < 0) = false := decide_eq_false q1
            by_cases q2 : y < 0
            · have ha : Hid (ans = false) := hno2.out fun h => by have := (hok.out.1 h).2; unfold inr at this; omega
              have d2 : decide (y < 0) = true := decide_eq_true q2
              clear hno2 hA2 hok q1 q2
              go_wp2
              go_quiet (fail)
              go_wp2
              go_ret
              exact ⟨by rw [ha.out]; rfl, q + nq, World.drewN_drewN _ _ _⟩
            · have d2 : decide (y < 0) = false := decide_eq_false q2
              by_cases q3 : 1099511627776 < x
              · have ha : Hid (ans = false) := hno2.out fun h => by have := (hok.out.1 h).1; unfold inr at this; omega
                have d3 : decide (1099511627776 < x) = true := decide_eq_true q3
                clear hno2 hA2 hok q1 q2 q3
                go_wp2
                go_quiet (fail)
                go_wp2
                go_ret
                exact ⟨by rw [ha.out]; rfl, q + nq, World.drewN_drewN _ _ _⟩
              · have d3 : decide (1099511627776 < x) = false := decide_eq_false q3
                by_cases q4 : 1099511627776 < y
                · have ha : Hid (ans = false) := hno2.out fun h => by have := (hok.out.1 h).2; unfold inr at this; omega
                  have d4 : decide (1099511627776 < y) = true := decide_eq_true q4
                  clear hno2 hA2 hok q1 q2 q3 q4
                  go_wp2
                  go_quiet (fail)
                  go_wp2
                  go_ret
                  exact ⟨by rw [ha.out]; rfl, q + nq, World.drewN_drewN _ _ _⟩
                · have d4 : decide (1099511627776 < y) = false := decide_eq_false q4
                  have hS : Hid (∀ j, j < k + 1 → okAt t l j) := hA2.out (hok.out.2 ⟨by unfold inr; omega, by unfold inr; omega⟩)
                  clear hno2 hA2 hok q1 q2 q3 q4
                  go_wp2
                  go_quiet (fail)
                  go_wp2
                  go_roundw
                  case rel => exact ⟨k + 1, q + nq, by omega, by go_num, hS.out, rfl⟩
                  case measure => simp [intOf]; omega
      · obtain rfl : k = n := by omega
        have ha : Hid (ans = true) := hyes.out hA
        clear hyes hno hA
        go_wp2
        go_ret
        exact ⟨by rw [ha.out]; rfl, q, rfl⟩
  · have e : decide (jright t l) = false := decide_eq_false fun k => h1 k.1
    rw [e]
    have hd : ((t.length : Int) == (l.length : Int)) = false := beq_eq_false_iff_ne.2 (by omega)
    generalize t.length = n at *
    generalize l.length = m at *
    clear h1 ht hl e
    go_enter Try.func8, Try.ntmps8
    go_wp2
    go_ret
    exact ⟨rfl, 0, rfl⟩

end Go.Proofs.Ytolijbhokaieeaa
