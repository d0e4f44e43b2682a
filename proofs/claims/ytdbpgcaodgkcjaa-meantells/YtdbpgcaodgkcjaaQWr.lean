/- PROVED: what the document's own QWrong answers. CONDITIONS: none beyond each theorem's own. -/
import Derived.Test.YtdbpgcaodgkcjaaEdg
namespace Go.Proofs.Ytdbpgcaodgkcjaa
open Go.RowKit

set_option maxHeartbeats 6400000 in
theorem qwrong_any (n : Int) (a : Option Addr) (cap : Nat) (L : List Ed) (w : World) (hE : ERow w a L) (hl : L.length ≤ 9223372036854775807) :
    Calls Try.prog 17 #[.agg #[.int .i64 n, .slice a L.length cap]] w fun e w' => e = .returned (.int .i64 (gwr n L)) ∧ Below w.heap.size w w' := by
  obtain ⟨m, hm⟩ : ∃ m, L.length = m := ⟨_, rfl⟩
  have hyes : Hid ((0 ≤ n ∧ n ≤ 300 ∧ m ≤ 4800) ∧ (∀ j, j < m → eok n (ed L j)) → gwr n L = 0) := fun h => gwr_yes ⟨h.1.1, h.1.2.1, by rw [hm]; exact h.1.2.2, fun j hj => h.2 j (by omega)⟩
  have hno : Hid (¬ ((0 ≤ n ∧ n ≤ 300 ∧ m ≤ 4800) ∧ (∀ j, j < m → eok n (ed L j))) → gwr n L = 2) := fun h => gwr_no fun k => h ⟨⟨k.1, k.2.1, by rw [← hm]; exact k.2.2.1⟩, fun j hj => k.2.2.2 j (by omega)⟩
  generalize gwr n L = ans at hyes hno ⊢
  have hlm : Hid (L.length = m) := hm
  rw [hm] at hl ⊢
  clear hm
  obtain ⟨O, hO⟩ : ∃ O, w.heap.size = O := ⟨_, rfl⟩
  have K0 : Gb (w.alloc (.cells #[.int .i64 n, .slice a m cap] 24)) O n a m cap := hO ▸ Gb.new w n a m cap
  have hB0 : Below w.heap.size w (w.alloc (.cells #[.int .i64 n, .slice a m cap] 24)) := balloc (Below.refl _ _) _
  have hE0 := hE.kept hB0
  obtain ⟨w0, hw0⟩ : ∃ w0, w.alloc (.cells #[.int .i64 n, .slice a m cap] 24) = w0 := ⟨_, rfl⟩
  rw [hw0] at K0 hB0 hE0
  obtain ⟨c0, c1⟩ := id K0
  clear hE
  have hc : (∃ _ : decide (0 ≤ n) = false, Hid (¬ (0 ≤ n ∧ n ≤ 300 ∧ m ≤ 4800))) ∨ (∃ (_ : decide (0 ≤ n) = true) (_ : decide (n ≤ 300) = false), Hid (¬ (0 ≤ n ∧ n ≤ 300 ∧ m ≤ 4800))) ∨ (∃ (_ : decide (0 ≤ n) = true) (_ : decide (n ≤ 300) = true) (_ : decide ((m : Int) ≤ 4800) = false) (_ : decide (m ≤ 4800) = false), Hid (¬ (0 ≤ n ∧ n ≤ 300 ∧ m ≤ 4800))) ∨ (∃ (_ : decide (0 ≤ n) = true) (_ : decide (n ≤ 300) = true) (_ : decide ((m : Int) ≤ 4800) = true) (_ : decide (m ≤ 4800) = true), Hid (0 ≤ n ∧ n ≤ 300 ∧ m ≤ 4800)) := by
    by_cases h0 : 0 ≤ n
    · by_cases h1 : n ≤ 300
      · by_cases h2 : m ≤ 4800
        · exact .inr (.inr (.inr ⟨decide_eq_true h0, decide_eq_true h1, decide_eq_true (by omega), decide_eq_true h2, ⟨h0, h1, h2⟩⟩))
        · exact .inr (.inr (.inl ⟨decide_eq_true h0, decide_eq_true h1, decide_eq_false (by omega), decide_eq_false h2, fun q => h2 q.2.2⟩))
      · exact .inr (.inl ⟨decide_eq_true h0, decide_eq_false h1, fun q => h1 q.2.1⟩)
    · exact .inl ⟨decide_eq_false h0, fun q => h0 q.1⟩
  rcases hc with ⟨d0, hh⟩ | ⟨d0, d1, hh⟩ | ⟨d0, d1, d2, d3, hh⟩ | ⟨d0, d1, d2, d3, hh⟩
  all_goals
    go_enter Try.func17, Try.ntmps17
    go_wp2
    go_loopw [3, 23] (fun o i wr => ∃ (k : Nat) (bb : Bool), k ≤ m ∧ i = .int .i64 k ∧ o = .bool bb ∧ (bb = true ↔ (0 ≤ n ∧ n ≤ 300 ∧ m ≤ 4800) ∧ (∀ j, j < k → eok n (ed L j))) ∧ Below w0.heap.size w0 wr) (fun _ i _ => m - (intOf i).toNat)
    case atStart => first
      | exact ⟨0, false, Nat.zero_le _, rfl, rfl, ⟨fun h => by simp at h, fun h => absurd h.1 hh.out⟩, Below.refl _ _⟩
      | exact ⟨0, true, Nat.zero_le _, rfl, rfl, ⟨fun _ => ⟨hh.out, fun j h => by omega⟩, fun _ => rfl⟩, Below.refl _ _⟩
    case round =>
      obtain ⟨k, bb, hk, rfl, rfl, hA, hB⟩ := hrel
      try clear d2 d3
      try clear d1
      clear d0 c0 c1 hh
      by_cases hlt : k < m
      · have q1 := hlm.out
        obtain ⟨b, off, rfl, e1⟩ := (hE0.kept hB).at (by omega)
        obtain ⟨cx, cy, cz⟩ := e1 k (by omega)
        have hkI : (k : Int) < m := by omega
        have hA2 : Hid (bb = true → eok n (ed L k) → (true = true ↔ (0 ≤ n ∧ n ≤ 300 ∧ m ≤ 4800) ∧ (∀ j, j < k + 1 → eok n (ed L j)))) := fun h0 h => ⟨fun _ => ⟨(hA.1 h0).1, fun j hj => by
          by_cases e : j = k
          · subst e; exact h
          · exact (hA.1 h0).2 j (by omega)⟩, fun _ => rfl⟩
        have hA3 : Hid (bb = false ∨ ¬ eok n (ed L k) → (false = true ↔ (0 ≤ n ∧ n ≤ 300 ∧ m ≤ 4800) ∧ (∀ j, j < k + 1 → eok n (ed L j)))) := fun h => ⟨fun q => by simp at q, fun q => by
          rcases h with h | h
          · have := hA.2 ⟨q.1, fun j hj => q.2 j (by omega)⟩
            rw [h] at this; exact this
          · exact absurd (q.2 k (by omega)) h⟩
        clear hA e1 hno hyes q1
        obtain ⟨⟨f, t, x⟩, hxy⟩ : ∃ p, ed L k = p := ⟨_, rfl⟩
        rw [hxy] at cx cy cz hA2 hA3
        clear hxy
        simp only at cx cy cz
        obtain ⟨g0, g1⟩ := (K0.kept hB).alloc (.cells #[.int .i64 f, .int .i64 t, .int .i64 x] 36)
        have hB2 : Below w0.heap.size w0 (wr.alloc (.cells #[.int .i64 f, .int .i64 t, .int .i64 x] 36)) := balloc hB _
        cases bb
        · have hA4 := hA3.out (.inl rfl)
          replace hA4 : Hid _ := hA4
          clear hA3 hA2
          go_wp2
          go_roundw
          case rel => exact ⟨k + 1, false, by omega, by go_num, rfl, hA4.out, hB2⟩
          case measure => simp [intOf]; omega
        · by_cases h1 : 0 ≤ min f t
          · have d1 : decide (0 ≤ min f t) = true := decide_eq_true h1
            by_cases h2 : max f t < n
            · have d2 : decide (max f t < n) = true := decide_eq_true h2
              by_cases h3 : -1048576 ≤ x
              · have d3 : decide (-1048576 ≤ x) = true := decide_eq_true h3
                by_cases h4 : x ≤ 1048576
                · have d4 : decide (x ≤ 1048576) = true := decide_eq_true h4
                  have hA4 := hA2.out rfl ⟨by simp only; omega, by simp only; omega, by simp only; omega⟩
                  replace hA4 : Hid _ := hA4
                  clear hA3 hA2 h1 h2 h3 h4
                  go_wp2
                  go_roundw
                  case rel => exact ⟨k + 1, true, by omega, by go_num, rfl, hA4.out, hB2⟩
                  case measure => simp [intOf]; omega
                · have d4 : decide (x ≤ 1048576) = false := decide_eq_false h4
                  have hA4 := hA3.out (.inr fun q => by obtain ⟨_, _, _, q⟩ := q; simp only at q; omega)
                  replace hA4 : Hid _ := hA4
                  clear hA3 hA2 h1 h2 h3 h4
                  go_wp2
                  go_roundw
                  case rel => exact ⟨k + 1, false, by omega, by go_num, rfl, hA4.out, hB2⟩
                  case measure => simp [intOf]; omega
              · have d3 : decide (-1048576 ≤ x) = false := decide_eq_false h3
                have hA4 := hA3.out (.inr fun q => by obtain ⟨_, _, q, _⟩ := q; simp only at q; omega)
                replace hA4 : Hid _ := hA4
                clear hA3 hA2 h1 h2 h3
                go_wp2
                go_roundw
                case rel => exact ⟨k + 1, false, by omega, by go_num, rfl, hA4.out, hB2⟩
                case measure => simp [intOf]; omega
            · have d2 : decide (max f t < n) = false := decide_eq_false h2
              have hA4 := hA3.out (.inr fun q => by obtain ⟨⟨_, q0⟩, ⟨_, q1⟩, _⟩ := q; simp only at q0 q1; omega)
              replace hA4 : Hid _ := hA4
              clear hA3 hA2 h1 h2
              go_wp2
              go_roundw
              case rel => exact ⟨k + 1, false, by omega, by go_num, rfl, hA4.out, hB2⟩
              case measure => simp [intOf]; omega
          · have d1 : decide (0 ≤ min f t) = false := decide_eq_false h1
            have hA4 := hA3.out (.inr fun q => by obtain ⟨⟨q0, _⟩, ⟨q1, _⟩, _⟩ := q; simp only at q0 q1; omega)
            replace hA4 : Hid _ := hA4
            clear hA3 hA2 h1
            go_wp2
            go_roundw
            case rel => exact ⟨k + 1, false, by omega, by go_num, rfl, hA4.out, hB2⟩
            case measure => simp [intOf]; omega
      · obtain rfl : m = k := by omega
        cases bb
        · have ha : ans = 2 := hno.out fun q => by simpa using hA.2 q
          subst ha
          clear hA hyes hno
          go_wp2
          go_ret
          exact ⟨rfl, bthen hB0 hB⟩
        · have ha : ans = 0 := hyes.out (hA.1 rfl)
          subst ha
          clear hA hyes hno
          go_wp2
          go_ret
          exact ⟨rfl, bthen hB0 hB⟩

end Go.Proofs.Ytdbpgcaodgkcjaa
