/- PROVED: what potential.isNode and potential.Wrong answer. what potential.Most and potential.Cycle answer. what slices.Equal and the document's own SameInts answer, by walks of their texts. what the document's own QMost answers. what Most, Cycle, Weigh and the document's own QMost and QWeigh answer, told by whether a way round weighs more than nothing; lengths as letters. CONDITIONS: none beyond each theorem's own. -/
import Derived.Test.YtjageagnclmnjabGreatDoorB32Lts
import Derived.Test.YtjageagnclmnjabGreatDoorB34QClb
import Derived.Test.YtjageagnclmnjabGreatDoorB35QGon
namespace Go.Proofs.YtjageagnclmnjabGreatDoor.Q
open Go.RowKit

theorem node_any (n : Int) (a : Option Addr) (m cap : Nat) (x : Int) (w : World) :
    Calls Tryz.prog 94 #[.agg #[.int .i64 n, .slice a m cap], .int .i64 x] w fun e w' => e = .returned (.bool (decide (0 ≤ x ∧ x < n))) ∧ Below w.heap.size w w' := by
  have hB : Below w.heap.size w (w.alloc (.cells #[.int .i64 n, .slice a m cap] 91)) := balloc (Below.refl _ _) _
  by_cases h0 : 0 ≤ x
  · have d0 : decide (0 ≤ x) = true := decide_eq_true h0
    have e : decide (0 ≤ x ∧ x < n) = decide (x < n) := by rw [Bool.eq_iff_iff]; simp [h0]
    rw [e]
    obtain ⟨t, ht⟩ : ∃ t, decide (x < n) = t := ⟨_, rfl⟩
    rw [ht]
    clear e h0
    go_enter Tryz.func94, Tryz.ntmps94
    go_wp2
    go_ret
    exact ⟨by first | rfl | (rw [ht]), hB⟩
  · have d0 : decide (0 ≤ x) = false := decide_eq_false h0
    have e : decide (0 ≤ x ∧ x < n) = false := decide_eq_false (by omega)
    rw [e]
    clear e h0
    go_enter Tryz.func94, Tryz.ntmps94
    go_wp2
    go_ret
    exact ⟨rfl, hB⟩

set_option maxHeartbeats 3200000 in
theorem wrong_any (n : Int) (a : Option Addr) (cap : Nat) (L : List Ed) (w : World) (hE : ERow w a L) (hl : L.length ≤ 9223372036854775807) :
    Calls Tryz.prog 73 #[.agg #[.int .i64 n, .slice a L.length cap]] w fun e w' => e = .returned (.int .i64 (gwr n L)) ∧ Below w.heap.size w w' := by
  obtain ⟨m, hm⟩ : ∃ m, L.length = m := ⟨_, rfl⟩
  have hyes : Hid ((0 ≤ n ∧ n ≤ 300 ∧ m ≤ 4800) → (∀ j, j < m → eok n (ed L j)) → gwr n L = 0) := fun h k => gwr_yes ⟨h.1, h.2.1, by rw [hm]; exact h.2.2, fun j hj => k j (by omega)⟩
  have hno : Hid (∀ j, j < m → ¬ eok n (ed L j) → gwr n L = 2) := fun j hj h => gwr_no fun k => h (k.2.2.2 j (by omega))
  have hno1 : Hid (¬ (0 ≤ n ∧ n ≤ 300 ∧ m ≤ 4800) → gwr n L = 2) := fun h => gwr_no fun k => h ⟨k.1, k.2.1, by rw [← hm]; exact k.2.2.1⟩
  generalize gwr n L = ans at hyes hno hno1 ⊢
  have hlm : Hid (L.length = m) := hm
  rw [hm] at hl ⊢
  clear hm
  obtain ⟨O, hO⟩ : ∃ O, w.heap.size = O := ⟨_, rfl⟩
  have K0 : Gb (w.alloc (.cells #[.int .i64 n, .slice a m cap] 91)) O n a m cap := hO ▸ Gb.new w n a m cap
  have hB0 : Below w.heap.size w (w.alloc (.cells #[.int .i64 n, .slice a m cap] 91)) := balloc (Below.refl _ _) _
  have hE0 := hE.kept hB0
  obtain ⟨w0, hw0⟩ : ∃ w0, w.alloc (.cells #[.int .i64 n, .slice a m cap] 91) = w0 := ⟨_, rfl⟩
  rw [hw0] at K0 hB0 hE0
  obtain ⟨c0, c1⟩ := id K0
  by_cases hN : n < 0
  · have ha : ans = 2 := hno1.out (by omega)
    subst ha
    have d : decide (n < 0) = true := decide_eq_true hN
    clear hyes hno hno1 hE hE0 K0
    go_enter Tryz.func73, Tryz.ntmps73
    go_wp2
    go_ret
    exact ⟨rfl, by first | exact hB0 | (rw [← hO]; exact hB0)⟩
  · have d : decide (n < 0) = false := decide_eq_false hN
    by_cases hN3 : 300 < n
    · have ha : ans = 2 := hno1.out (by omega)
      subst ha
      have d1 : decide (300 < n) = true := decide_eq_true hN3
      clear hyes hno hno1 hE hE0 K0
      go_enter Tryz.func73, Tryz.ntmps73
      go_wp2
      go_ret
      exact ⟨rfl, by first | exact hB0 | (rw [← hO]; exact hB0)⟩
    · have d1 : decide (300 < n) = false := decide_eq_false hN3
      by_cases hM : 4800 < m
      · have ha : ans = 2 := hno1.out (by omega)
        subst ha
        have d2 : decide ((4800 : Int) < (m : Int)) = true := decide_eq_true (by omega)
        have d3 : decide (4800 < m) = true := decide_eq_true (by omega)
        clear hyes hno hno1 hE hE0 K0
        go_enter Tryz.func73, Tryz.ntmps73
        go_wp2
        go_ret
        exact ⟨rfl, by first | exact hB0 | (rw [← hO]; exact hB0)⟩
      · have d2 : decide ((4800 : Int) < (m : Int)) = false := decide_eq_false (by omega)
        have d3 : decide (4800 < m) = false := decide_eq_false (by omega)
        replace hyes : Hid ((∀ j, j < m → eok n (ed L j)) → ans = 0) := hyes.out (by omega)
        clear hno1 hE
        go_enter Tryz.func73, Tryz.ntmps73
        go_wp2
        go_loopw [22] (fun i wr => ∃ k : Nat, k ≤ m ∧ i = .int .i64 k ∧ (∀ j, j < k → eok n (ed L j)) ∧ Below w0.heap.size w0 wr) (fun i _ => m - (intOf i).toNat)
        case atStart => exact ⟨0, Nat.zero_le _, rfl, fun j h => by omega, Below.refl _ _⟩
        case round =>
          obtain ⟨k, hk, rfl, hA, hB⟩ := hrel
          clear d d1 d2 d3 c0 c1
          by_cases hlt : k < m
          · have q1 := hlm.out
            obtain ⟨b, off, rfl, e1⟩ := (hE0.kept hB).at (by omega)
            obtain ⟨cx, cy, cz⟩ := e1 k (by omega)
            have hkI : (k : Int) < m := by omega
            have hA2 : Hid (eok n (ed L k) → ∀ j, j < k + 1 → eok n (ed L j)) := fun h j hj => by
              by_cases e : j = k
              · subst e; exact h
              · exact hA j (by omega)
            have hno2 : Hid (¬ eok n (ed L k) → ans = 2) := hno.out k hlt
            clear hA e1 hno hyes q1
            obtain ⟨⟨f, t, x⟩, hxy⟩ : ∃ p, ed L k = p := ⟨_, rfl⟩
            rw [hxy] at cx cy cz hA2 hno2
            clear hxy
            simp only at cx cy cz
            have c1 := node_any n (some ⟨b, off, none⟩) m cap f
            have c2 := node_any n (some ⟨b, off, none⟩) m cap t
            have hB1 : Below wr.heap.size wr (wr.alloc (.cells #[.int .i64 f, .int .i64 t, .int .i64 x] 99)) := balloc (Below.refl _ _) _
            obtain ⟨g0, g1⟩ := (K0.kept hB).alloc (.cells #[.int .i64 f, .int .i64 t, .int .i64 x] 99)
            have hx0 : (wr.alloc (.cells #[.int .i64 f, .int .i64 t, .int .i64 x] 99)).cell? ⟨wr.heap.size, 1, none⟩ = some (.int .i64 t) := by rw [World.cell?_alloc_at _ _ _ _ rfl]; rfl
            have hx1 : (wr.alloc (.cells #[.int .i64 f, .int .i64 t, .int .i64 x] 99)).cell? ⟨wr.heap.size, 2, none⟩ = some (.int .i64 x) := by rw [World.cell?_alloc_at _ _ _ _ rfl]; rfl
            have hx2 : (wr.alloc (.cells #[.int .i64 f, .int .i64 t, .int .i64 x] 99)).cell? ⟨wr.heap.size, 0, none⟩ = some (.int .i64 f) := by rw [World.cell?_alloc_at _ _ _ _ rfl]; rfl
            have hB2 : Below w0.heap.size w0 (wr.alloc (.cells #[.int .i64 f, .int .i64 t, .int .i64 x] 99)) := balloc hB _
            have K1 := (K0.kept hB).alloc (.cells #[.int .i64 f, .int .i64 t, .int .i64 x] 99)
            obtain ⟨W1, hW1⟩ : ∃ W1, wr.alloc (.cells #[.int .i64 f, .int .i64 t, .int .i64 x] 99) = W1 := ⟨_, rfl⟩
            rw [hW1] at hB1 g0 g1 hx0 hx1 hx2 hB2 K1
            obtain ⟨E, hEE⟩ : ∃ E, wr.heap.size = E := ⟨_, rfl⟩
            rw [hEE] at hx0 hx1 hx2
            by_cases h1 : 0 ≤ f ∧ f < n
            · rw [decide_eq_true h1] at c1
              by_cases h2 : 0 ≤ t ∧ t < n
              · rw [decide_eq_true h2] at c2
                replace c1 : Hid _ := c1
                replace c2 : Hid _ := c2
                by_cases h3 : x < -1048576
                · have ha : ans = 2 := hno2.out fun q => by obtain ⟨_, _, q, _⟩ := q; simp only at q; omega
                  subst ha
                  have d4 : decide (x < -1048576) = true := decide_eq_true h3
                  clear hA2 hno2 h1 h2 h3
                  go_wp2_with (first
                    | (go_at_call 94; refine (c1.out _).mono ?_; rintro e W2 ⟨rfl, b1⟩; clear c1; obtain ⟨g2, g3⟩ := K1.kept b1; have hx3 := (b1.cell (p := ⟨E, 1, none⟩) (block_lt hx0)).trans hx0; have hx4 := (b1.cell (p := ⟨E, 2, none⟩) (block_lt hx1)).trans hx1)
                    | (go_at_call 94; refine (c2.out _).mono ?_; rintro e W3 ⟨rfl, b2⟩; clear c2; have hx5 := (b2.cell (p := ⟨E, 2, none⟩) (block_lt hx4)).trans hx4))
                  go_ret
                  exact ⟨rfl, bthen hB0 (bthen (bthen hB2 b1) b2)⟩
                · have d4 : decide (x < -1048576) = false := decide_eq_false h3
                  by_cases h4 : 1048576 < x
                  · have ha : ans = 2 := hno2.out fun q => by obtain ⟨_, _, _, q⟩ := q; simp only at q; omega
                    subst ha
                    have d5 : decide (1048576 < x) = true := decide_eq_true h4
                    clear hA2 hno2 h1 h2 h3 h4
                    go_wp2_with (first
                      | (go_at_call 94; refine (c1.out _).mono ?_; rintro e W2 ⟨rfl, b1⟩; clear c1; obtain ⟨g2, g3⟩ := K1.kept b1; have hx3 := (b1.cell (p := ⟨E, 1, none⟩) (block_lt hx0)).trans hx0; have hx4 := (b1.cell (p := ⟨E, 2, none⟩) (block_lt hx1)).trans hx1)
                      | (go_at_call 94; refine (c2.out _).mono ?_; rintro e W3 ⟨rfl, b2⟩; clear c2; have hx5 := (b2.cell (p := ⟨E, 2, none⟩) (block_lt hx4)).trans hx4))
                    go_ret
                    exact ⟨rfl, bthen hB0 (bthen (bthen hB2 b1) b2)⟩
                  · have d5 : decide (1048576 < x) = false := decide_eq_false h4
                    have hA3 := hA2.out ⟨h1, h2, by simp only; omega, by simp only; omega⟩
                    replace hA3 : Hid _ := hA3
                    clear hA2 hno2 h1 h2 h3 h4
                    go_wp2_with (first
                      | (go_at_call 94; refine (c1.out _).mono ?_; rintro e W2 ⟨rfl, b1⟩; clear c1; obtain ⟨g2, g3⟩ := K1.kept b1; have hx3 := (b1.cell (p := ⟨E, 1, none⟩) (block_lt hx0)).trans hx0; have hx4 := (b1.cell (p := ⟨E, 2, none⟩) (block_lt hx1)).trans hx1)
                      | (go_at_call 94; refine (c2.out _).mono ?_; rintro e W3 ⟨rfl, b2⟩; clear c2; have hx5 := (b2.cell (p := ⟨E, 2, none⟩) (block_lt hx4)).trans hx4))
                    go_roundw
                    case rel => exact ⟨k + 1, by omega, by go_num, hA3.out, bthen (bthen hB2 b1) b2⟩
                    case measure => simp [intOf]; omega
              · rw [decide_eq_false h2] at c2
                have ha : ans = 2 := hno2.out fun q => h2 q.2.1
                subst ha
                replace c1 : Hid _ := c1
                replace c2 : Hid _ := c2
                clear hA2 hno2 h1 h2
                go_wp2_with (first
                  | (go_at_call 94; refine (c1.out _).mono ?_; rintro e W2 ⟨rfl, b1⟩; clear c1; obtain ⟨g2, g3⟩ := K1.kept b1; have hx3 := (b1.cell (p := ⟨E, 1, none⟩) (block_lt hx0)).trans hx0; have hx4 := (b1.cell (p := ⟨E, 2, none⟩) (block_lt hx1)).trans hx1)
                  | (go_at_call 94; refine (c2.out _).mono ?_; rintro e W3 ⟨rfl, b2⟩; clear c2; have hx5 := (b2.cell (p := ⟨E, 2, none⟩) (block_lt hx4)).trans hx4))
                go_ret
                exact ⟨rfl, bthen hB0 (bthen (bthen hB2 b1) b2)⟩
            · rw [decide_eq_false h1] at c1
              have ha : ans = 2 := hno2.out fun q => h1 q.1
              subst ha
              replace c1 : Hid _ := c1
              clear hA2 hno2 h1 c2
              go_wp2_with (go_at_call 94; refine (c1.out _).mono ?_; rintro e W2 ⟨rfl, b1⟩; clear c1; obtain ⟨g2, g3⟩ := K1.kept b1; have hx3 := (b1.cell (p := ⟨E, 1, none⟩) (block_lt hx0)).trans hx0; have hx4 := (b1.cell (p := ⟨E, 2, none⟩) (block_lt hx1)).trans hx1)
              go_ret
              exact ⟨rfl, bthen hB0 (bthen hB2 b1)⟩
          · obtain rfl : m = k := by omega
            have ha : ans = 0 := hyes.out hA
            subst ha
            clear hA hyes hno
            go_wp2
            go_ret
            exact ⟨rfl, bthen hB0 hB⟩

end Go.Proofs.YtjageagnclmnjabGreatDoor.Q

namespace Go.Proofs.YtjageagnclmnjabGreatDoor.Q
set_option maxRecDepth 100000
open Go.RowKit

/-- what is left of climbing -/
def Fin (n : Nat) (es : List Eg) (k : Nat) : Prop := k ≤ n ∧ ((cst es k).r = -1 ∧ (1 ≤ k ∨ n = 0) ∨ k = n ∧ (cst es k).r ≠ -1)

set_option maxRecDepth 100000 in
set_option maxHeartbeats 3200000 in
theorem most_any (n : Nat) (es : List Eg) (hG : Gph n es) (a : Option Addr) (cap : Nat) (w : World) (hE : GRow w a es) :
    Calls Tryz.prog 60 #[.agg #[.int .i64 n, .slice a es.length cap]] w fun e w' => ∃ k, Fin n es k ∧ Below w.heap.size w w' ∧
      ((cst es k).r = -1 ∧ (∃ M, e = .returned (.tuple #[.slice (some ⟨M, 0, none⟩) n n, .int .i64 0]) ∧ Cells w' M n (cst es k).d) ∨ (cst es k).r ≠ -1 ∧ e = .returned (.tuple #[.slice none 0 0, .int .i64 3])) := by
  have hm4 := hG.m4
  have hB0 : Below w.heap.size w (w.alloc (.cells #[.int .i64 n, .slice a es.length cap] 91)) := balloc (Below.refl _ _) _
  have hw := wrong_any n a cap (es.map upE) (w.alloc (.cells #[.int .i64 n, .slice a es.length cap] 91)) (ERow.kept hE hB0) (by rw [List.length_map]; omega)
  rw [gwr_yes (gph_grt hG), List.length_map] at hw
  have hcl : Hid (∀ v, GRow v a es → Calls Tryz.prog 74 #[.agg #[.int .i64 n, .slice a es.length cap]] v fun e w' => ∃ M A k : Nat, e = .returned (.agg #[.slice (some ⟨M, 0, none⟩) n n, .slice (some ⟨A, 0, none⟩) n n, .int .i64 (cst es k).r]) ∧ k ≤ n ∧ ((cst es k).r = -1 ∧ (1 ≤ k ∨ n = 0) ∨ k = n ∧ (cst es k).r ≠ -1) ∧ Cells w' M n (cst es k).d ∧ Cells w' A n (cst es k).l ∧ v.heap.size ≤ M ∧ v.heap.size ≤ A ∧ M ≠ A ∧ Below v.heap.size v w') := fun v h => climb_any n es hG a cap v h
  have K0 := Gb.new w n a es.length cap
  have hE0 := hE.kept hB0
  obtain ⟨w0, hw0⟩ : ∃ w0, w.alloc (.cells #[.int .i64 n, .slice a es.length cap] 91) = w0 := ⟨_, rfl⟩
  rw [hw0] at K0 hB0 hE0 hw
  generalize es.length = m at *
  obtain ⟨c0, c1⟩ := id K0
  clear hE
  go_enter Tryz.func60, Tryz.ntmps60
  go_wp2_with (first
    | (go_at_call 73; refine hw.mono ?_; rintro e w1 ⟨rfl, b1⟩; clear hw; have K1 := K0.kept b1; have hE1 := hE0.kept b1; clear K0 hE0 c0 c1; obtain ⟨c0, c1⟩ := id K1; have hB1 := bthen hB0 b1)
    | (go_at_call 74; refine (hcl.out _ hE1).mono ?_; rintro e w2 ⟨M, A, k, rfl, hk, hf, cd, cl, m1, m2, ma, b2⟩; clear hcl; have hB2 := bthen hB1 b2; replace hf : Hid _ := hf))
  · rename_i h
    go_ret2
    exact ⟨k, ⟨hk, hf.out⟩, balloc hB2 _, .inr ⟨bne_iff_ne.1 h, rfl⟩⟩
  · rename_i h
    go_ret2
    exact ⟨k, ⟨hk, hf.out⟩, balloc hB2 _, .inl ⟨by simpa using h, M, rfl, cd.alloc _⟩⟩

theorem Cb.boxed {n : Nat} {s : St} (w : World) {M A : Nat} (hM : Cells w M n s.d) (hA : Cells w A n s.l) (hn : 0 < n) (ma : M ≠ A) :
    Cb (w.alloc (.cells #[.slice (some ⟨M, 0, none⟩) n n, .slice (some ⟨A, 0, none⟩) n n, .int .i64 s.r] 126)) w.heap.size M A n s := by
  have m1 : M < w.heap.size := block_lt (hM.c 0 hn)
  have m2 : A < w.heap.size := block_lt (hA.c 0 hn)
  exact ⟨by rw [World.cell?_alloc_at _ _ _ _ rfl]; rfl, by rw [World.cell?_alloc_at _ _ _ _ rfl]; rfl, by rw [World.cell?_alloc_at _ _ _ _ rfl]; rfl, by rw [World.frozen?_alloc_at _ _ _ _ rfl], hM.alloc _, hA.alloc _, by omega, by omega, ma⟩
theorem gone_at (n : Nat) (es : List Eg) (hG : Gph n es) (a : Option Addr) (cap m : Nat) (hm : es.length = m) (k M A : Nat) (w : World) (hf : (cst es k).r = -1 ∧ (1 ≤ k ∨ n = 0) ∨ k = n ∧ (cst es k).r ≠ -1) (hr : ((cst es k).r == -1) = false)
    (cd : Cells w M n (cst es k).d) (cl : Cells w A n (cst es k).l) (ma : M ≠ A) (hE : GRow w a es) :
    Calls Tryz.prog 75 #[.pointer (some ⟨w.heap.size, 0, none⟩), .agg #[.int .i64 n, .slice a m cap]] (w.alloc (.cells #[.slice (some ⟨M, 0, none⟩) n n, .slice (some ⟨A, 0, none⟩) n n, .int .i64 (cst es k).r] 126))
      fun e w' => ∃ v p g c, e = .returned (.slice (some ⟨g, 0, none⟩) p c) ∧ Rnd n es (cst es n) v p ∧ p ≤ c ∧ Cells w' g p (cyc n es (cst es n) v p) ∧ Below w.heap.size w w' := by
  have hne : (cst es k).r ≠ -1 := beq_eq_false_iff_ne.1 hr
  rcases hf with ⟨q, _⟩ | ⟨rfl, _⟩
  · exact absurd q hne
  · obtain ⟨v, p, hR⟩ := cst_rnd hG.inn hG.wgt hne
    have hb : Below w.heap.size w (w.alloc (.cells #[.slice (some ⟨M, 0, none⟩) k k, .slice (some ⟨A, 0, none⟩) k k, .int .i64 (cst es k).r] 126)) := balloc (Below.refl _ _) _
    rw [← hm]
    exact (gone_any k es hG _ v p hR w.heap.size M A a cap _ (hE.kept hb) (Cb.boxed w cd cl (by have := hR.vn; omega) ma)).mono fun e w' ⟨g, c, h1, h2, h3, h4⟩ => ⟨v, p, g, c, h1, hR, h2, h3, bthen hb h4⟩

set_option maxRecDepth 100000 in
set_option maxHeartbeats 3200000 in
theorem cycle_any (n : Nat) (es : List Eg) (hG : Gph n es) (a : Option Addr) (cap : Nat) (w : World) (hE : GRow w a es) :
    Calls Tryz.prog 61 #[.agg #[.int .i64 n, .slice a es.length cap]] w fun e w' => ∃ k, Fin n es k ∧ Below w.heap.size w w' ∧
      ((cst es k).r = -1 ∧ e = .returned (.tuple #[.slice none 0 0, .int .i64 3]) ∨ (cst es k).r ≠ -1 ∧ ∃ v p g c, e = .returned (.tuple #[.slice (some ⟨g, 0, none⟩) p c, .int .i64 0]) ∧ Rnd n es (cst es n) v p ∧ p ≤ c ∧ Cells w' g p (cyc n es (cst es n) v p)) := by
  have hm4 := hG.m4
  have hB0 : Below w.heap.size w (w.alloc (.cells #[.int .i64 n, .slice a es.length cap] 91)) := balloc (Below.refl _ _) _
  have hw := wrong_any n a cap (es.map upE) (w.alloc (.cells #[.int .i64 n, .slice a es.length cap] 91)) (ERow.kept hE hB0) (by rw [List.length_map]; omega)
  rw [gwr_yes (gph_grt hG), List.length_map] at hw
  have hcl : Hid (∀ v, GRow v a es → Calls Tryz.prog 74 #[.agg #[.int .i64 n, .slice a es.length cap]] v fun e w' => ∃ M A k : Nat, e = .returned (.agg #[.slice (some ⟨M, 0, none⟩) n n, .slice (some ⟨A, 0, none⟩) n n, .int .i64 (cst es k).r]) ∧ k ≤ n ∧ ((cst es k).r = -1 ∧ (1 ≤ k ∨ n = 0) ∨ k = n ∧ (cst es k).r ≠ -1) ∧ Cells w' M n (cst es k).d ∧ Cells w' A n (cst es k).l ∧ v.heap.size ≤ M ∧ v.heap.size ≤ A ∧ M ≠ A ∧ Below v.heap.size v w') := fun v h => climb_any n es hG a cap v h
  have K0 := Gb.new w n a es.length cap
  have hE0 := hE.kept hB0
  obtain ⟨w0, hw0⟩ : ∃ w0, w.alloc (.cells #[.int .i64 n, .slice a es.length cap] 91) = w0 := ⟨_, rfl⟩
  rw [hw0] at K0 hB0 hE0 hw
  obtain ⟨m, hm⟩ : ∃ m, es.length = m := ⟨_, rfl⟩
  rw [hm] at hm4 hw hcl K0 hw0 ⊢
  have hgn : Hid (∀ (k M A : Nat) (v : World), ((cst es k).r = -1 ∧ (1 ≤ k ∨ n = 0) ∨ k = n ∧ (cst es k).r ≠ -1) → ((cst es k).r == -1) = false → Cells v M n (cst es k).d → Cells v A n (cst es k).l → M ≠ A → GRow v a es →
    Calls Tryz.prog 75 #[.pointer (some ⟨v.heap.size, 0, none⟩), .agg #[.int .i64 n, .slice a m cap]] (v.alloc (.cells #[.slice (some ⟨M, 0, none⟩) n n, .slice (some ⟨A, 0, none⟩) n n, .int .i64 (cst es k).r] 126))
      fun e w' => ∃ u p g c, e = .returned (.slice (some ⟨g, 0, none⟩) p c) ∧ Rnd n es (cst es n) u p ∧ p ≤ c ∧ Cells w' g p (cyc n es (cst es n) u p) ∧ Below v.heap.size v w') := fun k M A v h1 h2 h3 h4 h5 h6 => gone_at n es hG a cap m hm k M A v h1 h2 h3 h4 h5 h6
  replace hm : Hid _ := hm
  obtain ⟨c0, c1⟩ := id K0
  clear hE
  go_enter Tryz.func61, Tryz.ntmps61
  go_wp2_with (first
    | (go_at_call 73; refine hw.mono ?_; rintro e w1 ⟨rfl, b1⟩; clear hw; have K1 := K0.kept b1; have hE1 := hE0.kept b1; clear K0 hE0 c0 c1; obtain ⟨c0, c1⟩ := id K1; have hB1 := bthen hB0 b1)
    | (go_at_call 74; refine (hcl.out _ hE1).mono ?_; rintro e w2 ⟨M, A, k, rfl, hk, hf, cd, cl, m1, m2, ma, b2⟩; clear hcl; have hB2 := bthen hB1 b2; replace hf : Hid _ := hf; have hE2 := hE1.kept b2; have K2 := K1.kept b2; clear c0 c1 K1 hE1; obtain ⟨c0, c1⟩ := id (K2.alloc (.cells #[.slice (some ⟨M, 0, none⟩) n n, .slice (some ⟨A, 0, none⟩) n n, .int .i64 (cst es k).r] 126)))
    | (go_at_call 75; have hne : ((cst es k).r == -1) = false := (by assumption); refine (hgn.out k M A w2 hf.out hne cd cl ma hE2).mono ?_; rintro e w3 ⟨u, p, g, c, rfl, hR, hpc, hF, b3⟩; clear hgn; have hB3 := bthen hB2 b3))
  · rename_i h
    go_ret2
    exact ⟨k, ⟨hk, hf.out⟩, balloc hB2 _, .inl ⟨by simpa using h, rfl⟩⟩
  · go_ret2
    exact ⟨k, ⟨hk, hf.out⟩, hB3, .inr ⟨by simpa using hne, u, p, g, c, rfl, hR, hpc, hF⟩⟩

end Go.Proofs.YtjageagnclmnjabGreatDoor.Q

namespace Go.Proofs.YtjageagnclmnjabGreatDoor.Q
open Go.RowKit

end Go.Proofs.YtjageagnclmnjabGreatDoor.Q

namespace Go.Proofs.YtjageagnclmnjabGreatDoor.Q
set_option maxRecDepth 100000
open Go.RowKit

end Go.Proofs.YtjageagnclmnjabGreatDoor.Q

namespace Go.Proofs.YtjageagnclmnjabGreatDoor.Q
set_option maxRecDepth 100000
open Go.RowKit

theorem fin_mst {n : Nat} {es : List Eg} (hG : Gph n es) {k : Nat} (h : Fin n es k) (hr : (cst es k).r = -1) : Mst es (cst es k).d := by
  rcases h.2 with ⟨_, q⟩ | ⟨_, q⟩
  · exact cst_mst hG.inn hG.wgt q hr
  · exact absurd hr q
theorem fin_rnd {n : Nat} {es : List Eg} (hG : Gph n es) {k : Nat} (h : Fin n es k) (hr : (cst es k).r ≠ -1) : ¬ noPos es := by
  rcases h.2 with ⟨q, _⟩ | ⟨rfl, q⟩
  · exact absurd q hr
  · obtain ⟨v, p, hR⟩ := cst_rnd hG.inn hG.wgt q
    exact hR.some

/-- the numbers of a way round that weighs more than nothing -/
structure Rgo (n : Nat) (es : List Eg) (R : Nat → Nat) (p : Nat) : Prop where
  p1 : 1 ≤ p
  pn : p ≤ n
  wok : Wok es R p
  ends : (eg es (R 0)).f = (eg es (R (p - 1))).t
  pos : 0 < nsum es R p

section
variable (n : Nat) (es : List Eg) (hG : Gph n es) (a : Option Addr) (cap m : Nat) (hm : es.length = m)
include hG hm
theorem most_yes (hp : noPos es) (w : World) (hE : GRow w a es) :
    Calls Tryz.prog 60 #[.agg #[.int .i64 n, .slice a m cap]] w fun e w' => ∃ M d, e = .returned (.tuple #[.slice (some ⟨M, 0, none⟩) n n, .int .i64 0]) ∧ Cells w' M n d ∧ Mst es d ∧ Below w.heap.size w w' := by
  rw [← hm]
  refine (most_any n es hG a cap w hE).mono fun e w' ⟨k, hf, hb, h⟩ => ?_
  rcases h with ⟨hr, M, he, hc⟩ | ⟨hr, _⟩
  · exact ⟨M, _, he, hc, fin_mst hG hf hr, hb⟩
  · exact absurd hp (fin_rnd hG hf hr)
theorem most_no (hp : ¬ noPos es) (w : World) (hE : GRow w a es) :
    Calls Tryz.prog 60 #[.agg #[.int .i64 n, .slice a m cap]] w fun e w' => e = .returned (.tuple #[.slice none 0 0, .int .i64 3]) ∧ Below w.heap.size w w' := by
  rw [← hm]
  refine (most_any n es hG a cap w hE).mono fun e w' ⟨k, hf, hb, h⟩ => ?_
  rcases h with ⟨hr, M, he, hc⟩ | ⟨hr, he⟩
  · exact absurd (fin_mst hG hf hr).noPos hp
  · exact ⟨he, hb⟩
theorem cycle_yes (hp : noPos es) (w : World) (hE : GRow w a es) :
    Calls Tryz.prog 61 #[.agg #[.int .i64 n, .slice a m cap]] w fun e w' => e = .returned (.tuple #[.slice none 0 0, .int .i64 3]) ∧ Below w.heap.size w w' := by
  rw [← hm]
  refine (cycle_any n es hG a cap w hE).mono fun e w' ⟨k, hf, hb, h⟩ => ?_
  rcases h with ⟨hr, he⟩ | ⟨hr, _⟩
  · exact ⟨he, hb⟩
  · exact absurd hp (fin_rnd hG hf hr)
theorem cycle_no (hp : ¬ noPos es) (w : World) (hE : GRow w a es) :
    Calls Tryz.prog 61 #[.agg #[.int .i64 n, .slice a m cap]] w fun e w' => ∃ g p c R, e = .returned (.tuple #[.slice (some ⟨g, 0, none⟩) p c, .int .i64 0]) ∧ Rgo n es R p ∧ p ≤ c ∧ Cells w' g p (fun j => (R j : Int)) ∧ Below w.heap.size w w' := by
  rw [← hm]
  refine (cycle_any n es hG a cap w hE).mono fun e w' ⟨k, hf, hb, h⟩ => ?_
  rcases h with ⟨hr, he⟩ | ⟨hr, v, p, g, c, he, hR, hpc, hF⟩
  · exact absurd (fin_mst hG hf hr).noPos hp
  · refine ⟨g, p, c, fun j => ((cst es n).l (nd es (cst es n) v (n + (p - 1 - j)))).toNat, he, ⟨hR.p1, hR.pn, hR.wok, hR.ends, hR.pos⟩, hpc, hF.ext fun j hj => ?_, hb⟩
    obtain ⟨q, h1, _⟩ := hR.hl (n + (p - 1 - j))
    show (((cst es n).l (nd es (cst es n) v (n + (p - 1 - j)))).toNat : Int) = (cst es n).l (nd es (cst es n) v (n + (p - 1 - j)))
    rw [h1]; rfl
end


end Go.Proofs.YtjageagnclmnjabGreatDoor.Q
