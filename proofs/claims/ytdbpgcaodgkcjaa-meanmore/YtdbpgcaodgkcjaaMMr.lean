/- PROVED: the law MeanMore over what mean.Greatest and potential.Wrong answer. CONDITIONS: none beyond each theorem's own. -/
import Derived.Test.YtdbpgcaodgkcjaaTwo
import Derived.Test.YtdbpgcaodgkcjaaMRo
import Derived.Deep.CutRange
import Derived.Test.YtdbpgcaodgkcjaaMMo
namespace Go.Proofs.Ytdbpgcaodgkcjaa
open Go.RowKit
set_option linter.unusedVariables false

/-- each edge so much heavier | twice as heavy -/
def mL (by_ : Int) (L : List Ed) : List Ed := L.map fun e => ⟨e.f, e.t, e.x + by_⟩
def tL (L : List Ed) : List Ed := L.map fun e => ⟨e.f, e.t, 2 * e.x⟩
theorem map_take_succ {g : Ed → Ed} {L : List Ed} {k : Nat} (h : k < L.length) : (L.take (k + 1)).map g = (L.take k).map g ++ [g (ed L k)] := by
  unfold ed
  rw [List.take_add_one, List.getElem?_eq_getElem h, List.map_append, List.getD_eq_getElem?_getD, List.getElem?_eq_getElem h]
  rfl
/-- a weight is in range -/
def wri (e : Ed) : Prop := -1048576 ≤ e.x ∧ e.x ≤ 1048576

theorem Tw.start (v : World) (N : Int) (O U : Nat) (h : O = v.heap.size ∧ U = v.heap.size + 1 ∨ U = v.heap.size ∧ O = v.heap.size + 1) :
    Tw v ((v.alloc (.cells #[.int .i64 N, .slice none 0 0] 24)).alloc (.cells #[.int .i64 N, .slice none 0 0] 24)) O U N none 0 [] none 0 [] := by
  have b : Below (v.alloc (.cells #[.int .i64 N, .slice none 0 0] 24)).heap.size (v.alloc (.cells #[.int .i64 N, .slice none 0 0] 24)) ((v.alloc (.cells #[.int .i64 N, .slice none 0 0] 24)).alloc (.cells #[.int .i64 N, .slice none 0 0] 24)) := balloc (Below.refl _ _) _
  have lt : v.heap.size < (v.alloc (.cells #[.int .i64 N, .slice none 0 0] 24)).heap.size := by simp
  have p0 : ((v.alloc (.cells #[.int .i64 N, .slice none 0 0] 24)).alloc (.cells #[.int .i64 N, .slice none 0 0] 24)).cell? ⟨v.heap.size, 0, none⟩ = some (.int .i64 N) := (b.cell (p := ⟨v.heap.size, 0, none⟩) lt).trans (by rw [World.cell?_alloc_at _ _ _ _ rfl]; rfl)
  have p1 : ((v.alloc (.cells #[.int .i64 N, .slice none 0 0] 24)).alloc (.cells #[.int .i64 N, .slice none 0 0] 24)).cell? ⟨v.heap.size, 1, none⟩ = some (.slice none 0 0) := (b.cell (p := ⟨v.heap.size, 1, none⟩) lt).trans (by rw [World.cell?_alloc_at _ _ _ _ rfl]; rfl)
  have p2 : ((v.alloc (.cells #[.int .i64 N, .slice none 0 0] 24)).alloc (.cells #[.int .i64 N, .slice none 0 0] 24)).frozen? ⟨v.heap.size, 1, none⟩ = false := frozen_kept (by rw [World.frozen?_alloc_at _ _ _ _ rfl]) lt b
  have q0 : ((v.alloc (.cells #[.int .i64 N, .slice none 0 0] 24)).alloc (.cells #[.int .i64 N, .slice none 0 0] 24)).cell? ⟨v.heap.size + 1, 0, none⟩ = some (.int .i64 N) := by
    rw [show v.heap.size + 1 = (v.alloc (.cells #[.int .i64 N, .slice none 0 0] 24)).heap.size by simp, World.cell?_alloc_at _ _ _ _ rfl]; rfl
  have q1 : ((v.alloc (.cells #[.int .i64 N, .slice none 0 0] 24)).alloc (.cells #[.int .i64 N, .slice none 0 0] 24)).cell? ⟨v.heap.size + 1, 1, none⟩ = some (.slice none 0 0) := by
    rw [show v.heap.size + 1 = (v.alloc (.cells #[.int .i64 N, .slice none 0 0] 24)).heap.size by simp, World.cell?_alloc_at _ _ _ _ rfl]; rfl
  have q2 : ((v.alloc (.cells #[.int .i64 N, .slice none 0 0] 24)).alloc (.cells #[.int .i64 N, .slice none 0 0] 24)).frozen? ⟨v.heap.size + 1, 1, none⟩ = false := by
    rw [show v.heap.size + 1 = (v.alloc (.cells #[.int .i64 N, .slice none 0 0] 24)).heap.size by simp, World.frozen?_alloc_at _ _ _ _ rfl]
  rcases h with ⟨rfl, rfl⟩ | ⟨rfl, rfl⟩
  · exact ⟨p0, p1, p2, World.ownsRow_nil _ _ _ _, q0, q1, q2, World.ownsRow_nil _ _ _ _, fun g hg => (by cases hg), by omega, by omega, by omega, balloc (balloc (Below.refl _ _) _) _, by simp⟩
  · exact ⟨q0, q1, q2, World.ownsRow_nil _ _ _ _, p0, p1, p2, World.ownsRow_nil _ _ _ _, fun g hg => (by cases hg), by omega, by omega, by omega, balloc (balloc (Below.refl _ _) _) _, by simp⟩

attribute [local go_sem ↓] appe_whole

set_option maxHeartbeats 6400000 in
theorem more_main (N : Int) (a : Option Addr) (cap : Nat) (L : List Ed) (m : Nat) (hm : L.length = m) (hu : m ≤ 5864062014805) (by_ : Int) (r : Int) (Rel RelM RelT : Int → Int → Prop) (w : World) (hE : ERow w a L)
    (k11 : ∀ v, Calls Try.prog 11 #[] v fun e w' => e = .returned (.bool true) ∧ Below v.heap.size v w')
    (k7 : ∀ v, ERow v a L → Calls Try.prog 7 #[.agg #[.int .i64 N, .slice a m cap]] v fun e w' => ∃ P Q : Int, e = .returned (.tuple #[.agg #[.int .i64 P, .int .i64 Q], .int .i64 r]) ∧ Rel P Q ∧ Below v.heap.size v w')
    (hwr : ∀ j, j < m → ¬ wri (ed L j) → r = 2)
    (k7m : (∀ i, i < m → wri (ed L i)) → gwr N (mL by_ L) = 0 → gwr N (tL L) = 0 → ∀ v ao cp, ERow v ao (mL by_ L) → Calls Try.prog 7 #[.agg #[.int .i64 N, .slice ao m cp]] v fun e w' => ∃ P Q : Int, e = .returned (.tuple #[.agg #[.int .i64 P, .int .i64 Q], .int .i64 r]) ∧ RelM P Q ∧ Below v.heap.size v w')
    (k7t : (∀ i, i < m → wri (ed L i)) → gwr N (mL by_ L) = 0 → gwr N (tL L) = 0 → ∀ v ao cp, ERow v ao (tL L) → Calls Try.prog 7 #[.agg #[.int .i64 N, .slice ao m cp]] v fun e w' => ∃ P Q : Int, e = .returned (.tuple #[.agg #[.int .i64 P, .int .i64 Q], .int .i64 r]) ∧ RelT P Q ∧ Below v.heap.size v w')
    (hr : r = 0 ∨ r = 2 ∨ r = 3)
    (hfin : r = 0 → (∀ i, i < m → wri (ed L i)) → gwr N (mL by_ L) = 0 → gwr N (tL L) = 0 → ∀ P Q P2 Q2 P3 Q3, Rel P Q → RelM P2 Q2 → RelT P3 Q3 → (1 ≤ Q ∧ Q ≤ 300) ∧ (1 ≤ Q2 ∧ Q2 ≤ 300) ∧ (1 ≤ Q3 ∧ Q3 ≤ 300) ∧ (-314572800 ≤ P ∧ P ≤ 314572800) ∧ (-314572800 ≤ P2 ∧ P2 ≤ 314572800) ∧ (-314572800 ≤ P3 ∧ P3 ≤ 314572800) ∧ P2 * Q = (P + by_ * Q) * Q2 ∧ P3 * Q = 2 * P * Q3) :
    Calls Try.prog 6 #[.agg #[.int .i64 N, .slice a m cap], .int .i64 by_] w fun e w' => e = .returned (.bool true) ∧ Below w.heap.size w w' := by
  replace k11 : Hid (∀ v, Calls Try.prog 11 #[] v fun e w' => e = .returned (.bool true) ∧ Below v.heap.size v w') := k11
  replace k7 : Hid (∀ v, ERow v a L → Calls Try.prog 7 #[.agg #[.int .i64 N, .slice a m cap]] v fun e w' => ∃ P Q : Int, e = .returned (.tuple #[.agg #[.int .i64 P, .int .i64 Q], .int .i64 r]) ∧ Rel P Q ∧ Below v.heap.size v w') := k7
  replace hwr : Hid (∀ j, j < m → ¬ wri (ed L j) → r = 2) := hwr
  replace k7m : Hid ((∀ i, i < m → wri (ed L i)) → gwr N (mL by_ L) = 0 → gwr N (tL L) = 0 → ∀ v ao cp, ERow v ao (mL by_ L) → Calls Try.prog 7 #[.agg #[.int .i64 N, .slice ao m cp]] v fun e w' => ∃ P Q : Int, e = .returned (.tuple #[.agg #[.int .i64 P, .int .i64 Q], .int .i64 r]) ∧ RelM P Q ∧ Below v.heap.size v w') := k7m
  replace k7t : Hid ((∀ i, i < m → wri (ed L i)) → gwr N (mL by_ L) = 0 → gwr N (tL L) = 0 → ∀ v ao cp, ERow v ao (tL L) → Calls Try.prog 7 #[.agg #[.int .i64 N, .slice ao m cp]] v fun e w' => ∃ P Q : Int, e = .returned (.tuple #[.agg #[.int .i64 P, .int .i64 Q], .int .i64 r]) ∧ RelT P Q ∧ Below v.heap.size v w') := k7t
  replace hfin : Hid (r = 0 → (∀ i, i < m → wri (ed L i)) → gwr N (mL by_ L) = 0 → gwr N (tL L) = 0 → ∀ P Q P2 Q2 P3 Q3, Rel P Q → RelM P2 Q2 → RelT P3 Q3 → (1 ≤ Q ∧ Q ≤ 300) ∧ (1 ≤ Q2 ∧ Q2 ≤ 300) ∧ (1 ≤ Q3 ∧ Q3 ≤ 300) ∧ (-314572800 ≤ P ∧ P ≤ 314572800) ∧ (-314572800 ≤ P2 ∧ P2 ≤ 314572800) ∧ (-314572800 ≤ P3 ∧ P3 ≤ 314572800) ∧ P2 * Q = (P + by_ * Q) * Q2 ∧ P3 * Q = 2 * P * Q3) := hfin
  replace hr : Hid (r = 0 ∨ r = 2 ∨ r = 3) := hr
  have hlm : Hid (L.length = m) := hm
  have B : Below w.heap.size w (w.alloc (.cells #[.int .i64 N, .slice a m cap] 24)) := balloc (Below.refl _ _) _
  have E := hE.kept B
  have K := Gb.new w N a m cap
  obtain ⟨w0, hw0⟩ : ∃ w0, w.alloc (.cells #[.int .i64 N, .slice a m cap] 24) = w0 := ⟨_, rfl⟩
  rw [hw0] at B E K
  obtain ⟨g0, g1⟩ := id K
  clear hE hm
  go_enter Try.func6, Try.ntmps6
  go_upto_region 4 with (first
    | (go_at_call 11; refine (k11.out _).mono ?_; rintro e v11 ⟨rfl, bb⟩; clear k11; replace E := E.kept bb; replace K := K.kept bb; replace B := bthen B bb; clear g0 g1; obtain ⟨g0, g1⟩ := id K)
    | (go_at_call 7; refine (k7.out _ E).mono ?_; rintro e v7 ⟨P, Q, rfl, hRel, bb⟩; clear k7; replace E := E.kept bb; replace K := K.kept bb; replace B := bthen B bb; replace E := E.alloc (.cells #[.int .i64 P, .int .i64 Q] 26); replace K := K.alloc (.cells #[.int .i64 P, .int .i64 Q] 26); replace B := balloc B (.cells #[.int .i64 P, .int .i64 Q] 26); have Fq := Fr.new v7 v7.heap.size rfl P Q; clear g0 g1; obtain ⟨g0, g1⟩ := id K))
  obtain ⟨V, hV⟩ : ∃ V, v7.alloc (.cells #[.int .i64 P, .int .i64 Q] 26) = V := ⟨_, rfl⟩
  rw [hV] at E K B Fq g0 g1 ⊢
  clear hV
  go_cut [7, 8] from 22 to 27 (fun x y wc => ∃ O U : Nat, x = .pointer (some ⟨O, 0, none⟩) ∧ y = .pointer (some ⟨U, 0, none⟩) ∧ Tw V wc O U N none 0 [] none 0 [])
  case first =>
    have ga := (K.alloc (.cells #[.int .i64 0, .slice none 0 0] 24)).g
    have gb := (K.alloc (.cells #[.int .i64 N, .slice none 0 0] 24)).g
    have gc := ((K.alloc (.cells #[.int .i64 0, .slice none 0 0] 24)).alloc (.cells #[.int .i64 0, .slice none 0 0] 24)).g
    have gd := ((K.alloc (.cells #[.int .i64 0, .slice none 0 0] 24)).alloc (.cells #[.int .i64 N, .slice none 0 0] 24)).g
    have ge := ((K.alloc (.cells #[.int .i64 N, .slice none 0 0] 24)).alloc (.cells #[.int .i64 0, .slice none 0 0] 24)).g
    have gf := ((K.alloc (.cells #[.int .i64 N, .slice none 0 0] 24)).alloc (.cells #[.int .i64 N, .slice none 0 0] 24)).g
    go_region
    all_goals
      go_wp2
      go_meet
      first
        | exact ⟨_, _, rfl, rfl, (Tw.start V N _ _ (.inl ⟨rfl, rfl⟩)).kept (below_drewN (Below.refl _ _) 1)⟩
        | exact ⟨_, _, rfl, rfl, (Tw.start V N _ _ (.inr ⟨rfl, rfl⟩)).kept (below_drewN (Below.refl _ _) 1)⟩
  case rest =>
    obtain ⟨O, U, rfl, rfl, hst⟩ := hcut
    have hB0 := bthen B hst.bel
    obtain ⟨c0, c1⟩ := K.kept hst.bel
    clear g0 g1
    by_cases b1 : 1048576 < by_
    · have d1 : decide (1048576 < by_) = true := decide_eq_true b1
      go_wp2
      go_ret
      exact ⟨rfl, hB0⟩
    · have d1 : decide (1048576 < by_) = false := decide_eq_false b1
      by_cases b2 : by_ < -1048576
      · have d2 : decide (by_ < -1048576) = true := decide_eq_true b2
        go_wp2
        go_ret
        exact ⟨rfl, hB0⟩
      · have d2 : decide (by_ < -1048576) = false := decide_eq_false b2
        have hby : Hid (-1048576 ≤ by_ ∧ by_ ≤ 1048576) := (by omega : -1048576 ≤ by_ ∧ by_ ≤ 1048576)
        clear b1 b2
        go_wp2
        clear c0 c1 d1 d2 hB0
        go_loopw [37] (fun i ww => ∃ (j : Nat) (a7 : Option Addr) (c7 : Nat) (a8 : Option Addr) (c8 : Nat), j ≤ m ∧ i = .int .i64 j ∧ (∀ i, i < j → wri (ed L i)) ∧ Tw V ww O U N a7 c7 ((L.take j).map (fun e : Ed => (⟨e.f, e.t, e.x + by_⟩ : Ed))) a8 c8 ((L.take j).map (fun e : Ed => (⟨e.f, e.t, 2 * e.x⟩ : Ed)))) (fun i _ => m - (intOf i).toNat)
        case atStart => exact ⟨0, none, 0, none, 0, Nat.zero_le _, rfl, fun i h => by omega, hst⟩
        case round =>
          obtain ⟨j, a7, c7, a8, c8, hj, rfl, hA, hT⟩ := hrel
          clear hst
          have hB := hT.bel
          by_cases hlt : j < m
          · have q1 := hlm.out
            have q2 := hby.out
            obtain ⟨b, off, rfl, e1⟩ := (E.kept hB).at (by omega)
            obtain ⟨cx1, cy1, cz1⟩ := e1 j (by omega)
            have hjI : (j : Int) < (m : Int) := by omega
            have hn1 : Hid ((L.take (j + 1)).map (fun e : Ed => (⟨e.f, e.t, e.x + by_⟩ : Ed)) = (L.take j).map (fun e : Ed => (⟨e.f, e.t, e.x + by_⟩ : Ed)) ++ [(fun e : Ed => (⟨e.f, e.t, e.x + by_⟩ : Ed)) (ed L j)]) := map_take_succ (by omega)
            have hn2 : Hid ((L.take (j + 1)).map (fun e : Ed => (⟨e.f, e.t, 2 * e.x⟩ : Ed)) = (L.take j).map (fun e : Ed => (⟨e.f, e.t, 2 * e.x⟩ : Ed)) ++ [(fun e : Ed => (⟨e.f, e.t, 2 * e.x⟩ : Ed)) (ed L j)]) := map_take_succ (by omega)
            have hl1 : ((L.take j).map (fun e : Ed => (⟨e.f, e.t, e.x + by_⟩ : Ed))).length = j := by simp; omega
            have hl2 : ((L.take j).map (fun e : Ed => (⟨e.f, e.t, 2 * e.x⟩ : Ed))).length = j := by simp; omega
            have hA2 : Hid (wri (ed L j) → ∀ i, i < j + 1 → wri (ed L i)) := fun h i hi => by
              by_cases e : i = j
              · subst e; exact h
              · exact hA i (by omega)
            have hr2 : Hid (¬ wri (ed L j) → r = 2) := hwr.out j hlt
            obtain ⟨⟨f, t, x⟩, he⟩ : ∃ e, ed L j = e := ⟨_, rfl⟩
            rw [he] at cx1 cy1 cz1 hn1 hn2 hA2 hr2
            simp only at cx1 cy1 cz1
            clear e1 q1 he hA
            have x0 : (wr.alloc (.cells #[.int .i64 f, .int .i64 t, .int .i64 x] 36)).cell? ⟨wr.heap.size, 0, none⟩ = some (.int .i64 f) := by rw [World.cell?_alloc_at _ _ _ _ rfl]; rfl
            have x1 : (wr.alloc (.cells #[.int .i64 f, .int .i64 t, .int .i64 x] 36)).cell? ⟨wr.heap.size, 1, none⟩ = some (.int .i64 t) := by rw [World.cell?_alloc_at _ _ _ _ rfl]; rfl
            have x2 : (wr.alloc (.cells #[.int .i64 f, .int .i64 t, .int .i64 x] 36)).cell? ⟨wr.heap.size, 2, none⟩ = some (.int .i64 x) := by rw [World.cell?_alloc_at _ _ _ _ rfl]; rfl
            have hT3 := hT.kept (balloc (Below.refl _ _) (.cells #[.int .i64 f, .int .i64 t, .int .i64 x] 36))
            have hEo : some wr.heap.size ≠ Value.ownBlock (.slice a7 j c7) := fun q => by have := (hT.own.lt wr.heap.size (by rw [hl1]; exact q.symm)).2; omega
            have hEO : wr.heap.size ≠ O := fun q => by have := hT.oo; have := hT.lt; omega
            have hBw := bthen B hT3.bel
            obtain ⟨W1, hW1⟩ : ∃ W1, wr.alloc (.cells #[.int .i64 f, .int .i64 t, .int .i64 x] 36) = W1 := ⟨_, rfl⟩
            rw [hW1] at x0 x1 x2 hT3 hBw
            by_cases k1 : 1048576 < x
            · have e1 : decide (1048576 < x) = true := decide_eq_true k1
              obtain rfl : r = 2 := hr2.out fun h => by obtain ⟨_, h⟩ := h; simp only at h; omega
              clear hT3 hn1 hn2 hA2 hr2
              go_wp2
              go_ret
              exact ⟨rfl, hBw⟩
            · have e1 : decide (1048576 < x) = false := decide_eq_false k1
              by_cases k2 : x < -1048576
              · have e2 : decide (x < -1048576) = true := decide_eq_true k2
                obtain rfl : r = 2 := hr2.out fun h => by obtain ⟨h, _⟩ := h; simp only at h; omega
                clear hT3 hn1 hn2 hA2 hr2
                go_wp2
                go_ret
                exact ⟨rfl, hBw⟩
              · have e2 : decide (x < -1048576) = false := decide_eq_false k2
                have hA3 := hA2.out ⟨by simp only; omega, by simp only; omega⟩
                replace hA3 : Hid _ := hA3
                obtain ⟨X1, hX1⟩ : ∃ X1, x + by_ = X1 := ⟨_, rfl⟩
                obtain ⟨X2, hX2⟩ : ∃ X2, 2 * x = X2 := ⟨_, rfl⟩
                have w1 : wrap64 (x + by_) = X1 := by rw [← hX1]; exact IntWalk.wrap64_in _ (by omega)
                have w2 : wrap64 (2 * x) = X2 := by rw [← hX2]; exact IntWalk.wrap64_in _ (by omega)
                obtain ⟨g, cap2, w2', hrun, ⟨u, r1⟩, r2, hfar, hN⟩ := hT3.more hl1 (by omega) f t X1
                have s1 := hT3.s
                rw [hl1] at s1
                have y0 := hfar _ _ x0 hEo hEO
                have y1 := hfar _ _ x1 hEo hEO
                have y2 := hfar _ _ x2 hEo hEO
                obtain ⟨W3, hW3⟩ : ∃ W3, w2'.setCell ⟨O, 1, none⟩ (.slice (some ⟨g, 0, none⟩) (j + 1) cap2) = W3 := ⟨_, rfl⟩
                rw [hW3] at hN y0 y1 y2
                obtain ⟨g', cap3, w4, hrun', ⟨u', r1'⟩, r2', _, hN'⟩ := hN.swap.more hl2 (by omega) f t X2
                have s2 := hN.swap.s
                rw [hl2] at s2
                have hF : Hid (Tw V (w4.setCell ⟨U, 1, none⟩ (.slice (some ⟨g', 0, none⟩) (j + 1) cap3)) O U N (some ⟨g, 0, none⟩) cap2 ((L.take (j + 1)).map (fun e : Ed => (⟨e.f, e.t, e.x + by_⟩ : Ed))) (some ⟨g', 0, none⟩) cap3 ((L.take (j + 1)).map (fun e : Ed => (⟨e.f, e.t, 2 * e.x⟩ : Ed)))) := by
                  rw [hn1.out, hn2.out]
                  show Tw _ _ _ _ _ _ _ (_ ++ [⟨f, t, x + by_⟩]) _ _ (_ ++ [⟨f, t, 2 * x⟩])
                  rw [hX1, hX2]
                  exact hN'.swap
                replace hX1 : Hid _ := hX1
                replace hX2 : Hid _ := hX2
                clear hT hT3 hN hN' hfar hn1 hn2 hA2 hr2 k1 k2 hl1 hl2 hEo q2 hB
                go_wp2
                go_roundw
                case rel => exact ⟨j + 1, some ⟨g, 0, none⟩, cap2, some ⟨g', 0, none⟩, cap3, by omega, by go_num, hA3.out, hF.out⟩
                case measure => simp [intOf]; omega
          · obtain rfl : j = m := by omega
            have ht : L.take j = L := by rw [← hlm.out]; exact List.take_length
            rw [ht] at hT
            replace hT : Tw V wr O U N a7 c7 (mL by_ L) a8 c8 (tL L) := hT
            have hl1 : (mL by_ L).length = j := by unfold mL; rw [List.length_map]; exact hlm.out
            have hl2 : (tL L).length = j := by unfold tL; rw [List.length_map]; exact hlm.out
            have cw1 : Hid (∀ v, ERow v a7 (mL by_ L) → Calls Try.prog 15 #[.agg #[.int .i64 N, .slice a7 j c7]] v fun e w' => e = .returned (.int .i64 (gwr N (mL by_ L))) ∧ Below v.heap.size v w') := fun v h => by
              have := wrong_any N a7 c7 (mL by_ L) v h (by omega)
              rw [hl1] at this; exact this
            have cw2 : Hid (∀ v, ERow v a8 (tL L) → Calls Try.prog 15 #[.agg #[.int .i64 N, .slice a8 j c8]] v fun e w' => e = .returned (.int .i64 (gwr N (tL L))) ∧ Below v.heap.size v w') := fun v h => by
              have := wrong_any N a8 c8 (tL L) v h (by omega)
              rw [hl2] at this; exact this
            have gv : ∀ M, gwr N M = 0 ∨ gwr N M = 2 := fun M => by
              unfold gwr; split
              · exact .inl rfl
              · exact .inr rfl
            have hF2 := Fq.kept hT.bel
            have hBw := bthen B hT.bel
            have t0 := hT.g
            have t1 := hT.s
            have t2 := hT.g'
            have t3 := hT.s'
            rw [hl1] at t1
            rw [hl2] at t3
            have T1 := True.intro
            clear ht E K
            replace hA : Hid (∀ i, i < j → wri (ed L i)) := hA
            by_cases hg1 : gwr N (mL by_ L) = 0
            · rw [hg1] at cw1
              by_cases hg2 : gwr N (tL L) = 0
              · rw [hg2] at cw2
                have c7m := k7m.out hA.out hg1 hg2
                have c7t := k7t.out hA.out hg1 hg2
                replace c7m : Hid (∀ v ao cp, ERow v ao (mL by_ L) → Calls Try.prog 7 #[.agg #[.int .i64 N, .slice ao j cp]] v fun e w' => ∃ P Q : Int, e = .returned (.tuple #[.agg #[.int .i64 P, .int .i64 Q], .int .i64 r]) ∧ RelM P Q ∧ Below v.heap.size v w') := c7m
                replace c7t : Hid (∀ v ao cp, ERow v ao (tL L) → Calls Try.prog 7 #[.agg #[.int .i64 N, .slice ao j cp]] v fun e w' => ∃ P Q : Int, e = .returned (.tuple #[.agg #[.int .i64 P, .int .i64 Q], .int .i64 r]) ∧ RelT P Q ∧ Below v.heap.size v w') := c7t
                have hfn : Hid (r = 0 → ∀ P Q P2 Q2 P3 Q3, Rel P Q → RelM P2 Q2 → RelT P3 Q3 → (1 ≤ Q ∧ Q ≤ 300) ∧ (1 ≤ Q2 ∧ Q2 ≤ 300) ∧ (1 ≤ Q3 ∧ Q3 ≤ 300) ∧ (-314572800 ≤ P ∧ P ≤ 314572800) ∧ (-314572800 ≤ P2 ∧ P2 ≤ 314572800) ∧ (-314572800 ≤ P3 ∧ P3 ≤ 314572800) ∧ P2 * Q = (P + by_ * Q) * Q2 ∧ P3 * Q = 2 * P * Q3) := fun h => hfin.out h hA.out hg1 hg2
                clear hg1 hg2 k7m k7t hfin gv hwr
                rcases hr.out with rfl | rfl | rfl
                · clear hr
                  have hf0 : Hid (∀ P Q P2 Q2 P3 Q3, Rel P Q → RelM P2 Q2 → RelT P3 Q3 → (1 ≤ Q ∧ Q ≤ 300) ∧ (1 ≤ Q2 ∧ Q2 ≤ 300) ∧ (1 ≤ Q3 ∧ Q3 ≤ 300) ∧ (-314572800 ≤ P ∧ P ≤ 314572800) ∧ (-314572800 ≤ P2 ∧ P2 ≤ 314572800) ∧ (-314572800 ≤ P3 ∧ P3 ≤ 314572800) ∧ P2 * Q = (P + by_ * Q) * Q2 ∧ P3 * Q = 2 * P * Q3) := hfn.out rfl
                  clear hfn
                  go_wp2_with (first
                    | (go_at_call 15; clear T1; refine (cw1.out _ hT.row).mono ?_; rintro e v1 ⟨rfl, bb⟩; clear cw1; replace hT := hT.kept bb; replace hF2 := hF2.kept bb; replace hBw := bthen hBw bb; clear t0 t1 t2 t3; have t0 := hT.g; have t1 := hT.s; have t2 := hT.g'; have t3 := hT.s'; rw [hl1] at t1; rw [hl2] at t3)
                    | (go_at_call 15; refine (cw2.out _ hT.swap.row).mono ?_; rintro e v2 ⟨rfl, bb⟩; clear cw2; replace hT := hT.kept bb; replace hF2 := hF2.kept bb; replace hBw := bthen hBw bb; clear t0 t1 t2 t3; have t0 := hT.g; have t1 := hT.s; have t2 := hT.g'; have t3 := hT.s'; rw [hl1] at t1; rw [hl2] at t3)
                    | (go_at_call 7; refine (c7m.out _ _ _ hT.row).mono ?_; rintro e v3 ⟨P2, Q2, rfl, hR2, bb⟩; clear c7m; replace hT := (hT.kept bb).kept (balloc (Below.refl _ _) (.cells #[.int .i64 P2, .int .i64 Q2] 26)); replace hF2 := (hF2.kept bb).alloc (.cells #[.int .i64 P2, .int .i64 Q2] 26); have hF3 := Fr.new v3 v3.heap.size rfl P2 Q2; replace hBw := balloc (bthen hBw bb) (.cells #[.int .i64 P2, .int .i64 Q2] 26); clear t0 t1 t2 t3; have t0 := hT.g; have t1 := hT.s; have t2 := hT.g'; have t3 := hT.s'; rw [hl1] at t1; rw [hl2] at t3)
                    | (go_at_call 7; refine (c7t.out _ _ _ hT.swap.row).mono ?_; rintro e v4 ⟨P3, Q3, rfl, hR3, bb⟩; clear c7t; replace hF2 := (hF2.kept bb).alloc (.cells #[.int .i64 P3, .int .i64 Q3] 26); replace hF3 := (hF3.kept bb).alloc (.cells #[.int .i64 P3, .int .i64 Q3] 26); have hF4 := Fr.new v4 v4.heap.size rfl P3 Q3; replace hBw := balloc (bthen hBw bb) (.cells #[.int .i64 P3, .int .i64 Q3] 26); clear t0 t1 t2 t3; obtain ⟨o0, o1, _, _⟩ := id hF2; obtain ⟨o2, o3, _, _⟩ := id hF3; obtain ⟨o4, o5, _, _⟩ := id hF4; have hb2 := hby.out; obtain ⟨z1, z2, z3, z4, z5, z6, z7, z8⟩ := hf0.out P Q P2 Q2 P3 Q3 hRel hR2 hR3; have m1 := prod_in (x := P2) (y := Q) (by omega) (by omega) (by omega) (by omega); have m2 := prod_in (x := by_) (y := Q) (by omega) (by omega) (by omega) (by omega); have m3 := prod_in (x := P3) (y := Q) (by omega) (by omega) (by omega) (by omega); have u1 : wrap64 (P2 * Q) = P2 * Q := IntWalk.wrap64_in _ (by omega); have u2 : wrap64 (by_ * Q) = by_ * Q := IntWalk.wrap64_in _ (by omega); have u3 : wrap64 (P + by_ * Q) = P + by_ * Q := IntWalk.wrap64_in _ (by omega); have u4 : wrap64 ((P + by_ * Q) * Q2) = P2 * Q := (by rw [← z7]; exact u1); have u5 : wrap64 (P3 * Q) = P3 * Q := IntWalk.wrap64_in _ (by omega); have u6 : wrap64 (2 * P) = 2 * P := IntWalk.wrap64_in _ (by omega); have u7 : wrap64 (2 * P * Q3) = P3 * Q := (by rw [← z8]; exact u5); have v1 : (P2 * Q == P2 * Q) = true := beq_self_eq_true _; have v2 : (P3 * Q == P3 * Q) = true := beq_self_eq_true _; clear z1 z2 z3 z4 z5 z6 z7 z8 m1 m2 m3 hb2))
                  go_ret
                  exact ⟨rfl, hBw⟩
                · clear hr hfn
                  go_wp2_with (first
                    | (go_at_call 15; clear T1; refine (cw1.out _ hT.row).mono ?_; rintro e v1 ⟨rfl, bb⟩; clear cw1; replace hT := hT.kept bb; replace hF2 := hF2.kept bb; replace hBw := bthen hBw bb; clear t0 t1 t2 t3; have t0 := hT.g; have t1 := hT.s; have t2 := hT.g'; have t3 := hT.s'; rw [hl1] at t1; rw [hl2] at t3)
                    | (go_at_call 15; refine (cw2.out _ hT.swap.row).mono ?_; rintro e v2 ⟨rfl, bb⟩; clear cw2; replace hT := hT.kept bb; replace hF2 := hF2.kept bb; replace hBw := bthen hBw bb; clear t0 t1 t2 t3; have t0 := hT.g; have t1 := hT.s; have t2 := hT.g'; have t3 := hT.s'; rw [hl1] at t1; rw [hl2] at t3)
                    | (go_at_call 7; refine (c7m.out _ _ _ hT.row).mono ?_; rintro e v3 ⟨P2, Q2, rfl, hR2, bb⟩; clear c7m; replace hT := (hT.kept bb).kept (balloc (Below.refl _ _) (.cells #[.int .i64 P2, .int .i64 Q2] 26)); replace hF2 := (hF2.kept bb).alloc (.cells #[.int .i64 P2, .int .i64 Q2] 26); have hF3 := Fr.new v3 v3.heap.size rfl P2 Q2; replace hBw := balloc (bthen hBw bb) (.cells #[.int .i64 P2, .int .i64 Q2] 26); clear t0 t1 t2 t3; have t0 := hT.g; have t1 := hT.s; have t2 := hT.g'; have t3 := hT.s'; rw [hl1] at t1; rw [hl2] at t3)
                    | (go_at_call 7; refine (c7t.out _ _ _ hT.swap.row).mono ?_; rintro e v4 ⟨P3, Q3, rfl, hR3, bb⟩; clear c7t; replace hF2 := (hF2.kept bb).alloc (.cells #[.int .i64 P3, .int .i64 Q3] 26); replace hF3 := (hF3.kept bb).alloc (.cells #[.int .i64 P3, .int .i64 Q3] 26); have hF4 := Fr.new v4 v4.heap.size rfl P3 Q3; replace hBw := balloc (bthen hBw bb) (.cells #[.int .i64 P3, .int .i64 Q3] 26); clear t0 t1 t2 t3; obtain ⟨o0, o1, _, _⟩ := id hF2; obtain ⟨o2, o3, _, _⟩ := id hF3; obtain ⟨o4, o5, _, _⟩ := id hF4))
                  go_ret
                  exact ⟨rfl, hBw⟩
                · clear hr hfn
                  go_wp2_with (first
                    | (go_at_call 15; clear T1; refine (cw1.out _ hT.row).mono ?_; rintro e v1 ⟨rfl, bb⟩; clear cw1; replace hT := hT.kept bb; replace hF2 := hF2.kept bb; replace hBw := bthen hBw bb; clear t0 t1 t2 t3; have t0 := hT.g; have t1 := hT.s; have t2 := hT.g'; have t3 := hT.s'; rw [hl1] at t1; rw [hl2] at t3)
                    | (go_at_call 15; refine (cw2.out _ hT.swap.row).mono ?_; rintro e v2 ⟨rfl, bb⟩; clear cw2; replace hT := hT.kept bb; replace hF2 := hF2.kept bb; replace hBw := bthen hBw bb; clear t0 t1 t2 t3; have t0 := hT.g; have t1 := hT.s; have t2 := hT.g'; have t3 := hT.s'; rw [hl1] at t1; rw [hl2] at t3)
                    | (go_at_call 7; refine (c7m.out _ _ _ hT.row).mono ?_; rintro e v3 ⟨P2, Q2, rfl, hR2, bb⟩; clear c7m; replace hT := (hT.kept bb).kept (balloc (Below.refl _ _) (.cells #[.int .i64 P2, .int .i64 Q2] 26)); replace hF2 := (hF2.kept bb).alloc (.cells #[.int .i64 P2, .int .i64 Q2] 26); have hF3 := Fr.new v3 v3.heap.size rfl P2 Q2; replace hBw := balloc (bthen hBw bb) (.cells #[.int .i64 P2, .int .i64 Q2] 26); clear t0 t1 t2 t3; have t0 := hT.g; have t1 := hT.s; have t2 := hT.g'; have t3 := hT.s'; rw [hl1] at t1; rw [hl2] at t3)
                    | (go_at_call 7; refine (c7t.out _ _ _ hT.swap.row).mono ?_; rintro e v4 ⟨P3, Q3, rfl, hR3, bb⟩; clear c7t; replace hF2 := (hF2.kept bb).alloc (.cells #[.int .i64 P3, .int .i64 Q3] 26); replace hF3 := (hF3.kept bb).alloc (.cells #[.int .i64 P3, .int .i64 Q3] 26); have hF4 := Fr.new v4 v4.heap.size rfl P3 Q3; replace hBw := balloc (bthen hBw bb) (.cells #[.int .i64 P3, .int .i64 Q3] 26); clear t0 t1 t2 t3; obtain ⟨o0, o1, _, _⟩ := id hF2; obtain ⟨o2, o3, _, _⟩ := id hF3; obtain ⟨o4, o5, _, _⟩ := id hF4))
                  go_ret
                  exact ⟨rfl, hBw⟩
              · have hg3 : gwr N (tL L) = 2 := (gv (tL L)).resolve_left hg2
                rw [hg3] at cw2
                clear hg1 hg2 hg3 k7m k7t hfin gv hwr hr
                go_wp2_with (first
                  | (go_at_call 15; clear T1; refine (cw1.out _ hT.row).mono ?_; rintro e v1 ⟨rfl, bb⟩; clear cw1; replace hT := hT.kept bb; replace hF2 := hF2.kept bb; replace hBw := bthen hBw bb; clear t0 t1 t2 t3; have t0 := hT.g; have t1 := hT.s; have t2 := hT.g'; have t3 := hT.s'; rw [hl1] at t1; rw [hl2] at t3)
                  | (go_at_call 15; refine (cw2.out _ hT.swap.row).mono ?_; rintro e v2 ⟨rfl, bb⟩; clear cw2; replace hBw := bthen hBw bb))
                go_ret
                exact ⟨rfl, hBw⟩
            · have hg3 : gwr N (mL by_ L) = 2 := (gv (mL by_ L)).resolve_left hg1
              rw [hg3] at cw1
              clear hg1 hg3 k7m k7t hfin gv hwr hr
              go_wp2_with (go_at_call 15; refine (cw1.out _ hT.row).mono ?_; rintro e v1 ⟨rfl, bb⟩; clear cw1; replace hBw := bthen hBw bb)
              go_ret
              exact ⟨rfl, hBw⟩

theorem lam_bound {es : List Eg} (hw : Wgt es) {p : Int} {q : Nat} (hL : Lam es p q) : -1048576 * (q : Int) ≤ p ∧ p ≤ 1048576 * (q : Int) := by
  obtain ⟨l, hl, he⟩ := hL.got
  obtain ⟨u, hu⟩ := hl.2
  have hlen : (0 : Int) < (l.length : Int) := by have := hl.len; omega
  have q0 := hL.q1
  have a1 := mul_le_pos (wt_le (fun e he => (hw e he).2) hu) (Int.le_of_lt q0)
  have a2 := mul_le_pos (wt_ge (fun e he => (hw e he).1) hu) (Int.le_of_lt q0)
  constructor
  · refine le_of_mul hlen ?_
    calc -1048576 * (q : Int) * (l.length : Int) = -1048576 * (l.length : Int) * (q : Int) := by ac_rfl
      _ ≤ wt l * (q : Int) := a2
      _ = p * (l.length : Int) := by rw [← he, Int.mul_comm]
  · refine le_of_mul hlen ?_
    calc p * (l.length : Int) = wt l * (q : Int) := by rw [← he, Int.mul_comm]
      _ ≤ 1048576 * (l.length : Int) * (q : Int) := a1
      _ = 1048576 * (q : Int) * (l.length : Int) := by ac_rfl
theorem mL_sc (es : List Eg) (by_ : Int) : mL by_ (es.map upE) = (sc es (-by_) 1).map upE := by
  unfold mL sc
  rw [List.map_map, List.map_map]
  refine List.map_congr_left fun e _ => ?_
  show (⟨(e.f : Int), (e.t : Int), e.x + by_⟩ : Ed) = ⟨(e.f : Int), (e.t : Int), e.x * 1 - -by_⟩
  rw [show e.x * 1 - -by_ = e.x + by_ by omega]
theorem tL_sc (es : List Eg) : tL (es.map upE) = (sc es 0 2).map upE := by
  unfold tL sc
  rw [List.map_map, List.map_map]
  refine List.map_congr_left fun e _ => ?_
  show (⟨(e.f : Int), (e.t : Int), 2 * e.x⟩ : Ed) = ⟨(e.f : Int), (e.t : Int), e.x * 2 - 0⟩
  rw [show e.x * 2 - 0 = 2 * e.x by omega]
theorem sc_gph {n : Nat} {es : List Eg} (hG : Gph n es) {a b : Int} (h : gwr (n : Int) ((sc es a b).map upE) = 0) : Gph n (sc es a b) := by
  have hg : grt (n : Int) ((sc es a b).map upE) := Classical.byContradiction fun q => by rw [gwr_no q] at h; omega
  refine ⟨hG.n3, by rw [sc_len]; exact hG.m4, sc_inn hG.inn a b, fun e he => ?_⟩
  obtain ⟨j, hj, rfl⟩ := mem_eg he
  have := hg.2.2.2 j (by rw [List.length_map]; exact hj)
  rw [ed_up hj] at this
  exact this.2.2
theorem mL_ed {L : List Ed} {by_ : Int} {j : Nat} (h : j < L.length) : ed (mL by_ L) j = ⟨(ed L j).f, (ed L j).t, (ed L j).x + by_⟩ := by
  unfold ed mL
  rw [List.getD_eq_getElem?_getD, List.getElem?_map, List.getD_eq_getElem?_getD, List.getElem?_eq_getElem h]
  rfl
theorem back_right {N : Int} {L : List Ed} {by_ : Int} (h : ∀ i, i < L.length → wri (ed L i)) (hg : gwr N (mL by_ L) = 0) : grt N L := by
  have hr : grt N (mL by_ L) := Classical.byContradiction fun q => by rw [gwr_no q] at hg; omega
  obtain ⟨h1, h2, h3, h4⟩ := hr
  have e : (mL by_ L).length = L.length := by unfold mL; rw [List.length_map]
  rw [e] at h3 h4
  refine ⟨h1, h2, h3, fun j hj => ?_⟩
  have := h4 j hj
  rw [mL_ed hj] at this
  exact ⟨this.1, this.2.1, h j hj⟩

theorem meanMore_all (hGS : GSome) (hGN : GNone) (hGW : GWrong) (hBS : BSome) (N : Int) (a : Option Addr) (cap : Nat) (L : List Ed) (hu : L.length ≤ 5864062014805) (by_ : Int) (w : World) (hE : ERow w a L) :
    Calls Try.prog 6 #[.agg #[.int .i64 N, .slice a L.length cap], .int .i64 by_] w fun e w' => e = .returned (.bool true) ∧ Below w.heap.size w w' := by
  have k11 := fun v => alive18_any hGS hGN hBS v
  by_cases hg : grt N L
  · obtain ⟨n, es, rfl, rfl, hG⟩ := grt_gph hg
    have hin : ∀ j, j < (es.map upE).length → wri (ed (es.map upE) j) := fun j hj => (hg.2.2.2 j hj).2.2
    have hml : (mL by_ (es.map upE)).length = (es.map upE).length := by unfold mL; rw [List.length_map]
    have hle : (es.map upE).length = es.length := List.length_map _
    by_cases hc : ∃ l, Cyc es l
    · obtain ⟨p, q, q1, qn, hb, hL⟩ := lam_all hG hc
      have n3 := hG.n3
      refine more_main n a cap (es.map upE) _ rfl hu by_ 0 (fun P Q => Low P Q ∧ P * (q : Int) = p * Q) (fun P Q => Low P Q ∧ P * (q : Int) = (p + by_ * (q : Int)) * Q ∧ (-1048576 * (q : Int) ≤ p + by_ * (q : Int) ∧ p + by_ * (q : Int) ≤ 1048576 * (q : Int))) (fun P Q => Low P Q ∧ P * (q : Int) = (2 * p) * Q ∧ (-1048576 * (q : Int) ≤ 2 * p ∧ 2 * p ≤ 1048576 * (q : Int))) w hE k11 ?_ (fun j hj hn => absurd (hin j hj) hn) ?_ ?_ (.inl rfl) ?_
      · intro v h
        rw [hle]
        exact (hGS n es hG a cap _ rfl p q q1 qn hb hL v h).mono fun e w' ⟨P, Q, h1, h2, h3, h4⟩ => ⟨P, Q, h1, ⟨h2, h3⟩, h4⟩
      · intro _ h1 h2 v ao cp h
        rw [mL_sc] at h h1
        have hG2 := sc_gph hG h1
        have hL2 := lam_sc hL (-by_) 1 (by omega)
        rw [show (1 : Int) * p - -by_ * (q : Int) = p + by_ * (q : Int) by rw [Int.neg_mul]; omega] at hL2
        have hb2 := lam_bound hG2.wgt hL2
        rw [hle]
        exact (hGS n _ hG2 ao cp _ (sc_len _ _ _) _ q q1 qn hb2 hL2 v h).mono fun e w' ⟨P, Q, h1, h2, h3, h4⟩ => ⟨P, Q, h1, ⟨h2, h3, hb2⟩, h4⟩
      · intro _ h1 h2 v ao cp h
        rw [tL_sc] at h h2
        have hG2 := sc_gph hG h2
        have hL2 := lam_sc hL 0 2 (by omega)
        rw [show (2 : Int) * p - 0 * (q : Int) = 2 * p by rw [Int.zero_mul]; omega] at hL2
        have hb2 := lam_bound hG2.wgt hL2
        rw [hle]
        exact (hGS n _ hG2 ao cp _ (sc_len _ _ _) _ q q1 qn hb2 hL2 v h).mono fun e w' ⟨P, Q, h1, h2, h3, h4⟩ => ⟨P, Q, h1, ⟨h2, h3, hb2⟩, h4⟩
      · rintro _ _ _ _ P Q P2 Q2 P3 Q3 ⟨l1, e1⟩ ⟨l2, e2, b2⟩ ⟨l3, e3, b3⟩
        have z1 := low_le l1 q1 e1 hb
        have z2 := low_le l2 q1 e2 b2
        have z3 := low_le l3 q1 e3 b3
        refine ⟨by omega, by omega, by omega, by omega, by omega, by omega, ?_, ?_⟩
        · refine Int.eq_of_mul_eq_mul_right (a := (q : Int)) (by omega) ?_
          calc P2 * Q * (q : Int) = P2 * (q : Int) * Q := by ac_rfl
            _ = (p + by_ * (q : Int)) * Q2 * Q := by rw [e2]
            _ = (p * Q + by_ * (q : Int) * Q) * Q2 := by rw [Int.mul_assoc, Int.mul_comm Q2 Q, ← Int.mul_assoc, Int.add_mul]
            _ = (P * (q : Int) + by_ * Q * (q : Int)) * Q2 := by rw [e1, show by_ * (q : Int) * Q = by_ * Q * (q : Int) by ac_rfl]
            _ = (P + by_ * Q) * Q2 * (q : Int) := by rw [← Int.add_mul]; ac_rfl
        · refine Int.eq_of_mul_eq_mul_right (a := (q : Int)) (by omega) ?_
          calc P3 * Q * (q : Int) = P3 * (q : Int) * Q := by ac_rfl
            _ = 2 * p * Q3 * Q := by rw [e3]
            _ = 2 * (p * Q) * Q3 := by ac_rfl
            _ = 2 * (P * (q : Int)) * Q3 := by rw [e1]
            _ = 2 * P * Q3 * (q : Int) := by ac_rfl
    · refine more_main n a cap (es.map upE) _ rfl hu by_ 3 (fun _ _ => True) (fun _ _ => True) (fun _ _ => True) w hE k11 ?_ (fun j hj hn => absurd (hin j hj) hn) ?_ ?_ (.inr (.inr rfl)) (fun h => by omega)
      · intro v h
        rw [hle]
        exact (hGN n es hG a cap _ rfl hc v h).mono fun e w' ⟨h1, h2⟩ => ⟨0, 0, h1, trivial, h2⟩
      · intro _ h1 h2 v ao cp h
        rw [mL_sc] at h h1
        rw [hle]
        exact (hGN n _ (sc_gph hG h1) ao cp _ (sc_len _ _ _) (fun k => hc ((sc_some es _ _).1 k)) v h).mono fun e w' ⟨h1, h2⟩ => ⟨0, 0, h1, trivial, h2⟩
      · intro _ h1 h2 v ao cp h
        rw [tL_sc] at h h2
        rw [hle]
        exact (hGN n _ (sc_gph hG h2) ao cp _ (sc_len _ _ _) (fun k => hc ((sc_some es _ _).1 k)) v h).mono fun e w' ⟨h1, h2⟩ => ⟨0, 0, h1, trivial, h2⟩
  · refine more_main N a cap L _ rfl hu by_ 2 (fun _ _ => True) (fun _ _ => True) (fun _ _ => True) w hE k11 ?_ (fun _ _ _ => rfl) (fun h1 h2 => absurd (back_right h1 h2) hg) (fun h1 h2 => absurd (back_right h1 h2) hg) (.inr (.inl rfl)) (fun h => by omega)
    intro v h
    exact (hGW N a cap L (by omega) hg v h).mono fun e w' ⟨h1, h2⟩ => ⟨0, 0, h1, trivial, h2⟩

end Go.Proofs.Ytdbpgcaodgkcjaa
