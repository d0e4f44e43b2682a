/- PROVED: what the laws' own sums answers. CONDITIONS: none beyond each theorem's own. -/
import Derived.Test.YtobgjnjndkfjoaaDPlay
import Derived.BigQuiet
namespace Go.Proofs.Ytobgjnjndkfjoaa.D
open Go.RowKit K

/-- three pairs, one behind the other -/
structure Tri (w : World) (P : Nat) (a0 a1 d0 d1 e0 e1 : Int) : Prop where
  a : Arr w P a0 a1
  d : Arr w (P + 1) d0 d1
  e : Arr w (P + 1 + 1) e0 e1
theorem Tri.kept {w w' : World} {P : Nat} {a0 a1 d0 d1 e0 e1 : Int} (h : Tri w P a0 a1 d0 d1 e0 e1) (g : Below w.heap.size w w') : Tri w' P a0 a1 d0 d1 e0 e1 := ⟨h.a.kept g, h.d.kept g, h.e.kept g⟩
theorem _root_.Go.Proofs.Ytobgjnjndkfjoaa.K.Arr.drew {w : World} {C : Nat} {a b : Int} (h : Arr w C a b) : Arr w.drew C a b := h.kept (below_drewN (Below.refl _ _) 1)
theorem Tri.put0 {w : World} {P : Nat} {a0 a1 d0 d1 e0 e1 : Int} (h : Tri w P a0 a1 d0 d1 e0 e1) (x y z : Int) : Tri (((((w.setCell ⟨P, 0, none⟩ (.int .i64 x)).drew).setCell ⟨P + 1, 0, none⟩ (.int .i64 y)).drew).setCell ⟨P + 1 + 1, 0, none⟩ (.int .i64 z)).drew P x a1 y d1 z e1 :=
  ⟨(((h.a.set0 x).drew.far (by omega) _).drew.far (by omega) _).drew, ((((h.d.far (by omega) _).drew.set0 y).drew).far (by omega) _).drew, ((((h.e.far (by omega) _).drew.far (by omega) _).drew).set0 z).drew⟩
theorem Tri.put1 {w : World} {P : Nat} {a0 a1 d0 d1 e0 e1 : Int} (h : Tri w P a0 a1 d0 d1 e0 e1) (x y z : Int) : Tri (((((w.setCell ⟨P, 1, none⟩ (.int .i64 x)).drew).setCell ⟨P + 1, 1, none⟩ (.int .i64 y)).drew).setCell ⟨P + 1 + 1, 1, none⟩ (.int .i64 z)).drew P a0 x d0 y e0 z :=
  ⟨(((h.a.set1 x).drew.far (by omega) _).drew.far (by omega) _).drew, ((((h.d.far (by omega) _).drew.set1 y).drew).far (by omega) _).drew, ((((h.e.far (by omega) _).drew.far (by omega) _).drew).set1 z).drew⟩

set_option maxHeartbeats 12800000 in
theorem sums_any (ao : Option Addr) (cp n : Nat) (R : List Rx) (hn : R.length = n) (hb : n ≤ 1048576) (hin : ∀ x ∈ R, (0 ≤ x.s0 ∧ x.s0 ≤ 100) ∧ (0 ≤ x.s1 ∧ x.s1 ≤ 100) ∧ (0 ≤ x.c0 ∧ x.c0 ≤ 100) ∧ (0 ≤ x.c1 ∧ x.c1 ≤ 100) ∧ (0 ≤ x.l0 ∧ x.l0 ≤ 100) ∧ (0 ≤ x.l1 ∧ x.l1 ≤ 100)) (w : World) (hr : RRow w ao R) :
    Calls Try.prog 21 #[.slice ao n cp] w fun e w' => e = .returned (.tuple #[.agg #[.int .i64 (total (·.c0) R), .int .i64 (total (·.c1) R)], .agg #[.int .i64 (total (·.l0) R), .int .i64 (total (·.l1) R)], .agg #[.int .i64 (total (·.s0) R), .int .i64 (total (·.s1) R)]]) ∧ Below w.heap.size w w' := by
  have st : ∀ (f : Rx → Int) k, k < n → total f (R.take (k + 1)) = total f (R.take k) + f (R.getD k R0) := fun f k hk => by
    rw [take_snoc R0 R k (by omega), total_snoc]
  have bd : ∀ (f : Rx → Int) k, (∀ x ∈ R, 0 ≤ f x ∧ f x ≤ 100) → k ≤ n → 0 ≤ total f (R.take k) ∧ total f (R.take k) ≤ 104857600 := fun f k hf hk => by
    have := total_in (f := f) (l := R.take k) (fun x hx => hf x (List.mem_of_mem_take hx))
    rw [List.length_take] at this
    omega
  have hmem : ∀ k, k < n → R.getD k R0 ∈ R := fun k hk => by
    rw [List.getD_eq_getElem?_getD, List.getElem?_eq_getElem (by omega)]
    exact List.getElem_mem _
  replace st : Hid _ := st
  replace bd : Hid _ := bd
  replace hmem : Hid _ := hmem
  have hl : Hid (R.length = n) := hn
  have T0 : Tri (((w.alloc (.cells #[.int .i64 0, .int .i64 0] 22)).alloc (.cells #[.int .i64 0, .int .i64 0] 22)).alloc (.cells #[.int .i64 0, .int .i64 0] 22)) w.heap.size 0 0 0 0 0 0 :=
    ⟨((Arr.new w _ rfl 0 0).alloc _).alloc _, (Arr.new (w.alloc _) _ (by simp) 0 0).alloc _, Arr.new ((w.alloc _).alloc _) _ (by simp) 0 0⟩
  have B0 : Below w.heap.size w (((w.alloc (.cells #[.int .i64 0, .int .i64 0] 22)).alloc (.cells #[.int .i64 0, .int .i64 0] 22)).alloc (.cells #[.int .i64 0, .int .i64 0] 22)) := balloc (balloc (balloc (Below.refl _ _) _) _) _
  clear hn
  go_enter Try.func21, Try.ntmps21
  go_wp2
  go_loopw [10] (fun i wr => ∃ k : Nat, k ≤ n ∧ i = .int .i64 k ∧ Tri wr w.heap.size (total (·.c0) (R.take k)) (total (·.c1) (R.take k)) (total (·.l0) (R.take k)) (total (·.l1) (R.take k)) (total (·.s0) (R.take k)) (total (·.s1) (R.take k)) ∧ Below w.heap.size w wr) (fun i _ => n - (intOf i).toNat)
  case atStart => exact ⟨0, Nat.zero_le _, rfl, T0, B0⟩
  case round =>
    clear T0 B0
    obtain ⟨k, hk, rfl, T, B⟩ := hrel
    by_cases hlt : k < n
    · have q1 := hl.out
      obtain ⟨bb, oo, rfl, hc⟩ := (hr.kept B).at (by omega)
      obtain ⟨x0, x1, x2, x3, x4, x5⟩ := hc k (by omega)
      have hX := hin _ (hmem.out k hlt)
      have hltI : (k : Int) < n := by omega
      have b0 := bd.out (·.c0) k (fun x hx => (hin x hx).2.2.1) hk
      have b1 := bd.out (·.c1) k (fun x hx => (hin x hx).2.2.2.1) hk
      have b2 := bd.out (·.l0) k (fun x hx => (hin x hx).2.2.2.2.1) hk
      have b3 := bd.out (·.l1) k (fun x hx => (hin x hx).2.2.2.2.2) hk
      have b4 := bd.out (·.s0) k (fun x hx => (hin x hx).1) hk
      have b5 := bd.out (·.s1) k (fun x hx => (hin x hx).2.1) hk
      have fin : Hid (∀ wr, Tri wr w.heap.size (total (·.c0) (R.take k) + (R.getD k R0).c0) (total (·.c1) (R.take k) + (R.getD k R0).c1) (total (·.l0) (R.take k) + (R.getD k R0).l0) (total (·.l1) (R.take k) + (R.getD k R0).l1) (total (·.s0) (R.take k) + (R.getD k R0).s0) (total (·.s1) (R.take k) + (R.getD k R0).s1) → Tri wr w.heap.size (total (·.c0) (R.take (k + 1))) (total (·.c1) (R.take (k + 1))) (total (·.l0) (R.take (k + 1))) (total (·.l1) (R.take (k + 1))) (total (·.s0) (R.take (k + 1))) (total (·.s1) (R.take (k + 1)))) := fun wr q => by
        rw [st.out (·.c0) k hlt, st.out (·.c1) k hlt, st.out (·.l0) k hlt, st.out (·.l1) k hlt, st.out (·.s0) k hlt, st.out (·.s1) k hlt]; exact q
      clear hc q1 st bd hmem hin
      generalize R.getD k R0 = X at x0 x1 x2 x3 x4 x5 hX fin
      obtain ⟨s0, s1, g0, g1, l0, l1⟩ := X
      simp only at x0 x1 x2 x3 x4 x5 hX fin
      generalize total (·.c0) (R.take k) = A0 at T b0 fin
      generalize total (·.c1) (R.take k) = A1 at T b1 fin
      generalize total (·.l0) (R.take k) = D0 at T b2 fin
      generalize total (·.l1) (R.take k) = D1 at T b3 fin
      generalize total (·.s0) (R.take k) = E0 at T b4 fin
      generalize total (·.s1) (R.take k) = E1 at T b5 fin
      obtain ⟨⟨_, _⟩, ⟨_, _⟩, ⟨_, _⟩, ⟨_, _⟩, ⟨_, _⟩, _, _⟩ := hX
      obtain ⟨_, _⟩ := b0
      obtain ⟨_, _⟩ := b1
      obtain ⟨_, _⟩ := b2
      obtain ⟨_, _⟩ := b3
      obtain ⟨_, _⟩ := b4
      obtain ⟨_, _⟩ := b5
      have hC : w.heap.size + 1 + 1 < wr.heap.size := block_lt T.e.c0
      replace T := T.kept (balloc (Below.refl _ _) (.cells #[.int .i64 s0, .int .i64 s1, .int .i64 g0, .int .i64 g1, .int .i64 l0, .int .i64 l1] 34))
      have G := Rnd.new wr _ rfl s0 s1 g0 g1 l0 l1
      replace B := balloc B (.cells #[.int .i64 s0, .int .i64 s1, .int .i64 g0, .int .i64 g1, .int .i64 l0, .int .i64 l1] 34)
      generalize hCe : wr.heap.size = C at G hC
      have ev0 : ¬ C = w.heap.size := by omega
      have ev1 : ¬ C = w.heap.size + 1 := by omega
      have ev2 : ¬ C = w.heap.size + 1 + 1 := by omega
      have ev3 : ¬ w.heap.size = C := by omega
      have ev4 : ¬ w.heap.size + 1 = C := by omega
      have ev5 : ¬ w.heap.size + 1 + 1 = C := by omega
      go_wp2
      clear x0 x1 x2 x3 x4 x5 hCe
      go_loopw [14] (fun i wr' => (i = .int .i64 0 ∧ Tri wr' w.heap.size A0 A1 D0 D1 E0 E1 ∨ i = .int .i64 1 ∧ Tri wr' w.heap.size (A0 + g0) A1 (D0 + l0) D1 (E0 + s0) E1 ∨ i = .int .i64 2 ∧ Tri wr' w.heap.size (A0 + g0) (A1 + g1) (D0 + l0) (D1 + l1) (E0 + s0) (E1 + s1)) ∧ Rnd wr' C s0 s1 g0 g1 l0 l1 ∧ Below w.heap.size w wr') (fun i _ => 2 - (intOf i).toNat)
      case atStart => exact ⟨.inl ⟨rfl, T⟩, G, B⟩
      case round =>
        clear T G B
        obtain ⟨⟨rfl, T⟩ | ⟨rfl, T⟩ | ⟨rfl, T⟩, G, B⟩ := hrel
        · obtain ⟨⟨a0, a1, a2, a3⟩, ⟨d0, d1, d2, d3⟩, ⟨e0, e1, e2, e3⟩⟩ := id T
          obtain ⟨x0, x1, x2, x3, x4, x5, _, _, _, _, _, _⟩ := id G
          go_wp2
          go_region
          go_wp2
          go_region
          go_wp2
          go_region
          go_wp2
          go_roundw
          case rel => exact ⟨.inr (.inl ⟨rfl, T.put0 _ _ _⟩), (((((G.far (D := w.heap.size) (o := 0) ev3 (.int .i64 (A0 + g0))).drew).far (D := w.heap.size + 1) (o := 0) ev4 (.int .i64 (D0 + l0))).drew).far (D := w.heap.size + 1 + 1) (o := 0) ev5 (.int .i64 (E0 + s0))).drew, (((((B.setCell (p := ⟨w.heap.size, 0, none⟩) (Nat.le_refl _) _).drew).setCell (p := ⟨w.heap.size + 1, 0, none⟩) (by show w.heap.size ≤ w.heap.size + 1; omega) _).drew).setCell (p := ⟨w.heap.size + 1 + 1, 0, none⟩) (by show w.heap.size ≤ w.heap.size + 1 + 1; omega) _).drew⟩
          case measure => simp [intOf]
        · obtain ⟨⟨a0, a1, a2, a3⟩, ⟨d0, d1, d2, d3⟩, ⟨e0, e1, e2, e3⟩⟩ := id T
          obtain ⟨x0, x1, x2, x3, x4, x5, _, _, _, _, _, _⟩ := id G
          go_wp2
          go_region
          go_wp2
          go_region
          go_wp2
          go_region
          go_wp2
          go_roundw
          case rel => exact ⟨.inr (.inr ⟨rfl, T.put1 _ _ _⟩), (((((G.far (D := w.heap.size) (o := 1) ev3 (.int .i64 (A1 + g1))).drew).far (D := w.heap.size + 1) (o := 1) ev4 (.int .i64 (D1 + l1))).drew).far (D := w.heap.size + 1 + 1) (o := 1) ev5 (.int .i64 (E1 + s1))).drew, (((((B.setCell (p := ⟨w.heap.size, 1, none⟩) (Nat.le_refl _) _).drew).setCell (p := ⟨w.heap.size + 1, 1, none⟩) (by show w.heap.size ≤ w.heap.size + 1; omega) _).drew).setCell (p := ⟨w.heap.size + 1 + 1, 1, none⟩) (by show w.heap.size ≤ w.heap.size + 1 + 1; omega) _).drew⟩
          case measure => simp [intOf]
        · have hf := fin.out _ T
          clear fin T G
          go_wp2
          go_roundw
          case rel => exact ⟨k + 1, by omega, by go_num, hf, B⟩
          case measure => simp [intOf]; omega
    · obtain rfl : k = n := by omega
      have hfull : R.take k = R := List.take_of_length_le (by have := hl.out; omega)
      rw [hfull] at T
      clear hfull st bd hmem hin hr
      obtain ⟨A0, hA0⟩ : ∃ A, total (·.c0) R = A := ⟨_, rfl⟩
      rw [hA0] at T
      replace hA0 : Hid _ := hA0
      obtain ⟨A1, hA1⟩ : ∃ A, total (·.c1) R = A := ⟨_, rfl⟩
      rw [hA1] at T
      replace hA1 : Hid _ := hA1
      obtain ⟨D0, hD0⟩ : ∃ A, total (·.l0) R = A := ⟨_, rfl⟩
      rw [hD0] at T
      replace hD0 : Hid _ := hD0
      obtain ⟨D1, hD1⟩ : ∃ A, total (·.l1) R = A := ⟨_, rfl⟩
      rw [hD1] at T
      replace hD1 : Hid _ := hD1
      obtain ⟨E0, hE0⟩ : ∃ A, total (·.s0) R = A := ⟨_, rfl⟩
      rw [hE0] at T
      replace hE0 : Hid _ := hE0
      obtain ⟨E1, hE1⟩ : ∃ A, total (·.s1) R = A := ⟨_, rfl⟩
      rw [hE1] at T
      replace hE1 : Hid _ := hE1
      obtain ⟨⟨a0, a1, a2, a3⟩, ⟨d0, d1, d2, d3⟩, ⟨e0, e1, e2, e3⟩⟩ := id T
      go_wp2
      go_region
      go_wp2
      refine bodyPost_ret (v := .tuple #[.agg #[.int .i64 A0, .int .i64 A1], .agg #[.int .i64 D0, .int .i64 D1], .agg #[.int .i64 E0, .int .i64 E1]]) ?_ rfl ⟨by rw [hA0.out, hA1.out, hD0.out, hD1.out, hE0.out, hE1.out], ?_⟩
      · simp [results, Try.results21, go_sem, a0, a1, d0, d1, e0, e1]
      · refine Below.drew ?_
        repeat (with_reducible refine Below.setCell ?_ (by first | (simp; done) | (simp; omega)) _)
        exact B

end Go.Proofs.Ytobgjnjndkfjoaa.D
