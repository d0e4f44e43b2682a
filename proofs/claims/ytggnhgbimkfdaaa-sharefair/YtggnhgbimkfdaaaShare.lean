/- PROVED: what share.Share answers. CONDITIONS: none beyond each theorem's own. -/
import Derived.Test.YtggnhgbimkfdaaaGive
namespace Go.Proofs.Ytggnhgbimkfdaaa
open Go.RowKit

theorem Cells.kept {w w1 : World} {O n : Nat} {V : Nat → Int} (h : Cells w O n V) {p : Addr} (v : Value) (hp : p.block ≠ O) (e : w1 = w.setCell p v) : Cells w1 O n V := by
  subst e
  refine ⟨fun j hj => ?_, fun j hj => ?_⟩
  · rw [World.cell?_setCell_other _ _ _ _ (fun q => hp (by rw [q]))]; exact h.c j hj
  · rw [World.frozen?_setCell]; exact h.fz j hj
/-- one number written twice -/
theorem Cells.put2 {w : World} {O n : Nat} {V V' : Nat → Int} (h : Cells w O n V) {k : Nat} (hk : k < n) {u v : Int} (hv : V' k = v) (hj : ∀ j, j < n → j ≠ k → V' j = V j) : Cells ((w.setCell ⟨O, k, none⟩ (.int .i64 u)).setCell ⟨O, k, none⟩ (.int .i64 v)) O n V' :=
  (h.put (V' := fun j => if j = k then u else V j) hk (if_pos rfl) (fun j _ hne => if_neg hne)).put hk hv (fun j hjn hne => by rw [hj j hjn hne]; exact (if_neg hne).symm)

set_option maxHeartbeats 3200000 in
theorem share_yes (all : Int) (a : Option Addr) (cap : Nat) (z : List Int) (R : Nat) (w : World) (hz : Row w a z) (hr : sright z) (hR : Rounds z (fit all) R) :
    Calls Try.prog 12 #[.int .i64 all, .slice a z.length cap] w (Ans w (outs (got z (fit all) R) z.length)) := by
  have o1 := right_any a cap z w hz (by have := hr.1; omega)
  rw [decide_eq_true hr] at o1
  have o2 := fun w0 (h : Row w0 a z) => rounds_any (fit all) a cap z w0 h hr R hR
  have o3 := fun w0 (h : Row w0 a z) => given_any (R : Int) a cap z w0 h hr (by omega) (by have := hR.le; omega)
  have hg := gv_in hr (r := (R : Int)) (by omega) z.length (Nat.le_refl _)
  have hok := hR.ok
  have hRle := hR.le
  have f0 := fit_lo all
  have f1 := fit_hi all
  have hl := hr.1
  have hin : Hid (∀ k, k < z.length → 0 ≤ z.getD k 0 ∧ z.getD k 0 ≤ 1048576) := hr.2
  obtain ⟨L, hL⟩ : ∃ L, fit all - gv (wt z) R z.length = L := ⟨_, rfl⟩
  have hS : Hid (∀ k, got z (fit all) R k = min (z.getD k 0) R + if (R : Int) < z.getD k 0 ∧ hn (wt z) R k < L then 1 else 0) := fun k => by
    show got z (fit all) R k = _
    unfold got sh
    rw [show (fit all - gv (fun j => z.getD j 0) R z.length) = L from hL]
  have hH : Hid (∀ k, 0 ≤ hn (wt z) R k ∧ hn (wt z) R (k + 1) = hn (wt z) R k + if (R : Int) < z.getD k 0 then 1 else 0) := fun k => ⟨hn_lo _ _ _, rfl⟩
  have fa := fit_any all
  have hHz : Hid (hn (wt z) R 0 = 0) := rfl
  generalize fit all = F at *
  generalize got z F R = S at *
  generalize gv (wt z) R z.length = g at *
  obtain ⟨n, hn'⟩ : ∃ n, z.length = n := ⟨_, rfl⟩
  rw [hn'] at o1 o2 o3 hl hin ⊢
  generalize hn (wt z) R = H at *
  have hzl : Hid (z.length = n) := hn'
  clear hn' hR hr
  obtain ⟨hg0, hg1⟩ := hg
  have hL0 : 0 ≤ L := by omega
  have hL1 : L ≤ 1152921504606846976 := by omega
  have hmk := run_make_row' (P := Try.prog) 22 3 (.int .i64 0) 8 Try.underlying22 Try.info3 rfl .i64 .i64 n (by omega) (by omega)
  go_enter Try.func12, Try.ntmps12
  go_wp2_with (first
    | (go_at_call 9; refine o1.mono ?_; rintro e w1 ⟨rfl, rfl⟩; clear o1)
    | (go_at_call 16; refine (fa _).mono ?_; rintro e w2 ⟨rfl, rfl⟩; clear fa)
    | (go_at_call 25; refine (o2 _ hz).mono ?_; rintro e w3 ⟨rfl, b3⟩; have hz3 := hz.kept b3; clear o2)
    | (go_at_call 26; refine (o3 _ hz3).mono ?_; rintro e w4 ⟨rfl, rfl⟩; clear o3))
  have hst : Cells (w4.alloc (.cells (madeCells #[.int .i64 0] n) 3)) w4.heap.size n (fill S 0) := Cells.start w4 n _ fun j _ => rfl
  have hB0 : Below w2.heap.size w2 (w4.alloc (.cells (madeCells #[.int .i64 0] n) 3)) := balloc b3 _
  have hsz := b3.size
  have hH0 : Hid (H 0 = 0) := hHz
  clear hmk
  go_loopw [5, 28] (fun l i wr => ∃ k : Nat, k ≤ n ∧ i = .int .i64 k ∧ l = .int .i64 (L - min L (H k)) ∧ Cells wr w4.heap.size n (fill S k) ∧ Below w2.heap.size w2 wr) (fun _ i _ => n - (intOf i).toNat)
  case atStart => exact ⟨0, Nat.zero_le _, rfl, by rw [hH0.out]; congr 1; omega, hst, hB0⟩
  case round =>
    obtain ⟨k, hk, rfl, rfl, hC, hB⟩ := hrel
    clear hst hB0 hz3
    by_cases hlt : k < n
    · have q1 := hzl.out
      obtain ⟨b, o, rfl, k1⟩ := (hz.kept hB).at (by omega)
      have cx := k1 k (by omega)
      have cc := hC.c k hlt
      have cf := hC.fz k hlt
      obtain ⟨x0, x1⟩ := hin.out k hlt
      have hs := hS.out k
      obtain ⟨h0, h1⟩ := hH.out k
      have hN := fun (v : Int) (e : S k = v) => hC.put (V' := fill S (k + 1)) hlt ((fill_new S k).trans e) (fun j _ hj => fill_old S k j hj)
      have hN2 := fun (u v : Int) (e : S k = v) => hC.put2 (u := u) (V' := fill S (k + 1)) hlt ((fill_new S k).trans e) (fun j _ hj => fill_old S k j hj)
      have hbs := fun (v : Value) => hB.setCell (p := ⟨w4.heap.size, k, none⟩) hsz v
      have hbs2 := fun (u v : Value) => (hB.setCell (p := ⟨w4.heap.size, k, none⟩) hsz u).setCell (p := ⟨w4.heap.size, k, none⟩) hsz v
      have hltI : (k : Int) < n := by omega
      generalize z.getD k 0 = x at cx x0 x1 hs h1
      replace hs : Hid _ := hs
      replace h1 : Hid _ := h1
      replace hN : Hid _ := hN
      replace hN2 : Hid _ := hN2
      replace hbs : Hid _ := hbs
      replace hbs2 : Hid _ := hbs2
      obtain ⟨l, hl'⟩ : ∃ l, L - min L (H k) = l := ⟨_, rfl⟩
      rw [hl']
      have l0 : 0 ≤ l := by omega
      have l1 : l ≤ 1152921504606846976 := by omega
      replace hl' : Hid _ := hl'
      clear k1 q1 hC hin hS hH hL hok
      by_cases c : (R : Int) < x
      · by_cases d : 0 < l
        · have es : Hid (S k = min x R + 1) := by
            have := hl'.out
            show S k = _
            rw [hs.out, if_pos ⟨c, by omega⟩]
          have el : Hid (l - 1 = L - min L (H (k + 1))) := by
            have := hl'.out
            show l - 1 = _
            rw [h1.out, if_pos c]; omega
          clear hs h1 hN hbs
          go_wp2
          go_roundw
          case rel => exact ⟨k + 1, by omega, by go_num, by rw [el.out], hN2.out _ _ es.out, hbs2.out _ _⟩
          case measure => simp [intOf]; omega
        · have es : Hid (S k = min x R) := by
            have := hl'.out
            show S k = _
            rw [hs.out, if_neg (by omega)]; omega
          have el : Hid (l = L - min L (H (k + 1))) := by
            have := hl'.out
            show l = _
            rw [h1.out, if_pos c]; omega
          clear hs h1 hN2 hbs2
          go_wp2
          go_roundw
          case rel => exact ⟨k + 1, by omega, by go_num, by rw [el.out], hN.out _ es.out, hbs.out _⟩
          case measure => simp [intOf]; omega
      · have es : Hid (S k = min x R) := by
          show S k = _
          rw [hs.out, if_neg (fun q => c q.1)]; omega
        have el : Hid (l = L - min L (H (k + 1))) := by
          have := hl'.out
          show l = _
          rw [h1.out, if_neg c]; omega
        clear hs h1 hN2 hbs2
        go_wp2
        go_roundw
        case rel => exact ⟨k + 1, by omega, by go_num, by rw [el.out], hN.out _ es.out, hbs.out _⟩
        case measure => simp [intOf]; omega
    · obtain e : k = n := by omega
      subst e
      have hD := (hC.ext fun j hj => (fill_all S k j hj).symm).row
      go_wp2
      go_ret
      exact ⟨some ⟨w4.heap.size, 0, none⟩, k, by rw [outs_len]; rfl, by rw [outs_len]; exact Nat.le_refl _, hD, hB⟩

theorem share_no (all : Int) (a : Option Addr) (cap : Nat) (z : List Int) (w : World) (hz : Row w a z) (hr : ¬ sright z) (hl : z.length ≤ 35184372088832) :
    Calls Try.prog 12 #[.int .i64 all, .slice a z.length cap] w (Ans w []) := by
  have o1 := right_any a cap z w hz hl
  rw [decide_eq_false hr] at o1
  generalize z.length = n at *
  go_enter Try.func12, Try.ntmps12
  go_wp2_with (go_at_call 9; refine o1.mono ?_; rintro e w1 ⟨rfl, rfl⟩; clear o1)
  go_ret
  exact ⟨none, 0, rfl, Nat.le_refl _, .inl rfl, Below.refl _ _⟩

end Go.Proofs.Ytggnhgbimkfdaaa
