/- PROVED: what the document's own NShare answers. CONDITIONS: none beyond each theorem's own. -/
import Derived.Test.YtggnhgbimkfdaaaRefEven
import Derived.Test.YtggnhgbimkfdaaaRefShr
namespace Go.Proofs.Ytggnhgbimkfdaaa
open Go.RowKit

theorem tdiv_two {a h q : Int} (ha : 0 ≤ a) (hh : 0 < h) (hq : a.tdiv h = q) : 0 ≤ q ∧ q ≤ a ∧ q * h ≤ a ∧ (q = 0 → a < h) := by
  rw [Int.tdiv_eq_ediv_of_nonneg ha] at hq
  subst hq
  refine ⟨Int.ediv_nonneg ha (by omega), Int.ediv_le_self _ ha, Int.ediv_mul_le _ (by omega), fun e => ?_⟩
  have := Int.lt_ediv_add_one_mul_self a hh
  rw [e] at this
  omega

/-- whole rounds so far, or all is given out -/
def Way (z : List Int) (A : Int) (S : Nat → Int) (O n : Nat) (A' : Int) (wr : World) : Prop :=
  (∃ r : Int, 0 ≤ r ∧ gv (wt z) r n ≤ A ∧ A' = A - gv (wt z) r n ∧ Cells wr O n (fun j => min (z.getD j 0) r)) ∨ (A' = 0 ∧ Cells wr O n S)

set_option maxRecDepth 20000 in
set_option maxHeartbeats 12800000 in
theorem nshare_yes (all : Int) (a : Option Addr) (cap : Nat) (z : List Int) (S : Nat → Int) (w : World) (hz : Row w a z) (hr : sright z) (hS : Shares (wt z) z.length (fit all) S) :
    Calls Try.prog 13 #[.int .i64 all, .slice a z.length cap] w (Ans w (outs S z.length)) := by
  have o1 := nright_any a cap z w hz (by have := hr.1; omega)
  rw [decide_eq_true hr] at o1
  have f0 := fit_lo all
  have f1 := fit_hi all
  have hl := hr.1
  have hin : Hid (∀ k, k < z.length → 0 ≤ z.getD k 0 ∧ z.getD k 0 ≤ 1048576) := hr.2
  have fa := rfit_any all
  generalize fit all = A at *
  obtain ⟨n, hn'⟩ : ∃ n, z.length = n := ⟨_, rfl⟩
  rw [hn'] at o1 hl hin hS ⊢
  have hzl : Hid (z.length = n) := hn'
  clear hn' hr
  have hf : Hid (∀ j, j < n → 0 ≤ wt z j) := fun j hj => (hin.out j hj).1
  have hW : Hid (∀ r : Int, 0 ≤ r → gv (wt z) r n ≤ A → (A - gv (wt z) r n = 0 ∨ hn (wt z) r n = 0) → ∀ j, j < n → S j = min (z.getD j 0) r) := fun r h0 h1 h2 j hj => whole_is hS hf.out h0 h1 h2 j hj
  have hP : Hid (∀ r : Int, 0 ≤ r → gv (wt z) r n ≤ A → A - gv (wt z) r n ≤ hn (wt z) r n → ∀ j, j < n → S j = sh (wt z) r (A - gv (wt z) r n) j) := fun r h0 h1 h2 j hj => part_is hS hf.out h0 h1 h2 j hj
  have hmk := run_make_row' (P := Try.prog) 22 3 (.int .i64 0) 8 Try.underlying22 Try.info3 rfl .i64 .i64 n (by omega) (by omega)
  have hst : Cells (w.alloc (.cells (madeCells #[.int .i64 0] n) 3)) w.heap.size n (fun j => min (z.getD j 0) 0) := Cells.start w n _ fun j hj => by have := (hin.out j hj).1; show min _ _ = _; omega
  have hB0 : Below w.heap.size w (w.alloc (.cells (madeCells #[.int .i64 0] n) 3)) := balloc (Below.refl _ _) _
  have hg0 : gv (wt z) 0 n = 0 := gv_zero _ _ hf.out
  have hway : Way z A S w.heap.size n A (w.alloc (.cells (madeCells #[.int .i64 0] n) 3)) := .inl ⟨0, Int.le_refl _, by omega, by omega, hst⟩
  clear hst hg0
  go_enter Try.func13, Try.ntmps13
  go_wp2_with (first
    | (go_at_call 10; refine o1.mono ?_; rintro e w1 ⟨rfl, rfl⟩; clear o1)
    | (go_at_call 27; refine (fa _).mono ?_; rintro e w2 ⟨rfl, rfl⟩; clear fa))
  clear hmk
  go_loopw [0] (fun x wr => ∃ A' : Int, x = .int .i64 A' ∧ 0 ≤ A' ∧ A' ≤ 1152921504606846976 ∧ Below w1.heap.size w1 wr ∧ Way z A S w1.heap.size n A' wr) (fun x _ => (intOf x).toNat)
  case atStart => exact ⟨A, rfl, f0, f1, hB0, hway⟩
  case round =>
    obtain ⟨A', rfl, a0, a1, hB, hw'⟩ := hrel
    clear hB0 hway
    by_cases c : 0 < A'
    · obtain ⟨r, r0, rg, rA, hC⟩ : ∃ r : Int, 0 ≤ r ∧ gv (wt z) r n ≤ A ∧ A' = A - gv (wt z) r n ∧ Cells wr w1.heap.size n (fun j => min (z.getD j 0) r) := by
        rcases hw' with h | ⟨h, _⟩
        · exact h
        · omega
      replace rA : Hid _ := rA
      replace rg : Hid _ := rg
      clear hw'
      have hzr := hz.kept hB
      have hnb : Hid (∀ k, 0 ≤ hn (wt z) r k ∧ hn (wt z) r k ≤ k) := fun k => ⟨hn_lo _ _ _, hn_hi _ _ _⟩
      have hns : Hid (∀ k, hn (wt z) r (k + 1) = hn (wt z) r k + if r < z.getD k 0 then 1 else 0) := fun k => rfl
      have lsb : Hid (∀ k, 1 ≤ lst (wt z) r k ∧ lst (wt z) r k ≤ 1073741824) := lst_in (wt z) r
      have lss : Hid (∀ k, lst (wt z) r (k + 1) = if r < z.getD k 0 then min (lst (wt z) r k) (z.getD k 0 - r) else lst (wt z) r k) := fun k => rfl
      go_wp2
      go_loopw [6, 7, 25] (fun h l i wr' => ∃ k : Nat, k ≤ n ∧ i = .int .i64 k ∧ h = .int .i64 (hn (wt z) r k) ∧ l = .int .i64 (lst (wt z) r k) ∧ wr = wr') (fun _ _ i _ => n - (intOf i).toNat)
      case atStart => exact ⟨0, Nat.zero_le _, rfl, rfl, rfl, rfl⟩
      case round =>
        obtain ⟨k, hk, rfl, rfl, rfl, rfl⟩ := hrel
        by_cases hlt : k < n
        · have q1 := hzl.out
          obtain ⟨b, o, rfl, k1⟩ := hzr.at (by omega)
          have cx := k1 k (by omega)
          have cc := hC.c k hlt
          obtain ⟨x0, x1⟩ := hin.out k hlt
          obtain ⟨h0, h1⟩ := hnb.out k
          obtain ⟨l0, l1⟩ := lsb.out k
          have g1 := hns.out k
          have g2 := lss.out k
          have hltI : (k : Int) < n := by omega
          generalize z.getD k 0 = x at cx cc x0 x1 g1 g2
          generalize hn (wt z) r k = H at *
          generalize lst (wt z) r k = L at *
          clear k1 q1 hin hnb hns lsb lss hW hP hf hS hC hzr hz
          by_cases e : r < x
          · rw [if_pos e] at g1 g2
            rw [show min x r = r by omega] at cc
            replace g1 : Hid _ := g1
            replace g2 : Hid _ := g2
            go_wp2
            go_roundw
            case rel => exact ⟨k + 1, by omega, by go_num, by rw [g1.out], by rw [g2.out], by first | rfl | trivial⟩
            case measure => simp [intOf]; omega
          · rw [if_neg e] at g1 g2
            rw [show min x r = x by omega] at cc
            rw [Int.add_zero] at g1
            replace g1 : Hid _ := g1
            replace g2 : Hid _ := g2
            clear e
            go_wp2
            go_roundw
            case rel => exact ⟨k + 1, by omega, by go_num, by rw [g1.out], by rw [g2.out], by first | rfl | trivial⟩
            case measure => simp [intOf]; omega
        · obtain rfl : n = k := by omega
          obtain ⟨h0, h1⟩ := hnb.out n
          obtain ⟨l0, l1⟩ := lsb.out n
          have hll : Hid (∀ j, j < n → r < z.getD j 0 → lst (wt z) r n ≤ z.getD j 0 - r) := fun j hj h => lst_le (wt z) r n j hj h
          have hmo : Hid (∀ d : Int, 0 ≤ d → d ≤ lst (wt z) r n → gv (wt z) (r + d) n = gv (wt z) r n + d * hn (wt z) r n) := fun d h0 h1 => gv_more (wt z) r d n (fun j hj h => Int.le_trans h1 (lst_le (wt z) r n j hj h)) h0
          have hnm : Hid (∀ k, k ≤ n → hn (wt z) r k ≤ hn (wt z) r n) := fun k hk => hn_up _ _ _ _ hk
          have hE0 : Hid (hn (wt z) r n = 0 → Row wr (some ⟨w1.heap.size, 0, none⟩) (outs S n)) := fun h => (hC.ext (hW.out r r0 rg.out (.inr h))).row
          have hPr : Hid (A' ≤ hn (wt z) r n → ∀ j, j < n → S j = sh (wt z) r A' j) := fun h j hj => by
            have e := rA.out
            rw [e] at h ⊢
            exact hP.out r r0 rg.out h j hj
          obtain ⟨H, hH⟩ : ∃ H, hn (wt z) r n = H := ⟨_, rfl⟩
          obtain ⟨L, hL⟩ : ∃ L, lst (wt z) r n = L := ⟨_, rfl⟩
          rw [hH] at h0 h1 hmo hE0 hPr hnm ⊢
          rw [hL] at l0 l1 hll hmo ⊢
          replace hH : Hid _ := hH
          clear hL lsb lss hW hP hf hS
          by_cases e : H = 0
          · have hE := hE0.out e
            have d : (H == 0) = true := beq_iff_eq.2 e
            clear e hE0 hPr
            go_wp2
            go_ret
            exact ⟨some ⟨w1.heap.size, 0, none⟩, n, by rw [outs_len]; rfl, by rw [outs_len]; exact Nat.le_refl _, hE, hB⟩
          · have d1 : (H == 0) = false := beq_eq_false_iff_ne.2 e
            have d2 : ¬ H = 0 := e
            obtain ⟨q, hq⟩ : ∃ q, A'.tdiv H = q := ⟨_, rfl⟩
            obtain ⟨q0, q1, q2, q3⟩ := tdiv_two a0 (by omega) hq
            obtain ⟨d, hd⟩ : ∃ d, min L q = d := ⟨_, rfl⟩
            clear hE0
            by_cases c2 : 0 < d
            · have hdH : Hid (d * H ≤ A') := Int.le_trans (Int.mul_le_mul_of_nonneg_right (show d ≤ q by omega) (by omega)) q2
              have hdk : Hid (∀ k, k ≤ n → 0 ≤ d * hn (wt z) r k ∧ d * hn (wt z) r k ≤ A') := fun k hk => ⟨Int.mul_nonneg (by omega) (hnb.out k).1, Int.le_trans (Int.mul_le_mul_of_nonneg_left (hnm.out k hk) (by omega)) hdH.out⟩
              have hds : Hid (∀ k, d * hn (wt z) r (k + 1) = d * hn (wt z) r k + if r < z.getD k 0 then d else 0) := fun k => by
                show _ = _
                rw [hns.out k, Int.mul_add]
                split
                · rw [Int.mul_one]
                · rw [Int.mul_zero]
              have hd0 : Hid (d * hn (wt z) r 0 = 0) := Int.mul_zero _
              have hend : Hid (A' - d * hn (wt z) r n = A - gv (wt z) (r + d) n ∧ gv (wt z) (r + d) n ≤ A ∧ 1 ≤ d * hn (wt z) r n) := by
                have x := hmo.out d (by omega) (by omega)
                have y := rA.out
                have z' := hdH.out
                have u : 1 ≤ d * H := by
                  have := Int.mul_le_mul (show (1 : Int) ≤ d by omega) (show (1 : Int) ≤ H by omega) (by omega) (by omega)
                  omega
                refine ⟨?_, ?_, ?_⟩
                · rw [hH.out]; omega
                · omega
                · rw [hH.out]; exact u
              have hdl : Hid (∀ j, j < n → r < z.getD j 0 → d ≤ z.getD j 0 - r) := fun j hj h => Int.le_trans (by omega) (hll.out j hj h)
              have hmx : max d 1 = d := by omega
              have hC0 : Cells wr w1.heap.size n (wv (wt z) r d 0) := hC.ext fun j _ => wv_zero _ _ _ _
              have dl : d ≤ 1073741824 := by omega
              generalize hmul : (fun k => d * hn (wt z) r k) = P at *
              replace hdk : Hid (∀ k, k ≤ n → 0 ≤ P k ∧ P k ≤ A') := by rw [← hmul]; exact hdk
              replace hds : Hid (∀ k, P (k + 1) = P k + if r < z.getD k 0 then d else 0) := by rw [← hmul]; exact hds
              replace hd0 : Hid (P 0 = 0) := by rw [← hmul]; exact hd0
              replace hend : Hid (A' - P n = A - gv (wt z) (r + d) n ∧ gv (wt z) (r + d) n ≤ A ∧ 1 ≤ P n) := by rw [← hmul]; exact hend
              clear hmul hdH hmo hll hC q2 q3 hH hnm hns hnb rA rg hPr hzr
              have gd : decide (0 < d) = true := decide_eq_true c2
              go_wp2
              go_loopw [0, 56] (fun x i wr' => ∃ k : Nat, k ≤ n ∧ i = .int .i64 k ∧ x = .int .i64 (A' - P k) ∧ Cells wr' w1.heap.size n (wv (wt z) r d k) ∧ Below w1.heap.size w1 wr') (fun _ i _ => n - (intOf i).toNat)
              case atStart => exact ⟨0, Nat.zero_le _, rfl, by rw [hd0.out, Int.sub_zero], hC0, hB⟩
              case round =>
                obtain ⟨k, hk, rfl, rfl, hC, hB'⟩ := hrel
                clear hC0
                by_cases hlt : k < n
                · have ql := hzl.out
                  obtain ⟨b, o, rfl, k1⟩ := (hz.kept hB').at (by omega)
                  have cx := k1 k (by omega)
                  have cc := hC.c k hlt
                  have cf := hC.fz k hlt
                  rw [wv_at] at cc
                  replace cc : wr.cell? ⟨w1.heap.size, k, none⟩ = some (.int .i64 (min (z.getD k 0) r)) := cc
                  obtain ⟨x0, x1⟩ := hin.out k hlt
                  obtain ⟨p0, p1⟩ := hdk.out k hk
                  obtain ⟨p2, p3⟩ := hdk.out (k + 1) (by omega)
                  have g1 := hds.out k
                  have hN : Hid (r < z.getD k 0 → Cells (wr.setCell ⟨w1.heap.size, k, none⟩ (.int .i64 (r + d))) w1.heap.size n (wv (wt z) r d (k + 1))) := fun h => hC.put hlt (by
                    rw [wv_new (wt z) r d k h (hdl.out k hlt h)]
                    show min (z.getD k 0) r + d = _
                    omega) (fun j _ hj => wv_old _ _ _ _ _ hj)
                  have hN2 : Hid (¬ r < z.getD k 0 → Cells wr w1.heap.size n (wv (wt z) r d (k + 1))) := fun h => hC.ext fun j _ => wv_same _ _ _ _ _ (by omega) h
                  have hrd : Hid (r < z.getD k 0 → r + d ≤ 1048576) := fun h => by
                    have := hdl.out k hlt h
                    show r + d ≤ _
                    omega
                  have hbs := hB'.setCell (p := ⟨w1.heap.size, k, none⟩) (Nat.le_refl _) (.int .i64 (r + d))
                  replace hbs : Hid _ := hbs
                  have hltI : (k : Int) < n := by omega
                  generalize z.getD k 0 = x at cx cc x0 x1 g1 hN hN2 hrd
                  generalize P k = Pk at *
                  generalize hPk : P (k + 1) = Pl at *
                  clear k1 ql hin hdk hds hd0 hend hdl hC hz
                  by_cases e2 : r < x
                  · rw [if_pos e2] at g1
                    rw [show min x r = r by omega] at cc
                    have hrd' := hrd.out e2
                    have hNN : Hid _ := hN.out e2
                    obtain ⟨rd, hrd2⟩ : ∃ rd, r + d = rd := ⟨_, rfl⟩
                    rw [hrd2] at hNN hbs hrd'
                    have hAP : Hid (A' - Pk - d = A' - P (k + 1)) := by show _ = _; rw [hPk]; omega
                    have v0 : 0 ≤ A' - Pk := by omega
                    have v1 : A' - Pk ≤ 1152921504606846976 := by omega
                    have v2 : 0 ≤ A' - Pk - d := by omega
                    clear hN hN2 hrd hPk g1
                    generalize A' - Pk = V at *
                    go_wp2
                    go_roundw
                    case rel => exact ⟨k + 1, by omega, by go_num, by rw [hAP.out], hNN.out, hbs.out⟩
                    case measure => simp [intOf]; omega
                  · rw [if_neg e2, Int.add_zero] at g1
                    rw [show min x r = x by omega] at cc
                    have hNN : Hid _ := hN2.out e2
                    have hAP : Hid (A' - Pk = A' - P (k + 1)) := by show _ = _; rw [hPk]; omega
                    clear hN hN2 hrd hPk g1 e2
                    generalize A' - Pk = V at *
                    go_wp2
                    go_roundw
                    case rel => exact ⟨k + 1, by omega, by go_num, by rw [hAP.out], hNN.out, hB'⟩
                    case measure => simp [intOf]; omega
                · obtain rfl : n = k := by omega
                  obtain ⟨n1, n2, n3⟩ := hend.out
                  obtain ⟨m1, m2⟩ := hdk.out n (Nat.le_refl _)
                  have hWW : Hid (Way z A S w1.heap.size n (A' - P n) wr) := .inl ⟨r + d, by omega, n2, n1, hC.ext fun j hj => (wv_all (wt z) r d n j hj).symm⟩
                  have v0 : 0 ≤ A' - P n := by omega
                  have v1 : A' - P n ≤ 1152921504606846976 := by omega
                  have v2 : A' - P n < A' := by omega
                  clear hend hdk hds hd0 hdl hin hC n1 n2 n3
                  generalize A' - P n = V at *
                  go_wp2
                  go_roundw
                  case rel => exact ⟨V, rfl, v0, v1, hB', hWW.out⟩
                  case measure => simp [intOf]; omega
            · obtain rfl : d = 0 := by omega
              have hqz : q = 0 := by omega
              have hAH : A' < H := q3 hqz
              have hPS : Hid (∀ j, j < n → S j = sh (wt z) r A' j) := hPr.out (by omega)
              have hC0 : Cells wr w1.heap.size n (pv (wt z) r A' 0) := hC.ext fun j _ => pv_zero _ _ _ _
              have hn0 : Hid (hn (wt z) r 0 = 0) := rfl
              clear hmo hll hC q2 q3 hnm rA rg hPr hzr c2 hqz
              go_wp2
              go_loopw [0, 56] (fun x i wr' => ∃ k : Nat, k ≤ n ∧ i = .int .i64 k ∧ x = .int .i64 (A' - min A' (hn (wt z) r k)) ∧ Cells wr' w1.heap.size n (pv (wt z) r A' k) ∧ Below w1.heap.size w1 wr') (fun _ i _ => n - (intOf i).toNat)
              case atStart => exact ⟨0, Nat.zero_le _, rfl, by rw [hn0.out]; congr 1; omega, hC0, hB⟩
              case round =>
                obtain ⟨k, hk, rfl, rfl, hC, hB'⟩ := hrel
                clear hC0
                by_cases hlt : k < n
                · have ql := hzl.out
                  obtain ⟨b, o, rfl, k1⟩ := (hz.kept hB').at (by omega)
                  have cx := k1 k (by omega)
                  have cc := hC.c k hlt
                  have cf := hC.fz k hlt
                  rw [pv_at] at cc
                  replace cc : wr.cell? ⟨w1.heap.size, k, none⟩ = some (.int .i64 (min (z.getD k 0) r)) := cc
                  obtain ⟨x0, x1⟩ := hin.out k hlt
                  obtain ⟨p0, p1⟩ := hnb.out k
                  have g1 := hns.out k
                  have hN : Hid (r < z.getD k 0 → hn (wt z) r k < A' → Cells (wr.setCell ⟨w1.heap.size, k, none⟩ (.int .i64 (r + 1))) w1.heap.size n (pv (wt z) r A' (k + 1))) := fun h h2 => hC.put hlt (by
                    rw [pv_new (wt z) r A' k h h2]
                    show min (z.getD k 0) r + 1 = _
                    omega) (fun j _ hj => pv_old _ _ _ _ _ hj)
                  have hN2 : Hid (¬ (r < z.getD k 0 ∧ hn (wt z) r k < A') → Cells wr w1.heap.size n (pv (wt z) r A' (k + 1))) := fun h => hC.ext fun j _ => pv_same _ _ _ _ _ h
                  have hbs := hB'.setCell (p := ⟨w1.heap.size, k, none⟩) (Nat.le_refl _) (.int .i64 (r + 1))
                  replace hbs : Hid _ := hbs
                  have hltI : (k : Int) < n := by omega
                  generalize z.getD k 0 = x at cx cc x0 x1 g1 hN hN2
                  generalize hHk : hn (wt z) r (k + 1) = Hl at g1
                  generalize hn (wt z) r k = Hk at *
                  obtain ⟨V, hV⟩ : ∃ V, A' - min A' Hk = V := ⟨_, rfl⟩
                  rw [hV]
                  have v0 : 0 ≤ V := by omega
                  have v1 : V ≤ 1152921504606846976 := by omega
                  clear k1 ql hin hnb hns hn0 hPS hC hz
                  by_cases e2 : r < x
                  · rw [if_pos e2] at g1
                    rw [show min x r = r by omega] at cc
                    by_cases e3 : Hk < A'
                    · have hNN : Hid _ := hN.out e2 e3
                      have hAP : Hid (V - 1 = A' - min A' (hn (wt z) r (k + 1))) := by show _ = _; rw [hHk]; omega
                      have v2 : 0 < V := by omega
                      obtain ⟨rd, hrd2⟩ : ∃ rd, r + 1 = rd := ⟨_, rfl⟩
                      rw [hrd2] at hNN hbs
                      have v3 : rd ≤ 1048576 := by omega
                      have hmx1 : max (0 : Int) 1 = 1 := by omega
                      clear hN hN2 hHk g1 hV
                      go_wp2
                      go_roundw
                      case rel => exact ⟨k + 1, by omega, by go_num, by rw [hAP.out], hNN.out, hbs.out⟩
                      case measure => simp [intOf]; omega
                    · have hNN : Hid _ := hN2.out fun h => e3 h.2
                      have hAP : Hid (V = A' - min A' (hn (wt z) r (k + 1))) := by show _ = _; rw [hHk]; omega
                      obtain rfl : 0 = V := by omega
                      clear hN hN2 hHk g1 hV
                      go_wp2
                      go_roundw
                      case rel => exact ⟨k + 1, by omega, by go_num, by rw [← hAP.out], hNN.out, hB'⟩
                      case measure => simp [intOf]; omega
                  · rw [if_neg e2, Int.add_zero] at g1
                    rw [show min x r = x by omega] at cc
                    have hNN : Hid _ := hN2.out fun h => e2 h.1
                    have hAP : Hid (V = A' - min A' (hn (wt z) r (k + 1))) := by show _ = _; rw [hHk]; omega
                    clear hN hN2 hHk g1 e2 hV
                    go_wp2
                    go_roundw
                    case rel => exact ⟨k + 1, by omega, by go_num, by rw [← hAP.out], hNN.out, hB'⟩
                    case measure => simp [intOf]; omega
                · obtain rfl : n = k := by omega
                  have hWW : Hid (Way z A S w1.heap.size n 0 wr) := .inr ⟨rfl, hC.ext fun j hj => by rw [pv_all _ _ _ _ _ hj]; exact hPS.out j hj⟩
                  have v0 : A' - min A' (hn (wt z) r n) = 0 := by rw [hH.out]; omega
                  rw [v0]
                  clear hPS hin hC hns hnb hn0 v0
                  go_wp2
                  go_roundw
                  case rel => exact ⟨0, rfl, Int.le_refl _, by omega, hB', hWW.out⟩
                  case measure => simp [intOf]; omega
    · obtain rfl : A' = 0 := by omega
      have hD : Cells wr w1.heap.size n S := by
        rcases hw' with ⟨r, r0, rg, rA, hC⟩ | ⟨_, h⟩
        · exact hC.ext (hW.out r r0 rg (.inl rA.symm))
        · exact h
      have hE := hD.row
      clear hw' hW hP hS
      go_wp2
      go_ret
      exact ⟨some ⟨w1.heap.size, 0, none⟩, n, by rw [outs_len]; rfl, by rw [outs_len]; exact Nat.le_refl _, hE, hB⟩

end Go.Proofs.Ytggnhgbimkfdaaa
