/- PROVED: the walk of the law TopShaped. CONDITIONS: none beyond each theorem's own. -/
import Derived.Test.YtjageagnclmnjabGreatDoorV46Alt
import Derived.Test.YtjageagnclmnjabGreatDoorV48BQDelay
import Derived.Test.YtjageagnclmnjabGreatDoorV49BTop
namespace Go.Proofs.YtjageagnclmnjabGreatDoor.B
set_option maxRecDepth 100000
open Go.RowKit
set_option linter.unusedVariables false

theorem pass_l (R B : Int) (a : Option Addr) (c n r : Nat) (f S : List Int) (hS : let' R B f = S) (hr : S.length = r) (w : World) (k : Row w a f) (e1 : f.length = n) :
    Calls Tryz.prog 8 #[.agg #[.int .i64 R, .int .i64 B], .slice a n c] w (AnsN w r S) := by
  subst e1; subst hS; subst hr
  exact (pass_any R B a c f w k).mono fun e w' q => q.told rfl rfl
theorem bright_l (R B : Int) (a : Option Addr) (c n : Nat) (f : List Int) (w : World) (k : Row w a f) (e1 : f.length = n) (b : Bool) (hb : decide (bright R B f) = b) :
    Calls Tryz.prog 9 #[.agg #[.int .i64 R, .int .i64 B], .slice a n c] w fun e w' => e = .returned (.bool b) ∧ Below w.heap.size w w' := by
  subst e1; subst hb; exact bright_any R B a c f w k
theorem qright_l (R B : Int) (a : Option Addr) (c n : Nat) (f : List Int) (w : World) (k : Row w a f) (e1 : f.length = n) (b : Bool) (hb : decide (bright R B f) = b) :
    Calls Tryz.prog 10 #[.int .i64 R, .int .i64 B, .slice a n c] w fun e w' => e = .returned (.bool b) ∧ Below w.heap.size w w' := by
  subst e1; subst hb; exact qright_any R B a c f w k
theorem play_l (R M : Int) (a : Option Addr) (c n : Nat) (z X Y Z : List Int) (w : World) (hz : Row w a z) (en : z.length = n) (h : bright R M z) (hX : outs (qg R M fun j => z.getD j 0) n = X) (hY : outs (ql R M fun j => z.getD j 0) n = Y) (hZ : outs (qw R M fun j => z.getD j 0) n = Z) :
    Calls Tryz.prog 11 #[.int .i64 R, .int .i64 M, .slice a n c] w (Ans3 w n X Y Z) := by
  subst en; subst hX; subst hY; subst hZ
  exact play_any R M a c z w hz h
set_option maxHeartbeats 6400000 in
theorem shaped_bad (R B0 Q M : Int) (a : Option Addr) (c n r : Nat) (z S : List Int) (w : World) (L : D.Lw w) (hz : Row w a z) (en : Hid (z.length = n)) (hS : Hid (let' R B0 z = S)) (hr : Hid (S.length = r)) (b1 b2 : Bool) (hb1 : Hid (decide (bright R B0 z) = b1)) (hb2 : Hid (decide (bright Q M z) = b2))
    (hbad : b1 = false ∨ b1 = true ∧ b2 = false ∨ b1 = true ∧ b2 = true ∧ decide (Q < R) = true ∨ b1 = true ∧ b2 = true ∧ decide (Q < R) = false ∧ decide (M < B0) = true) :
    Calls Tryz.prog 3 #[.agg #[.int .i64 R, .int .i64 B0], .int .i64 Q, .int .i64 M, .slice a n c] w fun e w' => e = .returned (.bool true) ∧ Below w.heap.size w w' := by
  have B : Below w.heap.size w (w.alloc (.cells #[.int .i64 R, .int .i64 B0] 23)) := balloc (Below.refl _ _) _
  have L0 := L.kept B
  have h0 := hz.kept B
  have x0 : (w.alloc (.cells #[.int .i64 R, .int .i64 B0] 23)).cell? ⟨w.heap.size, 0, none⟩ = some (.int .i64 R) := by rw [World.cell?_alloc_at _ _ _ _ rfl]; rfl
  have x1 : (w.alloc (.cells #[.int .i64 R, .int .i64 B0] 23)).cell? ⟨w.heap.size, 1, none⟩ = some (.int .i64 B0) := by rw [World.cell?_alloc_at _ _ _ _ rfl]; rfl
  clear L hz
  rcases hbad with rfl | ⟨rfl, rfl⟩ | ⟨rfl, rfl, t1⟩ | ⟨rfl, rfl, t1, t2⟩
  all_goals
    go_enter Tryz.func3, Tryz.ntmps3
    go_wp2_with (first
      | (go_at_call 7; refine (D.alive_top _ L0).mono ?_; clear L0; rintro e v0 ⟨rfl, b9⟩; replace h0 := h0.kept b9; replace x0 := (b9.cell (p := ⟨w.heap.size, 0, none⟩) (block_lt x0)).trans x0; replace x1 := (b9.cell (p := ⟨w.heap.size, 1, none⟩) (block_lt x1)).trans x1; replace B := bthen B b9; clear b9)
      | (go_at_call 8; refine (pass_l R B0 a _ n r z S hS.out hr.out _ h0 en.out).mono ?_; rintro e v1 ⟨ao, cp, rfl, _, h1, b9⟩; replace h0 := h0.kept b9; replace x0 := (b9.cell (p := ⟨w.heap.size, 0, none⟩) (block_lt x0)).trans x0; replace x1 := (b9.cell (p := ⟨w.heap.size, 1, none⟩) (block_lt x1)).trans x1; replace B := bthen B b9; clear b9)
      | (go_at_call 9; refine (bright_l R B0 a _ n z _ h0 en.out _ hb1.out).mono ?_; rintro e v2 ⟨rfl, b9⟩; replace h0 := h0.kept b9; replace x0 := (b9.cell (p := ⟨w.heap.size, 0, none⟩) (block_lt x0)).trans x0; replace x1 := (b9.cell (p := ⟨w.heap.size, 1, none⟩) (block_lt x1)).trans x1; replace B := bthen B b9; clear b9)
      | (go_at_call 10; refine (qright_l Q M a _ n z _ h0 en.out _ hb2.out).mono ?_; rintro e v3 ⟨rfl, b9⟩; replace h0 := h0.kept b9; replace x0 := (b9.cell (p := ⟨w.heap.size, 0, none⟩) (block_lt x0)).trans x0; replace x1 := (b9.cell (p := ⟨w.heap.size, 1, none⟩) (block_lt x1)).trans x1; replace B := bthen B b9; clear b9))
    go_ret
    exact ⟨rfl, B⟩
set_option maxHeartbeats 12800000 in
theorem shaped_ok (R B0 Q M : Int) (a : Option Addr) (c n : Nat) (z S X Y Z E : List Int) (w : World) (L : D.Lw w) (hz : Row w a z) (en : Hid (z.length = n)) (hn : n < 300) (hS : Hid (let' R B0 z = S)) (hr : Hid (S.length = n)) (hb1 : Hid (decide (bright R B0 z) = true)) (hb2 : Hid (decide (bright Q M z) = true))
    (t1 : decide (Q < R) = false) (t2 : decide (M < B0) = false) (hb3 : Hid (bright Q M S)) (hb4 : Hid (bright Q 1099511627776 S)) (hX : Hid (outs (qg Q M fun j => S.getD j 0) n = X)) (hY : Hid (outs (ql Q M fun j => S.getD j 0) n = Y)) (hZ : Hid (outs (qw Q M fun j => S.getD j 0) n = Z)) (hE : Hid (dels Q S = E))
    (lY : Hid (Y.length = n)) (lZ : Hid (Z.length = n)) (lE : Hid (E.length = n)) (aY : Hid (∀ k, k < n → Y.getD k 0 = 0)) (aZ : Hid (∀ k, k < n → Z.getD k 0 ≤ max (B0 - Q) 0)) (aE : Hid (∀ k, k < n → 0 < Q → E.getD k 0 ≤ (B0 + Q - 1).tdiv Q)) (rB : 0 ≤ B0 ∧ B0 ≤ 1099511627776) (rQ : 0 ≤ Q ∧ Q ≤ 1099511627776) :
    Calls Tryz.prog 3 #[.agg #[.int .i64 R, .int .i64 B0], .int .i64 Q, .int .i64 M, .slice a n c] w fun e w' => e = .returned (.bool true) ∧ Below w.heap.size w w' := by
  have B : Below w.heap.size w (w.alloc (.cells #[.int .i64 R, .int .i64 B0] 23)) := balloc (Below.refl _ _) _
  have L0 := L.kept B
  have h0 := hz.kept B
  have x0 : (w.alloc (.cells #[.int .i64 R, .int .i64 B0] 23)).cell? ⟨w.heap.size, 0, none⟩ = some (.int .i64 R) := by rw [World.cell?_alloc_at _ _ _ _ rfl]; rfl
  have x1 : (w.alloc (.cells #[.int .i64 R, .int .i64 B0] 23)).cell? ⟨w.heap.size, 1, none⟩ = some (.int .i64 B0) := by rw [World.cell?_alloc_at _ _ _ _ rfl]; rfl
  clear L hz
  go_enter Tryz.func3, Tryz.ntmps3
  go_wp2_with (first
      | (go_at_call 7; refine (D.alive_top _ L0).mono ?_; clear L0; rintro e v0 ⟨rfl, b9⟩; replace h0 := h0.kept b9; replace x0 := (b9.cell (p := ⟨w.heap.size, 0, none⟩) (block_lt x0)).trans x0; replace x1 := (b9.cell (p := ⟨w.heap.size, 1, none⟩) (block_lt x1)).trans x1; replace B := bthen B b9; clear b9)
      | (go_at_call 8; refine (pass_l R B0 a _ n n z S hS.out hr.out _ h0 en.out).mono ?_; rintro e v1 ⟨ao, cp, rfl, _, h1, b9⟩; replace h0 := h0.kept b9; replace x0 := (b9.cell (p := ⟨w.heap.size, 0, none⟩) (block_lt x0)).trans x0; replace x1 := (b9.cell (p := ⟨w.heap.size, 1, none⟩) (block_lt x1)).trans x1; replace B := bthen B b9; clear b9)
      | (go_at_call 9; refine (bright_l R B0 a _ n z _ h0 en.out _ hb1.out).mono ?_; rintro e v2 ⟨rfl, b9⟩; replace h0 := h0.kept b9; replace h1 := h1.kept b9; replace x0 := (b9.cell (p := ⟨w.heap.size, 0, none⟩) (block_lt x0)).trans x0; replace x1 := (b9.cell (p := ⟨w.heap.size, 1, none⟩) (block_lt x1)).trans x1; replace B := bthen B b9; clear b9)
      | (go_at_call 10; refine (qright_l Q M a _ n z _ h0 en.out _ hb2.out).mono ?_; rintro e v3 ⟨rfl, b9⟩; replace h1 := h1.kept b9; replace x0 := (b9.cell (p := ⟨w.heap.size, 0, none⟩) (block_lt x0)).trans x0; replace x1 := (b9.cell (p := ⟨w.heap.size, 1, none⟩) (block_lt x1)).trans x1; replace B := bthen B b9; clear b9 h0)
      | (go_at_call 11; refine (play_l Q M ao _ n S X Y Z _ h1 hr.out hb3.out hX.out hY.out hZ.out).mono ?_; rintro e v4 ⟨a1, c1, a2, c2, a3, c3, rfl, _, _, h2, h3, b9⟩; replace h1 := h1.kept b9; replace x0 := (b9.cell (p := ⟨w.heap.size, 0, none⟩) (block_lt x0)).trans x0; replace x1 := (b9.cell (p := ⟨w.heap.size, 1, none⟩) (block_lt x1)).trans x1; replace B := bthen B b9; clear b9))
  go_loopw [59] (fun i wr => ∃ k : Nat, k ≤ n ∧ i = .int .i64 k ∧ Below v4.heap.size v4 wr) (fun i _ => n - (intOf i).toNat)
  case atStart => exact ⟨0, Nat.zero_le _, rfl, Below.refl _ _⟩
  case round =>
    obtain ⟨k, hk, rfl, hw⟩ := hrel
    replace x1 := (hw.cell (p := ⟨w.heap.size, 1, none⟩) (block_lt x1)).trans x1
    replace B := bthen B hw
    by_cases hlt : k < n
    · obtain ⟨g2, o2, rfl, e2⟩ := (h2.kept hw).at (by have := lY.out; omega)
      obtain ⟨g3, o3, rfl, e3⟩ := (h3.kept hw).at (by have := lZ.out; omega)
      have c2 := e2 k (by have := lY.out; omega)
      have c3 := e3 k (by have := lZ.out; omega)
      rw [aY.out k hlt] at c2
      have t3 := aZ.out k hlt
      have hkI : (k : Int) < n := by omega
      have hkn : (k : Int) < 300 := by omega
      clear e2 e3 h1 h2 h3 x0
      generalize Z.getD k 0 = x at c3 t3
      obtain ⟨V, hV⟩ : ∃ V, B0 - Q = V := ⟨_, rfl⟩
      have hWw : IntKind.i64.wrap (B0 - Q) = V := by rw [← hV]; exact wrap_in (by omega)
      have hWv : wrap64 (B0 - Q) = V := by rw [← hV]; exact IntWalk.wrap64_in _ (by omega)
      rw [hV] at t3
      replace hV : Hid _ := hV
      have t4 : decide (max V 0 < x) = false := decide_eq_false (by omega)
      clear t3
      go_wp2
      go_quiet (fail)
      go_wp2
      go_roundw
      case rel => exact ⟨k + 1, by omega, by go_num, below_drewN hw _⟩
      case measure => simp [intOf]; omega
    · obtain rfl : k = n := by omega
      clear x0 h2 h3
      replace h1 := h1.kept hw
      go_wp2_with (go_at_call 12; refine (delays_any Q ao _ k S _ h1 hr.out hb4.out E hE.out).mono ?_; rintro e v5 ⟨a5, c5, rfl, _, h5, b9⟩; replace x1 := (b9.cell (p := ⟨w.heap.size, 1, none⟩) (block_lt x1)).trans x1; replace B := bthen B b9; clear b9 h1)
      clear hw
      go_loopw [84] (fun i wr => ∃ j : Nat, j ≤ k ∧ i = .int .i64 j ∧ wr = v5) (fun i _ => k - (intOf i).toNat)
      case atStart => exact ⟨0, Nat.zero_le _, rfl, rfl⟩
      case round =>
        obtain ⟨j, hj, rfl, rfl⟩ := hrel
        by_cases hjk : j < k
        · obtain ⟨g5, o5, rfl, e5⟩ := h5.at (by have := lE.out; omega)
          have c5 := e5 j (by have := lE.out; omega)
          have t5 := aE.out j hjk
          have hjI : (j : Int) < k := by omega
          have hjn : (j : Int) < 300 := by omega
          clear e5 h5
          generalize E.getD j 0 = x at c5 t5
          by_cases hQ : 0 < Q
          · have t6 : decide (0 < Q) = true := decide_eq_true hQ
            replace t5 := t5 hQ
            have hq0 : (Q == 0) = false := by simp; omega
            have hWw : IntKind.i64.wrap (B0 + Q) = B0 + Q := wrap_in (by omega)
            have hWv : wrap64 (B0 + Q) = B0 + Q := IntWalk.wrap64_in _ (by omega)
            have hWw1 : IntKind.i64.wrap (B0 + Q - 1) = B0 + Q - 1 := wrap_in (by omega)
            have hWv1 : wrap64 (B0 + Q - 1) = B0 + Q - 1 := IntWalk.wrap64_in _ (by omega)
            rw [Int.tdiv_eq_ediv_of_nonneg (by omega)] at t5
            have t7 : decide ((B0 + Q - 1) / Q < x) = false := decide_eq_false (by omega)
            clear t5
            go_wp2
            go_roundw
            case rel => exact ⟨j + 1, by omega, by go_num, by first | rfl | trivial⟩
            case measure => simp [intOf]; omega
          · have t6 : decide (0 < Q) = false := decide_eq_false hQ
            clear t5
            go_wp2
            go_roundw
            case rel => exact ⟨j + 1, by omega, by go_num, by first | rfl | trivial⟩
            case measure => simp [intOf]; omega
        · go_wp2
          go_ret
          exact ⟨rfl, B⟩
theorem qu_ext {Q M : Int} {F G : Nat → Int} (t : Nat) (h : ∀ j, j < t → F j = G j) : qu Q M F t = qu Q M G t := by
  induction t with
  | zero => rfl
  | succ t ih =>
    have := ih fun j hj => h j (by omega)
    show qu Q M F t + F t - min (qu Q M F t + F t) Q - max (qu Q M F t + F t - min (qu Q M F t + F t) Q - M) 0 = _
    rw [this, h t (by omega)]
    rfl
theorem qg_ext {Q M : Int} {F G : Nat → Int} (t : Nat) (h : ∀ j, j ≤ t → F j = G j) : qg Q M F t = qg Q M G t := by
  unfold qg
  rw [qu_ext t fun j hj => h j (by omega), h t (Nat.le_refl _)]
theorem ql_ext {Q M : Int} {F G : Nat → Int} (t : Nat) (h : ∀ j, j ≤ t → F j = G j) : ql Q M F t = ql Q M G t := by
  unfold ql
  rw [qu_ext t fun j hj => h j (by omega), qg_ext t h, h t (Nat.le_refl _)]
theorem later_ext {x : Int} {F G : Nat → Int} (m t : Nat) (h : ∀ j, j ≤ t + m → F j = G j) : later x F t m = later x G t m := by
  induction m generalizing t with
  | zero => rfl
  | succ m ih =>
    simp only [later]
    rw [h (t + 1) (by omega), ih (t + 1) fun j hj => h j (by omega)]
theorem delay_ext {A A' G G' : Nat → Int} {n t : Nat} (ht : t < n) (h : ∀ j, j ≤ n → A j = A' j) (h' : ∀ j, j ≤ n → G j = G' j) : delay A G n t = delay A' G' n t := by
  unfold delay
  rw [h (t + 1) (by omega), later_ext (n - t) t fun j hj => h' j (by omega)]
theorem topShaped_go (R B0 Q M : Int) (a : Option Addr) (c : Nat) (z : List Int) (w : World) (L : D.Lw w) (hz : Row w a z) :
    Calls Tryz.prog 3 #[.agg #[.int .i64 R, .int .i64 B0], .int .i64 Q, .int .i64 M, .slice a z.length c] w fun e w' => e = .returned (.bool true) ∧ Below w.heap.size w w' := by
  by_cases h1 : bright R B0 z
  · by_cases h2 : bright Q M z
    · by_cases c1 : Q < R
      · exact shaped_bad R B0 Q M a c _ _ z _ w L hz rfl rfl rfl true true (decide_eq_true h1) (decide_eq_true h2) (.inr (.inr (.inl ⟨rfl, rfl, decide_eq_true c1⟩)))
      by_cases c2 : M < B0
      · exact shaped_bad R B0 Q M a c _ _ z _ w L hz rfl rfl rfl true true (decide_eq_true h1) (decide_eq_true h2) (.inr (.inr (.inr ⟨rfl, rfl, decide_eq_false c1, decide_eq_true c2⟩)))
      have hS : let' R B0 z = pass R B0 z := by unfold let'; rw [if_pos h1]
      have hF : ∀ j, j < z.length → inr ((fun j => z.getD j 0) j) := h1.2.2.2
      have hm : inr 1099511627776 := by unfold inr; omega
      have hB := h1.2.1
      have hB' := hB
      unfold inr at hB'
      have hQ' := h2.1
      unfold inr at hQ'
      have ext : ∀ k, k < z.length → (pass R B0 z).getD k 0 = go R B0 (fun j => z.getD j 0) k := fun k hk => pass_getD R B0 z k hk
      have hl : (pass R B0 z).length = z.length := pass_len R B0 z
      have p3 : bright Q M (pass R B0 z) := pass_bright h1 h2.1 h2.2.1
      have p4 : bright Q 1099511627776 (pass R B0 z) := pass_bright h1 h2.1 hm
      refine shaped_ok R B0 Q M a c z.length z (pass R B0 z) _ _ _ _ w L hz rfl h1.2.2.1 hS hl (decide_eq_true h1) (decide_eq_true h2) (decide_eq_false c1) (decide_eq_false c2) p3 p4 rfl rfl rfl rfl (outs_len _ _) (outs_len _ _) ?_ (fun k hk => ?_) (fun k hk => ?_) (fun k hk hq => ?_) hB' hQ'
      · show (dels Q (pass R B0 z)).length = z.length
        unfold dels
        rw [if_pos p4, outs_len, hl]
      · rw [outs_getD _ _ _ hk, ql_ext k fun j hj => ext j (by omega)]
        exact shaped_lost h1.1 hB h2.1 h2.2.1 hF (by omega) (by omega) k hk
      · rw [outs_getD _ _ _ hk]
        show qu Q M _ (k + 1) ≤ _
        rw [qu_ext (k + 1) fun j hj => ext j (by omega)]
        exact shaped_waits h1.1 hB h2.1 h2.2.1 hF (by omega) (by omega) k hk
      · unfold dels
        rw [if_pos p4, hl, outs_getD _ _ _ hk, delay_ext hk (A' := acc (go R B0 fun j => z.getD j 0)) (G' := acc (qg Q 1099511627776 (go R B0 fun j => z.getD j 0))) (fun j hj => acc_ext j fun i hi => ext i (by omega)) (fun j hj => acc_ext j fun i hi => qg_ext i fun u hu => ext u (by omega))]
        exact shaped_delay h1.1 hB h2.1 hm hF (by omega) hB'.2 hq k hk
    · exact shaped_bad R B0 Q M a c _ _ z _ w L hz rfl rfl rfl true false (decide_eq_true h1) (decide_eq_false h2) (.inr (.inl ⟨rfl, rfl⟩))
  · exact shaped_bad R B0 Q M a c _ _ z _ w L hz rfl rfl rfl false _ (decide_eq_false h1) rfl (.inl rfl)
end Go.Proofs.YtjageagnclmnjabGreatDoor.B
