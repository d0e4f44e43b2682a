/- PROVED: the steps of MinplusRises. CONDITIONS: none beyond each theorem's own. -/
import Derived.Test.YtiefkghpmjbhiaaApart
import Derived.Deep.RegionWith
namespace Go.Proofs.Ytiefkghpmjbhiaa
open Go.RowKit
set_option linter.unusedVariables false

set_option maxHeartbeats 4000000 in
theorem rises0 (a0 : Option Addr) (cap0 n0 : Nat) (z0 : List Int) (a1 : Option Addr) (cap1 n1 : Nat) (z1 : List Int) (a2 : Option Addr) (cap2 n2 : Nat) (z2 : List Int) (w : World) (r0 : Row w a0 z0) (r1 : Row w a1 z1) (r2 : Row w a2 z2)
    (e0 : z0.length = n0) (e1 : z1.length = n1) (e2 : z2.length = n2) (h0 : n0 ≤ 17592186044416) (h1 : n1 ≤ 17592186044416) (h2 : n2 ≤ 17592186044416) (hcap : n1 ≤ cap1)
    (m k : Nat) (hm0 : Hid (min n0 n1 = m)) (hk0 : Hid (min m n2 = k)) (hm : m ≤ 17592186044416) (hk : k ≤ 17592186044416) (hmn : m ≤ n1) (L G X Y C : List Int) (hL : Hid (both lowr z0 z1 = L)) (lL : L.length = m) (rG : Row w a1 G) (lG : G.length = m) (hX : Hid (conv L z2 = X)) (hY : Hid (conv G z2 = Y)) (lX : X.length = k) (lY : Y.length = k) (hXY : Hid (decide (below X Y) = true))
    (hC : Hid (conv z0 z1 = C)) (lC : C.length = m) (hR0 : Hid (decide (right z0) = false)) :
    Calls Try.prog 8 #[.slice a0 n0 cap0, .slice a1 n1 cap1, .slice a2 n2 cap2] w fun e w' => e = .returned (.bool true) ∧ Below w.heap.size w w' := by
  have B : Below w.heap.size w w := Below.refl _ _
  have hc0 : (m : Int) ≤ cap1 := by omega
  have hc1 : m ≤ cap1 := by omega
  have T1 := tok
  have T2 := tok
  have T3 := tok
  have T4 := tok
  have T5 := tok
  have T6 := tok
  go_enter Try.func8, Try.ntmps8
  go_wp2_with (first
      | (clear T1; go_at_call 20; refine (alive_any _).mono ?_; rintro e v1 ⟨rfl, b1⟩; replace B := bthen B b1; clear b1)
      | (clear T2; go_at_call 21; refine (lower_m _ _ _ _ n0 n1 m z0 z1 L hL.out _ (r0.kept B) (r1.kept B) e0 e1 hm0.out h0 h1).mono ?_; rintro e v2 ⟨x2, d2, rfl, l2, p2, b2⟩; replace B := bthen B b2; clear b2))
  replace B : Below w.heap.size w v2.drew := B.drew
  replace p2 : Row v2.drew x2 L := p2
  go_region_with (first
      | (clear T3; go_at_call 12; refine (conv_m _ _ _ _ m n2 k L z2 X hX.out _ p2 (r2.kept B) lL e2 hk0.out hm h2).mono ?_; rintro e v3 ⟨x3, d3, rfl, l3, p3, b3⟩; replace B := bthen B b3; replace p2 := p2.kept b3; clear b3)
      | (clear T4; go_at_call 12; refine (conv_m _ _ _ _ m n2 k G z2 Y hY.out _ (rG.kept B) (r2.kept B) lG e2 hk0.out hm h2).mono ?_; rintro e v4 ⟨x4, d4, rfl, l4, p4, b4⟩; replace B := bthen B b4; replace p2 := p2.kept b4; replace p3 := p3.kept b4; clear b4)
      | (clear T5; go_at_call 23; refine (within_n _ _ _ _ k k X Y _ p3 p4 lX lY hk hk true hXY.out).mono ?_; rintro e v5 ⟨rfl, b5⟩; replace B := bthen B b5; replace p2 := p2.kept b5; clear b5 p3 p4))
  all_goals
    go_wp2_with (first
      | (clear T6; go_at_call 24; refine (right_n _ _ n0 z0 _ (r0.kept B) e0 h0 false hR0.out).mono ?_; rintro e v6 ⟨rfl, b6⟩; replace B := bthen B b6; replace p2 := p2.kept b6; clear b6))
    go_ret
    exact ⟨rfl, B⟩

set_option maxHeartbeats 4000000 in
theorem rises1 (a0 : Option Addr) (cap0 n0 : Nat) (z0 : List Int) (a1 : Option Addr) (cap1 n1 : Nat) (z1 : List Int) (a2 : Option Addr) (cap2 n2 : Nat) (z2 : List Int) (w : World) (r0 : Row w a0 z0) (r1 : Row w a1 z1) (r2 : Row w a2 z2)
    (e0 : z0.length = n0) (e1 : z1.length = n1) (e2 : z2.length = n2) (h0 : n0 ≤ 17592186044416) (h1 : n1 ≤ 17592186044416) (h2 : n2 ≤ 17592186044416) (hcap : n1 ≤ cap1)
    (m k : Nat) (hm0 : Hid (min n0 n1 = m)) (hk0 : Hid (min m n2 = k)) (hm : m ≤ 17592186044416) (hk : k ≤ 17592186044416) (hmn : m ≤ n1) (L G X Y C : List Int) (hL : Hid (both lowr z0 z1 = L)) (lL : L.length = m) (rG : Row w a1 G) (lG : G.length = m) (hX : Hid (conv L z2 = X)) (hY : Hid (conv G z2 = Y)) (lX : X.length = k) (lY : Y.length = k) (hXY : Hid (decide (below X Y) = true))
    (hC : Hid (conv z0 z1 = C)) (lC : C.length = m) (hR0 : Hid (decide (right z0) = true))
    (hR1 : Hid (decide (right z1) = false)) :
    Calls Try.prog 8 #[.slice a0 n0 cap0, .slice a1 n1 cap1, .slice a2 n2 cap2] w fun e w' => e = .returned (.bool true) ∧ Below w.heap.size w w' := by
  have B : Below w.heap.size w w := Below.refl _ _
  have hc0 : (m : Int) ≤ cap1 := by omega
  have hc1 : m ≤ cap1 := by omega
  have T1 := tok
  have T2 := tok
  have T3 := tok
  have T4 := tok
  have T5 := tok
  have T6 := tok
  have T7 := tok
  go_enter Try.func8, Try.ntmps8
  go_wp2_with (first
      | (clear T1; go_at_call 20; refine (alive_any _).mono ?_; rintro e v1 ⟨rfl, b1⟩; replace B := bthen B b1; clear b1)
      | (clear T2; go_at_call 21; refine (lower_m _ _ _ _ n0 n1 m z0 z1 L hL.out _ (r0.kept B) (r1.kept B) e0 e1 hm0.out h0 h1).mono ?_; rintro e v2 ⟨x2, d2, rfl, l2, p2, b2⟩; replace B := bthen B b2; clear b2))
  replace B : Below w.heap.size w v2.drew := B.drew
  replace p2 : Row v2.drew x2 L := p2
  go_region_with (first
      | (clear T3; go_at_call 12; refine (conv_m _ _ _ _ m n2 k L z2 X hX.out _ p2 (r2.kept B) lL e2 hk0.out hm h2).mono ?_; rintro e v3 ⟨x3, d3, rfl, l3, p3, b3⟩; replace B := bthen B b3; replace p2 := p2.kept b3; clear b3)
      | (clear T4; go_at_call 12; refine (conv_m _ _ _ _ m n2 k G z2 Y hY.out _ (rG.kept B) (r2.kept B) lG e2 hk0.out hm h2).mono ?_; rintro e v4 ⟨x4, d4, rfl, l4, p4, b4⟩; replace B := bthen B b4; replace p2 := p2.kept b4; replace p3 := p3.kept b4; clear b4)
      | (clear T5; go_at_call 23; refine (within_n _ _ _ _ k k X Y _ p3 p4 lX lY hk hk true hXY.out).mono ?_; rintro e v5 ⟨rfl, b5⟩; replace B := bthen B b5; replace p2 := p2.kept b5; clear b5 p3 p4))
  all_goals
    go_wp2_with (first
      | (clear T6; go_at_call 24; refine (right_n _ _ n0 z0 _ (r0.kept B) e0 h0 true hR0.out).mono ?_; rintro e v6 ⟨rfl, b6⟩; replace B := bthen B b6; replace p2 := p2.kept b6; clear b6)
      | (clear T7; go_at_call 24; refine (right_n _ _ n1 z1 _ (r1.kept B) e1 h1 false hR1.out).mono ?_; rintro e v7 ⟨rfl, b7⟩; replace B := bthen B b7; replace p2 := p2.kept b7; clear b7))
    go_ret
    exact ⟨rfl, B⟩

set_option maxHeartbeats 4000000 in
theorem rises2 (a0 : Option Addr) (cap0 n0 : Nat) (z0 : List Int) (a1 : Option Addr) (cap1 n1 : Nat) (z1 : List Int) (a2 : Option Addr) (cap2 n2 : Nat) (z2 : List Int) (w : World) (r0 : Row w a0 z0) (r1 : Row w a1 z1) (r2 : Row w a2 z2)
    (e0 : z0.length = n0) (e1 : z1.length = n1) (e2 : z2.length = n2) (h0 : n0 ≤ 17592186044416) (h1 : n1 ≤ 17592186044416) (h2 : n2 ≤ 17592186044416) (hcap : n1 ≤ cap1)
    (m k : Nat) (hm0 : Hid (min n0 n1 = m)) (hk0 : Hid (min m n2 = k)) (hm : m ≤ 17592186044416) (hk : k ≤ 17592186044416) (hmn : m ≤ n1) (L G X Y C : List Int) (hL : Hid (both lowr z0 z1 = L)) (lL : L.length = m) (rG : Row w a1 G) (lG : G.length = m) (hX : Hid (conv L z2 = X)) (hY : Hid (conv G z2 = Y)) (lX : X.length = k) (lY : Y.length = k) (hXY : Hid (decide (below X Y) = true))
    (hC : Hid (conv z0 z1 = C)) (lC : C.length = m) (hR0 : Hid (decide (right z0) = true))
    (hR1 : Hid (decide (right z1) = true)) (hRC : Hid (decide (right C) = true)) (hCL : Hid (decide (below C L) = true)) :
    Calls Try.prog 8 #[.slice a0 n0 cap0, .slice a1 n1 cap1, .slice a2 n2 cap2] w fun e w' => e = .returned (.bool true) ∧ Below w.heap.size w w' := by
  have B : Below w.heap.size w w := Below.refl _ _
  have hc0 : (m : Int) ≤ cap1 := by omega
  have hc1 : m ≤ cap1 := by omega
  have T1 := tok
  have T2 := tok
  have T3 := tok
  have T4 := tok
  have T5 := tok
  have T6 := tok
  have T7 := tok
  have T8 := tok
  have T9 := tok
  have T10 := tok
  have T11 := tok
  go_enter Try.func8, Try.ntmps8
  go_wp2_with (first
      | (clear T1; go_at_call 20; refine (alive_any _).mono ?_; rintro e v1 ⟨rfl, b1⟩; replace B := bthen B b1; clear b1)
      | (clear T2; go_at_call 21; refine (lower_m _ _ _ _ n0 n1 m z0 z1 L hL.out _ (r0.kept B) (r1.kept B) e0 e1 hm0.out h0 h1).mono ?_; rintro e v2 ⟨x2, d2, rfl, l2, p2, b2⟩; replace B := bthen B b2; clear b2))
  replace B : Below w.heap.size w v2.drew := B.drew
  replace p2 : Row v2.drew x2 L := p2
  go_region_with (first
      | (clear T3; go_at_call 12; refine (conv_m _ _ _ _ m n2 k L z2 X hX.out _ p2 (r2.kept B) lL e2 hk0.out hm h2).mono ?_; rintro e v3 ⟨x3, d3, rfl, l3, p3, b3⟩; replace B := bthen B b3; replace p2 := p2.kept b3; clear b3)
      | (clear T4; go_at_call 12; refine (conv_m _ _ _ _ m n2 k G z2 Y hY.out _ (rG.kept B) (r2.kept B) lG e2 hk0.out hm h2).mono ?_; rintro e v4 ⟨x4, d4, rfl, l4, p4, b4⟩; replace B := bthen B b4; replace p2 := p2.kept b4; replace p3 := p3.kept b4; clear b4)
      | (clear T5; go_at_call 23; refine (within_n _ _ _ _ k k X Y _ p3 p4 lX lY hk hk true hXY.out).mono ?_; rintro e v5 ⟨rfl, b5⟩; replace B := bthen B b5; replace p2 := p2.kept b5; clear b5 p3 p4))
  all_goals
    go_wp2_with (first
      | (clear T6; go_at_call 24; refine (right_n _ _ n0 z0 _ (r0.kept B) e0 h0 true hR0.out).mono ?_; rintro e v6 ⟨rfl, b6⟩; replace B := bthen B b6; replace p2 := p2.kept b6; clear b6)
      | (clear T7; go_at_call 24; refine (right_n _ _ n1 z1 _ (r1.kept B) e1 h1 true hR1.out).mono ?_; rintro e v7 ⟨rfl, b7⟩; replace B := bthen B b7; replace p2 := p2.kept b7; clear b7)
      | (clear T8; go_at_call 12; refine (conv_m _ _ _ _ n0 n1 m z0 z1 C hC.out _ (r0.kept B) (r1.kept B) e0 e1 hm0.out h0 h1).mono ?_; rintro e v8 ⟨x8, d8, rfl, l8, p8, b8⟩; replace B := bthen B b8; replace p2 := p2.kept b8; clear b8)
      | (clear T9; go_at_call 24; refine (right_n _ _ m C _ p8 lC hm true hRC.out).mono ?_; rintro e v9 ⟨rfl, b9⟩; replace B := bthen B b9; replace p2 := p2.kept b9; clear b9 p8)
      | (clear T10; go_at_call 12; refine (conv_m _ _ _ _ n0 n1 m z0 z1 C hC.out _ (r0.kept B) (r1.kept B) e0 e1 hm0.out h0 h1).mono ?_; rintro e v10 ⟨x10, d10, rfl, l10, p10, b10⟩; replace B := bthen B b10; replace p2 := p2.kept b10; clear b10)
      | (clear T11; go_at_call 23; refine (within_n _ _ _ _ m m C L _ p10 p2 lC lL hm hm true hCL.out).mono ?_; rintro e v11 ⟨rfl, b11⟩; replace B := bthen B b11; clear b11 p2 p10))
    go_ret
    exact ⟨rfl, B⟩

end Go.Proofs.Ytiefkghpmjbhiaa
