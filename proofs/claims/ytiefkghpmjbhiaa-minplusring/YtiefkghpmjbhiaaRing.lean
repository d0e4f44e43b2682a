/- PROVED: the steps of MinplusRing. CONDITIONS: none beyond each theorem's own. -/
import Derived.Test.YtiefkghpmjbhiaaTold
namespace Go.Proofs.Ytiefkghpmjbhiaa
open Go.RowKit

set_option maxHeartbeats 4000000 in
theorem ring_go (a0 : Option Addr) (cap0 : Nat) (z0 : List Int) (a1 : Option Addr) (cap1 : Nat) (z1 : List Int) (a2 : Option Addr) (cap2 : Nat) (z2 : List Int) (w : World) (r0 : Row w a0 z0) (r1 : Row w a1 z1) (r2 : Row w a2 z2)
    (n : Nat) (e0 : z0.length = n) (e1 : z1.length = n) (e2 : z2.length = n) (hn : n ≤ 17592186044416) (hm : n ≤ 35184372088832) (h300 : n ≤ 300) (A G M L C P U Q : List Int) (hA : Hid (conv z0 z1 = A)) (hA2 : Hid (conv z1 z0 = A)) (hG : Hid (conv z1 z2 = G)) (hM : Hid (conv z0 G = M)) (hM2 : Hid (conv A z2 = M))
    (hL : Hid (both lowr z1 z2 = L)) (hC : Hid (conv z0 z2 = C)) (hP : Hid (conv z0 L = P)) (hP2 : Hid (both lowr A C = P)) (hU : Hid (unit n = U)) (hQ : Hid (conv z0 U = Q)) (hQ2 : Hid (both lowr z0 z0 = Q))
    (lA : A.length = n) (lG : G.length = n) (lM : M.length = n) (lL : L.length = n) (lC : C.length = n) (lP : P.length = n) (lU : U.length = n) (lQ : Q.length = n) :
    Calls Try.prog 5 #[.slice a0 n cap0, .slice a1 n cap1, .slice a2 n cap2] w fun e w' => e = .returned (.bool true) ∧ Below w.heap.size w w' := by
  have B : Below w.heap.size w w := Below.refl _ _
  have hle : ¬ 300 < (n : Int) := by omega
  have T1 := tok
  have T2 := tok
  have T3 := tok
  have T4 := tok
  have T5 := tok
  have T6 := tok
  have T7 := tok
  have T8 := tok
  have T9 := tok
  have T10 := tok
  have T11 := tok
  have T12 := tok
  have T13 := tok
  have T14 := tok
  have T15 := tok
  have T16 := tok
  have T17 := tok
  have T18 := tok
  have T19 := tok
  go_enter Try.func5, Try.ntmps5
  go_wp2_with (first
      | (clear T1; go_at_call 20; refine (alive_any _).mono ?_; rintro e v1 ⟨rfl, b1⟩; replace B := bthen B b1; clear b1)
      | (clear T2; go_at_call 12; refine (conv_r _ _ _ _ n z0 z1 A hA.out _ (r0.kept B) (r1.kept B) e0 e1 hn).mono ?_; rintro e v2 ⟨x2, d2, rfl, l2, p2, b2⟩; replace B := bthen B b2; clear b2)
      | (clear T3; go_at_call 12; refine (conv_r _ _ _ _ n z1 z0 A hA2.out _ (r1.kept B) (r0.kept B) e1 e0 hn).mono ?_; rintro e v3 ⟨x3, d3, rfl, l3, p3, b3⟩; replace B := bthen B b3; replace p2 := p2.kept b3; clear b3)
      | (clear T4; go_at_call 9; refine (equal_open _ _ _ _ n A _ p2 p3 lA hm).mono ?_; rintro e v4 ⟨rfl, b4⟩; replace B := bthen B b4; clear b4 p2 p3)
      | (clear T5; go_at_call 12; refine (conv_r _ _ _ _ n z1 z2 G hG.out _ (r1.kept B) (r2.kept B) e1 e2 hn).mono ?_; rintro e v5 ⟨x5, d5, rfl, l5, p5, b5⟩; replace B := bthen B b5; clear b5)
      | (clear T6; go_at_call 12; refine (conv_r _ _ _ _ n z0 G M hM.out _ (r0.kept B) p5 e0 lG hn).mono ?_; rintro e v6 ⟨x6, d6, rfl, l6, p6, b6⟩; replace B := bthen B b6; clear b6 p5)
      | (clear T7; go_at_call 12; refine (conv_r _ _ _ _ n z0 z1 A hA.out _ (r0.kept B) (r1.kept B) e0 e1 hn).mono ?_; rintro e v7 ⟨x7, d7, rfl, l7, p7, b7⟩; replace B := bthen B b7; replace p6 := p6.kept b7; clear b7)
      | (clear T8; go_at_call 12; refine (conv_r _ _ _ _ n A z2 M hM2.out _ p7 (r2.kept B) lA e2 hn).mono ?_; rintro e v8 ⟨x8, d8, rfl, l8, p8, b8⟩; replace B := bthen B b8; replace p6 := p6.kept b8; clear b8 p7)
      | (clear T9; go_at_call 9; refine (equal_open _ _ _ _ n M _ p6 p8 lM hm).mono ?_; rintro e v9 ⟨rfl, b9⟩; replace B := bthen B b9; clear b9 p6 p8)
      | (clear T10; go_at_call 21; refine (lower_r _ _ _ _ n z1 z2 L hL.out _ (r1.kept B) (r2.kept B) e1 e2 hn).mono ?_; rintro e v10 ⟨x10, d10, rfl, l10, p10, b10⟩; replace B := bthen B b10; clear b10)
      | (clear T11; go_at_call 12; refine (conv_r _ _ _ _ n z0 L P hP.out _ (r0.kept B) p10 e0 lL hn).mono ?_; rintro e v11 ⟨x11, d11, rfl, l11, p11, b11⟩; replace B := bthen B b11; clear b11 p10)
      | (clear T12; go_at_call 12; refine (conv_r _ _ _ _ n z0 z1 A hA.out _ (r0.kept B) (r1.kept B) e0 e1 hn).mono ?_; rintro e v12 ⟨x12, d12, rfl, l12, p12, b12⟩; replace B := bthen B b12; replace p11 := p11.kept b12; clear b12)
      | (clear T13; go_at_call 12; refine (conv_r _ _ _ _ n z0 z2 C hC.out _ (r0.kept B) (r2.kept B) e0 e2 hn).mono ?_; rintro e v13 ⟨x13, d13, rfl, l13, p13, b13⟩; replace B := bthen B b13; replace p11 := p11.kept b13; replace p12 := p12.kept b13; clear b13)
      | (clear T14; go_at_call 21; refine (lower_r _ _ _ _ n A C P hP2.out _ p12 p13 lA lC hn).mono ?_; rintro e v14 ⟨x14, d14, rfl, l14, p14, b14⟩; replace B := bthen B b14; replace p11 := p11.kept b14; clear b14 p12 p13)
      | (clear T15; go_at_call 9; refine (equal_open _ _ _ _ n P _ p11 p14 lP hm).mono ?_; rintro e v15 ⟨rfl, b15⟩; replace B := bthen B b15; clear b15 p11 p14)
      | (clear T16; go_at_call 10; refine (unit_r n U hU.out h300 _).mono ?_; rintro e v16 ⟨x16, d16, rfl, l16, p16, b16⟩; replace B := bthen B b16; clear b16)
      | (clear T17; go_at_call 12; refine (conv_r _ _ _ _ n z0 U Q hQ.out _ (r0.kept B) p16 e0 lU hn).mono ?_; rintro e v17 ⟨x17, d17, rfl, l17, p17, b17⟩; replace B := bthen B b17; clear b17 p16)
      | (clear T18; go_at_call 21; refine (lower_r _ _ _ _ n z0 z0 Q hQ2.out _ (r0.kept B) (r0.kept B) e0 e0 hn).mono ?_; rintro e v18 ⟨x18, d18, rfl, l18, p18, b18⟩; replace B := bthen B b18; replace p17 := p17.kept b18; clear b18)
      | (clear T19; go_at_call 9; refine (equal_open _ _ _ _ n Q _ p17 p18 lQ hm).mono ?_; rintro e v19 ⟨rfl, b19⟩; replace B := bthen B b19; clear b19 p17 p18))
  go_ret
  exact ⟨rfl, B⟩

end Go.Proofs.Ytiefkghpmjbhiaa
