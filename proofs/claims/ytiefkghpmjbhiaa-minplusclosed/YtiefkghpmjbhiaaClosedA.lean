/- PROVED: the steps of MinplusClosed. CONDITIONS: none beyond each theorem's own. -/
import Derived.Test.YtiefkghpmjbhiaaRest
import Derived.Deep.RegionWith
namespace Go.Proofs.Ytiefkghpmjbhiaa
open Go.RowKit
set_option linter.unusedVariables false

set_option maxRecDepth 100000 in
set_option maxHeartbeats 4000000 in
theorem c0a (a0 a1 : Option Addr) (cap0 cap1 : Nat) (z0 z1 C : List Int) (w : World) (r0 : Row w a0 z0) (r1 : Row w a1 z1) (e0 : z0.length = 0) (e1 : z1.length = 0) (k0 : 0 ≤ cap0) (k1 : 0 ≤ cap1) (hn : 0 ≤ 17592186044416)
    (hC : Hid (close z0 = C)) (lC : C.length = 0) (hP : Hid (decide (parts C) = true)) (hW : Hid (decide (below (C.drop 1) (z0.drop 1)) = true)) (hCC : Hid (close C = C)) (hCV : Hid (conv C C = C)) :
    Calls Try.prog 7 #[.slice a0 0 cap0, .slice a1 0 cap1] w fun e w' => e = .returned (.bool true) ∧ Below w.heap.size w w' := by
  have B : Below w.heap.size w w := Below.refl _ _
  have T1 := tok
  have T2 := tok
  have T3 := tok
  have T4 := tok
  have T5 := tok
  have T6 := tok
  have T7 := tok
  go_enter Try.func7, Try.ntmps7
  go_wp2_with (first
      | (clear T1; go_at_call 20; refine (alive_any _).mono ?_; rintro e v1 ⟨rfl, b1⟩; replace B := bthen B b1; clear b1)
      | (clear T2; go_at_call 16; refine (close_r _ _ 0 z0 C hC.out _ (r0.kept B) e0 hn).mono ?_; rintro e v2 ⟨x2, d2, rfl, l2, p2, b2⟩; replace B := bthen B b2; clear b2; have l2b : 0 ≤ d2 := l2))
  replace B : Below w.heap.size w v2.drew := B.drew
  replace p2 : Row v2.drew x2 C := p2
  refine wp_region_any (by kernel_rfl) ?_
  change wpAny _ _ _ _ _ _ _ (World.drew _)
  refine wpAny_take (i := 0) (v := .slice x2 0 d2) rfl (by kernel_rfl) (by kernel_rfl) (by kernel_rfl) (fun _ _ _ h => h) (Or.inl ⟨by kernel_rfl, by intro _; go_simp; all_goals first | omega | (rw [if_pos (by omega)]; first | done | rfl)⟩) ?_
  refine wpAny_ready (rs := [1]) (by kernel_rfl) (by simp) ?_
  refine AllReady.cons rfl (fun K hK => ?_) AllReady.nil
  go_simp
  go_wp2_with (clear T3; go_at_call 18; refine (parts_n _ _ 0 C _ p2 lC hn true hP.out).mono ?_; rintro e v3 ⟨rfl, b3⟩; replace B := bthen B b3; replace p2 := p2.kept b3; clear b3)
  refine wpAny_take (i := 2) (v := .bool false) rfl (by kernel_rfl) (by kernel_rfl) (by kernel_rfl) (fun _ _ _ h => h) (Or.inl ⟨by kernel_rfl, by intro _; go_simp; all_goals first | omega | (rw [if_pos (by omega)]; first | done | rfl)⟩) ?_
  refine wpAny_take (i := 3) (v := .bool false) rfl (by kernel_rfl) (by kernel_rfl) (by kernel_rfl) (fun _ _ _ h => h) (Or.inl ⟨by kernel_rfl, by intro _; go_simp; all_goals first | omega | (rw [if_pos (by omega)]; first | done | rfl)⟩) ?_
  refine wpAny_take (i := 4) (v := .slice x2 0 d2) rfl (by kernel_rfl) (by kernel_rfl) (by kernel_rfl) (fun _ _ _ h => h) (Or.inl ⟨by kernel_rfl, by intro _; go_simp; all_goals first | omega | (rw [if_pos (by omega)]; first | done | rfl)⟩) ?_
  refine wpAny_take (i := 5) (v := .int .i64 0) rfl (by kernel_rfl) (by kernel_rfl) (by kernel_rfl) (fun _ _ _ h => h) (Or.inl ⟨by kernel_rfl, by intro _; go_simp; all_goals first | omega | (rw [if_pos (by omega)]; first | done | rfl)⟩) ?_
  refine wpAny_take (i := 6) (v := .slice a0 0 cap0) rfl (by kernel_rfl) (by kernel_rfl) (by kernel_rfl) (fun _ _ _ h => h) (Or.inl ⟨by kernel_rfl, by intro _; go_simp; all_goals first | omega | (rw [if_pos (by omega)]; first | done | rfl)⟩) ?_
  refine wpAny_take (i := 7) (v := .int .i64 0) rfl (by kernel_rfl) (by kernel_rfl) (by kernel_rfl) (fun _ _ _ h => h) (Or.inl ⟨by kernel_rfl, by intro _; go_simp; all_goals first | omega | (rw [if_pos (by omega)]; first | done | rfl)⟩) ?_
  refine wpAny_take (i := 8) (v := .bool false) rfl (by kernel_rfl) (by kernel_rfl) (by kernel_rfl) (fun _ _ _ h => h) (Or.inl ⟨by kernel_rfl, by intro _; go_simp; all_goals first | omega | (rw [if_pos (by omega)]; first | done | rfl)⟩) ?_
  refine wpAny_take (i := 9) (v := .bool false) rfl (by kernel_rfl) (by kernel_rfl) (by kernel_rfl) (fun _ _ _ h => h) (Or.inl ⟨by kernel_rfl, by intro _; go_simp; all_goals first | omega | (rw [if_pos (by omega)]; first | done | rfl)⟩) ?_
  refine wpAny_take (i := 10) (v := .bool false) rfl (by kernel_rfl) (by kernel_rfl) (by kernel_rfl) (fun _ _ _ h => h) (Or.inl ⟨by kernel_rfl, by intro _; go_simp; all_goals first | omega | (rw [if_pos (by omega)]; first | done | rfl)⟩) ?_
  refine wpAny_take (i := 11) (v := .slice a0 0 cap0) rfl (by kernel_rfl) (by kernel_rfl) (by kernel_rfl) (fun _ _ _ h => h) (Or.inl ⟨by kernel_rfl, by intro _; go_simp; all_goals first | omega | (rw [if_pos (by omega)]; first | done | rfl)⟩) ?_
  refine wpAny_take (i := 12) (v := .int .i64 0) rfl (by kernel_rfl) (by kernel_rfl) (by kernel_rfl) (fun _ _ _ h => h) (Or.inl ⟨by kernel_rfl, by intro _; go_simp; all_goals first | omega | (rw [if_pos (by omega)]; first | done | rfl)⟩) ?_
  refine wpAny_take (i := 13) (v := .bool false) rfl (by kernel_rfl) (by kernel_rfl) (by kernel_rfl) (fun _ _ _ h => h) (Or.inl ⟨by kernel_rfl, by intro _; go_simp; all_goals first | omega | (rw [if_pos (by omega)]; first | done | rfl)⟩) ?_
  refine wpAny_take (i := 14) (v := .bool false) rfl (by kernel_rfl) (by kernel_rfl) (by kernel_rfl) (fun _ _ _ h => h) (Or.inl ⟨by kernel_rfl, by intro _; go_simp; all_goals first | omega | (rw [if_pos (by omega)]; first | done | rfl)⟩) ?_
  refine wpAny_take (i := 15) (v := undef) rfl (by kernel_rfl) (by kernel_rfl) (by kernel_rfl) (fun _ _ _ h => h) (Or.inr ⟨by kernel_rfl, rfl⟩) ?_
  refine wpAny_take (i := 16) (v := undef) rfl (by kernel_rfl) (by kernel_rfl) (by kernel_rfl) (fun _ _ _ h => h) (Or.inr ⟨by kernel_rfl, rfl⟩) ?_
  refine wpAny_take (i := 17) (v := undef) rfl (by kernel_rfl) (by kernel_rfl) (by kernel_rfl) (fun _ _ _ h => h) (Or.inr ⟨by kernel_rfl, rfl⟩) ?_
  refine wpAny_take (i := 18) (v := undef) rfl (by kernel_rfl) (by kernel_rfl) (by kernel_rfl) (fun _ _ _ h => h) (Or.inr ⟨by kernel_rfl, rfl⟩) ?_
  refine wpAny_take (i := 19) (v := undef) rfl (by kernel_rfl) (by kernel_rfl) (by kernel_rfl) (fun _ _ _ h => h) (Or.inr ⟨by kernel_rfl, rfl⟩) ?_
  refine wpAny_take (i := 20) (v := undef) rfl (by kernel_rfl) (by kernel_rfl) (by kernel_rfl) (fun _ _ _ h => h) (Or.inr ⟨by kernel_rfl, rfl⟩) ?_
  refine wpAny_take (i := 21) (v := .bool false) rfl (by kernel_rfl) (by kernel_rfl) (by kernel_rfl) (fun _ _ _ h => h) (Or.inl ⟨by kernel_rfl, by intro _; go_simp; all_goals first | omega | (rw [if_pos (by omega)]; first | done | rfl)⟩) ?_
  refine wpAny_take (i := 22) (v := .bool false) rfl (by kernel_rfl) (by kernel_rfl) (by kernel_rfl) (fun _ _ _ h => h) (Or.inl ⟨by kernel_rfl, by intro _; go_simp; all_goals first | omega | (rw [if_pos (by omega)]; first | done | rfl)⟩) ?_
  refine wpAny_done (by kernel_rfl) ?_ _
  go_simp
  go_wp2
  replace B : Below w.heap.size w v3.drew := B.drew
  replace p2 : Row v3.drew x2 C := p2
  refine wp_region_any (by kernel_rfl) ?_
  change wpAny _ _ _ _ _ _ _ (World.drew _)
  refine wpAny_take (i := 0) (v := .slice a1 0 cap1) rfl (by kernel_rfl) (by kernel_rfl) (by kernel_rfl) (fun _ _ _ h => h) (Or.inl ⟨by kernel_rfl, by intro _; go_simp; all_goals first | omega | (rw [if_pos (by omega)]; first | done | rfl)⟩) ?_
  refine wpAny_take (i := 1) (v := .int .i64 0) rfl (by kernel_rfl) (by kernel_rfl) (by kernel_rfl) (fun _ _ _ h => h) (Or.inl ⟨by kernel_rfl, by intro _; go_simp; all_goals first | omega | (rw [if_pos (by omega)]; first | done | rfl)⟩) ?_
  refine wpAny_take (i := 2) (v := .slice a0 0 cap0) rfl (by kernel_rfl) (by kernel_rfl) (by kernel_rfl) (fun _ _ _ h => h) (Or.inl ⟨by kernel_rfl, by intro _; go_simp; all_goals first | omega | (rw [if_pos (by omega)]; first | done | rfl)⟩) ?_
  refine wpAny_take (i := 3) (v := .int .i64 0) rfl (by kernel_rfl) (by kernel_rfl) (by kernel_rfl) (fun _ _ _ h => h) (Or.inl ⟨by kernel_rfl, by intro _; go_simp; all_goals first | omega | (rw [if_pos (by omega)]; first | done | rfl)⟩) ?_
  refine wpAny_take (i := 4) (v := .bool true) rfl (by kernel_rfl) (by kernel_rfl) (by kernel_rfl) (fun _ _ _ h => h) (Or.inl ⟨by kernel_rfl, by intro _; go_simp; all_goals first | omega | (rw [if_pos (by omega)]; first | done | rfl)⟩) ?_
  refine wpAny_take (i := 5) (v := .bool true) rfl (by kernel_rfl) (by kernel_rfl) (by kernel_rfl) (fun _ _ _ h => h) (Or.inl ⟨by kernel_rfl, by intro _; go_simp; all_goals first | omega | (rw [if_pos (by omega)]; first | done | rfl)⟩) ?_
  refine wpAny_take (i := 6) (v := .slice a0 0 cap0) rfl (by kernel_rfl) (by kernel_rfl) (by kernel_rfl) (fun _ _ _ h => h) (Or.inl ⟨by kernel_rfl, by intro _; go_simp; all_goals first | omega | (rw [if_pos (by omega)]; first | done | rfl)⟩) ?_
  refine wpAny_take (i := 7) (v := .int .i64 0) rfl (by kernel_rfl) (by kernel_rfl) (by kernel_rfl) (fun _ _ _ h => h) (Or.inl ⟨by kernel_rfl, by intro _; go_simp; all_goals first | omega | (rw [if_pos (by omega)]; first | done | rfl)⟩) ?_
  refine wpAny_take (i := 8) (v := .bool false) rfl (by kernel_rfl) (by kernel_rfl) (by kernel_rfl) (fun _ _ _ h => h) (Or.inl ⟨by kernel_rfl, by intro _; go_simp; all_goals first | omega | (rw [if_pos (by omega)]; first | done | rfl)⟩) ?_
  refine wpAny_take (i := 9) (v := .bool false) rfl (by kernel_rfl) (by kernel_rfl) (by kernel_rfl) (fun _ _ _ h => h) (Or.inl ⟨by kernel_rfl, by intro _; go_simp; all_goals first | omega | (rw [if_pos (by omega)]; first | done | rfl)⟩) ?_
  refine wpAny_take (i := 10) (v := .bool false) rfl (by kernel_rfl) (by kernel_rfl) (by kernel_rfl) (fun _ _ _ h => h) (Or.inl ⟨by kernel_rfl, by intro _; go_simp; all_goals first | omega | (rw [if_pos (by omega)]; first | done | rfl)⟩) ?_
  refine wpAny_take (i := 11) (v := undef) rfl (by kernel_rfl) (by kernel_rfl) (by kernel_rfl) (fun _ _ _ h => h) (Or.inr ⟨by kernel_rfl, rfl⟩) ?_
  refine wpAny_take (i := 12) (v := undef) rfl (by kernel_rfl) (by kernel_rfl) (by kernel_rfl) (fun _ _ _ h => h) (Or.inr ⟨by kernel_rfl, rfl⟩) ?_
  refine wpAny_take (i := 13) (v := .bool false) rfl (by kernel_rfl) (by kernel_rfl) (by kernel_rfl) (fun _ _ _ h => h) (Or.inl ⟨by kernel_rfl, by intro _; go_simp; all_goals first | omega | (rw [if_pos (by omega)]; first | done | rfl)⟩) ?_
  refine wpAny_take (i := 14) (v := .bool false) rfl (by kernel_rfl) (by kernel_rfl) (by kernel_rfl) (fun _ _ _ h => h) (Or.inl ⟨by kernel_rfl, by intro _; go_simp; all_goals first | omega | (rw [if_pos (by omega)]; first | done | rfl)⟩) ?_
  refine wpAny_take (i := 15) (v := undef) rfl (by kernel_rfl) (by kernel_rfl) (by kernel_rfl) (fun _ _ _ h => h) (Or.inr ⟨by kernel_rfl, rfl⟩) ?_
  refine wpAny_take (i := 16) (v := undef) rfl (by kernel_rfl) (by kernel_rfl) (by kernel_rfl) (fun _ _ _ h => h) (Or.inr ⟨by kernel_rfl, rfl⟩) ?_
  refine wpAny_take (i := 17) (v := undef) rfl (by kernel_rfl) (by kernel_rfl) (by kernel_rfl) (fun _ _ _ h => h) (Or.inr ⟨by kernel_rfl, rfl⟩) ?_
  refine wpAny_take (i := 18) (v := undef) rfl (by kernel_rfl) (by kernel_rfl) (by kernel_rfl) (fun _ _ _ h => h) (Or.inr ⟨by kernel_rfl, rfl⟩) ?_
  refine wpAny_take (i := 19) (v := undef) rfl (by kernel_rfl) (by kernel_rfl) (by kernel_rfl) (fun _ _ _ h => h) (Or.inr ⟨by kernel_rfl, rfl⟩) ?_
  refine wpAny_take (i := 20) (v := .bool false) rfl (by kernel_rfl) (by kernel_rfl) (by kernel_rfl) (fun _ _ _ h => h) (Or.inl ⟨by kernel_rfl, by intro _; go_simp; all_goals first | omega | (rw [if_pos (by omega)]; first | done | rfl)⟩) ?_
  refine wpAny_take (i := 21) (v := .bool false) rfl (by kernel_rfl) (by kernel_rfl) (by kernel_rfl) (fun _ _ _ h => h) (Or.inl ⟨by kernel_rfl, by intro _; go_simp; all_goals first | omega | (rw [if_pos (by omega)]; first | done | rfl)⟩) ?_
  refine wpAny_take (i := 22) (v := undef) rfl (by kernel_rfl) (by kernel_rfl) (by kernel_rfl) (fun _ _ _ h => h) (Or.inr ⟨by kernel_rfl, rfl⟩) ?_
  refine wpAny_take (i := 23) (v := undef) rfl (by kernel_rfl) (by kernel_rfl) (by kernel_rfl) (fun _ _ _ h => h) (Or.inr ⟨by kernel_rfl, rfl⟩) ?_
  refine wpAny_take (i := 24) (v := undef) rfl (by kernel_rfl) (by kernel_rfl) (by kernel_rfl) (fun _ _ _ h => h) (Or.inr ⟨by kernel_rfl, rfl⟩) ?_
  refine wpAny_take (i := 25) (v := undef) rfl (by kernel_rfl) (by kernel_rfl) (by kernel_rfl) (fun _ _ _ h => h) (Or.inr ⟨by kernel_rfl, rfl⟩) ?_
  refine wpAny_take (i := 26) (v := .bool false) rfl (by kernel_rfl) (by kernel_rfl) (by kernel_rfl) (fun _ _ _ h => h) (Or.inl ⟨by kernel_rfl, by intro _; go_simp; all_goals first | omega | (rw [if_pos (by omega)]; first | done | rfl)⟩) ?_
  refine wpAny_done (by kernel_rfl) ?_ _
  go_simp
  go_wp2_with (first
      | (clear T4; go_at_call 16; refine (close_r _ _ 0 C C hCC.out _ p2 lC hn).mono ?_; rintro e v4 ⟨x4, d4, rfl, l4, p4, b4⟩; replace B := bthen B b4; replace p2 := p2.kept b4; clear b4)
      | (clear T5; go_at_call 9; refine (equal_open _ _ _ _ 0 C _ p4 p2 lC (by omega)).mono ?_; rintro e v5 ⟨rfl, b5⟩; replace B := bthen B b5; replace p2 := p2.kept b5; clear b5 p4)
      | (clear T6; go_at_call 12; refine (conv_r _ _ _ _ 0 C C C hCV.out _ p2 p2 lC lC hn).mono ?_; rintro e v6 ⟨x6, d6, rfl, l6, p6, b6⟩; replace B := bthen B b6; replace p2 := p2.kept b6; clear b6)
      | (clear T7; go_at_call 9; refine (equal_open _ _ _ _ 0 C _ p6 p2 lC (by omega)).mono ?_; rintro e v7 ⟨rfl, b7⟩; replace B := bthen B b7; clear b7 p2 p6))
  go_ret
  exact ⟨rfl, B⟩

set_option maxRecDepth 100000 in
set_option maxHeartbeats 4000000 in
theorem c0b (a0 a1 : Option Addr) (cap0 cap1 : Nat) (z0 z1 C : List Int) (w : World) (n1 : Nat) (hne : ¬ (n1 : Int) = (0 : Int)) (r0 : Row w a0 z0) (r1 : Row w a1 z1) (e0 : z0.length = 0) (e1 : z1.length = n1) (k0 : 0 ≤ cap0) (k1 : n1 ≤ cap1) (hn : 0 ≤ 17592186044416)
    (hC : Hid (close z0 = C)) (lC : C.length = 0) (hP : Hid (decide (parts C) = true)) (hW : Hid (decide (below (C.drop 1) (z0.drop 1)) = true)) (hCC : Hid (close C = C)) (hCV : Hid (conv C C = C)) :
    Calls Try.prog 7 #[.slice a0 0 cap0, .slice a1 n1 cap1] w fun e w' => e = .returned (.bool true) ∧ Below w.heap.size w w' := by
  have B : Below w.heap.size w w := Below.refl _ _
  have T1 := tok
  have T2 := tok
  have T3 := tok
  have T4 := tok
  have T5 := tok
  have T6 := tok
  have T7 := tok
  go_enter Try.func7, Try.ntmps7
  go_wp2_with (first
      | (clear T1; go_at_call 20; refine (alive_any _).mono ?_; rintro e v1 ⟨rfl, b1⟩; replace B := bthen B b1; clear b1)
      | (clear T2; go_at_call 16; refine (close_r _ _ 0 z0 C hC.out _ (r0.kept B) e0 hn).mono ?_; rintro e v2 ⟨x2, d2, rfl, l2, p2, b2⟩; replace B := bthen B b2; clear b2; have l2b : 0 ≤ d2 := l2))
  replace B : Below w.heap.size w v2.drew := B.drew
  replace p2 : Row v2.drew x2 C := p2
  refine wp_region_any (by kernel_rfl) ?_
  change wpAny _ _ _ _ _ _ _ (World.drew _)
  refine wpAny_take (i := 0) (v := .slice x2 0 d2) rfl (by kernel_rfl) (by kernel_rfl) (by kernel_rfl) (fun _ _ _ h => h) (Or.inl ⟨by kernel_rfl, by intro _; go_simp; all_goals first | omega | (rw [if_pos (by omega)]; first | done | rfl)⟩) ?_
  refine wpAny_ready (rs := [1]) (by kernel_rfl) (by simp) ?_
  refine AllReady.cons rfl (fun K hK => ?_) AllReady.nil
  go_simp
  go_wp2_with (clear T3; go_at_call 18; refine (parts_n _ _ 0 C _ p2 lC hn true hP.out).mono ?_; rintro e v3 ⟨rfl, b3⟩; replace B := bthen B b3; replace p2 := p2.kept b3; clear b3)
  refine wpAny_take (i := 2) (v := .bool false) rfl (by kernel_rfl) (by kernel_rfl) (by kernel_rfl) (fun _ _ _ h => h) (Or.inl ⟨by kernel_rfl, by intro _; go_simp; all_goals first | omega | (rw [if_pos (by omega)]; first | done | rfl)⟩) ?_
  refine wpAny_take (i := 3) (v := .bool false) rfl (by kernel_rfl) (by kernel_rfl) (by kernel_rfl) (fun _ _ _ h => h) (Or.inl ⟨by kernel_rfl, by intro _; go_simp; all_goals first | omega | (rw [if_pos (by omega)]; first | done | rfl)⟩) ?_
  refine wpAny_take (i := 4) (v := .slice x2 0 d2) rfl (by kernel_rfl) (by kernel_rfl) (by kernel_rfl) (fun _ _ _ h => h) (Or.inl ⟨by kernel_rfl, by intro _; go_simp; all_goals first | omega | (rw [if_pos (by omega)]; first | done | rfl)⟩) ?_
  refine wpAny_take (i := 5) (v := .int .i64 0) rfl (by kernel_rfl) (by kernel_rfl) (by kernel_rfl) (fun _ _ _ h => h) (Or.inl ⟨by kernel_rfl, by intro _; go_simp; all_goals first | omega | (rw [if_pos (by omega)]; first | done | rfl)⟩) ?_
  refine wpAny_take (i := 6) (v := .slice a0 0 cap0) rfl (by kernel_rfl) (by kernel_rfl) (by kernel_rfl) (fun _ _ _ h => h) (Or.inl ⟨by kernel_rfl, by intro _; go_simp; all_goals first | omega | (rw [if_pos (by omega)]; first | done | rfl)⟩) ?_
  refine wpAny_take (i := 7) (v := .int .i64 0) rfl (by kernel_rfl) (by kernel_rfl) (by kernel_rfl) (fun _ _ _ h => h) (Or.inl ⟨by kernel_rfl, by intro _; go_simp; all_goals first | omega | (rw [if_pos (by omega)]; first | done | rfl)⟩) ?_
  refine wpAny_take (i := 8) (v := .bool false) rfl (by kernel_rfl) (by kernel_rfl) (by kernel_rfl) (fun _ _ _ h => h) (Or.inl ⟨by kernel_rfl, by intro _; go_simp; all_goals first | omega | (rw [if_pos (by omega)]; first | done | rfl)⟩) ?_
  refine wpAny_take (i := 9) (v := .bool false) rfl (by kernel_rfl) (by kernel_rfl) (by kernel_rfl) (fun _ _ _ h => h) (Or.inl ⟨by kernel_rfl, by intro _; go_simp; all_goals first | omega | (rw [if_pos (by omega)]; first | done | rfl)⟩) ?_
  refine wpAny_take (i := 10) (v := .bool false) rfl (by kernel_rfl) (by kernel_rfl) (by kernel_rfl) (fun _ _ _ h => h) (Or.inl ⟨by kernel_rfl, by intro _; go_simp; all_goals first | omega | (rw [if_pos (by omega)]; first | done | rfl)⟩) ?_
  refine wpAny_take (i := 11) (v := .slice a0 0 cap0) rfl (by kernel_rfl) (by kernel_rfl) (by kernel_rfl) (fun _ _ _ h => h) (Or.inl ⟨by kernel_rfl, by intro _; go_simp; all_goals first | omega | (rw [if_pos (by omega)]; first | done | rfl)⟩) ?_
  refine wpAny_take (i := 12) (v := .int .i64 0) rfl (by kernel_rfl) (by kernel_rfl) (by kernel_rfl) (fun _ _ _ h => h) (Or.inl ⟨by kernel_rfl, by intro _; go_simp; all_goals first | omega | (rw [if_pos (by omega)]; first | done | rfl)⟩) ?_
  refine wpAny_take (i := 13) (v := .bool false) rfl (by kernel_rfl) (by kernel_rfl) (by kernel_rfl) (fun _ _ _ h => h) (Or.inl ⟨by kernel_rfl, by intro _; go_simp; all_goals first | omega | (rw [if_pos (by omega)]; first | done | rfl)⟩) ?_
  refine wpAny_take (i := 14) (v := .bool false) rfl (by kernel_rfl) (by kernel_rfl) (by kernel_rfl) (fun _ _ _ h => h) (Or.inl ⟨by kernel_rfl, by intro _; go_simp; all_goals first | omega | (rw [if_pos (by omega)]; first | done | rfl)⟩) ?_
  refine wpAny_take (i := 15) (v := undef) rfl (by kernel_rfl) (by kernel_rfl) (by kernel_rfl) (fun _ _ _ h => h) (Or.inr ⟨by kernel_rfl, rfl⟩) ?_
  refine wpAny_take (i := 16) (v := undef) rfl (by kernel_rfl) (by kernel_rfl) (by kernel_rfl) (fun _ _ _ h => h) (Or.inr ⟨by kernel_rfl, rfl⟩) ?_
  refine wpAny_take (i := 17) (v := undef) rfl (by kernel_rfl) (by kernel_rfl) (by kernel_rfl) (fun _ _ _ h => h) (Or.inr ⟨by kernel_rfl, rfl⟩) ?_
  refine wpAny_take (i := 18) (v := undef) rfl (by kernel_rfl) (by kernel_rfl) (by kernel_rfl) (fun _ _ _ h => h) (Or.inr ⟨by kernel_rfl, rfl⟩) ?_
  refine wpAny_take (i := 19) (v := undef) rfl (by kernel_rfl) (by kernel_rfl) (by kernel_rfl) (fun _ _ _ h => h) (Or.inr ⟨by kernel_rfl, rfl⟩) ?_
  refine wpAny_take (i := 20) (v := undef) rfl (by kernel_rfl) (by kernel_rfl) (by kernel_rfl) (fun _ _ _ h => h) (Or.inr ⟨by kernel_rfl, rfl⟩) ?_
  refine wpAny_take (i := 21) (v := .bool false) rfl (by kernel_rfl) (by kernel_rfl) (by kernel_rfl) (fun _ _ _ h => h) (Or.inl ⟨by kernel_rfl, by intro _; go_simp; all_goals first | omega | (rw [if_pos (by omega)]; first | done | rfl)⟩) ?_
  refine wpAny_take (i := 22) (v := .bool false) rfl (by kernel_rfl) (by kernel_rfl) (by kernel_rfl) (fun _ _ _ h => h) (Or.inl ⟨by kernel_rfl, by intro _; go_simp; all_goals first | omega | (rw [if_pos (by omega)]; first | done | rfl)⟩) ?_
  refine wpAny_done (by kernel_rfl) ?_ _
  go_simp
  go_wp2
  replace B : Below w.heap.size w v3.drew := B.drew
  replace p2 : Row v3.drew x2 C := p2
  refine wp_region_any (by kernel_rfl) ?_
  change wpAny _ _ _ _ _ _ _ (World.drew _)
  refine wpAny_take (i := 0) (v := .slice a1 n1 cap1) rfl (by kernel_rfl) (by kernel_rfl) (by kernel_rfl) (fun _ _ _ h => h) (Or.inl ⟨by kernel_rfl, by intro _; go_simp; all_goals first | omega | (rw [if_pos (by omega)]; first | done | rfl)⟩) ?_
  refine wpAny_take (i := 1) (v := .int .i64 n1) rfl (by kernel_rfl) (by kernel_rfl) (by kernel_rfl) (fun _ _ _ h => h) (Or.inl ⟨by kernel_rfl, by intro _; go_simp; all_goals first | omega | (rw [if_pos (by omega)]; first | done | rfl)⟩) ?_
  refine wpAny_take (i := 2) (v := .slice a0 0 cap0) rfl (by kernel_rfl) (by kernel_rfl) (by kernel_rfl) (fun _ _ _ h => h) (Or.inl ⟨by kernel_rfl, by intro _; go_simp; all_goals first | omega | (rw [if_pos (by omega)]; first | done | rfl)⟩) ?_
  refine wpAny_take (i := 3) (v := .int .i64 0) rfl (by kernel_rfl) (by kernel_rfl) (by kernel_rfl) (fun _ _ _ h => h) (Or.inl ⟨by kernel_rfl, by intro _; go_simp; all_goals first | omega | (rw [if_pos (by omega)]; first | done | rfl)⟩) ?_
  refine wpAny_take (i := 4) (v := .bool false) rfl (by kernel_rfl) (by kernel_rfl) (by kernel_rfl) (fun _ _ _ h => h) (Or.inl ⟨by kernel_rfl, by intro _; go_simp; all_goals first | omega | (rw [if_pos (by omega)]; first | done | rfl)⟩) ?_
  refine wpAny_take (i := 5) (v := .bool false) rfl (by kernel_rfl) (by kernel_rfl) (by kernel_rfl) (fun _ _ _ h => h) (Or.inl ⟨by kernel_rfl, by intro _; go_simp; all_goals first | omega | (rw [if_pos (by omega)]; first | done | rfl)⟩) ?_
  refine wpAny_take (i := 6) (v := undef) rfl (by kernel_rfl) (by kernel_rfl) (by kernel_rfl) (fun _ _ _ h => h) (Or.inr ⟨by kernel_rfl, rfl⟩) ?_
  refine wpAny_take (i := 7) (v := undef) rfl (by kernel_rfl) (by kernel_rfl) (by kernel_rfl) (fun _ _ _ h => h) (Or.inr ⟨by kernel_rfl, rfl⟩) ?_
  refine wpAny_take (i := 8) (v := undef) rfl (by kernel_rfl) (by kernel_rfl) (by kernel_rfl) (fun _ _ _ h => h) (Or.inr ⟨by kernel_rfl, rfl⟩) ?_
  refine wpAny_take (i := 9) (v := .bool false) rfl (by kernel_rfl) (by kernel_rfl) (by kernel_rfl) (fun _ _ _ h => h) (Or.inl ⟨by kernel_rfl, by intro _; go_simp; all_goals first | omega | (rw [if_pos (by omega)]; first | done | rfl)⟩) ?_
  refine wpAny_take (i := 10) (v := .bool false) rfl (by kernel_rfl) (by kernel_rfl) (by kernel_rfl) (fun _ _ _ h => h) (Or.inl ⟨by kernel_rfl, by intro _; go_simp; all_goals first | omega | (rw [if_pos (by omega)]; first | done | rfl)⟩) ?_
  refine wpAny_take (i := 11) (v := undef) rfl (by kernel_rfl) (by kernel_rfl) (by kernel_rfl) (fun _ _ _ h => h) (Or.inr ⟨by kernel_rfl, rfl⟩) ?_
  refine wpAny_take (i := 12) (v := undef) rfl (by kernel_rfl) (by kernel_rfl) (by kernel_rfl) (fun _ _ _ h => h) (Or.inr ⟨by kernel_rfl, rfl⟩) ?_
  refine wpAny_take (i := 13) (v := .bool false) rfl (by kernel_rfl) (by kernel_rfl) (by kernel_rfl) (fun _ _ _ h => h) (Or.inl ⟨by kernel_rfl, by intro _; go_simp; all_goals first | omega | (rw [if_pos (by omega)]; first | done | rfl)⟩) ?_
  refine wpAny_take (i := 14) (v := .bool false) rfl (by kernel_rfl) (by kernel_rfl) (by kernel_rfl) (fun _ _ _ h => h) (Or.inl ⟨by kernel_rfl, by intro _; go_simp; all_goals first | omega | (rw [if_pos (by omega)]; first | done | rfl)⟩) ?_
  refine wpAny_take (i := 15) (v := undef) rfl (by kernel_rfl) (by kernel_rfl) (by kernel_rfl) (fun _ _ _ h => h) (Or.inr ⟨by kernel_rfl, rfl⟩) ?_
  refine wpAny_take (i := 16) (v := undef) rfl (by kernel_rfl) (by kernel_rfl) (by kernel_rfl) (fun _ _ _ h => h) (Or.inr ⟨by kernel_rfl, rfl⟩) ?_
  refine wpAny_take (i := 17) (v := undef) rfl (by kernel_rfl) (by kernel_rfl) (by kernel_rfl) (fun _ _ _ h => h) (Or.inr ⟨by kernel_rfl, rfl⟩) ?_
  refine wpAny_take (i := 18) (v := undef) rfl (by kernel_rfl) (by kernel_rfl) (by kernel_rfl) (fun _ _ _ h => h) (Or.inr ⟨by kernel_rfl, rfl⟩) ?_
  refine wpAny_take (i := 19) (v := undef) rfl (by kernel_rfl) (by kernel_rfl) (by kernel_rfl) (fun _ _ _ h => h) (Or.inr ⟨by kernel_rfl, rfl⟩) ?_
  refine wpAny_take (i := 20) (v := .bool false) rfl (by kernel_rfl) (by kernel_rfl) (by kernel_rfl) (fun _ _ _ h => h) (Or.inl ⟨by kernel_rfl, by intro _; go_simp; all_goals first | omega | (rw [if_pos (by omega)]; first | done | rfl)⟩) ?_
  refine wpAny_take (i := 21) (v := .bool false) rfl (by kernel_rfl) (by kernel_rfl) (by kernel_rfl) (fun _ _ _ h => h) (Or.inl ⟨by kernel_rfl, by intro _; go_simp; all_goals first | omega | (rw [if_pos (by omega)]; first | done | rfl)⟩) ?_
  refine wpAny_take (i := 22) (v := undef) rfl (by kernel_rfl) (by kernel_rfl) (by kernel_rfl) (fun _ _ _ h => h) (Or.inr ⟨by kernel_rfl, rfl⟩) ?_
  refine wpAny_take (i := 23) (v := undef) rfl (by kernel_rfl) (by kernel_rfl) (by kernel_rfl) (fun _ _ _ h => h) (Or.inr ⟨by kernel_rfl, rfl⟩) ?_
  refine wpAny_take (i := 24) (v := undef) rfl (by kernel_rfl) (by kernel_rfl) (by kernel_rfl) (fun _ _ _ h => h) (Or.inr ⟨by kernel_rfl, rfl⟩) ?_
  refine wpAny_take (i := 25) (v := undef) rfl (by kernel_rfl) (by kernel_rfl) (by kernel_rfl) (fun _ _ _ h => h) (Or.inr ⟨by kernel_rfl, rfl⟩) ?_
  refine wpAny_take (i := 26) (v := .bool false) rfl (by kernel_rfl) (by kernel_rfl) (by kernel_rfl) (fun _ _ _ h => h) (Or.inl ⟨by kernel_rfl, by intro _; go_simp; all_goals first | omega | (rw [if_pos (by omega)]; first | done | rfl)⟩) ?_
  refine wpAny_done (by kernel_rfl) ?_ _
  go_simp
  go_wp2_with (first
      | (clear T4; go_at_call 16; refine (close_r _ _ 0 C C hCC.out _ p2 lC hn).mono ?_; rintro e v4 ⟨x4, d4, rfl, l4, p4, b4⟩; replace B := bthen B b4; replace p2 := p2.kept b4; clear b4)
      | (clear T5; go_at_call 9; refine (equal_open _ _ _ _ 0 C _ p4 p2 lC (by omega)).mono ?_; rintro e v5 ⟨rfl, b5⟩; replace B := bthen B b5; replace p2 := p2.kept b5; clear b5 p4)
      | (clear T6; go_at_call 12; refine (conv_r _ _ _ _ 0 C C C hCV.out _ p2 p2 lC lC hn).mono ?_; rintro e v6 ⟨x6, d6, rfl, l6, p6, b6⟩; replace B := bthen B b6; replace p2 := p2.kept b6; clear b6)
      | (clear T7; go_at_call 9; refine (equal_open _ _ _ _ 0 C _ p6 p2 lC (by omega)).mono ?_; rintro e v7 ⟨rfl, b7⟩; replace B := bthen B b7; clear b7 p2 p6))
  go_ret
  exact ⟨rfl, B⟩

end Go.Proofs.Ytiefkghpmjbhiaa
