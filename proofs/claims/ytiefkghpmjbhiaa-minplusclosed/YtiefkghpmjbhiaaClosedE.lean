/- PROVED: the steps of MinplusClosed. CONDITIONS: none beyond each theorem's own. -/
import Derived.Test.YtiefkghpmjbhiaaRest
import Derived.Deep.RegionWith
namespace Go.Proofs.Ytiefkghpmjbhiaa
open Go.RowKit
set_option linter.unusedVariables false

set_option maxRecDepth 100000 in
set_option maxHeartbeats 4000000 in
theorem cno (g0 o0 : Nat) (g1 o1 : Nat) (cap0 cap1 : Nat) (z0 z1 C : List Int) (w : World) (n : Nat) (hn2 : 1 ≤ n) (r0 : Row w (some ⟨g0, o0, none⟩) z0) (r1 : Row w (some ⟨g1, o1, none⟩) z1) (e0 : z0.length = n) (e1 : z1.length = n) (k0 : n ≤ cap0) (k1 : n ≤ cap1) (hn : n ≤ 17592186044416)
    (hC : Hid (close z0 = C)) (lC : C.length = n) (hP : Hid (decide (parts C) = true)) (hW : Hid (decide (below (C.drop 1) (z0.drop 1)) = true)) (hCC : Hid (close C = C)) (hCV : Hid (conv C C = C)) (hP1 : Hid (decide (parts z1) = true)) (hW1 : Hid (decide (below (z1.drop 1) (z0.drop 1)) = false)) :
    Calls Try.prog 7 #[.slice (some ⟨g0, o0, none⟩) n cap0, .slice (some ⟨g1, o1, none⟩) n cap1] w fun e w' => e = .returned (.bool true) ∧ Below w.heap.size w w' := by
  have B : Below w.heap.size w w := Below.refl _ _
  have hm : min (1 : Int) n = 1 := by omega
  have hn1 : 1 ≤ n := by omega
  have hnp : (0 : Int) < n := by omega
  have T1 := tok
  have T2 := tok
  have T3 := tok
  have T4 := tok
  have T5 := tok
  have T6 := tok
  have T7 := tok
  have T8 := tok
  have T9 := tok
  have T10 := tok
  go_enter Try.func7, Try.ntmps7
  go_wp2_with (first
      | (clear T1; go_at_call 20; refine (alive_any _).mono ?_; rintro e v1 ⟨rfl, b1⟩; replace B := bthen B b1; clear b1)
      | (clear T2; go_at_call 16; refine (close_r _ _ n z0 C hC.out _ (r0.kept B) e0 hn).mono ?_; rintro e v2 ⟨x2, d2, rfl, l2, p2, b2⟩; replace B := bthen B b2; clear b2; obtain ⟨g2, o2, rfl, -⟩ := p2.at (by omega)))
  replace B : Below w.heap.size w v2.drew := B.drew
  replace p2 : Row v2.drew (some ⟨g2, o2, none⟩) C := p2
  refine wp_region_any (by kernel_rfl) ?_
  change wpAny _ _ _ _ _ _ _ (World.drew _)
  refine wpAny_take (i := 0) (v := .slice (some ⟨g2, o2, none⟩) n d2) rfl (by kernel_rfl) (by kernel_rfl) (by kernel_rfl) (fun _ _ _ h => h) (Or.inl ⟨by kernel_rfl, by intro _; go_simp; all_goals first | omega | (rw [if_pos (by omega)]; first | done | rfl)⟩) ?_
  refine wpAny_ready (rs := [1]) (by kernel_rfl) (by simp) ?_
  refine AllReady.cons rfl (fun K hK => ?_) AllReady.nil
  go_simp
  go_wp2_with (clear T3; go_at_call 18; refine (parts_n _ _ n C _ p2 lC hn true hP.out).mono ?_; rintro e v3 ⟨rfl, b3⟩; replace B := bthen B b3; replace p2 := p2.kept b3; clear b3)
  refine wpAny_take (i := 2) (v := .bool false) rfl (by kernel_rfl) (by kernel_rfl) (by kernel_rfl) (fun _ _ _ h => h) (Or.inl ⟨by kernel_rfl, by intro _; go_simp; all_goals first | omega | (rw [if_pos (by omega)]; first | done | rfl)⟩) ?_
  refine wpAny_take (i := 3) (v := .bool false) rfl (by kernel_rfl) (by kernel_rfl) (by kernel_rfl) (fun _ _ _ h => h) (Or.inl ⟨by kernel_rfl, by intro _; go_simp; all_goals first | omega | (rw [if_pos (by omega)]; first | done | rfl)⟩) ?_
  refine wpAny_take (i := 4) (v := .slice (some ⟨g2, o2, none⟩) n d2) rfl (by kernel_rfl) (by kernel_rfl) (by kernel_rfl) (fun _ _ _ h => h) (Or.inl ⟨by kernel_rfl, by intro _; go_simp; all_goals first | omega | (rw [if_pos (by omega)]; first | done | rfl)⟩) ?_
  refine wpAny_take (i := 5) (v := .int .i64 n) rfl (by kernel_rfl) (by kernel_rfl) (by kernel_rfl) (fun _ _ _ h => h) (Or.inl ⟨by kernel_rfl, by intro _; go_simp; all_goals first | omega | (rw [if_pos (by omega)]; first | done | rfl)⟩) ?_
  refine wpAny_take (i := 6) (v := .slice (some ⟨g0, o0, none⟩) n cap0) rfl (by kernel_rfl) (by kernel_rfl) (by kernel_rfl) (fun _ _ _ h => h) (Or.inl ⟨by kernel_rfl, by intro _; go_simp; all_goals first | omega | (rw [if_pos (by omega)]; first | done | rfl)⟩) ?_
  refine wpAny_take (i := 7) (v := .int .i64 n) rfl (by kernel_rfl) (by kernel_rfl) (by kernel_rfl) (fun _ _ _ h => h) (Or.inl ⟨by kernel_rfl, by intro _; go_simp; all_goals first | omega | (rw [if_pos (by omega)]; first | done | rfl)⟩) ?_
  refine wpAny_take (i := 8) (v := .bool false) rfl (by kernel_rfl) (by kernel_rfl) (by kernel_rfl) (fun _ _ _ h => h) (Or.inl ⟨by kernel_rfl, by intro _; go_simp; all_goals first | omega | (rw [if_pos (by omega)]; first | done | rfl)⟩) ?_
  refine wpAny_take (i := 9) (v := .bool false) rfl (by kernel_rfl) (by kernel_rfl) (by kernel_rfl) (fun _ _ _ h => h) (Or.inl ⟨by kernel_rfl, by intro _; go_simp; all_goals first | omega | (rw [if_pos (by omega)]; first | done | rfl)⟩) ?_
  refine wpAny_take (i := 10) (v := .bool false) rfl (by kernel_rfl) (by kernel_rfl) (by kernel_rfl) (fun _ _ _ h => h) (Or.inl ⟨by kernel_rfl, by intro _; go_simp; all_goals first | omega | (rw [if_pos (by omega)]; first | done | rfl)⟩) ?_
  refine wpAny_take (i := 11) (v := .slice (some ⟨g0, o0, none⟩) n cap0) rfl (by kernel_rfl) (by kernel_rfl) (by kernel_rfl) (fun _ _ _ h => h) (Or.inl ⟨by kernel_rfl, by intro _; go_simp; all_goals first | omega | (rw [if_pos (by omega)]; first | done | rfl)⟩) ?_
  refine wpAny_take (i := 12) (v := .int .i64 n) rfl (by kernel_rfl) (by kernel_rfl) (by kernel_rfl) (fun _ _ _ h => h) (Or.inl ⟨by kernel_rfl, by intro _; go_simp; all_goals first | omega | (rw [if_pos (by omega)]; first | done | rfl)⟩) ?_
  refine wpAny_take (i := 13) (v := .bool true) rfl (by kernel_rfl) (by kernel_rfl) (by kernel_rfl) (fun _ _ _ h => h) (Or.inl ⟨by kernel_rfl, by intro _; go_simp; all_goals first | omega | (rw [if_pos (by omega)]; first | done | rfl)⟩) ?_
  refine wpAny_take (i := 14) (v := .bool true) rfl (by kernel_rfl) (by kernel_rfl) (by kernel_rfl) (fun _ _ _ h => h) (Or.inl ⟨by kernel_rfl, by intro _; go_simp; all_goals first | omega | (rw [if_pos (by omega)]; first | done | rfl)⟩) ?_
  refine wpAny_take (i := 15) (v := .slice (some ⟨g2, o2, none⟩) n d2) rfl (by kernel_rfl) (by kernel_rfl) (by kernel_rfl) (fun _ _ _ h => h) (Or.inl ⟨by kernel_rfl, by intro _; go_simp; all_goals first | omega | (rw [if_pos (by omega)]; first | done | rfl)⟩) ?_
  refine wpAny_take (i := 16) (v := .slice (restAt d2 g2 o2) (n - 1) (d2 - 1)) rfl (by kernel_rfl) (by kernel_rfl) (by kernel_rfl) (fun _ _ _ h => h) (Or.inl ⟨by kernel_rfl, by intro _; go_simp; all_goals first | omega | (rw [if_pos (by omega)]; first | done | rfl)⟩) ?_
  refine wpAny_take (i := 17) (v := .slice (some ⟨g0, o0, none⟩) n cap0) rfl (by kernel_rfl) (by kernel_rfl) (by kernel_rfl) (fun _ _ _ h => h) (Or.inl ⟨by kernel_rfl, by intro _; go_simp; all_goals first | omega | (rw [if_pos (by omega)]; first | done | rfl)⟩) ?_
  refine wpAny_take (i := 18) (v := .slice (restAt cap0 g0 o0) (n - 1) (cap0 - 1)) rfl (by kernel_rfl) (by kernel_rfl) (by kernel_rfl) (fun _ _ _ h => h) (Or.inl ⟨by kernel_rfl, by intro _; go_simp; all_goals first | omega | (rw [if_pos (by omega)]; first | done | rfl)⟩) ?_
  refine wpAny_ready (rs := [19]) (by kernel_rfl) (by simp) ?_
  refine AllReady.cons rfl (fun K hK => ?_) AllReady.nil
  go_simp
  go_wp2_with (clear T4; go_at_call 23; refine (within_n _ _ _ _ (n - 1) (n - 1) (C.drop 1) (z0.drop 1) _ (p2.restAt (by omega)) ((r0.kept B).restAt (by omega)) (by rw [List.length_drop, lC]) (by rw [List.length_drop, e0]) (by omega) (by omega) true hW.out).mono ?_; rintro e v4 ⟨rfl, b4⟩; replace B := bthen B b4; replace p2 := p2.kept b4; clear b4)
  refine wpAny_take (i := 20) (v := .bool false) rfl (by kernel_rfl) (by kernel_rfl) (by kernel_rfl) (fun _ _ _ h => h) (Or.inl ⟨by kernel_rfl, by intro _; go_simp; all_goals first | omega | (rw [if_pos (by omega)]; first | done | rfl)⟩) ?_
  refine wpAny_take (i := 21) (v := .bool false) rfl (by kernel_rfl) (by kernel_rfl) (by kernel_rfl) (fun _ _ _ h => h) (Or.inl ⟨by kernel_rfl, by intro _; go_simp; all_goals first | omega | (rw [if_pos (by omega)]; first | done | rfl)⟩) ?_
  refine wpAny_take (i := 22) (v := .bool false) rfl (by kernel_rfl) (by kernel_rfl) (by kernel_rfl) (fun _ _ _ h => h) (Or.inl ⟨by kernel_rfl, by intro _; go_simp; all_goals first | omega | (rw [if_pos (by omega)]; first | done | rfl)⟩) ?_
  refine wpAny_done (by kernel_rfl) ?_ _
  go_simp
  go_wp2
  replace B : Below w.heap.size w v4.drew := B.drew
  replace p2 : Row v4.drew (some ⟨g2, o2, none⟩) C := p2
  refine wp_region_any (by kernel_rfl) ?_
  change wpAny _ _ _ _ _ _ _ (World.drew _)
  refine wpAny_take (i := 0) (v := .slice (some ⟨g1, o1, none⟩) n cap1) rfl (by kernel_rfl) (by kernel_rfl) (by kernel_rfl) (fun _ _ _ h => h) (Or.inl ⟨by kernel_rfl, by intro _; go_simp; all_goals first | omega | (rw [if_pos (by omega)]; first | done | rfl)⟩) ?_
  refine wpAny_take (i := 1) (v := .int .i64 n) rfl (by kernel_rfl) (by kernel_rfl) (by kernel_rfl) (fun _ _ _ h => h) (Or.inl ⟨by kernel_rfl, by intro _; go_simp; all_goals first | omega | (rw [if_pos (by omega)]; first | done | rfl)⟩) ?_
  refine wpAny_take (i := 2) (v := .slice (some ⟨g0, o0, none⟩) n cap0) rfl (by kernel_rfl) (by kernel_rfl) (by kernel_rfl) (fun _ _ _ h => h) (Or.inl ⟨by kernel_rfl, by intro _; go_simp; all_goals first | omega | (rw [if_pos (by omega)]; first | done | rfl)⟩) ?_
  refine wpAny_take (i := 3) (v := .int .i64 n) rfl (by kernel_rfl) (by kernel_rfl) (by kernel_rfl) (fun _ _ _ h => h) (Or.inl ⟨by kernel_rfl, by intro _; go_simp; all_goals first | omega | (rw [if_pos (by omega)]; first | done | rfl)⟩) ?_
  refine wpAny_take (i := 4) (v := .bool true) rfl (by kernel_rfl) (by kernel_rfl) (by kernel_rfl) (fun _ _ _ h => h) (Or.inl ⟨by kernel_rfl, by intro _; go_simp; all_goals first | omega | (rw [if_pos (by omega)]; first | done | rfl)⟩) ?_
  refine wpAny_take (i := 5) (v := .bool true) rfl (by kernel_rfl) (by kernel_rfl) (by kernel_rfl) (fun _ _ _ h => h) (Or.inl ⟨by kernel_rfl, by intro _; go_simp; all_goals first | omega | (rw [if_pos (by omega)]; first | done | rfl)⟩) ?_
  refine wpAny_take (i := 6) (v := .slice (some ⟨g0, o0, none⟩) n cap0) rfl (by kernel_rfl) (by kernel_rfl) (by kernel_rfl) (fun _ _ _ h => h) (Or.inl ⟨by kernel_rfl, by intro _; go_simp; all_goals first | omega | (rw [if_pos (by omega)]; first | done | rfl)⟩) ?_
  refine wpAny_take (i := 7) (v := .int .i64 n) rfl (by kernel_rfl) (by kernel_rfl) (by kernel_rfl) (fun _ _ _ h => h) (Or.inl ⟨by kernel_rfl, by intro _; go_simp; all_goals first | omega | (rw [if_pos (by omega)]; first | done | rfl)⟩) ?_
  refine wpAny_take (i := 8) (v := .bool true) rfl (by kernel_rfl) (by kernel_rfl) (by kernel_rfl) (fun _ _ _ h => h) (Or.inl ⟨by kernel_rfl, by intro _; go_simp; all_goals first | omega | (rw [if_pos (by omega)]; first | done | rfl)⟩) ?_
  refine wpAny_take (i := 9) (v := .bool true) rfl (by kernel_rfl) (by kernel_rfl) (by kernel_rfl) (fun _ _ _ h => h) (Or.inl ⟨by kernel_rfl, by intro _; go_simp; all_goals first | omega | (rw [if_pos (by omega)]; first | done | rfl)⟩) ?_
  refine wpAny_take (i := 10) (v := .bool true) rfl (by kernel_rfl) (by kernel_rfl) (by kernel_rfl) (fun _ _ _ h => h) (Or.inl ⟨by kernel_rfl, by intro _; go_simp; all_goals first | omega | (rw [if_pos (by omega)]; first | done | rfl)⟩) ?_
  refine wpAny_take (i := 11) (v := .slice (some ⟨g1, o1, none⟩) n cap1) rfl (by kernel_rfl) (by kernel_rfl) (by kernel_rfl) (fun _ _ _ h => h) (Or.inl ⟨by kernel_rfl, by intro _; go_simp; all_goals first | omega | (rw [if_pos (by omega)]; first | done | rfl)⟩) ?_
  refine wpAny_ready (rs := [12]) (by kernel_rfl) (by simp) ?_
  refine AllReady.cons rfl (fun K hK => ?_) AllReady.nil
  go_simp
  go_wp2_with (clear T5; go_at_call 18; refine (parts_n _ _ n z1 _ (r1.kept B) e1 hn true hP1.out).mono ?_; rintro e v5 ⟨rfl, b5⟩; replace B := bthen B b5; replace p2 := p2.kept b5; clear b5)
  refine wpAny_take (i := 13) (v := .bool true) rfl (by kernel_rfl) (by kernel_rfl) (by kernel_rfl) (fun _ _ _ h => h) (Or.inl ⟨by kernel_rfl, by intro _; go_simp; all_goals first | omega | (rw [if_pos (by omega)]; first | done | rfl)⟩) ?_
  refine wpAny_take (i := 14) (v := .bool true) rfl (by kernel_rfl) (by kernel_rfl) (by kernel_rfl) (fun _ _ _ h => h) (Or.inl ⟨by kernel_rfl, by intro _; go_simp; all_goals first | omega | (rw [if_pos (by omega)]; first | done | rfl)⟩) ?_
  refine wpAny_take (i := 15) (v := .slice (some ⟨g1, o1, none⟩) n cap1) rfl (by kernel_rfl) (by kernel_rfl) (by kernel_rfl) (fun _ _ _ h => h) (Or.inl ⟨by kernel_rfl, by intro _; go_simp; all_goals first | omega | (rw [if_pos (by omega)]; first | done | rfl)⟩) ?_
  refine wpAny_take (i := 16) (v := .slice (restAt cap1 g1 o1) (n - 1) (cap1 - 1)) rfl (by kernel_rfl) (by kernel_rfl) (by kernel_rfl) (fun _ _ _ h => h) (Or.inl ⟨by kernel_rfl, by intro _; go_simp; all_goals first | omega | (rw [if_pos (by omega)]; first | done | rfl)⟩) ?_
  refine wpAny_take (i := 17) (v := .slice (some ⟨g0, o0, none⟩) n cap0) rfl (by kernel_rfl) (by kernel_rfl) (by kernel_rfl) (fun _ _ _ h => h) (Or.inl ⟨by kernel_rfl, by intro _; go_simp; all_goals first | omega | (rw [if_pos (by omega)]; first | done | rfl)⟩) ?_
  refine wpAny_take (i := 18) (v := .slice (restAt cap0 g0 o0) (n - 1) (cap0 - 1)) rfl (by kernel_rfl) (by kernel_rfl) (by kernel_rfl) (fun _ _ _ h => h) (Or.inl ⟨by kernel_rfl, by intro _; go_simp; all_goals first | omega | (rw [if_pos (by omega)]; first | done | rfl)⟩) ?_
  refine wpAny_ready (rs := [19]) (by kernel_rfl) (by simp) ?_
  refine AllReady.cons rfl (fun K hK => ?_) AllReady.nil
  go_simp
  go_wp2_with (clear T6; go_at_call 23; refine (within_n _ _ _ _ (n - 1) (n - 1) (z1.drop 1) (z0.drop 1) _ ((r1.kept B).restAt (by omega)) ((r0.kept B).restAt (by omega)) (by rw [List.length_drop, e1]) (by rw [List.length_drop, e0]) (by omega) (by omega) false hW1.out).mono ?_; rintro e v6 ⟨rfl, b6⟩; replace B := bthen B b6; replace p2 := p2.kept b6; clear b6)
  refine wpAny_take (i := 20) (v := .bool false) rfl (by kernel_rfl) (by kernel_rfl) (by kernel_rfl) (fun _ _ _ h => h) (Or.inl ⟨by kernel_rfl, by intro _; go_simp; all_goals first | omega | (rw [if_pos (by omega)]; first | done | rfl)⟩) ?_
  refine wpAny_take (i := 21) (v := .bool false) rfl (by kernel_rfl) (by kernel_rfl) (by kernel_rfl) (fun _ _ _ h => h) (Or.inl ⟨by kernel_rfl, by intro _; go_simp; all_goals first | omega | (rw [if_pos (by omega)]; first | done | rfl)⟩) ?_
  refine wpAny_take (i := 22) (v := undef) rfl (by kernel_rfl) (by kernel_rfl) (by kernel_rfl) (fun _ _ _ h => h) (Or.inr ⟨by kernel_rfl, rfl⟩) ?_
  refine wpAny_take (i := 23) (v := undef) rfl (by kernel_rfl) (by kernel_rfl) (by kernel_rfl) (fun _ _ _ h => h) (Or.inr ⟨by kernel_rfl, rfl⟩) ?_
  refine wpAny_take (i := 24) (v := undef) rfl (by kernel_rfl) (by kernel_rfl) (by kernel_rfl) (fun _ _ _ h => h) (Or.inr ⟨by kernel_rfl, rfl⟩) ?_
  refine wpAny_take (i := 25) (v := undef) rfl (by kernel_rfl) (by kernel_rfl) (by kernel_rfl) (fun _ _ _ h => h) (Or.inr ⟨by kernel_rfl, rfl⟩) ?_
  refine wpAny_take (i := 26) (v := .bool false) rfl (by kernel_rfl) (by kernel_rfl) (by kernel_rfl) (fun _ _ _ h => h) (Or.inl ⟨by kernel_rfl, by intro _; go_simp; all_goals first | omega | (rw [if_pos (by omega)]; first | done | rfl)⟩) ?_
  refine wpAny_done (by kernel_rfl) ?_ _
  go_simp
  go_wp2_with (first
      | (clear T7; go_at_call 16; refine (close_r _ _ n C C hCC.out _ p2 lC hn).mono ?_; rintro e v7 ⟨x7, d7, rfl, l7, p7, b7⟩; replace B := bthen B b7; replace p2 := p2.kept b7; clear b7)
      | (clear T8; go_at_call 9; refine (equal_open _ _ _ _ n C _ p7 p2 lC (by omega)).mono ?_; rintro e v8 ⟨rfl, b8⟩; replace B := bthen B b8; replace p2 := p2.kept b8; clear b8 p7)
      | (clear T9; go_at_call 12; refine (conv_r _ _ _ _ n C C C hCV.out _ p2 p2 lC lC hn).mono ?_; rintro e v9 ⟨x9, d9, rfl, l9, p9, b9⟩; replace B := bthen B b9; replace p2 := p2.kept b9; clear b9)
      | (clear T10; go_at_call 9; refine (equal_open _ _ _ _ n C _ p9 p2 lC (by omega)).mono ?_; rintro e v10 ⟨rfl, b10⟩; replace B := bthen B b10; clear b10 p2 p9))
  go_ret
  exact ⟨rfl, B⟩

end Go.Proofs.Ytiefkghpmjbhiaa
