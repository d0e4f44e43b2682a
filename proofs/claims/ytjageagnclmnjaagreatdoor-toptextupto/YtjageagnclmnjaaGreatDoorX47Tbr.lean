/- PROVED: what the document's own TBrings answers. CONDITIONS: none beyond each theorem's own. -/
import Derived.Test.YtjageagnclmnjaaGreatDoorX36Lts
import Derived.Test.YtjageagnclmnjaaGreatDoorX46DPlay
import Derived.Test.YtjageagnclmnjaaGreatDoorX35QEdg
import Derived.BigQuiet
namespace Go.Proofs.YtjageagnclmnjaaGreatDoor.D
set_option maxRecDepth 100000
open Go.RowKit K
set_option linter.unusedVariables false

theorem mul_abs {a c : Int} (ha : 1 ≤ a ∧ a ≤ 100) (hc : 0 ≤ c ∧ c ≤ 100) : 0 ≤ a * c ∧ a * c ≤ 10000 :=
  ⟨Int.mul_nonneg (by omega) hc.1, Int.le_trans (Int.mul_le_mul_of_nonneg_right ha.2 hc.1) (by omega)⟩
theorem wgt_abs (who : Int) {ratio : Int} {x : Rx} (hr : 1 ≤ ratio ∧ ratio ≤ 100) (h : (0 ≤ x.c0 ∧ x.c0 ≤ 100) ∧ (0 ≤ x.c1 ∧ x.c1 ≤ 100)) : -10000 ≤ wgt who ratio x ∧ wgt who ratio x ≤ 10000 := by
  have m0 := mul_abs hr h.1
  have m1 := mul_abs hr h.2
  unfold wgt
  split <;> omega
theorem total_abs {f : Rx → Int} {l : List Rx} (h : ∀ x ∈ l, -10000 ≤ f x ∧ f x ≤ 10000) : -10000 * (l.length : Int) ≤ total f l ∧ total f l ≤ 10000 * (l.length : Int) := by
  induction l with
  | nil => simp [total]
  | cons x l ih =>
    have h1 := h x (by simp)
    have h2 := ih fun y hy => h y (by simp [hy])
    simp only [total, List.length_cons]
    omega

set_option maxHeartbeats 1600000 in
theorem brings0 (ratio : Int) (hra : 1 ≤ ratio ∧ ratio ≤ 100) (ao : Option Addr) (cp n : Nat) (R : List Rx) (hn : R.length = n) (hb : n ≤ 1048576) (hin : ∀ x ∈ R, (0 ≤ x.c0 ∧ x.c0 ≤ 100) ∧ (0 ≤ x.c1 ∧ x.c1 ≤ 100)) (w : World) (hr : RRow w ao R) :
    Calls Tryz.prog 16 #[.slice ao n cp, .int .i64 0, .int .i64 ratio] w fun e w' => e = .returned (.int .i64 (total (wgt 0 ratio) R)) ∧ Below w.heap.size w w' := by
  have st : Hid (∀ k, k < n → total (wgt 0 ratio) (R.take (k + 1)) = total (wgt 0 ratio) (R.take k) + ((R.getD k R0).c0 - ratio * (R.getD k R0).c1)) := fun k hk => by
    rw [take_snoc R0 R k (by omega), total_snoc]; rfl
  have bd : Hid (∀ k, k ≤ n → -10000 * (k : Int) ≤ total (wgt 0 ratio) (R.take k) ∧ total (wgt 0 ratio) (R.take k) ≤ 10000 * (k : Int)) := fun k hk => by
    have := total_abs (f := wgt 0 ratio) (l := R.take k) (fun x hx => wgt_abs 0 hra (hin x (List.mem_of_mem_take hx)))
    rw [List.length_take, Nat.min_eq_left (by omega)] at this
    exact this
  have hmem : Hid (∀ k, k < n → R.getD k R0 ∈ R) := fun k hk => by
    rw [List.getD_eq_getElem?_getD, List.getElem?_eq_getElem (by omega)]
    exact List.getElem_mem _
  have hl : Hid (R.length = n) := hn
  have hall : Hid (R.take n = R) := by show R.take n = R; rw [← hn, List.take_length]
  clear hn
  go_enter Tryz.func16, Tryz.ntmps16
  go_wp2
  go_loopw [7, 12] (fun sv i wr => ∃ k : Nat, k ≤ n ∧ i = .int .i64 k ∧ sv = .int .i64 (total (wgt 0 ratio) (R.take k)) ∧ Below w.heap.size w wr) (fun _ i _ => n - (intOf i).toNat)
  case atStart => exact ⟨0, Nat.zero_le _, rfl, rfl, Below.refl _ _⟩
  case round =>
    obtain ⟨k, hk, rfl, rfl, B⟩ := hrel
    by_cases hlt : k < n
    · have q1 := hl.out
      obtain ⟨bb, oo, rfl, hc⟩ := (hr.kept B).at (by omega)
      obtain ⟨x0, x1, x2, x3, x4, x5⟩ := hc k (by omega)
      have hX := hin _ (hmem.out k hlt)
      have hltI : (k : Int) < n := by omega
      have b0 := bd.out k hk
      have b1 := bd.out (k + 1) hlt
      have fin := st.out k hlt
      clear hc q1 st bd hmem hin hall
      generalize R.getD k R0 = X at *
      obtain ⟨s0, s1, g0, g1, l0, l1⟩ := X
      simp only at x0 x1 x2 x3 x4 x5 hX fin
      have hp := mul_abs hra hX.2
      have fin2 : Hid (wrap64 (total (wgt 0 ratio) (R.take k) + wrap64 (g0 - wrap64 (ratio * g1))) = total (wgt 0 ratio) (R.take (k + 1))) := by
        show _ = _
        rw [fin] at b1 ⊢
        generalize ratio * g1 = p at *
        generalize total (wgt 0 ratio) (R.take k) = A0 at *
        rw [IntWalk.wrap64_in p (by omega), IntWalk.wrap64_in (g0 - p) (by omega), IntWalk.wrap64_in (A0 + (g0 - p)) (by omega)]
      have G := Rnd.new wr _ rfl s0 s1 g0 g1 l0 l1
      obtain ⟨g_0, g_1, g_2, g_3, g_4, g_5, -⟩ := id G
      replace B := balloc B (.cells #[.int .i64 s0, .int .i64 s1, .int .i64 g0, .int .i64 g1, .int .i64 l0, .int .i64 l1] 86)
      clear fin b0 b1 hX hp
      generalize total (wgt 0 ratio) (R.take k) = A0 at *
      go_wp2
      go_quiet (fail)
      go_wp2
      go_roundw
      case rel => exact ⟨k + 1, by omega, by go_num, by rw [fin2.out], below_drewN B _⟩
      case measure => simp [intOf]; omega
    · obtain rfl : k = n := by omega
      have hI : decide ((k : Int) < (k : Int)) = false := decide_eq_false (by omega)
      rw [hall.out]
      go_wp2
      go_ret
      exact ⟨rfl, B⟩

set_option maxHeartbeats 1600000 in
theorem brings1 (ratio : Int) (hra : 1 ≤ ratio ∧ ratio ≤ 100) (ao : Option Addr) (cp n : Nat) (R : List Rx) (hn : R.length = n) (hb : n ≤ 1048576) (hin : ∀ x ∈ R, (0 ≤ x.c0 ∧ x.c0 ≤ 100) ∧ (0 ≤ x.c1 ∧ x.c1 ≤ 100)) (w : World) (hr : RRow w ao R) :
    Calls Tryz.prog 16 #[.slice ao n cp, .int .i64 1, .int .i64 ratio] w fun e w' => e = .returned (.int .i64 (total (wgt 1 ratio) R)) ∧ Below w.heap.size w w' := by
  have st : Hid (∀ k, k < n → total (wgt 1 ratio) (R.take (k + 1)) = total (wgt 1 ratio) (R.take k) + ((R.getD k R0).c1 - ratio * (R.getD k R0).c0)) := fun k hk => by
    rw [take_snoc R0 R k (by omega), total_snoc]; rfl
  have bd : Hid (∀ k, k ≤ n → -10000 * (k : Int) ≤ total (wgt 1 ratio) (R.take k) ∧ total (wgt 1 ratio) (R.take k) ≤ 10000 * (k : Int)) := fun k hk => by
    have := total_abs (f := wgt 1 ratio) (l := R.take k) (fun x hx => wgt_abs 1 hra (hin x (List.mem_of_mem_take hx)))
    rw [List.length_take, Nat.min_eq_left (by omega)] at this
    exact this
  have hmem : Hid (∀ k, k < n → R.getD k R0 ∈ R) := fun k hk => by
    rw [List.getD_eq_getElem?_getD, List.getElem?_eq_getElem (by omega)]
    exact List.getElem_mem _
  have hl : Hid (R.length = n) := hn
  have hall : Hid (R.take n = R) := by show R.take n = R; rw [← hn, List.take_length]
  clear hn
  go_enter Tryz.func16, Tryz.ntmps16
  go_wp2
  go_loopw [7, 12] (fun sv i wr => ∃ k : Nat, k ≤ n ∧ i = .int .i64 k ∧ sv = .int .i64 (total (wgt 1 ratio) (R.take k)) ∧ Below w.heap.size w wr) (fun _ i _ => n - (intOf i).toNat)
  case atStart => exact ⟨0, Nat.zero_le _, rfl, rfl, Below.refl _ _⟩
  case round =>
    obtain ⟨k, hk, rfl, rfl, B⟩ := hrel
    by_cases hlt : k < n
    · have q1 := hl.out
      obtain ⟨bb, oo, rfl, hc⟩ := (hr.kept B).at (by omega)
      obtain ⟨x0, x1, x2, x3, x4, x5⟩ := hc k (by omega)
      have hX := hin _ (hmem.out k hlt)
      have hltI : (k : Int) < n := by omega
      have b0 := bd.out k hk
      have b1 := bd.out (k + 1) hlt
      have fin := st.out k hlt
      clear hc q1 st bd hmem hin hall
      generalize R.getD k R0 = X at *
      obtain ⟨s0, s1, g0, g1, l0, l1⟩ := X
      simp only at x0 x1 x2 x3 x4 x5 hX fin
      have hp := mul_abs hra hX.1
      have fin2 : Hid (wrap64 (total (wgt 1 ratio) (R.take k) + wrap64 (g1 - wrap64 (ratio * g0))) = total (wgt 1 ratio) (R.take (k + 1))) := by
        show _ = _
        rw [fin] at b1 ⊢
        generalize ratio * g0 = p at *
        generalize total (wgt 1 ratio) (R.take k) = A0 at *
        rw [IntWalk.wrap64_in p (by omega), IntWalk.wrap64_in (g1 - p) (by omega), IntWalk.wrap64_in (A0 + (g1 - p)) (by omega)]
      have G := Rnd.new wr _ rfl s0 s1 g0 g1 l0 l1
      obtain ⟨g_0, g_1, g_2, g_3, g_4, g_5, -⟩ := id G
      replace B := balloc B (.cells #[.int .i64 s0, .int .i64 s1, .int .i64 g0, .int .i64 g1, .int .i64 l0, .int .i64 l1] 86)
      clear fin b0 b1 hX hp
      generalize total (wgt 1 ratio) (R.take k) = A0 at *
      go_wp2
      go_quiet (fail)
      go_wp2
      go_roundw
      case rel => exact ⟨k + 1, by omega, by go_num, by rw [fin2.out], below_drewN B _⟩
      case measure => simp [intOf]; omega
    · obtain rfl : k = n := by omega
      have hI : decide ((k : Int) < (k : Int)) = false := decide_eq_false (by omega)
      rw [hall.out]
      go_wp2
      go_ret
      exact ⟨rfl, B⟩

theorem brings {who ratio : Int} (hg : Rg who ratio) (ao : Option Addr) (cp n : Nat) (R : List Rx) (hn : R.length = n) (hb : n ≤ 1048576) (hin : ∀ x ∈ R, (0 ≤ x.c0 ∧ x.c0 ≤ 100) ∧ (0 ≤ x.c1 ∧ x.c1 ≤ 100)) (w : World) (hr : RRow w ao R) :
    Calls Tryz.prog 16 #[.slice ao n cp, .int .i64 who, .int .i64 ratio] w fun e w' => e = .returned (.int .i64 (total (wgt who ratio) R)) ∧ Below w.heap.size w w' := by
  rcases (show who = 0 ∨ who = 1 by have := hg.1; omega) with rfl | rfl
  · exact brings0 ratio hg.2 ao cp n R hn hb hin w hr
  · exact brings1 ratio hg.2 ao cp n R hn hb hin w hr
end Go.Proofs.YtjageagnclmnjaaGreatDoor.D
