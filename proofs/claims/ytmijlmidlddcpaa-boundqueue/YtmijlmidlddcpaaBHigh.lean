/- PROVED: what bound.High, Serves and Keeps answer. CONDITIONS: none beyond each theorem's own. -/
import Derived.Test.YtmijlmidlddcpaaConv
import Derived.Test.YtmijlmidlddcpaaOf
import Derived.Test.YtmijlmidlddcpaaBound
namespace Go.Proofs.Ytmijlmidlddcpaa
open Go.RowKit

set_option maxHeartbeats 1600000 in
theorem high_any (a1 a2 : Option Addr) (c1 c2 : Nat) (f g : List Int) (w : World) (hf : Row w a1 f) (hg : Row w a2 g) (h1 : f.length ≤ 17592186044416) (h2 : g.length ≤ 17592186044416) :
    Calls Try.prog 10 #[.slice a1 f.length c1, .slice a2 g.length c2] w fun e w' => e = .returned (.int .i64 (high f g)) ∧ ∃ q, w' = w.drewN q := by
  unfold high
  obtain ⟨m, hm⟩ : ∃ m, min f.length g.length = m := ⟨_, rfl⟩
  have hmi : min (f.length : Int) (g.length : Int) = (m : Int) := by omega
  have hm1 : m ≤ f.length := by omega
  have hm2 : m ≤ g.length := by omega
  rw [hm]
  clear hm
  go_enter Try.func10, Try.ntmps10
  go_wp2
  go_loopw [5, 12] (fun v i wr => ∃ k q : Nat, k ≤ m ∧ i = .int .i64 k ∧ v = .int .i64 (mo (fun j => f.getD j 0) (fun j => g.getD j 0) k) ∧ wr = w.drewN q) (fun _ i _ => m - (intOf i).toNat)
  case atStart => exact ⟨0, 0, Nat.zero_le _, rfl, rfl, rfl⟩
  case round =>
    obtain ⟨k, q, hk, rfl, rfl, rfl⟩ := hrel
    by_cases hlt : k < m
    · obtain ⟨b1, o1, rfl, hF⟩ := hf.at (by omega)
      obtain ⟨b2, o2, rfl, hG⟩ := hg.at (by omega)
      have cx := hF k (by omega)
      have cy := hG k (by omega)
      have hs : Hid (mo (fun j => f.getD j 0) (fun j => g.getD j 0) (k + 1) = max (mo (fun j => f.getD j 0) (fun j => g.getD j 0) k) (less (f.getD k 0) (g.getD k 0))) := rfl
      have hl1 : (k : Int) < f.length := by omega
      have hl2 : (k : Int) < g.length := by omega
      generalize mo (fun j => f.getD j 0) (fun j => g.getD j 0) k = v at hs ⊢
      generalize hx : f.getD k 0 = x at cx hs
      generalize hy : g.getD k 0 = y at cy hs
      clear hF hG hg hf hx hy
      go_wp2
      go_region_with (go_at_call 37; refine (less_any _ _ _).mono ?_; rintro e w'' ⟨rfl, rfl⟩)
      all_goals
        go_wp2
        go_roundw
        case rel => exact ⟨k + 1, q + 1, by omega, by go_num, by rw [hs.out], rfl⟩
        case measure => simp [intOf]; omega
    · obtain rfl : k = m := by omega
      go_wp2
      go_ret
      exact ⟨rfl, q, rfl⟩

set_option maxHeartbeats 1600000 in
theorem serves_any (R L n : Int) (hR0 : -9223372036854775808 ≤ R ∧ R ≤ 9223372036854775807) (hL0 : -9223372036854775808 ≤ L ∧ L ≤ 9223372036854775807) (hn0 : -9223372036854775808 ≤ n ∧ n ≤ 9223372036854775807) (w : World) :
    Calls Try.prog 13 #[.int .i64 R, .int .i64 L, .int .i64 n] w (Ans w (serves R L n)) := by
  by_cases h : inr R ∧ 0 ≤ L
  · have e0 : serves R L n = outs (sv R L) (many n) := by unfold serves; rw [if_pos h]
    rw [e0]
    clear e0
    obtain ⟨M, hM⟩ : ∃ M, many n = M := ⟨_, rfl⟩
    have hMi : min (max n 0) 300 = (M : Int) := by rw [← hM]; unfold many; omega
    have hM3 : M ≤ 300 := by omega
    rw [hM]
    clear hM hn0
    obtain ⟨hR, hL⟩ := h
    have hsv : Hid (∀ t : Nat, t < 300 → 0 ≤ sv R L t ∧ sv R L t ≤ 329853488332800) := fun t ht => sv_in hR t ht hL
    have hR1 := hR.1
    have hR2 := hR.2
    clear hR hR0
    have hmk := run_make_row' (P := Try.prog) 22 3 (.int .i64 0) 8 Try.underlying22 Try.info3 rfl .i64 .i64 M (by omega) (by omega)
    have hst : Cells (w.alloc (.cells (madeCells #[.int .i64 0] M) 3)) w.heap.size M (fill (sv R L) 0) := Cells.start w _ _ fun j _ => rfl
    have hB0 : Below w.heap.size w (w.alloc (.cells (madeCells #[.int .i64 0] M) 3)) := balloc (Below.refl _ _) _
    go_enter Try.func13, Try.ntmps13
    go_wp2
    go_loopw [25] (fun i wr => ∃ k : Nat, k ≤ M ∧ i = .int .i64 k ∧ Cells wr w.heap.size M (fill (sv R L) k) ∧ Below w.heap.size w wr) (fun i _ => M - (intOf i).toNat)
    case atStart => exact ⟨0, Nat.zero_le _, rfl, hst, hB0⟩
    case round =>
      obtain ⟨k, hk, rfl, hC, hB⟩ := hrel
      clear hst hB0 hmk
      by_cases hlt : k < M
      · have cc := hC.c k hlt
        have cf := hC.fz k hlt
        have hN := hC.put (V' := fill (sv R L) (k + 1)) hlt (fill_new (sv R L) k) (fun j _ hj => fill_old (sv R L) k j hj)
        have hX := hsv.out k (by omega)
        obtain ⟨X, hXe⟩ : ∃ X, sv R L k = X := ⟨_, rfl⟩
        rw [hXe] at hX hN
        unfold sv at hXe
        have hltI : (k : Int) < M := by omega
        replace hN : Hid _ := hN
        go_wp2
        go_roundw
        case rel => exact ⟨k + 1, by omega, by go_num, hN.out, hB.setCell (p := ⟨w.heap.size, k, none⟩) (Nat.le_refl _) _⟩
        case measure => simp [intOf]; omega
      · obtain e : k = M := by omega
        subst e
        go_wp2
        go_ret
        exact (hC.ext fun j hj => (fill_all (sv R L) k j hj).symm).done hB
  · have e0 : serves R L n = [] := by unfold serves; rw [if_neg h]
    rw [e0]
    by_cases c1 : R < 0
    · go_enter Try.func13, Try.ntmps13
      go_wp2
      go_ret
      exact ⟨none, 0, rfl, Nat.le_refl _, .inl rfl, Below.refl _ _⟩
    · by_cases c2 : 1099511627776 < R
      · go_enter Try.func13, Try.ntmps13
        go_wp2
        go_ret
        exact ⟨none, 0, rfl, Nat.le_refl _, .inl rfl, Below.refl _ _⟩
      · have c3 : L < 0 := by unfold inr at h; omega
        go_enter Try.func13, Try.ntmps13
        go_wp2
        go_ret
        exact ⟨none, 0, rfl, Nat.le_refl _, .inl rfl, Below.refl _ _⟩

set_option maxHeartbeats 1600000 in
theorem holds_any (a1 a2 : Option Addr) (c1 c2 : Nat) (f r : List Int) (w : World) (hf : Row w a1 f) (hr : Row w a2 r) (h1 : f.length ≤ 17592186044416) (h2 : r.length ≤ 17592186044416) (hc : f.length ≤ c1) :
    Calls Try.prog 15 #[.slice a1 f.length c1, .slice a2 r.length c2] w fun e w' => e = .returned (.bool (decide (holds f r))) ∧ Below w.heap.size w w' := by
  have ho := over_any a1 a1 c1 c1 f f w hf hf h1 h1 hc
  have hol := over_len f f
  obtain ⟨n, hn⟩ : ∃ n, f.length = n := ⟨_, rfl⟩
  have hO : Hid (∀ j, j < n → (over f f).getD j 0 = ov (fun j => f.getD j 0) (fun j => f.getD j 0) f.length f.length j) := fun j hj => over_getD f f j (by omega)
  have hh : Hid (holds f r ↔ ∀ j, j < n → (over f f).getD j 0 ≤ att r j) := by
    show _ ↔ _
    unfold holds
    rw [hn]
    constructor
    · intro k j hj; rw [hO.out j hj, hn]; exact k j hj
    · intro k j hj; have := k j hj; rw [hO.out j hj, hn] at this; exact this
  clear hO
  rw [hn] at ho hol h1 hc ⊢
  generalize over f f = O at ho hol hh
  go_enter Try.func15, Try.ntmps15
  go_wp2_with (go_at_call 41; refine ho.mono ?_; rintro e v ⟨ao, cap, rfl, hlc, rO, bO⟩; rw [hol] at hlc ⊢; clear ho)
  go_loopw [11] (fun i wr => ∃ k : Nat, k ≤ n ∧ i = .int .i64 k ∧ v = wr ∧ ∀ j, j < k → O.getD j 0 ≤ att r j) (fun i _ => n - (intOf i).toNat)
  case atStart => exact ⟨0, Nat.zero_le _, rfl, rfl, fun j hj => by omega⟩
  case round =>
    obtain ⟨k, hk, rfl, rfl, hall⟩ := hrel
    replace hall : Hid _ := hall
    by_cases hlt : k < n
    · obtain ⟨b, o, rfl, hcO⟩ := rO.at (by omega)
      have cx := hcO k (by omega)
      have hlI : (k : Int) < n := by omega
      have ha := at_any a2 c2 r k v (hr.kept bO) h2
      by_cases ht : O.getD k 0 ≤ att r k
      · have hnext : Hid (∀ j, j < k + 1 → O.getD j 0 ≤ att r j) := fun j hj => by
          by_cases e : j = k
          · subst e; exact ht
          · exact hall.out j (by omega)
        generalize O.getD k 0 = x at cx ht
        generalize att r k = y at ha ht
        clear hcO hall
        go_wp2_with (go_at_call 42; refine ha.mono ?_; rintro e w'' ⟨rfl, hw⟩; obtain rfl : v = w'' := hw.symm; clear ha hw)
        go_roundw
        case rel => exact ⟨k + 1, by omega, by go_num, by first | rfl | trivial, hnext.out⟩
        case measure => simp [intOf]; omega
      · have hno : decide (holds f r) = false := decide_eq_false fun q => ht (hh.out.1 q k hlt)
        have ht2 : att r k < O.getD k 0 := by omega
        generalize O.getD k 0 = x at cx ht2
        generalize att r k = y at ha ht2
        clear hcO hall ht
        go_wp2_with (go_at_call 42; refine ha.mono ?_; rintro e w'' ⟨rfl, hw⟩; obtain rfl : v = w'' := hw.symm; clear ha hw)
        go_ret
        exact ⟨by rw [hno]; rfl, bO⟩
    · obtain e : k = n := by omega
      subst e
      have hyes : decide (holds f r) = true := decide_eq_true (hh.out.2 hall.out)
      clear hall
      go_wp2
      go_ret
      exact ⟨by rw [hyes]; rfl, bO⟩

end Go.Proofs.Ytmijlmidlddcpaa
