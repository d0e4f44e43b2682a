/- PROVED: what queue.Delays answers; slices.Max of numbers from 0 to Most. CONDITIONS: none beyond each theorem's own. -/
import Derived.Test.YtjageagnclmnjabGreatDoorV47BTold
import Derived.Test.YtjageagnclmnjabGreatDoorV45BQPlay
import Derived.Deep.RegionWith
import Derived.Deep.CutRange
namespace Go.Proofs.YtjageagnclmnjabGreatDoor.B
set_option maxRecDepth 100000
open Go.RowKit

theorem Row.drew {w : World} {ao : Option Addr} {zs : List Int} (h : Row w ao zs) : Row w.drew ao zs := h

theorem count_later (x : Int) (G : Nat → Int) (t : Nat) (zs : List Int) (hz : ∀ i, i < zs.length → zs.getD i 0 = G (t + i + 1)) (hs : zs.Pairwise (· ≤ ·)) : zs.countP (· < x) = later x G t zs.length := by
  induction zs generalizing t with
  | nil => rfl
  | cons y ys ih =>
    have h0 : y = G (t + 1) := hz 0 (by simp)
    rw [List.pairwise_cons] at hs
    have h1 := ih (t + 1) (fun i hi => by
      have := hz (i + 1) (by simp; omega)
      rw [show t + 1 + i + 1 = t + (i + 1) + 1 by omega, ← this]; rfl) hs.2
    simp only [List.length_cons, later]
    by_cases c : x ≤ G (t + 1)
    · rw [if_pos c, List.countP_eq_zero]
      intro u hu
      rcases List.mem_cons.1 hu with rfl | hu
      · simp; omega
      · have := hs.1 u hu
        simp; omega
    · rw [if_neg c, List.countP_cons_of_pos (by simp; omega), h1]
theorem sorted_of {zs : List Int} (h : ∀ j, j + 1 < zs.length → zs.getD j 0 ≤ zs.getD (j + 1) 0) : zs.Pairwise (· ≤ ·) := by
  induction zs with
  | nil => exact List.Pairwise.nil
  | cons y ys ih =>
    have hs := ih fun j hj => h (j + 1) (by simp; omega)
    refine List.pairwise_cons.2 ⟨fun u hu => ?_, hs⟩
    cases ys with
    | nil => simp at hu
    | cons z zs =>
      have h0 : y ≤ z := h 0 (by simp)
      rcases List.mem_cons.1 hu with rfl | hu
      · exact h0
      · exact Int.le_trans h0 ((List.pairwise_cons.1 hs).1 u hu)
theorem drop_at (zs : List Int) (k j : Nat) : (zs.drop k).getD j 0 = zs.getD (k + j) 0 := by
  simp [List.getD_eq_getElem?_getD]

theorem search_any (b o c n t : Nat) (f : List Int) (x : Int) (G : Nat → Int) (w : World) (hr : ∀ j, j < n → w.cell? ⟨b, o + j, none⟩ = some (.int .i64 (f.getD j 0))) (hl : f.length = n) (ht : t ≤ n) (h : n ≤ 300) (hG : ∀ j, j < n → f.getD j 0 = G (j + 1)) (hs : ∀ j, j + 1 < n → G (j + 1) ≤ G (j + 1 + 1)) :
    Calls Tryz.prog 30 #[.slice (some ⟨b, o + t, none⟩) (n - t) c, .int .i64 x] w fun e w' => e = .returned (.tuple #[.int .i64 (later x G t (n - t) : Nat), .bool ((f.drop t).contains x)]) ∧ ∃ q, w' = w.drewN q := by
  have hd : (f.drop t).length = n - t := by rw [List.length_drop, hl]
  have hp : (f.drop t).Pairwise (· ≤ ·) := sorted_of fun j hj => by
    rw [hd] at hj
    rw [drop_at, drop_at, hG _ (by omega), hG _ (by omega)]
    exact hs (t + j) (by omega)
  have hc := Tryz.slices_BinarySearch_int b (o + t) (n - t) c (f.drop t) x w (by omega) (by omega) (fun j hj => by
    rw [drop_at, Nat.add_assoc]
    rw [hd] at hj
    exact hr (t + j) (by omega)) (by rw [← hd, List.take_length]; exact hp)
  rw [← hd, List.take_length, hd] at hc
  have hk := count_later x G t (f.drop t) (fun i hi => by
    rw [hd] at hi
    rw [drop_at, hG _ (by omega)]) hp
  rw [hd] at hk
  rw [hk] at hc
  exact hc

/-- the rest of what has come in all -/
theorem of_rest (a : Option Addr) (c n : Nat) (f S : List Int) (hS : (of f).drop 1 = S) (w : World) (k : Row w a f) (e1 : f.length = n) (h : n ≤ 17592186044415) :
    Calls Tryz.prog 16 #[.slice a n c] w fun e w' => ∃ b o d A, e = .returned (.slice (some ⟨b, o, none⟩) (n + 1) d) ∧ n + 1 ≤ d ∧ (if d = 1 then some (⟨b, o, none⟩ : Addr) else some ⟨b, o + 1, none⟩) = A ∧ Row w' A S ∧ Below w.heap.size w w' := by
  refine (of_r a c n f _ rfl w k e1 h).mono fun e w' hq => ?_
  obtain ⟨ao, d, rfl, hd, hr, hB⟩ := hq
  have hl : (of f).length = n + 1 := by rw [of_len, e1]
  obtain ⟨b, o, rfl, hc⟩ := hr.at (by omega)
  refine ⟨b, o, d, _, rfl, hd, rfl, ?_, hB⟩
  subst hS
  by_cases e : d = 1
  · exact .inl (List.eq_nil_of_length_eq_zero (by rw [List.length_drop]; omega))
  · rw [if_neg e]
    refine .inr ⟨b, o + 1, rfl, fun j hj => ?_⟩
    rw [List.length_drop] at hj
    rw [drop_at, Nat.add_assoc]
    exact hc (1 + j) (by omega)

set_option maxHeartbeats 3200000 in
theorem delays_go (R : Int) (a : Option Addr) (cap n : Nat) (z P Y Z S1 S2 : List Int) (A G : Nat → Int) (w : World) (hz : Row w a z) (en : Hid (z.length = n)) (hn : n < 300) (hb : Hid (bright R 1099511627776 z))
    (hP : Hid (∀ v, Row v a z → Calls Tryz.prog 11 #[.int .i64 R, .int .i64 1099511627776, .slice a n cap] v (Ans3 v n P Y Z))) (lP : Hid (P.length = n))
    (hS1 : Hid ((of z).drop 1 = S1)) (hS2 : Hid ((of P).drop 1 = S2)) (l1 : Hid (S1.length = n)) (l2 : Hid (S2.length = n)) (g1 : Hid (∀ j, j < n → S1.getD j 0 = A (j + 1))) (g2 : Hid (∀ j, j < n → S2.getD j 0 = G (j + 1))) (hs : Hid (∀ j, j + 1 < n → G (j + 1) ≤ G (j + 1 + 1))) :
    Calls Tryz.prog 12 #[.int .i64 R, .slice a n cap] w (AnsN w n (outs (delay A G n) n)) := by
  have hr : Hid (∀ v, Row v a z → Calls Tryz.prog 10 #[.int .i64 R, .int .i64 1099511627776, .slice a n cap] v fun e w' => e = .returned (.bool true) ∧ Below v.heap.size v w') := fun v kv => by
    have := qright_any R 1099511627776 a cap z v kv
    rw [decide_eq_true hb.out, en.out] at this
    exact this
  have T1 : Hid True := trivial
  have T2 : Hid True := trivial
  have B : Below w.heap.size w w := Below.refl _ _
  go_enter Tryz.func12, Tryz.ntmps12
  go_upto_region 4 with (first
    | (clear T1; go_at_call 10; refine (hr.out _ hz).mono ?_; rintro e v1 ⟨rfl, b1⟩; replace hz := hz.kept b1; replace B := bthen B b1; clear b1)
    | (clear T2; go_at_call 11; refine (hP.out _ hz).mono ?_; rintro e v2 ⟨a1, c1, a2, c2, a3, c3, rfl, _, r1, _, _, b2⟩; replace hz := hz.kept b2; replace B := bthen B b2; clear b2))
  go_cut [8, 9] from 25 to 30 (fun x y wc => ∃ A1 d1 A2 d2, x = .slice A1 n d1 ∧ n ≤ d1 ∧ y = .slice A2 n d2 ∧ n ≤ d2 ∧ Row wc A1 S1 ∧ Row wc A2 S2 ∧ Below w.heap.size w wc)
  case first =>
    have T3 : Hid True := trivial
    have T4 : Hid True := trivial
    go_region_with (first
      | (clear T3; go_at_call 16; refine (of_rest a _ n z S1 hS1.out _ hz.drew en.out (by omega)).mono ?_; rintro e v3 ⟨b, o, d, A1, rfl, hd1, hA1, q1, b3⟩; replace B := bthen B.drew b3; replace r1 := r1.drew.kept b3; clear b3)
      | (clear T4; go_at_call 16; refine (of_rest a1 _ n P S2 hS2.out _ r1 lP.out (by omega)).mono ?_; rintro e v4 ⟨b', o', d', A2, rfl, hd2, hA2, q2, b4⟩; replace B := bthen B b4; replace q1 := q1.kept b4; clear b4))
    all_goals
      go_wp2
      go_meet
      exact ⟨_, _, _, _, rfl, by omega, rfl, by omega, q1, q2, B⟩
  case rest =>
    obtain ⟨A1, d1, A2, d2, rfl, h1, rfl, h2, q1, q2, B2⟩ := hcut
    have hmk := run_make_row' (P := Tryz.prog) 24 3 (.int .i64 0) 8 Tryz.underlying24 Tryz.info3 rfl .i64 .i64 n (by omega) (by omega)
    have hst : Cells (wc.alloc (.cells (madeCells #[.int .i64 0] n) 3)) wc.heap.size n (fill (delay A G n) 0) := Cells.start wc n _ fun j _ => rfl
    have hB0 : Below wc.heap.size wc (wc.alloc (.cells (madeCells #[.int .i64 0] n) 3)) := balloc (Below.refl _ _) _
    clear hz B r1 hr hP
    go_wp2
    clear hmk
    go_loopw [36] (fun i wr => ∃ k : Nat, k ≤ n ∧ i = .int .i64 k ∧ Cells wr wc.heap.size n (fill (delay A G n) k) ∧ Below wc.heap.size wc wr) (fun i _ => n - (intOf i).toNat)
    case atStart => exact ⟨0, Nat.zero_le _, rfl, hst, hB0⟩
    case round =>
      obtain ⟨k, hk, rfl, hC, hBl⟩ := hrel
      clear hst hB0
      by_cases hlt : k < n
      · obtain ⟨b1, o1, rfl, e1⟩ := (q1.kept hBl).at (by rw [l1.out]; omega)
        obtain ⟨b2, o2, rfl, e2⟩ := (q2.kept hBl).at (by rw [l2.out]; omega)
        have cx := e1 k (by rw [l1.out]; omega)
        rw [g1.out k hlt] at cx
        have hcs : Hid (∀ q, Calls Tryz.prog 30 #[.slice (some ⟨b2, o2 + k, none⟩) (n - k) (d2 - k), .int .i64 (A (k + 1))] (wr.drewN q) fun e w' => e = .returned (.tuple #[.int .i64 (later (A (k + 1)) G k (n - k) : Nat), .bool ((S2.drop k).contains (A (k + 1)))]) ∧ ∃ m, w' = (wr.drewN q).drewN m) := fun q =>
          search_any b2 o2 (d2 - k) n k S2 (A (k + 1)) G (wr.drewN q) (fun j hj => e2 j (by rw [l2.out]; exact hj)) l2.out hk (by omega) g2.out hs.out
        have hdl : Hid (delay A G n k = if k + later (A (k + 1)) G k (n - k) = n then -1 else (later (A (k + 1)) G k (n - k) : Int)) := rfl
        have hle := later_le (A (k + 1)) G k (n - k)
        clear e1 e2 q1 q2
        generalize later (A (k + 1)) G k (n - k) = L at *
        generalize (S2.drop k).contains (A (k + 1)) = ok at *
        generalize A (k + 1) = x at *
        have cc := hC.c k hlt
        have cf := hC.fz k hlt
        have hN := fun v q hv => (hC.drewN q).put (V' := fill (delay A G n) (k + 1)) (v := v) hlt ((fill_new (delay A G n) k).trans hv) (fun j _ hj => fill_old (delay A G n) k j hj)
        replace hN : Hid _ := hN
        generalize fill (delay A G n) k k = old at cc
        have hlI : (k : Int) < n := by omega
        have hkd : ¬ d2 = k := by omega
        have hkd1 : (k : Int) ≤ n := by omega
        have hkd2 : (k : Int) ≤ d2 := by omega
        go_wp2
        go_quiet ((go_at_call 30; refine Calls.quiet_of (hcs.out _)))
        have hL0 : (0 : Int) ≤ L := by omega
        have hL1 : (L : Int) ≤ 300 := by omega
        by_cases hq : k + L = n
        · have hqI : (k : Int) + L = n := by omega
          have hv : Hid (delay A G n k = -1) := by show _ = _; rw [hdl.out, if_pos hq]
          go_wp2
          go_roundw
          case rel => exact ⟨k + 1, by omega, by go_num, hN.out _ _ hv.out, (below_drewN hBl _).setCell (p := ⟨wc.heap.size, k, none⟩) (Nat.le_refl _) _⟩
          case measure => simp [intOf]; omega
        · have hqI : ¬ (k : Int) + L = n := by omega
          have hv : Hid (delay A G n k = L) := by show _ = _; rw [hdl.out, if_neg hq]
          go_wp2
          go_roundw
          case rel => exact ⟨k + 1, by omega, by go_num, hN.out _ _ hv.out, (below_drewN hBl _).setCell (p := ⟨wc.heap.size, k, none⟩) (Nat.le_refl _) _⟩
          case measure => simp [intOf]; omega
      · obtain rfl : k = n := by omega
        go_wp2
        go_ret
        have hA := (hC.ext (V' := delay A G k) fun j hj => (fill_all (delay A G k) k j (by omega)).symm).done hBl
        obtain ⟨ao, cap, e, h1, h2, h3⟩ := hA
        rw [outs_len] at e h1
        exact ⟨ao, cap, e, h1, h2, bthen B2 h3⟩

theorem acc_next {G : Nat → Int} {n : Nat} (h : ∀ j, j < n → inr (G j)) (j : Nat) (hj : j < n) : acc G j ≤ acc G (j + 1) := by
  have := h j hj
  unfold inr at this
  simp only [acc]; omega
theorem outs_bright {R M Q N : Int} {s : List Int} {f : Nat → Int} (h : bright R M s) (hQ : inr Q) (hN : inr N) (hf : ∀ j, j < s.length → inr (f j)) : bright Q N (outs f s.length) :=
  ⟨hQ, hN, by rw [outs_len]; exact h.2.2.1, fun j hj => by rw [outs_len] at hj; rw [outs_getD _ _ _ hj]; exact hf j hj⟩
theorem of_outs {R M : Int} {s : List Int} {f : Nat → Int} (h : bright R M s) (hf : ∀ j, j < s.length → inr (f j)) (t : Nat) (ht : t ≤ s.length) : (of (outs f s.length)).getD t 0 = acc f t := by
  rw [of_getD (outs_bright h h.1 h.2.1 hf) t (by rw [outs_len]; exact ht)]
  exact acc_ext t fun j hj => outs_getD _ _ _ (by omega)

/-- what Delays answers where it is Right -/
theorem delays_any (R : Int) (a : Option Addr) (cap n : Nat) (z : List Int) (w : World) (hz : Row w a z) (en : z.length = n) (h : bright R 1099511627776 z) (D : List Int) (hD : dels R z = D) :
    Calls Tryz.prog 12 #[.int .i64 R, .slice a n cap] w (AnsN w n D) := by
  subst en
  have e : dels R z = outs (delay (acc fun j => z.getD j 0) (acc (qg R 1099511627776 fun j => z.getD j 0)) z.length) z.length := by unfold dels; rw [if_pos h]
  rw [← hD, e]
  have hg := qg_in h.1 h.2.1 h.2.2.2
  refine delays_go R a cap z.length z _ _ _ _ _ _ _ w hz rfl h.2.2.1 h (fun v kv => play_any R 1099511627776 a cap z v kv h) (outs_len _ _) rfl rfl (by show _ = _; rw [List.length_drop, of_len]; rfl) (by show _ = _; rw [List.length_drop, of_len, outs_len]; rfl) (fun j hj => ?_) (fun j hj => ?_) (fun j hj => ?_)
  · rw [drop_at, of_getD h _ (by omega), Nat.add_comm]
  · rw [drop_at, of_outs h hg _ (by omega), Nat.add_comm]
  · exact acc_next hg (j + 1) hj

end Go.Proofs.YtjageagnclmnjabGreatDoor.B
