/- PROVED: what the document's own FPass answers. CONDITIONS: none beyond each theorem's own. -/
import Derived.Test.YtohfgaipalpncaaRefLine
namespace Go.Proofs.Ytohfgaipalpncaa
open Go.RowKit

theorem acc_back (F : Nat → Int) (t k : Nat) (h : k < t) : (acc F t - acc F (t - k)) + F (t - 1 - k) = acc F t - acc F (t - (k + 1)) := by
  have : acc F (t - k) = acc F (t - (k + 1)) + F (t - 1 - k) := by
    rw [show t - k = t - (k + 1) + 1 by omega]
    simp only [acc]
    rw [show t - (k + 1) = t - 1 - k by omega]
  omega

/-- what may go, and what went: none of them is great -/
theorem may_in {R B : Int} {F : Nat → Int} {n : Nat} (hR : inr R) (hB : inr B) (hF : ∀ j, j < n → inr (F j)) (hn : n < 300) (t : Nat) (ht : t < n) (k : Nat) (hk : k ≤ t + 1) :
    0 ≤ may R B (acc (go R B F)) (wa R B F t + F t) t k ∧ may R B (acc (go R B F)) (wa R B F t + F t) t k ≤ 400000000000000 := by
  have a := may_le R B (acc (go R B F)) (wa R B F t + F t) t k
  have w1 := st_in hR hB hF t (by omega)
  have w2 := wa_top hR hB hF t (by omega) (by omega)
  have f1 := hF t ht
  refine ⟨?_, ?_⟩
  · refine le_may _ _ _ _ _ _ _ (by unfold inr at f1; omega) fun i hi => ?_
    have := sum_keeps hR hB hF t (by omega) (t - i) (by omega)
    rw [show t - (t - i) = i by omega] at this
    have := lf_up hR hB i
    rw [lf_succ] at this
    omega
  · have := a.1
    unfold inr at f1
    omega

set_option maxRecDepth 100000 in
set_option maxHeartbeats 6400000 in
theorem fpass_any (R B : Int) (a : Option Addr) (cap : Nat) (z : List Int) (w : World) (hz : Row w a z) (hlz : z.length ≤ 17592186044414) :
    Calls Try.prog 17 #[.agg #[.int .i64 R, .int .i64 B], .slice a z.length cap] w (Ans w (let' R B z)) := by
  obtain ⟨i0, hi, hz0, hz1, hz2⟩ := info_parts Try.info3
  obtain ⟨w0, hw0⟩ : ∃ w0, w.alloc (.cells #[.int .i64 R, .int .i64 B] 23) = w0 := ⟨_, rfl⟩
  have hb0 : Below w.heap.size w w0 := by rw [← hw0]; exact balloc (Below.refl _ _) _
  have hK : Bk w0 w.heap.size R B := by rw [← hw0]; exact Bk.new w R B
  have hzw := hz.kept hb0
  have hb := fright_any R B a cap z w0 hzw hlz
  have cr0 := hK.r
  have cb0 := hK.b
  by_cases h : bright R B z
  · have e : let' R B z = pass R B z := by unfold let'; rw [if_pos h]
    rw [e]
    clear e
    rw [decide_eq_true h] at hb
    obtain ⟨hR, hB, hn0, hF⟩ := h
    unfold pass
    obtain ⟨n, hn⟩ : ∃ n, z.length = n := ⟨_, rfl⟩
    have hz2' : Hid (Row w0 a z) := hzw
    unfold allIn at hF
    rw [hn] at hb hn0 hF hlz ⊢
    replace hn : Hid (z.length = n) := hn
    have hz3 : ∀ v, Below w0.heap.size w0 v → 0 < n → ∃ b o, a = some ⟨b, o, none⟩ ∧ ∀ j, j < n → v.cell? ⟨b, o + j, none⟩ = some (.int .i64 (z.getD j 0)) := fun v hv hp => by
      obtain ⟨b, o, e, k⟩ := (hz2'.out.kept hv).at (by rw [hn.out]; exact hp)
      exact ⟨b, o, e, fun j hj => k j (by rw [hn.out]; exact hj)⟩
    replace hz3 : Hid _ := hz3
    clear hz hzw
    generalize hFd : (fun j => z.getD j 0) = F
    have hFF : ∀ j, z.getD j 0 = F j := fun j => by rw [← hFd]
    clear hFd
    have hFi : ∀ j, j < n → inr (F j) := fun j hj => by rw [← hFF]; exact hF j hj
    replace hFF : Hid _ := hFF
    clear hF
    have hst : Hid (∀ t, t ≤ n → _) := st_in hR hB hFi
    have htop : Hid (∀ t, t ≤ n → _) := fun t ht => wa_top hR hB hFi t ht (Nat.le_of_lt hn0)
    have hinr : Hid (∀ j, j < n → inr (F j)) := hFi
    have hmay : Hid (∀ t, t < n → ∀ k, k ≤ t + 1 → _) := may_in hR hB hFi hn0
    have hgo : Hid (∀ t, t < n → _) := may_go hR hB hFi
    have hacc : Hid (∀ t, t ≤ n → _) := acc_lo (go_in hR hB hFi)
    have hgin : Hid (∀ t, t < n → inr (go R B F t)) := go_in hR hB hFi
    clear hFi
    unfold inr at hR hB
    go_enter Try.func17, Try.ntmps17
    go_wp2_with (go_at_call 10; refine hb.mono ?_; rintro e w1 ⟨rfl, b1⟩; clear hb)
    have hK1 := hK.kept b1
    clear cr0 cb0
    go_loopw [5, 6, 18] (fun o wv i wr => ∃ k : Nat, k ≤ n ∧ i = .int .i64 k ∧ wv = .int .i64 (wa R B F k) ∧ Gath w1 o wr (outs (go R B F) k)) (fun _ _ i _ => n - (intOf i).toNat)
    case atStart => exact ⟨0, Nat.zero_le _, rfl, rfl, Gath.start w1⟩
    case round =>
      obtain ⟨k, hk, rfl, rfl, hG⟩ := hrel
      by_cases hlt : k < n
      · obtain ⟨b, o, rfl, e1⟩ := hz3.out wr (bthen b1 hG.below) (by omega)
        have cx := e1 k hlt
        rw [hFF.out] at cx
        clear e1
        have cr := (hK1.kept hG.below).r
        have cb := (hK1.kept hG.below).b
        have ho1 := hG.own
        have hRl := outs_len (go R B F) k
        have hrow := hG.done
        have hwa := wa_succ R B F k
        have hgk := hgo.out k hlt
        have hmk := hmay.out k hlt
        have hlI : (k : Int) < n := by omega
        have i1 := hst.out k hk
        have i2 := htop.out k hk
        have i3 := hinr.out k hlt
        have i4 := hgin.out k hlt
        unfold inr at i3 i4
        obtain ⟨ao, c5, he, _, hro, _⟩ := hrow
        injection he with he
        subst he
        obtain ⟨g, hg⟩ : ∃ g, go R B F k = g := ⟨_, rfl⟩
        obtain ⟨M, hM0, hM, hMk, hMb, hMs⟩ : ∃ M : Nat → Int, M 0 = wa R B F k + F k ∧ Hid (∀ j : Nat, M (j + 1) = min (M j) (B + (j : Int) * min R B - (acc (go R B F) k - acc (go R B F) (k - j)))) ∧ Hid (M (k + 1) = g) ∧ Hid (∀ j, j ≤ k + 1 → 0 ≤ M j ∧ M j ≤ 400000000000000) ∧ True :=
          ⟨may R B (acc (go R B F)) (wa R B F k + F k) k, rfl, fun j => rfl, hgk.trans hg, hmk, trivial⟩
        clear hgk hmk hMs
        obtain ⟨Sm, hS0, hSn, hSe, hSb, hSM⟩ : ∃ Sm : Nat → Int, Hid (Sm 0 = 0) ∧ Hid (∀ j, j < k → Sm (j + 1) = Sm j + go R B F (k - 1 - j)) ∧ Hid (Sm (k + 1) = Sm k) ∧ Hid (∀ j, j ≤ k → -400000000000000 ≤ Sm j ∧ Sm j ≤ 400000000000000) ∧ Hid (∀ j : Nat, M (j + 1) = min (M j) (B + (j : Int) * min R B - Sm j)) :=
          ⟨fun j => acc (go R B F) k - acc (go R B F) (k - j), Int.sub_self _, fun j hj => (acc_back (go R B F) k j hj).symm, (by show _ - acc _ (k - (k + 1)) = _ - acc _ (k - k); rw [Nat.sub_self, show k - (k + 1) = 0 by omega]),
            fun j hj => by have h1 := hacc.out k hk; have h2 := hacc.out (k - j) (by omega); show -400000000000000 ≤ acc (go R B F) k - acc (go R B F) (k - j) ∧ acc (go R B F) k - acc (go R B F) (k - j) ≤ 400000000000000; omega, hM.out⟩
        clear hM
        have hcel : Hid (∀ d, d < k → inr (go R B F d) ∧ ∃ b5 o5, ao = some ⟨b5, o5, none⟩ ∧ wr.cell? ⟨b5, o5 + d, none⟩ = some (.int .i64 (go R B F d))) := fun d hd => by
          obtain ⟨b5, o5, e5, k5⟩ := hro.at (by rw [hRl]; omega)
          have := k5 d (by rw [hRl]; exact hd)
          rw [outs_getD _ _ _ hd] at this
          exact ⟨hgin.out d (by omega), b5, o5, e5, this⟩
        have hx : Hid (g = go R B F k) := hg.symm
        rw [hg] at hwa i4
        replace hwa : Hid _ := hwa
        rw [hRl] at ho1 hG ⊢
        have hRl2 : Hid _ := hRl
        clear hro hg hRl
        generalize F k = x at cx hM0 hwa i3
        generalize wa R B F k = W at hM0 hwa i1 i2 ⊢
        replace hM0 : Hid _ := hM0
        go_wp2
        go_loopw [9, 10, 29] (fun m sv i v => ∃ j : Nat, j ≤ k + 1 ∧ i = .int .i64 j ∧ m = .int .i64 (M j) ∧ sv = .int .i64 (Sm j) ∧ wr = v) (fun _ _ i _ => k + 1 - (intOf i).toNat)
        case atStart => exact ⟨0, Nat.zero_le _, rfl, by rw [hM0.out], by rw [hS0.out], rfl⟩
        case round =>
          obtain ⟨j, hj, rfl, rfl, rfl, rfl⟩ := hrel
          by_cases hjl : j < k + 1
          · have hjI : (j : Int) < (k : Int) + 1 := by omega
            obtain ⟨hp0, hp1⟩ := mul_in (m := min R B) j (by omega) (by omega) (by omega)
            have m1 := hMb.out j hj
            have s1 := hSb.out j (by omega)
            have hMn := hSM.out j
            by_cases hjk : j < k
            · have hjkI : (j : Int) < k := by omega
              have hSn1 := hSn.out j hjk
              obtain ⟨k1, hk1'⟩ : ∃ k1, k - 1 = k1 := ⟨_, rfl⟩
              obtain ⟨d, hd'⟩ : ∃ d, k1 - j = d := ⟨_, rfl⟩
              have e1 : (k : Int) - 1 = (k1 : Int) := by omega
              have e2 : (k1 : Int) - (j : Int) = (d : Int) := by omega
              have hdk : (d : Int) < (k : Int) := by omega
              obtain ⟨g5, b5, o5, rfl, c5'⟩ := hcel.out d (by omega)
              rw [hk1', hd'] at hSn1
              clear hk1' hd'
              generalize hP : (j : Int) * min R B = P at hp0 hp1 hMn
              generalize go R B F d = y at c5' hSn1 g5
              unfold inr at g5
              generalize hMj : M j = mj at m1 hMn ⊢
              generalize hSj : Sm j = sj at s1 hMn hSn1 ⊢
              replace hMj : Hid _ := hMj
              replace hSj : Hid _ := hSj
              replace hMn : Hid _ := hMn
              replace hSn1 : Hid _ := hSn1
              go_wp2
              go_roundw
              case rel => exact ⟨j + 1, by omega, by go_num, by rw [hMn.out], by rw [hSn1.out], by first | rfl | trivial⟩
              case measure => first | (simp [intOf]; done) | (simp [intOf]; omega)
            · obtain rfl : j = k := by omega
              have hjj : decide ((j : Int) < (j : Int)) = false := decide_eq_false (by omega)
              generalize hP : (j : Int) * min R B = P at hp0 hp1 hMn
              generalize hMj : M j = mj at m1 hMn ⊢
              have hSe1 := hSe.out
              generalize hSj : Sm j = sj at s1 hMn hSe1 ⊢
              replace hMj : Hid _ := hMj
              replace hSj : Hid _ := hSj
              replace hMn : Hid _ := hMn
              replace hSe1 : Hid _ := hSe1
              go_wp2
              go_roundw
              case rel => exact ⟨j + 1, by omega, by go_num, by rw [hMn.out], by rw [hSe1.out], by first | rfl | trivial⟩
              case measure => first | (simp [intOf]; done) | (simp [intOf]; omega)
          · obtain rfl : j = k + 1 := by omega
            rw [hMk.out]
            have hjj : decide (((k + 1 : Nat) : Int) < (k : Int) + 1) = false := decide_eq_false (by omega)
            go_wp2_with (at_builtin; refine wpList_append_own _ rfl _ _ 24 rfl w1.heap.size 3 i0 (.int .i64 0) 1 8 Try.underlying24 hi hz0 hz1 hz2 rfl (by decide) _ _ _ rfl (ho1.alloc _) ⟨wr.heap.size, 0, none⟩ 1 1 [.int .i64 g] rfl rfl (cell_one_new _ _ _) (by simp [Value.oneCell']) (by unfold maxLen; omega) (by omega) (by have := hG.below.size; simp; omega) ?_; intro t' w2 hown' hgrow _; have hSS := hG.next (Below.refl _ _) hx.out (by rw [hRl2.out]; exact hown') hgrow; clear hown' hgrow ho1)
            go_roundw
            case rel => exact ⟨k + 1, by omega, by go_num, by rw [hwa.out], hSS⟩
            case measure => first | (simp [intOf]; done) | (simp [intOf]; omega)
      · obtain rfl : k = n := by omega
        go_wp2
        go_ret
        exact (hG.done.from b1).from hb0
  · have e : let' R B z = [] := by unfold let'; rw [if_neg h]
    rw [e]
    rw [decide_eq_false h] at hb
    go_enter Try.func17, Try.ntmps17
    go_wp2_with (go_at_call 10; refine hb.mono ?_; rintro e w1 ⟨rfl, b1⟩; clear hb)
    go_ret
    exact nil_ans (bthen hb0 b1)

end Go.Proofs.Ytohfgaipalpncaa
