/- PROVED: what bucket.Pass answers. CONDITIONS: none beyond each theorem's own. -/
import Derived.Test.YtmhdodlgbbaonaaBLine
namespace Go.Proofs.Ytmhdodlgbbaonaa
open Go.RowKit

theorem Bk.drewN {w : World} {O : Nat} {R B : Int} (h : Bk w O R B) (q : Nat) : Bk (w.drewN q) O R B := ⟨h.r, h.b⟩

set_option maxHeartbeats 3200000 in
theorem pass_any (R B : Int) (a : Option Addr) (cap : Nat) (z : List Int) (w : World) (hz : Row w a z) :
    Calls Try.prog 21 #[.agg #[.int .i64 R, .int .i64 B], .slice a z.length cap] w (Ans w (let' R B z)) := by
  have hb := bright_any R B a cap z (w.alloc (.cells #[.int .i64 R, .int .i64 B] 28)) (hz.alloc _)
  by_cases h : bright R B z
  · have e : let' R B z = pass R B z := by unfold let'; rw [if_pos h]
    rw [e]
    clear e
    rw [decide_eq_true h] at hb
    obtain ⟨hR, hB, hn0, hF⟩ := h
    unfold pass
    obtain ⟨n, hn⟩ : ∃ n, z.length = n := ⟨_, rfl⟩
    have hz2 : Hid (Row w a z) := hz
    unfold allIn at hF
    rw [hn] at hb hn0 hF ⊢
    replace hn : Hid (z.length = n) := hn
    have hz3 : ∀ v, Below w.heap.size w v → 0 < n → ∃ b o, a = some ⟨b, o, none⟩ ∧ ∀ j, j < n → v.cell? ⟨b, o + j, none⟩ = some (.int .i64 (z.getD j 0)) := fun v hv hp => by
      obtain ⟨b, o, e, k⟩ := (hz2.out.kept hv).at (by rw [hn.out]; exact hp)
      exact ⟨b, o, e, fun j hj => k j (by rw [hn.out]; exact hj)⟩
    replace hz3 : Hid _ := hz3
    clear hz
    generalize hFd : (fun j => z.getD j 0) = F
    have hFF : ∀ j, z.getD j 0 = F j := fun j => by rw [← hFd]
    clear hFd
    have hFi : ∀ j, j < n → inr (F j) := fun j hj => by rw [← hFF]; exact hF j hj
    replace hFF : Hid _ := hFF
    clear hF
    have hst := st_in hR hB hFi
    have htop := fun t ht => wa_top hR hB hFi t ht (Nat.le_of_lt hn0)
    have hinr := hFi
    replace hst : Hid _ := hst
    replace htop : Hid _ := htop
    replace hinr : Hid _ := hinr
    clear hFi
    unfold inr at hR hB
    go_enter Try.func21, Try.ntmps21
    go_wp2_with (go_at_call 23; refine hb.mono ?_; rintro e w1 ⟨rfl, b1⟩; clear hb; have hmk := run_make_row' (P := Try.prog) 22 3 (.int .i64 0) 8 Try.underlying22 Try.info3 rfl .i64 .i64 n (by omega) (by omega); have hK : Bk w1 w.heap.size R B := (Bk.new w R B).kept b1; have hK2 := (hK.alloc (.cells (madeCells #[.int .i64 0] n) 3)).b)
    have hs0 : Cells (w1.alloc (.cells (madeCells #[.int .i64 0] n) 3)) w1.heap.size n (fill (go R B F) 0) := Cells.start w1 n _ fun j _ => rfl
    go_region
    all_goals
      clear hK2 hmk
      go_wp2
      go_loopw [6, 7, 21] (fun wv hv i wr => ∃ k : Nat, k ≤ n ∧ i = .int .i64 k ∧ wv = .int .i64 (wa R B F k) ∧ hv = .int .i64 (ho R B F k) ∧ Cells wr w1.heap.size n (fill (go R B F) k) ∧ Below w1.heap.size w1 wr) (fun _ _ i _ => n - (intOf i).toNat)
      case atStart => exact ⟨0, Nat.zero_le _, rfl, rfl, rfl, hs0.drewN 1, below_drewN (balloc (Below.refl _ _) _) 1⟩
      case round =>
        obtain ⟨k, hk, rfl, rfl, rfl, hC, hBl⟩ := hrel
        clear hs0
        by_cases hlt : k < n
        · obtain ⟨b, o, rfl, e1⟩ := hz3.out wr (bthen (alloc_up b1) hBl) (by omega)
          have cx := e1 k hlt
          rw [hFF.out] at cx
          clear e1
          have cr := (hK.kept hBl).r
          have cb := (hK.kept hBl).b
          have cc := hC.c k hlt
          have cf := hC.fz k hlt
          have hN := hC.put (V' := fill (go R B F) (k + 1)) hlt (fill_new (go R B F) k) (fun j _ hj => fill_old (go R B F) k j hj)
          have hwa := wa_succ R B F k
          have hho := ho_succ R B F k
          have hgo : go R B F k = min (wa R B F k + F k) (ho R B F k) := rfl
          rw [hgo] at hN hwa hho
          clear hgo
          have hlI : (k : Int) < n := by omega
          have i1 := hst.out k hk
          have i2 := htop.out k hk
          have i3 := hinr.out k hlt
          unfold inr at i3
          replace hwa : Hid _ := hwa
          replace hho : Hid _ := hho
          generalize fill (go R B F) k k = old at cc
          generalize F k = x at *
          generalize wa R B F k = W at *
          generalize ho R B F k = H at *
          have hB2 := hBl.setCell (p := ⟨w1.heap.size, k, none⟩) (Nat.le_refl _) (.int .i64 (min (W + x) H))
          have cr2 := (hK.kept hB2).r
          have cb2 := (hK.kept hB2).b
          clear cr cb
          go_wp2
          go_region
          all_goals
            go_wp2
            go_roundw
            case rel => exact ⟨k + 1, by omega, by go_num, by rw [hwa.out], by rw [hho.out], hN.drewN 1, below_drewN hB2 1⟩
            case measure => simp [intOf]; omega
        · obtain rfl : k = n := by omega
          go_wp2
          go_ret
          have hA := (hC.ext (V' := go R B F) fun j hj => (fill_all (go R B F) k j (by omega)).symm).done hBl
          obtain ⟨ao, cap, e, h1, h2, h3⟩ := hA
          exact ⟨ao, cap, e, h1, h2, bthen (alloc_up b1) h3⟩
  · have e : let' R B z = [] := by unfold let'; rw [if_neg h]
    rw [e]
    rw [decide_eq_false h] at hb
    go_enter Try.func21, Try.ntmps21
    go_wp2_with (go_at_call 23; refine hb.mono ?_; rintro e w1 ⟨rfl, b1⟩; clear hb)
    go_ret
    exact nil_ans (alloc_up b1)

end Go.Proofs.Ytmhdodlgbbaonaa
