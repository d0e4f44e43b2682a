/- PROVED: what the document's own IPass answers. CONDITIONS: none beyond each theorem's own. -/
import Derived.Test.YtolijbhokaieeaaRefRight
namespace Go.Proofs.Ytolijbhokaieeaa
open Go.RowKit

set_option maxHeartbeats 3200000 in
theorem ipass_any (a1 a2 : Option Addr) (c1 c2 : Nat) (t l : List Int) (w : World) (ht : Row w a1 t) (hl : Row w a2 l) (b1 : t.length ≤ 17592186044415) (b2 : l.length ≤ 17592186044415) :
    Calls Try.prog 11 #[.slice a1 t.length c1, .slice a2 l.length c2] w (Ans w (pass t l)) := by
  have hr := iright_any a1 a2 c1 c2 t l w ht hl (by omega) (by omega)
  by_cases h : jright t l
  · obtain ⟨i0, hi, hz0, hz1, hz2⟩ := info_parts Try.info3
    rw [pass_yes h]
    rw [decide_eq_true h] at hr
    have h1 := h.1
    have hpk : Hid (∀ k, k ≤ t.length → 0 ≤ pk t l k ∧ pk t l k ≤ 2199023255552) := fun k hk => pk_in h k hk
    have hti : Hid (∀ k, k < t.length → (0 ≤ t.getD k 0 ∧ t.getD k 0 ≤ 1099511627776) ∧ 0 ≤ l.getD k 0 ∧ l.getD k 0 ≤ 1099511627776) := fun k hk => ⟨h.2.2.1 k hk, h.2.2.2 k (by omega)⟩
    obtain ⟨n, hn⟩ : ∃ n, t.length = n := ⟨_, rfl⟩
    rw [← h1] at hr b2 ⊢
    have hlt1 : ∀ j, j < n → j < t.length := fun j hj => by omega
    have hlt2 : ∀ j, j < n → j < l.length := fun j hj => by omega
    rw [hn] at hr b2 hpk hti ⊢
    replace hlt1 : Hid _ := hlt1
    replace hlt2 : Hid _ := hlt2
    clear h h1 b1 hn
    go_enter Try.func11, Try.ntmps11
    go_wp2_with (go_at_call 8; refine hr.mono ?_; rintro e w1 ⟨rfl, q0, rfl⟩; clear hr)
    have hst : Gath w (.slice none 0 0) (w.drewN q0) (outs (passed t l) 0) := ⟨World.ownsRow_nil _ _ _ _, below_drewN (Below.refl _ _) q0⟩
    go_loopw [5, 15] (fun s i wr => ∃ k : Nat, k ≤ n ∧ i = .int .i64 k ∧ Gath w s wr (outs (passed t l) k)) (fun _ i _ => n - (intOf i).toNat)
    case atStart => exact ⟨0, Nat.zero_le _, rfl, hst⟩
    case round =>
      obtain ⟨k, hk, rfl, hG⟩ := hrel
      clear hst
      by_cases hlt : k < n
      · obtain ⟨g1, o1, rfl, k1⟩ := ht.at (by have := hlt1.out k hlt; omega)
        obtain ⟨g2, o2, rfl, k2⟩ := hl.at (by have := hlt2.out k hlt; omega)
        have r1 : Hid (∀ j, j < n → wr.cell? ⟨g1, o1 + j, none⟩ = some (.int .i64 (t.getD j 0))) := fun j hj => (hG.below.cell (p := ⟨g1, o1 + j, none⟩) (block_lt (k1 j (hlt1.out j hj)))).trans (k1 j (hlt1.out j hj))
        have r2 : Hid (∀ j, j < n → wr.cell? ⟨g2, o2 + j, none⟩ = some (.int .i64 (l.getD j 0))) := fun j hj => (hG.below.cell (p := ⟨g2, o2 + j, none⟩) (block_lt (k2 j (hlt2.out j hj)))).trans (k2 j (hlt2.out j hj))
        have ho1 := hG.own
        have hRl := outs_len (passed t l) k
        clear k1 k2 hlt1 hlt2 ht hl
        go_wp2
        go_loopw [7, 20] (fun v i wi => ∃ m q : Nat, m ≤ k + 1 ∧ i = .int .i64 m ∧ v = .int .i64 (pk t l m) ∧ wi = wr.drewN q) (fun _ i _ => k + 1 - (intOf i).toNat)
        case atStart => exact ⟨0, 0, Nat.zero_le _, rfl, rfl, rfl⟩
        case round =>
          obtain ⟨m, q, hm, rfl, rfl, rfl⟩ := hrel
          by_cases hmk : m < k + 1
          · have hA := hti.out m (by omega)
            have hY := hpk.out m (by omega)
            have cx := r1.out m (by omega)
            have cy := r2.out m (by omega)
            have hs : Hid (pk t l (m + 1) = max (pk t l m) (t.getD m 0 + l.getD m 0)) := rfl
            generalize pk t l m = Y at hY hs ⊢
            generalize t.getD m 0 = x at cx hA hs
            generalize l.getD m 0 = y at cy hA hs
            have hmI : (m : Int) < (k : Int) + 1 := by omega
            have hmn : (m : Int) < n := by omega
            clear hG ho1 hRl hti hpk
            go_wp2
            go_region
            all_goals
              go_wp2
              go_roundw
              case rel => exact ⟨m + 1, q + 1, by omega, by go_num, by rw [hs.out], rfl⟩
              case measure => simp [intOf]; omega
          · obtain e : m = k + 1 := by omega
            have hmI : ¬ (m : Int) < (k : Int) + 1 := by omega
            have hv : Hid (pk t l m = passed t l k) := by show _ = _; rw [e]; rfl
            clear e
            generalize pk t l m = Y at hv ⊢
            have ho2 := own_drew ho1 q
            have hsz := hG.below.size
            go_wp2_with (at_builtin; refine wpList_append_own _ rfl _ _ 22 rfl w.heap.size 3 i0 (.int .i64 0) 1 8 Try.underlying22 hi hz0 hz1 hz2 rfl (by decide) _ _ _ rfl (ho2.alloc _) ⟨wr.heap.size, 0, none⟩ 1 1 [.int .i64 Y] rfl rfl (cell_one_new _ _ _) (by simp [Value.oneCell']) (by unfold maxLen; omega) (by omega) (by simp; omega) ?_; intro t' w2 hown' hgrow _; have hS := hG.next (below_drewN (Below.refl _ _) q) hv.out hown' hgrow; clear hown' hgrow ho1 ho2)
            go_roundw
            case rel => exact ⟨k + 1, by omega, by go_num, hS⟩
            case measure => simp [intOf]; omega
      · obtain rfl : k = n := by omega
        go_wp2
        go_ret
        exact hG.done
  · rw [pass_no h]
    rw [decide_eq_false h] at hr
    generalize t.length = n at *
    generalize l.length = m at *
    clear h
    go_enter Try.func11, Try.ntmps11
    go_wp2_with (go_at_call 8; refine hr.mono ?_; rintro e w1 ⟨rfl, q, rfl⟩; clear hr)
    go_ret
    exact ⟨none, 0, rfl, Nat.le_refl _, .inl rfl, below_drewN (Below.refl _ _) q⟩

end Go.Proofs.Ytolijbhokaieeaa
