/- PROVED: what the document's own FLine answers. CONDITIONS: none beyond each theorem's own. -/
import Derived.Test.YtohfgaipalpncaaRefRight
namespace Go.Proofs.Ytohfgaipalpncaa
open Go.RowKit

theorem bright_nil {R B : Int} (hR : inr R) (hB : inr B) : bright R B [] := ⟨hR, hB, by simp, fun j hj => by simp at hj⟩
theorem fright_nil (R B : Int) (w : World) (b : Bool) (hb : decide (bright R B []) = b) :
    Calls Try.prog 10 #[.agg #[.int .i64 R, .int .i64 B], .slice none 0 0] w fun e w' => e = .returned (.bool b) ∧ Below w.heap.size w w' := by
  subst hb; exact fright_any R B none 0 [] w (.inl rfl) (by simp)

theorem Ans.from {w w0 : World} {R : List Int} {e : Ending} {w' : World} (b : Below w.heap.size w w0) (h : Ans w0 R e w') : Ans w R e w' := by
  obtain ⟨ao, cap, h1, h2, h3, h4⟩ := h
  exact ⟨ao, cap, h1, h2, h3, bthen b h4⟩

set_option maxRecDepth 100000 in
set_option maxHeartbeats 3200000 in
theorem fline_nat (R B n : Int) (u : Nat) (hu : min (max n 0) 300 = (u : Int)) (w : World) :
    Calls Try.prog 13 #[.agg #[.int .i64 R, .int .i64 B], .int .i64 n] w (Ans w (line R B u)) := by
  obtain ⟨i0, hi, hz0, hz1, hz2⟩ := info_parts Try.info3
  obtain ⟨w0, hw0⟩ : ∃ w0, w.alloc (.cells #[.int .i64 R, .int .i64 B] 23) = w0 := ⟨_, rfl⟩
  have hb0 : Below w.heap.size w w0 := by rw [← hw0]; exact balloc (Below.refl _ _) _
  have hK : Bk w0 w.heap.size R B := by rw [← hw0]; exact Bk.new w R B
  by_cases h : inr R ∧ inr B
  · rw [line_right h.1 h.2]
    have hbr := decide_eq_true (bright_nil h.1 h.2)
    replace hbr : Hid _ := hbr
    obtain ⟨hR, hB⟩ := h
    have hl : Hid (∀ k : Nat, lf R B (k + 1) = B + (k : Int) * min R B) := lf_succ R B
    have hl0 : Hid (lf R B 0 = 0) := rfl
    generalize lf R B = L at hl hl0 ⊢
    unfold inr at hR hB
    go_enter Try.func13, Try.ntmps13
    go_wp2
    go_loopw [5, 6] (fun o i wr => ∃ k : Nat, k ≤ u ∧ i = .int .i64 k ∧ Gath w0 o wr (outs L k)) (fun _ i _ => u - (intOf i).toNat)
    case atStart => exact ⟨0, Nat.zero_le _, rfl, Gath.start w0⟩
    case round =>
      obtain ⟨k, hk, rfl, hG⟩ := hrel
      by_cases hlt : k < u
      · have h1 : (k : Int) < n := by omega
        have h2 : (k : Int) < 300 := by omega
        have hk' := hK.kept hG.below
        have cr0 := hk'.r
        have cb0 := hk'.b
        have T1 := True.intro
        have hRl := outs_len L k
        have hft := fright_nil R B wr true hbr.out
        by_cases h0 : k = 0
        · subst h0
          have hx : Hid (0 = L 0) := hl0.out.symm
          go_wp2_with (first
            | (go_at_call 10; refine hft.mono ?_; rintro e w1 ⟨rfl, b1⟩; clear hft; have ho1 := own_kept hG.own b1)
            | (at_builtin; refine wpList_append_own _ rfl _ _ 24 rfl w0.heap.size 3 i0 (.int .i64 0) 1 8 Try.underlying24 hi hz0 hz1 hz2 rfl (by decide) _ _ _ rfl (ho1.alloc _) ⟨w1.heap.size, 0, none⟩ 1 1 [.int .i64 0] rfl rfl (cell_one_new _ _ _) (by simp [Value.oneCell']) (by unfold maxLen; omega) (by omega) (by have := (bthen hG.below b1).size; simp; omega) ?_; intro t' w2 hown' hgrow _; have hS := hG.next b1 hx.out hown' hgrow; clear hown' hgrow ho1))
          go_roundw
          case rel => exact ⟨0 + 1, by omega, by go_num, hS⟩
          case measure => simp [intOf]; omega
        · obtain ⟨v, hv⟩ : ∃ v, k = v + 1 := ⟨k - 1, by omega⟩
          have hvI : (k : Int) - 1 = (v : Int) := by omega
          have h3 : (0 : Int) < k := by omega
          obtain ⟨hp0, hp1⟩ := mul_in (m := min R B) v (by omega) (by omega) (by omega)
          have hx : Hid (B + (v : Int) * min R B = L k) := by rw [hv]; exact (hl.out v).symm
          clear hv h0
          generalize hP : (v : Int) * min R B = P at hp0 hp1 hx
          go_wp2_with (first
            | (go_at_call 10; refine hft.mono ?_; rintro e w1 ⟨rfl, b1⟩; clear hft; have ho1 := own_kept hG.own b1; have cr := (hk'.kept b1).r; have cb := (hk'.kept b1).b)
            | (at_builtin; refine wpList_append_own _ rfl _ _ 24 rfl w0.heap.size 3 i0 (.int .i64 0) 1 8 Try.underlying24 hi hz0 hz1 hz2 rfl (by decide) _ _ _ rfl (ho1.alloc _) ⟨w1.heap.size, 0, none⟩ 1 1 [.int .i64 (B + P)] rfl rfl (cell_one_new _ _ _) (by simp [Value.oneCell']) (by unfold maxLen; omega) (by omega) (by have := (bthen hG.below b1).size; simp; omega) ?_; intro t' w2 hown' hgrow _; have hS := hG.next b1 hx.out hown' hgrow; clear hown' hgrow ho1))
          go_roundw
          case rel => exact ⟨k + 1, by omega, by go_num, hS⟩
          case measure => simp [intOf]; omega
      · obtain rfl : k = u := by omega
        by_cases h1 : (k : Int) < n
        · have h2 : decide ((k : Int) < 300) = false := decide_eq_false (by omega)
          go_wp2
          go_ret
          exact hG.done.from hb0
        · have h2 : decide ((k : Int) < n) = false := decide_eq_false h1
          clear h1
          go_wp2
          go_ret
          exact hG.done.from hb0
  · have e : line R B u = [] := by unfold line; rw [if_neg h]
    rw [e]
    have hbr := decide_eq_false (show ¬ bright R B [] from fun k => h ⟨k.1, k.2.1⟩)
    replace hbr : Hid _ := hbr
    clear e
    go_enter Try.func13, Try.ntmps13
    go_wp2
    go_loopw [5, 6] (fun o i wr => i = .int .i64 0 ∧ o = .slice none 0 0 ∧ w0 = wr) (fun _ _ _ => 0)
    case atStart => exact ⟨rfl, rfl, rfl⟩
    case round =>
      obtain ⟨rfl, rfl, rfl⟩ := hrel
      have hft := fright_nil R B w0 false hbr.out
      have cr0 := hK.r
      have cb0 := hK.b
      by_cases h1 : 0 < n
      · go_wp2_with (go_at_call 10; refine hft.mono ?_; rintro e w1 ⟨rfl, b1⟩; clear hft)
        go_ret
        exact nil_ans (bthen hb0 b1)
      · have h2 : decide (0 < n) = false := decide_eq_false h1
        clear h1
        go_wp2
        go_ret
        exact nil_ans hb0

end Go.Proofs.Ytohfgaipalpncaa
