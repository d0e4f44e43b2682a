/- PROVED: what bucket.Line answers. CONDITIONS: none beyond each theorem's own. -/
import Derived.Test.YtmijlmidlddcpaaConv
import Derived.Test.YtmijlmidlddcpaaBRight
namespace Go.Proofs.Ytmijlmidlddcpaa
open Go.RowKit

/-- a bucket of the call's own, in block O -/
structure Bk (w : World) (O : Nat) (R B : Int) : Prop where
  r : w.cell? ⟨O, 0, none⟩ = some (.int .i64 R)
  b : w.cell? ⟨O, 1, none⟩ = some (.int .i64 B)
theorem Bk.new (w : World) (R B : Int) : Bk (w.alloc (.cells #[.int .i64 R, .int .i64 B] 30)) w.heap.size R B :=
  ⟨by rw [World.cell?_alloc_at _ _ _ _ rfl]; rfl, by rw [World.cell?_alloc_at _ _ _ _ rfl]; rfl⟩
theorem Bk.kept {w w' : World} {O : Nat} {R B : Int} (h : Bk w O R B) (b : Below w.heap.size w w') : Bk w' O R B :=
  ⟨(b.cell (p := ⟨O, 0, none⟩) (block_lt h.r)).trans h.r, (b.cell (p := ⟨O, 1, none⟩) (block_lt h.b)).trans h.b⟩
theorem Bk.alloc {w : World} {O : Nat} {R B : Int} (h : Bk w O R B) (o : Obj) : Bk (w.alloc o) O R B := h.kept (balloc (Below.refl _ _) o)
theorem alloc_up {w w1 : World} {o : Obj} (h : Below (w.alloc o).heap.size (w.alloc o) w1) : Below w.heap.size w w1 := bthen (balloc (Below.refl _ _) o) h

theorem nil_ans {w w' : World} (b : Below w.heap.size w w') : Ans w [] (.returned (.slice none 0 0)) w' := ⟨none, 0, rfl, Nat.le_refl _, .inl rfl, b⟩

theorem mul_in {m : Int} (k : Nat) (h0 : 0 ≤ m) (h1 : m ≤ 1099511627776) (hk : k ≤ 300) : 0 ≤ (k : Int) * m ∧ (k : Int) * m ≤ 329853488332800 := by
  refine ⟨Int.mul_nonneg (by omega) h0, ?_⟩
  have h2 : (k : Int) * m ≤ 300 * m := Int.mul_le_mul_of_nonneg_right (by omega) h0
  omega

set_option maxHeartbeats 1600000 in
theorem line_nat (R B n : Int) (u : Nat) (hu : min (max n 0) 300 = (u : Int)) (w : World) :
    Calls Try.prog 20 #[.agg #[.int .i64 R, .int .i64 B], .int .i64 n] w (Ans w (line R B u)) := by
  have hb := bright_any R B none 0 [] (w.alloc (.cells #[.int .i64 R, .int .i64 B] 30)) (.inl rfl)
  by_cases h : inr R ∧ inr B
  · rw [line_right h.1 h.2]
    rw [decide_eq_true (show bright R B [] from ⟨h.1, h.2, by simp, fun j hj => by simp at hj⟩)] at hb
    obtain ⟨hR, hB⟩ := h
    have hl : Hid (∀ k : Nat, lf R B (k + 1) = B + (k : Int) * min R B) := lf_succ R B
    have hl0 : Hid (lf R B 0 = 0) := rfl
    generalize lf R B = L at hl hl0 ⊢
    unfold inr at hR hB
    go_enter Try.func20, Try.ntmps20
    go_wp2_with (go_at_call 18; refine hb.mono ?_; rintro e w1 ⟨rfl, b1⟩; clear hb; have hmk := run_make_row' (P := Try.prog) 22 3 (.int .i64 0) 8 Try.underlying22 Try.info3 rfl .i64 .i64 u (by omega) (by omega))
    have hst : Cells (w1.alloc (.cells (madeCells #[.int .i64 0] u) 3)) w1.heap.size u (fill L 1) := Cells.start w1 u _ fun j _ => by
      unfold fill
      by_cases c : j < 1
      · obtain rfl : j = 0 := by omega
        rw [if_pos c, hl0.out]
      · rw [if_neg c]
    have hK : Bk w1 w.heap.size R B := (Bk.new w R B).kept b1
    go_loopw [6] (fun i wr => ∃ k : Nat, 1 ≤ k ∧ (k ≤ u ∨ k = 1) ∧ i = .int .i64 k ∧ Cells wr w1.heap.size u (fill L k) ∧ Below w1.heap.size w1 wr) (fun i _ => u - (intOf i).toNat)
    case atStart => exact ⟨1, Nat.le_refl _, .inr rfl, rfl, hst, balloc (Below.refl _ _) _⟩
    case round =>
      obtain ⟨k, hk1, hk, rfl, hC, hBl⟩ := hrel
      clear hst
      by_cases hlt : k < u
      · obtain ⟨v, hv⟩ : ∃ v, k = v + 1 := ⟨k - 1, by omega⟩
        have hvI : (k : Int) - 1 = (v : Int) := by omega
        have cr := (hK.kept hBl).r
        have cb := (hK.kept hBl).b
        have cc := hC.c k hlt
        have cf := hC.fz k hlt
        obtain ⟨hp0, hp1⟩ := mul_in (m := min R B) v (by omega) (by omega) (by omega)
        have hN := hC.put (V' := fill L (k + 1)) hlt (fill_new L k) (fun j _ hj => fill_old L k j hj)
        have hltI : (k : Int) < u := by omega
        rw [show L k = B + (v : Int) * min R B by rw [hv]; exact hl.out v] at hN
        clear hv
        generalize hP : (v : Int) * min R B = P at hp0 hp1 hN
        go_wp2
        go_roundw
        case rel => exact ⟨k + 1, by omega, .inl (by omega), by go_num, hN, hBl.setCell (p := ⟨w1.heap.size, k, none⟩) (Nat.le_refl _) _⟩
        case measure => simp [intOf]; omega
      · go_wp2
        go_ret
        have hA := (hC.ext (V' := L) fun j hj => (fill_all L k j (by omega)).symm).done hBl
        obtain ⟨ao, cap, e, h1, h2, h3⟩ := hA
        exact ⟨ao, cap, e, h1, h2, bthen (alloc_up b1) h3⟩
  · have e : line R B u = [] := by unfold line; rw [if_neg h]
    rw [e]
    rw [decide_eq_false (show ¬ bright R B [] from fun k => h ⟨k.1, k.2.1⟩)] at hb
    go_enter Try.func20, Try.ntmps20
    go_wp2_with (go_at_call 18; refine hb.mono ?_; rintro e w1 ⟨rfl, b1⟩; clear hb)
    go_ret
    exact nil_ans (alloc_up b1)

end Go.Proofs.Ytmijlmidlddcpaa
