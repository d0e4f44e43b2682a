/- PROVED: what Smooth answers. CONDITIONS: none beyond each theorem's own. -/
import Derived.Test.YtgfmaolifnnkgaaSmall
namespace Go.Proofs.Ytgfmaolifnnkgaa
open Go.RowKit

/-- a row is answered, and nothing old has turned -/
def Ans (w : World) (R : List Int) (e : Ending) (w' : World) : Prop :=
  ∃ ao cap, e = .returned (.slice ao R.length cap) ∧ Row w' ao R ∧ Below w.heap.size w w'

theorem ans_none {w : World} {e : Ending} {w' : World} (he : e = .returned (.slice none 0 0)) (b : Below w.heap.size w w') : Ans w [] e w' :=
  ⟨none, 0, he, .inl rfl, b⟩

theorem smooth_low (ao : Option Addr) (n cap : Nat) (s : Int) (w : World) (h : s < 0) :
    Calls Try.prog 8 #[.slice ao n cap, .int .i64 s] w fun e w' => e = .returned (.slice none 0 0) ∧ w' = w := by
  have d1 : decide (s < 0) = true := decide_eq_true h
  go_enter Try.func8, Try.ntmps8
  go_wp2
  go_ret
  exact ⟨rfl, rfl⟩
theorem smooth_high (ao : Option Addr) (n cap : Nat) (s : Int) (w : World) (h : 16 < s) :
    Calls Try.prog 8 #[.slice ao n cap, .int .i64 s] w fun e w' => e = .returned (.slice none 0 0) ∧ w' = w := by
  have d1 : decide (s < 0) = false := decide_eq_false (by omega)
  have d2 : decide (16 < s) = true := decide_eq_true h
  go_enter Try.func8, Try.ntmps8
  go_wp2
  go_ret
  exact ⟨rfl, rfl⟩
theorem smooth_empty (ao : Option Addr) (cap : Nat) (s : Int) (w : World) (h0 : 0 ≤ s) (h : s ≤ 16) :
    Calls Try.prog 8 #[.slice ao 0 cap, .int .i64 s] w fun e w' => e = .returned (.slice none 0 0) ∧ w' = w := by
  have d1 : decide (s < 0) = false := decide_eq_false (by omega)
  have d2 : decide (16 < s) = false := decide_eq_false (by omega)
  go_enter Try.func8, Try.ntmps8
  go_wp2
  go_ret
  exact ⟨rfl, rfl⟩

/-- the state at a round's head -/
structure Sm (w : World) (N : Int) (f : Nat → Int) (n k : Nat) (wr : World) : Prop where
  out : Out wr w.heap.size n (outs N f k)
  below : Below w.heap.size w wr

theorem Sm.start (w : World) (N : Int) (f : Nat → Int) (n : Nat) : Sm w N f n 0 (w.alloc (.cells (madeCells #[.int .i64 0] n) 3)) :=
  ⟨Out.start w n, balloc (Below.refl _ _) _⟩
theorem Sm.step {w : World} {N : Int} {f : Nat → Int} {n k : Nat} {wr : World} (h : Sm w N f n k wr) (hk : k < n) {v : Int} (hv : v = told N f k) :
    Sm w N f n (k + 1) (wr.setCell ⟨w.heap.size, k, none⟩ (.int .i64 v)) := by
  subst hv
  refine ⟨?_, h.below.setCell (p := ⟨w.heap.size, k, none⟩) (Nat.le_refl _) _⟩
  have := h.out.put (by rw [outs_len]; exact hk) (told N f k)
  rw [outs_len] at this
  rw [outs_succ]; exact this

theorem Sm.done {w : World} {N : Int} {f : Nat → Int} {n : Nat} {wr : World} (h : Sm w N f n n wr) : Ans w (outs N f n) (.returned (.slice (some ⟨w.heap.size, 0, none⟩) n n)) wr :=
  ⟨_, n, by rw [outs_len], h.out.row, h.below⟩

set_option maxHeartbeats 1600000 in
theorem smooth_some (ao : Option Addr) (cap : Nat) (zs : List Int) (s : Nat) (w : World) (hz : Row w ao zs) (hp : 0 < zs.length) (hk : zs.length ≤ 35184372088832) (h : s ≤ 16) :
    Calls Try.prog 8 #[.slice ao zs.length cap, .int .i64 s] w (Ans w (outs (2 ^ s) (fun j => zs.getD j 0) zs.length)) := by
  have hmk := run_make_row' (P := Try.prog) 22 3 (.int .i64 0) 8 Try.underlying22 Try.info3 rfl .i64 .i64 zs.length (by omega) (by omega)
  have d1 : decide ((s : Int) < 0) = false := decide_eq_false (by omega)
  have d2 : decide ((16 : Int) < s) = false := decide_eq_false (by omega)
  obtain ⟨g, off, rfl, hcells⟩ := hz.at hp
  have hN : (1 : Int) ≤ 2 ^ s := by have := Int.pow_pos (n := 2) (m := s) (by omega); omega
  have hst := Sm.start w (2 ^ s) (fun j => zs.getD j 0) zs.length
  have hx0 := hcells 0 hp
  rw [Nat.add_zero] at hx0
  obtain ⟨x0, hx⟩ : ∃ x, x = zs.getD 0 0 := ⟨_, rfl⟩
  rw [← hx] at hx0
  have cl := cnt_lo x0
  have ch := cnt_hi x0
  have hm0 : mean (2 ^ s) (fun j => zs.getD j 0) 0 = cnt x0 * 65536 := by rw [hx]; rfl
  have HX : Hid (x0 = zs.getD 0 0) := hx
  clear hx
  go_enter Try.func8, Try.ntmps8
  go_wp2_with (go_at_call 15; refine (count_any _ _).mono ?_; rintro e w ⟨rfl, rfl⟩)
  go_loopw [5, 30] (fun m i wr => ∃ k : Nat, k ≤ zs.length ∧ i = .int .i64 k ∧ m = .int .i64 (mean (2 ^ s) (fun j => zs.getD j 0) k) ∧ Sm w (2 ^ s) (fun j => zs.getD j 0) zs.length k wr) (fun _ i _ => zs.length - (intOf i).toNat)
  case atStart => exact ⟨0, Nat.zero_le _, rfl, by rw [hm0], hst⟩
  case round =>
    obtain ⟨k, hkn, rfl, rfl, hS⟩ := hrel
    clear hm0 HX hst hx0 cl ch
    have ml := mean_lo (2 ^ s) (fun j => zs.getD j 0) hN k
    have mh := mean_hi (2 ^ s) (fun j => zs.getD j 0) hN k
    by_cases hlt : k < zs.length
    · have hx : wr.cell? ⟨g, off + k, none⟩ = some (.int .i64 (zs.getD k 0)) := (hS.below.cell (p := ⟨g, off + k, none⟩) (block_lt (hcells k hlt))).trans (hcells k hlt)
      have hm1 : mean (2 ^ s) (fun j => zs.getD j 0) (k + 1) = mean (2 ^ s) (fun j => zs.getD j 0) k + (cnt (zs.getD k 0) * 65536 - mean (2 ^ s) (fun j => zs.getD j 0) k) / 2 ^ s := rfl
      have nl := mean_lo (2 ^ s) (fun j => zs.getD j 0) hN (k + 1)
      have nh := mean_hi (2 ^ s) (fun j => zs.getD j 0) hN (k + 1)
      have cl := cnt_lo (zs.getD k 0)
      have ch := cnt_hi (zs.getD k 0)
      have hSt := fun v hv => hS.step hlt (v := v) hv
      unfold told at hSt
      obtain ⟨u2, hu2⟩ := Option.isSome_iff_exists.1 (hS.out.room k hlt).1
      have hf2 := (hS.out.room k hlt).2
      generalize hM : mean (2 ^ s) (fun j => zs.getD j 0) (k + 1) = m1 at hm1 nl nh hSt
      have HM : Hid (mean (2 ^ s) (fun j => zs.getD j 0) (k + 1) = m1) := hM
      clear hM
      generalize mean (2 ^ s) (fun j => zs.getD j 0) k = m at hm1 ml mh ⊢
      generalize zs.getD k 0 = x at hx hm1 cl ch
      obtain ⟨q, hq⟩ : ∃ q, (cnt x * 65536 - m) / 2 ^ s = q := ⟨_, rfl⟩
      rw [hq] at hm1
      clear hcells hmk hz
      go_wp2_with (go_at_call 15; refine (count_any _ _).mono ?_; rintro e wr ⟨rfl, rfl⟩)
      go_roundw
      case rel => exact ⟨k + 1, by omega, by go_num, by rw [HM.out, hm1], hSt _ (by rw [hm1])⟩
      case measure => simp [intOf]; omega
    · have e : k = zs.length := by omega
      subst e
      go_wp2
      go_ret
      exact hS.done

theorem okS_of {s : Int} (h : okS s = true) : 0 ≤ s ∧ s ≤ 16 := of_decide_eq_true h
theorem okS_not {s : Int} (h : okS s = false) : s < 0 ∨ 16 < s := by
  have := of_decide_eq_false h; omega

theorem smooth_any (ao : Option Addr) (cap : Nat) (zs : List Int) (s : Int) (w : World) (hz : Row w ao zs) (hk : zs.length ≤ 35184372088832) :
    Calls Try.prog 8 #[.slice ao zs.length cap, .int .i64 s] w (Ans w (smooth zs s)) := by
  cases h : okS s with
  | false =>
    rw [smooth_no h]
    rcases okS_not h with h | h
    · exact (smooth_low ao _ cap s w h).mono fun e w' ⟨he, hw⟩ => ans_none he (hw ▸ Below.refl _ _)
    · exact (smooth_high ao _ cap s w h).mono fun e w' ⟨he, hw⟩ => ans_none he (hw ▸ Below.refl _ _)
  | true =>
    obtain ⟨h0, h1⟩ := okS_of h
    by_cases hp : 0 < zs.length
    · rw [smooth_ok h]
      obtain ⟨n, rfl⟩ := Int.eq_ofNat_of_zero_le h0
      exact smooth_some ao cap zs n w hz hp hk (by omega)
    · obtain rfl : zs = [] := List.eq_nil_of_length_eq_zero (by omega)
      exact (smooth_empty ao cap s w h0 h1).mono fun e w' ⟨he, hw⟩ => by
        rw [smooth_ok h]
        exact ans_none he (hw ▸ Below.refl _ _)

end Go.Proofs.Ytgfmaolifnnkgaa
