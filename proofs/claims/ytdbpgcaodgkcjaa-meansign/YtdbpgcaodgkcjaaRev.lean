/- PROVED: what slices.Reverse does to numbers that may be written. CONDITIONS: none beyond each theorem's own. -/
import Derived.Test.YtdbpgcaodgkcjaaCel
namespace Go.Proofs.Ytdbpgcaodgkcjaa
open Go.RowKit

/-- the first k and the last k are turned -/
def rv (V : Nat → Int) (p k j : Nat) : Int := if j < k ∨ p ≤ j + k then V (p - 1 - j) else V j
theorem rv_zero (V : Nat → Int) (p j : Nat) (h : j < p) : rv V p 0 j = V j := by unfold rv; rw [if_neg (by omega)]
theorem rv_mid (V : Nat → Int) (p k j : Nat) (h1 : k ≤ j) (h2 : j + k < p) : rv V p k j = V j := by unfold rv; rw [if_neg (by omega)]
theorem rv_all (V : Nat → Int) (p k j : Nat) (hk : p ≤ 2 * k + 1) (h : j < p) : rv V p k j = V (p - 1 - j) := by
  unfold rv
  by_cases e : j < k ∨ p ≤ j + k
  · rw [if_pos e]
  · rw [if_neg e, show p - 1 - j = j by omega]
theorem rv_other (V : Nat → Int) (p k j : Nat) (h1 : j ≠ k) (h2 : j + k + 1 ≠ p) : rv V p (k + 1) j = rv V p k j := by
  unfold rv
  by_cases e : j < k ∨ p ≤ j + k
  · rw [if_pos e, if_pos (by omega)]
  · rw [if_neg e, if_neg (by omega)]

/-- two numbers change places -/
theorem Cells.swap {w : World} {O p : Nat} {V : Nat → Int} {k q : Nat} (h : Cells w O p (rv V p k)) (hq : k + q + 1 = p) (hlt : k < q) : Cells ((w.setCell ⟨O, k, none⟩ (.int .i64 (V q))).setCell ⟨O, q, none⟩ (.int .i64 (V k))) O p (rv V p (k + 1)) := by
  have h1 := h.put (V' := fun j => if j = k then V q else rv V p k j) (k := k) (by omega) (v := V q) (by simp) (fun j _ hj => by simp [hj])
  refine h1.put (k := q) (by omega) ?_ fun j hj hjq => ?_
  · unfold rv; rw [if_pos (by omega), show p - 1 - q = k by omega]
  · show _ = (if j = k then V q else rv V p k j)
    by_cases e : j = k
    · subst e; rw [if_pos rfl]; unfold rv; rw [if_pos (by omega), show p - 1 - j = q by omega]
    · rw [if_neg e]; exact rv_other V p k j e (by omega)

set_option maxHeartbeats 1600000 in
theorem rev_any (O p cap B : Nat) (V : Nat → Int) (w : World) (h : Cells w O p V) (hB : B ≤ O) (hp : 1 ≤ p) (hp3 : p ≤ 300) :
    Calls Try.prog 32 #[.slice (some ⟨O, 0, none⟩) p cap] w fun e w' => e = .returned (.tuple #[]) ∧ Cells w' O p (fun j => V (p - 1 - j)) ∧ Below B w w' := by
  obtain ⟨q0, hq0⟩ : ∃ q0, p = q0 + 1 := ⟨p - 1, by omega⟩
  have hqI : (p : Int) - 1 = (q0 : Int) := by omega
  have hst : Cells w O p (rv V p 0) := h.ext fun j hj => rv_zero V p j hj
  replace hq0 : Hid _ := hq0
  go_enter Try.func32, Try.ntmps32
  go_wp2
  go_loopw [2, 3] (fun i j wr => ∃ k q : Nat, k + q + 1 = p ∧ 2 * k ≤ p ∧ i = .int .i64 k ∧ j = .int .i64 q ∧ Cells wr O p (rv V p k) ∧ Below B w wr) (fun i _ _ => p - (intOf i).toNat)
  case atStart => exact ⟨0, q0, by have := hq0.out; omega, by omega, rfl, rfl, hst, Below.refl _ _⟩
  case round =>
    obtain ⟨k, q, hkq, hk2, rfl, rfl, hC, hBl⟩ := hrel
    clear hst hqI
    by_cases hlt : k < q
    · have d : decide ((k : Int) < (q : Int)) = true := decide_eq_true (by omega)
      have ck := hC.c k (by omega)
      have cq := hC.c q (by omega)
      have fk := hC.fz k (by omega)
      have fq := hC.fz q (by omega)
      rw [rv_mid V p k k (by omega) (by omega)] at ck
      rw [rv_mid V p k q (by omega) (by omega)] at cq
      have i1 : (k : Int) < (p : Int) := by omega
      have i2 : (q : Int) < (p : Int) := by omega
      obtain ⟨q1, hq1⟩ : ∃ q1, q = q1 + 1 := ⟨q - 1, by omega⟩
      have hS := hC.drew.swap hkq hlt
      have hBs : Below B w ((wr.drew.setCell ⟨O, k, none⟩ (.int .i64 (V q))).setCell ⟨O, q, none⟩ (.int .i64 (V k))) := Below.setCell (Below.setCell hBl.drew (by exact hB) _) (by exact hB) _
      have hqJ : (q : Int) - 1 = (q1 : Int) := by omega
      generalize V k = x at *
      generalize V q = y at *
      replace hq1 : Hid _ := hq1
      replace hkq : Hid _ := hkq
      replace hS : Hid _ := hS
      have hlt2 : Hid (k < q) := hlt
      clear hC hlt
      go_wp2
      go_region
      all_goals
        go_wp2
        go_roundw
        case rel => exact ⟨k + 1, q1, by have := hq1.out; have := hkq.out; omega, by have := hq1.out; have := hkq.out; have := hlt2.out; omega, by go_num, by first | rfl | go_num, hS.out, hBs⟩
        case measure => simp [intOf]; omega
    · have d : decide ((k : Int) < (q : Int)) = false := decide_eq_false (by omega)
      have hF : Cells wr O p (fun j => V (p - 1 - j)) := hC.ext fun j hj => (rv_all V p k j (by omega) hj).symm
      clear hC
      go_wp2
      go_end0
      exact ⟨rfl, hF, hBl⟩

end Go.Proofs.Ytdbpgcaodgkcjaa
