/- PROVED: alive20 answers true. CONDITIONS: none beyond each theorem's own. -/
import Derived.Test.YtbnofjpiioneiaaU40Jv
import Derived.BigQuiet
namespace Go.Proofs.Ytbnofjpiioneiaa.D
open Go.RowKit K
set_option linter.unusedVariables false

def rA : Ru := ⟨1, 1, 2, 2, 0⟩
def rB : Ru := ⟨1, 1, 4, 4, 0⟩
theorem dnA : Dn rA 3 := by
  refine ⟨?_, ?_, ?_⟩
  · unfold Live; decide +kernel
  · decide +kernel
  · decide +kernel
theorem dnB : Dn rB 5 := by
  refine ⟨?_, ?_, ?_⟩
  · unfold Live; decide +kernel
  · decide +kernel
  · decide +kernel
theorem jv_dn {r : Ru} {T : Nat} (hT : Dn r T) (hw : wrong r = 0) {who ratio : Int} (hg : Rg who ratio) : ∃ k m, Jv r who ratio k m 0 ∧ 1 ≤ k ∧ k ≤ 2 := by
  by_cases hp : Q.noPos (esG r T who ratio)
  · obtain ⟨d, hd⟩ := mst_some (esG_inn hT who ratio) hp
    exact ⟨1, _, .inr (.inl ⟨T, d, ⟨hg, hw, hT, hd⟩, rfl, rfl, rfl⟩), by omega, by omega⟩
  · exact ⟨2, 0, .inr (.inr ⟨T, ⟨hg, hw, hT, hp⟩, rfl, rfl, rfl⟩), by omega, by omega⟩
theorem ver_all (w : World) (k m : Int) (a : Option Addr) (na ca : Nat) (b : Option Addr) (nb cb : Nat) : (w.alloc (.cells #[.int .i64 k, .int .i64 m, .slice a na ca, .slice b nb cb] 27)).cell? ⟨w.heap.size, 0, none⟩ = some (.int .i64 k) := by
  rw [World.cell?_alloc_at _ _ _ _ rfl]; rfl
set_option maxHeartbeats 1600000 in
theorem alive20 (w : World) : Calls Try.prog 15 #[] w fun e w' => e = .returned (.bool true) ∧ Below w.heap.size w w' := by
  obtain ⟨k, m, hA, k1, k2⟩ := jv_dn dnA (by decide +kernel) (who := 0) (ratio := 100) (by unfold Rg; omega)
  obtain ⟨l, n, hB, l1, l2⟩ := jv_dn dnB (by decide +kernel) (who := 0) (ratio := 1) (by unfold Rg; omega)
  have jA : Hid (∀ v, Calls Try.prog 9 #[.agg #[.int .i64 1, .int .i64 1, .int .i64 2, .int .i64 2, .int .i64 0], .int .i64 0, .int .i64 100] v fun e w' => ∃ a na ca b nb cb, e = .returned (.tuple #[.agg #[.int .i64 k, .int .i64 m, .slice a na ca, .slice b nb cb], .int .i64 0]) ∧ Below v.heap.size v w') := fun v => judge_jv hA v
  have jB : Hid (∀ v, Calls Try.prog 9 #[.agg #[.int .i64 1, .int .i64 1, .int .i64 4, .int .i64 4, .int .i64 0], .int .i64 0, .int .i64 1] v fun e w' => ∃ a na ca b nb cb, e = .returned (.tuple #[.agg #[.int .i64 l, .int .i64 n, .slice a na ca, .slice b nb cb], .int .i64 0]) ∧ Below v.heap.size v w') := fun v => judge_jv hB v
  clear hA hB
  have d1 : decide (1 ≤ k) = true := decide_eq_true k1
  have d2 : decide (k ≤ 2) = true := decide_eq_true k2
  have d3 : decide (1 ≤ l) = true := decide_eq_true l1
  have d4 : decide (l ≤ 2) = true := decide_eq_true l2
  clear k1 k2 l1 l2
  have B : Below w.heap.size w (w.alloc (.cells #[.int .i64 1, .int .i64 1, .int .i64 2, .int .i64 2, .int .i64 0] 24)) := balloc (Below.refl _ _) _
  obtain ⟨x0, x1, x2, x3, x4, -, -, -, -, -⟩ := Rul.new w _ rfl 1 1 2 2 0
  go_enter Try.func15, Try.ntmps15
  go_wp2_with (first
    | (go_at_call 9; refine (jA.out _).mono ?_; clear jA x0 x1 x2 x3 x4; rintro e w1 ⟨a, na, ca, b, nb, cb, rfl, b1⟩; replace B := balloc (bthen B b1) (.cells #[.int .i64 k, .int .i64 m, .slice a na ca, .slice b nb cb] 27); have v0 := ver_all w1 k m a na ca b nb cb)
    | (go_at_call 9; refine (jB.out _).mono ?_; clear jB; rintro e w2 ⟨a', na', ca', b', nb', cb', rfl, b2⟩; replace v0 := (b2.cell (p := ⟨w1.heap.size, 0, none⟩) (block_lt v0)).trans v0; have hne : w1.heap.size < w2.heap.size := block_lt v0; have v1 := ver_all w2 l n a' na' ca' b' nb' cb'; replace v0 := ((balloc (Below.refl w2.heap.size w2) (.cells #[.int .i64 l, .int .i64 n, .slice a' na' ca', .slice b' nb' cb'] 27)).cell (p := ⟨w1.heap.size, 0, none⟩) hne).trans v0; replace B := balloc (bthen B b2) (.cells #[.int .i64 l, .int .i64 n, .slice a' na' ca', .slice b' nb' cb'] 27)))
  go_ret
  exact ⟨rfl, B⟩

end Go.Proofs.Ytbnofjpiioneiaa.D
