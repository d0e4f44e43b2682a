/- PROVED: what Judge answers, in letters. CONDITIONS: none beyond each theorem's own. -/
import Derived.Test.YtbnofjpiioneiaaB39Jut
namespace Go.Proofs.Ytbnofjpiioneiaa.D
open Go.RowKit K
set_option linter.unusedVariables false

/-- what is told: the kind, the most, the error -/
def Jv (r : Ru) (who ratio k m E : Int) : Prop := (Je r who ratio E ∧ k = 0 ∧ m = 0) ∨ (∃ T d, Jb r who ratio T d ∧ k = 1 ∧ m = mx d (xp r T).1.length ∧ E = 0) ∨ ∃ T, Js r who ratio T ∧ k = 2 ∧ m = 0 ∧ E = 0
theorem jv_some (r : Ru) (who ratio : Int) : ∃ k m E, Jv r who ratio k m E := by
  rcases judge_or r who ratio with ⟨E, h⟩ | ⟨T, d, h⟩ | ⟨T, h⟩
  · exact ⟨0, 0, E, .inl ⟨h, rfl, rfl⟩⟩
  · exact ⟨1, _, 0, .inr (.inl ⟨T, d, h, rfl, rfl, rfl⟩)⟩
  · exact ⟨2, 0, 0, .inr (.inr ⟨T, h, rfl, rfl, rfl⟩)⟩
theorem judge_jv {r : Ru} {who ratio k m E : Int} (h : Jv r who ratio k m E) (w : World) :
    Calls Try.prog 9 #[.agg #[.int .i64 r.k0, .int .i64 r.k1, .int .i64 r.r, .int .i64 r.m, .int .i64 r.j], .int .i64 who, .int .i64 ratio] w fun e w' => ∃ a na ca b nb cb, e = .returned (.tuple #[.agg #[.int .i64 k, .int .i64 m, .slice a na ca, .slice b nb cb], .int .i64 E]) ∧ Below w.heap.size w w' := by
  rcases h with ⟨h, rfl, rfl⟩ | ⟨T, d, h, rfl, rfl, rfl⟩ | ⟨T, h, rfl, rfl, rfl⟩
  · exact (judge_err h w).mono fun e w' ⟨he, b⟩ => ⟨none, 0, 0, none, 0, 0, he, b⟩
  · exact (judge_bnd h w).mono fun e w' ⟨he, b⟩ => ⟨none, 0, 0, none, 0, 0, he, b⟩
  · exact (judge_stv h w).mono fun e w' ⟨a, na, ca, b, nb, cb, A, C, he, _, _, _, _, _, hb⟩ => ⟨a, na, ca, b, nb, cb, he, hb⟩
/-- what the letters say -/
theorem Jv.ok {r : Ru} {who ratio k m E : Int} (h : Jv r who ratio k m E) (hE : E = 0 ∨ E = 4) : Rg who ratio ∧ wrong r = 0 := by
  rcases h with ⟨h, rfl, rfl⟩ | ⟨T, d, h, rfl, rfl, rfl⟩ | ⟨T, h, rfl, rfl, rfl⟩
  · rcases h with ⟨_, rfl⟩ | ⟨hg, ⟨hw, he⟩ | ⟨hw, _, rfl⟩⟩
    · omega
    · have : wrong r = 0 ∨ wrong r = 2 ∨ wrong r = 5 := by
        unfold wrong
        split
        · split <;> simp
        · simp
      rw [hw] at this
      rcases hE with rfl | rfl
      · simp at he
      · omega
    · exact ⟨hg, hw⟩
  · exact ⟨h.rg, h.ok⟩
  · exact ⟨h.rg, h.ok⟩
theorem Jv.zero {r : Ru} {who ratio k m : Int} (h : Jv r who ratio k m 0) : k = 2 ∧ Starve r who ratio ∨ k = 1 ∧ ¬ Starve r who ratio := by
  rcases h with ⟨h, rfl, rfl⟩ | ⟨T, d, h, rfl, rfl, _⟩ | ⟨T, h, rfl, rfl, _⟩
  · have := h.ne; simp at this
  · exact .inr ⟨rfl, h.not⟩
  · exact .inl ⟨rfl, h.yes⟩
theorem Jv.errs {r : Ru} {who ratio k m E : Int} (h : Jv r who ratio k m E) (hg : Rg who ratio) (hw : wrong r = 0) : E = 0 ∨ E = 4 := by
  rcases h with ⟨h, rfl, rfl⟩ | ⟨T, d, h, rfl, rfl, rfl⟩ | ⟨T, h, rfl, rfl, rfl⟩
  · rcases h with ⟨hn, _⟩ | ⟨_, ⟨h1, h2⟩ | ⟨_, _, rfl⟩⟩
    · exact absurd hg hn
    · rw [← h1, hw] at h2; simp at h2
    · exact .inr rfl
  · exact .inl rfl
  · exact .inl rfl
theorem Jv.kind {r : Ru} {who ratio k m E : Int} (h : Jv r who ratio k m E) : (0 ≤ k ∧ k ≤ 2) ∧ (E ≠ 0 → k = 0) := by
  rcases h with ⟨h, rfl, rfl⟩ | ⟨T, d, h, rfl, rfl, rfl⟩ | ⟨T, h, rfl, rfl, rfl⟩ <;> simp

end Go.Proofs.Ytbnofjpiioneiaa.D
