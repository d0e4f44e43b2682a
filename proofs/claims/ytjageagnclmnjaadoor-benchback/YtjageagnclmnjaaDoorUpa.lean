/- PROVED: the verifier's UParse reads just the texts that rules have. CONDITIONS: none beyond each theorem's own. -/
import Derived.Test.YtjageagnclmnjaaDoorUps
import Derived.Test.YtjageagnclmnjaaDoorUpt
import Derived.Test.YtjageagnclmnjaaDoorPar
namespace Go.Proofs.YtjageagnclmnjaaDoor.D
open Go.RowKit K
set_option linter.unusedVariables false

/-- the rules that are tried -/
def ruOf (n a b c : Nat) : Ru := ⟨(n : Int) / 3 + 1, (n : Int) % 3 + 1, a, b, c⟩
theorem ruOf_right {n a b c : Nat} (h0 : n < 9) (h1 : 1 ≤ a) (h2 : a ≤ 12) (h3 : b < 17) (h4 : c < 4) : wrong (ruOf n a b c) = 0 := by
  refine wrong_right ⟨?_, ?_⟩
  · unfold kinds ruOf; simp only; omega
  · unfold ranges ruOf; simp only; omega
theorem ruOf_inj {n a b c m d e f : Nat} (h : ruOf n a b c = ruOf m d e f) : n = m ∧ a = d ∧ b = e ∧ c = f := by
  unfold ruOf at h
  injection h with h0 h1 h2 h3 h4
  omega
theorem ruOf_some {r : Ru} (h : wrong r = 0) : ∃ n a b c, n < 9 ∧ (1 ≤ a ∧ a ≤ 12) ∧ b < 17 ∧ c < 4 ∧ r = ruOf n a b c := by
  have hr := right_of h
  unfold kinds ranges at hr
  obtain ⟨k0, k1, rr, m, j⟩ := r
  simp only at hr
  refine ⟨3 * (k0.toNat - 1) + (k1.toNat - 1), rr.toNat, m.toNat, j.toNat, by omega, by omega, by omega, by omega, ?_⟩
  unfold ruOf
  congr 1 <;> omega
theorem u_any (n a b c : Nat) (h0 : n < 9) (h1 : 1 ≤ a) (h2 : a ≤ 12) (h3 : b < 17) (h4 : c < 4) (v : World) : Calls Tryd.prog 6 #[.agg #[.int .i64 ((n : Int) / 3 + 1), .int .i64 ((n : Int) % 3 + 1), .int .i64 a, .int .i64 b, .int .i64 c]] v fun e w' => e = .returned (.tuple #[.string ⟨(tx (ruOf n a b c)).toArray⟩, .int .i64 0]) ∧ Below v.heap.size v w' :=
  uprint_yes (ruOf n a b c) (ruOf_right h0 h1 h2 h3 h4) v
theorem uparse_rd (s : ByteArray) (r : Ru) (h : Rd s.data.toList r) (w : World) :
    Calls Tryd.prog 8 #[.string s] w fun e w' => e = .returned (.tuple #[.agg #[.int .i64 r.k0, .int .i64 r.k1, .int .i64 r.r, .int .i64 r.m, .int .i64 r.j], .int .i64 0]) ∧ Below w.heap.size w w' := by
  obtain ⟨n, a, b, c, h0, h1, h2, h3, rfl⟩ := ruOf_some h.1
  refine uparse_some s (fun n a b c => ⟨(tx (ruOf n a b c)).toArray⟩) n a b c h0 h1 h2 h3 u_any (fun m d e f g0 g1 g2 g3 g4 => same_text ?_) w
  by_cases e0 : m = n ∧ d = a ∧ e = b ∧ f = c
  · obtain ⟨rfl, rfl, rfl, rfl⟩ := e0
    rw [decide_eq_true h.2]; simp
  · rw [decide_eq_false e0, decide_eq_false]
    intro e1
    exact e0 (ruOf_inj (Rd.one ⟨ruOf_right g0 g1 g2 g3 g4, e1⟩ h))
theorem uparse_not (s : ByteArray) (h : ∀ r, ¬ Rd s.data.toList r) (w : World) :
    Calls Tryd.prog 8 #[.string s] w fun e w' => e = .returned (.tuple #[.agg #[.int .i64 0, .int .i64 0, .int .i64 0, .int .i64 0, .int .i64 0], .int .i64 1]) ∧ Below w.heap.size w w' :=
  uparse_none s (fun n a b c => ⟨(tx (ruOf n a b c)).toArray⟩) u_any (fun m d e f g0 g1 g2 g3 g4 => same_text (decide_eq_false fun e1 => h _ ⟨ruOf_right g0 g1 g2 g3 g4, e1⟩)) w
end Go.Proofs.YtjageagnclmnjaaDoor.D
