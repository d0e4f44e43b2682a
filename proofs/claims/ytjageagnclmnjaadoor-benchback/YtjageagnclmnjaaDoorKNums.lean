/- PROVED: what the promises say of what comes, waits and is lost, on plain integers. CONDITIONS: none beyond each theorem's own. -/
import Derived.Test.YtjageagnclmnjaaDoorKPure
namespace Go.Proofs.YtjageagnclmnjaaDoor.K

theorem fair_is (r m n : Int) (h : lr r m 0 0 n n) : 0 ≤ C0 r 0 0 n n - C1 r 0 0 n n ∧ C0 r 0 0 n n - C1 r 0 0 n n ≤ 1 ∧ 0 ≤ L1 r m 0 0 n n - L0 r m 0 0 n n ∧ L1 r m 0 0 n n - L0 r m 0 0 n n ≤ 1 ∧ -1 ≤ W0 r m 0 0 n n - W1 r m 0 0 n n ∧ W0 r m 0 0 n n - W1 r m 0 0 n n ≤ 1 := by
  unfold lr at h
  unfold C0 C1 L0 L1 W0 W1 u0 u1
  (repeat' split) <;> omega
theorem inside (r m a b s t : Int) (h : lr r m a b s t) : (0 ≤ C0 r a b s t ∧ C0 r a b s t ≤ 100) ∧ (0 ≤ C1 r a b s t ∧ C1 r a b s t ≤ 100) ∧ (0 ≤ L0 r m a b s t ∧ L0 r m a b s t ≤ 100) ∧ (0 ≤ L1 r m a b s t ∧ L1 r m a b s t ≤ 100) ∧ (0 ≤ W0 r m a b s t ∧ W0 r m a b s t ≤ 100) ∧ (0 ≤ W1 r m a b s t ∧ W1 r m a b s t ≤ 100) := by
  unfold lr at h
  unfold C0 C1 L0 L1 W0 W1 u0 u1
  (repeat' split) <;> omega

/-- whatever is there comes, waits or is lost; no more comes than may, no more waits than there is room for; nothing waits while more could come, nothing is lost while there is room -/
theorem sums_are (r m a b s t : Int) (h : lr r m a b s t) : a + s = C0 r a b s t + W0 r m a b s t + L0 r m a b s t ∧ b + t = C1 r a b s t + W1 r m a b s t + L1 r m a b s t ∧
    C0 r a b s t + C1 r a b s t ≤ r ∧ W0 r m a b s t + W1 r m a b s t ≤ m ∧
    (W0 r m a b s t + W1 r m a b s t + (L0 r m a b s t + L1 r m a b s t) = 0 ∨ C0 r a b s t + C1 r a b s t = r) ∧ (L0 r m a b s t + L1 r m a b s t = 0 ∨ W0 r m a b s t + W1 r m a b s t = m) := by
  unfold lr at h
  refine ⟨by unfold C0 W0 L0; omega, by unfold C1 W1 L1; omega, ?_⟩
  unfold C0 C1 L0 L1 W0 W1 u0 u1
  (repeat' split) <;> omega

/-- with one packet more of the first flow, of the second one -/
theorem more_first (r m a b s t : Int) (h : lr r m a b s t) (h' : lr r m a b (s + 1) t) : C0 r a b s t ≤ C0 r a b (s + 1) t ∧ C0 r a b s t + W0 r m a b s t ≤ C0 r a b (s + 1) t + W0 r m a b (s + 1) t ∧ L0 r m a b s t ≤ L0 r m a b (s + 1) t ∧
    C1 r a b (s + 1) t ≤ C1 r a b s t ∧ L1 r m a b s t ≤ L1 r m a b (s + 1) t := by
  unfold lr at h h'
  refine ⟨?_, ?_, ?_, ?_, ?_⟩
  · unfold C0 u0; (repeat' split) <;> omega
  · unfold C0 W0 u0; (repeat' split) <;> omega
  · unfold L0 u0; (repeat' split) <;> omega
  · unfold C1 u1; (repeat' split) <;> omega
  · unfold L1 u1; (repeat' split) <;> omega
theorem more_second (r m a b s t : Int) (h : lr r m a b s t) (h' : lr r m a b s (t + 1)) : C1 r a b s t ≤ C1 r a b s (t + 1) ∧ C1 r a b s t + W1 r m a b s t ≤ C1 r a b s (t + 1) + W1 r m a b s (t + 1) ∧ L1 r m a b s t ≤ L1 r m a b s (t + 1) ∧
    C0 r a b s (t + 1) ≤ C0 r a b s t ∧ L0 r m a b s t ≤ L0 r m a b s (t + 1) := by
  unfold lr at h h'
  refine ⟨?_, ?_, ?_, ?_, ?_⟩
  · unfold C1 u1; (repeat' split) <;> omega
  · unfold C1 W1 u1; (repeat' split) <;> omega
  · unfold L1 u1; (repeat' split) <;> omega
  · unfold C0 u0; (repeat' split) <;> omega
  · unfold L0 u0; (repeat' split) <;> omega

end Go.Proofs.YtjageagnclmnjaaDoor.K
