/- PROVED: what the document's own High answers. CONDITIONS: none beyond each theorem's own. -/
import Derived.Test.YtmijlmidlddcpaaRefHigh
namespace Go.Proofs.Ytmijlmidlddcpaa
open Go.RowKit

theorem Hi.start (w : World) : Hi w (w.alloc (.cells #[.int .i64 0] 3)) w.heap.size 0 (.slice none 0 0) [] :=
  ⟨by rw [World.cell?_alloc_at _ _ _ _ rfl]; rfl, by rw [World.frozen?_alloc_at _ _ _ _ rfl], World.ownsRow_nil _ _ _ _, Nat.le_refl _, balloc (Below.refl _ _) _⟩
set_option maxHeartbeats 800000 in
theorem hhigh_any (a1 a2 : Option Addr) (c1 c2 : Nat) (f g : List Int) (hf : f.length ≤ 17592186044415) (hg : g.length ≤ 17592186044415) (w : World) (p1 : Row w a1 f) (p2 : Row w a2 g) :
    Calls Try.prog 11 #[.slice a1 f.length c1, .slice a2 g.length c2] w fun e w' => e = .returned (.int .i64 (high f g)) ∧ Below w.heap.size w w' := by
  have hd := dhigh_any a1 a2 c1 c2 f g hf hg w _ p1 p2 _ (Hi.start w)
  rw [show mo (fun j => f.getD j 0) (fun j => g.getD j 0) (min f.length g.length) = high f g from rfl] at hd
  generalize high f g = X at hd ⊢
  go_enter Try.func11, Try.ntmps11
  go_wp2_with (go_at_call 38; refine hd.mono ?_; rintro e w' ⟨u, rfl, cM, bM⟩; clear hd)
  go_ret
  exact ⟨rfl, bM⟩

end Go.Proofs.Ytmijlmidlddcpaa
