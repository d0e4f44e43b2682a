/- PROVED: what the verifier's pnext answers where all is right. CONDITIONS: none beyond each theorem's own. -/
import Derived.Test.YtobgjnjndkfjoaaVYes
import Derived.Test.YtobgjnjndkfjoaaCLn
import Derived.Test.YtobgjnjndkfjoaaLRefNext
import Derived.Test.YtobgjnjndkfjoaaKDuel
import Derived.Test.YtobgjnjndkfjoaaCCtl
namespace Go.Proofs.Ytobgjnjndkfjoaa.D
open Go.RowKit K

theorem two {w w1 : World} {k n b a s q : Int} (hb : Below ((w.alloc (.cells #[.int .i64 k, .int .i64 n, .int .i64 b, .int .i64 a, .int .i64 s, .int .i64 q] 26)).alloc (.cells #[.int .i64 0, .int .i64 0, .int .i64 0, .int .i64 0, .int .i64 0, .int .i64 0] 26)).heap.size ((w.alloc (.cells #[.int .i64 k, .int .i64 n, .int .i64 b, .int .i64 a, .int .i64 s, .int .i64 q] 26)).alloc (.cells #[.int .i64 0, .int .i64 0, .int .i64 0, .int .i64 0, .int .i64 0, .int .i64 0] 26)) w1) :
    C.Ctl w1 w.heap.size k n b a s q ∧ C.Ctl w1 (w.heap.size + 1) 0 0 0 0 0 0 := C.two hb

set_option maxHeartbeats 1600000 in
theorem pn1 (n b a s q d K N B A S Q : Int) (w : World) (c : ∀ v, Calls Try.prog 45 #[.agg #[.int .i64 1, .int .i64 n, .int .i64 b, .int .i64 a, .int .i64 s, .int .i64 q], .int .i64 d] v fun e w' => e = .returned (.tuple #[.agg #[.int .i64 K, .int .i64 N, .int .i64 B, .int .i64 A, .int .i64 S, .int .i64 Q], .int .i64 0]) ∧ Below v.heap.size v w') :
    Calls Try.prog 29 #[.agg #[.int .i64 1, .int .i64 n, .int .i64 b, .int .i64 a, .int .i64 s, .int .i64 q], .int .i64 d] w fun e w' => e = .returned (.tuple #[.agg #[.int .i64 K, .int .i64 N, .int .i64 B, .int .i64 A, .int .i64 S, .int .i64 Q], .bool true]) ∧ Below w.heap.size w w' := by
  go_enter Try.func29, Try.ntmps29
  go_wp2_with (go_at_call 45; refine (c _).mono ?_; clear c; rintro e w1 ⟨rfl, HB⟩; obtain ⟨X, Y⟩ := two HB; replace HB := C.up2 HB; obtain ⟨c0, c1, c2, c3, c4, c5, f0, f1, f2, f3, f4, f5⟩ := X; obtain ⟨d0, d1, d2, d3, d4, d5, g0, g1, g2, g3, g4, g5⟩ := Y)
  refine bodyPost_ret (v := .tuple #[.agg #[.int .i64 K, .int .i64 N, .int .i64 B, .int .i64 A, .int .i64 S, .int .i64 Q], .bool true]) (by simp [results, Try.results29, go_sem, d0, d1, d2, d3, d4, d5]) rfl ⟨rfl, ?_⟩
  repeat (with_reducible refine Below.setCell ?_ (by simp) _)
  exact HB

set_option maxHeartbeats 1600000 in
theorem pn2 (n b a s q d K N B A S Q : Int) (w : World) (c : ∀ v, Calls Try.prog 46 #[.agg #[.int .i64 2, .int .i64 n, .int .i64 b, .int .i64 a, .int .i64 s, .int .i64 q], .int .i64 d] v fun e w' => e = .returned (.tuple #[.agg #[.int .i64 K, .int .i64 N, .int .i64 B, .int .i64 A, .int .i64 S, .int .i64 Q], .int .i64 0]) ∧ Below v.heap.size v w') :
    Calls Try.prog 29 #[.agg #[.int .i64 2, .int .i64 n, .int .i64 b, .int .i64 a, .int .i64 s, .int .i64 q], .int .i64 d] w fun e w' => e = .returned (.tuple #[.agg #[.int .i64 K, .int .i64 N, .int .i64 B, .int .i64 A, .int .i64 S, .int .i64 Q], .bool true]) ∧ Below w.heap.size w w' := by
  go_enter Try.func29, Try.ntmps29
  go_wp2_with (go_at_call 46; refine (c _).mono ?_; clear c; rintro e w1 ⟨rfl, HB⟩; obtain ⟨X, Y⟩ := two HB; replace HB := C.up2 HB; obtain ⟨c0, c1, c2, c3, c4, c5, f0, f1, f2, f3, f4, f5⟩ := X; obtain ⟨d0, d1, d2, d3, d4, d5, g0, g1, g2, g3, g4, g5⟩ := Y)
  refine bodyPost_ret (v := .tuple #[.agg #[.int .i64 K, .int .i64 N, .int .i64 B, .int .i64 A, .int .i64 S, .int .i64 Q], .bool true]) (by simp [results, Try.results29, go_sem, d0, d1, d2, d3, d4, d5]) rfl ⟨rfl, ?_⟩
  repeat (with_reducible refine Below.setCell ?_ (by simp) _)
  exact HB

set_option maxHeartbeats 1600000 in
theorem pn3 (n b a s q d K N B A S Q : Int) (w : World) (c : ∀ v, Calls Try.prog 47 #[.agg #[.int .i64 3, .int .i64 n, .int .i64 b, .int .i64 a, .int .i64 s, .int .i64 q], .int .i64 d] v fun e w' => e = .returned (.tuple #[.agg #[.int .i64 K, .int .i64 N, .int .i64 B, .int .i64 A, .int .i64 S, .int .i64 Q], .int .i64 0]) ∧ Below v.heap.size v w') :
    Calls Try.prog 29 #[.agg #[.int .i64 3, .int .i64 n, .int .i64 b, .int .i64 a, .int .i64 s, .int .i64 q], .int .i64 d] w fun e w' => e = .returned (.tuple #[.agg #[.int .i64 K, .int .i64 N, .int .i64 B, .int .i64 A, .int .i64 S, .int .i64 Q], .bool true]) ∧ Below w.heap.size w w' := by
  go_enter Try.func29, Try.ntmps29
  go_wp2_with (go_at_call 47; refine (c _).mono ?_; clear c; rintro e w1 ⟨rfl, HB⟩; obtain ⟨X, Y⟩ := two HB; replace HB := C.up2 HB; obtain ⟨c0, c1, c2, c3, c4, c5, f0, f1, f2, f3, f4, f5⟩ := X; obtain ⟨d0, d1, d2, d3, d4, d5, g0, g1, g2, g3, g4, g5⟩ := Y)
  refine bodyPost_ret (v := .tuple #[.agg #[.int .i64 K, .int .i64 N, .int .i64 B, .int .i64 A, .int .i64 S, .int .i64 Q], .bool true]) (by simp [results, Try.results29, go_sem, d0, d1, d2, d3, d4, d5]) rfl ⟨rfl, ?_⟩
  repeat (with_reducible refine Below.setCell ?_ (by simp) _)
  exact HB

theorem pnext_yes (c : Ct) (d : Int) (h : cright c) (hd : inr d) (w : World) :
    Calls Try.prog 29 #[.agg #[.int .i64 c.k, .int .i64 c.n, .int .i64 c.b, .int .i64 c.a, .int .i64 c.s, .int .i64 c.q], .int .i64 d] w fun e w' => e = .returned (.tuple #[.agg #[.int .i64 (nx c d).k, .int .i64 (nx c d).n, .int .i64 (nx c d).b, .int .i64 (nx c d).a, .int .i64 (nx c d).s, .int .i64 (nx c d).q], .bool true]) ∧ Below w.heap.size w w' := by
  obtain ⟨k, n, b, a, s, q⟩ := c
  rcases h with h | h | h
  · obtain rfl : k = 1 := h.1
    exact pn1 n b a s q d _ _ _ _ _ _ w (fun v => by have := V.ref_yes 1 n b a s q d v h hd; rw [show nx ⟨1, n, b, a, s, q⟩ d = kn ⟨1, n, b, a, s, q⟩ d from rfl]; obtain ⟨_, _, _, e1, e2, e3⟩ := h; simp only at e1 e2 e3; subst e1 e2 e3; exact this)
  · obtain rfl : k = 2 := h.1
    exact pn2 n b a s q d _ _ _ _ _ _ w (fun v => by have := C.lnext_yes 2 n b a s q d v h hd; rw [show nx ⟨2, n, b, a, s, q⟩ d = ln ⟨2, n, b, a, s, q⟩ d from rfl]; obtain ⟨_, _, _, _, _, e3⟩ := h; simp only at e3; subst e3; exact this)
  · obtain rfl : k = 3 := h.1
    exact pn3 n b a s q d _ _ _ _ _ _ w (fun v => by have := L.ref_yes 3 n b a s q d v h hd; rw [show nx ⟨3, n, b, a, s, q⟩ d = mn ⟨3, n, b, a, s, q⟩ d from rfl]; obtain ⟨_, _, _, e1, e2, _⟩ := h; simp only at e1 e2; subst e1 e2; exact this)

end Go.Proofs.Ytobgjnjndkfjoaa.D

