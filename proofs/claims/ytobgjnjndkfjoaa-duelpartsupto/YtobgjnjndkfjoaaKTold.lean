/- PROVED: what link.Pass answers, at every argument. CONDITIONS: none beyond each theorem's own. -/
import Derived.Test.YtobgjnjndkfjoaaKPass
namespace Go.Proofs.Ytobgjnjndkfjoaa.K
open Go.RowKit Go.Shelf

/-- what a call of Pass answers -/
def Ans (w : World) (s t c0 c1 l0 l1 w0 w1 e0 : Int) (e : Ending) (w' : World) : Prop :=
  e = .returned (.tuple #[.agg #[.int .i64 s, .int .i64 t, .int .i64 c0, .int .i64 c1, .int .i64 l0, .int .i64 l1], .agg #[.int .i64 w0, .int .i64 w1], .int .i64 e0]) ∧ Below w.heap.size w w'

theorem pass_yes (r m a b s t : Int) (h : lr r m a b s t) (w : World) :
    Calls Try.prog 28 #[.int .i64 r, .int .i64 m, .agg #[.int .i64 a, .int .i64 b], .agg #[.int .i64 s, .int .i64 t]] w (Ans w s t (C0 r a b s t) (C1 r a b s t) (L0 r m a b s t) (L1 r m a b s t) (W0 r m a b s t) (W1 r m a b s t) 0) := by
  have h' := h
  unfold lr at h'
  obtain ⟨r', rfl⟩ := Int.eq_ofNat_of_zero_le (a := r) (by omega)
  obtain ⟨m', rfl⟩ := Int.eq_ofNat_of_zero_le (a := m) (by omega)
  obtain ⟨a', rfl⟩ := Int.eq_ofNat_of_zero_le (a := a) (by omega)
  obtain ⟨b', rfl⟩ := Int.eq_ofNat_of_zero_le (a := b) (by omega)
  obtain ⟨s', rfl⟩ := Int.eq_ofNat_of_zero_le (a := s) (by omega)
  obtain ⟨t', rfl⟩ := Int.eq_ofNat_of_zero_le (a := t) (by omega)
  have := callsIn_wide.1 (pass_in 4 (Nat.le_refl _) r' m' a' b' s' t' h w)
  rw [ca_pk0, ca_pk1, lo_pk0, lo_pk1, wt_pk0, wt_pk1] at this
  exact this

set_option maxRecDepth 100000 in
set_option maxHeartbeats 4000000 in
theorem pass_no (r m a b s t : Int) (h : ¬ lr r m a b s t) (w : World) :
    Calls Try.prog 28 #[.int .i64 r, .int .i64 m, .agg #[.int .i64 a, .int .i64 b], .agg #[.int .i64 s, .int .i64 t]] w (Ans w 0 0 0 0 0 0 0 0 2) := by
  have hr := fun v => right_is r m a b s t false (decide_eq_false h) v
  clear h
  refine (callsIn_wide (n := 4)).1 ?_
  refine callsIn_of_wp_marks Try.func28 rfl trivial ?_ rfl
  simp only [Try.ntmps28, List.size_toArray, List.length_cons, List.length_nil, Nat.reduceAdd, Nat.reduceSub, Array.replicate_succ, Array.replicate_zero, List.push_toArray, List.append_toArray, List.nil_append, List.cons_append]
  gi_wp2_with (refine ⟨trivial, ?_⟩; gi_at_call 43; refine (callsIn_wide.2 (hr _)).mono ?_; clear hr; rintro e w' ⟨rfl, rfl⟩)
  refine ⟨_, ?_, rfl, ?_⟩
  · simp [results, Try.f28, go_sem]
  · repeat (refine balloc ?_ _)
    exact Below.refl _ _

theorem pass_is (r m a b s t c0 c1 l0 l1 w0 w1 : Int) (h : lr r m a b s t) (e : C0 r a b s t = c0 ∧ C1 r a b s t = c1 ∧ L0 r m a b s t = l0 ∧ L1 r m a b s t = l1 ∧ W0 r m a b s t = w0 ∧ W1 r m a b s t = w1) (w : World) :
    Calls Try.prog 28 #[.int .i64 r, .int .i64 m, .agg #[.int .i64 a, .int .i64 b], .agg #[.int .i64 s, .int .i64 t]] w (Ans w s t c0 c1 l0 l1 w0 w1 0) := by
  obtain ⟨rfl, rfl, rfl, rfl, rfl, rfl⟩ := e
  exact pass_yes r m a b s t h w

end Go.Proofs.Ytobgjnjndkfjoaa.K
