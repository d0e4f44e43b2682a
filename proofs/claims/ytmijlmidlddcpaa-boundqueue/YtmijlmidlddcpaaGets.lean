/- PROVED: the numbers of the rows that a queue answers. CONDITIONS: none beyond each theorem's own. -/
import Derived.Test.YtmijlmidlddcpaaQDelay
namespace Go.Proofs.Ytmijlmidlddcpaa
open Go.RowKit

theorem pw_is {R M : Int} {s : List Int} (h : bright R M s) : pw R M s = outs (qg R M fun j => s.getD j 0) s.length := by unfold pw; rw [if_pos h]
theorem pl_is {R M : Int} {s : List Int} (h : bright R M s) : pl R M s = outs (ql R M fun j => s.getD j 0) s.length := by unfold pl; rw [if_pos h]
theorem pq_is {R M : Int} {s : List Int} (h : bright R M s) : pq R M s = outs (qw R M fun j => s.getD j 0) s.length := by unfold pq; rw [if_pos h]
theorem pw_getD {R M : Int} {s : List Int} (h : bright R M s) (j : Nat) (hj : j < s.length) : (pw R M s).getD j 0 = qg R M (fun j => s.getD j 0) j := by rw [pw_is h, outs_getD _ _ _ hj]
theorem pl_getD {R M : Int} {s : List Int} (h : bright R M s) (j : Nat) (hj : j < s.length) : (pl R M s).getD j 0 = ql R M (fun j => s.getD j 0) j := by rw [pl_is h, outs_getD _ _ _ hj]
theorem pq_getD {R M : Int} {s : List Int} (h : bright R M s) (j : Nat) (hj : j < s.length) : (pq R M s).getD j 0 = qw R M (fun j => s.getD j 0) j := by rw [pq_is h, outs_getD _ _ _ hj]
theorem pw_len {R M : Int} {s : List Int} (h : bright R M s) : (pw R M s).length = s.length := by rw [pw_is h, outs_len]
theorem pl_len {R M : Int} {s : List Int} (h : bright R M s) : (pl R M s).length = s.length := by rw [pl_is h, outs_len]
theorem pq_len {R M : Int} {s : List Int} (h : bright R M s) : (pq R M s).length = s.length := by rw [pq_is h, outs_len]
theorem pl_in {R M : Int} {s : List Int} (h : bright R M s) : allIn (pl R M s) := fun j hj => by
  rw [pl_len h] at hj
  rw [pl_getD h j hj]
  exact ql_in h.1 h.2.1 h.2.2.2 j hj
theorem of_pw {R M : Int} {s : List Int} (h : bright R M s) (t : Nat) (ht : t ≤ s.length) : (of (pw R M s)).getD t 0 = acc (qg R M fun j => s.getD j 0) t := by
  rw [pw_is h]; exact of_outs h (qg_in h.1 h.2.1 h.2.2.2) t ht
theorem of_pl {R M : Int} {s : List Int} (h : bright R M s) (t : Nat) (ht : t ≤ s.length) : (of (pl R M s)).getD t 0 = acc (ql R M fun j => s.getD j 0) t := by
  rw [pl_is h]; exact of_outs h (ql_in h.1 h.2.1 h.2.2.2) t ht
/-- where the greatest of what is lost is 0, nothing is -/
theorem none_lost {R M : Int} {s : List Int} (h : bright R M s) (h0 : ∀ j, j < s.length → (pl R M s).getD j 0 = 0) (j : Nat) (hj : j < s.length) : ql R M (fun j => s.getD j 0) j = 0 := by
  rw [← pl_getD h j hj]; exact h0 j hj
/-- where nothing is lost, what goes is what the bucket lets through that holds what goes in a tick -/
theorem pw_pass {R : Int} {s : List Int} (h : bright R 1099511627776 s) (h0 : ∀ j, j < s.length → (pl R 1099511627776 s).getD j 0 = 0) : pw R 1099511627776 s = pass R R s := by
  rw [pw_is h]; exact outs_ext fun j hj => queue_go h.1 h.2.1 h.2.2.2 (none_lost h h0) j hj
/-- more room, and a faster one -/
theorem more_lost {R M Q N : Int} {s : List Int} (h : bright R M s) (k : bright Q N s) (h1 : R ≤ Q) (h2 : M ≤ N) : below (of (pl Q N s)) (of (pl R M s)) := by
  intro t ht
  rw [of_len, of_len, pl_len h, pl_len k] at ht
  rw [of_pl k t (by omega), of_pl h t (by omega)]
  exact fit_mono (more h.1 h.2.1 k.1 k.2.1 h.2.2.2 h1 h2 t (by omega)).1
theorem more_went {R M Q N : Int} {s : List Int} (h : bright R M s) (k : bright Q N s) (h1 : R ≤ Q) (h2 : M ≤ N) : below (of (pw R M s)) (of (pw Q N s)) := by
  intro t ht
  rw [of_len, of_len, pw_len h, pw_len k] at ht
  rw [of_pw k t (by omega), of_pw h t (by omega)]
  exact fit_mono (more h.1 h.2.1 k.1 k.2.1 h.2.2.2 h1 h2 t (by omega)).2

end Go.Proofs.Ytmijlmidlddcpaa
