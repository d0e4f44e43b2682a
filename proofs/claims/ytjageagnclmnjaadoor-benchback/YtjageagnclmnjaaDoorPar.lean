/- PROVED: bench.Parse reads just the texts that rules have. CONDITIONS: none beyond each theorem's own. -/
import Derived.Test.YtjageagnclmnjaaDoorPrs
namespace Go.Proofs.YtjageagnclmnjaaDoor.D
open Go.RowKit K
set_option linter.unusedVariables false

/-- a text is that of rules that hold -/
def Rd (l : List UInt8) (r : Ru) : Prop := wrong r = 0 ∧ tx r = l
theorem Rd.one {l : List UInt8} {r t : Ru} (h : Rd l r) (g : Rd l t) : r = t := tx_inj (right_of h.1) (right_of g.1) (h.2.trans g.2.symm)
theorem kd_nme {k : Int} (h : 1 ≤ k ∧ k ≤ 3) : kd (nme k) = k := by
  rcases (show k = 1 ∨ k = 2 ∨ k = 3 by omega) with rfl | rfl | rfl <;> rfl
theorem nb_of {n : Int} (h : 0 ≤ n ∧ n ≤ 16) : nb (dig n.toNat) = n := by
  have := nb_dig n.toNat (by omega)
  show nb (Lib.decDigits n.toNat) = n
  omega
theorem same_text {l : List UInt8} {s : ByteArray} {b : Bool} (h : decide (l = s.data.toList) = b) : ((ByteArray.mk l.toArray).toList == s.toList) = b := by
  rw [same_is, ← h]
  congr 1
  exact propext ⟨fun e => e.symm, fun e => e.symm⟩

theorem parse_rd (s : ByteArray) (hs : s.size ≤ 140737488355328) (r : Ru) (h : Rd s.data.toList r) (w : World) (L : Lw w) :
    Calls Tryd.prog 7 #[.string s] w fun e w' => e = .returned (.tuple #[.agg #[.int .i64 r.k0, .int .i64 r.k1, .int .i64 r.r, .int .i64 r.m, .int .i64 r.j], .int .i64 0]) ∧ Below w.heap.size w w' := by
  obtain ⟨hk, hr⟩ := right_of h.1
  have hw := tx_words hr
  rw [h.2] at hw
  obtain ⟨p0, p1, p2, p3, p4, N, hp, ⟨z0, z1, z2, z3, z4⟩, c⟩ := split_yes s hs (by rw [hw]; rfl)
  rw [hp] at hw
  simp only [List.cons.injEq, and_true] at hw
  obtain ⟨e0, e1, e2, e3, e4⟩ := hw
  unfold kinds at hk
  unfold ranges at hr
  have k0 : ∀ v, Lw v → Calls Tryd.prog 16 #[.string p0] v fun e w' => e = .returned (.int .i64 r.k0) ∧ w' = v := fun v l => by
    have := kindof p0 v l
    rwa [e0, kd_nme hk.1] at this
  have k1 : ∀ v, Lw v → Calls Tryd.prog 16 #[.string p1] v fun e w' => e = .returned (.int .i64 r.k1) ∧ w' = v := fun v l => by
    have := kindof p1 v l
    rwa [e1, kd_nme hk.2] at this
  have m0 : ∀ v, Lw v → Calls Tryd.prog 17 #[.string p2] v fun e w' => e = .returned (.int .i64 r.r) ∧ Below v.heap.size v w' := fun v l => by
    have := numberof p2 (by omega) v l
    rwa [e2, nb_of (by omega)] at this
  have m1 : ∀ v, Lw v → Calls Tryd.prog 17 #[.string p3] v fun e w' => e = .returned (.int .i64 r.m) ∧ Below v.heap.size v w' := fun v l => by
    have := numberof p3 (by omega) v l
    rwa [e3, nb_of (by omega)] at this
  have m2 : ∀ v, Lw v → Calls Tryd.prog 17 #[.string p4] v fun e w' => e = .returned (.int .i64 r.j) ∧ Below v.heap.size v w' := fun v l => by
    have := numberof p4 (by omega) v l
    rwa [e4, nb_of (by omega)] at this
  exact parse_of s p0 p1 p2 p3 p4 ⟨(tx r).toArray⟩ N r.k0 r.k1 r.r r.m r.j 0 w L c k0 k1 m0 m1 m2 (fun v l => print_yes r h.1 v l) false false rfl (same_text (decide_eq_true h.2))

theorem parse_not (s : ByteArray) (hs : s.size ≤ 140737488355328) (h : ∀ r, ¬ Rd s.data.toList r) (w : World) (L : Lw w) :
    Calls Tryd.prog 7 #[.string s] w fun e w' => e = .returned (.tuple #[.agg #[.int .i64 0, .int .i64 0, .int .i64 0, .int .i64 0, .int .i64 0], .int .i64 1]) ∧ Below w.heap.size w w' := by
  by_cases h5 : (wds s.data.toList).length = 5
  · obtain ⟨p0, p1, p2, p3, p4, N, hp, ⟨z0, z1, z2, z3, z4⟩, c⟩ := split_yes s hs h5
    have k0 := fun v l => kindof p0 v l
    have k1 := fun v l => kindof p1 v l
    have m0 := fun v l => numberof p2 (by omega) v l
    have m1 := fun v l => numberof p3 (by omega) v l
    have m2 := fun v l => numberof p4 (by omega) v l
    obtain ⟨r, hr⟩ : ∃ r : Ru, r = ⟨kd p0.data.toList, kd p1.data.toList, nb p2.data.toList, nb p3.data.toList, nb p4.data.toList⟩ := ⟨_, rfl⟩
    by_cases hE : wrong r = 0
    · have hne : ¬ tx r = s.data.toList := fun e => h r ⟨hE, e⟩
      have pr := fun v l => print_yes r hE v l
      subst hr
      exact parse_of s p0 p1 p2 p3 p4 ⟨(tx _).toArray⟩ N _ _ _ _ _ 0 w L c k0 k1 m0 m1 m2 pr false true rfl (same_text (decide_eq_false hne))
    · have he : (wrong r != 0) = true := by simpa using hE
      have pr := fun v (_ : Lw v) => print_no r (wrong r) rfl he v
      subst hr
      have q := parse_of s p0 p1 p2 p3 p4 ⟨#[]⟩ N _ _ _ _ _ _ w L c k0 k1 m0 m1 m2 pr true (!((ByteArray.mk #[]).toList == s.toList)) he (by rw [Bool.not_not])
      simpa using q
  · exact parse_no s hs h5 w
end Go.Proofs.YtjageagnclmnjaaDoor.D
