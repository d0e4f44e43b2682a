/- PROVED: one run behind another one is one run: the same rounds, the same state, the same error. CONDITIONS: the arguments hold together at most 1048576 values. -/
import Derived.Test.YtobgjnjndkfjoaaDDt
namespace Go.Proofs.Ytobgjnjndkfjoaa.D
open Go.RowKit K
set_option linter.unusedVariables false

theorem duelParts_walk (p0 p1 r m j : Int) (a : Option Addr) (cA : Nat) (xs : List (Int × Int)) (b : Option Addr) (cB : Nat) (ys : List (Int × Int)) (w : World) (hv1 : FarV w a cA xs) (hl1 : xs.length ≤ 1048576) (hv2 : FarV w b cB ys) (hl2 : ys.length ≤ 1048576) (hs : xs.length + ys.length ≤ 1048576) :
    Calls Try.prog 7 #[.agg #[.int .i64 p0, .int .i64 p1, .int .i64 r, .int .i64 m, .int .i64 j], .slice a xs.length cA, .slice b ys.length cB] w fun e w' => e = .returned (.bool true) ∧ Below w.heap.size w w' := by
  have own0 : ∀ (v w' : World), Owned w' v.heap.size (.slice none 0 0) 0 (flatR []) := fun v w' => ⟨World.ownsRow_nil _ _ _ _⟩
  by_cases h : wrong ⟨p0, p1, r, m, j⟩ = 0
  · have h1 := fun v q => play_own ⟨p0, p1, r, m, j⟩ h a cA xs.length xs rfl hl1 v q
    have h2 := fun ao cp v q => play_any ⟨p0, p1, r, m, j⟩ h ao cp (xs.length + ys.length) (xs ++ ys) (by simp) hs v q
    have happ : allLate ⟨p0, p1, r, m, j⟩ (xs ++ ys) ↔ allLate ⟨p0, p1, r, m, j⟩ xs ∧ allLate ⟨p0, p1, r, m, j⟩ ys := by
      constructor
      · intro q; exact ⟨fun p hp => q p (by simp [hp]), fun p hp => q p (by simp [hp])⟩
      · rintro ⟨q1, q2⟩ p hp
        rcases List.mem_append.1 hp with hp | hp
        · exact q1 p hp
        · exact q2 p hp
    by_cases g : allLate ⟨p0, p1, r, m, j⟩ xs
    · have hp := steps_right (start_right (wrong_ok.1 h)) g
      have pa : ∀ v, VRow v a xs → Calls Try.prog 17 #[.agg #[.int .i64 p0, .int .i64 p1, .int .i64 r, .int .i64 m, .int .i64 j], .slice a xs.length cA] v fun e w' => ∃ t, e = .returned (.tuple #[t, .agg #[.int .i64 (steps ⟨p0, p1, r, m, j⟩ (K.start ⟨p0, p1, r, m, j⟩) xs).f0.k, .int .i64 (steps ⟨p0, p1, r, m, j⟩ (K.start ⟨p0, p1, r, m, j⟩) xs).f0.n, .int .i64 (steps ⟨p0, p1, r, m, j⟩ (K.start ⟨p0, p1, r, m, j⟩) xs).f0.b, .int .i64 (steps ⟨p0, p1, r, m, j⟩ (K.start ⟨p0, p1, r, m, j⟩) xs).f0.a, .int .i64 (steps ⟨p0, p1, r, m, j⟩ (K.start ⟨p0, p1, r, m, j⟩) xs).f0.s, .int .i64 (steps ⟨p0, p1, r, m, j⟩ (K.start ⟨p0, p1, r, m, j⟩) xs).f0.q, .int .i64 (steps ⟨p0, p1, r, m, j⟩ (K.start ⟨p0, p1, r, m, j⟩) xs).f1.k, .int .i64 (steps ⟨p0, p1, r, m, j⟩ (K.start ⟨p0, p1, r, m, j⟩) xs).f1.n, .int .i64 (steps ⟨p0, p1, r, m, j⟩ (K.start ⟨p0, p1, r, m, j⟩) xs).f1.b, .int .i64 (steps ⟨p0, p1, r, m, j⟩ (K.start ⟨p0, p1, r, m, j⟩) xs).f1.a, .int .i64 (steps ⟨p0, p1, r, m, j⟩ (K.start ⟨p0, p1, r, m, j⟩) xs).f1.s, .int .i64 (steps ⟨p0, p1, r, m, j⟩ (K.start ⟨p0, p1, r, m, j⟩) xs).f1.q, .int .i64 (steps ⟨p0, p1, r, m, j⟩ (K.start ⟨p0, p1, r, m, j⟩) xs).w0, .int .i64 (steps ⟨p0, p1, r, m, j⟩ (K.start ⟨p0, p1, r, m, j⟩) xs).w1], .int .i64 0]) ∧ Owned w' v.heap.size t xs.length (flatR (rounds ⟨p0, p1, r, m, j⟩ (K.start ⟨p0, p1, r, m, j⟩) xs)) ∧ Below v.heap.size v w' := fun v q => (h1 v q).mono (by
        rintro e w' ⟨⟨_, t, rfl, ho⟩ | ⟨h, _⟩, bb⟩
        · exact ⟨t, rfl, ⟨ho⟩, bb⟩
        · exact absurd g h)
      by_cases g2 : allLate ⟨p0, p1, r, m, j⟩ ys
      · refine dt_go p0 p1 r m j (steps ⟨p0, p1, r, m, j⟩ (K.start ⟨p0, p1, r, m, j⟩) xs).f0.k (steps ⟨p0, p1, r, m, j⟩ (K.start ⟨p0, p1, r, m, j⟩) xs).f0.n (steps ⟨p0, p1, r, m, j⟩ (K.start ⟨p0, p1, r, m, j⟩) xs).f0.b (steps ⟨p0, p1, r, m, j⟩ (K.start ⟨p0, p1, r, m, j⟩) xs).f0.a (steps ⟨p0, p1, r, m, j⟩ (K.start ⟨p0, p1, r, m, j⟩) xs).f0.s (steps ⟨p0, p1, r, m, j⟩ (K.start ⟨p0, p1, r, m, j⟩) xs).f0.q (steps ⟨p0, p1, r, m, j⟩ (K.start ⟨p0, p1, r, m, j⟩) xs).f1.k (steps ⟨p0, p1, r, m, j⟩ (K.start ⟨p0, p1, r, m, j⟩) xs).f1.n (steps ⟨p0, p1, r, m, j⟩ (K.start ⟨p0, p1, r, m, j⟩) xs).f1.b (steps ⟨p0, p1, r, m, j⟩ (K.start ⟨p0, p1, r, m, j⟩) xs).f1.a (steps ⟨p0, p1, r, m, j⟩ (K.start ⟨p0, p1, r, m, j⟩) xs).f1.s (steps ⟨p0, p1, r, m, j⟩ (K.start ⟨p0, p1, r, m, j⟩) xs).f1.q (steps ⟨p0, p1, r, m, j⟩ (K.start ⟨p0, p1, r, m, j⟩) xs).w0 (steps ⟨p0, p1, r, m, j⟩ (K.start ⟨p0, p1, r, m, j⟩) xs).w1 (steps ⟨p0, p1, r, m, j⟩ (K.start ⟨p0, p1, r, m, j⟩) (xs ++ ys)).f0.k (steps ⟨p0, p1, r, m, j⟩ (K.start ⟨p0, p1, r, m, j⟩) (xs ++ ys)).f0.n (steps ⟨p0, p1, r, m, j⟩ (K.start ⟨p0, p1, r, m, j⟩) (xs ++ ys)).f0.b (steps ⟨p0, p1, r, m, j⟩ (K.start ⟨p0, p1, r, m, j⟩) (xs ++ ys)).f0.a (steps ⟨p0, p1, r, m, j⟩ (K.start ⟨p0, p1, r, m, j⟩) (xs ++ ys)).f0.s (steps ⟨p0, p1, r, m, j⟩ (K.start ⟨p0, p1, r, m, j⟩) (xs ++ ys)).f0.q (steps ⟨p0, p1, r, m, j⟩ (K.start ⟨p0, p1, r, m, j⟩) (xs ++ ys)).f1.k (steps ⟨p0, p1, r, m, j⟩ (K.start ⟨p0, p1, r, m, j⟩) (xs ++ ys)).f1.n (steps ⟨p0, p1, r, m, j⟩ (K.start ⟨p0, p1, r, m, j⟩) (xs ++ ys)).f1.b (steps ⟨p0, p1, r, m, j⟩ (K.start ⟨p0, p1, r, m, j⟩) (xs ++ ys)).f1.a (steps ⟨p0, p1, r, m, j⟩ (K.start ⟨p0, p1, r, m, j⟩) (xs ++ ys)).f1.s (steps ⟨p0, p1, r, m, j⟩ (K.start ⟨p0, p1, r, m, j⟩) (xs ++ ys)).f1.q (steps ⟨p0, p1, r, m, j⟩ (K.start ⟨p0, p1, r, m, j⟩) (xs ++ ys)).w0 (steps ⟨p0, p1, r, m, j⟩ (K.start ⟨p0, p1, r, m, j⟩) (xs ++ ys)).w1 0 0 a b cA cB xs.length ys.length (xs.length + ys.length) (xs.length + ys.length) xs.length xs ys (rounds ⟨p0, p1, r, m, j⟩ (K.start ⟨p0, p1, r, m, j⟩) xs) (rounds ⟨p0, p1, r, m, j⟩ (K.start ⟨p0, p1, r, m, j⟩) (xs ++ ys)) rfl rfl rfl hs w hv1.1 hv2.1 (rounds_len _ _ _) (by rw [rounds_len]; simp) (.inr ⟨rfl, rfl, hp, .inl ⟨rfl, g2, (steps_append _ _ _ _).symm, rounds_append _ _ _ _⟩⟩) pa (fun ao cp v q => (h2 ao cp v q).mono ?_)
        rintro e w' ⟨⟨_, al, cp', rfl, _, hr, hq⟩ | ⟨h, _⟩, bb⟩
        · exact ⟨al, cp', rfl, hr, hq, bb⟩
        · exact absurd (happ.2 ⟨g, g2⟩) h
      · refine dt_go p0 p1 r m j (steps ⟨p0, p1, r, m, j⟩ (K.start ⟨p0, p1, r, m, j⟩) xs).f0.k (steps ⟨p0, p1, r, m, j⟩ (K.start ⟨p0, p1, r, m, j⟩) xs).f0.n (steps ⟨p0, p1, r, m, j⟩ (K.start ⟨p0, p1, r, m, j⟩) xs).f0.b (steps ⟨p0, p1, r, m, j⟩ (K.start ⟨p0, p1, r, m, j⟩) xs).f0.a (steps ⟨p0, p1, r, m, j⟩ (K.start ⟨p0, p1, r, m, j⟩) xs).f0.s (steps ⟨p0, p1, r, m, j⟩ (K.start ⟨p0, p1, r, m, j⟩) xs).f0.q (steps ⟨p0, p1, r, m, j⟩ (K.start ⟨p0, p1, r, m, j⟩) xs).f1.k (steps ⟨p0, p1, r, m, j⟩ (K.start ⟨p0, p1, r, m, j⟩) xs).f1.n (steps ⟨p0, p1, r, m, j⟩ (K.start ⟨p0, p1, r, m, j⟩) xs).f1.b (steps ⟨p0, p1, r, m, j⟩ (K.start ⟨p0, p1, r, m, j⟩) xs).f1.a (steps ⟨p0, p1, r, m, j⟩ (K.start ⟨p0, p1, r, m, j⟩) xs).f1.s (steps ⟨p0, p1, r, m, j⟩ (K.start ⟨p0, p1, r, m, j⟩) xs).f1.q (steps ⟨p0, p1, r, m, j⟩ (K.start ⟨p0, p1, r, m, j⟩) xs).w0 (steps ⟨p0, p1, r, m, j⟩ (K.start ⟨p0, p1, r, m, j⟩) xs).w1 0 0 0 0 0 0 0 0 0 0 0 0 0 0 0 2 a b cA cB xs.length ys.length (xs.length + ys.length) 0 xs.length xs ys (rounds ⟨p0, p1, r, m, j⟩ (K.start ⟨p0, p1, r, m, j⟩) xs) [] rfl rfl rfl hs w hv1.1 hv2.1 (rounds_len _ _ _) rfl (.inr ⟨rfl, rfl, hp, .inr ⟨rfl, g2⟩⟩) pa (fun ao cp v q => (h2 ao cp v q).mono ?_)
        rintro e w' ⟨⟨h, _⟩ | ⟨_, rfl⟩, bb⟩
        · exact absurd (happ.1 h).2 g2
        · exact ⟨none, 0, rfl, .inl rfl, fun q hq => (by cases hq), bb⟩
    · refine dt_go p0 p1 r m j 0 0 0 0 0 0 0 0 0 0 0 0 0 0 0 0 0 0 0 0 0 0 0 0 0 0 0 0 2 2 a b cA cB xs.length ys.length (xs.length + ys.length) 0 0 xs ys [] [] rfl rfl rfl hs w hv1.1 hv2.1 rfl rfl (.inl ⟨by decide, rfl⟩) (fun v q => (h1 v q).mono ?_) (fun ao cp v q => (h2 ao cp v q).mono ?_)
      · rintro e w' ⟨⟨h, _⟩ | ⟨_, rfl⟩, bb⟩
        · exact absurd h g
        · exact ⟨_, rfl, own0 _ _, bb⟩
      · rintro e w' ⟨⟨h, _⟩ | ⟨_, rfl⟩, bb⟩
        · exact absurd (happ.1 h).1 g
        · exact ⟨none, 0, rfl, .inl rfl, fun q hq => (by cases hq), bb⟩
  · refine dt_go p0 p1 r m j 0 0 0 0 0 0 0 0 0 0 0 0 0 0 0 0 0 0 0 0 0 0 0 0 0 0 0 0 (wrong ⟨p0, p1, r, m, j⟩) (wrong ⟨p0, p1, r, m, j⟩) a b cA cB xs.length ys.length (xs.length + ys.length) 0 0 xs ys [] [] rfl rfl rfl hs w hv1.1 hv2.1 rfl rfl (.inl ⟨by simpa using h, rfl⟩) (fun v q => (play_wrong ⟨p0, p1, r, m, j⟩ _ rfl (by simpa using h) _ v).mono ?_) (fun ao cp v q => (play_wrong ⟨p0, p1, r, m, j⟩ _ rfl (by simpa using h) _ v).mono ?_)
    · rintro e w' ⟨rfl, bb⟩
      exact ⟨_, rfl, own0 _ _, bb⟩
    · rintro e w' ⟨rfl, bb⟩
      exact ⟨none, 0, rfl, .inl rfl, fun q hq => (by cases hq), bb⟩

end Go.Proofs.Ytobgjnjndkfjoaa.D
namespace Go.Proofs.Ytobgjnjndkfjoaa.duelParts
open Go.ChangeShapes Go.WideShapes Go.ChangeAt Go.RowKit D
set_option linter.unusedVariables false

theorem contract (H : Type) (enc : TypeId × Value → H) (W : World) (base : Nat) (args : Array Value) (ds gs : List (DataW H)) (before : List MemPlace)
    (hval : ∀ (j : Nat) t v, Try.f7.params[j]? = some t → args[j]? = some v → Value.okWide Try.prog W .any base t v)
    (hW : DataW.Whole enc Try.prog Try.f7.params.toList Rows.duelPartsSpec.vars false W args.toList ds gs before) (hk : Rows.uptoSmall H (ds ++ gs) = true) :
    Calls Try.prog 7 args W fun e W' => ∃ v, e = .returned v ∧ Rows.duelPartsSpec.post enc Try.prog Try.f7 false true false false W args v W' := by
  have hW' := hW
  obtain ⟨p, q, hA0, hV, rfl, hfz, hnd⟩ := hW
  have hA : DataW.TrodAll enc Try.prog W 0 (fun _ => true) true Try.f7.params.toList args.toList ds p := hA0
  rw [Try.params7] at hA hval
  obtain ⟨v0, vs0, d0, ds0, p0, q0, hargs, rfl, rfl, h0, r0⟩ := trodAll_cons hA
  obtain ⟨v1, vs1, d1, ds1, p1, q1, rfl, rfl, rfl, h1, r1⟩ := trodAll_cons r0
  obtain ⟨v2, vs2, d2, ds2, p2, q2, rfl, rfl, rfl, h2, r2⟩ := trodAll_cons r1
  obtain ⟨rfl, rfl, rfl⟩ := trodAll_nil r2
  obtain rfl : args = #[v0, v1, v2] := by cases args; simp_all
  obtain ⟨rfl, rfl⟩ := trodVars_none hV
  have k0 := h0
  have lt0 : ∀ x ∈ p0, x.block < W.heap.size := by obtain ⟨m, hm⟩ := k0; exact DataW.trod_lt m _ _ _ hm
  obtain ⟨x0_0, x0_1, x0_2, x0_3, x0_4, rfl, _⟩ := openR (hval 0 24 v0 rfl rfl) h0
  have k1 := h1
  have lt1 : ∀ x ∈ p1, x.block < W.heap.size := by obtain ⟨m, hm⟩ := k1; exact DataW.trod_lt m _ _ _ hm
  obtain ⟨a1, len1, cap1, rfl⟩ := okWide_slice Try.underlying40 (hval 1 40 v1 rfl rfl)
  obtain ⟨z1, rfl, w1, e1⟩ := farV h1
  have l1 : z1.length ≤ 1048576 := by
    rcases e1 with ⟨_, e⟩ | ⟨elems, spare, e, hle⟩
    · omega
    · subst e
      exact Nat.le_trans hle (bulk_at (i := 1) (elems := elems) (spare := spare) hk rfl)
  have k2 := h2
  have lt2 : ∀ x ∈ p2, x.block < W.heap.size := by obtain ⟨m, hm⟩ := k2; exact DataW.trod_lt m _ _ _ hm
  obtain ⟨a2, len2, cap2, rfl⟩ := okWide_slice Try.underlying40 (hval 2 40 v2 rfl rfl)
  obtain ⟨z2, rfl, w2, e2⟩ := farV h2
  have l2 : z2.length ≤ 1048576 := by
    rcases e2 with ⟨_, e⟩ | ⟨elems, spare, e, hle⟩
    · omega
    · subst e
      exact Nat.le_trans hle (bulk_at (i := 2) (elems := elems) (spare := spare) hk rfl)
  have ls : z1.length + z2.length ≤ 1048576 := by
    rcases e1 with ⟨_, e⟩ | ⟨el1, sp1, g1, j1⟩
    · omega
    · rcases e2 with ⟨_, e⟩ | ⟨el2, sp2, g2, j2⟩
      · omega
      · subst g1 g2
        exact Nat.le_trans (Nat.add_le_add j1 j2) (bulk_both hk)
  clear hA0
  refine (duelParts_walk x0_0 x0_1 x0_2 x0_3 x0_4 a1 cap1 z1 a2 cap2 z2 W w1 l1 w2 l2 ls).mono fun e W' ⟨he, bel⟩ => ?_
  subst he
  exact ⟨_, rfl, _, _, _, [], _, [], hW', trodAll_mk1 (shut_bool Try.underlying4 _), (trodAll_cons_mk (Below.trod laidOut (by kernel_rfl) (of_decide_eq_true (by kernel_rfl)) k0 bel lt0) (trodAll_cons_mk (Below.trod laidOut (by kernel_rfl) (of_decide_eq_true (by kernel_rfl)) k1 bel lt1) (trodAll_cons_mk (Below.trod laidOut (by kernel_rfl) (of_decide_eq_true (by kernel_rfl)) k2 bel lt2) trodAll_mk0))), rfl, bel.frame _, fun h => by cases h⟩

set_option maxRecDepth 100000 in
theorem lifted (os : Os) (started : os.Started) (H : Type) (enc : TypeId × Value → H) (F : Stop.Interp) :
    ReturnsInHanded {} Try.checked os 7 .any ((Rows.OpenSpec.upto Rows.duelPartsSpec).pre6 enc Try.prog Try.f7 Rows.duelPartsUptoRow.domain false) (((Rows.OpenSpec.upto Rows.duelPartsSpec).at F).post enc Try.prog Try.f7 false true false false) := by
  refine returnsInHanded_of_cond (C := Try.checked) (s := Rows.OpenSpec.upto Rows.duelPartsSpec) (k := Rows.uptoSmall) rfl own started (by kernel_rfl) Try.func7
    (OpenSpec.witness (enc := enc) (C := Try.checked) (s := Rows.OpenSpec.upto Rows.duelPartsSpec) (k := Rows.uptoSmall) rfl false ⟨#[], #[.agg #[.int .i64 0, .int .i64 0, .int .i64 0, .int .i64 0, .int .i64 0], .slice none 0 0, .slice none 0 0], []⟩ 8 (by kernel_rfl) (by kernel_rfl) (by kernel_rfl)
      (x := ([.agg [.agg [.lit (.int .i64 0), .lit (.int .i64 0)], .lit (.int .i64 0), .lit (.int .i64 0), .lit (.int .i64 0)], .nil, .nil], [], [])) (by kernel_rfl) rfl (by kernel_rfl)) ?_
  intro W base args ds gs before hval hW _ hk _
  exact contract H enc W base args ds gs before hval hW hk

theorem proved : Rows.DuelPartsUptoSaid :=
  OpenClaim.holds_of_cond 7 Try.f7 rfl rfl rfl rfl rfl rfl rfl ⟨rfl, rfl, rfl, rfl, rfl⟩ rfl rfl rfl rfl rfl (by kernel_rfl) Try.func7 (by kernel_rfl)
    (of_decide_eq_true (by kernel_rfl)) (by unfold Func.isWrapper; first | (rw [if_pos (by decide +kernel)]; kernel_rfl) | (rw [if_neg (by decide +kernel)]; exact ⟨rfl, rfl⟩))
    (fun os started H enc _ F => lifted os started H enc F)

end Go.Proofs.Ytobgjnjndkfjoaa.duelParts
namespace Go.Proofs.Ytobgjnjndkfjoaa
theorem duelPartsUpto_holds : Rows.DuelPartsUptoSaid := duelParts.proved
#print axioms duelPartsUpto_holds
end Go.Proofs.Ytobgjnjndkfjoaa
