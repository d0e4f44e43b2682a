/- PROVED: duel.Play answers what the document's own package answers: the same rounds, the same state, the same error. CONDITIONS: the arguments hold together at most 1048576 values. -/
import Derived.Test.YtobgjnjndkfjoaaDPPlay
import Derived.Test.YtobgjnjndkfjoaaDEq
import Derived.Test.YtobgjnjndkfjoaaDSame
import Derived.Test.YtobgjnjndkfjoaaDBulk
namespace Go.Proofs.Ytobgjnjndkfjoaa.D
open Go.RowKit K
set_option linter.unusedVariables false

attribute [local go_sem ↓] eqSt

set_option maxHeartbeats 6400000 in
theorem dp_go (p0 p1 r m j k0 n0 b0 a0 c0 q0 k1 n1 b1 a1 c1 q1 w0 w1 E : Int) (a : Option Addr) (cap n N : Nat) (ls : List (Int × Int)) (R : List Rx) (hR : R.length = N) (hN : N ≤ 1048576) (w : World) (hv : VRow w a ls)
    (pl : ∀ v, VRow v a ls → Calls Try.prog 17 #[.agg #[.int .i64 p0, .int .i64 p1, .int .i64 r, .int .i64 m, .int .i64 j], .slice a n cap] v fun e w' => ∃ ao cp, e = .returned (.tuple #[.slice ao N cp, .agg #[.int .i64 k0, .int .i64 n0, .int .i64 b0, .int .i64 a0, .int .i64 c0, .int .i64 q0, .int .i64 k1, .int .i64 n1, .int .i64 b1, .int .i64 a1, .int .i64 c1, .int .i64 q1, .int .i64 w0, .int .i64 w1], .int .i64 E]) ∧ RRow w' ao R ∧ Below v.heap.size v w')
    (pp : ∀ v, VRow v a ls → Calls Try.prog 18 #[.agg #[.int .i64 p0, .int .i64 p1, .int .i64 r, .int .i64 m, .int .i64 j], .slice a n cap] v fun e w' => ∃ ao cp, e = .returned (.tuple #[.slice ao N cp, .agg #[.int .i64 k0, .int .i64 n0, .int .i64 b0, .int .i64 a0, .int .i64 c0, .int .i64 q0, .int .i64 k1, .int .i64 n1, .int .i64 b1, .int .i64 a1, .int .i64 c1, .int .i64 q1, .int .i64 w0, .int .i64 w1], .int .i64 E]) ∧ RRow w' ao R ∧ Below v.heap.size v w') :
    Calls Try.prog 4 #[.agg #[.int .i64 p0, .int .i64 p1, .int .i64 r, .int .i64 m, .int .i64 j], .slice a n cap] w fun e w' => e = .returned (.bool true) ∧ Below w.heap.size w w' := by
  have X := Rul.new w _ rfl p0 p1 r m j
  have B : Below w.heap.size w (w.alloc (.cells #[.int .i64 p0, .int .i64 p1, .int .i64 r, .int .i64 m, .int .i64 j] 24)) := balloc (Below.refl _ _) _
  replace hv := hv.alloc (.cells #[.int .i64 p0, .int .i64 p1, .int .i64 r, .int .i64 m, .int .i64 j] 24)
  have s1 := sameS_self k0 n0 b0 a0 c0 q0 k1 n1 b1 a1 c1 q1 w0 w1
  obtain ⟨x0, x1, x2, x3, x4, _, _, _, _, _⟩ := id X
  go_enter Try.func4, Try.ntmps4
  go_wp2_with (first
    | (go_at_call 17; refine (pl _ hv).mono ?_; clear pl x0 x1 x2 x3 x4; rintro xx v1 ⟨ao, cp, rfl, hr1, b⟩; replace X := (X.kept b).alloc (.cells #[.int .i64 k0, .int .i64 n0, .int .i64 b0, .int .i64 a0, .int .i64 c0, .int .i64 q0, .int .i64 k1, .int .i64 n1, .int .i64 b1, .int .i64 a1, .int .i64 c1, .int .i64 q1, .int .i64 w0, .int .i64 w1] 29); replace hv := (hv.kept b).alloc (.cells #[.int .i64 k0, .int .i64 n0, .int .i64 b0, .int .i64 a0, .int .i64 c0, .int .i64 q0, .int .i64 k1, .int .i64 n1, .int .i64 b1, .int .i64 a1, .int .i64 c1, .int .i64 q1, .int .i64 w0, .int .i64 w1] 29); replace B := balloc (bthen B b) (.cells #[.int .i64 k0, .int .i64 n0, .int .i64 b0, .int .i64 a0, .int .i64 c0, .int .i64 q0, .int .i64 k1, .int .i64 n1, .int .i64 b1, .int .i64 a1, .int .i64 c1, .int .i64 q1, .int .i64 w0, .int .i64 w1] 29); replace hr1 := hr1.alloc (.cells #[.int .i64 k0, .int .i64 n0, .int .i64 b0, .int .i64 a0, .int .i64 c0, .int .i64 q0, .int .i64 k1, .int .i64 n1, .int .i64 b1, .int .i64 a1, .int .i64 c1, .int .i64 q1, .int .i64 w0, .int .i64 w1] 29); clear b; have E1 := Sta.new v1 _ rfl k0 n0 b0 a0 c0 q0 k1 n1 b1 a1 c1 q1 w0 w1; obtain ⟨W1, hW1⟩ : ∃ W1, v1.alloc (.cells #[.int .i64 k0, .int .i64 n0, .int .i64 b0, .int .i64 a0, .int .i64 c0, .int .i64 q0, .int .i64 k1, .int .i64 n1, .int .i64 b1, .int .i64 a1, .int .i64 c1, .int .i64 q1, .int .i64 w0, .int .i64 w1] 29) = W1 := ⟨_, rfl⟩; rw [hW1] at X hv B hr1 E1; obtain ⟨x0, x1, x2, x3, x4, _, _, _, _, _⟩ := id X)
    | (go_at_call 18; refine (pp _ hv).mono ?_; clear pp x0 x1 x2 x3 x4; rintro xx v2 ⟨ao2, cp2, rfl, hr2, b⟩; replace B := balloc (bthen B b) (.cells #[.int .i64 k0, .int .i64 n0, .int .i64 b0, .int .i64 a0, .int .i64 c0, .int .i64 q0, .int .i64 k1, .int .i64 n1, .int .i64 b1, .int .i64 a1, .int .i64 c1, .int .i64 q1, .int .i64 w0, .int .i64 w1] 29); replace hr1 := (hr1.kept b).alloc (.cells #[.int .i64 k0, .int .i64 n0, .int .i64 b0, .int .i64 a0, .int .i64 c0, .int .i64 q0, .int .i64 k1, .int .i64 n1, .int .i64 b1, .int .i64 a1, .int .i64 c1, .int .i64 q1, .int .i64 w0, .int .i64 w1] 29); replace hr2 := hr2.alloc (.cells #[.int .i64 k0, .int .i64 n0, .int .i64 b0, .int .i64 a0, .int .i64 c0, .int .i64 q0, .int .i64 k1, .int .i64 n1, .int .i64 b1, .int .i64 a1, .int .i64 c1, .int .i64 q1, .int .i64 w0, .int .i64 w1] 29); replace E1 := (E1.kept b).alloc (.cells #[.int .i64 k0, .int .i64 n0, .int .i64 b0, .int .i64 a0, .int .i64 c0, .int .i64 q0, .int .i64 k1, .int .i64 n1, .int .i64 b1, .int .i64 a1, .int .i64 c1, .int .i64 q1, .int .i64 w0, .int .i64 w1] 29); have E2 := Sta.new v2 _ rfl k0 n0 b0 a0 c0 q0 k1 n1 b1 a1 c1 q1 w0 w1; clear b hW1; obtain ⟨W2, hW2⟩ : ∃ W2, v2.alloc (.cells #[.int .i64 k0, .int .i64 n0, .int .i64 b0, .int .i64 a0, .int .i64 c0, .int .i64 q0, .int .i64 k1, .int .i64 n1, .int .i64 b1, .int .i64 a1, .int .i64 c1, .int .i64 q1, .int .i64 w0, .int .i64 w1] 29) = W2 := ⟨_, rfl⟩; rw [hW2] at B hr1 hr2 E1 E2; obtain ⟨t0, t1, t2, t3, t4, t5, t6, t7, t8, t9, t10, t11, t12, t13, _, _, _, _, _, _, _, _, _, _, _, _, _, _⟩ := E1; obtain ⟨y0, y1, y2, y3, y4, y5, y6, y7, y8, y9, y10, y11, y12, y13, _, _, _, _, _, _, _, _, _, _, _, _, _, _⟩ := E2)
    | (go_at_call 19; refine (equal_same _ _ _ _ _ R hR (by omega) _ hr1 hr2).mono ?_; rintro xx v3 ⟨rfl, q, rfl⟩; replace B := below_drewN B q))
  go_ret
  exact ⟨rfl, B⟩

theorem duelPlays_walk (p0 p1 r m j : Int) (a : Option Addr) (cap : Nat) (ls : List (Int × Int)) (w : World) (hv : FarV w a cap ls) (hl : ls.length ≤ 1048576) :
    Calls Try.prog 4 #[.agg #[.int .i64 p0, .int .i64 p1, .int .i64 r, .int .i64 m, .int .i64 j], .slice a ls.length cap] w fun e w' => e = .returned (.bool true) ∧ Below w.heap.size w w' := by
  by_cases h : wrong ⟨p0, p1, r, m, j⟩ = 0
  · have h1 := fun v q => play_any ⟨p0, p1, r, m, j⟩ h a cap ls.length ls rfl hl v q
    have h2 := fun v q => pplay_any ⟨p0, p1, r, m, j⟩ h a cap ls.length ls rfl hl v q
    by_cases g : allLate ⟨p0, p1, r, m, j⟩ ls
    · refine dp_go p0 p1 r m j (steps ⟨p0, p1, r, m, j⟩ (K.start ⟨p0, p1, r, m, j⟩) ls).f0.k (steps ⟨p0, p1, r, m, j⟩ (K.start ⟨p0, p1, r, m, j⟩) ls).f0.n (steps ⟨p0, p1, r, m, j⟩ (K.start ⟨p0, p1, r, m, j⟩) ls).f0.b (steps ⟨p0, p1, r, m, j⟩ (K.start ⟨p0, p1, r, m, j⟩) ls).f0.a (steps ⟨p0, p1, r, m, j⟩ (K.start ⟨p0, p1, r, m, j⟩) ls).f0.s (steps ⟨p0, p1, r, m, j⟩ (K.start ⟨p0, p1, r, m, j⟩) ls).f0.q (steps ⟨p0, p1, r, m, j⟩ (K.start ⟨p0, p1, r, m, j⟩) ls).f1.k (steps ⟨p0, p1, r, m, j⟩ (K.start ⟨p0, p1, r, m, j⟩) ls).f1.n (steps ⟨p0, p1, r, m, j⟩ (K.start ⟨p0, p1, r, m, j⟩) ls).f1.b (steps ⟨p0, p1, r, m, j⟩ (K.start ⟨p0, p1, r, m, j⟩) ls).f1.a (steps ⟨p0, p1, r, m, j⟩ (K.start ⟨p0, p1, r, m, j⟩) ls).f1.s (steps ⟨p0, p1, r, m, j⟩ (K.start ⟨p0, p1, r, m, j⟩) ls).f1.q (steps ⟨p0, p1, r, m, j⟩ (K.start ⟨p0, p1, r, m, j⟩) ls).w0 (steps ⟨p0, p1, r, m, j⟩ (K.start ⟨p0, p1, r, m, j⟩) ls).w1 0 a cap ls.length ls.length ls (rounds ⟨p0, p1, r, m, j⟩ (K.start ⟨p0, p1, r, m, j⟩) ls) (rounds_len _ _ _) hl w hv.1 (fun v q => (h1 v q).mono ?_) (fun v q => (h2 v q).mono ?_)
      all_goals
        rintro e w' ⟨⟨_, ao, cp, rfl, _, hr, _⟩ | ⟨h, _⟩, b⟩
        · exact ⟨ao, cp, rfl, hr, b⟩
        · exact absurd g h
    · refine dp_go p0 p1 r m j 0 0 0 0 0 0 0 0 0 0 0 0 0 0 2 a cap ls.length 0 ls [] rfl (by omega) w hv.1 (fun v q => (h1 v q).mono ?_) (fun v q => (h2 v q).mono ?_)
      all_goals
        rintro e w' ⟨⟨h, _⟩ | ⟨_, rfl⟩, b⟩
        · exact absurd h g
        · exact ⟨none, 0, rfl, .inl rfl, b⟩
  · refine dp_go p0 p1 r m j 0 0 0 0 0 0 0 0 0 0 0 0 0 0 (wrong ⟨p0, p1, r, m, j⟩) a cap ls.length 0 ls [] rfl (by omega) w hv.1 (fun v q => (play_wrong ⟨p0, p1, r, m, j⟩ _ rfl (by simpa using h) _ v).mono ?_) (fun v q => (pplay_wrong ⟨p0, p1, r, m, j⟩ _ rfl (by simpa using h) _ _ _ v).mono ?_)
    all_goals
      rintro e w' ⟨rfl, b⟩
      exact ⟨none, 0, rfl, .inl rfl, b⟩

end Go.Proofs.Ytobgjnjndkfjoaa.D
namespace Go.Proofs.Ytobgjnjndkfjoaa.duelPlays
open Go.ChangeShapes Go.WideShapes Go.ChangeAt Go.RowKit D
set_option linter.unusedVariables false

theorem contract (H : Type) (enc : TypeId × Value → H) (W : World) (base : Nat) (args : Array Value) (ds gs : List (DataW H)) (before : List MemPlace)
    (hval : ∀ (j : Nat) t v, Try.f4.params[j]? = some t → args[j]? = some v → Value.okWide Try.prog W .any base t v)
    (hW : DataW.Whole enc Try.prog Try.f4.params.toList Rows.duelPlaysSpec.vars false W args.toList ds gs before) (hk : Rows.uptoSmall H (ds ++ gs) = true) :
    Calls Try.prog 4 args W fun e W' => ∃ v, e = .returned v ∧ Rows.duelPlaysSpec.post enc Try.prog Try.f4 false true false false W args v W' := by
  have hW' := hW
  obtain ⟨p, q, hA0, hV, rfl, hfz, hnd⟩ := hW
  have hA : DataW.TrodAll enc Try.prog W 0 (fun _ => true) true Try.f4.params.toList args.toList ds p := hA0
  rw [Try.params4] at hA hval
  obtain ⟨v0, vs0, d0, ds0, p0, q0, hargs, rfl, rfl, h0, r0⟩ := trodAll_cons hA
  obtain ⟨v1, vs1, d1, ds1, p1, q1, rfl, rfl, rfl, h1, r1⟩ := trodAll_cons r0
  obtain ⟨rfl, rfl, rfl⟩ := trodAll_nil r1
  obtain rfl : args = #[v0, v1] := by cases args; simp_all
  obtain ⟨rfl, rfl⟩ := trodVars_none hV
  have k0 := h0
  have lt0 : ∀ x ∈ p0, x.block < W.heap.size := by obtain ⟨m, hm⟩ := k0; exact DataW.trod_lt m _ _ _ hm
  obtain ⟨x0_0, x0_1, x0_2, x0_3, x0_4, rfl, _⟩ := openR (hval 0 24 v0 rfl rfl) h0
  have k1 := h1
  have lt1 : ∀ x ∈ p1, x.block < W.heap.size := by obtain ⟨m, hm⟩ := k1; exact DataW.trod_lt m _ _ _ hm
  obtain ⟨a1, len1, cap1, rfl⟩ := okWide_slice Try.underlying40 (hval 1 40 v1 rfl rfl)
  obtain ⟨z1, rfl, w1, e1⟩ := farV h1
  have l1 : z1.length ≤ 1048576 := by
    rcases e1 with ⟨_, e⟩ | ⟨elems, spare, e, hle⟩
    · omega
    · subst e
      exact Nat.le_trans hle (bulk_at (i := 1) (elems := elems) (spare := spare) hk rfl)
  clear hA0
  refine (duelPlays_walk x0_0 x0_1 x0_2 x0_3 x0_4 a1 cap1 z1 W w1 l1).mono fun e W' ⟨he, bel⟩ => ?_
  subst he
  exact ⟨_, rfl, _, _, _, [], _, [], hW', trodAll_mk1 (shut_bool Try.underlying4 _), (trodAll_cons_mk (Below.trod laidOut (by kernel_rfl) (of_decide_eq_true (by kernel_rfl)) k0 bel lt0) (trodAll_cons_mk (Below.trod laidOut (by kernel_rfl) (of_decide_eq_true (by kernel_rfl)) k1 bel lt1) trodAll_mk0)), rfl, bel.frame _, fun h => by cases h⟩

set_option maxRecDepth 100000 in
theorem lifted (os : Os) (started : os.Started) (H : Type) (enc : TypeId × Value → H) (F : Stop.Interp) :
    ReturnsInHanded {} Try.checked os 4 .any ((Rows.OpenSpec.upto Rows.duelPlaysSpec).pre6 enc Try.prog Try.f4 Rows.duelPlaysUptoRow.domain false) (((Rows.OpenSpec.upto Rows.duelPlaysSpec).at F).post enc Try.prog Try.f4 false true false false) := by
  refine returnsInHanded_of_cond (C := Try.checked) (s := Rows.OpenSpec.upto Rows.duelPlaysSpec) (k := Rows.uptoSmall) rfl own started (by kernel_rfl) Try.func4
    (OpenSpec.witness (enc := enc) (C := Try.checked) (s := Rows.OpenSpec.upto Rows.duelPlaysSpec) (k := Rows.uptoSmall) rfl false ⟨#[], #[.agg #[.int .i64 0, .int .i64 0, .int .i64 0, .int .i64 0, .int .i64 0], .slice none 0 0], []⟩ 8 (by kernel_rfl) (by kernel_rfl) (by kernel_rfl)
      (x := ([.agg [.agg [.lit (.int .i64 0), .lit (.int .i64 0)], .lit (.int .i64 0), .lit (.int .i64 0), .lit (.int .i64 0)], .nil], [], [])) (by kernel_rfl) rfl (by kernel_rfl)) ?_
  intro W base args ds gs before hval hW _ hk _
  exact contract H enc W base args ds gs before hval hW hk

theorem proved : Rows.DuelPlaysUptoSaid :=
  OpenClaim.holds_of_cond 4 Try.f4 rfl rfl rfl rfl rfl rfl rfl ⟨rfl, rfl, rfl, rfl, rfl⟩ rfl rfl rfl rfl rfl (by kernel_rfl) Try.func4 (by kernel_rfl)
    (of_decide_eq_true (by kernel_rfl)) (by unfold Func.isWrapper; first | (rw [if_pos (by decide +kernel)]; kernel_rfl) | (rw [if_neg (by decide +kernel)]; exact ⟨rfl, rfl⟩))
    (fun os started H enc _ F => lifted os started H enc F)

end Go.Proofs.Ytobgjnjndkfjoaa.duelPlays
namespace Go.Proofs.Ytobgjnjndkfjoaa
theorem duelPlaysUpto_holds : Rows.DuelPlaysUptoSaid := duelPlays.proved
#print axioms duelPlaysUpto_holds
end Go.Proofs.Ytobgjnjndkfjoaa
