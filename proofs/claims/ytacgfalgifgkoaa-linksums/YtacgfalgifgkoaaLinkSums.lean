/- PROVED: tidewaitkeep.LinkSums answers true at every input: what is sent comes, waits, or is lost, of both; no more comes than may, no more waits than there is room for, nothing waits while more could come, and nothing is lost while there is room. CONDITIONS: none. -/
import Derived.Test.YtacgfalgifgkoaaAlive
import Derived.Test.YtacgfalgifgkoaaFar
import Derived.Test.YtacgfalgifgkoaaNums
namespace Go.Proofs.Ytacgfalgifgkoaa
open Go.RowKit
set_option linter.unusedVariables false

attribute [local go_sem ↓] eqA eqR

/-- both pairs that came in, boxed -/
theorem boxes (w : World) (a b s t : Int) : Arr ((w.alloc (.cells #[.int .i64 a, .int .i64 b] 22)).alloc (.cells #[.int .i64 s, .int .i64 t] 22)) w.heap.size a b ∧ Arr ((w.alloc (.cells #[.int .i64 a, .int .i64 b] 22)).alloc (.cells #[.int .i64 s, .int .i64 t] 22)) (w.heap.size + 1) s t ∧
    Below w.heap.size w ((w.alloc (.cells #[.int .i64 a, .int .i64 b] 22)).alloc (.cells #[.int .i64 s, .int .i64 t] 22)) :=
  ⟨(Arr.new w _ rfl a b).alloc _, Arr.new (w.alloc _) _ (by simp) s t, balloc (balloc (Below.refl _ _) _) _⟩

set_option maxHeartbeats 1600000 in
theorem sums_no (r m a b s t : Int) (w : World) (p : ∀ v, Calls Try.prog 7 #[.int .i64 r, .int .i64 m, .agg #[.int .i64 a, .int .i64 b], .agg #[.int .i64 s, .int .i64 t]] v (Ans v 0 0 0 0 0 0 0 0 2)) :
    Calls Try.prog 4 #[.int .i64 r, .int .i64 m, .agg #[.int .i64 a, .int .i64 b], .agg #[.int .i64 s, .int .i64 t]] w fun e w' => e = .returned (.bool true) ∧ Below w.heap.size w w' := by
  have s1 := sameR_self 0 0 0 0 0 0
  have s2 := sameA_self 0 0
  obtain ⟨A, B, C⟩ := boxes w a b s t
  have T1 := tok
  go_enter Try.func4, Try.ntmps4
  go_wp2_with (first
    | (clear T1; go_at_call 11; refine (alive_any _).mono ?_; rintro e v1 ⟨rfl, b1⟩; replace A := A.kept b1; replace B := B.kept b1; replace C := bthen C b1; obtain ⟨c0, c1, f0, f1⟩ := A; obtain ⟨d0, d1, g0, g1⟩ := B)
    | (go_at_call 7; refine (p _).mono ?_; clear p; rintro e v2 ⟨rfl, b2⟩; replace C := bthen C b2; clear b2 c0 c1 d0 d1))
  go_ret
  exact ⟨rfl, balloc (balloc C _) _⟩

/-- what lies there behind the call -/
structure Got (w : World) (B : Nat) (a b s t c0 c1 l0 l1 k0 k1 : Int) (W : World) : Prop where
  hA : Arr W w.heap.size a b
  hS : Arr W (w.heap.size + 1) s t
  hR : Rnd W B s t c0 c1 l0 l1
  hK : Arr W (B + 1) k0 k1
  hB : Below w.heap.size w W
theorem Got.start {w v : World} {a b s t : Int} (hA : Arr v w.heap.size a b) (hS : Arr v (w.heap.size + 1) s t) (hB : Below w.heap.size w v) (c0 c1 l0 l1 k0 k1 : Int) :
    Got w v.heap.size a b s t c0 c1 l0 l1 k0 k1 ((v.alloc (.cells #[.int .i64 s, .int .i64 t, .int .i64 c0, .int .i64 c1, .int .i64 l0, .int .i64 l1] 24)).alloc (.cells #[.int .i64 k0, .int .i64 k1] 22)) :=
  ⟨(hA.alloc _).alloc _, (hS.alloc _).alloc _, (Rnd.new v _ rfl s t c0 c1 l0 l1).alloc _, Arr.new (v.alloc _) _ (by simp) k0 k1, balloc (balloc hB _) _⟩
theorem Got.drewN {w : World} {B : Nat} {a b s t c0 c1 l0 l1 k0 k1 : Int} {W : World} (h : Got w B a b s t c0 c1 l0 l1 k0 k1 W) (q : Nat) : Got w B a b s t c0 c1 l0 l1 k0 k1 (W.drewN q) :=
  ⟨h.hA.drewN q, h.hS.drewN q, h.hR.drewN q, h.hK.drewN q, below_drewN h.hB q⟩

set_option maxHeartbeats 6400000 in
theorem sums_yes (r m a b s t c0 c1 l0 l1 k0 k1 : Int) (w : World) (p : ∀ v, Calls Try.prog 7 #[.int .i64 r, .int .i64 m, .agg #[.int .i64 a, .int .i64 b], .agg #[.int .i64 s, .int .i64 t]] v (Ans v s t c0 c1 l0 l1 k0 k1 0))
    (ha : 0 ≤ a ∧ a ≤ 16) (hb : 0 ≤ b ∧ b ≤ 16) (hs : 0 ≤ s ∧ s ≤ 12) (ht : 0 ≤ t ∧ t ≤ 12)
    (hc0 : 0 ≤ c0 ∧ c0 ≤ 100) (hc1 : 0 ≤ c1 ∧ c1 ≤ 100) (hl0 : 0 ≤ l0 ∧ l0 ≤ 100) (hl1 : 0 ≤ l1 ∧ l1 ≤ 100) (hk0 : 0 ≤ k0 ∧ k0 ≤ 100) (hk1 : 0 ≤ k1 ∧ k1 ≤ 100)
    (e0 : a + s = c0 + k0 + l0) (e1 : b + t = c1 + k1 + l1) (m0 : decide (min (min c0 k0) l0 < 0) = false) (m1 : decide (min (min c1 k1) l1 < 0) = false) (h1 : c0 + c1 ≤ r) (h2 : k0 + k1 ≤ m)
    (x y x' y' : Bool) (hx : (k0 + k1 + (l0 + l1) == 0) = x) (hx' : (c0 + c1 == r) = x') (hy : (l0 + l1 == 0) = y) (hy' : (k0 + k1 == m) = y') (h3 : x = true ∨ x = false ∧ x' = true) (h4 : y = true ∨ y = false ∧ y' = true) :
    Calls Try.prog 4 #[.int .i64 r, .int .i64 m, .agg #[.int .i64 a, .int .i64 b], .agg #[.int .i64 s, .int .i64 t]] w fun e w' => e = .returned (.bool true) ∧ Below w.heap.size w w' := by
  obtain ⟨A, B, C⟩ := boxes w a b s t
  have T1 := tok
  go_enter Try.func4, Try.ntmps4
  go_wp2_with (first
    | (clear T1; go_at_call 11; refine (alive_any _).mono ?_; rintro e v1 ⟨rfl, b1⟩; replace A := A.kept b1; replace B := B.kept b1; replace C := bthen C b1; obtain ⟨i0, i1, f0, f1⟩ := id A; obtain ⟨d0, d1, g0, g1⟩ := id B)
    | (go_at_call 7; refine (p _).mono ?_; clear p; rintro e v2 ⟨rfl, b2⟩; replace A := A.kept b2; replace B := B.kept b2; replace C := bthen C b2; clear b2 i0 i1 d0 d1 f0 f1 g0 g1))
  have G := Got.start A B C c0 c1 l0 l1 k0 k1
  clear A B C
  go_loopw [37] (fun i wr => (i = .int .i64 0 ∨ i = .int .i64 1 ∨ i = .int .i64 2) ∧ Got w v2.heap.size a b s t c0 c1 l0 l1 k0 k1 wr) (fun i _ => 2 - (intOf i).toNat)
  case atStart => exact ⟨.inl rfl, G⟩
  case round =>
    clear G
    obtain ⟨rfl | rfl | rfl, G⟩ := hrel
    · obtain ⟨⟨i0, i1, _, _⟩, ⟨d0, d1, _, _⟩, ⟨n0, n1, n2, n3, n4, n5, _, _, _, _, _, _⟩, ⟨q0, q1, _, _⟩, _⟩ := id G
      go_wp2
      go_quiet (fail)
      go_wp2
      go_roundw
      case rel => exact ⟨.inr (.inl rfl), G.drewN _⟩
      case measure => simp [intOf]
    · obtain ⟨⟨i0, i1, _, _⟩, ⟨d0, d1, _, _⟩, ⟨n0, n1, n2, n3, n4, n5, _, _, _, _, _, _⟩, ⟨q0, q1, _, _⟩, _⟩ := id G
      go_wp2
      go_quiet (fail)
      go_wp2
      go_roundw
      case rel => exact ⟨.inr (.inr rfl), G.drewN _⟩
      case measure => simp [intOf]
    · obtain ⟨_, _, ⟨n0, n1, n2, n3, n4, n5, _, _, _, _, _, _⟩, ⟨q0, q1, _, _⟩, hB⟩ := G
      rcases h3 with rfl | ⟨rfl, rfl⟩ <;> rcases h4 with rfl | ⟨rfl, rfl⟩
      all_goals
        go_wp2
        go_quiet (fail)
        go_wp2
        go_ret
        exact ⟨rfl, below_drewN hB _⟩

theorem linkSums_walk (a0 a1 : Int) (x2 y2 x3 y3 : Int) (w : World) (w0 : -9223372036854775808 ≤ a0 ∧ a0 ≤ 9223372036854775807) (w1 : -9223372036854775808 ≤ a1 ∧ a1 ≤ 9223372036854775807) (u2 : -9223372036854775808 ≤ x2 ∧ x2 ≤ 9223372036854775807) (v2 : -9223372036854775808 ≤ y2 ∧ y2 ≤ 9223372036854775807) (u3 : -9223372036854775808 ≤ x3 ∧ x3 ≤ 9223372036854775807) (v3 : -9223372036854775808 ≤ y3 ∧ y3 ≤ 9223372036854775807) :
    Calls Try.prog 4 #[.int .i64 a0, .int .i64 a1, .agg #[.int .i64 x2, .int .i64 y2], .agg #[.int .i64 x3, .int .i64 y3]] w fun e w' => e = .returned (.bool true) ∧ Below w.heap.size w w' := by
  by_cases h : lr a0 a1 x2 y2 x3 y3
  · obtain ⟨i1, i2, i3, i4, i5, i6⟩ := inside a0 a1 x2 y2 x3 y3 h
    obtain ⟨e1, e2, e3, e4, e5, e6⟩ := sums_are a0 a1 x2 y2 x3 y3 h
    have p := fun v => pass_yes a0 a1 x2 y2 x3 y3 h v
    unfold lr at h
    generalize C0 a0 x2 y2 x3 y3 = c0 at *
    generalize C1 a0 x2 y2 x3 y3 = c1 at *
    generalize L0 a0 a1 x2 y2 x3 y3 = l0 at *
    generalize L1 a0 a1 x2 y2 x3 y3 = l1 at *
    generalize W0 a0 a1 x2 y2 x3 y3 = k0 at *
    generalize W1 a0 a1 x2 y2 x3 y3 = k1 at *
    refine sums_yes a0 a1 x2 y2 x3 y3 c0 c1 l0 l1 k0 k1 w p (by omega) (by omega) (by omega) (by omega) i1 i2 i3 i4 i5 i6 (by omega) (by omega) (decide_eq_false (by omega)) (decide_eq_false (by omega)) e3 e4 _ _ _ _ rfl rfl rfl rfl ?_ ?_
    · by_cases hz : k0 + k1 + (l0 + l1) = 0
      · exact .inl (by simpa using hz)
      · exact .inr ⟨by simpa using hz, by simp; omega⟩
    · by_cases hz : l0 + l1 = 0
      · exact .inl (by simpa using hz)
      · exact .inr ⟨by simpa using hz, by simp; omega⟩
  · exact sums_no a0 a1 x2 y2 x3 y3 w (fun v => pass_no a0 a1 x2 y2 x3 y3 h v)

end Go.Proofs.Ytacgfalgifgkoaa
namespace Go.Proofs.Ytacgfalgifgkoaa.linkSums
open Go.ChangeShapes Go.WideShapes Go.ChangeAt Go.RowKit
set_option linter.unusedVariables false

set_option maxRecDepth 100000 in
theorem lifted (os : Os) (started : os.Started) (H : Type) (enc : TypeId × Value → H) :
    ReturnsInHanded {} Try.checked os 4 .any (Rows.linkSumsSpec.pre6 enc Try.prog Try.f4 Rows.linkSumsRow.domain false) (Rows.linkSumsSpec.post enc Try.prog Try.f4 false true false false) := by
  refine returnsInHanded_of_change_sized (C := Try.checked) own started (by kernel_rfl) Try.func4
    (ChangeSpec.witness6 (enc := enc) (C := Try.checked) false ⟨#[], #[.int .i64 0, .int .i64 0, .agg #[.int .i64 0, .int .i64 0], .agg #[.int .i64 0, .int .i64 0]], []⟩ 8 (by kernel_rfl) (by kernel_rfl) (by kernel_rfl) (by kernel_rfl)) ?_
  intro W base args ds gs before hval0 hW _ hsz0 _
  have hsz : (DataW.weightsEach Try.prog (Try.f4.params.toList ++ Rows.linkSumsSpec.plain.varTypes Try.prog) (ds ++ gs)).all (· ≤ reachBytes) = true := hsz0
  have hval : ∀ (j : Nat) t v, Try.f4.params[j]? = some t → args[j]? = some v → Value.okWide Try.prog W .any base t v := hval0
  have hW' := hW
  obtain ⟨p, q, hA0, hV, rfl, hfz, hnd⟩ := hW
  have hA : DataW.TrodAll enc Try.prog W 0 (fun _ => true) true Try.f4.params.toList args.toList ds p := hA0
  rw [Try.params4] at hA hval hsz
  obtain ⟨v0, vs0, d0, ds0, p0, q0, hargs, rfl, rfl, h0, r0⟩ := trodAll_cons hA
  obtain ⟨v1, vs1, d1, ds1, p1, q1, rfl, rfl, rfl, h1, r1⟩ := trodAll_cons r0
  obtain ⟨v2, vs2, d2, ds2, p2, q2, rfl, rfl, rfl, h2, r2⟩ := trodAll_cons r1
  obtain ⟨v3, vs3, d3, ds3, p3, q3, rfl, rfl, rfl, h3, r3⟩ := trodAll_cons r2
  obtain ⟨rfl, rfl, rfl⟩ := trodAll_nil r3
  obtain rfl : args = #[v0, v1, v2, v3] := by cases args; simp_all
  obtain ⟨rfl, rfl⟩ := trodVars_none hV
  obtain ⟨a0, rfl, rfl, rfl, w0⟩ := open_int Try.underlying3 (hval 0 3 v0 rfl rfl) h0
  obtain ⟨a1, rfl, rfl, rfl, w1⟩ := open_int Try.underlying3 (hval 1 3 v1 rfl rfl) h1
  obtain ⟨x2, y2, rfl, rfl, rfl, wx2, wy2⟩ := openA (hval 2 22 v2 rfl rfl) h2
  obtain ⟨x3, y3, rfl, rfl, rfl, wx3, wy3⟩ := openA (hval 3 22 v3 rfl rfl) h3
  clear hA0 hval0 hsz0 hsz
  refine (linkSums_walk a0 a1 x2 y2 x3 y3 W (fits w0) (fits w1) (fits wx2) (fits wy2) (fits wx3) (fits wy3)).mono fun e W' ⟨he, bel⟩ => ?_
  subst he
  exact ⟨_, rfl, _, _, _, [], _, [], hW', trodAll_mk1 (shut_bool Try.underlying4 _), (trodAll_cons_mk (shut_int Try.underlying3 w0) (trodAll_cons_mk (shut_int Try.underlying3 w1) (trodAll_cons_mk (shutA wx2 wy2) (trodAll_cons_mk (shutA wx3 wy3) trodAll_mk0)))), rfl, bel.frame _, fun h => by cases h⟩

theorem proved : Rows.LinkSumsSaid :=
  OpenClaim.holds_of_wide 4 Try.f4 rfl rfl rfl rfl rfl rfl rfl ⟨rfl, rfl, rfl, rfl, rfl⟩ rfl rfl rfl rfl rfl (by kernel_rfl) Try.func4 (by kernel_rfl)
    (of_decide_eq_true (by kernel_rfl)) (by unfold Func.isWrapper; first | (rw [if_pos (by decide +kernel)]; kernel_rfl) | (rw [if_neg (by decide +kernel)]; exact ⟨rfl, rfl⟩))
    (fun os started H enc _ => lifted os started H enc)

end Go.Proofs.Ytacgfalgifgkoaa.linkSums
namespace Go.Proofs.Ytacgfalgifgkoaa
theorem linkSums_holds : Rows.LinkSumsSaid := linkSums.proved
#print axioms linkSums_holds
end Go.Proofs.Ytacgfalgifgkoaa
