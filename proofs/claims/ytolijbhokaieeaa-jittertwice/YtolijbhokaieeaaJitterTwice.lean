/- PROVED: JitterTwice: one behind the other, at every size. CONDITIONS: none. -/
import Derived.Test.YtolijbhokaieeaaAlive
namespace Go.Proofs.Ytolijbhokaieeaa
open Go.RowKit
set_option linter.unusedVariables false

set_option maxHeartbeats 1600000 in
theorem twice_no1 (x0 x1 x2 : Option Addr) (c0 c1 c2 n0 n1 n2 m r : Nat) (t a b P Q : List Int) (w : World) (r0 : Row w x0 t) (r1 : Row w x1 a) (r2 : Row w x2 b) (l0 : Hid (t.length = n0)) (l1 : Hid (a.length = n1)) (l2 : Hid (b.length = n2)) (hn : n0 ≤ 17592186044414) (hm : n1 ≤ 17592186044414) (hb : n2 ≤ 17592186044414) (hr : m ≤ 17592186044414)
    (hj : Hid (decide (jright t a) = false)) (hP : Hid (pass t a = P)) (lP : Hid (P.length = m)) (hQ : Hid (pass P b = Q)) (lQ : Hid (Q.length = r)) :
    Calls Try.prog 5 #[.slice x0 n0 c0, .slice x1 n1 c1, .slice x2 n2 c2] w fun e w' => e = .returned (.bool true) ∧ Below w.heap.size w w' := by
  have B : Below w.heap.size w w := Below.refl _ _
  have T1 := tok
  have T2 := tok
  have T3 := tok
  have T4 := tok
  go_enter Try.func5, Try.ntmps5
  go_wp2_with (first
    | (clear T1; go_at_call 13; refine (alive_any _).mono ?_; rintro e v1 ⟨rfl, b1⟩; replace B := bthen B b1; replace r0 := r0.kept b1; replace r1 := r1.kept b1; replace r2 := r2.kept b1; clear b1)
    | (clear T2; go_at_call 10; refine (pass_n x0 x1 _ _ n0 n1 t a _ m _ r0 r1 l0.out l1.out (by omega) (by omega) hP.out lP.out).mono ?_; rintro e v2 ⟨a2, d2, rfl, _, p, b2⟩; replace B := bthen B b2; replace r0 := r0.kept b2; replace r1 := r1.kept b2; replace r2 := r2.kept b2; clear b2)
    | (clear T3; go_at_call 10; refine (pass_n a2 x2 _ _ m n2 P b _ r _ p r2 lP.out l2.out (by omega) (by omega) hQ.out lQ.out).mono ?_; rintro e v3 ⟨a3, d3, rfl, _, u, b3⟩; replace B := bthen B b3; replace r0 := r0.kept b3; replace r1 := r1.kept b3; clear b3)
    | (clear T4; go_at_call 7; refine (right_n x0 x1 _ _ n0 n1 t a _ r0 r1 l0.out l1.out (by omega) (by omega) false hj.out).mono ?_; rintro e v4 ⟨rfl, b4⟩; replace B := bthen B b4; clear b4))
  go_ret
  exact ⟨rfl, B⟩

set_option maxHeartbeats 1600000 in
theorem twice_no2 (x0 x1 x2 : Option Addr) (c0 c1 c2 n0 n1 n2 m r : Nat) (t a b P Q : List Int) (w : World) (r0 : Row w x0 t) (r1 : Row w x1 a) (r2 : Row w x2 b) (l0 : Hid (t.length = n0)) (l1 : Hid (a.length = n1)) (l2 : Hid (b.length = n2)) (hn : n0 ≤ 17592186044414) (hm : n1 ≤ 17592186044414) (hb : n2 ≤ 17592186044414) (hr : m ≤ 17592186044414)
    (hj : Hid (decide (jright t a) = true)) (hP : Hid (pass t a = P)) (lP : Hid (P.length = m)) (hQ : Hid (pass P b = Q)) (lQ : Hid (Q.length = r)) (hk : Hid (decide (jright P b) = false)) :
    Calls Try.prog 5 #[.slice x0 n0 c0, .slice x1 n1 c1, .slice x2 n2 c2] w fun e w' => e = .returned (.bool true) ∧ Below w.heap.size w w' := by
  have B : Below w.heap.size w w := Below.refl _ _
  have T1 := tok
  have T2 := tok
  have T3 := tok
  have T4 := tok
  have T5 := tok
  go_enter Try.func5, Try.ntmps5
  go_wp2_with (first
    | (clear T1; go_at_call 13; refine (alive_any _).mono ?_; rintro e v1 ⟨rfl, b1⟩; replace B := bthen B b1; replace r0 := r0.kept b1; replace r1 := r1.kept b1; replace r2 := r2.kept b1; clear b1)
    | (clear T2; go_at_call 10; refine (pass_n x0 x1 _ _ n0 n1 t a _ m _ r0 r1 l0.out l1.out (by omega) (by omega) hP.out lP.out).mono ?_; rintro e v2 ⟨a2, d2, rfl, _, p, b2⟩; replace B := bthen B b2; replace r0 := r0.kept b2; replace r1 := r1.kept b2; replace r2 := r2.kept b2; clear b2)
    | (clear T3; go_at_call 10; refine (pass_n a2 x2 _ _ m n2 P b _ r _ p r2 lP.out l2.out (by omega) (by omega) hQ.out lQ.out).mono ?_; rintro e v3 ⟨a3, d3, rfl, _, u, b3⟩; replace B := bthen B b3; replace r0 := r0.kept b3; replace r1 := r1.kept b3; replace r2 := r2.kept b3; replace p := p.kept b3; clear b3)
    | (clear T4; go_at_call 7; refine (right_n x0 x1 _ _ n0 n1 t a _ r0 r1 l0.out l1.out (by omega) (by omega) true hj.out).mono ?_; rintro e v4 ⟨rfl, b4⟩; replace B := bthen B b4; replace r2 := r2.kept b4; replace p := p.kept b4; clear b4)
    | (clear T5; go_at_call 7; refine (right_n a2 x2 _ _ m n2 P b _ p r2 lP.out l2.out (by omega) (by omega) false hk.out).mono ?_; rintro e v5 ⟨rfl, b5⟩; replace B := bthen B b5; clear b5))
  go_ret
  exact ⟨rfl, B⟩

/-- n numbers, all of them 0 -/
theorem zeros (w : World) (n : Nat) : Row (w.alloc (.cells (madeCells #[.int .i64 0] n) 3)) (some ⟨w.heap.size, 0, none⟩) (outs (fun _ => 0) n) :=
  (Cells.start w n (fun _ => 0) fun _ _ => rfl).row

set_option maxHeartbeats 1600000 in
theorem twice_go (x0 x1 x2 : Option Addr) (c0 c1 c2 n : Nat) (t a b P Q Z : List Int) (w : World) (r0 : Row w x0 t) (r1 : Row w x1 a) (r2 : Row w x2 b) (l0 : Hid (t.length = n)) (l1 : Hid (a.length = n)) (l2 : Hid (b.length = n)) (hn : n ≤ 17592186044414)
    (hj : Hid (decide (jright t a) = true)) (hP : Hid (pass t a = P)) (lP : Hid (P.length = n)) (hQ : Hid (pass P b = Q)) (lQ : Hid (Q.length = n)) (hk : Hid (decide (jright P b) = true)) (hZ : Hid (outs (fun _ => 0) n = Z)) (lZ : Hid (Z.length = n)) (hS : Hid (pass P Z = P))
    (hle : Hid (∀ k, k < n → t.getD k 0 + a.getD k 0 + b.getD k 0 ≤ Q.getD k 0)) (hin : Hid (∀ k, k < n → (0 ≤ t.getD k 0 ∧ t.getD k 0 ≤ 1099511627776) ∧ (0 ≤ a.getD k 0 ∧ a.getD k 0 ≤ 1099511627776) ∧ 0 ≤ b.getD k 0 ∧ b.getD k 0 ≤ 1099511627776)) :
    Calls Try.prog 5 #[.slice x0 n c0, .slice x1 n c1, .slice x2 n c2] w fun e w' => e = .returned (.bool true) ∧ Below w.heap.size w w' := by
  have B : Below w.heap.size w w := Below.refl _ _
  have hmk := run_make_row' (P := Try.prog) 22 3 (.int .i64 0) 8 Try.underlying22 Try.info3 rfl .i64 .i64 n (by omega) (by omega)
  have T1 := tok
  have T2 := tok
  have T3 := tok
  have T4 := tok
  have T5 := tok
  have T6 := tok
  have T7 := tok
  go_enter Try.func5, Try.ntmps5
  go_wp2_with (first
    | (clear T1; go_at_call 13; refine (alive_any _).mono ?_; rintro e v1 ⟨rfl, b1⟩; replace B := bthen B b1; replace r0 := r0.kept b1; replace r1 := r1.kept b1; replace r2 := r2.kept b1; clear b1)
    | (clear T2; go_at_call 10; refine (pass_n x0 x1 _ _ n n t a _ n _ r0 r1 l0.out l1.out (by omega) (by omega) hP.out lP.out).mono ?_; rintro e v2 ⟨a2, d2, rfl, _, p, b2⟩; replace B := bthen B b2; replace r0 := r0.kept b2; replace r1 := r1.kept b2; replace r2 := r2.kept b2; clear b2)
    | (clear T3; go_at_call 10; refine (pass_n a2 x2 _ _ n n P b _ n _ p r2 lP.out l2.out (by omega) (by omega) hQ.out lQ.out).mono ?_; rintro e v3 ⟨a3, d3, rfl, _, u, b3⟩; replace B := bthen B b3; replace r0 := r0.kept b3; replace r1 := r1.kept b3; replace r2 := r2.kept b3; replace p := p.kept b3; clear b3)
    | (clear T4; go_at_call 7; refine (right_n x0 x1 _ _ n n t a _ r0 r1 l0.out l1.out (by omega) (by omega) true hj.out).mono ?_; rintro e v4 ⟨rfl, b4⟩; replace B := bthen B b4; replace r0 := r0.kept b4; replace r1 := r1.kept b4; replace r2 := r2.kept b4; replace p := p.kept b4; replace u := u.kept b4; clear b4)
    | (clear T5; go_at_call 7; refine (right_n a2 x2 _ _ n n P b _ p r2 lP.out l2.out (by omega) (by omega) true hk.out).mono ?_; rintro e v5 ⟨rfl, b5⟩; replace B := balloc (bthen B b5) (.cells (madeCells #[.int .i64 0] n) 3); replace r0 := (r0.kept b5).alloc (.cells (madeCells #[.int .i64 0] n) 3); replace r1 := (r1.kept b5).alloc (.cells (madeCells #[.int .i64 0] n) 3); replace r2 := (r2.kept b5).alloc (.cells (madeCells #[.int .i64 0] n) 3); replace p := (p.kept b5).alloc (.cells (madeCells #[.int .i64 0] n) 3); replace u := (u.kept b5).alloc (.cells (madeCells #[.int .i64 0] n) 3); clear b5; have z := zeros v5 n; rw [hZ.out] at z)
    | (clear T6; go_at_call 10; refine (pass_n a2 _ _ _ n n P Z _ n _ p z lP.out lZ.out (by omega) (by omega) hS.out lP.out).mono ?_; rintro e v6 ⟨a6, d6, rfl, _, s, b6⟩; replace B := bthen B b6; replace r0 := r0.kept b6; replace r1 := r1.kept b6; replace r2 := r2.kept b6; replace p := p.kept b6; replace u := u.kept b6; clear b6 z)
    | (clear T7; go_at_call 9; refine (equal_n a6 a2 _ _ n n P P _ s p lP.out lP.out (by omega) (by omega) true (eqRow _)).mono ?_; rintro e v7 ⟨rfl, b7⟩; replace B := bthen B b7; replace r0 := r0.kept b7; replace r1 := r1.kept b7; replace r2 := r2.kept b7; replace u := u.kept b7; clear b7 s p))
  go_loopw [45] (fun i wr => ∃ k q : Nat, k ≤ n ∧ i = .int .i64 k ∧ wr = v7.drewN q) (fun i _ => n - (intOf i).toNat)
  case atStart => exact ⟨0, 0, Nat.zero_le _, rfl, rfl⟩
  case round =>
    obtain ⟨k, q, hkn, rfl, rfl⟩ := hrel
    by_cases hlt : k < n
    · have q1 := lQ.out
      have q2 := l0.out
      have q3 := l1.out
      have q4 := l2.out
      obtain ⟨g0, o0, rfl, k0⟩ := u.at (by omega)
      obtain ⟨g1, o1, rfl, k1⟩ := r0.at (by omega)
      obtain ⟨g2, o2, rfl, k2⟩ := r1.at (by omega)
      obtain ⟨g3, o3, rfl, k3⟩ := r2.at (by omega)
      have cq := k0 k (by omega)
      have cx := k1 k (by omega)
      have cy := k2 k (by omega)
      have cz := k3 k (by omega)
      have hA := hle.out k hlt
      have hI := hin.out k hlt
      generalize Q.getD k 0 = s at cq hA
      generalize t.getD k 0 = x at cx hA hI
      generalize a.getD k 0 = y at cy hA hI
      generalize b.getD k 0 = z at cz hA hI
      have hltI : (k : Int) < n := by omega
      have hd : decide (s < x + y + z) = false := decide_eq_false (by omega)
      clear k0 k1 k2 k3 q1 q2 q3 q4 hle hin u r0 r1 r2
      go_wp2
      go_quiet (fail)
      go_wp2
      go_roundw
      case rel => exact ⟨k + 1, q + nq, by omega, by go_num, rfl⟩
      case measure => simp [intOf]; omega
    · obtain e : k = n := by omega
      subst e
      go_wp2
      go_ret
      exact ⟨rfl, below_drewN B q⟩

theorem jitterTwice_walk (a0 : Option Addr) (cap0 : Nat) (z0 : List Int) (a1 : Option Addr) (cap1 : Nat) (z1 : List Int) (a2 : Option Addr) (cap2 : Nat) (z2 : List Int) (w : World) (h0 : FarIn w a0 cap0 z0) (h1 : FarIn w a1 cap1 z1) (h2 : FarIn w a2 cap2 z2) :
    Calls Try.prog 5 #[.slice a0 z0.length cap0, .slice a1 z1.length cap1, .slice a2 z2.length cap2] w fun e w' => e = .returned (.bool true) ∧ Below w.heap.size w w' := by
  have q0 := h0.2.1
  have q1 := h1.2.1
  have q2 := h2.2.1
  by_cases h : jright z0 z1
  · have hl := pass_len h
    by_cases k : jright (pass z0 z1) z2
    · have e1 := h.1
      have e2 := k.1
      rw [hl] at e2
      rw [← e1, ← e2]
      refine twice_go a0 a1 a2 cap0 cap1 cap2 z0.length z0 z1 z2 _ _ _ w h0.1 h1.1 h2.1 rfl e1.symm e2.symm (by omega) (decide_eq_true h) rfl hl rfl ((pass_len k).trans hl) (decide_eq_true k) rfl (outs_len _ _) ?_ (fun j hj => ?_) (fun j hj => ⟨h.2.2.1 j hj, h.2.2.2 j (by omega), k.2.2.2 j (by omega)⟩)
      · have := pass_still k
        rw [hl] at this
        exact this
      · rw [pass_at k j (by omega)]
        exact passed_twice h j hj
    · exact twice_no2 a0 a1 a2 cap0 cap1 cap2 z0.length z1.length z2.length _ _ z0 z1 z2 _ _ w h0.1 h1.1 h2.1 rfl rfl rfl (by omega) (by omega) (by omega) (by omega) (decide_eq_true h) rfl hl rfl rfl (decide_eq_false k)
  · exact twice_no1 a0 a1 a2 cap0 cap1 cap2 z0.length z1.length z2.length 0 _ z0 z1 z2 _ _ w h0.1 h1.1 h2.1 rfl rfl rfl (by omega) (by omega) (by omega) (by omega) (decide_eq_false h) (pass_no h) rfl rfl rfl

end Go.Proofs.Ytolijbhokaieeaa
namespace Go.Proofs.Ytolijbhokaieeaa.jitterTwice
open Go.ChangeShapes Go.WideShapes Go.ChangeAt Go.RowKit
set_option linter.unusedVariables false

set_option maxRecDepth 100000 in
theorem lifted (os : Os) (started : os.Started) (H : Type) (enc : TypeId × Value → H) :
    ReturnsInHanded {} Try.checked os 5 .any (Rows.jitterTwiceSpec.pre6 enc Try.prog Try.f5 Rows.jitterTwiceRow.domain false) (Rows.jitterTwiceSpec.post enc Try.prog Try.f5 false true false false) := by
  refine returnsInHanded_of_change_sized (C := Try.checked) own started (by kernel_rfl) Try.func5
    (ChangeSpec.witness6 (enc := enc) (C := Try.checked) false ⟨#[], #[.slice none 0 0, .slice none 0 0, .slice none 0 0], []⟩ 8 (by kernel_rfl) (by kernel_rfl) (by kernel_rfl) (by kernel_rfl)) ?_
  intro W base args ds gs before hval0 hW _ hsz0 _
  have hsz : (DataW.weightsEach Try.prog (Try.f5.params.toList ++ Rows.jitterTwiceSpec.plain.varTypes Try.prog) (ds ++ gs)).all (· ≤ reachBytes) = true := hsz0
  have hval : ∀ (j : Nat) t v, Try.f5.params[j]? = some t → args[j]? = some v → Value.okWide Try.prog W .any base t v := hval0
  have hW' := hW
  obtain ⟨p, q, hA0, hV, rfl, hfz, hnd⟩ := hW
  have hA : DataW.TrodAll enc Try.prog W 0 (fun _ => true) true Try.f5.params.toList args.toList ds p := hA0
  rw [Try.params5] at hA hval hsz
  obtain ⟨v0, vs0, d0, ds0, p0, q0, hargs, rfl, rfl, h0, r0⟩ := trodAll_cons hA
  obtain ⟨v1, vs1, d1, ds1, p1, q1, rfl, rfl, rfl, h1, r1⟩ := trodAll_cons r0
  obtain ⟨v2, vs2, d2, ds2, p2, q2, rfl, rfl, rfl, h2, r2⟩ := trodAll_cons r1
  obtain ⟨rfl, rfl, rfl⟩ := trodAll_nil r2
  obtain rfl : args = #[v0, v1, v2] := by cases args; simp_all
  obtain ⟨rfl, rfl⟩ := trodVars_none hV
  obtain ⟨a0, len0, cap0, rfl⟩ := okWide_slice Try.underlying22 (hval 0 22 v0 rfl rfl)
  have k0 := h0
  have lt0 : ∀ x ∈ p0, x.block < W.heap.size := by obtain ⟨m, hm⟩ := k0; exact DataW.trod_lt m _ _ _ hm
  obtain ⟨z0, rfl, w0⟩ := farIn h0 (fun elems spare e => by
    subst e
    have := sized_slice hsz (j := 0) (t := 22) (e := 3) rfl rfl Try.underlying22
    rw [Try.bytes3] at this
    exact this)
  obtain ⟨a1, len1, cap1, rfl⟩ := okWide_slice Try.underlying22 (hval 1 22 v1 rfl rfl)
  have k1 := h1
  have lt1 : ∀ x ∈ p1, x.block < W.heap.size := by obtain ⟨m, hm⟩ := k1; exact DataW.trod_lt m _ _ _ hm
  obtain ⟨z1, rfl, w1⟩ := farIn h1 (fun elems spare e => by
    subst e
    have := sized_slice hsz (j := 1) (t := 22) (e := 3) rfl rfl Try.underlying22
    rw [Try.bytes3] at this
    exact this)
  obtain ⟨a2, len2, cap2, rfl⟩ := okWide_slice Try.underlying22 (hval 2 22 v2 rfl rfl)
  have k2 := h2
  have lt2 : ∀ x ∈ p2, x.block < W.heap.size := by obtain ⟨m, hm⟩ := k2; exact DataW.trod_lt m _ _ _ hm
  obtain ⟨z2, rfl, w2⟩ := farIn h2 (fun elems spare e => by
    subst e
    have := sized_slice hsz (j := 2) (t := 22) (e := 3) rfl rfl Try.underlying22
    rw [Try.bytes3] at this
    exact this)
  clear hA0 hval0 hsz0 hsz
  refine (jitterTwice_walk a0 cap0 z0 a1 cap1 z1 a2 cap2 z2 W w0 w1 w2).mono fun e W' ⟨he, bel⟩ => ?_
  subst he
  exact ⟨_, rfl, _, _, _, [], _, [], hW', trodAll_mk1 (shut_bool Try.underlying4 _), (trodAll_cons_mk (Below.trod laidOut (by kernel_rfl) (of_decide_eq_true (by kernel_rfl)) k0 bel lt0) (trodAll_cons_mk (Below.trod laidOut (by kernel_rfl) (of_decide_eq_true (by kernel_rfl)) k1 bel lt1) (trodAll_cons_mk (Below.trod laidOut (by kernel_rfl) (of_decide_eq_true (by kernel_rfl)) k2 bel lt2) trodAll_mk0))), rfl, bel.frame _, fun h => by cases h⟩

theorem proved : Rows.JitterTwiceSaid :=
  OpenClaim.holds_of_wide 5 Try.f5 rfl rfl rfl rfl rfl rfl rfl ⟨rfl, rfl, rfl, rfl, rfl⟩ rfl rfl rfl rfl rfl (by kernel_rfl) Try.func5 (by kernel_rfl)
    (of_decide_eq_true (by kernel_rfl)) (by unfold Func.isWrapper; first | (rw [if_pos (by decide +kernel)]; kernel_rfl) | (rw [if_neg (by decide +kernel)]; exact ⟨rfl, rfl⟩))
    (fun os started H enc _ => lifted os started H enc)

end Go.Proofs.Ytolijbhokaieeaa.jitterTwice
namespace Go.Proofs.Ytolijbhokaieeaa
theorem jitterTwice_holds : Rows.JitterTwiceSaid := jitterTwice.proved
#print axioms jitterTwice_holds
end Go.Proofs.Ytolijbhokaieeaa
