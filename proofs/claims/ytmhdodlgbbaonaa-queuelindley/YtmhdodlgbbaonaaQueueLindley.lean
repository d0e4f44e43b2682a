/- PROVED: LINDLEY, at every rate and every row of steps. CONDITIONS: none. -/
import Derived.Test.YtmhdodlgbbaonaaAlive
namespace Go.Proofs.Ytmhdodlgbbaonaa
open Go.RowKit
set_option linter.unusedVariables false

theorem pl_getD {R M : Int} {s : List Int} (h : bright R M s) (j : Nat) (hj : j < s.length) : (pl R M s).getD j 0 = ql R M (fun j => s.getD j 0) j := by unfold pl; rw [if_pos h, outs_getD _ _ _ hj]
theorem pq_getD {R M : Int} {s : List Int} (h : bright R M s) (j : Nat) (hj : j < s.length) : (pq R M s).getD j 0 = qw R M (fun j => s.getD j 0) j := by unfold pq; rw [if_pos h, outs_getD _ _ _ hj]
theorem pl_len {R M : Int} {s : List Int} (h : bright R M s) : (pl R M s).length = s.length := by unfold pl; rw [if_pos h, outs_len]
theorem pq_len {R M : Int} {s : List Int} (h : bright R M s) : (pq R M s).length = s.length := by unfold pq; rw [if_pos h, outs_len]
theorem pl_in {R M : Int} {s : List Int} (h : bright R M s) : allIn (pl R M s) := fun j hj => by
  rw [pl_len h] at hj
  rw [pl_getD h j hj]
  exact ql_in h.1 h.2.1 h.2.2.2 j hj

set_option maxHeartbeats 1600000 in
theorem lindley_go (R : Int) (a : Option Addr) (cap n : Nat) (z P L Q : List Int) (F U : Nat → Int) (w : World) (r : Row w a z) (en : Hid (z.length = n)) (hn : n < 300) (hR : 0 ≤ R ∧ R ≤ 1099511627776) (hb : Hid (bright R 1099511627776 z))
    (hP : Hid (pw R 1099511627776 z = P)) (hL : Hid (pl R 1099511627776 z = L)) (hQ : Hid (pq R 1099511627776 z = Q)) (lL : Hid (L.length = n)) (lQ : Hid (Q.length = n)) (iL : Hid (allIn L))
    (hF : Hid (∀ j, j < n → z.getD j 0 = F j)) (iF : Hid (∀ j, j < n → inr (F j))) (hU0 : Hid (U 0 = 0)) (hU : Hid (∀ j, j ≤ n → 0 ≤ U j ∧ U j ≤ 1099511627776)) (hQU : Hid (∀ j, j < n → Q.getD j 0 = U (j + 1)))
    (hy : Hid (∀ k, k < n → (∀ j, j < n → L.getD j 0 = 0) → U (k + 1) = max 0 (U k + F k - R))) :
    Calls Try.prog 5 #[.int .i64 R, .slice a n cap] w fun e w' => e = .returned (.bool true) ∧ Below w.heap.size w w' := by
  have B : Below w.heap.size w w := Below.refl _ _
  have T1 := tok
  have T2 := tok
  go_enter Try.func5, Try.ntmps5
  go_wp2_with (first
    | (clear T1; go_at_call 16; refine (alive_any _).mono ?_; rintro e v1 ⟨rfl, b1⟩; replace B := bthen B b1; replace r := r.kept b1; clear b1)
    | (clear T2; go_at_call 9; refine (play_r R 1099511627776 a _ n z P L Q _ r en.out hb.out hP.out hL.out hQ.out).mono ?_; rintro e v2 ⟨a1, c1, a2, c2, a3, c3, rfl, _, r1, r2, r3, b2⟩; replace B := bthen B b2; replace r := r.kept b2; clear b2 r1))
  go_loopw [8, 22] (fun wv i wr => ∃ k : Nat, k ≤ n ∧ i = .int .i64 k ∧ wv = .int .i64 (U k) ∧ v2 = wr) (fun _ i _ => n - (intOf i).toNat)
  case atStart => exact ⟨0, Nat.zero_le _, rfl, by rw [hU0.out], rfl⟩
  case round =>
    obtain ⟨k, hk, rfl, rfl, rfl⟩ := hrel
    by_cases hlt : k < n
    · obtain ⟨m, im, hm, cm⟩ := max_n a2 c2 n L v2 r2 lL.out (by omega) (by omega) iL.out
      have cm2 := cm v2 r2
      obtain ⟨b, o, rfl, e1⟩ := r.at (by rw [en.out]; omega)
      obtain ⟨b3, o3, rfl, e3⟩ := r3.at (by rw [lQ.out]; omega)
      have cx := e1 k (by rw [en.out]; omega)
      have cq := e3 k (by rw [lQ.out]; omega)
      rw [hF.out k hlt] at cx
      rw [hQU.out k hlt] at cq
      have i1 := hU.out k hk
      have i2 := iF.out k hlt
      have hlI : (k : Int) < n := by omega
      unfold inr at i2 im
      clear e1 e3 cm
      by_cases e : m = 0
      · have hk1 : Hid (U (k + 1) = max 0 (U k + F k - R)) := hy.out k hlt (hm.1 e)
        subst e
        rw [hk1.out] at cq
        clear hm im
        generalize F k = x at *
        generalize U k = W at *
        go_wp2_with (go_at_call 18; refine cm2.mono ?_; rintro e w'' ⟨rfl, rfl⟩; clear cm2)
        go_roundw
        case rel => exact ⟨k + 1, by omega, by go_num, by rw [hk1.out], by first | rfl | trivial⟩
        case measure => simp [intOf]; omega
      · clear hm
        have hme : decide (m = 0) = false := decide_eq_false e
        generalize hx : U (k + 1) = x at *
        replace hx : Hid _ := hx
        generalize U k = W at *
        go_wp2_with (go_at_call 18; refine cm2.mono ?_; rintro e w'' ⟨rfl, rfl⟩; clear cm2)
        go_roundw
        case rel => exact ⟨k + 1, by omega, by go_num, by rw [hx.out], by first | rfl | trivial⟩
        case measure => simp [intOf]; omega
    · obtain rfl : k = n := by omega
      go_wp2
      go_ret
      exact ⟨rfl, B⟩

set_option maxHeartbeats 800000 in
theorem queueLindley_walk (a0 : Int) (a1 : Option Addr) (cap1 : Nat) (z1 : List Int) (w : World) (w0 : -9223372036854775808 ≤ a0 ∧ a0 ≤ 9223372036854775807) (h1 : FarIn w a1 cap1 z1) :
    Calls Try.prog 5 #[.int .i64 a0, .slice a1 z1.length cap1] w fun e w' => e = .returned (.bool true) ∧ Below w.heap.size w w' := by
  by_cases h : bright a0 1099511627776 z1
  · exact lindley_go a0 a1 cap1 z1.length z1 _ _ _ (fun j => z1.getD j 0) (qu a0 1099511627776 fun j => z1.getD j 0) w h1.1 rfl h.2.2.1 h.1 h rfl rfl rfl (pl_len h) (pq_len h) (pl_in h) (fun _ _ => rfl) h.2.2.2 rfl
      (qu_in h.1 h.2.1 h.2.2.2) (fun j hj => pq_getD h j hj) (fun k hk h0 => lindley h.1 h.2.1 h.2.2.2 k (by rw [← pl_getD h k hk]; exact h0 k hk))
  · have r := h1.1
    have B : Below w.heap.size w w := Below.refl _ _
    obtain ⟨n, en⟩ : ∃ n, z1.length = n := ⟨_, rfl⟩
    rw [en]
    replace en : Hid _ := en
    replace h : Hid _ := h
    clear h1
    have T1 := tok
    have T2 := tok
    go_enter Try.func5, Try.ntmps5
    go_wp2_with (first
      | (clear T1; go_at_call 16; refine (alive_any _).mono ?_; rintro e v1 ⟨rfl, b1⟩; replace B := bthen B b1; replace r := r.kept b1; clear b1)
      | (clear T2; go_at_call 9; refine (play_none a0 1099511627776 a1 _ n z1 _ r en.out h.out).mono ?_; rintro e v2 ⟨b1, c1, b2, c2, b3, c3, rfl, _, _, _, _, bb⟩; replace B := bthen B bb; clear bb))
    go_loopw [8, 22] (fun wv i wr => i = .int .i64 0 ∧ v2 = wr) (fun _ i _ => 0)
    case atStart => exact ⟨rfl, rfl⟩
    case round =>
      obtain ⟨rfl, rfl⟩ := hrel
      go_wp2
      go_ret
      exact ⟨rfl, B⟩

end Go.Proofs.Ytmhdodlgbbaonaa
namespace Go.Proofs.Ytmhdodlgbbaonaa.queueLindley
open Go.ChangeShapes Go.WideShapes Go.ChangeAt Go.RowKit
set_option linter.unusedVariables false

set_option maxRecDepth 100000 in
theorem lifted (os : Os) (started : os.Started) (H : Type) (enc : TypeId × Value → H) :
    ReturnsInHanded {} Try.checked os 5 .any (Rows.queueLindleySpec.pre6 enc Try.prog Try.f5 Rows.queueLindleyRow.domain false) (Rows.queueLindleySpec.post enc Try.prog Try.f5 false true false false) := by
  refine returnsInHanded_of_change_sized (C := Try.checked) own started (by kernel_rfl) Try.func5
    (ChangeSpec.witness6 (enc := enc) (C := Try.checked) false ⟨#[], #[.int .i64 0, .slice none 0 0], []⟩ 8 (by kernel_rfl) (by kernel_rfl) (by kernel_rfl) (by kernel_rfl)) ?_
  intro W base args ds gs before hval0 hW _ hsz0 _
  have hsz : (DataW.weightsEach Try.prog (Try.f5.params.toList ++ Rows.queueLindleySpec.plain.varTypes Try.prog) (ds ++ gs)).all (· ≤ reachBytes) = true := hsz0
  have hval : ∀ (j : Nat) t v, Try.f5.params[j]? = some t → args[j]? = some v → Value.okWide Try.prog W .any base t v := hval0
  have hW' := hW
  obtain ⟨p, q, hA0, hV, rfl, hfz, hnd⟩ := hW
  have hA : DataW.TrodAll enc Try.prog W 0 (fun _ => true) true Try.f5.params.toList args.toList ds p := hA0
  rw [Try.params5] at hA hval hsz
  obtain ⟨v0, vs0, d0, ds0, p0, q0, hargs, rfl, rfl, h0, r0⟩ := trodAll_cons hA
  obtain ⟨v1, vs1, d1, ds1, p1, q1, rfl, rfl, rfl, h1, r1⟩ := trodAll_cons r0
  obtain ⟨rfl, rfl, rfl⟩ := trodAll_nil r1
  obtain rfl : args = #[v0, v1] := by cases args; simp_all
  obtain ⟨rfl, rfl⟩ := trodVars_none hV
  obtain ⟨a0, rfl, rfl, rfl, w0⟩ := open_int Try.underlying3 (hval 0 3 v0 rfl rfl) h0
  obtain ⟨a1, len1, cap1, rfl⟩ := okWide_slice Try.underlying22 (hval 1 22 v1 rfl rfl)
  have k1 := h1
  have lt1 : ∀ x ∈ p1, x.block < W.heap.size := by obtain ⟨m, hm⟩ := k1; exact DataW.trod_lt m _ _ _ hm
  obtain ⟨z1, rfl, w1⟩ := farIn h1 (fun elems spare e => by
    subst e
    have := sized_slice hsz (j := 1) (t := 22) (e := 3) rfl rfl Try.underlying22
    rw [Try.bytes3] at this
    exact this)
  clear hA0 hval0 hsz0 hsz
  refine (queueLindley_walk a0 a1 cap1 z1 W (fits w0) w1).mono fun e W' ⟨he, bel⟩ => ?_
  subst he
  exact ⟨_, rfl, _, _, _, [], _, [], hW', trodAll_mk1 (shut_bool Try.underlying4 _), (trodAll_cons_mk (shut_int Try.underlying3 w0) (trodAll_cons_mk (Below.trod laidOut (by kernel_rfl) (of_decide_eq_true (by kernel_rfl)) k1 bel lt1) trodAll_mk0)), rfl, bel.frame _, fun h => by cases h⟩

theorem proved : Rows.QueueLindleySaid :=
  OpenClaim.holds_of_wide 5 Try.f5 rfl rfl rfl rfl rfl rfl rfl ⟨rfl, rfl, rfl, rfl, rfl⟩ rfl rfl rfl rfl rfl (by kernel_rfl) Try.func5 (by kernel_rfl)
    (of_decide_eq_true (by kernel_rfl)) (by unfold Func.isWrapper; first | (rw [if_pos (by decide +kernel)]; kernel_rfl) | (rw [if_neg (by decide +kernel)]; exact ⟨rfl, rfl⟩))
    (fun os started H enc _ => lifted os started H enc)

end Go.Proofs.Ytmhdodlgbbaonaa.queueLindley
namespace Go.Proofs.Ytmhdodlgbbaonaa
theorem queueLindley_holds : Rows.QueueLindleySaid := queueLindley.proved
#print axioms queueLindley_holds
end Go.Proofs.Ytmhdodlgbbaonaa
