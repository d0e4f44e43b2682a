/- PROVED: REICH, at every rate and every row of steps. CONDITIONS: none. -/
import Derived.Test.YtmhdodlgbbaonaaGets
namespace Go.Proofs.Ytmhdodlgbbaonaa
open Go.RowKit
set_option linter.unusedVariables false

set_option maxHeartbeats 1600000 in
theorem reich_go (R : Int) (a : Option Addr) (cap n : Nat) (z P L Q : List Int) (F A : Nat → Int) (Mo : Nat → Nat → Int) (w : World) (r : Row w a z) (en : Hid (z.length = n)) (hn : n < 300) (hR : 0 ≤ R ∧ R ≤ 1099511627776) (hb : Hid (bright R 1099511627776 z))
    (hP : Hid (pw R 1099511627776 z = P)) (hL : Hid (pl R 1099511627776 z = L)) (hQ : Hid (pq R 1099511627776 z = Q)) (lL : Hid (L.length = n)) (lQ : Hid (Q.length = n)) (iL : Hid (allIn L))
    (hF : Hid (∀ j, j < n → z.getD j 0 = F j)) (iF : Hid (∀ j, j < n → inr (F j))) (hA : Hid (∀ j, A (j + 1) = A j + F j)) (iA : Hid (∀ j, j ≤ n → 0 ≤ A j ∧ A j ≤ 329853488332800)) (uA : Hid (∀ j d, j + d ≤ n → A j ≤ A (j + d)))
    (hM0 : Hid (∀ t, Mo t 0 = 0)) (hM : Hid (∀ t k, Mo t (k + 1) = max (Mo t k) (A (t + 1) - A (t - k) - ((k : Int) + 1) * R)))
    (hy : Hid (∀ k, k < n → (∀ j, j < n → L.getD j 0 = 0) → Q.getD k 0 = Mo k (k + 1))) (iQ : Hid (∀ k, k < n → inr (Q.getD k 0))) :
    Calls Try.prog 6 #[.int .i64 R, .slice a n cap] w fun e w' => e = .returned (.bool true) ∧ Below w.heap.size w w' := by
  have B : Below w.heap.size w w := Below.refl _ _
  have T1 := tok
  have T2 := tok
  go_enter Try.func6, Try.ntmps6
  go_wp2_with (first
    | (clear T1; go_at_call 16; refine (alive_any _).mono ?_; rintro e v1 ⟨rfl, b1⟩; replace B := bthen B b1; replace r := r.kept b1; clear b1)
    | (clear T2; go_at_call 9; refine (play_r R 1099511627776 a _ n z P L Q _ r en.out hb.out hP.out hL.out hQ.out).mono ?_; rintro e v2 ⟨a1, c1, a2, c2, a3, c3, rfl, _, r1, r2, r3, b2⟩; replace B := bthen B b2; replace r := r.kept b2; clear b2 r1))
  go_loopw [24] (fun i wr => ∃ k : Nat, k ≤ n ∧ i = .int .i64 k ∧ v2 = wr) (fun i _ => n - (intOf i).toNat)
  case atStart => exact ⟨0, Nat.zero_le _, rfl, rfl⟩
  case round =>
    obtain ⟨k, hk, rfl, rfl⟩ := hrel
    by_cases hlt : k < n
    · obtain ⟨m, im, hm, cm⟩ := max_n a2 c2 n L v2 r2 lL.out (by omega) (by omega) iL.out
      have cm2 := cm v2 r2
      obtain ⟨b, o, rfl, e1⟩ := r.at (by rw [en.out]; omega)
      obtain ⟨b3, o3, rfl, e3⟩ := r3.at (by rw [lQ.out]; omega)
      have cq := e3 k (by rw [lQ.out]; omega)
      have hlI : (k : Int) < n := by omega
      have iq := iQ.out k hlt
      unfold inr at im iq
      clear e3 cm
      by_cases e : m = 0
      · have hk1 := hy.out k hlt (hm.1 e)
        rw [hk1] at cq iq
        subst e
        clear hm im hk1
        replace e1 : Hid (∀ j, j < n → v2.cell? ⟨b, o + j, none⟩ = some (.int .i64 (F j))) := fun j hj => by rw [← hF.out j hj]; exact e1 j (by rw [en.out]; exact hj)
        go_wp2_with (go_at_call 18; refine cm2.mono ?_; rintro e w'' ⟨rfl, hw⟩; obtain rfl : v2 = w'' := hw.symm; clear cm2 hw)
        go_loopw [10, 11, 34] (fun bv sv i wr => ∃ j : Nat, j ≤ k + 1 ∧ i = .int .i64 j ∧ bv = .int .i64 (Mo k j) ∧ sv = .int .i64 (A (k + 1) - A (k + 1 - j)) ∧ v2 = wr) (fun _ _ i _ => k + 1 - (intOf i).toNat)
        case atStart => exact ⟨0, Nat.zero_le _, rfl, by rw [hM0.out], by rw [Nat.sub_zero, Int.sub_self], rfl⟩
        case round =>
          obtain ⟨j, hj, rfl, rfl, rfl, rfl⟩ := hrel
          by_cases hjk : j < k + 1
          · obtain ⟨f, hf⟩ : ∃ f, k - j = f := ⟨_, rfl⟩
            have hfI : (k : Int) - (j : Int) = (f : Int) := by omega
            have hfn : f < n := by omega
            have hfI2 : (f : Int) < n := by omega
            have hjI : (j : Int) < (k : Int) + 1 := by omega
            have cf := e1.out f hfn
            have i2 := iF.out f hfn
            have s0 : A (k + 1 - j) = A f + F f := by rw [show k + 1 - j = f + 1 by omega, hA.out]
            have m1 := hM.out k j
            have j1 := iA.out (k + 1) (by omega)
            have j2 := iA.out f (by omega)
            have j3 := uA.out f (j + 1) (by omega)
            rw [show f + (j + 1) = k + 1 by omega] at j3
            obtain ⟨p0, p1⟩ := mul_in (m := R) (j + 1) (by omega) (by omega) (by omega)
            rw [show ((j + 1 : Nat) : Int) = (j : Int) + 1 by omega] at p0 p1
            rw [hf] at m1
            rw [s0]
            unfold inr at i2
            have hs : Hid (A (k + 1) - A (k + 1 - (j + 1)) = A (k + 1) - (A f + F f) + F f) := by show _ = _; rw [show k + 1 - (j + 1) = f by omega]; omega
            have hm2 : Hid (Mo k (j + 1) = max (Mo k j) (A (k + 1) - (A f + F f) + F f - ((j : Int) + 1) * R)) := by show _ = _; rw [m1]; congr 1; omega
            clear s0 m1 hf cq iq
            generalize hX : ((j : Int) + 1) * R = X at p0 p1 hm2
            generalize F f = x at *
            generalize A f = Y at *
            generalize hZ : A (k + 1) = Z at *
            replace hZ : Hid _ := hZ
            generalize Mo k j = O at *
            go_wp2
            go_roundw
            case rel => exact ⟨j + 1, by omega, by go_num, by rw [hm2.out], by rw [hs.out], by first | rfl | trivial⟩
            case measure => simp [intOf]; omega
          · obtain rfl : j = k + 1 := by omega
            generalize Mo k (k + 1) = O at *
            have hkI : decide (((k + 1 : Nat) : Int) < (k : Int) + 1) = false := decide_eq_false (by omega)
            go_wp2
            go_roundw
            case rel => exact ⟨k + 1, by omega, by go_num, by first | rfl | trivial⟩
            case measure => simp [intOf]; omega
      · have hme : (0 : Int) < m := by omega
        clear hm
        generalize Q.getD k 0 = x at *
        go_wp2_with (go_at_call 18; refine cm2.mono ?_; rintro e w'' ⟨rfl, hw⟩; obtain rfl : v2 = w'' := hw.symm; clear cm2 hw)
        go_ret
        exact ⟨rfl, B⟩
    · obtain rfl : k = n := by omega
      go_wp2
      go_ret
      exact ⟨rfl, B⟩

set_option maxHeartbeats 800000 in
theorem queueReich_walk (a0 : Int) (a1 : Option Addr) (cap1 : Nat) (z1 : List Int) (w : World) (w0 : -9223372036854775808 ≤ a0 ∧ a0 ≤ 9223372036854775807) (h1 : FarIn w a1 cap1 z1) :
    Calls Try.prog 6 #[.int .i64 a0, .slice a1 z1.length cap1] w fun e w' => e = .returned (.bool true) ∧ Below w.heap.size w w' := by
  by_cases h : bright a0 1099511627776 z1
  · have hA := acc_lo h.2.2.2
    refine reich_go a0 a1 cap1 z1.length z1 _ _ _ (fun j => z1.getD j 0) (acc fun j => z1.getD j 0) (most (acc fun j => z1.getD j 0) a0) w h1.1 rfl h.2.2.1 h.1 h rfl rfl rfl (pl_len h) (pq_len h) (pl_in h) (fun _ _ => rfl) h.2.2.2 (fun _ => rfl)
      (fun j hj => ⟨(hA j hj).1, by have := (hA j hj).2; have := h.2.2.1; omega⟩) (fun j d hd => ?_) (fun _ => rfl) (fun _ _ => rfl) (fun k hk h0 => ?_) (fun k hk => ?_)
    · induction d with
      | zero => exact Int.le_refl _
      | succ d ih => exact Int.le_trans (ih (by omega)) (acc_next h.2.2.2 (j + d) (by omega))
    · rw [pq_getD h k hk]; exact reich h.1 h.2.1 h.2.2.2 (none_lost h h0) k hk
    · rw [pq_getD h k hk]; exact qw_in h.1 h.2.1 h.2.2.2 k hk
  · have r := h1.1
    have B : Below w.heap.size w w := Below.refl _ _
    obtain ⟨n, en⟩ : ∃ n, z1.length = n := ⟨_, rfl⟩
    rw [en]
    replace en : Hid _ := en
    replace h : Hid _ := h
    clear h1
    have T1 := tok
    have T2 := tok
    go_enter Try.func6, Try.ntmps6
    go_wp2_with (first
      | (clear T1; go_at_call 16; refine (alive_any _).mono ?_; rintro e v1 ⟨rfl, b1⟩; replace B := bthen B b1; replace r := r.kept b1; clear b1)
      | (clear T2; go_at_call 9; refine (play_none a0 1099511627776 a1 _ n z1 _ r en.out h.out).mono ?_; rintro e v2 ⟨b1, c1, b2, c2, b3, c3, rfl, _, _, _, _, bb⟩; replace B := bthen B bb; clear bb))
    go_loopw [24] (fun i wr => i = .int .i64 0 ∧ v2 = wr) (fun i _ => 0)
    case atStart => exact ⟨rfl, rfl⟩
    case round =>
      obtain ⟨rfl, rfl⟩ := hrel
      go_wp2
      go_ret
      exact ⟨rfl, B⟩

end Go.Proofs.Ytmhdodlgbbaonaa
namespace Go.Proofs.Ytmhdodlgbbaonaa.queueReich
open Go.ChangeShapes Go.WideShapes Go.ChangeAt Go.RowKit
set_option linter.unusedVariables false

set_option maxRecDepth 100000 in
theorem lifted (os : Os) (started : os.Started) (H : Type) (enc : TypeId × Value → H) :
    ReturnsInHanded {} Try.checked os 6 .any (Rows.queueReichSpec.pre6 enc Try.prog Try.f6 Rows.queueReichRow.domain false) (Rows.queueReichSpec.post enc Try.prog Try.f6 false true false false) := by
  refine returnsInHanded_of_change_sized (C := Try.checked) own started (by kernel_rfl) Try.func6
    (ChangeSpec.witness6 (enc := enc) (C := Try.checked) false ⟨#[], #[.int .i64 0, .slice none 0 0], []⟩ 8 (by kernel_rfl) (by kernel_rfl) (by kernel_rfl) (by kernel_rfl)) ?_
  intro W base args ds gs before hval0 hW _ hsz0 _
  have hsz : (DataW.weightsEach Try.prog (Try.f6.params.toList ++ Rows.queueReichSpec.plain.varTypes Try.prog) (ds ++ gs)).all (· ≤ reachBytes) = true := hsz0
  have hval : ∀ (j : Nat) t v, Try.f6.params[j]? = some t → args[j]? = some v → Value.okWide Try.prog W .any base t v := hval0
  have hW' := hW
  obtain ⟨p, q, hA0, hV, rfl, hfz, hnd⟩ := hW
  have hA : DataW.TrodAll enc Try.prog W 0 (fun _ => true) true Try.f6.params.toList args.toList ds p := hA0
  rw [Try.params6] at hA hval hsz
  obtain ⟨v0, vs0, d0, ds0, p0, q0, hargs, rfl, rfl, h0, r0⟩ := trodAll_cons hA
  obtain ⟨v1, vs1, d1, ds1, p1, q1, rfl, rfl, rfl, h1, r1⟩ := trodAll_cons r0
  obtain ⟨rfl, rfl, rfl⟩ := trodAll_nil r1
  obtain rfl : args = #[v0, v1] := by cases args; simp_all
  obtain ⟨rfl, rfl⟩ := trodVars_none hV
  obtain ⟨a0, rfl, rfl, rfl, w0⟩ := open_int Try.underlying3 (hval 0 3 v0 rfl rfl) h0
  obtain ⟨a1, len1, cap1, rfl⟩ := okWide_slice Try.underlying22 (hval 1 22 v1 rfl rfl)
  have k1 := h1
  have lt1 : ∀ x ∈ p1, x.block < W.heap.size := by obtain ⟨m, hm⟩ := k1; exact DataW.trod_lt m _ _ _ hm
  obtain ⟨z1, rfl, w1⟩ := farIn h1 (fun elems spare e => by
    subst e
    have := sized_slice hsz (j := 1) (t := 22) (e := 3) rfl rfl Try.underlying22
    rw [Try.bytes3] at this
    exact this)
  clear hA0 hval0 hsz0 hsz
  refine (queueReich_walk a0 a1 cap1 z1 W (fits w0) w1).mono fun e W' ⟨he, bel⟩ => ?_
  subst he
  exact ⟨_, rfl, _, _, _, [], _, [], hW', trodAll_mk1 (shut_bool Try.underlying4 _), (trodAll_cons_mk (shut_int Try.underlying3 w0) (trodAll_cons_mk (Below.trod laidOut (by kernel_rfl) (of_decide_eq_true (by kernel_rfl)) k1 bel lt1) trodAll_mk0)), rfl, bel.frame _, fun h => by cases h⟩

theorem proved : Rows.QueueReichSaid :=
  OpenClaim.holds_of_wide 6 Try.f6 rfl rfl rfl rfl rfl rfl rfl ⟨rfl, rfl, rfl, rfl, rfl⟩ rfl rfl rfl rfl rfl (by kernel_rfl) Try.func6 (by kernel_rfl)
    (of_decide_eq_true (by kernel_rfl)) (by unfold Func.isWrapper; first | (rw [if_pos (by decide +kernel)]; kernel_rfl) | (rw [if_neg (by decide +kernel)]; exact ⟨rfl, rfl⟩))
    (fun os started H enc _ => lifted os started H enc)

end Go.Proofs.Ytmhdodlgbbaonaa.queueReich
namespace Go.Proofs.Ytmhdodlgbbaonaa
theorem queueReich_holds : Rows.QueueReichSaid := queueReich.proved
#print axioms queueReich_holds
end Go.Proofs.Ytmhdodlgbbaonaa
