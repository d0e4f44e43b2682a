/- PROVED: A QUEUE IS A BUCKET WITHOUT A STORE, at every rate and every row of steps. CONDITIONS: none. -/
import Derived.Test.YtmhdodlgbbaonaaGets
import Derived.Deep.RegionHeld3
namespace Go.Proofs.Ytmhdodlgbbaonaa
open Go.RowKit
set_option linter.unusedVariables false

theorem line_s (R B : Int) (hR : inr R) (hB : inr B) (x : Int) (n : Nat) (hx : x = (n : Int)) (hn : n ≤ 300) (S : List Int) (hS : line R B n = S) (w : World) :
    Calls Try.prog 20 #[.agg #[.int .i64 R, .int .i64 B], .int .i64 x] w (AnsN w n S) := by subst hx; exact line_r R B hR hB n hn S hS w
theorem Bk.drew {w : World} {O : Nat} {R B : Int} (h : Bk w O R B) : Bk w.drew O R B := ⟨h.r, h.b⟩

set_option maxRecDepth 100000 in
set_option maxHeartbeats 4000000 in
theorem conv_go (R : Int) (a : Option Addr) (cap n : Nat) (z P L Q A C I : List Int) (w : World) (r : Row w a z) (en : Hid (z.length = n)) (hp : 0 < n) (hn : n < 300) (hb : Hid (bright R 1099511627776 z)) (hbr : Hid (bright R R z))
    (hP : Hid (pw R 1099511627776 z = P)) (hL : Hid (pl R 1099511627776 z = L)) (hQ : Hid (pq R 1099511627776 z = Q)) (lP : Hid (P.length = n)) (lL : Hid (L.length = n)) (iL : Hid (allIn L)) (h0 : Hid (∀ j, j < n → L.getD j 0 = 0))
    (hPP : Hid (pass R R z = P)) (hC : Hid (of P = C)) (lC : Hid (C.length = n + 1)) (hA : Hid (of z = A)) (lA : Hid (A.length = n + 1)) (hI : Hid (line R R (n + 1) = I)) (lI : Hid (I.length = n + 1)) (hV : Hid (conv A I = C)) :
    Calls Try.prog 7 #[.int .i64 R, .slice a n cap] w fun e w' => e = .returned (.bool true) ∧ Below w.heap.size w w' := by
  have B : Below w.heap.size w w := Below.refl _ _
  have hwr : IntKind.i64.wrap ((n : Int) + 1) = (n : Int) + 1 := wrapIn (by omega)
  have hn0 : decide ((n : Int) = 0) = false := decide_eq_false (by omega)
  have T1 := tok
  have T2 := tok
  have T3 := tok
  have T4 := tok
  have T5 := tok
  have T6 := tok
  have T7 := tok
  have T8 := tok
  have T9 := tok
  have T10 := tok
  go_enter Try.func7, Try.ntmps7
  go_wp2_with (first
    | (clear T1; go_at_call 16; refine (alive_any _).mono ?_; rintro e v1 ⟨rfl, b1⟩; replace B := bthen B b1; replace r := r.kept b1; clear b1)
    | (clear T2; go_at_call 9; refine (play_r R 1099511627776 a _ n z P L Q _ r en.out hb.out hP.out hL.out hQ.out).mono ?_; rintro e v2 ⟨a1, c1, a2, c2, a3, c3, rfl, _, r1, r2, _, b2⟩; replace B := bthen B b2; replace r := r.kept b2; clear b2; obtain ⟨m, im, hm, cm⟩ := max_n a2 c2 n L v2 r2 lL.out hp (by omega) iL.out; obtain rfl : m = 0 := hm.2 h0.out; have cm2 := cm v2 r2; clear cm hm im; obtain ⟨w0, hw0⟩ : ∃ w0, v2.alloc (.cells #[.int .i64 R, .int .i64 R] 28) = w0 := ⟨_, rfl⟩; have B0 : Below v2.heap.size v2 w0 := by rw [← hw0]; exact balloc (Below.refl _ _) _
       have K : Bk w0 v2.heap.size R R := by rw [← hw0]; exact Bk.new v2 R R
       replace B := bthen B B0; replace r := r.kept B0; replace r1 := r1.kept B0; clear B0)
    | (clear T3; go_at_call 18; refine cm2.mono ?_; rintro e w'' ⟨rfl, hw⟩; obtain rfl : v2 = w'' := hw.symm; clear cm2 hw r2))
  generalize v2.heap.size = O at *
  go_region_held3 (fun w' => w'.cell? ⟨O, 0, none⟩ = some (.int .i64 R) ∧ w'.cell? ⟨O, 1, none⟩ = some (.int .i64 R)) (exact ⟨K.r, K.b⟩) (first
    | (clear T4; go_at_call 17; refine (of_r a1 _ n P C hC.out _ r1.drew lP.out (by omega)).mono ?_; rintro e v4 ⟨a4, c4, rfl, _, r4, b4⟩; replace B := bthen B.drew b4; replace K := K.drew.kept b4; replace r := r.drew.kept b4; replace r1 := r1.drew.kept b4; clear b4)
    | (clear T5; go_at_call 17; refine (of_r a _ n z A hA.out _ r en.out (by omega)).mono ?_; rintro e v5 ⟨a5, c5, rfl, _, r5, b5⟩; replace B := bthen B b5; replace K := K.kept b5; replace r := r.kept b5; replace r1 := r1.kept b5; replace r4 := r4.kept b5; clear b5)
    | (clear T6; go_at_call 20; refine (line_s R R hbr.out.1 hbr.out.1 _ (n + 1) (by omega) (by omega) I hI.out _).mono ?_; rintro e v6 ⟨a6, c6, rfl, _, r6, b6⟩; replace B := bthen B b6; replace K := K.kept b6; replace r := r.kept b6; replace r1 := r1.kept b6; replace r4 := r4.kept b6; replace r5 := r5.kept b6; clear b6)
    | (clear T7; go_at_call 19; refine (conv_r a5 a6 _ _ (n + 1) A I C hV.out _ r5 r6 lA.out lI.out (by omega)).mono ?_; rintro e v7 ⟨a7, c7, rfl, _, r7, b7⟩; replace B := bthen B b7; replace K := K.kept b7; replace r := r.kept b7; replace r1 := r1.kept b7; replace r4 := r4.kept b7; clear b7 r5 r6)
    | (clear T8; go_at_call 13; refine (equal_n a4 a7 _ _ (n + 1) (n + 1) C C _ r4 r7 lC.out lC.out (by omega) (by omega) true (decide_eq_true rfl)).mono ?_; rintro e v8 ⟨rfl, b8⟩; replace B := bthen B b8; replace K := K.kept b8; replace r := r.kept b8; replace r1 := r1.kept b8; clear b8 r4 r7)
    | (clear T9; go_at_call 21; refine (pass_r R R a _ n z P hbr.out hPP.out _ r en.out).mono ?_; rintro e v9 ⟨a9, c9, rfl, _, r9, b9⟩; replace B := bthen B b9; replace K := K.kept b9; replace r1 := r1.kept b9; clear b9)
    | (clear T10; go_at_call 13; refine (equal_n a1 a9 _ _ n n P P _ r1 r9 lP.out lP.out (by omega) (by omega) true (decide_eq_true rfl)).mono ?_; rintro e v10 ⟨rfl, b10⟩; replace B := bthen B b10; replace K := K.kept b10; clear b10 r1 r9))
  go_wp2
  go_ret
  exact ⟨rfl, B⟩

set_option maxHeartbeats 1600000 in
theorem conv_more (R : Int) (a : Option Addr) (cap n : Nat) (z P L Q : List Int) (w : World) (r : Row w a z) (en : Hid (z.length = n)) (hp : 0 < n) (hn : n < 300) (hb : Hid (bright R 1099511627776 z))
    (hP : Hid (pw R 1099511627776 z = P)) (hL : Hid (pl R 1099511627776 z = L)) (hQ : Hid (pq R 1099511627776 z = Q)) (lL : Hid (L.length = n)) (iL : Hid (allIn L)) (h0 : Hid (¬ ∀ j, j < n → L.getD j 0 = 0)) :
    Calls Try.prog 7 #[.int .i64 R, .slice a n cap] w fun e w' => e = .returned (.bool true) ∧ Below w.heap.size w w' := by
  have B : Below w.heap.size w w := Below.refl _ _
  have hn0 : decide ((n : Int) = 0) = false := decide_eq_false (by omega)
  have T1 := tok
  have T2 := tok
  have T3 := tok
  go_enter Try.func7, Try.ntmps7
  go_wp2_with (first
    | (clear T1; go_at_call 16; refine (alive_any _).mono ?_; rintro e v1 ⟨rfl, b1⟩; replace B := bthen B b1; replace r := r.kept b1; clear b1)
    | (clear T2; go_at_call 9; refine (play_r R 1099511627776 a _ n z P L Q _ r en.out hb.out hP.out hL.out hQ.out).mono ?_; rintro e v2 ⟨a1, c1, a2, c2, a3, c3, rfl, _, r1, r2, _, b2⟩; replace B := bthen B b2; clear b2; obtain ⟨m, im, hm, cm⟩ := max_n a2 c2 n L v2 r2 lL.out hp (by omega) iL.out; have hme : 0 < m := by (have q1 : m ≠ 0 := fun q => h0.out (hm.1 q)); unfold inr at im; omega
       have cm2 := cm v2 r2; clear cm hm im)
    | (clear T3; go_at_call 18; refine cm2.mono ?_; rintro e w'' ⟨rfl, hw⟩; obtain rfl : v2 = w'' := hw.symm; clear cm2 hw r2))
  go_ret
  exact ⟨rfl, B⟩
set_option maxHeartbeats 1600000 in
theorem conv_none (R : Int) (a : Option Addr) (cap n : Nat) (z : List Int) (w : World) (r : Row w a z) (h : ∀ v, Row v a z → ∃ X Y Z, Calls Try.prog 9 #[.int .i64 R, .int .i64 1099511627776, .slice a n cap] v (Ans3 v 0 X Y Z)) :
    Calls Try.prog 7 #[.int .i64 R, .slice a n cap] w fun e w' => e = .returned (.bool true) ∧ Below w.heap.size w w' := by
  have B : Below w.heap.size w w := Below.refl _ _
  have T1 := tok
  have T2 := tok
  go_enter Try.func7, Try.ntmps7
  go_wp2_with (first
    | (clear T1; go_at_call 16; refine (alive_any _).mono ?_; rintro e v1 ⟨rfl, b1⟩; replace B := bthen B b1; replace r := r.kept b1; clear b1; obtain ⟨X, Y, Z, hc⟩ := h v1 r; clear h)
    | (clear T2; go_at_call 9; refine hc.mono ?_; rintro e v2 ⟨a1, c1, a2, c2, a3, c3, rfl, _, r1, r2, _, b2⟩; replace B := bthen B b2; clear b2 hc))
  go_ret
  exact ⟨rfl, B⟩

set_option maxHeartbeats 400000 in
theorem queueConv_walk (a0 : Int) (a1 : Option Addr) (cap1 : Nat) (z1 : List Int) (w : World) (w0 : -9223372036854775808 ≤ a0 ∧ a0 ≤ 9223372036854775807) (h1 : FarIn w a1 cap1 z1) :
    Calls Try.prog 7 #[.int .i64 a0, .slice a1 z1.length cap1] w fun e w' => e = .returned (.bool true) ∧ Below w.heap.size w w' := by
  by_cases h : bright a0 1099511627776 z1
  · by_cases hp : 0 < z1.length
    · by_cases h0 : ∀ j, j < z1.length → (pl a0 1099511627776 z1).getD j 0 = 0
      · have hb : bright a0 a0 z1 := ⟨h.1, h.1, h.2.2⟩
        have e := pw_pass h h0
        refine conv_go a0 a1 cap1 z1.length z1 _ _ _ _ _ _ w h1.1 rfl hp h.2.2.1 h hb rfl rfl rfl (pw_len h) (pl_len h) (pl_in h) h0 e.symm rfl (by show _ = _; rw [of_len, pw_len h]) rfl (of_len _) rfl (line_len h.1 h.1 _) ?_
        show _ = _
        rw [e]; exact (pass_conv hb).symm
      · exact conv_more a0 a1 cap1 z1.length z1 _ _ _ w h1.1 rfl hp h.2.2.1 h rfl rfl rfl (pl_len h) (pl_in h) h0
    · have e : z1.length = 0 := by omega
      refine conv_none a0 a1 cap1 z1.length z1 w h1.1 fun v kv => ?_
      have := play_any a0 1099511627776 a1 cap1 z1 v kv h
      rw [e] at this ⊢
      exact ⟨_, _, _, this⟩
  · exact conv_none a0 a1 cap1 z1.length z1 w h1.1 fun v kv => ⟨_, _, _, play_none a0 1099511627776 a1 cap1 z1.length z1 v kv rfl h⟩

end Go.Proofs.Ytmhdodlgbbaonaa
namespace Go.Proofs.Ytmhdodlgbbaonaa.queueConv
open Go.ChangeShapes Go.WideShapes Go.ChangeAt Go.RowKit
set_option linter.unusedVariables false

set_option maxRecDepth 100000 in
theorem lifted (os : Os) (started : os.Started) (H : Type) (enc : TypeId × Value → H) :
    ReturnsInHanded {} Try.checked os 7 .any (Rows.queueConvSpec.pre6 enc Try.prog Try.f7 Rows.queueConvRow.domain false) (Rows.queueConvSpec.post enc Try.prog Try.f7 false true false false) := by
  refine returnsInHanded_of_change_sized (C := Try.checked) own started (by kernel_rfl) Try.func7
    (ChangeSpec.witness6 (enc := enc) (C := Try.checked) false ⟨#[], #[.int .i64 0, .slice none 0 0], []⟩ 8 (by kernel_rfl) (by kernel_rfl) (by kernel_rfl) (by kernel_rfl)) ?_
  intro W base args ds gs before hval0 hW _ hsz0 _
  have hsz : (DataW.weightsEach Try.prog (Try.f7.params.toList ++ Rows.queueConvSpec.plain.varTypes Try.prog) (ds ++ gs)).all (· ≤ reachBytes) = true := hsz0
  have hval : ∀ (j : Nat) t v, Try.f7.params[j]? = some t → args[j]? = some v → Value.okWide Try.prog W .any base t v := hval0
  have hW' := hW
  obtain ⟨p, q, hA0, hV, rfl, hfz, hnd⟩ := hW
  have hA : DataW.TrodAll enc Try.prog W 0 (fun _ => true) true Try.f7.params.toList args.toList ds p := hA0
  rw [Try.params7] at hA hval hsz
  obtain ⟨v0, vs0, d0, ds0, p0, q0, hargs, rfl, rfl, h0, r0⟩ := trodAll_cons hA
  obtain ⟨v1, vs1, d1, ds1, p1, q1, rfl, rfl, rfl, h1, r1⟩ := trodAll_cons r0
  obtain ⟨rfl, rfl, rfl⟩ := trodAll_nil r1
  obtain rfl : args = #[v0, v1] := by cases args; simp_all
  obtain ⟨rfl, rfl⟩ := trodVars_none hV
  obtain ⟨a0, rfl, rfl, rfl, w0⟩ := open_int Try.underlying3 (hval 0 3 v0 rfl rfl) h0
  obtain ⟨a1, len1, cap1, rfl⟩ := okWide_slice Try.underlying22 (hval 1 22 v1 rfl rfl)
  have k1 := h1
  have lt1 : ∀ x ∈ p1, x.block < W.heap.size := by obtain ⟨m, hm⟩ := k1; exact DataW.trod_lt m _ _ _ hm
  obtain ⟨z1, rfl, w1⟩ := farIn h1 (fun elems spare e => by
    subst e
    have := sized_slice hsz (j := 1) (t := 22) (e := 3) rfl rfl Try.underlying22
    rw [Try.bytes3] at this
    exact this)
  clear hA0 hval0 hsz0 hsz
  refine (queueConv_walk a0 a1 cap1 z1 W (fits w0) w1).mono fun e W' ⟨he, bel⟩ => ?_
  subst he
  exact ⟨_, rfl, _, _, _, [], _, [], hW', trodAll_mk1 (shut_bool Try.underlying4 _), (trodAll_cons_mk (shut_int Try.underlying3 w0) (trodAll_cons_mk (Below.trod laidOut (by kernel_rfl) (of_decide_eq_true (by kernel_rfl)) k1 bel lt1) trodAll_mk0)), rfl, bel.frame _, fun h => by cases h⟩

theorem proved : Rows.QueueConvSaid :=
  OpenClaim.holds_of_wide 7 Try.f7 rfl rfl rfl rfl rfl rfl rfl ⟨rfl, rfl, rfl, rfl, rfl⟩ rfl rfl rfl rfl rfl (by kernel_rfl) Try.func7 (by kernel_rfl)
    (of_decide_eq_true (by kernel_rfl)) (by unfold Func.isWrapper; first | (rw [if_pos (by decide +kernel)]; kernel_rfl) | (rw [if_neg (by decide +kernel)]; exact ⟨rfl, rfl⟩))
    (fun os started H enc _ => lifted os started H enc)

end Go.Proofs.Ytmhdodlgbbaonaa.queueConv
namespace Go.Proofs.Ytmhdodlgbbaonaa
theorem queueConv_holds : Rows.QueueConvSaid := queueConv.proved
#print axioms queueConv_holds
end Go.Proofs.Ytmhdodlgbbaonaa
