/- PROVED: two buckets let the same through, whichever comes first; and one twice is one. CONDITIONS: none. -/
import Derived.Test.YtohfgaipalpncaaAlive
namespace Go.Proofs.Ytohfgaipalpncaa
open Go.RowKit
set_option linter.unusedVariables false

set_option maxRecDepth 100000 in
set_option maxHeartbeats 8000000 in
theorem twice_not1 (x0 y0 x1 y1 : Int) (a2 : Option Addr) (cap2 n : Nat) (z : List Int) (w : World) (r : Row w a2 z) (en : Hid (z.length = n)) (h : Hid (decide (bright x0 y0 z) = false)) :
    Calls Try.prog 8 #[.agg #[.int .i64 x0, .int .i64 y0], .agg #[.int .i64 x1, .int .i64 y1], .slice a2 n cap2] w fun e w' => e = .returned (.bool true) ∧ Below w.heap.size w w' := by
  obtain ⟨w0, hw0⟩ : ∃ w0, (w.alloc (.cells #[.int .i64 x0, .int .i64 y0] 23)).alloc (.cells #[.int .i64 x1, .int .i64 y1] 23) = w0 := ⟨_, rfl⟩
  have B : Below w.heap.size w w0 := by rw [← hw0]; exact balloc (balloc (Below.refl _ _) _) _
  have K : Bk w0 w.heap.size x0 y0 := by rw [← hw0]; exact (Bk.new w x0 y0).alloc _
  have L : Bk w0 (w.heap.size + 1) x1 y1 := by rw [← hw0]; have := Bk.new (w.alloc (.cells #[.int .i64 x0, .int .i64 y0] 23)) x1 y1; simpa using this
  replace r : Row w0 a2 z := r.kept B
  have T1 := tok
  have T2 := tok
  go_enter Try.func8, Try.ntmps8
  go_wp2_with (first
    | (clear T1; go_at_call 18; refine (alive_any _).mono ?_; rintro e v1 ⟨rfl, b1⟩; replace B := bthen B b1; replace K := K.kept b1; replace L := L.kept b1; replace r := r.kept b1; clear b1; have cr := K.r; have cb := K.b; have dr := L.r; have db := L.b)
    | (clear T2; go_at_call 9; refine (bright_n x0 y0 a2 _ n z _ r en.out false h.out).mono ?_; rintro e v2 ⟨rfl, b2⟩; replace B := bthen B b2; replace K := K.kept b2; replace L := L.kept b2; replace r := r.kept b2; clear b2 cr cb dr db; have cr := K.r; have cb := K.b; have dr := L.r; have db := L.b))
  go_ret
  exact ⟨rfl, B⟩

set_option maxRecDepth 100000 in
set_option maxHeartbeats 8000000 in
theorem twice_not2 (x0 y0 x1 y1 : Int) (a2 : Option Addr) (cap2 n : Nat) (z : List Int) (w : World) (r : Row w a2 z) (en : Hid (z.length = n)) (h : Hid (decide (bright x0 y0 z) = true)) (h2 : Hid (decide (bright x1 y1 []) = false)) :
    Calls Try.prog 8 #[.agg #[.int .i64 x0, .int .i64 y0], .agg #[.int .i64 x1, .int .i64 y1], .slice a2 n cap2] w fun e w' => e = .returned (.bool true) ∧ Below w.heap.size w w' := by
  obtain ⟨w0, hw0⟩ : ∃ w0, (w.alloc (.cells #[.int .i64 x0, .int .i64 y0] 23)).alloc (.cells #[.int .i64 x1, .int .i64 y1] 23) = w0 := ⟨_, rfl⟩
  have B : Below w.heap.size w w0 := by rw [← hw0]; exact balloc (balloc (Below.refl _ _) _) _
  have K : Bk w0 w.heap.size x0 y0 := by rw [← hw0]; exact (Bk.new w x0 y0).alloc _
  have L : Bk w0 (w.heap.size + 1) x1 y1 := by rw [← hw0]; have := Bk.new (w.alloc (.cells #[.int .i64 x0, .int .i64 y0] 23)) x1 y1; simpa using this
  replace r : Row w0 a2 z := r.kept B
  have T1 := tok
  have T2 := tok
  have T3 := tok
  go_enter Try.func8, Try.ntmps8
  go_wp2_with (first
    | (clear T1; go_at_call 18; refine (alive_any _).mono ?_; rintro e v1 ⟨rfl, b1⟩; replace B := bthen B b1; replace K := K.kept b1; replace L := L.kept b1; replace r := r.kept b1; clear b1; have cr := K.r; have cb := K.b; have dr := L.r; have db := L.b)
    | (clear T2; go_at_call 9; refine (bright_n x0 y0 a2 _ n z _ r en.out true h.out).mono ?_; rintro e v2 ⟨rfl, b2⟩; replace B := bthen B b2; replace K := K.kept b2; replace L := L.kept b2; replace r := r.kept b2; clear b2 cr cb dr db; have cr := K.r; have cb := K.b; have dr := L.r; have db := L.b)
    | (clear T3; go_at_call 9; refine (bright_n x1 y1 none 0 0 [] _ (.inl rfl) rfl false h2.out).mono ?_; rintro e v3 ⟨rfl, b3⟩; replace B := bthen B b3; replace K := K.kept b3; replace L := L.kept b3; replace r := r.kept b3; clear b3 cr cb dr db))
  go_ret
  exact ⟨rfl, B⟩

set_option maxRecDepth 100000 in
set_option maxHeartbeats 8000000 in
theorem twice_yes (x0 y0 x1 y1 : Int) (a2 : Option Addr) (cap2 n : Nat) (z : List Int) (w : World) (r : Row w a2 z) (en : Hid (z.length = n)) (hn : n < 300) (P Q X : List Int) (hb : Hid (bright x0 y0 z)) (h2 : Hid (decide (bright x1 y1 []) = true)) (hbz : Hid (bright x1 y1 z)) (hP : Hid (pass x1 y1 z = P)) (lP : Hid (P.length = n)) (hbP : Hid (bright x0 y0 P)) (hX : Hid (pass x0 y0 P = X)) (lX : Hid (X.length = n)) (hQ : Hid (pass x0 y0 z = Q)) (lQ : Hid (Q.length = n)) (hbQ : Hid (bright x1 y1 Q)) (haQ : Hid (bright x0 y0 Q)) (hX2 : Hid (pass x1 y1 Q = X)) (hQQ : Hid (pass x0 y0 Q = Q)) (k1 : Hid (decide (keeps x0 y0 X) = true)) (k2 : Hid (decide (keeps x1 y1 X) = true)) :
    Calls Try.prog 8 #[.agg #[.int .i64 x0, .int .i64 y0], .agg #[.int .i64 x1, .int .i64 y1], .slice a2 n cap2] w fun e w' => e = .returned (.bool true) ∧ Below w.heap.size w w' := by
  obtain ⟨w0, hw0⟩ : ∃ w0, (w.alloc (.cells #[.int .i64 x0, .int .i64 y0] 23)).alloc (.cells #[.int .i64 x1, .int .i64 y1] 23) = w0 := ⟨_, rfl⟩
  have B : Below w.heap.size w w0 := by rw [← hw0]; exact balloc (balloc (Below.refl _ _) _) _
  have K : Bk w0 w.heap.size x0 y0 := by rw [← hw0]; exact (Bk.new w x0 y0).alloc _
  have L : Bk w0 (w.heap.size + 1) x1 y1 := by rw [← hw0]; have := Bk.new (w.alloc (.cells #[.int .i64 x0, .int .i64 y0] 23)) x1 y1; simpa using this
  replace r : Row w0 a2 z := r.kept B
  have T1 := tok
  have T2 := tok
  have T3 := tok
  have T4 := tok
  have T5 := tok
  have T6 := tok
  have T7 := tok
  have T8 := tok
  have T9 := tok
  have T10 := tok
  have T11 := tok
  have T12 := tok
  have T13 := tok
  have T14 := tok
  go_enter Try.func8, Try.ntmps8
  go_wp2_with (first
    | (clear T1; go_at_call 18; refine (alive_any _).mono ?_; rintro e v1 ⟨rfl, b1⟩; replace B := bthen B b1; replace K := K.kept b1; replace L := L.kept b1; replace r := r.kept b1; clear b1; have cr := K.r; have cb := K.b; have dr := L.r; have db := L.b)
    | (clear T2; go_at_call 9; refine (bright_n x0 y0 a2 _ n z _ r en.out true (decide_eq_true hb.out)).mono ?_; rintro e v2 ⟨rfl, b2⟩; replace B := bthen B b2; replace K := K.kept b2; replace L := L.kept b2; replace r := r.kept b2; clear b2 cr cb dr db; have cr := K.r; have cb := K.b; have dr := L.r; have db := L.b)
    | (clear T3; go_at_call 9; refine (bright_n x1 y1 none 0 0 [] _ (.inl rfl) rfl true h2.out).mono ?_; rintro e v3 ⟨rfl, b3⟩; replace B := bthen B b3; replace K := K.kept b3; replace L := L.kept b3; replace r := r.kept b3; clear b3 cr cb dr db))
  go_region_held3 (fun w' => (w'.cell? ⟨w.heap.size, 0, none⟩ = some (.int .i64 x0) ∧ w'.cell? ⟨w.heap.size, 1, none⟩ = some (.int .i64 y0)) ∧ w'.cell? ⟨w.heap.size + 1, 0, none⟩ = some (.int .i64 x1) ∧ w'.cell? ⟨w.heap.size + 1, 1, none⟩ = some (.int .i64 y1)) (exact ⟨⟨K.r, K.b⟩, L.r, L.b⟩) (first
    | (clear T4; go_at_call 16; refine (pass_r x1 y1 a2 _ n z P hbz.out hP.out _ r.drew en.out).mono ?_; rintro e v4 ⟨q4, c4, rfl, _, r4, b4⟩; replace B := bthen B.drew b4; replace K := K.drew.kept b4; replace L := L.drew.kept b4; replace r := r.drew.kept b4; clear b4)
    | (clear T5; go_at_call 16; refine (pass_r x0 y0 q4 _ n P X hbP.out hX.out _ r4 lP.out).mono ?_; rintro e v5 ⟨q5, c5, rfl, _, r5, b5⟩; replace B := bthen B b5; replace K := K.kept b5; replace L := L.kept b5; replace r := r.kept b5; replace r4 := r4.kept b5; clear b5 r4))
  go_wp2
  go_region_held3 (fun w' => (w'.cell? ⟨w.heap.size, 0, none⟩ = some (.int .i64 x0) ∧ w'.cell? ⟨w.heap.size, 1, none⟩ = some (.int .i64 y0)) ∧ w'.cell? ⟨w.heap.size + 1, 0, none⟩ = some (.int .i64 x1) ∧ w'.cell? ⟨w.heap.size + 1, 1, none⟩ = some (.int .i64 y1)) (exact ⟨⟨K.r, K.b⟩, L.r, L.b⟩) (first
    | (clear T6; go_at_call 16; refine (pass_r x0 y0 a2 _ n z Q hb.out hQ.out _ r.drew en.out).mono ?_; rintro e v6 ⟨q6, c6, rfl, _, r6, b6⟩; replace B := bthen B.drew b6; replace K := K.drew.kept b6; replace L := L.drew.kept b6; replace r := r.drew.kept b6; replace r5 := r5.drew.kept b6; clear b6)
    | (clear T7; go_at_call 16; refine (pass_r x1 y1 q6 _ n Q X hbQ.out hX2.out _ r6 lQ.out).mono ?_; rintro e v7 ⟨q7, c7, rfl, _, r7, b7⟩; replace B := bthen B b7; replace K := K.kept b7; replace L := L.kept b7; replace r := r.kept b7; replace r5 := r5.kept b7; replace r6 := r6.kept b7; clear b7 r6)
    | (clear T8; go_at_call 11; refine (equal_n q5 q7 _ _ n n X X _ r5 r7 lX.out lX.out (by omega) (by omega) true (decide_eq_true rfl)).mono ?_; rintro e v8 ⟨rfl, b8⟩; replace B := bthen B b8; replace K := K.kept b8; replace L := L.kept b8; replace r := r.kept b8; replace r5 := r5.kept b8; replace r7 := r7.kept b8; clear b8 r7)
    | (clear T9; go_at_call 16; refine (pass_r x0 y0 a2 _ n z Q hb.out hQ.out _ r en.out).mono ?_; rintro e v9 ⟨q9, c9, rfl, _, r9, b9⟩; replace B := bthen B b9; replace K := K.kept b9; replace L := L.kept b9; replace r := r.kept b9; replace r5 := r5.kept b9; clear b9)
    | (clear T10; go_at_call 16; refine (pass_r x0 y0 q9 _ n Q Q haQ.out hQQ.out _ r9 lQ.out).mono ?_; rintro e v10 ⟨q10, c10, rfl, _, r10, b10⟩; replace B := bthen B b10; replace K := K.kept b10; replace L := L.kept b10; replace r := r.kept b10; replace r5 := r5.kept b10; replace r9 := r9.kept b10; clear b10 r9)
    | (clear T11; go_at_call 16; refine (pass_r x0 y0 a2 _ n z Q hb.out hQ.out _ r en.out).mono ?_; rintro e v11 ⟨q11, c11, rfl, _, r11, b11⟩; replace B := bthen B b11; replace K := K.kept b11; replace L := L.kept b11; replace r := r.kept b11; replace r5 := r5.kept b11; replace r10 := r10.kept b11; clear b11)
    | (clear T12; go_at_call 11; refine (equal_n q10 q11 _ _ n n Q Q _ r10 r11 lQ.out lQ.out (by omega) (by omega) true (decide_eq_true rfl)).mono ?_; rintro e v12 ⟨rfl, b12⟩; replace B := bthen B b12; replace K := K.kept b12; replace L := L.kept b12; replace r := r.kept b12; replace r5 := r5.kept b12; replace r10 := r10.kept b12; replace r11 := r11.kept b12; clear b12 r10 r11)
    | (clear T13; go_at_call 14; refine (keeps_n x0 y0 q5 _ n X _ r5 lX.out true k1.out).mono ?_; rintro e v13 ⟨rfl, b13⟩; replace B := bthen B b13; replace K := K.kept b13; replace L := L.kept b13; replace r := r.kept b13; replace r5 := r5.kept b13; clear b13)
    | (clear T14; go_at_call 14; refine (keeps_n x1 y1 q5 _ n X _ r5 lX.out true k2.out).mono ?_; rintro e v14 ⟨rfl, b14⟩; replace B := bthen B b14; replace K := K.kept b14; replace L := L.kept b14; replace r := r.kept b14; replace r5 := r5.kept b14; clear b14 r5))
  go_wp2
  go_ret
  exact ⟨rfl, B⟩

theorem bucketTwice_walk (x0 y0 x1 y1 : Int) (a2 : Option Addr) (cap2 : Nat) (z2 : List Int) (w : World) (h2 : FarIn w a2 cap2 z2) :
    Calls Try.prog 8 #[.agg #[.int .i64 x0, .int .i64 y0], .agg #[.int .i64 x1, .int .i64 y1], .slice a2 z2.length cap2] w fun e w' => e = .returned (.bool true) ∧ Below w.heap.size w w' := by
  by_cases h : bright x0 y0 z2
  · by_cases k : bright x1 y1 []
    · have hz : bright x1 y1 z2 := ⟨k.1, k.2.1, h.2.2⟩
      exact twice_yes x0 y0 x1 y1 a2 cap2 _ z2 w h2.1 rfl h.2.2.1 _ _ _ h (decide_eq_true k) hz rfl (pass_len _ _ _) (pass_bright hz h.1 h.2.1) rfl (by show _ = _; rw [pass_len, pass_len]) rfl (pass_len _ _ _) (pass_bright h k.1 k.2.1) (pass_bright h h.1 h.2.1)
        (pass_swap h k.1 k.2.1).symm (pass_pass h) (decide_eq_true (keeps_first h k.1 k.2.1)) (decide_eq_true (keeps_second h k.1 k.2.1))
    · exact twice_not2 x0 y0 x1 y1 a2 cap2 _ z2 w h2.1 rfl (decide_eq_true h) (decide_eq_false k)
  · exact twice_not1 x0 y0 x1 y1 a2 cap2 _ z2 w h2.1 rfl (decide_eq_false h)

end Go.Proofs.Ytohfgaipalpncaa
namespace Go.Proofs.Ytohfgaipalpncaa.bucketTwice
open Go.ChangeShapes Go.WideShapes Go.ChangeAt Go.RowKit
set_option linter.unusedVariables false

set_option maxRecDepth 100000 in
theorem lifted (os : Os) (started : os.Started) (H : Type) (enc : TypeId × Value → H) :
    ReturnsInHanded {} Try.checked os 8 .any (Rows.bucketTwiceSpec.pre6 enc Try.prog Try.f8 Rows.bucketTwiceRow.domain false) (Rows.bucketTwiceSpec.post enc Try.prog Try.f8 false true false false) := by
  refine returnsInHanded_of_change_sized (C := Try.checked) own started (by kernel_rfl) Try.func8
    (ChangeSpec.witness6 (enc := enc) (C := Try.checked) false ⟨#[], #[.agg #[.int .i64 0, .int .i64 0], .agg #[.int .i64 0, .int .i64 0], .slice none 0 0], []⟩ 8 (by kernel_rfl) (by kernel_rfl) (by kernel_rfl) (by kernel_rfl)) ?_
  intro W base args ds gs before hval0 hW _ hsz0 _
  have hsz : (DataW.weightsEach Try.prog (Try.f8.params.toList ++ Rows.bucketTwiceSpec.plain.varTypes Try.prog) (ds ++ gs)).all (· ≤ reachBytes) = true := hsz0
  have hval : ∀ (j : Nat) t v, Try.f8.params[j]? = some t → args[j]? = some v → Value.okWide Try.prog W .any base t v := hval0
  have hW' := hW
  obtain ⟨p, q, hA0, hV, rfl, hfz, hnd⟩ := hW
  have hA : DataW.TrodAll enc Try.prog W 0 (fun _ => true) true Try.f8.params.toList args.toList ds p := hA0
  rw [Try.params8] at hA hval hsz
  obtain ⟨v0, vs0, d0, ds0, p0, q0, hargs, rfl, rfl, h0, r0⟩ := trodAll_cons hA
  obtain ⟨v1, vs1, d1, ds1, p1, q1, rfl, rfl, rfl, h1, r1⟩ := trodAll_cons r0
  obtain ⟨v2, vs2, d2, ds2, p2, q2, rfl, rfl, rfl, h2, r2⟩ := trodAll_cons r1
  obtain ⟨rfl, rfl, rfl⟩ := trodAll_nil r2
  obtain rfl : args = #[v0, v1, v2] := by cases args; simp_all
  obtain ⟨rfl, rfl⟩ := trodVars_none hV
  obtain ⟨x0, y0, rfl, rfl, rfl, wx0, wy0⟩ := openBk (hval 0 23 v0 rfl rfl) h0
  obtain ⟨x1, y1, rfl, rfl, rfl, wx1, wy1⟩ := openBk (hval 1 23 v1 rfl rfl) h1
  obtain ⟨a2, len2, cap2, rfl⟩ := okWide_slice Try.underlying24 (hval 2 24 v2 rfl rfl)
  have k2 := h2
  have lt2 : ∀ x ∈ p2, x.block < W.heap.size := by obtain ⟨m, hm⟩ := k2; exact DataW.trod_lt m _ _ _ hm
  obtain ⟨z2, rfl, w2⟩ := farIn h2 (fun elems spare e => by
    subst e
    have := sized_slice hsz (j := 2) (t := 24) (e := 3) rfl rfl Try.underlying24
    rw [Try.bytes3] at this
    exact this)
  clear hA0 hval0 hsz0 hsz
  refine (bucketTwice_walk x0 y0 x1 y1 a2 cap2 z2 W w2).mono fun e W' ⟨he, bel⟩ => ?_
  subst he
  exact ⟨_, rfl, _, _, _, [], _, [], hW', trodAll_mk1 (shut_bool Try.underlying4 _), (trodAll_cons_mk (shutBk wx0 wy0) (trodAll_cons_mk (shutBk wx1 wy1) (trodAll_cons_mk (Below.trod laidOut (by kernel_rfl) (of_decide_eq_true (by kernel_rfl)) k2 bel lt2) trodAll_mk0))), rfl, bel.frame _, fun h => by cases h⟩

theorem proved : Rows.BucketTwiceSaid :=
  OpenClaim.holds_of_wide 8 Try.f8 rfl rfl rfl rfl rfl rfl rfl ⟨rfl, rfl, rfl, rfl, rfl⟩ rfl rfl rfl rfl rfl (by kernel_rfl) Try.func8 (by kernel_rfl)
    (of_decide_eq_true (by kernel_rfl)) (by unfold Func.isWrapper; first | (rw [if_pos (by decide +kernel)]; kernel_rfl) | (rw [if_neg (by decide +kernel)]; exact ⟨rfl, rfl⟩))
    (fun os started H enc _ => lifted os started H enc)

end Go.Proofs.Ytohfgaipalpncaa.bucketTwice
namespace Go.Proofs.Ytohfgaipalpncaa
theorem bucketTwice_holds : Rows.BucketTwiceSaid := bucketTwice.proved
#print axioms bucketTwice_holds
end Go.Proofs.Ytohfgaipalpncaa
