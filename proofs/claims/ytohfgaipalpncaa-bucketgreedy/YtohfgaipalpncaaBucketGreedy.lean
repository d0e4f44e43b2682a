/- PROVED: nobody lets more through: whatever else keeps to the bucket, and lets nothing go ahead of its time, has let no more through at any tick. CONDITIONS: none. -/
import Derived.Test.YtohfgaipalpncaaAlive
namespace Go.Proofs.Ytohfgaipalpncaa
open Go.RowKit
set_option linter.unusedVariables false

set_option maxRecDepth 100000 in
set_option maxHeartbeats 4000000 in
theorem greedy_not (x0 y0 : Int) (a1 : Option Addr) (cap1 n : Nat) (z1 : List Int) (a2 : Option Addr) (cap2 m : Nat) (z2 : List Int) (w : World) (r : Row w a1 z1) (s : Row w a2 z2) (en : Hid (z1.length = n)) (em : Hid (z2.length = m)) (h : Hid (decide (bright x0 y0 z1) = false)) :
    Calls Try.prog 6 #[.agg #[.int .i64 x0, .int .i64 y0], .slice a1 n cap1, .slice a2 m cap2] w fun e w' => e = .returned (.bool true) ∧ Below w.heap.size w w' := by
  obtain ⟨w0, hw0⟩ : ∃ w0, w.alloc (.cells #[.int .i64 x0, .int .i64 y0] 23) = w0 := ⟨_, rfl⟩
  have B : Below w.heap.size w w0 := by rw [← hw0]; exact balloc (Below.refl _ _) _
  have K : Bk w0 w.heap.size x0 y0 := by rw [← hw0]; exact Bk.new w x0 y0
  replace r : Row w0 a1 z1 := r.kept B
  replace s : Row w0 a2 z2 := s.kept B
  have T1 := tok
  have T2 := tok
  go_enter Try.func6, Try.ntmps6
  go_wp2_with (first
    | (clear T1; go_at_call 18; refine (alive_any _).mono ?_; rintro e v1 ⟨rfl, b1⟩; replace B := bthen B b1; replace K := K.kept b1; replace r := r.kept b1; replace s := s.kept b1; have cr := K.r; have cb := K.b; clear b1)
    | (clear T2; go_at_call 9; refine (bright_n x0 y0 a1 _ n z1 _ r en.out false h.out).mono ?_; rintro e v2 ⟨rfl, b2⟩; replace B := bthen B b2; replace K := K.kept b2; replace r := r.kept b2; replace s := s.kept b2; clear cr cb b2; have cr := K.r; have cb := K.b))
  go_ret
  exact ⟨rfl, B⟩

set_option maxRecDepth 100000 in
set_option maxHeartbeats 4000000 in
theorem greedy_len (x0 y0 : Int) (a1 : Option Addr) (cap1 n : Nat) (z1 : List Int) (a2 : Option Addr) (cap2 m : Nat) (z2 : List Int) (w : World) (r : Row w a1 z1) (s : Row w a2 z2) (en : Hid (z1.length = n)) (em : Hid (z2.length = m)) (h : Hid (bright x0 y0 z1)) (hl : ¬ (m : Int) = (n : Int)) :
    Calls Try.prog 6 #[.agg #[.int .i64 x0, .int .i64 y0], .slice a1 n cap1, .slice a2 m cap2] w fun e w' => e = .returned (.bool true) ∧ Below w.heap.size w w' := by
  obtain ⟨w0, hw0⟩ : ∃ w0, w.alloc (.cells #[.int .i64 x0, .int .i64 y0] 23) = w0 := ⟨_, rfl⟩
  have B : Below w.heap.size w w0 := by rw [← hw0]; exact balloc (Below.refl _ _) _
  have K : Bk w0 w.heap.size x0 y0 := by rw [← hw0]; exact Bk.new w x0 y0
  replace r : Row w0 a1 z1 := r.kept B
  replace s : Row w0 a2 z2 := s.kept B
  have T1 := tok
  have T2 := tok
  go_enter Try.func6, Try.ntmps6
  go_wp2_with (first
    | (clear T1; go_at_call 18; refine (alive_any _).mono ?_; rintro e v1 ⟨rfl, b1⟩; replace B := bthen B b1; replace K := K.kept b1; replace r := r.kept b1; replace s := s.kept b1; have cr := K.r; have cb := K.b; clear b1)
    | (clear T2; go_at_call 9; refine (bright_n x0 y0 a1 _ n z1 _ r en.out true (decide_eq_true h.out)).mono ?_; rintro e v2 ⟨rfl, b2⟩; replace B := bthen B b2; replace K := K.kept b2; replace r := r.kept b2; replace s := s.kept b2; clear cr cb b2; have cr := K.r; have cb := K.b))
  go_ret
  exact ⟨rfl, B⟩

set_option maxRecDepth 100000 in
set_option maxHeartbeats 4000000 in
theorem greedy_keeps (x0 y0 : Int) (a1 : Option Addr) (cap1 n : Nat) (z1 : List Int) (a2 : Option Addr) (cap2 m : Nat) (z2 : List Int) (w : World) (r : Row w a1 z1) (s : Row w a2 z2) (en : Hid (z1.length = n)) (em : Hid (z2.length = m)) (h : Hid (bright x0 y0 z1)) (hl : m = n) (hk : Hid (decide (keeps x0 y0 z2) = false)) :
    Calls Try.prog 6 #[.agg #[.int .i64 x0, .int .i64 y0], .slice a1 n cap1, .slice a2 m cap2] w fun e w' => e = .returned (.bool true) ∧ Below w.heap.size w w' := by
  subst hl
  obtain ⟨w0, hw0⟩ : ∃ w0, w.alloc (.cells #[.int .i64 x0, .int .i64 y0] 23) = w0 := ⟨_, rfl⟩
  have B : Below w.heap.size w w0 := by rw [← hw0]; exact balloc (Below.refl _ _) _
  have K : Bk w0 w.heap.size x0 y0 := by rw [← hw0]; exact Bk.new w x0 y0
  replace r : Row w0 a1 z1 := r.kept B
  replace s : Row w0 a2 z2 := s.kept B
  have T1 := tok
  have T2 := tok
  have T3 := tok
  go_enter Try.func6, Try.ntmps6
  go_wp2_with (first
    | (clear T1; go_at_call 18; refine (alive_any _).mono ?_; rintro e v1 ⟨rfl, b1⟩; replace B := bthen B b1; replace K := K.kept b1; replace r := r.kept b1; replace s := s.kept b1; have cr := K.r; have cb := K.b; clear b1)
    | (clear T2; go_at_call 9; refine (bright_n x0 y0 a1 _ m z1 _ r en.out true (decide_eq_true h.out)).mono ?_; rintro e v2 ⟨rfl, b2⟩; replace B := bthen B b2; replace K := K.kept b2; replace r := r.kept b2; replace s := s.kept b2; clear cr cb b2; have cr := K.r; have cb := K.b)
    | (clear T3; go_at_call 14; refine (keeps_n x0 y0 a2 _ m z2 _ s em.out false hk.out).mono ?_; rintro e v3 ⟨rfl, b3⟩; replace B := bthen B b3; replace K := K.kept b3; replace r := r.kept b3; replace s := s.kept b3; clear cr cb b3))
  go_ret
  exact ⟨rfl, B⟩

set_option maxRecDepth 100000 in
set_option maxHeartbeats 4000000 in
theorem greedy_below (x0 y0 : Int) (a1 : Option Addr) (cap1 n : Nat) (z1 : List Int) (a2 : Option Addr) (cap2 m : Nat) (z2 : List Int) (w : World) (r : Row w a1 z1) (s : Row w a2 z2) (en : Hid (z1.length = n)) (em : Hid (z2.length = m)) (O A : List Int) (hO : Hid (of z2 = O)) (lO : Hid (O.length = m + 1)) (hA : Hid (of z1 = A)) (lA : Hid (A.length = n + 1)) (h : Hid (bright x0 y0 z1)) (hn : n < 300) (hl : m = n) (hk : Hid (decide (keeps x0 y0 z2) = true)) (hw : Hid (decide (below O A) = false)) :
    Calls Try.prog 6 #[.agg #[.int .i64 x0, .int .i64 y0], .slice a1 n cap1, .slice a2 m cap2] w fun e w' => e = .returned (.bool true) ∧ Below w.heap.size w w' := by
  subst hl
  obtain ⟨w0, hw0⟩ : ∃ w0, w.alloc (.cells #[.int .i64 x0, .int .i64 y0] 23) = w0 := ⟨_, rfl⟩
  have B : Below w.heap.size w w0 := by rw [← hw0]; exact balloc (Below.refl _ _) _
  have K : Bk w0 w.heap.size x0 y0 := by rw [← hw0]; exact Bk.new w x0 y0
  replace r : Row w0 a1 z1 := r.kept B
  replace s : Row w0 a2 z2 := s.kept B
  have T1 := tok
  have T2 := tok
  have T3 := tok
  have T4 := tok
  have T5 := tok
  have T6 := tok
  go_enter Try.func6, Try.ntmps6
  go_wp2_with (first
    | (clear T1; go_at_call 18; refine (alive_any _).mono ?_; rintro e v1 ⟨rfl, b1⟩; replace B := bthen B b1; replace K := K.kept b1; replace r := r.kept b1; replace s := s.kept b1; have cr := K.r; have cb := K.b; clear b1)
    | (clear T2; go_at_call 9; refine (bright_n x0 y0 a1 _ m z1 _ r en.out true (decide_eq_true h.out)).mono ?_; rintro e v2 ⟨rfl, b2⟩; replace B := bthen B b2; replace K := K.kept b2; replace r := r.kept b2; replace s := s.kept b2; clear cr cb b2; have cr := K.r; have cb := K.b)
    | (clear T3; go_at_call 14; refine (keeps_n x0 y0 a2 _ m z2 _ s em.out true hk.out).mono ?_; rintro e v3 ⟨rfl, b3⟩; replace B := bthen B b3; replace K := K.kept b3; replace r := r.kept b3; replace s := s.kept b3; clear cr cb b3)
    | (clear T4; go_at_call 20; refine (of_r a2 _ m z2 O hO.out _ s em.out (by omega)).mono ?_; rintro e v4 ⟨a4, c4, rfl, _, r4, b4⟩; replace B := bthen B b4; replace K := K.kept b4; replace r := r.kept b4; replace s := s.kept b4; clear b4)
    | (clear T5; go_at_call 20; refine (of_r a1 _ m z1 A hA.out _ r en.out (by omega)).mono ?_; rintro e v5 ⟨a5, c5, rfl, _, r5, b5⟩; replace B := bthen B b5; replace K := K.kept b5; replace r := r.kept b5; replace s := s.kept b5; replace r4 := r4.kept b5; clear b5)
    | (clear T6; go_at_call 19; refine (within_n a4 a5 _ _ (m + 1) (m + 1) O A _ r4 r5 lO.out lA.out (by omega) (by omega) false hw.out).mono ?_; rintro e v6 ⟨rfl, b6⟩; replace B := bthen B b6; replace K := K.kept b6; replace r := r.kept b6; replace s := s.kept b6; clear b6 r4 r5))
  go_ret
  exact ⟨rfl, B⟩

set_option maxRecDepth 100000 in
set_option maxHeartbeats 4000000 in
theorem greedy_yes (x0 y0 : Int) (a1 : Option Addr) (cap1 n : Nat) (z1 : List Int) (a2 : Option Addr) (cap2 m : Nat) (z2 : List Int) (w : World) (r : Row w a1 z1) (s : Row w a2 z2) (en : Hid (z1.length = n)) (em : Hid (z2.length = m)) (O A P C : List Int) (hO : Hid (of z2 = O)) (lO : Hid (O.length = m + 1)) (hA : Hid (of z1 = A)) (lA : Hid (A.length = n + 1)) (hP : Hid (pass x0 y0 z1 = P)) (lP : Hid (P.length = n)) (hC : Hid (of P = C)) (lC : Hid (C.length = n + 1)) (h : Hid (bright x0 y0 z1)) (hn : n < 300) (hl : m = n) (hk : Hid (decide (keeps x0 y0 z2) = true)) (hw : Hid (decide (below O A) = true)) (hv : Hid (decide (below O C) = true)) :
    Calls Try.prog 6 #[.agg #[.int .i64 x0, .int .i64 y0], .slice a1 n cap1, .slice a2 m cap2] w fun e w' => e = .returned (.bool true) ∧ Below w.heap.size w w' := by
  subst hl
  obtain ⟨w0, hw0⟩ : ∃ w0, w.alloc (.cells #[.int .i64 x0, .int .i64 y0] 23) = w0 := ⟨_, rfl⟩
  have B : Below w.heap.size w w0 := by rw [← hw0]; exact balloc (Below.refl _ _) _
  have K : Bk w0 w.heap.size x0 y0 := by rw [← hw0]; exact Bk.new w x0 y0
  replace r : Row w0 a1 z1 := r.kept B
  replace s : Row w0 a2 z2 := s.kept B
  have T1 := tok
  have T2 := tok
  have T3 := tok
  have T4 := tok
  have T5 := tok
  have T6 := tok
  have T7 := tok
  have T8 := tok
  have T9 := tok
  have T10 := tok
  go_enter Try.func6, Try.ntmps6
  go_wp2_with (first
    | (clear T1; go_at_call 18; refine (alive_any _).mono ?_; rintro e v1 ⟨rfl, b1⟩; replace B := bthen B b1; replace K := K.kept b1; replace r := r.kept b1; replace s := s.kept b1; have cr := K.r; have cb := K.b; clear b1)
    | (clear T2; go_at_call 9; refine (bright_n x0 y0 a1 _ m z1 _ r en.out true (decide_eq_true h.out)).mono ?_; rintro e v2 ⟨rfl, b2⟩; replace B := bthen B b2; replace K := K.kept b2; replace r := r.kept b2; replace s := s.kept b2; clear cr cb b2; have cr := K.r; have cb := K.b)
    | (clear T3; go_at_call 14; refine (keeps_n x0 y0 a2 _ m z2 _ s em.out true hk.out).mono ?_; rintro e v3 ⟨rfl, b3⟩; replace B := bthen B b3; replace K := K.kept b3; replace r := r.kept b3; replace s := s.kept b3; clear cr cb b3)
    | (clear T4; go_at_call 20; refine (of_r a2 _ m z2 O hO.out _ s em.out (by omega)).mono ?_; rintro e v4 ⟨a4, c4, rfl, _, r4, b4⟩; replace B := bthen B b4; replace K := K.kept b4; replace r := r.kept b4; replace s := s.kept b4; clear b4)
    | (clear T5; go_at_call 20; refine (of_r a1 _ m z1 A hA.out _ r en.out (by omega)).mono ?_; rintro e v5 ⟨a5, c5, rfl, _, r5, b5⟩; replace B := bthen B b5; replace K := K.kept b5; replace r := r.kept b5; replace s := s.kept b5; replace r4 := r4.kept b5; clear b5)
    | (clear T6; go_at_call 19; refine (within_n a4 a5 _ _ (m + 1) (m + 1) O A _ r4 r5 lO.out lA.out (by omega) (by omega) true hw.out).mono ?_; rintro e v6 ⟨rfl, b6⟩; replace B := bthen B b6; replace K := K.kept b6; replace r := r.kept b6; replace s := s.kept b6; clear b6 r4 r5))
  go_region_held3 (fun w' => w'.cell? ⟨w.heap.size, 0, none⟩ = some (.int .i64 x0) ∧ w'.cell? ⟨w.heap.size, 1, none⟩ = some (.int .i64 y0)) (exact ⟨K.r, K.b⟩) (first
    | (clear T7; go_at_call 20; refine (of_r a2 _ m z2 O hO.out _ s.drew em.out (by omega)).mono ?_; rintro e v7 ⟨a7, c7, rfl, _, r7, b7⟩; replace B := bthen B.drew b7; replace K := K.drew.kept b7; replace r := r.drew.kept b7; clear b7 s)
    | (clear T8; go_at_call 16; refine (pass_r x0 y0 a1 _ m z1 P h.out hP.out _ r en.out).mono ?_; rintro e v8 ⟨a8, c8, rfl, _, r8, b8⟩; replace B := bthen B b8; replace K := K.kept b8; replace r7 := r7.kept b8; clear b8 r)
    | (clear T9; go_at_call 20; refine (of_r a8 _ m P C hC.out _ r8 lP.out (by omega)).mono ?_; rintro e v9 ⟨a9, c9, rfl, _, r9, b9⟩; replace B := bthen B b9; replace K := K.kept b9; replace r7 := r7.kept b9; clear b9 r8)
    | (clear T10; go_at_call 19; refine (within_n a7 a9 _ _ (m + 1) (m + 1) O C _ r7 r9 lO.out lC.out (by omega) (by omega) true hv.out).mono ?_; rintro e v10 ⟨rfl, b10⟩; replace B := bthen B b10; replace K := K.kept b10; clear b10 r7 r9))
  go_wp2
  go_ret
  exact ⟨rfl, B⟩

theorem bucketGreedy_walk (x0 y0 : Int) (a1 : Option Addr) (cap1 : Nat) (z1 : List Int) (a2 : Option Addr) (cap2 : Nat) (z2 : List Int) (w : World) (h1 : FarIn w a1 cap1 z1) (h2 : FarIn w a2 cap2 z2) :
    Calls Try.prog 6 #[.agg #[.int .i64 x0, .int .i64 y0], .slice a1 z1.length cap1, .slice a2 z2.length cap2] w fun e w' => e = .returned (.bool true) ∧ Below w.heap.size w w' := by
  by_cases h : bright x0 y0 z1
  · by_cases hl : z2.length = z1.length
    · by_cases hk : keeps x0 y0 z2
      · by_cases hw : below (of z2) (of z1)
        · exact greedy_yes x0 y0 a1 cap1 _ z1 a2 cap2 _ z2 w h1.1 h2.1 rfl rfl _ _ _ _ rfl (of_len _) rfl (of_len _) rfl (pass_len _ _ _) rfl (by show _ = _; rw [of_len, pass_len]) h h.2.2.1 hl (decide_eq_true hk) (decide_eq_true hw) (decide_eq_true (pass_most h hl hk hw))
        · exact greedy_below x0 y0 a1 cap1 _ z1 a2 cap2 _ z2 w h1.1 h2.1 rfl rfl _ _ rfl (of_len _) rfl (of_len _) h h.2.2.1 hl (decide_eq_true hk) (decide_eq_false hw)
      · exact greedy_keeps x0 y0 a1 cap1 _ z1 a2 cap2 _ z2 w h1.1 h2.1 rfl rfl h hl (decide_eq_false hk)
    · exact greedy_len x0 y0 a1 cap1 _ z1 a2 cap2 _ z2 w h1.1 h2.1 rfl rfl h (by omega)
  · exact greedy_not x0 y0 a1 cap1 _ z1 a2 cap2 _ z2 w h1.1 h2.1 rfl rfl (decide_eq_false h)

end Go.Proofs.Ytohfgaipalpncaa
namespace Go.Proofs.Ytohfgaipalpncaa.bucketGreedy
open Go.ChangeShapes Go.WideShapes Go.ChangeAt Go.RowKit
set_option linter.unusedVariables false

set_option maxRecDepth 100000 in
theorem lifted (os : Os) (started : os.Started) (H : Type) (enc : TypeId × Value → H) :
    ReturnsInHanded {} Try.checked os 6 .any (Rows.bucketGreedySpec.pre6 enc Try.prog Try.f6 Rows.bucketGreedyRow.domain false) (Rows.bucketGreedySpec.post enc Try.prog Try.f6 false true false false) := by
  refine returnsInHanded_of_change_sized (C := Try.checked) own started (by kernel_rfl) Try.func6
    (ChangeSpec.witness6 (enc := enc) (C := Try.checked) false ⟨#[], #[.agg #[.int .i64 0, .int .i64 0], .slice none 0 0, .slice none 0 0], []⟩ 8 (by kernel_rfl) (by kernel_rfl) (by kernel_rfl) (by kernel_rfl)) ?_
  intro W base args ds gs before hval0 hW _ hsz0 _
  have hsz : (DataW.weightsEach Try.prog (Try.f6.params.toList ++ Rows.bucketGreedySpec.plain.varTypes Try.prog) (ds ++ gs)).all (· ≤ reachBytes) = true := hsz0
  have hval : ∀ (j : Nat) t v, Try.f6.params[j]? = some t → args[j]? = some v → Value.okWide Try.prog W .any base t v := hval0
  have hW' := hW
  obtain ⟨p, q, hA0, hV, rfl, hfz, hnd⟩ := hW
  have hA : DataW.TrodAll enc Try.prog W 0 (fun _ => true) true Try.f6.params.toList args.toList ds p := hA0
  rw [Try.params6] at hA hval hsz
  obtain ⟨v0, vs0, d0, ds0, p0, q0, hargs, rfl, rfl, h0, r0⟩ := trodAll_cons hA
  obtain ⟨v1, vs1, d1, ds1, p1, q1, rfl, rfl, rfl, h1, r1⟩ := trodAll_cons r0
  obtain ⟨v2, vs2, d2, ds2, p2, q2, rfl, rfl, rfl, h2, r2⟩ := trodAll_cons r1
  obtain ⟨rfl, rfl, rfl⟩ := trodAll_nil r2
  obtain rfl : args = #[v0, v1, v2] := by cases args; simp_all
  obtain ⟨rfl, rfl⟩ := trodVars_none hV
  obtain ⟨x0, y0, rfl, rfl, rfl, wx0, wy0⟩ := openBk (hval 0 23 v0 rfl rfl) h0
  obtain ⟨a1, len1, cap1, rfl⟩ := okWide_slice Try.underlying24 (hval 1 24 v1 rfl rfl)
  have k1 := h1
  have lt1 : ∀ x ∈ p1, x.block < W.heap.size := by obtain ⟨m, hm⟩ := k1; exact DataW.trod_lt m _ _ _ hm
  obtain ⟨z1, rfl, w1⟩ := farIn h1 (fun elems spare e => by
    subst e
    have := sized_slice hsz (j := 1) (t := 24) (e := 3) rfl rfl Try.underlying24
    rw [Try.bytes3] at this
    exact this)
  obtain ⟨a2, len2, cap2, rfl⟩ := okWide_slice Try.underlying24 (hval 2 24 v2 rfl rfl)
  have k2 := h2
  have lt2 : ∀ x ∈ p2, x.block < W.heap.size := by obtain ⟨m, hm⟩ := k2; exact DataW.trod_lt m _ _ _ hm
  obtain ⟨z2, rfl, w2⟩ := farIn h2 (fun elems spare e => by
    subst e
    have := sized_slice hsz (j := 2) (t := 24) (e := 3) rfl rfl Try.underlying24
    rw [Try.bytes3] at this
    exact this)
  clear hA0 hval0 hsz0 hsz
  refine (bucketGreedy_walk x0 y0 a1 cap1 z1 a2 cap2 z2 W w1 w2).mono fun e W' ⟨he, bel⟩ => ?_
  subst he
  exact ⟨_, rfl, _, _, _, [], _, [], hW', trodAll_mk1 (shut_bool Try.underlying4 _), (trodAll_cons_mk (shutBk wx0 wy0) (trodAll_cons_mk (Below.trod laidOut (by kernel_rfl) (of_decide_eq_true (by kernel_rfl)) k1 bel lt1) (trodAll_cons_mk (Below.trod laidOut (by kernel_rfl) (of_decide_eq_true (by kernel_rfl)) k2 bel lt2) trodAll_mk0))), rfl, bel.frame _, fun h => by cases h⟩

theorem proved : Rows.BucketGreedySaid :=
  OpenClaim.holds_of_wide 6 Try.f6 rfl rfl rfl rfl rfl rfl rfl ⟨rfl, rfl, rfl, rfl, rfl⟩ rfl rfl rfl rfl rfl (by kernel_rfl) Try.func6 (by kernel_rfl)
    (of_decide_eq_true (by kernel_rfl)) (by unfold Func.isWrapper; first | (rw [if_pos (by decide +kernel)]; kernel_rfl) | (rw [if_neg (by decide +kernel)]; exact ⟨rfl, rfl⟩))
    (fun os started H enc _ => lifted os started H enc)

end Go.Proofs.Ytohfgaipalpncaa.bucketGreedy
namespace Go.Proofs.Ytohfgaipalpncaa
theorem bucketGreedy_holds : Rows.BucketGreedySaid := bucketGreedy.proved
#print axioms bucketGreedy_holds
end Go.Proofs.Ytohfgaipalpncaa
