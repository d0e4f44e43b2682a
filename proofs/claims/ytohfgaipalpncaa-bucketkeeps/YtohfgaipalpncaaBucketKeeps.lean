/- PROVED: what a bucket lets through keeps to it; nothing that waits is lost, and nothing goes ahead of its time; what keeps to it goes at once. CONDITIONS: none. -/
import Derived.Test.YtohfgaipalpncaaAlive
namespace Go.Proofs.Ytohfgaipalpncaa
open Go.RowKit
set_option linter.unusedVariables false

theorem pass_not (R B : Int) (a : Option Addr) (c n : Nat) (f : List Int) (h : ¬ bright R B f) (w : World) (k : Row w a f) (e1 : f.length = n) :
    Calls Try.prog 16 #[.agg #[.int .i64 R, .int .i64 B], .slice a n c] w (AnsN w 0 []) := by
  subst e1
  refine (pass_any R B a c f w k).mono fun e w' q => ?_
  have hl : let' R B f = [] := by unfold let'; rw [if_neg h]
  rw [hl] at q
  exact q

set_option maxRecDepth 100000 in
set_option maxHeartbeats 4000000 in
theorem keeps_go2 (x0 y0 : Int) (a1 : Option Addr) (cap1 n : Nat) (z1 P A C : List Int) (bb : Bool) (w : World) (r : Row w a1 z1) (en : Hid (z1.length = n)) (hb : Hid (bright x0 y0 z1)) (hn : n < 300)
    (hP : Hid (pass x0 y0 z1 = P)) (lP : Hid (P.length = n)) (hC : Hid (of P = C)) (lC : Hid (C.length = n + 1)) (hA : Hid (of z1 = A)) (lA : Hid (A.length = n + 1)) (hk : Hid (decide (keeps x0 y0 P) = true)) (hw : Hid (decide (below C A) = true))
    (h1 : Hid (decide (keeps x0 y0 z1) = bb)) (h2 : Hid (decide (P = z1) = bb)) :
    Calls Try.prog 5 #[.agg #[.int .i64 x0, .int .i64 y0], .slice a1 n cap1] w fun e w' => e = .returned (.bool true) ∧ Below w.heap.size w w' := by
  obtain ⟨w0, hw0⟩ : ∃ w0, w.alloc (.cells #[.int .i64 x0, .int .i64 y0] 23) = w0 := ⟨_, rfl⟩
  have B : Below w.heap.size w w0 := by rw [← hw0]; exact balloc (Below.refl _ _) _
  have K : Bk w0 w.heap.size x0 y0 := by rw [← hw0]; exact Bk.new w x0 y0
  replace r : Row w0 a1 z1 := r.kept B
  have hnn : ((n : Int) == (n : Int)) = true := by simp
  have T1 := tok
  have T2 := tok
  have T3 := tok
  have T4 := tok
  have T5 := tok
  have T6 := tok
  have T7 := tok
  have T8 := tok
  have T9 := tok
  cases bb with
  | true =>
    go_enter Try.func5, Try.ntmps5
    go_wp2_with (first
      | (clear T1; go_at_call 18; refine (alive_any _).mono ?_; rintro e v1 ⟨rfl, b1⟩; replace B := bthen B b1; replace K := K.kept b1; replace r := r.kept b1; have cr := K.r; have cb := K.b; clear b1)
      | (clear T2; go_at_call 16; refine (pass_r x0 y0 a1 _ n z1 P hb.out hP.out _ r en.out).mono ?_; rintro e v2 ⟨a2, c2, rfl, _, r2, b2⟩; replace B := bthen B b2; replace K := K.kept b2; replace r := r.kept b2; clear cr cb b2; have cr := K.r; have cb := K.b)
      | (clear T3; go_at_call 9; refine (bright_n x0 y0 a1 _ n z1 _ r en.out true (decide_eq_true hb.out)).mono ?_; rintro e v3 ⟨rfl, b3⟩; replace B := bthen B b3; replace K := K.kept b3; replace r := r.kept b3; replace r2 := r2.kept b3; clear cr cb b3; have cr := K.r; have cb := K.b)
      | (clear T4; go_at_call 14; refine (keeps_n x0 y0 a2 _ n P _ r2 lP.out true hk.out).mono ?_; rintro e v4 ⟨rfl, b4⟩; replace B := bthen B b4; replace K := K.kept b4; replace r := r.kept b4; replace r2 := r2.kept b4; clear cr cb b4; have cr := K.r; have cb := K.b)
      | (clear T5; go_at_call 20; refine (of_r a2 _ n P C hC.out _ r2 lP.out (by omega)).mono ?_; rintro e v5 ⟨a5, c5, rfl, _, r5, b5⟩; replace B := bthen B b5; replace K := K.kept b5; replace r := r.kept b5; replace r2 := r2.kept b5; clear cr cb b5)
      | (clear T6; go_at_call 20; refine (of_r a1 _ n z1 A hA.out _ r en.out (by omega)).mono ?_; rintro e v6 ⟨a6, c6, rfl, _, r6, b6⟩; replace B := bthen B b6; replace K := K.kept b6; replace r := r.kept b6; replace r2 := r2.kept b6; replace r5 := r5.kept b6; clear b6)
      | (clear T7; go_at_call 19; refine (within_n a5 a6 _ _ (n + 1) (n + 1) C A _ r5 r6 lC.out lA.out (by omega) (by omega) true hw.out).mono ?_; rintro e v7 ⟨rfl, b7⟩; replace B := bthen B b7; replace K := K.kept b7; replace r := r.kept b7; replace r2 := r2.kept b7; clear b7 r5 r6; have cr := K.r; have cb := K.b)
      | (clear T8; go_at_call 14; refine (keeps_n x0 y0 a1 _ n z1 _ r en.out _ h1.out).mono ?_; rintro e v8 ⟨rfl, b8⟩; replace B := bthen B b8; replace K := K.kept b8; replace r := r.kept b8; replace r2 := r2.kept b8; clear cr cb b8)
      | (clear T9; go_at_call 11; refine (equal_n a2 a1 _ _ n n P z1 _ r2 r lP.out en.out (by omega) (by omega) _ h2.out).mono ?_; rintro e v9 ⟨rfl, b9⟩; replace B := bthen B b9; clear b9 r r2 K))
    go_ret
    exact ⟨rfl, B⟩
  | false =>
    go_enter Try.func5, Try.ntmps5
    go_wp2_with (first
      | (clear T1; go_at_call 18; refine (alive_any _).mono ?_; rintro e v1 ⟨rfl, b1⟩; replace B := bthen B b1; replace K := K.kept b1; replace r := r.kept b1; have cr := K.r; have cb := K.b; clear b1)
      | (clear T2; go_at_call 16; refine (pass_r x0 y0 a1 _ n z1 P hb.out hP.out _ r en.out).mono ?_; rintro e v2 ⟨a2, c2, rfl, _, r2, b2⟩; replace B := bthen B b2; replace K := K.kept b2; replace r := r.kept b2; clear cr cb b2; have cr := K.r; have cb := K.b)
      | (clear T3; go_at_call 9; refine (bright_n x0 y0 a1 _ n z1 _ r en.out true (decide_eq_true hb.out)).mono ?_; rintro e v3 ⟨rfl, b3⟩; replace B := bthen B b3; replace K := K.kept b3; replace r := r.kept b3; replace r2 := r2.kept b3; clear cr cb b3; have cr := K.r; have cb := K.b)
      | (clear T4; go_at_call 14; refine (keeps_n x0 y0 a2 _ n P _ r2 lP.out true hk.out).mono ?_; rintro e v4 ⟨rfl, b4⟩; replace B := bthen B b4; replace K := K.kept b4; replace r := r.kept b4; replace r2 := r2.kept b4; clear cr cb b4; have cr := K.r; have cb := K.b)
      | (clear T5; go_at_call 20; refine (of_r a2 _ n P C hC.out _ r2 lP.out (by omega)).mono ?_; rintro e v5 ⟨a5, c5, rfl, _, r5, b5⟩; replace B := bthen B b5; replace K := K.kept b5; replace r := r.kept b5; replace r2 := r2.kept b5; clear cr cb b5)
      | (clear T6; go_at_call 20; refine (of_r a1 _ n z1 A hA.out _ r en.out (by omega)).mono ?_; rintro e v6 ⟨a6, c6, rfl, _, r6, b6⟩; replace B := bthen B b6; replace K := K.kept b6; replace r := r.kept b6; replace r2 := r2.kept b6; replace r5 := r5.kept b6; clear b6)
      | (clear T7; go_at_call 19; refine (within_n a5 a6 _ _ (n + 1) (n + 1) C A _ r5 r6 lC.out lA.out (by omega) (by omega) true hw.out).mono ?_; rintro e v7 ⟨rfl, b7⟩; replace B := bthen B b7; replace K := K.kept b7; replace r := r.kept b7; replace r2 := r2.kept b7; clear b7 r5 r6; have cr := K.r; have cb := K.b)
      | (clear T8; go_at_call 14; refine (keeps_n x0 y0 a1 _ n z1 _ r en.out _ h1.out).mono ?_; rintro e v8 ⟨rfl, b8⟩; replace B := bthen B b8; replace K := K.kept b8; replace r := r.kept b8; replace r2 := r2.kept b8; clear cr cb b8)
      | (clear T9; go_at_call 11; refine (equal_n a2 a1 _ _ n n P z1 _ r2 r lP.out en.out (by omega) (by omega) _ h2.out).mono ?_; rintro e v9 ⟨rfl, b9⟩; replace B := bthen B b9; clear b9 r r2 K))
    go_ret
    exact ⟨rfl, B⟩

set_option maxHeartbeats 800000 in
theorem bucketKeeps_walk (x0 y0 : Int) (a1 : Option Addr) (cap1 : Nat) (z1 : List Int) (w : World) (h1 : FarIn w a1 cap1 z1) :
    Calls Try.prog 5 #[.agg #[.int .i64 x0, .int .i64 y0], .slice a1 z1.length cap1] w fun e w' => e = .returned (.bool true) ∧ Below w.heap.size w w' := by
  by_cases h : bright x0 y0 z1
  · refine keeps_go2 x0 y0 a1 cap1 z1.length z1 _ _ _ _ w h1.1 rfl h h.2.2.1 rfl (pass_len _ _ _) rfl (by show _ = _; rw [of_len, pass_len]) rfl (of_len _) (decide_eq_true (pass_keeps h)) (decide_eq_true (pass_below h)) rfl ?_
    show _ = _
    rw [Bool.eq_iff_iff]; simp only [decide_eq_true_eq]; exact (pass_self h).symm
  · obtain ⟨w0, hw0⟩ : ∃ w0, w.alloc (.cells #[.int .i64 x0, .int .i64 y0] 23) = w0 := ⟨_, rfl⟩
    have B : Below w.heap.size w w0 := by rw [← hw0]; exact balloc (Below.refl _ _) _
    have K : Bk w0 w.heap.size x0 y0 := by rw [← hw0]; exact Bk.new w x0 y0
    have r : Row w0 a1 z1 := h1.1.kept B
    have hd := decide_eq_false h
    replace hd : Hid _ := hd
    have hh : Hid (¬ bright x0 y0 z1) := h
    clear h h1
    obtain ⟨n, en⟩ : ∃ n, z1.length = n := ⟨_, rfl⟩
    rw [en]
    replace en : Hid _ := en
    have T1 := tok
    have T2 := tok
    have T3 := tok
    go_enter Try.func5, Try.ntmps5
    go_wp2_with (first
      | (clear T1; go_at_call 18; refine (alive_any _).mono ?_; rintro e v1 ⟨rfl, b1⟩; replace B := bthen B b1; replace K := K.kept b1; replace r := r.kept b1; have cr := K.r; have cb := K.b; clear b1)
      | (clear T2; go_at_call 16; refine (pass_not x0 y0 a1 _ n z1 hh.out _ r en.out).mono ?_; rintro e v2 ⟨a2, c2, rfl, _, r2, b2⟩; replace B := bthen B b2; replace K := K.kept b2; replace r := r.kept b2; clear cr cb b2; have cr := K.r; have cb := K.b)
      | (clear T3; go_at_call 9; refine (bright_n x0 y0 a1 _ n z1 _ r en.out false hd.out).mono ?_; rintro e v3 ⟨rfl, b3⟩; replace B := bthen B b3; clear cr cb b3))
    go_ret
    exact ⟨rfl, B⟩

end Go.Proofs.Ytohfgaipalpncaa
namespace Go.Proofs.Ytohfgaipalpncaa.bucketKeeps
open Go.ChangeShapes Go.WideShapes Go.ChangeAt Go.RowKit
set_option linter.unusedVariables false

set_option maxRecDepth 100000 in
theorem lifted (os : Os) (started : os.Started) (H : Type) (enc : TypeId × Value → H) :
    ReturnsInHanded {} Try.checked os 5 .any (Rows.bucketKeepsSpec.pre6 enc Try.prog Try.f5 Rows.bucketKeepsRow.domain false) (Rows.bucketKeepsSpec.post enc Try.prog Try.f5 false true false false) := by
  refine returnsInHanded_of_change_sized (C := Try.checked) own started (by kernel_rfl) Try.func5
    (ChangeSpec.witness6 (enc := enc) (C := Try.checked) false ⟨#[], #[.agg #[.int .i64 0, .int .i64 0], .slice none 0 0], []⟩ 8 (by kernel_rfl) (by kernel_rfl) (by kernel_rfl) (by kernel_rfl)) ?_
  intro W base args ds gs before hval0 hW _ hsz0 _
  have hsz : (DataW.weightsEach Try.prog (Try.f5.params.toList ++ Rows.bucketKeepsSpec.plain.varTypes Try.prog) (ds ++ gs)).all (· ≤ reachBytes) = true := hsz0
  have hval : ∀ (j : Nat) t v, Try.f5.params[j]? = some t → args[j]? = some v → Value.okWide Try.prog W .any base t v := hval0
  have hW' := hW
  obtain ⟨p, q, hA0, hV, rfl, hfz, hnd⟩ := hW
  have hA : DataW.TrodAll enc Try.prog W 0 (fun _ => true) true Try.f5.params.toList args.toList ds p := hA0
  rw [Try.params5] at hA hval hsz
  obtain ⟨v0, vs0, d0, ds0, p0, q0, hargs, rfl, rfl, h0, r0⟩ := trodAll_cons hA
  obtain ⟨v1, vs1, d1, ds1, p1, q1, rfl, rfl, rfl, h1, r1⟩ := trodAll_cons r0
  obtain ⟨rfl, rfl, rfl⟩ := trodAll_nil r1
  obtain rfl : args = #[v0, v1] := by cases args; simp_all
  obtain ⟨rfl, rfl⟩ := trodVars_none hV
  obtain ⟨x0, y0, rfl, rfl, rfl, wx0, wy0⟩ := openBk (hval 0 23 v0 rfl rfl) h0
  obtain ⟨a1, len1, cap1, rfl⟩ := okWide_slice Try.underlying24 (hval 1 24 v1 rfl rfl)
  have k1 := h1
  have lt1 : ∀ x ∈ p1, x.block < W.heap.size := by obtain ⟨m, hm⟩ := k1; exact DataW.trod_lt m _ _ _ hm
  obtain ⟨z1, rfl, w1⟩ := farIn h1 (fun elems spare e => by
    subst e
    have := sized_slice hsz (j := 1) (t := 24) (e := 3) rfl rfl Try.underlying24
    rw [Try.bytes3] at this
    exact this)
  clear hA0 hval0 hsz0 hsz
  refine (bucketKeeps_walk x0 y0 a1 cap1 z1 W w1).mono fun e W' ⟨he, bel⟩ => ?_
  subst he
  exact ⟨_, rfl, _, _, _, [], _, [], hW', trodAll_mk1 (shut_bool Try.underlying4 _), (trodAll_cons_mk (shutBk wx0 wy0) (trodAll_cons_mk (Below.trod laidOut (by kernel_rfl) (of_decide_eq_true (by kernel_rfl)) k1 bel lt1) trodAll_mk0)), rfl, bel.frame _, fun h => by cases h⟩

theorem proved : Rows.BucketKeepsSaid :=
  OpenClaim.holds_of_wide 5 Try.f5 rfl rfl rfl rfl rfl rfl rfl ⟨rfl, rfl, rfl, rfl, rfl⟩ rfl rfl rfl rfl rfl (by kernel_rfl) Try.func5 (by kernel_rfl)
    (of_decide_eq_true (by kernel_rfl)) (by unfold Func.isWrapper; first | (rw [if_pos (by decide +kernel)]; kernel_rfl) | (rw [if_neg (by decide +kernel)]; exact ⟨rfl, rfl⟩))
    (fun os started H enc _ => lifted os started H enc)

end Go.Proofs.Ytohfgaipalpncaa.bucketKeeps
namespace Go.Proofs.Ytohfgaipalpncaa
theorem bucketKeeps_holds : Rows.BucketKeepsSaid := bucketKeeps.proved
#print axioms bucketKeeps_holds
end Go.Proofs.Ytohfgaipalpncaa
