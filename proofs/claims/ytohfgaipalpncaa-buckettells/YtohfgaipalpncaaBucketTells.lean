/- PROVED: bucket.Right, Line and Keeps answer what the document says of them, at every argument. CONDITIONS: none. -/
import Derived.Test.YtohfgaipalpncaaAlive
import Derived.Test.YtohfgaipalpncaaRefKeeps
namespace Go.Proofs.Ytohfgaipalpncaa
open Go.RowKit
set_option linter.unusedVariables false

set_option maxRecDepth 100000 in
set_option maxHeartbeats 4000000 in
theorem tells_go (x0 y0 a1 : Int) (a2 : Option Addr) (cap2 n m u : Nat) (z S : List Int) (bb kb : Bool) (w : World) (r : Row w a2 z) (en : Hid (z.length = n)) (hn : n ≤ 17592186044414) (hc : Hid (n ≤ cap2)) (hu : Hid (min (max a1 0) 300 = (u : Int))) (hS : Hid (line x0 y0 u = S)) (lS : Hid (S.length = m)) (hm : m ≤ 300)
    (hbb : Hid (decide (bright x0 y0 z) = bb)) (hkb : Hid (decide (keeps x0 y0 z) = kb)) :
    Calls Try.prog 3 #[.agg #[.int .i64 x0, .int .i64 y0], .int .i64 a1, .slice a2 n cap2] w fun e w' => e = .returned (.bool true) ∧ Below w.heap.size w w' := by
  obtain ⟨w0, hw0⟩ : ∃ w0, w.alloc (.cells #[.int .i64 x0, .int .i64 y0] 23) = w0 := ⟨_, rfl⟩
  have B : Below w.heap.size w w0 := by rw [← hw0]; exact balloc (Below.refl _ _) _
  have K : Bk w0 w.heap.size x0 y0 := by rw [← hw0]; exact Bk.new w x0 y0
  replace r : Row w0 a2 z := r.kept B
  have c1 : Hid (∀ v, Row v a2 z → Calls Try.prog 9 #[.agg #[.int .i64 x0, .int .i64 y0], .slice a2 n cap2] v fun e w' => e = .returned (.bool bb) ∧ Below v.heap.size v w') := fun v k => bright_n x0 y0 a2 cap2 n z v k en.out bb hbb.out
  have c2 : Hid (∀ v, Row v a2 z → Calls Try.prog 10 #[.agg #[.int .i64 x0, .int .i64 y0], .slice a2 n cap2] v fun e w' => e = .returned (.bool bb) ∧ Below v.heap.size v w') := fun v k => by
    have := fright_any x0 y0 a2 cap2 z v k (by rw [en.out]; exact hn)
    rw [en.out, hbb.out] at this; exact this
  have c3 : Hid (∀ v, Calls Try.prog 12 #[.agg #[.int .i64 x0, .int .i64 y0], .int .i64 a1] v (AnsN v m S)) := fun v => (line_nat x0 y0 a1 u hu.out v).mono fun e w' q => q.told (by rw [hS.out, lS.out]) hS.out
  have c4 : Hid (∀ v, Calls Try.prog 13 #[.agg #[.int .i64 x0, .int .i64 y0], .int .i64 a1] v (AnsN v m S)) := fun v => (fline_nat x0 y0 a1 u hu.out v).mono fun e w' q => q.told (by rw [hS.out, lS.out]) hS.out
  have c6 : Hid (∀ v, Row v a2 z → Calls Try.prog 14 #[.agg #[.int .i64 x0, .int .i64 y0], .slice a2 n cap2] v fun e w' => e = .returned (.bool kb) ∧ Below v.heap.size v w') := fun v k => keeps_n x0 y0 a2 cap2 n z v k en.out kb hkb.out
  have c7 : Hid (∀ v, Row v a2 z → Calls Try.prog 15 #[.agg #[.int .i64 x0, .int .i64 y0], .slice a2 n cap2] v fun e w' => e = .returned (.bool kb) ∧ Below v.heap.size v w') := fun v k => by
    have := fkeeps_any x0 y0 a2 cap2 z v k (by rw [en.out]; exact hn) (by rw [en.out]; exact hc.out)
    rw [en.out, hkb.out] at this; exact this
  have T1 := tok
  have T2 := tok
  have T3 := tok
  have T4 := tok
  have T5 := tok
  have T6 := tok
  have T7 := tok
  have e1 : (bb == bb) = true := by simp
  have e2 : (kb == kb) = true := by simp
  go_enter Try.func3, Try.ntmps3
  go_wp2
  go_region_held3 (fun w' => w'.cell? ⟨w.heap.size, 0, none⟩ = some (.int .i64 x0) ∧ w'.cell? ⟨w.heap.size, 1, none⟩ = some (.int .i64 y0)) (exact ⟨K.r, K.b⟩) (first
    | (clear T1; go_at_call 9; refine (c1.out _ r.drew).mono ?_; rintro e v1 ⟨rfl, b1⟩; replace B := bthen B.drew b1; replace K := K.drew.kept b1; replace r := r.drew.kept b1; clear b1)
    | (clear T2; go_at_call 10; refine (c2.out _ r).mono ?_; rintro e v2 ⟨rfl, b2⟩; replace B := bthen B b2; replace K := K.kept b2; replace r := r.kept b2; clear b2)
    | (clear T3; go_at_call 12; refine (c3.out _).mono ?_; rintro e v3 ⟨q3, d3, rfl, _, r3, b3⟩; replace B := bthen B b3; replace K := K.kept b3; replace r := r.kept b3; clear b3)
    | (clear T4; go_at_call 13; refine (c4.out _).mono ?_; rintro e v4 ⟨q4, d4, rfl, _, r4, b4⟩; replace B := bthen B b4; replace K := K.kept b4; replace r := r.kept b4; replace r3 := r3.kept b4; clear b4)
    | (clear T5; go_at_call 11; refine (equal_n q3 q4 _ _ m m S S _ r3 r4 lS.out lS.out (by omega) (by omega) true (decide_eq_true rfl)).mono ?_; rintro e v5 ⟨rfl, b5⟩; replace B := bthen B b5; replace K := K.kept b5; replace r := r.kept b5; clear b5 r3 r4)
    | (clear T6; go_at_call 14; refine (c6.out _ r).mono ?_; rintro e v6 ⟨rfl, b6⟩; replace B := bthen B b6; replace K := K.kept b6; replace r := r.kept b6; clear b6)
    | (clear T7; go_at_call 15; refine (c7.out _ r).mono ?_; rintro e v7 ⟨rfl, b7⟩; replace B := bthen B b7; replace K := K.kept b7; replace r := r.kept b7; clear b7))
  go_wp2
  go_ret
  exact ⟨rfl, B⟩

theorem bucketTells_walk (x0 y0 a1 : Int) (a2 : Option Addr) (cap2 : Nat) (z2 : List Int) (w : World) (w1 : -9223372036854775808 ≤ a1 ∧ a1 ≤ 9223372036854775807) (h2 : FarIn w a2 cap2 z2) :
    Calls Try.prog 3 #[.agg #[.int .i64 x0, .int .i64 y0], .int .i64 a1, .slice a2 z2.length cap2] w fun e w' => e = .returned (.bool true) ∧ Below w.heap.size w w' := by
  have hl := h2.2.1
  have hx : (line x0 y0 (min (max a1 0) 300).toNat).length ≤ 300 := by
    unfold line; split
    · rw [outs_len]; omega
    · exact Nat.zero_le _
  exact tells_go x0 y0 a1 a2 cap2 _ _ (min (max a1 0) 300).toNat z2 _ _ _ w h2.1 rfl (by omega) h2.2.2.1 (by show _ = _; omega) rfl rfl hx rfl rfl

end Go.Proofs.Ytohfgaipalpncaa
namespace Go.Proofs.Ytohfgaipalpncaa.bucketTells
open Go.ChangeShapes Go.WideShapes Go.ChangeAt Go.RowKit
set_option linter.unusedVariables false

set_option maxRecDepth 100000 in
theorem lifted (os : Os) (started : os.Started) (H : Type) (enc : TypeId × Value → H) :
    ReturnsInHanded {} Try.checked os 3 .any (Rows.bucketTellsSpec.pre6 enc Try.prog Try.f3 Rows.bucketTellsRow.domain false) (Rows.bucketTellsSpec.post enc Try.prog Try.f3 false true false false) := by
  refine returnsInHanded_of_change_sized (C := Try.checked) own started (by kernel_rfl) Try.func3
    (ChangeSpec.witness6 (enc := enc) (C := Try.checked) false ⟨#[], #[.agg #[.int .i64 0, .int .i64 0], .int .i64 0, .slice none 0 0], []⟩ 8 (by kernel_rfl) (by kernel_rfl) (by kernel_rfl) (by kernel_rfl)) ?_
  intro W base args ds gs before hval0 hW _ hsz0 _
  have hsz : (DataW.weightsEach Try.prog (Try.f3.params.toList ++ Rows.bucketTellsSpec.plain.varTypes Try.prog) (ds ++ gs)).all (· ≤ reachBytes) = true := hsz0
  have hval : ∀ (j : Nat) t v, Try.f3.params[j]? = some t → args[j]? = some v → Value.okWide Try.prog W .any base t v := hval0
  have hW' := hW
  obtain ⟨p, q, hA0, hV, rfl, hfz, hnd⟩ := hW
  have hA : DataW.TrodAll enc Try.prog W 0 (fun _ => true) true Try.f3.params.toList args.toList ds p := hA0
  rw [Try.params3] at hA hval hsz
  obtain ⟨v0, vs0, d0, ds0, p0, q0, hargs, rfl, rfl, h0, r0⟩ := trodAll_cons hA
  obtain ⟨v1, vs1, d1, ds1, p1, q1, rfl, rfl, rfl, h1, r1⟩ := trodAll_cons r0
  obtain ⟨v2, vs2, d2, ds2, p2, q2, rfl, rfl, rfl, h2, r2⟩ := trodAll_cons r1
  obtain ⟨rfl, rfl, rfl⟩ := trodAll_nil r2
  obtain rfl : args = #[v0, v1, v2] := by cases args; simp_all
  obtain ⟨rfl, rfl⟩ := trodVars_none hV
  obtain ⟨x0, y0, rfl, rfl, rfl, wx0, wy0⟩ := openBk (hval 0 23 v0 rfl rfl) h0
  obtain ⟨a1, rfl, rfl, rfl, w1⟩ := open_int Try.underlying3 (hval 1 3 v1 rfl rfl) h1
  obtain ⟨a2, len2, cap2, rfl⟩ := okWide_slice Try.underlying24 (hval 2 24 v2 rfl rfl)
  have k2 := h2
  have lt2 : ∀ x ∈ p2, x.block < W.heap.size := by obtain ⟨m, hm⟩ := k2; exact DataW.trod_lt m _ _ _ hm
  obtain ⟨z2, rfl, w2⟩ := farIn h2 (fun elems spare e => by
    subst e
    have := sized_slice hsz (j := 2) (t := 24) (e := 3) rfl rfl Try.underlying24
    rw [Try.bytes3] at this
    exact this)
  clear hA0 hval0 hsz0 hsz
  refine (bucketTells_walk x0 y0 a1 a2 cap2 z2 W (fits w1) w2).mono fun e W' ⟨he, bel⟩ => ?_
  subst he
  exact ⟨_, rfl, _, _, _, [], _, [], hW', trodAll_mk1 (shut_bool Try.underlying4 _), (trodAll_cons_mk (shutBk wx0 wy0) (trodAll_cons_mk (shut_int Try.underlying3 w1) (trodAll_cons_mk (Below.trod laidOut (by kernel_rfl) (of_decide_eq_true (by kernel_rfl)) k2 bel lt2) trodAll_mk0))), rfl, bel.frame _, fun h => by cases h⟩

theorem proved : Rows.BucketTellsSaid :=
  OpenClaim.holds_of_wide 3 Try.f3 rfl rfl rfl rfl rfl rfl rfl ⟨rfl, rfl, rfl, rfl, rfl⟩ rfl rfl rfl rfl rfl (by kernel_rfl) Try.func3 (by kernel_rfl)
    (of_decide_eq_true (by kernel_rfl)) (by unfold Func.isWrapper; first | (rw [if_pos (by decide +kernel)]; kernel_rfl) | (rw [if_neg (by decide +kernel)]; exact ⟨rfl, rfl⟩))
    (fun os started H enc _ => lifted os started H enc)

end Go.Proofs.Ytohfgaipalpncaa.bucketTells
namespace Go.Proofs.Ytohfgaipalpncaa
theorem bucketTells_holds : Rows.BucketTellsSaid := bucketTells.proved
#print axioms bucketTells_holds
end Go.Proofs.Ytohfgaipalpncaa
