/- PROVED: bucket.Pass answers what the document says of it, at every argument. CONDITIONS: none. -/
import Derived.Test.YtohfgaipalpncaaAlive
import Derived.Test.YtohfgaipalpncaaRefPass
namespace Go.Proofs.Ytohfgaipalpncaa
open Go.RowKit
set_option linter.unusedVariables false

set_option maxRecDepth 100000 in
set_option maxHeartbeats 4000000 in
theorem passes_go (x0 y0 : Int) (a1 : Option Addr) (cap1 n m : Nat) (z1 S : List Int) (w : World) (r : Row w a1 z1) (en : Hid (z1.length = n)) (hn : n ≤ 17592186044414) (hS : Hid (let' x0 y0 z1 = S)) (lS : Hid (S.length = m)) (hm : m ≤ 17592186044414) :
    Calls Try.prog 4 #[.agg #[.int .i64 x0, .int .i64 y0], .slice a1 n cap1] w fun e w' => e = .returned (.bool true) ∧ Below w.heap.size w w' := by
  obtain ⟨w0, hw0⟩ : ∃ w0, w.alloc (.cells #[.int .i64 x0, .int .i64 y0] 23) = w0 := ⟨_, rfl⟩
  have B : Below w.heap.size w w0 := by rw [← hw0]; exact balloc (Below.refl _ _) _
  have K : Bk w0 w.heap.size x0 y0 := by rw [← hw0]; exact Bk.new w x0 y0
  replace r : Row w0 a1 z1 := r.kept B
  have c1 : Hid (∀ v, Row v a1 z1 → Calls Try.prog 16 #[.agg #[.int .i64 x0, .int .i64 y0], .slice a1 n cap1] v (AnsN v m S)) := fun v k => by
    have := pass_any x0 y0 a1 cap1 z1 v k
    rw [en.out] at this
    exact this.mono fun e w' q => q.told (by rw [hS.out, lS.out]) hS.out
  have c2 : Hid (∀ v, Row v a1 z1 → Calls Try.prog 17 #[.agg #[.int .i64 x0, .int .i64 y0], .slice a1 n cap1] v (AnsN v m S)) := fun v k => by
    have := fpass_any x0 y0 a1 cap1 z1 v k (by rw [en.out]; exact hn)
    rw [en.out] at this
    exact this.mono fun e w' q => q.told (by rw [hS.out, lS.out]) hS.out
  have T1 := tok
  have T2 := tok
  have T3 := tok
  go_enter Try.func4, Try.ntmps4
  go_wp2
  go_region_held3 (fun w' => w'.cell? ⟨w.heap.size, 0, none⟩ = some (.int .i64 x0) ∧ w'.cell? ⟨w.heap.size, 1, none⟩ = some (.int .i64 y0)) (exact ⟨K.r, K.b⟩) (first
    | (clear T1; go_at_call 16; refine (c1.out _ r.drew).mono ?_; rintro e v1 ⟨q1, d1, rfl, _, r1, b1⟩; replace B := bthen B.drew b1; replace K := K.drew.kept b1; replace r := r.drew.kept b1; clear b1)
    | (clear T2; go_at_call 17; refine (c2.out _ r).mono ?_; rintro e v2 ⟨q2, d2, rfl, _, r2, b2⟩; replace B := bthen B b2; replace K := K.kept b2; replace r1 := r1.kept b2; clear b2 r)
    | (clear T3; go_at_call 11; refine (equal_n q1 q2 _ _ m m S S _ r1 r2 lS.out lS.out (by omega) (by omega) true (decide_eq_true rfl)).mono ?_; rintro e v3 ⟨rfl, b3⟩; replace B := bthen B b3; replace K := K.kept b3; clear b3 r1 r2))
  go_wp2
  go_ret
  exact ⟨rfl, B⟩

theorem let_len (x y : Int) (z : List Int) : (let' x y z).length ≤ z.length := by
  unfold let'; split
  · rw [pass_len]; exact Nat.le_refl _
  · exact Nat.zero_le _

theorem bucketPasses_walk (x0 y0 : Int) (a1 : Option Addr) (cap1 : Nat) (z1 : List Int) (w : World) (h1 : FarIn w a1 cap1 z1) :
    Calls Try.prog 4 #[.agg #[.int .i64 x0, .int .i64 y0], .slice a1 z1.length cap1] w fun e w' => e = .returned (.bool true) ∧ Below w.heap.size w w' := by
  have hl := h1.2.1
  have := let_len x0 y0 z1
  exact passes_go x0 y0 a1 cap1 _ _ z1 _ w h1.1 rfl (by omega) rfl rfl (by omega)

end Go.Proofs.Ytohfgaipalpncaa
namespace Go.Proofs.Ytohfgaipalpncaa.bucketPasses
open Go.ChangeShapes Go.WideShapes Go.ChangeAt Go.RowKit
set_option linter.unusedVariables false

set_option maxRecDepth 100000 in
theorem lifted (os : Os) (started : os.Started) (H : Type) (enc : TypeId × Value → H) :
    ReturnsInHanded {} Try.checked os 4 .any (Rows.bucketPassesSpec.pre6 enc Try.prog Try.f4 Rows.bucketPassesRow.domain false) (Rows.bucketPassesSpec.post enc Try.prog Try.f4 false true false false) := by
  refine returnsInHanded_of_change_sized (C := Try.checked) own started (by kernel_rfl) Try.func4
    (ChangeSpec.witness6 (enc := enc) (C := Try.checked) false ⟨#[], #[.agg #[.int .i64 0, .int .i64 0], .slice none 0 0], []⟩ 8 (by kernel_rfl) (by kernel_rfl) (by kernel_rfl) (by kernel_rfl)) ?_
  intro W base args ds gs before hval0 hW _ hsz0 _
  have hsz : (DataW.weightsEach Try.prog (Try.f4.params.toList ++ Rows.bucketPassesSpec.plain.varTypes Try.prog) (ds ++ gs)).all (· ≤ reachBytes) = true := hsz0
  have hval : ∀ (j : Nat) t v, Try.f4.params[j]? = some t → args[j]? = some v → Value.okWide Try.prog W .any base t v := hval0
  have hW' := hW
  obtain ⟨p, q, hA0, hV, rfl, hfz, hnd⟩ := hW
  have hA : DataW.TrodAll enc Try.prog W 0 (fun _ => true) true Try.f4.params.toList args.toList ds p := hA0
  rw [Try.params4] at hA hval hsz
  obtain ⟨v0, vs0, d0, ds0, p0, q0, hargs, rfl, rfl, h0, r0⟩ := trodAll_cons hA
  obtain ⟨v1, vs1, d1, ds1, p1, q1, rfl, rfl, rfl, h1, r1⟩ := trodAll_cons r0
  obtain ⟨rfl, rfl, rfl⟩ := trodAll_nil r1
  obtain rfl : args = #[v0, v1] := by cases args; simp_all
  obtain ⟨rfl, rfl⟩ := trodVars_none hV
  obtain ⟨x0, y0, rfl, rfl, rfl, wx0, wy0⟩ := openBk (hval 0 23 v0 rfl rfl) h0
  obtain ⟨a1, len1, cap1, rfl⟩ := okWide_slice Try.underlying24 (hval 1 24 v1 rfl rfl)
  have k1 := h1
  have lt1 : ∀ x ∈ p1, x.block < W.heap.size := by obtain ⟨m, hm⟩ := k1; exact DataW.trod_lt m _ _ _ hm
  obtain ⟨z1, rfl, w1⟩ := farIn h1 (fun elems spare e => by
    subst e
    have := sized_slice hsz (j := 1) (t := 24) (e := 3) rfl rfl Try.underlying24
    rw [Try.bytes3] at this
    exact this)
  clear hA0 hval0 hsz0 hsz
  refine (bucketPasses_walk x0 y0 a1 cap1 z1 W w1).mono fun e W' ⟨he, bel⟩ => ?_
  subst he
  exact ⟨_, rfl, _, _, _, [], _, [], hW', trodAll_mk1 (shut_bool Try.underlying4 _), (trodAll_cons_mk (shutBk wx0 wy0) (trodAll_cons_mk (Below.trod laidOut (by kernel_rfl) (of_decide_eq_true (by kernel_rfl)) k1 bel lt1) trodAll_mk0)), rfl, bel.frame _, fun h => by cases h⟩

theorem proved : Rows.BucketPassesSaid :=
  OpenClaim.holds_of_wide 4 Try.f4 rfl rfl rfl rfl rfl rfl rfl ⟨rfl, rfl, rfl, rfl, rfl⟩ rfl rfl rfl rfl rfl (by kernel_rfl) Try.func4 (by kernel_rfl)
    (of_decide_eq_true (by kernel_rfl)) (by unfold Func.isWrapper; first | (rw [if_pos (by decide +kernel)]; kernel_rfl) | (rw [if_neg (by decide +kernel)]; exact ⟨rfl, rfl⟩))
    (fun os started H enc _ => lifted os started H enc)

end Go.Proofs.Ytohfgaipalpncaa.bucketPasses
namespace Go.Proofs.Ytohfgaipalpncaa
theorem bucketPasses_holds : Rows.BucketPassesSaid := bucketPasses.proved
#print axioms bucketPasses_holds
end Go.Proofs.Ytohfgaipalpncaa
