/- PROVED: the statement ShareTells, at every input: share.Right, Share and Even answer what the document's own package answers. CONDITIONS: none. -/
import Derived.Test.YtggnhgbimkfdaaaRefShare
namespace Go.Proofs.Ytggnhgbimkfdaaa
open Go.RowKit
set_option linter.unusedVariables false

theorem nshare_no (all : Int) (a : Option Addr) (cap : Nat) (z : List Int) (w : World) (hz : Row w a z) (hr : ¬ sright z) (hl : z.length ≤ 35184372088832) :
    Calls Try.prog 13 #[.int .i64 all, .slice a z.length cap] w (Ans w []) := by
  have o1 := nright_any a cap z w hz hl
  rw [decide_eq_false hr] at o1
  generalize z.length = n at *
  go_enter Try.func13, Try.ntmps13
  go_wp2_with (go_at_call 10; refine o1.mono ?_; rintro e w1 ⟨rfl, rfl⟩; clear o1)
  go_ret
  exact ⟨none, 0, rfl, Nat.le_refl _, .inl rfl, Below.refl _ _⟩
theorem nright_n (a : Option Addr) (c n : Nat) (f : List Int) (w : World) (k : Row w a f) (e1 : f.length = n) (h : n ≤ 17592186044415) (b : Bool) (hb : decide (sright f) = b) :
    Calls Try.prog 10 #[.slice a n c] w fun e w' => e = .returned (.bool b) ∧ w' = w := by
  subst e1; subst hb
  exact nright_any a c f w k (by omega)
theorem neven_n (a : Option Addr) (c n : Nat) (f : List Int) (x y z : Int) (w : World) (k : Row w a f) (e1 : f.length = n) (h : n ≤ 17592186044415) (hv : even f = (x, y, z)) :
    Calls Try.prog 8 #[.slice a n c] w fun e w' => e = .returned (.tuple #[.agg #[.int .i64 x, .int .i64 y], .int .i64 z]) ∧ Below w.heap.size w w' := by
  subst e1
  have := neven_any a c f w k (by omega)
  rw [hv] at this
  exact this

attribute [local go_sem ↓] eqF
set_option maxHeartbeats 3200000 in
theorem tells_any (x1 : Option Addr) (c1 n m : Nat) (z T : List Int) (all x y e : Int) (b : Bool) (w : World) (r1 : Row w x1 z) (l1 : Hid (z.length = n)) (hn : n ≤ 17592186044414) (hm : m ≤ 17592186044414) (lT : Hid (T.length = m)) (he : Hid (even z = (x, y, e))) (hb : Hid (decide (sright z) = b))
    (hs : ∀ v, Row v x1 z → Calls Try.prog 12 #[.int .i64 all, .slice x1 n c1] v (AnsN v m T)) (hns : ∀ v, Row v x1 z → Calls Try.prog 13 #[.int .i64 all, .slice x1 n c1] v (AnsN v m T)) :
    Calls Try.prog 3 #[.int .i64 all, .slice x1 n c1] w fun e w' => e = .returned (.bool true) ∧ Below w.heap.size w w' := by
  have hsm := same_self x y
  have hee : (e == e) = true := beq_iff_eq.2 rfl
  have hbb : (b == b) = true := by simp
  have T1 := tok
  have T2 := tok
  have T3 := tok
  have T4 := tok
  have T5 := tok
  have T6 := tok
  have T7 := tok
  go_enter Try.func3, Try.ntmps3
  go_wp2_with (first
    | (clear T1; go_at_call 7; refine (even_n x1 _ n z x y e _ r1 l1.out (by omega) he.out).mono ?_; rintro e1 v1 ⟨rfl, b1⟩; replace r1 := (r1.kept b1).alloc (.cells #[.int .i64 x, .int .i64 y] 24); have B := balloc b1 (.cells #[.int .i64 x, .int .i64 y] 24); have F1 := Fr.new v1 _ rfl x y; clear b1)
    | (clear T2; go_at_call 8; refine (neven_n x1 _ n z x y e _ r1 l1.out (by omega) he.out).mono ?_; rintro e2 v2 ⟨rfl, b2⟩; replace r1 := (r1.kept b2).alloc (.cells #[.int .i64 x, .int .i64 y] 24); replace B := balloc (bthen B b2) (.cells #[.int .i64 x, .int .i64 y] 24); replace F1 := (F1.kept b2).alloc (.cells #[.int .i64 x, .int .i64 y] 24); have F2 := Fr.new v2 _ rfl x y; clear b2)
    | (clear T3; go_at_call 9; refine (right_n x1 _ n z _ r1 l1.out (by omega) b hb.out).mono ?_; rintro e3 v3 ⟨rfl, rfl⟩)
    | (clear T4; go_at_call 10; refine (nright_n x1 _ n z _ r1 l1.out (by omega) b hb.out).mono ?_; rintro e4 v4 ⟨rfl, rfl⟩)
    | (clear T5; go_at_call 12; refine (hs _ r1).mono ?_; rintro e5 v5 ⟨a5, c5, rfl, _, p, b5⟩; replace r1 := r1.kept b5; replace B := bthen B b5; replace F1 := F1.kept b5; replace F2 := F2.kept b5; clear b5 hs)
    | (clear T6; go_at_call 13; refine (hns _ r1).mono ?_; rintro e6 v6 ⟨a6, c6, rfl, _, p2, b6⟩; replace B := bthen B b6; replace F1 := F1.kept b6; replace F2 := F2.kept b6; replace p := p.kept b6; clear b6 hns r1)
    | (clear T7; go_at_call 11; refine (equal_n a5 a6 _ _ m m T T _ p p2 lT.out lT.out (by omega) true (eqRow _)).mono ?_; rintro e7 v7 ⟨rfl, b7⟩; replace B := bthen B b7; obtain ⟨c0, c1', f0, f1⟩ := F1.kept b7; obtain ⟨g0, g1, h0, h1⟩ := F2.kept b7; clear b7 p p2 F1 F2))
  go_ret
  exact ⟨rfl, B⟩

theorem shareTells_walk (a0 : Int) (a1 : Option Addr) (cap1 : Nat) (z1 : List Int) (w : World) (h0 : -9223372036854775808 ≤ a0 ∧ a0 ≤ 9223372036854775807) (h1 : FarIn w a1 cap1 z1) :
    Calls Try.prog 3 #[.int .i64 a0, .slice a1 z1.length cap1] w fun e w' => e = .returned (.bool true) ∧ Below w.heap.size w w' := by
  have hl := h1.2.1
  by_cases hr : sright z1
  · obtain ⟨R, hR⟩ := rounds hr (fit_lo a0)
    exact tells_any a1 cap1 z1.length z1.length z1 (outs (got z1 (fit a0) R) z1.length) a0 (even z1).1 (even z1).2.1 (even z1).2.2 _ w h1.1 rfl (by omega) (by omega) (outs_len _ _) rfl rfl
      (fun v hv => share_n a0 a1 cap1 z1.length z1 _ R v hv rfl hr hR rfl)
      (fun v hv => (nshare_yes a0 a1 cap1 z1 (got z1 (fit a0) R) v hv hr (hR.shares hr)).mono fun e w' q => q.told (outs_len _ _) rfl)
  · exact tells_any a1 cap1 z1.length 0 z1 [] a0 (even z1).1 (even z1).2.1 (even z1).2.2 _ w h1.1 rfl (by omega) (by omega) rfl rfl rfl
      (fun v hv => share_non a0 a1 cap1 z1.length z1 v hv rfl hr (by omega))
      (fun v hv => (nshare_no a0 a1 cap1 z1 v hv hr (by omega)).mono fun e w' q => q.told rfl rfl)

end Go.Proofs.Ytggnhgbimkfdaaa
namespace Go.Proofs.Ytggnhgbimkfdaaa.shareTells
open Go.ChangeShapes Go.WideShapes Go.ChangeAt Go.RowKit
set_option linter.unusedVariables false

set_option maxRecDepth 100000 in
theorem lifted (os : Os) (started : os.Started) (H : Type) (enc : TypeId × Value → H) :
    ReturnsInHanded {} Try.checked os 3 .any (Rows.shareTellsSpec.pre6 enc Try.prog Try.f3 Rows.shareTellsRow.domain false) (Rows.shareTellsSpec.post enc Try.prog Try.f3 false true false false) := by
  refine returnsInHanded_of_change_sized (C := Try.checked) own started (by kernel_rfl) Try.func3
    (ChangeSpec.witness6 (enc := enc) (C := Try.checked) false ⟨#[], #[.int .i64 0, .slice none 0 0], []⟩ 8 (by kernel_rfl) (by kernel_rfl) (by kernel_rfl) (by kernel_rfl)) ?_
  intro W base args ds gs before hval0 hW _ hsz0 _
  have hsz : (DataW.weightsEach Try.prog (Try.f3.params.toList ++ Rows.shareTellsSpec.plain.varTypes Try.prog) (ds ++ gs)).all (· ≤ reachBytes) = true := hsz0
  have hval : ∀ (j : Nat) t v, Try.f3.params[j]? = some t → args[j]? = some v → Value.okWide Try.prog W .any base t v := hval0
  have hW' := hW
  obtain ⟨p, q, hA0, hV, rfl, hfz, hnd⟩ := hW
  have hA : DataW.TrodAll enc Try.prog W 0 (fun _ => true) true Try.f3.params.toList args.toList ds p := hA0
  rw [Try.params3] at hA hval hsz
  obtain ⟨v0, vs0, d0, ds0, p0, q0, hargs, rfl, rfl, h0, r0⟩ := trodAll_cons hA
  obtain ⟨v1, vs1, d1, ds1, p1, q1, rfl, rfl, rfl, h1, r1⟩ := trodAll_cons r0
  obtain ⟨rfl, rfl, rfl⟩ := trodAll_nil r1
  obtain rfl : args = #[v0, v1] := by cases args; simp_all
  obtain ⟨rfl, rfl⟩ := trodVars_none hV
  obtain ⟨a0, rfl, rfl, rfl, w0⟩ := open_int Try.underlying3 (hval 0 3 v0 rfl rfl) h0
  obtain ⟨a1, len1, cap1, rfl⟩ := okWide_slice Try.underlying22 (hval 1 22 v1 rfl rfl)
  have k1 := h1
  have lt1 : ∀ x ∈ p1, x.block < W.heap.size := by obtain ⟨m, hm⟩ := k1; exact DataW.trod_lt m _ _ _ hm
  obtain ⟨z1, rfl, w1⟩ := farIn h1 (fun elems spare e => by
    subst e
    have := sized_slice hsz (j := 1) (t := 22) (e := 3) rfl rfl Try.underlying22
    rw [Try.bytes3] at this
    exact this)
  clear hA0 hval0 hsz0 hsz
  refine (shareTells_walk a0 a1 cap1 z1 W (fits w0) w1).mono fun e W' ⟨he, bel⟩ => ?_
  subst he
  exact ⟨_, rfl, _, _, _, [], _, [], hW', trodAll_mk1 (shut_bool Try.underlying4 _), (trodAll_cons_mk (shut_int Try.underlying3 w0) (trodAll_cons_mk (Below.trod laidOut (by kernel_rfl) (of_decide_eq_true (by kernel_rfl)) k1 bel lt1) trodAll_mk0)), rfl, bel.frame _, fun h => by cases h⟩

theorem proved : Rows.ShareTellsSaid :=
  OpenClaim.holds_of_wide 3 Try.f3 rfl rfl rfl rfl rfl rfl rfl ⟨rfl, rfl, rfl, rfl, rfl⟩ rfl rfl rfl rfl rfl (by kernel_rfl) Try.func3 (by kernel_rfl)
    (of_decide_eq_true (by kernel_rfl)) (by unfold Func.isWrapper; first | (rw [if_pos (by decide +kernel)]; kernel_rfl) | (rw [if_neg (by decide +kernel)]; exact ⟨rfl, rfl⟩))
    (fun os started H enc _ => lifted os started H enc)

end Go.Proofs.Ytggnhgbimkfdaaa.shareTells
namespace Go.Proofs.Ytggnhgbimkfdaaa
theorem shareTells_holds : Rows.ShareTellsSaid := shareTells.proved
#print axioms shareTells_holds
end Go.Proofs.Ytggnhgbimkfdaaa
