/- PROVED: BoundDelay, at every size. CONDITIONS: none. -/
import Derived.Test.YtmijlmidlddcpaaAlive
import Derived.Test.YtmijlmidlddcpaaPrem
namespace Go.Proofs.Ytmijlmidlddcpaa
open Go.RowKit
set_option linter.unusedVariables false

/-- the four steps ahead of the loop -/
theorem sorted_n (a : Option Addr) (c n : Nat) (f : List Int) (w : World) (k : Row w a f) (e1 : f.length = n) (h0 : 0 < n) (h : n ≤ 17592186044416) (b : Bool) (hb : decide (up f) = b) :
    Calls Try.prog 28 #[.slice a n c] w fun e w' => e = .returned (.bool b) ∧ Below w.heap.size w w' := by
  subst e1; subst hb
  obtain ⟨bl, o, rfl, hc⟩ := k.at h0
  exact (sorted_any bl o c f w hc h0 h).mono fun _ _ ⟨he, q, hw⟩ => ⟨he, hw ▸ below_drewN (Below.refl _ _) q⟩

set_option maxHeartbeats 1600000 in
theorem delay_no (x0 x1 x2 x3 : Option Addr) (c0 c1 c2 c3 n0 n1 n2 n3 : Nat) (i o r s : List Int) (w : World) (r0 : Row w x0 i) (r1 : Row w x1 o) (r2 : Row w x2 r) (r3 : Row w x3 s)
    (l0 : Hid (i.length = n0)) (l1 : Hid (o.length = n1)) (l2 : Hid (r.length = n2)) (l3 : Hid (s.length = n3)) (hn : n0 ≤ 17592186044414) (hn1 : n1 ≤ 17592186044414) (hn2 : n2 ≤ 17592186044414) (hn3 : n3 ≤ 17592186044414) (hc : n0 ≤ c0) (hb : Hid (decide (prem i o r s) = false)) (F : Nat) (hF : Hid (far r s = F)) (ok : Bool) (hok : Hid (decide (reach r s) = ok)) :
    Calls Try.prog 6 #[.slice x0 n0 c0, .slice x1 n1 c1, .slice x2 n2 c2, .slice x3 n3 c3] w fun e w' => e = .returned (.bool true) ∧ Below w.heap.size w w' := by
  have B : Below w.heap.size w w := Below.refl _ _
  have T1 := tok
  have T2 := tok
  have T3 := tok
  go_enter Try.func6, Try.ntmps6
  go_wp2_with (first
    | (clear T1; go_at_call 17; refine (alive_any _).mono ?_; rintro e v1 ⟨rfl, b1⟩; replace B := bthen B b1; replace r0 := r0.kept b1; replace r1 := r1.kept b1; replace r2 := r2.kept b1; replace r3 := r3.kept b1; clear b1)
    | (clear T2; go_at_call 8; refine (far_n x2 x3 _ _ n2 n3 r s _ r2 r3 l2.out l3.out (by omega) (by omega) F hF.out ok hok.out).mono ?_; rintro e v2 ⟨rfl, b2⟩; replace B := bthen B b2; replace r0 := r0.kept b2; replace r1 := r1.kept b2; replace r2 := r2.kept b2; replace r3 := r3.kept b2; clear b2)
    | (clear T3; go_at_call 27; refine (premise_any x0 x1 x2 x3 _ _ _ _ n0 n1 n2 n3 i o r s _ r0 r1 r2 r3 l0.out l1.out l2.out l3.out hn hn1 hc false hb.out).mono ?_; rintro e v3 ⟨rfl, b3⟩; replace B := bthen B b3; clear b3))
  go_ret
  exact ⟨rfl, B⟩

set_option maxHeartbeats 1600000 in
theorem delay_never2 (x0 x1 x2 x3 : Option Addr) (c0 c1 c2 c3 n : Nat) (i o r s : List Int) (w : World) (r0 : Row w x0 i) (r1 : Row w x1 o) (r2 : Row w x2 r) (r3 : Row w x3 s)
    (l0 : Hid (i.length = n)) (l1 : Hid (o.length = n)) (l2 : Hid (r.length = n)) (l3 : Hid (s.length = n)) (hn : n ≤ 17592186044414) (hc : n ≤ c0) (hb : Hid (decide (prem i o r s) = true)) (F : Nat) (hF : Hid (far r s = F)) (hok : Hid (decide (reach r s) = false)) :
    Calls Try.prog 6 #[.slice x0 n c0, .slice x1 n c1, .slice x2 n c2, .slice x3 n c3] w fun e w' => e = .returned (.bool true) ∧ Below w.heap.size w w' := by
  have B : Below w.heap.size w w := Below.refl _ _
  have T1 := tok
  have T2 := tok
  have T3 := tok
  go_enter Try.func6, Try.ntmps6
  go_wp2_with (first
    | (clear T1; go_at_call 17; refine (alive_any _).mono ?_; rintro e v1 ⟨rfl, b1⟩; replace B := bthen B b1; replace r0 := r0.kept b1; replace r1 := r1.kept b1; replace r2 := r2.kept b1; replace r3 := r3.kept b1; clear b1)
    | (clear T2; go_at_call 8; refine (far_n x2 x3 _ _ n n r s _ r2 r3 l2.out l3.out (by omega) (by omega) F hF.out false hok.out).mono ?_; rintro e v2 ⟨rfl, b2⟩; replace B := bthen B b2; replace r0 := r0.kept b2; replace r1 := r1.kept b2; replace r2 := r2.kept b2; replace r3 := r3.kept b2; clear b2)
    | (clear T3; go_at_call 27; refine (premise_any x0 x1 x2 x3 _ _ _ _ n n n n i o r s _ r0 r1 r2 r3 l0.out l1.out l2.out l3.out hn hn hc true hb.out).mono ?_; rintro e v3 ⟨rfl, b3⟩; replace B := bthen B b3; clear b3))
  go_ret
  exact ⟨rfl, B⟩

set_option maxHeartbeats 1600000 in
theorem delay_falls (x0 x1 x2 x3 : Option Addr) (c0 c1 c2 c3 n : Nat) (i o r s : List Int) (w : World) (r0 : Row w x0 i) (r1 : Row w x1 o) (r2 : Row w x2 r) (r3 : Row w x3 s)
    (l0 : Hid (i.length = n)) (l1 : Hid (o.length = n)) (l2 : Hid (r.length = n)) (l3 : Hid (s.length = n)) (hp : 0 < n) (hn : n ≤ 17592186044414) (hc : n ≤ c0) (hb : Hid (decide (prem i o r s) = true)) (F : Nat) (hF : Hid (far r s = F)) (hok : Hid (decide (reach r s) = true)) (hs : Hid (decide (up s) = false)) :
    Calls Try.prog 6 #[.slice x0 n c0, .slice x1 n c1, .slice x2 n c2, .slice x3 n c3] w fun e w' => e = .returned (.bool true) ∧ Below w.heap.size w w' := by
  have B : Below w.heap.size w w := Below.refl _ _
  have T1 := tok
  have T2 := tok
  have T3 := tok
  have T4 := tok
  go_enter Try.func6, Try.ntmps6
  go_wp2_with (first
    | (clear T1; go_at_call 17; refine (alive_any _).mono ?_; rintro e v1 ⟨rfl, b1⟩; replace B := bthen B b1; replace r0 := r0.kept b1; replace r1 := r1.kept b1; replace r2 := r2.kept b1; replace r3 := r3.kept b1; clear b1)
    | (clear T2; go_at_call 8; refine (far_n x2 x3 _ _ n n r s _ r2 r3 l2.out l3.out (by omega) (by omega) F hF.out true hok.out).mono ?_; rintro e v2 ⟨rfl, b2⟩; replace B := bthen B b2; replace r0 := r0.kept b2; replace r1 := r1.kept b2; replace r2 := r2.kept b2; replace r3 := r3.kept b2; clear b2)
    | (clear T3; go_at_call 27; refine (premise_any x0 x1 x2 x3 _ _ _ _ n n n n i o r s _ r0 r1 r2 r3 l0.out l1.out l2.out l3.out hn hn hc true hb.out).mono ?_; rintro e v3 ⟨rfl, b3⟩; replace B := bthen B b3; replace r3 := r3.kept b3; clear b3)
    | (clear T4; go_at_call 28; refine (sorted_n x3 _ n s _ r3 l3.out hp (by omega) false hs.out).mono ?_; rintro e v4 ⟨rfl, b4⟩; replace B := bthen B b4; clear b4))
  go_ret
  exact ⟨rfl, B⟩

set_option maxHeartbeats 3200000 in
theorem delay_go (b0 o0 b1 o1 : Nat) (x2 x3 : Option Addr) (c0 c1 c2 c3 n : Nat) (i o r s : List Int) (w : World) (r0 : Row w (some ⟨b0, o0, none⟩) i) (r1 : Row w (some ⟨b1, o1, none⟩) o) (r2 : Row w x2 r) (r3 : Row w x3 s)
    (l0 : Hid (i.length = n)) (l1 : Hid (o.length = n)) (l2 : Hid (r.length = n)) (l3 : Hid (s.length = n)) (hp : 0 < n) (hn : n ≤ 17592186044414) (hc : n ≤ c0) (hb : Hid (decide (prem i o r s) = true)) (F : Nat) (hF : Hid (far r s = F)) (hFn : F ≤ n) (hok : Hid (decide (reach r s) = true)) (hs : Hid (decide (up s) = true))
    (hle : Hid (∀ t, t + F < n → i.getD t 0 ≤ o.getD (t + F) 0)) :
    Calls Try.prog 6 #[.slice (some ⟨b0, o0, none⟩) n c0, .slice (some ⟨b1, o1, none⟩) n c1, .slice x2 n c2, .slice x3 n c3] w fun e w' => e = .returned (.bool true) ∧ Below w.heap.size w w' := by
  have B : Below w.heap.size w w := Below.refl _ _
  have T1 := tok
  have T2 := tok
  have T3 := tok
  have T4 := tok
  go_enter Try.func6, Try.ntmps6
  go_wp2_with (first
    | (clear T1; go_at_call 17; refine (alive_any _).mono ?_; rintro e v1 ⟨rfl, b1⟩; replace B := bthen B b1; replace r0 := r0.kept b1; replace r1 := r1.kept b1; replace r2 := r2.kept b1; replace r3 := r3.kept b1; clear b1)
    | (clear T2; go_at_call 8; refine (far_n x2 x3 _ _ n n r s _ r2 r3 l2.out l3.out (by omega) (by omega) F hF.out true hok.out).mono ?_; rintro e v2 ⟨rfl, b2⟩; replace B := bthen B b2; replace r0 := r0.kept b2; replace r1 := r1.kept b2; replace r2 := r2.kept b2; replace r3 := r3.kept b2; clear b2)
    | (clear T3; go_at_call 27; refine (premise_any _ _ x2 x3 _ _ _ _ n n n n i o r s _ r0 r1 r2 r3 l0.out l1.out l2.out l3.out hn hn hc true hb.out).mono ?_; rintro e v3 ⟨rfl, b3⟩; replace B := bthen B b3; replace r0 := r0.kept b3; replace r1 := r1.kept b3; replace r3 := r3.kept b3; clear b3)
    | (clear T4; go_at_call 28; refine (sorted_n x3 _ n s _ r3 l3.out hp (by omega) true hs.out).mono ?_; rintro e v4 ⟨rfl, b4⟩; replace B := bthen B b4; replace r0 := r0.kept b4; replace r1 := r1.kept b4; clear b4))
  obtain ⟨_, _, e0, k0⟩ := r0.at (by rw [l0.out]; exact hp)
  obtain ⟨_, _, e1, k1⟩ := r1.at (by rw [l1.out]; exact hp)
  injection e0 with e0; injection e0 with e0 e0' _
  injection e1 with e1; injection e1 with e1 e1' _
  subst e0 e0' e1 e1'
  replace k0 : Hid _ := k0
  replace k1 : Hid _ := k1
  clear r0 r1 r2 r3
  go_loopw [38] (fun j wr => ∃ k : Nat, k ≤ n ∧ j = .int .i64 k ∧ v4 = wr) (fun j _ => n - (intOf j).toNat)
  case atStart => exact ⟨0, Nat.zero_le _, rfl, rfl⟩
  case round =>
    obtain ⟨k, hk, rfl, rfl⟩ := hrel
    by_cases hlt : k < n
    · have cx := k0.out k (by rw [l0.out]; exact hlt)
      have hkI : (k : Int) < n := by omega
      obtain ⟨p, hpp⟩ : ∃ p, k + F = p := ⟨_, rfl⟩
      have hpi : (k : Int) + F = (p : Int) := by omega
      by_cases hlt2 : p < n
      · have cy := k1.out p (by rw [l1.out]; exact hlt2)
        have hxy := hle.out k (by omega)
        rw [hpp] at hxy
        have hpI : (p : Int) < n := by omega
        generalize i.getD k 0 = x at cx hxy
        generalize o.getD p 0 = y at cy hxy
        clear hpp
        go_wp2
        go_roundw
        case rel => exact ⟨k + 1, by omega, by go_num, by first | rfl | trivial⟩
        case measure => simp [intOf]; omega
      · have hpI : ¬ (p : Int) < n := by omega
        generalize i.getD k 0 = x at cx
        clear hpp
        go_wp2
        go_roundw
        case rel => exact ⟨k + 1, by omega, by go_num, by first | rfl | trivial⟩
        case measure => simp [intOf]; omega
    · obtain rfl : k = n := by omega
      go_wp2
      go_ret
      exact ⟨rfl, B⟩

theorem far_le (r s : List Int) : far r s ≤ s.length := by
  unfold far
  split
  · refine wst_le _ _ _ fun t ht => ?_
    have := fd_le (r.getD t 0) s t
    unfold fdt; omega
  · exact Nat.zero_le _

theorem boundDelay_walk (a0 : Option Addr) (cap0 : Nat) (z0 : List Int) (a1 : Option Addr) (cap1 : Nat) (z1 : List Int) (a2 : Option Addr) (cap2 : Nat) (z2 : List Int) (a3 : Option Addr) (cap3 : Nat) (z3 : List Int) (w : World) (h0 : FarIn w a0 cap0 z0) (h1 : FarIn w a1 cap1 z1) (h2 : FarIn w a2 cap2 z2) (h3 : FarIn w a3 cap3 z3) :
    Calls Try.prog 6 #[.slice a0 z0.length cap0, .slice a1 z1.length cap1, .slice a2 z2.length cap2, .slice a3 z3.length cap3] w fun e w' => e = .returned (.bool true) ∧ Below w.heap.size w w' := by
  have q0 := h0.2.1
  have q1 := h1.2.1
  have q2 := h2.2.1
  have q3 := h3.2.1
  by_cases h : prem z0 z1 z2 z3
  · obtain ⟨ri, ro, e1, e2, e3, ⟨ai, ao, ar, at4⟩, hk, hw⟩ := id h
    have hp := ri.1
    by_cases hr : reach z2 z3
    · by_cases hu : up z3
      · have hle := fun t ht => delay_le (n := z0.length) rfl e1 e2 e3 ri ai ao ar at4 hk hw hr hu t ht
        have hfn := far_le z2 z3
        obtain ⟨b0, o0, rfl, _⟩ := h0.1.at hp
        obtain ⟨b1, o1, rfl, _⟩ := h1.1.at ro.1
        rw [e1, e2, e3]
        exact delay_go b0 o0 b1 o1 a2 a3 cap0 cap1 cap2 cap3 z0.length z0 z1 z2 z3 w h0.1 h1.1 h2.1 h3.1 rfl e1 e2 e3 hp (by omega) h0.2.2.1 (decide_eq_true h) _ rfl (by omega) (decide_eq_true hr) (decide_eq_true hu) hle
      · rw [e1, e2, e3]
        exact delay_falls a0 a1 a2 a3 cap0 cap1 cap2 cap3 z0.length z0 z1 z2 z3 w h0.1 h1.1 h2.1 h3.1 rfl e1 e2 e3 hp (by omega) h0.2.2.1 (decide_eq_true h) _ rfl (decide_eq_true hr) (decide_eq_false hu)
    · rw [e1, e2, e3]
      exact delay_never2 a0 a1 a2 a3 cap0 cap1 cap2 cap3 z0.length z0 z1 z2 z3 w h0.1 h1.1 h2.1 h3.1 rfl e1 e2 e3 (by omega) h0.2.2.1 (decide_eq_true h) _ rfl (decide_eq_false hr)
  · exact delay_no a0 a1 a2 a3 cap0 cap1 cap2 cap3 z0.length z1.length z2.length z3.length z0 z1 z2 z3 w h0.1 h1.1 h2.1 h3.1 rfl rfl rfl rfl (by omega) (by omega) (by omega) (by omega) h0.2.2.1 (decide_eq_false h) _ rfl _ rfl

end Go.Proofs.Ytmijlmidlddcpaa
namespace Go.Proofs.Ytmijlmidlddcpaa.boundDelay
open Go.ChangeShapes Go.WideShapes Go.ChangeAt Go.RowKit
set_option linter.unusedVariables false

set_option maxRecDepth 100000 in
theorem lifted (os : Os) (started : os.Started) (H : Type) (enc : TypeId × Value → H) :
    ReturnsInHanded {} Try.checked os 6 .any (Rows.boundDelaySpec.pre6 enc Try.prog Try.f6 Rows.boundDelayRow.domain false) (Rows.boundDelaySpec.post enc Try.prog Try.f6 false true false false) := by
  refine returnsInHanded_of_change_sized (C := Try.checked) own started (by kernel_rfl) Try.func6
    (ChangeSpec.witness6 (enc := enc) (C := Try.checked) false ⟨#[], #[.slice none 0 0, .slice none 0 0, .slice none 0 0, .slice none 0 0], []⟩ 8 (by kernel_rfl) (by kernel_rfl) (by kernel_rfl) (by kernel_rfl)) ?_
  intro W base args ds gs before hval0 hW _ hsz0 _
  have hsz : (DataW.weightsEach Try.prog (Try.f6.params.toList ++ Rows.boundDelaySpec.plain.varTypes Try.prog) (ds ++ gs)).all (· ≤ reachBytes) = true := hsz0
  have hval : ∀ (j : Nat) t v, Try.f6.params[j]? = some t → args[j]? = some v → Value.okWide Try.prog W .any base t v := hval0
  have hW' := hW
  obtain ⟨p, q, hA0, hV, rfl, hfz, hnd⟩ := hW
  have hA : DataW.TrodAll enc Try.prog W 0 (fun _ => true) true Try.f6.params.toList args.toList ds p := hA0
  rw [Try.params6] at hA hval hsz
  obtain ⟨v0, vs0, d0, ds0, p0, q0, hargs, rfl, rfl, h0, r0⟩ := trodAll_cons hA
  obtain ⟨v1, vs1, d1, ds1, p1, q1, rfl, rfl, rfl, h1, r1⟩ := trodAll_cons r0
  obtain ⟨v2, vs2, d2, ds2, p2, q2, rfl, rfl, rfl, h2, r2⟩ := trodAll_cons r1
  obtain ⟨v3, vs3, d3, ds3, p3, q3, rfl, rfl, rfl, h3, r3⟩ := trodAll_cons r2
  obtain ⟨rfl, rfl, rfl⟩ := trodAll_nil r3
  obtain rfl : args = #[v0, v1, v2, v3] := by cases args; simp_all
  obtain ⟨rfl, rfl⟩ := trodVars_none hV
  obtain ⟨a0, len0, cap0, rfl⟩ := okWide_slice Try.underlying22 (hval 0 22 v0 rfl rfl)
  have k0 := h0
  have lt0 : ∀ x ∈ p0, x.block < W.heap.size := by obtain ⟨m, hm⟩ := k0; exact DataW.trod_lt m _ _ _ hm
  obtain ⟨z0, rfl, w0⟩ := farIn h0 (fun elems spare e => by
    subst e
    have := sized_slice hsz (j := 0) (t := 22) (e := 3) rfl rfl Try.underlying22
    rw [Try.bytes3] at this
    exact this)
  obtain ⟨a1, len1, cap1, rfl⟩ := okWide_slice Try.underlying22 (hval 1 22 v1 rfl rfl)
  have k1 := h1
  have lt1 : ∀ x ∈ p1, x.block < W.heap.size := by obtain ⟨m, hm⟩ := k1; exact DataW.trod_lt m _ _ _ hm
  obtain ⟨z1, rfl, w1⟩ := farIn h1 (fun elems spare e => by
    subst e
    have := sized_slice hsz (j := 1) (t := 22) (e := 3) rfl rfl Try.underlying22
    rw [Try.bytes3] at this
    exact this)
  obtain ⟨a2, len2, cap2, rfl⟩ := okWide_slice Try.underlying22 (hval 2 22 v2 rfl rfl)
  have k2 := h2
  have lt2 : ∀ x ∈ p2, x.block < W.heap.size := by obtain ⟨m, hm⟩ := k2; exact DataW.trod_lt m _ _ _ hm
  obtain ⟨z2, rfl, w2⟩ := farIn h2 (fun elems spare e => by
    subst e
    have := sized_slice hsz (j := 2) (t := 22) (e := 3) rfl rfl Try.underlying22
    rw [Try.bytes3] at this
    exact this)
  obtain ⟨a3, len3, cap3, rfl⟩ := okWide_slice Try.underlying22 (hval 3 22 v3 rfl rfl)
  have k3 := h3
  have lt3 : ∀ x ∈ p3, x.block < W.heap.size := by obtain ⟨m, hm⟩ := k3; exact DataW.trod_lt m _ _ _ hm
  obtain ⟨z3, rfl, w3⟩ := farIn h3 (fun elems spare e => by
    subst e
    have := sized_slice hsz (j := 3) (t := 22) (e := 3) rfl rfl Try.underlying22
    rw [Try.bytes3] at this
    exact this)
  clear hA0 hval0 hsz0 hsz
  refine (boundDelay_walk a0 cap0 z0 a1 cap1 z1 a2 cap2 z2 a3 cap3 z3 W w0 w1 w2 w3).mono fun e W' ⟨he, bel⟩ => ?_
  subst he
  exact ⟨_, rfl, _, _, _, [], _, [], hW', trodAll_mk1 (shut_bool Try.underlying4 _), (trodAll_cons_mk (Below.trod laidOut (by kernel_rfl) (of_decide_eq_true (by kernel_rfl)) k0 bel lt0) (trodAll_cons_mk (Below.trod laidOut (by kernel_rfl) (of_decide_eq_true (by kernel_rfl)) k1 bel lt1) (trodAll_cons_mk (Below.trod laidOut (by kernel_rfl) (of_decide_eq_true (by kernel_rfl)) k2 bel lt2) (trodAll_cons_mk (Below.trod laidOut (by kernel_rfl) (of_decide_eq_true (by kernel_rfl)) k3 bel lt3) trodAll_mk0)))), rfl, bel.frame _, fun h => by cases h⟩

theorem proved : Rows.BoundDelaySaid :=
  OpenClaim.holds_of_wide 6 Try.f6 rfl rfl rfl rfl rfl rfl rfl ⟨rfl, rfl, rfl, rfl, rfl⟩ rfl rfl rfl rfl rfl (by kernel_rfl) Try.func6 (by kernel_rfl)
    (of_decide_eq_true (by kernel_rfl)) (by unfold Func.isWrapper; first | (rw [if_pos (by decide +kernel)]; kernel_rfl) | (rw [if_neg (by decide +kernel)]; exact ⟨rfl, rfl⟩))
    (fun os started H enc _ => lifted os started H enc)

end Go.Proofs.Ytmijlmidlddcpaa.boundDelay
namespace Go.Proofs.Ytmijlmidlddcpaa
theorem boundDelay_holds : Rows.BoundDelaySaid := boundDelay.proved
#print axioms boundDelay_holds
end Go.Proofs.Ytmijlmidlddcpaa
