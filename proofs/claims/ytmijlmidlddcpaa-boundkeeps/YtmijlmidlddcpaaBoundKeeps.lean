/- PROVED: BoundKeeps, at every size. CONDITIONS: none. -/
import Derived.Deep.RegionHeld3
import Derived.Test.YtmijlmidlddcpaaAlive
import Derived.Test.YtmijlmidlddcpaaAsked
import Derived.Test.YtmijlmidlddcpaaAgg
namespace Go.Proofs.Ytmijlmidlddcpaa
open Go.RowKit
set_option linter.unusedVariables false

theorem line_s (R B : Int) (hR : inr R) (hB : inr B) (x : Int) (n : Nat) (hx : x = (n : Int)) (hn : n ≤ 300) (S : List Int) (hS : line R B n = S) (w : World) :
    Calls Try.prog 20 #[.agg #[.int .i64 R, .int .i64 B], .int .i64 x] w (AnsN w n S) := by subst hx; exact line_r R B hR hB n hn S hS w
theorem Bk.drew {w : World} {O : Nat} {R B : Int} (h : Bk w O R B) : Bk w.drew O R B := ⟨h.r, h.b⟩
theorem Row.drew {w : World} {ao : Option Addr} {zs : List Int} (h : Row w ao zs) : Row w.drew ao zs := h
theorem asked_n (a : Option Addr) (c n : Nat) (f : List Int) (w : World) (k : Row w a f) (e1 : f.length = n) (h : n ≤ 35184372088832) (b : Bool) (hb : decide (¬ allIn f) = b) :
    Calls Try.prog 23 #[.slice a n c, .func (.func 24) #[] #[]] w fun e w' => e = .returned (.bool b) ∧ w' = w := by
  subst e1; subst hb
  exact contains24_any a c f w k h

/-- how far the law's second half goes -/
inductive Way (f r : List Int) : Prop
  | no (h : ¬ right f)
  | apart (h : right f) (k : r.length ≠ f.length)
  | most (h : right f) (k : r.length = f.length) (l : 1099511627776 < f.getD (f.length - 1) 0)
  | out (h : right f) (k : r.length = f.length) (l : f.getD (f.length - 1) 0 ≤ 1099511627776) (q : ¬ allIn r)
  | go (h : right f) (k : r.length = f.length) (l : f.getD (f.length - 1) 0 ≤ 1099511627776) (q : allIn r)
theorem way (f r : List Int) : Way f r := by
  by_cases h : right f
  · by_cases k : r.length = f.length
    · by_cases l : f.getD (f.length - 1) 0 ≤ 1099511627776
      · by_cases q : allIn r
        · exact .go h k l q
        · exact .out h k l q
      · exact .most h k (by omega)
    · exact .apart h k
  · exact .no h

set_option maxHeartbeats 6400000 in
set_option maxRecDepth 100000 in
theorem keepsTo_walk (x0 x1 x3 : Option Addr) (c0 c1 c3 n0 n1 n3 : Nat) (f r z : List Int) (R Q : Int) (w : World) (r0 : Row w x0 f) (r1 : Row w x1 r) (r3 : Row w x3 z) (l0 : Hid (f.length = n0)) (l1 : Hid (r.length = n1)) (l3 : Hid (z.length = n3))
    (hn0 : n0 ≤ 17592186044414) (hn1 : n1 ≤ 17592186044414) (hc : n0 ≤ c0) :
    Calls Try.prog 4 #[.slice x0 n0 c0, .slice x1 n1 c1, .agg #[.int .i64 R, .int .i64 Q], .slice x3 n3 c3] w fun e w' => e = .returned (.bool true) ∧ Below w.heap.size w w' := by
  obtain ⟨w0, hw0⟩ : ∃ w0, w.alloc (.cells #[.int .i64 R, .int .i64 Q] 30) = w0 := ⟨_, rfl⟩
  have B : Below w.heap.size w w0 := by rw [← hw0]; exact balloc (Below.refl _ _) _
  have K : Bk w0 w.heap.size R Q := by rw [← hw0]; exact Bk.new w R Q
  replace r0 := r0.kept B
  replace r1 := r1.kept B
  replace r3 := r3.kept B
  have T1 := tok
  have T2 := tok
  have T3 := tok
  have T4 := tok
  have T5 := tok
  have T6 := tok
  have hway := way f r
  replace hway : Hid _ := hway
  by_cases hbr : bright R Q z
  case' pos =>
    have hn3 : n3 < 300 := by have := hbr.2.2.1; rw [l3.out] at this; exact this
    obtain ⟨bb, hb1⟩ : ∃ bb, decide (keeps R Q z) = bb := ⟨_, rfl⟩
    have hb2 : Hid (decide (holds (of z) (line R Q (n3 + 1))) = bb) := by
      show _ = _
      rw [← hb1, ← l3.out, Bool.eq_iff_iff]; simp only [decide_eq_true_eq]; exact holds_keeps hbr
    replace hb1 : Hid _ := hb1
    have lo : Hid ((of z).length = n3 + 1) := by show _ = _; rw [of_len, l3.out]
    have ll : Hid ((line R Q (n3 + 1)).length = n3 + 1) := line_len hbr.1 hbr.2.1 _
    have hne : (bb != bb) = false := by cases bb <;> rfl
    have hwr : IntKind.i64.wrap ((n3 : Int) + 1) = (n3 : Int) + 1 := wrapIn (by omega)
    have hbt : Hid (decide (bright R Q z) = true) := decide_eq_true hbr
    replace hbr : Hid _ := hbr
    generalize hI : line R Q (n3 + 1) = I at hb2 ll
    generalize hA : of z = A at hb2 lo
    replace hI : Hid _ := hI
    replace hA : Hid _ := hA
    go_enter Try.func4, Try.ntmps4
    go_wp2_with (clear T1; go_at_call 17; refine (alive_any _).mono ?_; rintro e v1 ⟨rfl, b1⟩; replace B := bthen B b1; replace K := K.kept b1; replace r0 := r0.kept b1; replace r1 := r1.kept b1; replace r3 := r3.kept b1; clear b1)
    generalize hO : w.heap.size = O at K ⊢
    replace hO : Hid _ := hO
    go_region_held3 (fun w' => w'.cell? ⟨O, 0, none⟩ = some (.int .i64 R) ∧ w'.cell? ⟨O, 1, none⟩ = some (.int .i64 Q)) (exact ⟨K.r, K.b⟩) (first
      | (clear T2; go_at_call 18; refine (bright_n R Q x3 _ n3 z _ r3.drew l3.out true hbt.out).mono ?_; rintro e v2 ⟨rfl, b2⟩; replace B := bthen B.drew b2; replace K := K.drew.kept b2; replace r0 := r0.drew.kept b2; replace r1 := r1.drew.kept b2; replace r3 := r3.drew.kept b2; clear b2)
      | (clear T3; go_at_call 19; refine (of_r x3 _ n3 z A hA.out _ r3 l3.out (by omega)).mono ?_; rintro e v3 ⟨a3, d3, rfl, hd3, q3, b3⟩; replace B := bthen B b3; replace K := K.kept b3; replace r0 := r0.kept b3; replace r1 := r1.kept b3; replace r3 := r3.kept b3; clear b3)
      | (clear T4; go_at_call 20; refine (line_s R Q hbr.out.1 hbr.out.2.1 _ (n3 + 1) (by omega) (by omega) I hI.out _).mono ?_; rintro e v4 ⟨a4, d4, rfl, _, q4, b4⟩; replace B := bthen B b4; replace K := K.kept b4; replace r0 := r0.kept b4; replace r1 := r1.kept b4; replace r3 := r3.kept b4; replace q3 := q3.kept b4; clear b4)
      | (clear T5; go_at_call 15; refine (holds_n a3 a4 _ _ (n3 + 1) (n3 + 1) A I _ q3 q4 lo.out ll.out (by omega) (by omega) hd3 bb hb2.out).mono ?_; rintro e v5 ⟨rfl, b5⟩; replace B := bthen B b5; replace K := K.kept b5; replace r0 := r0.kept b5; replace r1 := r1.kept b5; replace r3 := r3.kept b5; clear b5 q3 q4)
      | (clear T6; go_at_call 21; refine (keeps_n R Q x3 _ n3 z _ r3 l3.out bb hb1.out).mono ?_; rintro e v ⟨rfl, b6⟩; replace B := bthen B b6; replace K := K.kept b6; replace r0 := r0.kept b6; replace r1 := r1.kept b6; clear b6 r3))
  case' neg =>
    have hbt : Hid (decide (bright R Q z) = false) := decide_eq_false hbr
    clear hbr
    go_enter Try.func4, Try.ntmps4
    go_wp2_with (clear T1; go_at_call 17; refine (alive_any _).mono ?_; rintro e v1 ⟨rfl, b1⟩; replace B := bthen B b1; replace K := K.kept b1; replace r0 := r0.kept b1; replace r1 := r1.kept b1; replace r3 := r3.kept b1; clear b1)
    generalize hO : w.heap.size = O at K ⊢
    replace hO : Hid _ := hO
    replace B := B.drew
    have KK := K.drew
    clear K
    replace r0 := r0.drew
    replace r1 := r1.drew
    replace r3 := r3.drew
    have cr := KK.r
    have cb := KK.b
    refine wp_region_any (by kernel_rfl) ?_
    change wpAny _ _ _ _ _ _ _ (World.drew _)
    refine wpAny_take (i := 1) (v := .slice x3 n3 c3) rfl (by kernel_rfl) (by kernel_rfl) (by kernel_rfl) (fun _ _ _ h => h) (Or.inl ⟨by kernel_rfl, by intro _; go_simp; all_goals first | omega | (rw [if_pos (by omega)]; first | done | rfl)⟩) ?_
    refine wpAny_ready (rs := [0]) (by kernel_rfl) (by simp) ?_
    refine AllReady.cons rfl (fun K hK => ?_) AllReady.nil
    go_simp
    go_wp2_with (fail)
    clear cr cb
    refine wpAny_ready (rs := [2]) (by kernel_rfl) (by simp) ?_
    refine AllReady.cons rfl (fun K hK => ?_) AllReady.nil
    go_simp
    go_wp2_with (clear T2; go_at_call 18; refine (bright_n R Q x3 _ n3 z _ r3 l3.out false hbt.out).mono ?_; rintro e v ⟨rfl, b2⟩; replace B := bthen B b2; replace KK := KK.kept b2; replace r0 := r0.kept b2; replace r1 := r1.kept b2; clear b2 r3)
    refine wpAny_take (i := 3) (v := .bool false) rfl (by kernel_rfl) (by kernel_rfl) (by kernel_rfl) (fun _ _ _ h => h) (Or.inl ⟨by kernel_rfl, by intro _; go_simp; all_goals first | omega | (rw [if_pos (by omega)]; first | done | rfl)⟩) ?_
    refine wpAny_take (i := 4) (v := undef) rfl (by kernel_rfl) (by kernel_rfl) (by kernel_rfl) (fun _ _ _ h => h) (Or.inr ⟨by kernel_rfl, rfl⟩) ?_
    refine wpAny_take (i := 5) (v := undef) rfl (by kernel_rfl) (by kernel_rfl) (by kernel_rfl) (fun _ _ _ h => h) (Or.inr ⟨by kernel_rfl, rfl⟩) ?_
    refine wpAny_take (i := 6) (v := undef) rfl (by kernel_rfl) (by kernel_rfl) (by kernel_rfl) (fun _ _ _ h => h) (Or.inr ⟨by kernel_rfl, rfl⟩) ?_
    refine wpAny_take (i := 7) (v := undef) rfl (by kernel_rfl) (by kernel_rfl) (by kernel_rfl) (fun _ _ _ h => h) (Or.inr ⟨by kernel_rfl, rfl⟩) ?_
    refine wpAny_take (i := 8) (v := undef) rfl (by kernel_rfl) (by kernel_rfl) (by kernel_rfl) (fun _ _ _ h => h) (Or.inr ⟨by kernel_rfl, rfl⟩) ?_
    refine wpAny_take (i := 9) (v := undef) rfl (by kernel_rfl) (by kernel_rfl) (by kernel_rfl) (fun _ _ _ h => h) (Or.inr ⟨by kernel_rfl, rfl⟩) ?_
    refine wpAny_take (i := 10) (v := undef) rfl (by kernel_rfl) (by kernel_rfl) (by kernel_rfl) (fun _ _ _ h => h) (Or.inr ⟨by kernel_rfl, rfl⟩) ?_
    refine wpAny_take (i := 11) (v := undef) rfl (by kernel_rfl) (by kernel_rfl) (by kernel_rfl) (fun _ _ _ h => h) (Or.inr ⟨by kernel_rfl, rfl⟩) ?_
    refine wpAny_take (i := 12) (v := undef) rfl (by kernel_rfl) (by kernel_rfl) (by kernel_rfl) (fun _ _ _ h => h) (Or.inr ⟨by kernel_rfl, rfl⟩) ?_
    refine wpAny_take (i := 13) (v := undef) rfl (by kernel_rfl) (by kernel_rfl) (by kernel_rfl) (fun _ _ _ h => h) (Or.inr ⟨by kernel_rfl, rfl⟩) ?_
    refine wpAny_take (i := 14) (v := undef) rfl (by kernel_rfl) (by kernel_rfl) (by kernel_rfl) (fun _ _ _ h => h) (Or.inr ⟨by kernel_rfl, rfl⟩) ?_
    refine wpAny_take (i := 15) (v := undef) rfl (by kernel_rfl) (by kernel_rfl) (by kernel_rfl) (fun _ _ _ h => h) (Or.inr ⟨by kernel_rfl, rfl⟩) ?_
    refine wpAny_take (i := 16) (v := .bool false) rfl (by kernel_rfl) (by kernel_rfl) (by kernel_rfl) (fun _ _ _ h => h) (Or.inl ⟨by kernel_rfl, by intro _; go_simp; all_goals first | omega | (rw [if_pos (by omega)]; first | done | rfl)⟩) ?_
    refine wpAny_done (by kernel_rfl) ?_ _
    go_simp
  all_goals
    clear hw0
    have hq := hway.out
    clear hway
    have U1 := tok
    have U2 := tok
    have U3 := tok
    have U4 := tok
    have U5 := tok
    rcases hq with h | ⟨h, k⟩ | ⟨h, k, l⟩ | ⟨h, k, l, q⟩ | ⟨h, k, l, q⟩
    · replace h : Hid _ := h
      go_wp2_with (clear U1; go_at_call 22; refine (right_n x0 _ n0 f _ r0 l0.out (by omega) false (decide_eq_false h.out)).mono ?_; rintro e u1 ⟨rfl, d1⟩; replace B := bthen B d1; replace r0 := r0.kept d1; replace r1 := r1.kept d1; clear d1)
      go_ret
      exact ⟨rfl, B⟩
    · have hk : ¬ (n1 : Int) = (n0 : Int) := by rw [l1.out, l0.out] at k; omega
      replace h : Hid _ := h
      clear k
      go_wp2_with (clear U1; go_at_call 22; refine (right_n x0 _ n0 f _ r0 l0.out (by omega) true (decide_eq_true h.out)).mono ?_; rintro e u1 ⟨rfl, d1⟩; replace B := bthen B d1; replace r0 := r0.kept d1; replace r1 := r1.kept d1; clear d1)
      go_ret
      exact ⟨rfl, B⟩
    · obtain rfl : n1 = n0 := by rw [← l1.out, ← l0.out]; exact k
      obtain ⟨b0, o0, rfl, hF⟩ := r0.at h.1
      obtain ⟨m0, hm0⟩ : ∃ m0, n1 - 1 = m0 := ⟨_, rfl⟩
      have hp0 : 0 < n1 := by rw [← l0.out]; exact h.1
      have hmi : (n1 : Int) - 1 = (m0 : Int) := by omega
      have hml : (m0 : Int) < n1 := by omega
      have hF2 : Hid (∀ v', Row v' (some ⟨b0, o0, none⟩) f → v'.cell? ⟨b0, o0 + m0, none⟩ = some (.int .i64 (f.getD (f.length - 1) 0))) := fun v' kv => by
        obtain ⟨_, _, e, k'⟩ := kv.at h.1
        injection e with e; injection e with e e' _
        subst e e'
        rw [l0.out, hm0]
        exact k' m0 (by rw [l0.out]; omega)
      generalize f.getD (f.length - 1) 0 = y at hF2 l
      clear hF hm0
      replace h : Hid _ := h
      clear k
      go_wp2_with (clear U1; go_at_call 22; refine (right_n _ _ n1 f _ r0 l0.out (by omega) true (decide_eq_true h.out)).mono ?_; rintro e u1 ⟨rfl, d1⟩; replace B := bthen B d1; replace r0 := r0.kept d1; replace r1 := r1.kept d1; clear d1; have cy := hF2.out u1 r0)
      go_ret
      exact ⟨rfl, B⟩
    · obtain rfl : n1 = n0 := by rw [← l1.out, ← l0.out]; exact k
      obtain ⟨b0, o0, rfl, hF⟩ := r0.at h.1
      obtain ⟨m0, hm0⟩ : ∃ m0, n1 - 1 = m0 := ⟨_, rfl⟩
      have hp0 : 0 < n1 := by rw [← l0.out]; exact h.1
      have hmi : (n1 : Int) - 1 = (m0 : Int) := by omega
      have hml : (m0 : Int) < n1 := by omega
      have hF2 : Hid (∀ v', Row v' (some ⟨b0, o0, none⟩) f → v'.cell? ⟨b0, o0 + m0, none⟩ = some (.int .i64 (f.getD (f.length - 1) 0))) := fun v' kv => by
        obtain ⟨_, _, e, k'⟩ := kv.at h.1
        injection e with e; injection e with e e' _
        subst e e'
        rw [l0.out, hm0]
        exact k' m0 (by rw [l0.out]; omega)
      generalize f.getD (f.length - 1) 0 = y at hF2 l
      clear hF hm0
      replace h : Hid _ := h
      replace q : Hid _ := q
      clear k
      go_wp2_with (first
        | (clear U1; go_at_call 22; refine (right_n _ _ n1 f _ r0 l0.out (by omega) true (decide_eq_true h.out)).mono ?_; rintro e u1 ⟨rfl, d1⟩; replace B := bthen B d1; replace r0 := r0.kept d1; replace r1 := r1.kept d1; clear d1; have cy := hF2.out u1 r0)
        | (clear U2; go_at_call 23; refine (asked_n x1 _ n1 r _ r1 l1.out (by omega) true (decide_eq_true q.out)).mono ?_; rintro e u2 ⟨rfl, hw⟩; obtain rfl : u1 = u2 := hw.symm; clear hw))
      go_ret
      exact ⟨rfl, B⟩
    · have hh : Hid (decide (holds f r) = decide (below f (conv f r))) := by
        show _ = _
        rw [Bool.eq_iff_iff]; simp only [decide_eq_true_eq]; exact holds_conv f r k (right_in h l) q
      generalize hb2 : decide (below f (conv f r)) = b2 at hh
      obtain rfl : n1 = n0 := by rw [← l1.out, ← l0.out]; exact k
      obtain ⟨b0, o0, rfl, hF⟩ := r0.at h.1
      obtain ⟨m0, hm0⟩ : ∃ m0, n1 - 1 = m0 := ⟨_, rfl⟩
      have hp0 : 0 < n1 := by rw [← l0.out]; exact h.1
      have hmi : (n1 : Int) - 1 = (m0 : Int) := by omega
      have hml : (m0 : Int) < n1 := by omega
      have hF2 : Hid (∀ v', Row v' (some ⟨b0, o0, none⟩) f → v'.cell? ⟨b0, o0 + m0, none⟩ = some (.int .i64 (f.getD (f.length - 1) 0))) := fun v' kv => by
        obtain ⟨_, _, e, k'⟩ := kv.at h.1
        injection e with e; injection e with e e' _
        subst e e'
        rw [l0.out, hm0]
        exact k' m0 (by rw [l0.out]; omega)
      generalize f.getD (f.length - 1) 0 = y at hF2 l
      clear hF hm0
      have lc : Hid ((conv f r).length = n1) := by show _ = _; rw [conv_len, l0.out, l1.out, Nat.min_self]
      replace hb2 : Hid _ := hb2
      generalize hC : conv f r = C at lc hb2
      replace hC : Hid _ := hC
      replace h : Hid _ := h
      replace q : Hid _ := q
      have hbb : (b2 == b2) = true := by cases b2 <;> rfl
      clear k
      go_wp2_with (first
        | (clear U1; go_at_call 22; refine (right_n _ _ n1 f _ r0 l0.out (by omega) true (decide_eq_true h.out)).mono ?_; rintro e u1 ⟨rfl, d1⟩; replace B := bthen B d1; replace r0 := r0.kept d1; replace r1 := r1.kept d1; clear d1; have cy := hF2.out u1 r0)
        | (clear U2; go_at_call 23; refine (asked_n x1 _ n1 r _ r1 l1.out (by omega) false (decide_eq_false fun x => x q.out)).mono ?_; rintro e u2 ⟨rfl, hw⟩; obtain rfl : u1 = u2 := hw.symm; clear hw)
        | (clear U3; go_at_call 15; refine (holds_n _ x1 _ _ n1 n1 f r _ r0 r1 l0.out l1.out (by omega) (by omega) hc b2 hh.out).mono ?_; rintro e u3 ⟨rfl, d3⟩; replace B := bthen B d3; replace r0 := r0.kept d3; replace r1 := r1.kept d3; clear d3 cy)
        | (clear U4; go_at_call 26; refine (conv_r _ x1 _ _ n1 f r C hC.out _ r0 r1 l0.out l1.out (by omega)).mono ?_; rintro e u4 ⟨a6, d6, rfl, _, r6, d4⟩; replace B := bthen B d4; replace r0 := r0.kept d4; clear d4)
        | (clear U5; go_at_call 25; refine (within_n _ a6 _ _ n1 n1 f C _ r0 r6 l0.out lc.out (by omega) (by omega) b2 hb2.out).mono ?_; rintro e u5 ⟨rfl, d5⟩; replace B := bthen B d5; clear d5))
      go_ret
      exact ⟨rfl, B⟩

theorem boundKeeps_walk (a0 : Option Addr) (cap0 : Nat) (z0 : List Int) (a1 : Option Addr) (cap1 : Nat) (z1 : List Int) (x2 y2 : Int) (a3 : Option Addr) (cap3 : Nat) (z3 : List Int) (w : World) (h0 : FarIn w a0 cap0 z0) (h1 : FarIn w a1 cap1 z1) (h3 : FarIn w a3 cap3 z3) :
    Calls Try.prog 4 #[.slice a0 z0.length cap0, .slice a1 z1.length cap1, .agg #[.int .i64 x2, .int .i64 y2], .slice a3 z3.length cap3] w fun e w' => e = .returned (.bool true) ∧ Below w.heap.size w w' :=
  keepsTo_walk a0 a1 a3 cap0 cap1 cap3 z0.length z1.length z3.length z0 z1 z3 x2 y2 w h0.1 h1.1 h3.1 rfl rfl rfl (by have := h0.2.1; omega) (by have := h1.2.1; omega) h0.2.2.1

end Go.Proofs.Ytmijlmidlddcpaa
namespace Go.Proofs.Ytmijlmidlddcpaa.boundKeeps
open Go.ChangeShapes Go.WideShapes Go.ChangeAt Go.RowKit
set_option linter.unusedVariables false

set_option maxRecDepth 100000 in
theorem lifted (os : Os) (started : os.Started) (H : Type) (enc : TypeId × Value → H) :
    ReturnsInHanded {} Try.checked os 4 .any (Rows.boundKeepsSpec.pre6 enc Try.prog Try.f4 Rows.boundKeepsRow.domain false) (Rows.boundKeepsSpec.post enc Try.prog Try.f4 false true false false) := by
  refine returnsInHanded_of_change_sized (C := Try.checked) own started (by kernel_rfl) Try.func4
    (ChangeSpec.witness6 (enc := enc) (C := Try.checked) false ⟨#[], #[.slice none 0 0, .slice none 0 0, .agg #[.int .i64 0, .int .i64 0], .slice none 0 0], []⟩ 8 (by kernel_rfl) (by kernel_rfl) (by kernel_rfl) (by kernel_rfl)) ?_
  intro W base args ds gs before hval0 hW _ hsz0 _
  have hsz : (DataW.weightsEach Try.prog (Try.f4.params.toList ++ Rows.boundKeepsSpec.plain.varTypes Try.prog) (ds ++ gs)).all (· ≤ reachBytes) = true := hsz0
  have hval : ∀ (j : Nat) t v, Try.f4.params[j]? = some t → args[j]? = some v → Value.okWide Try.prog W .any base t v := hval0
  have hW' := hW
  obtain ⟨p, q, hA0, hV, rfl, hfz, hnd⟩ := hW
  have hA : DataW.TrodAll enc Try.prog W 0 (fun _ => true) true Try.f4.params.toList args.toList ds p := hA0
  rw [Try.params4] at hA hval hsz
  obtain ⟨v0, vs0, d0, ds0, p0, q0, hargs, rfl, rfl, h0, r0⟩ := trodAll_cons hA
  obtain ⟨v1, vs1, d1, ds1, p1, q1, rfl, rfl, rfl, h1, r1⟩ := trodAll_cons r0
  obtain ⟨v2, vs2, d2, ds2, p2, q2, rfl, rfl, rfl, h2, r2⟩ := trodAll_cons r1
  obtain ⟨v3, vs3, d3, ds3, p3, q3, rfl, rfl, rfl, h3, r3⟩ := trodAll_cons r2
  obtain ⟨rfl, rfl, rfl⟩ := trodAll_nil r3
  obtain rfl : args = #[v0, v1, v2, v3] := by cases args; simp_all
  obtain ⟨rfl, rfl⟩ := trodVars_none hV
  obtain ⟨a0, len0, cap0, rfl⟩ := okWide_slice Try.underlying22 (hval 0 22 v0 rfl rfl)
  have k0 := h0
  have lt0 : ∀ x ∈ p0, x.block < W.heap.size := by obtain ⟨m, hm⟩ := k0; exact DataW.trod_lt m _ _ _ hm
  obtain ⟨z0, rfl, w0⟩ := farIn h0 (fun elems spare e => by
    subst e
    have := sized_slice hsz (j := 0) (t := 22) (e := 3) rfl rfl Try.underlying22
    rw [Try.bytes3] at this
    exact this)
  obtain ⟨a1, len1, cap1, rfl⟩ := okWide_slice Try.underlying22 (hval 1 22 v1 rfl rfl)
  have k1 := h1
  have lt1 : ∀ x ∈ p1, x.block < W.heap.size := by obtain ⟨m, hm⟩ := k1; exact DataW.trod_lt m _ _ _ hm
  obtain ⟨z1, rfl, w1⟩ := farIn h1 (fun elems spare e => by
    subst e
    have := sized_slice hsz (j := 1) (t := 22) (e := 3) rfl rfl Try.underlying22
    rw [Try.bytes3] at this
    exact this)
  obtain ⟨x2, y2, rfl, rfl, rfl, wx2, wy2⟩ := openBk (hval 2 30 v2 rfl rfl) h2
  obtain ⟨a3, len3, cap3, rfl⟩ := okWide_slice Try.underlying22 (hval 3 22 v3 rfl rfl)
  have k3 := h3
  have lt3 : ∀ x ∈ p3, x.block < W.heap.size := by obtain ⟨m, hm⟩ := k3; exact DataW.trod_lt m _ _ _ hm
  obtain ⟨z3, rfl, w3⟩ := farIn h3 (fun elems spare e => by
    subst e
    have := sized_slice hsz (j := 3) (t := 22) (e := 3) rfl rfl Try.underlying22
    rw [Try.bytes3] at this
    exact this)
  clear hA0 hval0 hsz0 hsz
  refine (boundKeeps_walk a0 cap0 z0 a1 cap1 z1 x2 y2 a3 cap3 z3 W w0 w1 w3).mono fun e W' ⟨he, bel⟩ => ?_
  subst he
  exact ⟨_, rfl, _, _, _, [], _, [], hW', trodAll_mk1 (shut_bool Try.underlying4 _), (trodAll_cons_mk (Below.trod laidOut (by kernel_rfl) (of_decide_eq_true (by kernel_rfl)) k0 bel lt0) (trodAll_cons_mk (Below.trod laidOut (by kernel_rfl) (of_decide_eq_true (by kernel_rfl)) k1 bel lt1) (trodAll_cons_mk (shutBk wx2 wy2) (trodAll_cons_mk (Below.trod laidOut (by kernel_rfl) (of_decide_eq_true (by kernel_rfl)) k3 bel lt3) trodAll_mk0)))), rfl, bel.frame _, fun h => by cases h⟩

theorem proved : Rows.BoundKeepsSaid :=
  OpenClaim.holds_of_wide 4 Try.f4 rfl rfl rfl rfl rfl rfl rfl ⟨rfl, rfl, rfl, rfl, rfl⟩ rfl rfl rfl rfl rfl (by kernel_rfl) Try.func4 (by kernel_rfl)
    (of_decide_eq_true (by kernel_rfl)) (by unfold Func.isWrapper; first | (rw [if_pos (by decide +kernel)]; kernel_rfl) | (rw [if_neg (by decide +kernel)]; exact ⟨rfl, rfl⟩))
    (fun os started H enc _ => lifted os started H enc)

end Go.Proofs.Ytmijlmidlddcpaa.boundKeeps
namespace Go.Proofs.Ytmijlmidlddcpaa
theorem boundKeeps_holds : Rows.BoundKeepsSaid := boundKeeps.proved
#print axioms boundKeeps_holds
end Go.Proofs.Ytmijlmidlddcpaa
