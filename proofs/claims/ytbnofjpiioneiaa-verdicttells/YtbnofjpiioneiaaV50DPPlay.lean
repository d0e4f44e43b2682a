/- PROVED: what the document's own TBrings answers. what the verifier's PPlay answers, at every argument that is no longer than a million. CONDITIONS: none beyond each theorem's own. -/
import Derived.Test.YtbnofjpiioneiaaB33Lts
import Derived.Test.YtbnofjpiioneiaaV49DPlay
import Derived.BigQuiet
import Derived.Test.YtbnofjpiioneiaaV46DStep
import Derived.Deep.RegionWith
namespace Go.Proofs.Ytbnofjpiioneiaa.D
open Go.RowKit K
set_option linter.unusedVariables false

theorem mul_abs {a c : Int} (ha : 1 ≤ a ∧ a ≤ 100) (hc : 0 ≤ c ∧ c ≤ 100) : 0 ≤ a * c ∧ a * c ≤ 10000 :=
  ⟨Int.mul_nonneg (by omega) hc.1, Int.le_trans (Int.mul_le_mul_of_nonneg_right ha.2 hc.1) (by omega)⟩
theorem wgt_abs (who : Int) {ratio : Int} {x : Rx} (hr : 1 ≤ ratio ∧ ratio ≤ 100) (h : (0 ≤ x.c0 ∧ x.c0 ≤ 100) ∧ (0 ≤ x.c1 ∧ x.c1 ≤ 100)) : -10000 ≤ wgt who ratio x ∧ wgt who ratio x ≤ 10000 := by
  have m0 := mul_abs hr h.1
  have m1 := mul_abs hr h.2
  unfold wgt
  split <;> omega
theorem total_abs {f : Rx → Int} {l : List Rx} (h : ∀ x ∈ l, -10000 ≤ f x ∧ f x ≤ 10000) : -10000 * (l.length : Int) ≤ total f l ∧ total f l ≤ 10000 * (l.length : Int) := by
  induction l with
  | nil => simp [total]
  | cons x l ih =>
    have h1 := h x (by simp)
    have h2 := ih fun y hy => h y (by simp [hy])
    simp only [total, List.length_cons]
    omega

set_option maxHeartbeats 1600000 in
theorem brings0 (ratio : Int) (hra : 1 ≤ ratio ∧ ratio ≤ 100) (ao : Option Addr) (cp n : Nat) (R : List Rx) (hn : R.length = n) (hb : n ≤ 1048576) (hin : ∀ x ∈ R, (0 ≤ x.c0 ∧ x.c0 ≤ 100) ∧ (0 ≤ x.c1 ∧ x.c1 ≤ 100)) (w : World) (hr : RRow w ao R) :
    Calls Try.prog 13 #[.slice ao n cp, .int .i64 0, .int .i64 ratio] w fun e w' => e = .returned (.int .i64 (total (wgt 0 ratio) R)) ∧ Below w.heap.size w w' := by
  have st : Hid (∀ k, k < n → total (wgt 0 ratio) (R.take (k + 1)) = total (wgt 0 ratio) (R.take k) + ((R.getD k R0).c0 - ratio * (R.getD k R0).c1)) := fun k hk => by
    rw [take_snoc R0 R k (by omega), total_snoc]; rfl
  have bd : Hid (∀ k, k ≤ n → -10000 * (k : Int) ≤ total (wgt 0 ratio) (R.take k) ∧ total (wgt 0 ratio) (R.take k) ≤ 10000 * (k : Int)) := fun k hk => by
    have := total_abs (f := wgt 0 ratio) (l := R.take k) (fun x hx => wgt_abs 0 hra (hin x (List.mem_of_mem_take hx)))
    rw [List.length_take, Nat.min_eq_left (by omega)] at this
    exact this
  have hmem : Hid (∀ k, k < n → R.getD k R0 ∈ R) := fun k hk => by
    rw [List.getD_eq_getElem?_getD, List.getElem?_eq_getElem (by omega)]
    exact List.getElem_mem _
  have hl : Hid (R.length = n) := hn
  have hall : Hid (R.take n = R) := by show R.take n = R; rw [← hn, List.take_length]
  clear hn
  go_enter Try.func13, Try.ntmps13
  go_wp2
  go_loopw [7, 12] (fun sv i wr => ∃ k : Nat, k ≤ n ∧ i = .int .i64 k ∧ sv = .int .i64 (total (wgt 0 ratio) (R.take k)) ∧ Below w.heap.size w wr) (fun _ i _ => n - (intOf i).toNat)
  case atStart => exact ⟨0, Nat.zero_le _, rfl, rfl, Below.refl _ _⟩
  case round =>
    obtain ⟨k, hk, rfl, rfl, B⟩ := hrel
    by_cases hlt : k < n
    · have q1 := hl.out
      obtain ⟨bb, oo, rfl, hc⟩ := (hr.kept B).at (by omega)
      obtain ⟨x0, x1, x2, x3, x4, x5⟩ := hc k (by omega)
      have hX := hin _ (hmem.out k hlt)
      have hltI : (k : Int) < n := by omega
      have b0 := bd.out k hk
      have b1 := bd.out (k + 1) hlt
      have fin := st.out k hlt
      clear hc q1 st bd hmem hin hall
      generalize R.getD k R0 = X at *
      obtain ⟨s0, s1, g0, g1, l0, l1⟩ := X
      simp only at x0 x1 x2 x3 x4 x5 hX fin
      have hp := mul_abs hra hX.2
      have fin2 : Hid (wrap64 (total (wgt 0 ratio) (R.take k) + wrap64 (g0 - wrap64 (ratio * g1))) = total (wgt 0 ratio) (R.take (k + 1))) := by
        show _ = _
        rw [fin] at b1 ⊢
        generalize ratio * g1 = p at *
        generalize total (wgt 0 ratio) (R.take k) = A0 at *
        rw [IntWalk.wrap64_in p (by omega), IntWalk.wrap64_in (g0 - p) (by omega), IntWalk.wrap64_in (A0 + (g0 - p)) (by omega)]
      have G := Rnd.new wr _ rfl s0 s1 g0 g1 l0 l1
      obtain ⟨g_0, g_1, g_2, g_3, g_4, g_5, -⟩ := id G
      replace B := balloc B (.cells #[.int .i64 s0, .int .i64 s1, .int .i64 g0, .int .i64 g1, .int .i64 l0, .int .i64 l1] 76)
      clear fin b0 b1 hX hp
      generalize total (wgt 0 ratio) (R.take k) = A0 at *
      go_wp2
      go_quiet (fail)
      go_wp2
      go_roundw
      case rel => exact ⟨k + 1, by omega, by go_num, by rw [fin2.out], below_drewN B _⟩
      case measure => simp [intOf]; omega
    · obtain rfl : k = n := by omega
      have hI : decide ((k : Int) < (k : Int)) = false := decide_eq_false (by omega)
      rw [hall.out]
      go_wp2
      go_ret
      exact ⟨rfl, B⟩

set_option maxHeartbeats 1600000 in
theorem brings1 (ratio : Int) (hra : 1 ≤ ratio ∧ ratio ≤ 100) (ao : Option Addr) (cp n : Nat) (R : List Rx) (hn : R.length = n) (hb : n ≤ 1048576) (hin : ∀ x ∈ R, (0 ≤ x.c0 ∧ x.c0 ≤ 100) ∧ (0 ≤ x.c1 ∧ x.c1 ≤ 100)) (w : World) (hr : RRow w ao R) :
    Calls Try.prog 13 #[.slice ao n cp, .int .i64 1, .int .i64 ratio] w fun e w' => e = .returned (.int .i64 (total (wgt 1 ratio) R)) ∧ Below w.heap.size w w' := by
  have st : Hid (∀ k, k < n → total (wgt 1 ratio) (R.take (k + 1)) = total (wgt 1 ratio) (R.take k) + ((R.getD k R0).c1 - ratio * (R.getD k R0).c0)) := fun k hk => by
    rw [take_snoc R0 R k (by omega), total_snoc]; rfl
  have bd : Hid (∀ k, k ≤ n → -10000 * (k : Int) ≤ total (wgt 1 ratio) (R.take k) ∧ total (wgt 1 ratio) (R.take k) ≤ 10000 * (k : Int)) := fun k hk => by
    have := total_abs (f := wgt 1 ratio) (l := R.take k) (fun x hx => wgt_abs 1 hra (hin x (List.mem_of_mem_take hx)))
    rw [List.length_take, Nat.min_eq_left (by omega)] at this
    exact this
  have hmem : Hid (∀ k, k < n → R.getD k R0 ∈ R) := fun k hk => by
    rw [List.getD_eq_getElem?_getD, List.getElem?_eq_getElem (by omega)]
    exact List.getElem_mem _
  have hl : Hid (R.length = n) := hn
  have hall : Hid (R.take n = R) := by show R.take n = R; rw [← hn, List.take_length]
  clear hn
  go_enter Try.func13, Try.ntmps13
  go_wp2
  go_loopw [7, 12] (fun sv i wr => ∃ k : Nat, k ≤ n ∧ i = .int .i64 k ∧ sv = .int .i64 (total (wgt 1 ratio) (R.take k)) ∧ Below w.heap.size w wr) (fun _ i _ => n - (intOf i).toNat)
  case atStart => exact ⟨0, Nat.zero_le _, rfl, rfl, Below.refl _ _⟩
  case round =>
    obtain ⟨k, hk, rfl, rfl, B⟩ := hrel
    by_cases hlt : k < n
    · have q1 := hl.out
      obtain ⟨bb, oo, rfl, hc⟩ := (hr.kept B).at (by omega)
      obtain ⟨x0, x1, x2, x3, x4, x5⟩ := hc k (by omega)
      have hX := hin _ (hmem.out k hlt)
      have hltI : (k : Int) < n := by omega
      have b0 := bd.out k hk
      have b1 := bd.out (k + 1) hlt
      have fin := st.out k hlt
      clear hc q1 st bd hmem hin hall
      generalize R.getD k R0 = X at *
      obtain ⟨s0, s1, g0, g1, l0, l1⟩ := X
      simp only at x0 x1 x2 x3 x4 x5 hX fin
      have hp := mul_abs hra hX.1
      have fin2 : Hid (wrap64 (total (wgt 1 ratio) (R.take k) + wrap64 (g1 - wrap64 (ratio * g0))) = total (wgt 1 ratio) (R.take (k + 1))) := by
        show _ = _
        rw [fin] at b1 ⊢
        generalize ratio * g0 = p at *
        generalize total (wgt 1 ratio) (R.take k) = A0 at *
        rw [IntWalk.wrap64_in p (by omega), IntWalk.wrap64_in (g1 - p) (by omega), IntWalk.wrap64_in (A0 + (g1 - p)) (by omega)]
      have G := Rnd.new wr _ rfl s0 s1 g0 g1 l0 l1
      obtain ⟨g_0, g_1, g_2, g_3, g_4, g_5, -⟩ := id G
      replace B := balloc B (.cells #[.int .i64 s0, .int .i64 s1, .int .i64 g0, .int .i64 g1, .int .i64 l0, .int .i64 l1] 76)
      clear fin b0 b1 hX hp
      generalize total (wgt 1 ratio) (R.take k) = A0 at *
      go_wp2
      go_quiet (fail)
      go_wp2
      go_roundw
      case rel => exact ⟨k + 1, by omega, by go_num, by rw [fin2.out], below_drewN B _⟩
      case measure => simp [intOf]; omega
    · obtain rfl : k = n := by omega
      have hI : decide ((k : Int) < (k : Int)) = false := decide_eq_false (by omega)
      rw [hall.out]
      go_wp2
      go_ret
      exact ⟨rfl, B⟩

theorem brings {who ratio : Int} (hg : Rg who ratio) (ao : Option Addr) (cp n : Nat) (R : List Rx) (hn : R.length = n) (hb : n ≤ 1048576) (hin : ∀ x ∈ R, (0 ≤ x.c0 ∧ x.c0 ≤ 100) ∧ (0 ≤ x.c1 ∧ x.c1 ≤ 100)) (w : World) (hr : RRow w ao R) :
    Calls Try.prog 13 #[.slice ao n cp, .int .i64 who, .int .i64 ratio] w fun e w' => e = .returned (.int .i64 (total (wgt who ratio) R)) ∧ Below w.heap.size w w' := by
  rcases (show who = 0 ∨ who = 1 by have := hg.1; omega) with rfl | rfl
  · exact brings0 ratio hg.2 ao cp n R hn hb hin w hr
  · exact brings1 ratio hg.2 ao cp n R hn hb hin w hr
/-- some of the rounds -/
theorem RRow.sub {w : World} {b o : Nat} {R : List Rx} (h : RRow w (some ⟨b, o, none⟩) R) (lo hi : Nat) : RRow w (some ⟨b, o + lo * 6, none⟩) ((R.take hi).drop lo) := by
  rcases h with rfl | ⟨b', o', e, h⟩
  · exact .inl (by simp)
  · injection e with e
    injection e with e1 e2 _
    subst e1 e2
    refine .inr ⟨b, o + lo * 6, rfl, fun j hj => ?_⟩
    rw [List.length_drop, List.length_take] at hj
    have := h (lo + j) (by omega)
    rw [show o + lo * 6 + j * 6 = o + (lo + j) * 6 by omega]
    rw [List.getD_eq_getElem?_getD, List.getElem?_drop, List.getElem?_take_of_lt (by omega), ← List.getD_eq_getElem?_getD]
    exact this

end Go.Proofs.Ytbnofjpiioneiaa.D

namespace Go.Proofs.Ytbnofjpiioneiaa.D
open Go.RowKit K

theorem PlAt.far {w wr : World} {B : Nat} {p0 p1 r m j k0 n0 b0 a0 c0 q0 k1 n1 b1 a1 c1 q1 w0 w1 : Int} {t : Value} {R : List Rx} (h : PlAt w B p0 p1 r m j k0 n0 b0 a0 c0 q0 k1 n1 b1 a1 c1 q1 w0 w1 t R wr) {D o : Nat} (hD : B < D) (hq : ∀ q, t.ownBlock = some q → q ≠ D) (v : Value) : PlAt w B p0 p1 r m j k0 n0 b0 a0 c0 q0 k1 n1 b1 a1 c1 q1 w0 w1 t R (wr.setCell ⟨D, o, none⟩ v) := by
  have l := h.lo
  refine ⟨h.hR.far (by omega) _, h.hT.far (by omega) _, h.hS.far (by omega) _, ?_, l, h.below.setCell (p := ⟨D, o, none⟩) (by show w.heap.size ≤ D; omega) _⟩
  obtain ⟨hl, h2⟩ := h.own
  refine ⟨hl, ?_⟩
  rcases h2 with e | ⟨g, cap, cur, e, hg, hh, r⟩
  · exact .inl e
  · refine .inr ⟨g, cap, cur, e, hg, ?_, r⟩
    rw [Below.heap_setCell _ _ _ _ (hq g (by rw [e]; rfl))]; exact hh
theorem Rnd.puts {w : World} {C : Nat} {k n b a s q : Int} (h : Rnd w C k n b a s q) (s0 s1 g0 g1 l0 l1 : Int) : Rnd ((((((w.setCell ⟨C, 0, none⟩ (.int .i64 s0)).setCell ⟨C, 1, none⟩ (.int .i64 s1)).setCell ⟨C, 2, none⟩ (.int .i64 g0)).setCell ⟨C, 3, none⟩ (.int .i64 g1)).setCell ⟨C, 4, none⟩ (.int .i64 l0)).setCell ⟨C, 5, none⟩ (.int .i64 l1)) C s0 s1 g0 g1 l0 l1 := h.put s0 s1 g0 g1 l0 l1

set_option maxHeartbeats 3200000 in
theorem pplay_wrong (r : Ru) (E : Int) (h : wrong r = E) (he : (E != 0) = true) (a : Option Addr) (n cap : Nat) (w : World) :
    Calls Try.prog 11 #[.agg #[.int .i64 r.k0, .int .i64 r.k1, .int .i64 r.r, .int .i64 r.m, .int .i64 r.j], .slice a n cap] w fun e w' => e = .returned (.tuple #[.slice none 0 0, .agg #[.int .i64 0, .int .i64 0, .int .i64 0, .int .i64 0, .int .i64 0, .int .i64 0, .int .i64 0, .int .i64 0, .int .i64 0, .int .i64 0, .int .i64 0, .int .i64 0, .int .i64 0, .int .i64 0], .int .i64 E]) ∧ Below w.heap.size w w' := by
  have st := fun v => pstart_no r E h he v
  have he2 : (E == 0) = false := by simpa using he
  obtain ⟨p0, p1, r, m, j⟩ := r
  have X := (Rul.new w _ rfl p0 p1 r m j).alloc (.cells #[.int .i64 0, .int .i64 0, .int .i64 0, .int .i64 0, .int .i64 0, .int .i64 0, .int .i64 0, .int .i64 0, .int .i64 0, .int .i64 0, .int .i64 0, .int .i64 0, .int .i64 0, .int .i64 0] 38)
  have Y := Sta.new (w.alloc (.cells #[.int .i64 p0, .int .i64 p1, .int .i64 r, .int .i64 m, .int .i64 j] 24)) (w.heap.size + 1) (by simp) 0 0 0 0 0 0 0 0 0 0 0 0 0 0
  have B : Below w.heap.size w ((w.alloc (.cells #[.int .i64 p0, .int .i64 p1, .int .i64 r, .int .i64 m, .int .i64 j] 24)).alloc (.cells #[.int .i64 0, .int .i64 0, .int .i64 0, .int .i64 0, .int .i64 0, .int .i64 0, .int .i64 0, .int .i64 0, .int .i64 0, .int .i64 0, .int .i64 0, .int .i64 0, .int .i64 0, .int .i64 0] 38)) := balloc (balloc (Below.refl _ _) _) _
  obtain ⟨x0, x1, x2, x3, x4, _, _, _, _, _⟩ := id X
  go_enter Try.func11, Try.ntmps11
  go_wp2_with (go_at_call 27; refine (st _).mono ?_; clear st x0 x1 x2 x3 x4; rintro xx v ⟨rfl, b⟩; replace Y := (Y.kept b).alloc (.cells #[.int .i64 0, .int .i64 0, .int .i64 0, .int .i64 0, .int .i64 0, .int .i64 0, .int .i64 0, .int .i64 0, .int .i64 0, .int .i64 0, .int .i64 0, .int .i64 0, .int .i64 0, .int .i64 0] 38); replace B := balloc (bthen B b) (.cells #[.int .i64 0, .int .i64 0, .int .i64 0, .int .i64 0, .int .i64 0, .int .i64 0, .int .i64 0, .int .i64 0, .int .i64 0, .int .i64 0, .int .i64 0, .int .i64 0, .int .i64 0, .int .i64 0] 38); clear b)
  clear X
  go_loopw [8, 9, 10] (fun e t i wr => e = .int .i64 E ∧ i = .int .i64 0 ∧ Sta wr (w.heap.size + 1) 0 0 0 0 0 0 0 0 0 0 0 0 0 0 ∧ Below w.heap.size w wr) (fun _ _ _ _ => 0)
  case atStart => exact ⟨rfl, rfl, Y, B⟩
  case round =>
    clear Y B
    obtain ⟨rfl, rfl, Y, B⟩ := hrel
    obtain ⟨y0, y1, y2, y3, y4, y5, y6, y7, y8, y9, y10, y11, y12, y13, h0, h1, h2, h3, h4, h5, h6, h7, h8, h9, h10, h11, h12, h13⟩ := id Y
    by_cases h0 : (0 : Int) < n
    case' pos => have h1 : decide (0 < n) = true := decide_eq_true (by omega)
    case' neg => have h1 : decide (0 < n) = false := decide_eq_false (by omega)
    all_goals
      clear h0
      go_wp2
      refine bodyPost_ret (v := .tuple #[.slice none 0 0, .agg #[.int .i64 0, .int .i64 0, .int .i64 0, .int .i64 0, .int .i64 0, .int .i64 0, .int .i64 0, .int .i64 0, .int .i64 0, .int .i64 0, .int .i64 0, .int .i64 0, .int .i64 0, .int .i64 0], .int .i64 E]) ?_ rfl ⟨rfl, ?_⟩
      · simp [results, Try.results11, go_sem, y0, y1, y2, y3, y4, y5, y6, y7, y8, y9, y10, y11, y12, y13]
      · repeat (with_reducible refine Below.setCell ?_ (by simp) _)
        exact B

set_option maxHeartbeats 12800000 in
theorem pplay_any (r : Ru) (h : wrong r = 0) (a : Option Addr) (cap n : Nat) (ls : List (Int × Int)) (hn : ls.length = n) (hl : n ≤ 1048576) (w : World) (hv : VRow w a ls) :
    Calls Try.prog 11 #[.agg #[.int .i64 r.k0, .int .i64 r.k1, .int .i64 r.r, .int .i64 r.m, .int .i64 r.j], .slice a n cap] w (PAns r ls n w) := by
  obtain ⟨i0, hi, hz0, hz1, hz2⟩ := info_parts Try.info34
  have sy := fun v => pstart_yes r h v
  have st1 : ∀ k x y, k < n → ls.getD k (0, 0) = (x, y) → allLate r (ls.take k) → lates r x y → allLate r (ls.take (k + 1)) := fun k x y hk e h1 h2 => by
    rw [take_snoc (0, 0) ls k (by omega), e]
    intro p hp
    rcases List.mem_append.1 hp with hp | hp
    · exact h1 p hp
    · obtain rfl : p = (x, y) := by simpa using hp
      exact h2
  have st2 : ∀ k x y, k < n → ls.getD k (0, 0) = (x, y) → ¬ lates r x y → ¬ allLate r ls := fun k x y hk e h2 h3 => by
    refine h2 (h3 (x, y) ?_)
    rw [← e, List.getD_eq_getElem?_getD, List.getElem?_eq_getElem (by omega)]
    exact List.getElem_mem _
  have st3 : ∀ k x y, k < n → ls.getD k (0, 0) = (x, y) → steps r (K.start r) (ls.take (k + 1)) = K.step r (steps r (K.start r) (ls.take k)) x y ∧ rounds r (K.start r) (ls.take (k + 1)) = rounds r (K.start r) (ls.take k) ++ [K.round r (steps r (K.start r) (ls.take k))] := fun k x y hk e => by
    rw [take_snoc (0, 0) ls k (by omega), e]
    exact ⟨steps_snoc _ _ _ _, rounds_snoc _ _ _ _⟩
  have hw0 := wrong_ok.1 h
  have X := (Rul.new w _ rfl r.k0 r.k1 r.r r.m r.j).alloc (.cells #[.int .i64 0, .int .i64 0, .int .i64 0, .int .i64 0, .int .i64 0, .int .i64 0, .int .i64 0, .int .i64 0, .int .i64 0, .int .i64 0, .int .i64 0, .int .i64 0, .int .i64 0, .int .i64 0] 38)
  have Y := Sta.new (w.alloc (.cells #[.int .i64 r.k0, .int .i64 r.k1, .int .i64 r.r, .int .i64 r.m, .int .i64 r.j] 24)) (w.heap.size + 1) (by simp) 0 0 0 0 0 0 0 0 0 0 0 0 0 0
  have B : Below w.heap.size w ((w.alloc (.cells #[.int .i64 r.k0, .int .i64 r.k1, .int .i64 r.r, .int .i64 r.m, .int .i64 r.j] 24)).alloc (.cells #[.int .i64 0, .int .i64 0, .int .i64 0, .int .i64 0, .int .i64 0, .int .i64 0, .int .i64 0, .int .i64 0, .int .i64 0, .int .i64 0, .int .i64 0, .int .i64 0, .int .i64 0, .int .i64 0] 38)) := balloc (balloc (Below.refl _ _) _) _
  obtain ⟨x0, x1, x2, x3, x4, _, _, _, _, _⟩ := id X
  replace st1 : Hid _ := st1
  replace st2 : Hid _ := st2
  replace st3 : Hid _ := st3
  go_enter Try.func11, Try.ntmps11
  go_wp2_with (go_at_call 27; refine (sy _).mono ?_; clear sy x0 x1 x2 x3 x4; rintro xx v ⟨rfl, b⟩; have bl : w.heap.size + 1 < v.heap.size := block_lt (Y.kept b).c0; have P : PlAt w v.heap.size r.k0 r.k1 r.r r.m r.j r.k0 1 (-1) 0 0 0 r.k1 1 (-1) 0 0 0 0 0 (.slice none 0 0) [] (v.alloc (.cells #[.int .i64 r.k0, .int .i64 1, .int .i64 (-1), .int .i64 0, .int .i64 0, .int .i64 0, .int .i64 r.k1, .int .i64 1, .int .i64 (-1), .int .i64 0, .int .i64 0, .int .i64 0, .int .i64 0, .int .i64 0] 38)) := ⟨(X.kept b).alloc _, (Y.kept b).alloc _, Sta.new v _ rfl r.k0 1 (-1) 0 0 0 r.k1 1 (-1) 0 0 0 0 0, World.ownsRow_nil _ _ _ _, bl, balloc (bthen B b) _⟩; clear X Y B b)
  go_loopw [8, 9, 10] (fun e t i wr => ∃ k : Nat, k ≤ n ∧ i = .int .i64 k ∧ (e = .int .i64 0 ∧ allLate r (ls.take k) ∧ PlAt w v.heap.size r.k0 r.k1 r.r r.m r.j (steps r (K.start r) (ls.take k)).f0.k (steps r (K.start r) (ls.take k)).f0.n (steps r (K.start r) (ls.take k)).f0.b (steps r (K.start r) (ls.take k)).f0.a (steps r (K.start r) (ls.take k)).f0.s (steps r (K.start r) (ls.take k)).f0.q (steps r (K.start r) (ls.take k)).f1.k (steps r (K.start r) (ls.take k)).f1.n (steps r (K.start r) (ls.take k)).f1.b (steps r (K.start r) (ls.take k)).f1.a (steps r (K.start r) (ls.take k)).f1.s (steps r (K.start r) (ls.take k)).f1.q (steps r (K.start r) (ls.take k)).w0 (steps r (K.start r) (ls.take k)).w1 t (rounds r (K.start r) (ls.take k)) wr ∨ e = .int .i64 2 ∧ ¬ allLate r ls ∧ Sta wr (w.heap.size + 1) 0 0 0 0 0 0 0 0 0 0 0 0 0 0 ∧ Below w.heap.size w wr)) (fun _ _ i _ => n - (intOf i).toNat)
  case atStart => exact ⟨0, Nat.zero_le _, rfl, .inl ⟨rfl, by simp [allLate], P⟩⟩
  case round =>
    clear P
    obtain ⟨k, hk, rfl, ⟨rfl, hL, P⟩ | ⟨rfl, hno, Y, B⟩⟩ := hrel
    · have hp := steps_right (start_right hw0) hL
      have hRl : (rounds r (K.start r) (ls.take k)).length = k := by rw [rounds_len, List.length_take]; omega
      by_cases hlt : k < n
      · obtain ⟨bb, oo, rfl, hc⟩ := (hv.kept P.below).at (by omega)
        obtain ⟨cx, cy⟩ := hc k (by omega)
        obtain ⟨⟨x, y⟩, hxy⟩ : ∃ p, ls.getD k (0, 0) = p := ⟨_, rfl⟩
        rw [hxy] at cx cy
        simp only at cx cy
        have hltI : (k : Int) < n := by omega
        obtain ⟨T, D, E, sy, fin⟩ : ∃ (T : Sx) (D : Rx) (E : Int), (∀ v, Calls Try.prog 28 #[.agg #[.int .i64 r.k0, .int .i64 r.k1, .int .i64 r.r, .int .i64 r.m, .int .i64 r.j], .agg #[.int .i64 (steps r (K.start r) (ls.take k)).f0.k, .int .i64 (steps r (K.start r) (ls.take k)).f0.n, .int .i64 (steps r (K.start r) (ls.take k)).f0.b, .int .i64 (steps r (K.start r) (ls.take k)).f0.a, .int .i64 (steps r (K.start r) (ls.take k)).f0.s, .int .i64 (steps r (K.start r) (ls.take k)).f0.q, .int .i64 (steps r (K.start r) (ls.take k)).f1.k, .int .i64 (steps r (K.start r) (ls.take k)).f1.n, .int .i64 (steps r (K.start r) (ls.take k)).f1.b, .int .i64 (steps r (K.start r) (ls.take k)).f1.a, .int .i64 (steps r (K.start r) (ls.take k)).f1.s, .int .i64 (steps r (K.start r) (ls.take k)).f1.q, .int .i64 (steps r (K.start r) (ls.take k)).w0, .int .i64 (steps r (K.start r) (ls.take k)).w1], .agg #[.int .i64 x, .int .i64 y]] v fun e w' => e = .returned (.tuple #[.agg #[.int .i64 T.f0.k, .int .i64 T.f0.n, .int .i64 T.f0.b, .int .i64 T.f0.a, .int .i64 T.f0.s, .int .i64 T.f0.q, .int .i64 T.f1.k, .int .i64 T.f1.n, .int .i64 T.f1.b, .int .i64 T.f1.a, .int .i64 T.f1.s, .int .i64 T.f1.q, .int .i64 T.w0, .int .i64 T.w1], .agg #[.int .i64 D.s0, .int .i64 D.s1, .int .i64 D.c0, .int .i64 D.c1, .int .i64 D.l0, .int .i64 D.l1], .int .i64 E]) ∧ Below v.heap.size v w') ∧
            Hid (∀ t wr, PlAt w v.heap.size r.k0 r.k1 r.r r.m r.j T.f0.k T.f0.n T.f0.b T.f0.a T.f0.s T.f0.q T.f1.k T.f1.n T.f1.b T.f1.a T.f1.s T.f1.q T.w0 T.w1 t (rounds r (K.start r) (ls.take k) ++ [D]) wr → (Value.int .i64 E = .int .i64 0 ∧ allLate r (ls.take (k + 1)) ∧ PlAt w v.heap.size r.k0 r.k1 r.r r.m r.j (steps r (K.start r) (ls.take (k + 1))).f0.k (steps r (K.start r) (ls.take (k + 1))).f0.n (steps r (K.start r) (ls.take (k + 1))).f0.b (steps r (K.start r) (ls.take (k + 1))).f0.a (steps r (K.start r) (ls.take (k + 1))).f0.s (steps r (K.start r) (ls.take (k + 1))).f0.q (steps r (K.start r) (ls.take (k + 1))).f1.k (steps r (K.start r) (ls.take (k + 1))).f1.n (steps r (K.start r) (ls.take (k + 1))).f1.b (steps r (K.start r) (ls.take (k + 1))).f1.a (steps r (K.start r) (ls.take (k + 1))).f1.s (steps r (K.start r) (ls.take (k + 1))).f1.q (steps r (K.start r) (ls.take (k + 1))).w0 (steps r (K.start r) (ls.take (k + 1))).w1 t (rounds r (K.start r) (ls.take (k + 1))) wr ∨ Value.int .i64 E = .int .i64 2 ∧ ¬ allLate r ls ∧ Sta wr (w.heap.size + 1) 0 0 0 0 0 0 0 0 0 0 0 0 0 0 ∧ Below w.heap.size w wr)) := by
          by_cases hla : lates r x y
          · obtain ⟨e1, e2⟩ := st3.out k x y hlt hxy
            refine ⟨_, _, _, fun v => pstep_yes r (steps r (K.start r) (ls.take k)) x y hp hla v, fun t wr q => .inl ⟨rfl, st1.out k x y hlt hxy hL hla, ?_⟩⟩
            rw [e1, e2]; exact q
          · exact ⟨⟨⟨0, 0, 0, 0, 0, 0⟩, ⟨0, 0, 0, 0, 0, 0⟩, 0, 0⟩, ⟨0, 0, 0, 0, 0, 0⟩, 2, fun v => pstep_no r (steps r (K.start r) (ls.take k)) x y hp hla v, fun t wr q => .inr ⟨rfl, st2.out k x y hlt hxy hla, q.hT, q.below⟩⟩
        clear st1 st2 st3 hc hv hL hxy
        generalize steps r (K.start r) (ls.take k) = S at P sy hp
        generalize rounds r (K.start r) (ls.take k) = R at P fin hRl
        clear hp h hw0
        obtain ⟨⟨k0, n0, b0, a0, c0, q0⟩, ⟨k1, n1, b1, a1, c1, q1⟩, w0, w1⟩ := S
        obtain ⟨⟨k2, n2, b2, a2, c2, q2⟩, ⟨k3, n3, b3, a3, c3, q3⟩, z0, z1⟩ := T
        obtain ⟨s0, s1, g0, g1, l0, l1⟩ := D
        simp only at P sy
        have z0' : v.heap.size < wr.heap.size := block_lt P.hS.c0
        have zq : Hid (∀ q, u9.ownBlock = some q → q ≠ wr.heap.size) := fun q hq => by have := (P.own.lt q hq).2; omega
        have hbb : bb < wr.heap.size := block_lt cx
        replace P := P.alloc (.cells #[.int .i64 0, .int .i64 0, .int .i64 0, .int .i64 0, .int .i64 0, .int .i64 0] 76)
        have G := Rnd.new wr _ rfl 0 0 0 0 0 0
        obtain ⟨⟨r0, r1, r2, r3, r4, _, _, _, _, _⟩, _, ⟨y0, y1, y2, y3, y4, y5, y6, y7, y8, y9, y10, y11, y12, y13, h0, h1, h2, h3, h4, h5, h6, h7, h8, h9, h10, h11, h12, h13⟩, _, _, _⟩ := id P
        go_wp2
        go_region_with (first
          | (go_at_call 28; refine (sy _).mono ?_; clear sy r0 r1 r2 r3 r4 y0 y1 y2 y3 y4 y5 y6 y7 y8 y9 y10 y11 y12 y13 h0 h1 h2 h3 h4 h5 h6 h7 h8 h9 h10 h11 h12 h13 cx cy; rintro xx v1 ⟨rfl, b⟩; replace P := P.drew.kept b; replace G := G.drew.kept b; clear b; obtain ⟨_, _, ⟨y0, y1, y2, y3, y4, y5, y6, y7, y8, y9, y10, y11, y12, y13, h0, h1, h2, h3, h4, h5, h6, h7, h8, h9, h10, h11, h12, h13⟩, _, _, _⟩ := id P; obtain ⟨G0, G1, G2, G3, G4, G5, G6, G7, G8, G9, G10, G11⟩ := id G))
        all_goals
          have P2 := (((((((P.put k2 n2 b2 a2 c2 q2 k3 n3 b3 a3 c3 q3 z0 z1).far (D := wr.heap.size) (o := 0) z0' zq.out (.int .i64 s0)).far (D := wr.heap.size) (o := 1) z0' zq.out (.int .i64 s1)).far (D := wr.heap.size) (o := 2) z0' zq.out (.int .i64 g0)).far (D := wr.heap.size) (o := 3) z0' zq.out (.int .i64 g1)).far (D := wr.heap.size) (o := 4) z0' zq.out (.int .i64 l0)).far (D := wr.heap.size) (o := 5) z0' zq.out (.int .i64 l1))
          have G2' := (((((((((((((((G.far (D := v.heap.size) (o := 0) (by omega) (.int .i64 k2)).far (D := v.heap.size) (o := 1) (by omega) (.int .i64 n2)).far (D := v.heap.size) (o := 2) (by omega) (.int .i64 b2)).far (D := v.heap.size) (o := 3) (by omega) (.int .i64 a2)).far (D := v.heap.size) (o := 4) (by omega) (.int .i64 c2)).far (D := v.heap.size) (o := 5) (by omega) (.int .i64 q2)).far (D := v.heap.size) (o := 6) (by omega) (.int .i64 k3)).far (D := v.heap.size) (o := 7) (by omega) (.int .i64 n3)).far (D := v.heap.size) (o := 8) (by omega) (.int .i64 b3)).far (D := v.heap.size) (o := 9) (by omega) (.int .i64 a3)).far (D := v.heap.size) (o := 10) (by omega) (.int .i64 c3)).far (D := v.heap.size) (o := 11) (by omega) (.int .i64 q3)).far (D := v.heap.size) (o := 12) (by omega) (.int .i64 z0)).far (D := v.heap.size) (o := 13) (by omega) (.int .i64 z1)).put s0 s1 g0 g1 l0 l1)
          clear G0 G1 G2 G3 G4 G5 G6 G7 G8 G9 G10 G11 y0 y1 y2 y3 y4 y5 y6 y7 y8 y9 y10 y11 y12 y13 h0 h1 h2 h3 h4 h5 h6 h7 h8 h9 h10 h11 h12 h13 P G
          obtain ⟨W6, hW6⟩ : ∃ W6, ((((((((((((((((((((v1.setCell ⟨v.heap.size, 0, none⟩ (.int .i64 k2)).setCell ⟨v.heap.size, 1, none⟩ (.int .i64 n2)).setCell ⟨v.heap.size, 2, none⟩ (.int .i64 b2)).setCell ⟨v.heap.size, 3, none⟩ (.int .i64 a2)).setCell ⟨v.heap.size, 4, none⟩ (.int .i64 c2)).setCell ⟨v.heap.size, 5, none⟩ (.int .i64 q2)).setCell ⟨v.heap.size, 6, none⟩ (.int .i64 k3)).setCell ⟨v.heap.size, 7, none⟩ (.int .i64 n3)).setCell ⟨v.heap.size, 8, none⟩ (.int .i64 b3)).setCell ⟨v.heap.size, 9, none⟩ (.int .i64 a3)).setCell ⟨v.heap.size, 10, none⟩ (.int .i64 c3)).setCell ⟨v.heap.size, 11, none⟩ (.int .i64 q3)).setCell ⟨v.heap.size, 12, none⟩ (.int .i64 z0)).setCell ⟨v.heap.size, 13, none⟩ (.int .i64 z1)).setCell ⟨wr.heap.size, 0, none⟩ (.int .i64 s0)).setCell ⟨wr.heap.size, 1, none⟩ (.int .i64 s1)).setCell ⟨wr.heap.size, 2, none⟩ (.int .i64 g0)).setCell ⟨wr.heap.size, 3, none⟩ (.int .i64 g1)).setCell ⟨wr.heap.size, 4, none⟩ (.int .i64 l0)).setCell ⟨wr.heap.size, 5, none⟩ (.int .i64 l1)) = W6 := ⟨_, rfl⟩
          rw [hW6] at P2 G2' ⊢
          clear hW6
          have z9 : v.heap.size < W6.heap.size := block_lt P2.hS.c0
          have hcn : Hid _ := cell_six_new W6 ⟨s0, s1, g0, g1, l0, l1⟩
          obtain ⟨G0, G1, G2, G3, G4, G5, _, _, _, _, _, _⟩ := G2'
          have HP2 : Hid _ := P2
          clear P2
          go_wp2_with (at_builtin; refine wpList_append_own _ rfl _ _ 33 rfl (v.heap.size + 1) 76 i0 (.agg #[.int .i64 0, .int .i64 0, .int .i64 0, .int .i64 0, .int .i64 0, .int .i64 0]) 6 48 Try.underlying33 hi hz0 hz1 hz2 rfl (by decide) _ _ _ rfl (HP2.out.own.alloc _) ⟨W6.heap.size, 0, none⟩ 1 1 (cellsR ⟨s0, s1, g0, g1, l0, l1⟩) rfl rfl hcn.out (by simp [cellsR, Value.oneCell']) (by unfold maxLen; omega) (by omega) (by simp; omega) ?_; intro t' w2 hown' hgrow _; have hS := HP2.out.push hown' hgrow; clear hown' hgrow hcn HP2 G0 G1 G2 G3 G4 G5)
          go_roundw
          case rel => exact ⟨k + 1, by omega, by go_num, fin.out _ _ hS⟩
          case measure => simp [intOf]; omega
      · obtain rfl : k = n := by omega
        have hfull : ls.take k = ls := List.take_of_length_le (by omega)
        rw [hfull] at hL P hRl
        obtain ⟨ao, cp, et, hcp, hrr, hab⟩ := owned6 rfl P.own
        rw [hRl] at et hcp
        subst et
        have fin : Hid (∀ w', RRow w' ao (rounds r (K.start r) ls) → Below w.heap.size w w' → PAns r ls k w (.returned (.tuple #[.slice ao k cp, .agg #[.int .i64 (steps r (K.start r) ls).f0.k, .int .i64 (steps r (K.start r) ls).f0.n, .int .i64 (steps r (K.start r) ls).f0.b, .int .i64 (steps r (K.start r) ls).f0.a, .int .i64 (steps r (K.start r) ls).f0.s, .int .i64 (steps r (K.start r) ls).f0.q, .int .i64 (steps r (K.start r) ls).f1.k, .int .i64 (steps r (K.start r) ls).f1.n, .int .i64 (steps r (K.start r) ls).f1.b, .int .i64 (steps r (K.start r) ls).f1.a, .int .i64 (steps r (K.start r) ls).f1.s, .int .i64 (steps r (K.start r) ls).f1.q, .int .i64 (steps r (K.start r) ls).w0, .int .i64 (steps r (K.start r) ls).w1], .int .i64 0])) w') := fun w' q1 q2 => ⟨.inl ⟨hL, ao, cp, rfl, hcp, q1, fun q hq => by have := hab q hq; have := P.lo; omega⟩, q2⟩
        clear hab hL hfull st1 st2 st3 hv hp hw0 h
        generalize steps r (K.start r) ls = S at P fin
        generalize rounds r (K.start r) ls = R at P fin hrr
        obtain ⟨⟨k0, n0, b0, a0, c0, q0⟩, ⟨k1, n1, b1, a1, c1, q1⟩, w0, w1⟩ := S
        simp only at P fin
        have O := told1 P.hT P.below k0 n0 b0 a0 c0 q0 k1 n1 b1 a1 c1 q1 w0 w1
        obtain ⟨_, ⟨y0, y1, y2, y3, y4, y5, y6, y7, y8, y9, y10, y11, y12, y13, h0, h1, h2, h3, h4, h5, h6, h7, h8, h9, h10, h11, h12, h13⟩, ⟨t0, t1, t2, t3, t4, t5, t6, t7, t8, t9, t10, t11, t12, t13, _, _, _, _, _, _, _, _, _, _, _, _, _, _⟩, hown, hlo, hB⟩ := P
        have ev1 : ¬ w.heap.size + 1 = v.heap.size := by omega
        have ev2 : ¬ v.heap.size = w.heap.size + 1 := by omega
        have hrb : ∀ w', (∀ b o, b ≠ w.heap.size + 1 → w'.cell? ⟨b, o, none⟩ = wr.cell? ⟨b, o, none⟩) → RRow w' ao R := fun w' hw => by
          rcases hrr with e | ⟨b, o, e, q⟩
          · exact .inl e
          · refine .inr ⟨b, o, e, fun j hj => ?_⟩
            obtain ⟨hl', ⟨e1, _⟩ | ⟨g, cap, cur, e1, hg, _⟩⟩ := hown
            · rw [e] at e1; cases e1
            · rw [e] at e1
              injection e1 with e1 _ _
              injection e1 with e1
              injection e1 with e1 _ _
              have hne : b ≠ w.heap.size + 1 := by omega
              obtain ⟨f0, f1, f2, f3, f4, f5⟩ := q j hj
              exact ⟨(hw _ _ hne).trans f0, (hw _ _ hne).trans f1, (hw _ _ hne).trans f2, (hw _ _ hne).trans f3, (hw _ _ hne).trans f4, (hw _ _ hne).trans f5⟩
        replace hrb : Hid _ := hrb
        clear hown hrr hlo bl
        go_wp2
        go_region
        go_wp2
        obtain ⟨W6, hW6⟩ : ∃ W6, ((((((((((((((wr.setCell ⟨w.heap.size + 1, 0, none⟩ (.int .i64 k0)).setCell ⟨w.heap.size + 1, 1, none⟩ (.int .i64 n0)).setCell ⟨w.heap.size + 1, 2, none⟩ (.int .i64 b0)).setCell ⟨w.heap.size + 1, 3, none⟩ (.int .i64 a0)).setCell ⟨w.heap.size + 1, 4, none⟩ (.int .i64 c0)).setCell ⟨w.heap.size + 1, 5, none⟩ (.int .i64 q0)).setCell ⟨w.heap.size + 1, 6, none⟩ (.int .i64 k1)).setCell ⟨w.heap.size + 1, 7, none⟩ (.int .i64 n1)).setCell ⟨w.heap.size + 1, 8, none⟩ (.int .i64 b1)).setCell ⟨w.heap.size + 1, 9, none⟩ (.int .i64 a1)).setCell ⟨w.heap.size + 1, 10, none⟩ (.int .i64 c1)).setCell ⟨w.heap.size + 1, 11, none⟩ (.int .i64 q1)).setCell ⟨w.heap.size + 1, 12, none⟩ (.int .i64 w0)).setCell ⟨w.heap.size + 1, 13, none⟩ (.int .i64 w1)).drew = W6 := ⟨_, rfl⟩
        rw [hW6] at O ⊢
        obtain ⟨P, b6, hw6⟩ := O
        exact bodyPost_ret (v := .tuple #[.slice ao k cp, .agg #[.int .i64 k0, .int .i64 n0, .int .i64 b0, .int .i64 a0, .int .i64 c0, .int .i64 q0, .int .i64 k1, .int .i64 n1, .int .i64 b1, .int .i64 a1, .int .i64 c1, .int .i64 q1, .int .i64 w0, .int .i64 w1], .int .i64 0]) (by simp [results, Try.results11, go_sem, P.c0, P.c1, P.c2, P.c3, P.c4, P.c5, P.c6, P.c7, P.c8, P.c9, P.c10, P.c11, P.c12, P.c13]) rfl (fin.out _ (hrb.out _ hw6) b6)
    · have fin : Hid (∀ w', Below w.heap.size w w' → PAns r ls n w (.returned (.tuple #[.slice none 0 0, .agg #[.int .i64 0, .int .i64 0, .int .i64 0, .int .i64 0, .int .i64 0, .int .i64 0, .int .i64 0, .int .i64 0, .int .i64 0, .int .i64 0, .int .i64 0, .int .i64 0, .int .i64 0, .int .i64 0], .int .i64 2])) w') := fun w' q => ⟨.inr ⟨hno, rfl⟩, q⟩
      clear st1 st2 st3 hv hno h hw0
      obtain ⟨y0, y1, y2, y3, y4, y5, y6, y7, y8, y9, y10, y11, y12, y13, h0, h1, h2, h3, h4, h5, h6, h7, h8, h9, h10, h11, h12, h13⟩ := id Y
      by_cases h0 : (k : Int) < n
      case' neg => have h1 : decide ((k : Int) < n) = false := decide_eq_false h0
      all_goals
        go_wp2
        refine bodyPost_ret (v := .tuple #[.slice none 0 0, .agg #[.int .i64 0, .int .i64 0, .int .i64 0, .int .i64 0, .int .i64 0, .int .i64 0, .int .i64 0, .int .i64 0, .int .i64 0, .int .i64 0, .int .i64 0, .int .i64 0, .int .i64 0, .int .i64 0], .int .i64 2]) ?_ rfl (fin.out _ ?_)
        · simp [results, Try.results11, go_sem, y0, y1, y2, y3, y4, y5, y6, y7, y8, y9, y10, y11, y12, y13]
        · repeat (with_reducible refine Below.setCell ?_ (by simp) _)
          exact B


end Go.Proofs.Ytbnofjpiioneiaa.D
