/- PROVED: slices.Clone of pairs; tidewaitkeep.VerdictStarves, whole. CONDITIONS: none beyond each theorem's own. -/
import Derived.Test.YtbnofjpiioneiaaS44Vbo
import Derived.Test.YtbnofjpiioneiaaS45DConcat
namespace Go.Proofs.Ytbnofjpiioneiaa.D
open Go.RowKit K
set_option linter.unusedVariables false

theorem VGath.empty (w : World) : VGath w (.slice (some ⟨w.heap.size, 0, none⟩) 0 0) (w.alloc (.cells #[] 22)) [] :=
  ⟨World.ownsRow_lit (base := w.heap.size) (e := 22) (size := 2) w #[] 0 (Nat.le_refl _) (by unfold maxLen; omega) rfl, balloc (Below.refl _ _) _⟩
set_option maxHeartbeats 1600000 in
theorem clone_pairs (a : Option Addr) (na ca : Nat) (A : List (Int × Int)) (hn : A.length = na) (hl : na ≤ 300) (w : World) (hv : VRow w a A) :
    Calls Try.prog 17 #[.slice a na ca] w fun e w' => ∃ t, e = .returned t ∧ VGath w t w' A := by
  cases a with
  | none =>
    have hz : A = [] := by
      rcases hv with h | ⟨_, _, e, _⟩
      · exact h
      · cases e
    subst hz
    have he : ∀ w : World, (binOp .eql 25 (.slice none na ca) (.slice none 0 0)).run Try.prog w = .ok (.bool true) w := fun _ => by kernel_rfl
    have h0 := VGath.start w
    clear hv hn
    go_enter Try.func17, Try.ntmps17
    go_wp2
    go_ret
    exact ⟨_, rfl, h0⟩
  | some q =>
    have he : ∀ w : World, (binOp .eql 25 (.slice (some q) na ca) (.slice none 0 0)).run Try.prog w = .ok (.bool false) w := fun _ => by kernel_rfl
    have ap := fun ops rest o act Q hgd s x hop hty hs hx h => append_rowV (ops := ops) (rest := rest) (o := o) (act := act) (Q := Q) w (w.alloc (.cells #[] 22)) hgd s x hop hty _ [] A (some q) ca na hn hs hx (VGath.empty w) (hv.alloc _) (by simp; omega) h
    replace ap : Hid _ := ap
    clear hv hn
    go_enter Try.func17, Try.ntmps17
    go_wp2_with (at_builtin; refine ap.out _ _ _ _ _ rfl _ _ rfl rfl rfl rfl ?_; clear ap; intro t' w2 hS)
    go_ret
    exact ⟨_, rfl, hS⟩

set_option maxHeartbeats 3200000 in
theorem vst_bad (p0 p1 rr bf jt who ratio times k m E : Int) (w : World)
    (hbad : (E != 0) = true ∨ ((E != 0) = false ∧ (k != 2) = true) ∨ ((E != 0) = false ∧ (k != 2) = false ∧ decide (times < 0) = true) ∨ ((E != 0) = false ∧ (k != 2) = false ∧ decide (times < 0) = false ∧ decide (20 < times) = true))
    (al : ∀ v, Calls Try.prog 15 #[] v fun e w' => e = .returned (.bool true) ∧ Below v.heap.size v w')
    (j0 : ∀ v, Calls Try.prog 9 #[.agg #[.int .i64 p0, .int .i64 p1, .int .i64 rr, .int .i64 bf, .int .i64 jt], .int .i64 who, .int .i64 ratio] v fun e w' => ∃ a na ca b nb cb, e = .returned (.tuple #[.agg #[.int .i64 k, .int .i64 m, .slice a na ca, .slice b nb cb], .int .i64 E]) ∧ Below v.heap.size v w') :
    Calls Try.prog 6 #[.agg #[.int .i64 p0, .int .i64 p1, .int .i64 rr, .int .i64 bf, .int .i64 jt], .int .i64 who, .int .i64 ratio, .int .i64 times] w fun e w' => e = .returned (.bool true) ∧ Below w.heap.size w w' := by
  have B : Below w.heap.size w (w.alloc (.cells #[.int .i64 p0, .int .i64 p1, .int .i64 rr, .int .i64 bf, .int .i64 jt] 24)) := balloc (Below.refl _ _) _
  have X := Rul.new w _ rfl p0 p1 rr bf jt
  obtain ⟨x0, x1, x2, x3, x4, -, -, -, -, -⟩ := id X
  rcases hbad with c0 | ⟨c0, c1⟩ | ⟨c0, c1, c2⟩ | ⟨c0, c1, c2, c3⟩
  all_goals
    go_enter Try.func6, Try.ntmps6
    go_wp2_with (first
      | (go_at_call 15; refine (al _).mono ?_; clear al x0 x1 x2 x3 x4; rintro e w1 ⟨rfl, b1⟩; replace B := bthen B b1; replace X := X.kept b1; obtain ⟨x0, x1, x2, x3, x4, -, -, -, -, -⟩ := id X)
      | (go_at_call 9; refine (j0 _).mono ?_; clear j0 x0 x1 x2 x3 x4; rintro e w2 ⟨a, na, ca, b, nb, cb, rfl, b2⟩; replace B := balloc (bthen B b2) (.cells #[.int .i64 k, .int .i64 m, .slice a na ca, .slice b nb cb] 27); replace X := (X.kept b2).alloc (.cells #[.int .i64 k, .int .i64 m, .slice a na ca, .slice b nb cb] 27); obtain ⟨x0, x1, x2, x3, x4, -, -, -, -, -⟩ := id X; have V := Cls.new w2 #[.int .i64 k, .int .i64 m, .slice a na ca, .slice b nb cb] 27; have v0 := V.c 0 _ rfl))
    go_ret
    exact ⟨rfl, B⟩

set_option maxHeartbeats 6400000 in
theorem vst_ok (p0 p1 rr bf jt who ratio : Int) (N : Nat) (hN : N ≤ 20) (r : Ru) (w : World)
    (al : ∀ v, Calls Try.prog 15 #[] v fun e w' => e = .returned (.bool true) ∧ Below v.heap.size v w')
    (j0 : ∀ v, Calls Try.prog 9 #[.agg #[.int .i64 p0, .int .i64 p1, .int .i64 rr, .int .i64 bf, .int .i64 jt], .int .i64 who, .int .i64 ratio] v fun e w' => ∃ a na ca b nb cb A C, e = .returned (.tuple #[.agg #[.int .i64 2, .int .i64 0, .slice a na ca, .slice b nb cb], .int .i64 0]) ∧ Hid (Sv r who ratio A C ∧ A.length = na ∧ C.length = nb) ∧ (na ≤ 300 ∧ nb ≤ 300) ∧ VRow w' a A ∧ VRow w' b C ∧ Below v.heap.size v w')
    (pl : Hid (∀ A C v ao n cp, Sv r who ratio A C → (A ++ again C N).length = n → VRow v ao (A ++ again C N) → Calls Try.prog 16 #[.agg #[.int .i64 p0, .int .i64 p1, .int .i64 rr, .int .i64 bf, .int .i64 jt], .slice ao n cp] v fun e w' => ∃ ao' cp', ∃ y : Sx, e = .returned (.tuple #[.slice ao' n cp', .agg #[.int .i64 y.f0.k, .int .i64 y.f0.n, .int .i64 y.f0.b, .int .i64 y.f0.a, .int .i64 y.f0.s, .int .i64 y.f0.q, .int .i64 y.f1.k, .int .i64 y.f1.n, .int .i64 y.f1.b, .int .i64 y.f1.a, .int .i64 y.f1.s, .int .i64 y.f1.q, .int .i64 y.w0, .int .i64 y.w1], .int .i64 0]) ∧ n ≤ cp' ∧ RRow w' ao' (rounds r (K.start r) (A ++ again C N)) ∧ Below v.heap.size v w'))
    (br : Hid (∀ A C na n, Sv r who ratio A C → A.length = na → (A ++ again C N).length = n → ∃ tot, (N : Int) ≤ tot ∧ ∀ ao v c, RRow v ao (((rounds r (K.start r) (A ++ again C N)).take n).drop na) → Calls Try.prog 13 #[.slice ao (n - na) c, .int .i64 who, .int .i64 ratio] v fun e w' => e = .returned (.int .i64 tot) ∧ Below v.heap.size v w')) :
    Calls Try.prog 6 #[.agg #[.int .i64 p0, .int .i64 p1, .int .i64 rr, .int .i64 bf, .int .i64 jt], .int .i64 who, .int .i64 ratio, .int .i64 (N : Int)] w fun e w' => e = .returned (.bool true) ∧ Below w.heap.size w w' := by
  have B : Below w.heap.size w (w.alloc (.cells #[.int .i64 p0, .int .i64 p1, .int .i64 rr, .int .i64 bf, .int .i64 jt] 24)) := balloc (Below.refl _ _) _
  have X := Rul.new w _ rfl p0 p1 rr bf jt
  obtain ⟨x0, x1, x2, x3, x4, -, -, -, -, -⟩ := id X
  have c2 : decide ((N : Int) < 0) = false := decide_eq_false (by omega)
  have c3 : decide (20 < (N : Int)) = false := decide_eq_false (by omega)
  go_enter Try.func6, Try.ntmps6
  go_upto_region 6 with (first
      | (go_at_call 15; refine (al _).mono ?_; clear al x0 x1 x2 x3 x4; rintro e w1 ⟨rfl, b1⟩; replace B := bthen B b1; replace X := X.kept b1; obtain ⟨x0, x1, x2, x3, x4, -, -, -, -, -⟩ := id X)
      | (go_at_call 9; refine (j0 _).mono ?_; clear j0 x0 x1 x2 x3 x4; rintro e w2 ⟨a, na, ca, b, nb, cb, A, C, rfl, sv, ⟨hna, hnb⟩, va, vc, b2⟩; replace B := balloc (bthen B b2) (.cells #[.int .i64 2, .int .i64 0, .slice a na ca, .slice b nb cb] 27); replace X := (X.kept b2).alloc (.cells #[.int .i64 2, .int .i64 0, .slice a na ca, .slice b nb cb] 27); obtain ⟨x0, x1, x2, x3, x4, -, -, -, -, -⟩ := id X; have V := Cls.new w2 #[.int .i64 2, .int .i64 0, .slice a na ca, .slice b nb cb] 27; have v0 := V.c 0 _ rfl; replace va := va.alloc (.cells #[.int .i64 2, .int .i64 0, .slice a na ca, .slice b nb cb] 27); replace vc := vc.alloc (.cells #[.int .i64 2, .int .i64 0, .slice a na ca, .slice b nb cb] 27)))
  clear v0 x0 x1 x2 x3 x4 c2 c3
  obtain ⟨W0, hW0⟩ : ∃ W0, w2.alloc (.cells #[.int .i64 2, .int .i64 0, .slice a na ca, .slice b nb cb] 27) = W0 := ⟨_, rfl⟩
  rw [hW0] at B X V va vc ⊢
  clear hW0
  have v2 := V.c 2 _ rfl
  have la : Hid (A.length = na) := sv.out.2.1
  have lc : Hid (C.length = nb) := sv.out.2.2
  have cl := clone_pairs a na ca A la.out hna W0 va
  go_wp2_with (go_at_call 17; refine cl.mono ?_; clear cl v2; rintro e W1 ⟨t0, rfl, hG0⟩)
  go_loopw [11, 43] (fun t i wr => ∃ k : Nat, k ≤ N ∧ i = .int .i64 k ∧ VGath W0 t wr (A ++ again C k)) (fun _ i _ => N - (intOf i).toNat)
  case atStart => exact ⟨0, Nat.zero_le _, rfl, by rw [show A ++ again C 0 = A from List.append_nil A]; exact hG0⟩
  case round =>
    obtain ⟨k, hk, rfl, hG⟩ := hrel
    clear hG0
    have hlen : ∀ q, (A ++ again C q).length = na + q * nb := fun q => by
      rw [List.length_append, la.out]
      congr 1
      induction q with
      | zero => simp [again]
      | succ q ih => show (again C q ++ C).length = _; rw [List.length_append, ih, lc.out, Nat.add_mul]; omega
    have hmul : ∀ q, q ≤ 20 → q * nb ≤ 6000 := fun q hq => Nat.le_trans (Nat.mul_le_mul hq hnb) (by decide)
    by_cases hlt : k < N
    · have hI : (k : Int) < (N : Int) := by omega
      have hb := hG.below
      have v3 := (V.kept hb).c 3 _ rfl
      have hL := hlen k
      have hM := hmul k (by omega)
      have ap := fun ops rest o act Q hgd s x hop hty hs hx h => append_rowV (ops := ops) (rest := rest) (o := o) (act := act) (Q := Q) W0 wr hgd s x hop hty _ (A ++ again C k) C b cb nb lc.out hs hx hG (vc.kept hb) (by rw [hL]; omega) h
      replace ap : Hid _ := ap
      replace hlen : Hid _ := hlen
      replace hmul : Hid _ := hmul
      clear hL hM hb
      go_wp2_with (at_builtin; refine ap.out _ _ _ _ _ rfl _ _ rfl rfl rfl rfl ?_; clear ap; intro t' w4 hS)
      go_roundw
      case rel => exact ⟨k + 1, by omega, by go_num, by rw [List.append_assoc] at hS; exact hS⟩
      case measure => simp [intOf]; omega
    · obtain rfl : k = N := by omega
      have hI : decide ((k : Int) < (k : Int)) = false := decide_eq_false (by omega)
      have hL := hlen k
      have hM := hmul k (by omega)
      obtain ⟨ao, cp, rfl, hcp, hvr⟩ := hG.done (n := na + k * nb) hL
      have hb := hG.below
      obtain ⟨n, hn⟩ : ∃ n, na + k * nb = n := ⟨_, rfl⟩
      rw [hn] at hL hcp ⊢
      have hna2 : na ≤ n := by omega
      have hn6 : n ≤ 6300 := by omega
      replace hL : Hid _ := hL
      have pc := fun v hv => pl.out A C v ao n cp sv.out.1 hL.out hv
      have X2 := X.kept hb
      have V2 := V.kept hb
      have B2 : Below w.heap.size w wr := bthen B hb
      clear hG X V B hlen hmul hn hM hb va vc
      obtain ⟨x0, x1, x2, x3, x4, -, -, -, -, -⟩ := id X2
      go_upto_region 12 with (go_at_call 16; refine (pc _ hvr).mono ?_; clear pc x0 x1 x2 x3 x4 pl; rintro e w5 ⟨ao', cp', y, rfl, hc', hR, b5⟩; replace B2 := balloc (bthen B2 b5) (.cells #[.int .i64 y.f0.k, .int .i64 y.f0.n, .int .i64 y.f0.b, .int .i64 y.f0.a, .int .i64 y.f0.s, .int .i64 y.f0.q, .int .i64 y.f1.k, .int .i64 y.f1.n, .int .i64 y.f1.b, .int .i64 y.f1.a, .int .i64 y.f1.s, .int .i64 y.f1.q, .int .i64 y.w0, .int .i64 y.w1] 38); replace V2 := (V2.kept b5).kept (balloc (Below.refl _ w5) (.cells #[.int .i64 y.f0.k, .int .i64 y.f0.n, .int .i64 y.f0.b, .int .i64 y.f0.a, .int .i64 y.f0.s, .int .i64 y.f0.q, .int .i64 y.f1.k, .int .i64 y.f1.n, .int .i64 y.f1.b, .int .i64 y.f1.a, .int .i64 y.f1.s, .int .i64 y.f1.q, .int .i64 y.w0, .int .i64 y.w1] 38)); replace hR := hR.alloc (.cells #[.int .i64 y.f0.k, .int .i64 y.f0.n, .int .i64 y.f0.b, .int .i64 y.f0.a, .int .i64 y.f0.s, .int .i64 y.f0.q, .int .i64 y.f1.k, .int .i64 y.f1.n, .int .i64 y.f1.b, .int .i64 y.f1.a, .int .i64 y.f1.s, .int .i64 y.f1.q, .int .i64 y.w0, .int .i64 y.w1] 38))
      have v2 := V2.c 2 _ rfl
      have e1 : ((n : Int) == (n : Int)) = true := by simp
      have f0 : (na : Int) ≤ (n : Int) := by omega
      have f1 : (n : Int) ≤ (cp' : Int) := by omega
      have hRl : Hid ((rounds r (K.start r) (A ++ again C k)).length = n) := by show _ = _; rw [rounds_len, hL.out]
      obtain ⟨tot, ht, fin⟩ := br.out A C na n sv.out.1 la.out hL.out
      obtain ⟨Nn, hNn⟩ : ∃ Nn, n - na = Nn := ⟨_, rfl⟩
      rw [hNn] at fin
      replace fin : Hid _ := fin
      have htop : decide ((k : Int) ≤ tot) = true := decide_eq_true ht
      clear br sv la lc ht
      cases ao' with
      | none =>
        have hz : rounds r (K.start r) (A ++ again C k) = [] := by
          rcases hR with h | ⟨_, _, e, _⟩
          · exact h
          · cases e
        have hr : Hid (∀ v ao', RRow v ao' (((rounds r (K.start r) (A ++ again C k)).take n).drop na)) := fun v ao' => .inl (by rw [hz]; simp)
        clear hz hR
        go_wp2_with (go_at_call 13; refine (fin.out _ _ _ (hr.out _ _)).mono ?_; clear fin; rintro e w6 ⟨rfl, b6⟩; replace B2 := bthen B2 b6)
        go_ret
        exact ⟨rfl, B2⟩
      | some q =>
        by_cases hcf : cp' = na
        · have hr : Hid (∀ v ao', RRow v ao' (((rounds r (K.start r) (A ++ again C k)).take n).drop na)) := fun v ao' => .inl (sub_nil (by omega))
          clear hR
          subst hcf
          go_wp2_with (go_at_call 13; refine (fin.out _ _ _ (hr.out _ _)).mono ?_; clear fin; rintro e w6 ⟨rfl, b6⟩; replace B2 := bthen B2 b6)
          go_ret
          exact ⟨rfl, B2⟩
        · have hr := hR.cut na n
          clear hR
          go_wp2_with (go_at_call 13; refine (fin.out _ _ _ hr).mono ?_; clear fin; rintro e w6 ⟨rfl, b6⟩; replace B2 := bthen B2 b6)
          go_ret
          exact ⟨rfl, B2⟩

theorem again_len (C : List (Int × Int)) (q : Nat) : (again C q).length = q * C.length := by
  induction q with
  | zero => simp [again]
  | succ q ih => show (again C q ++ C).length = _; rw [List.length_append, ih, Nat.add_mul]; omega
theorem again_late {r : Ru} {C : List (Int × Int)} (h : allLate r C) (q : Nat) : allLate r (again C q) := by
  induction q with
  | zero => intro p hp; cases hp
  | succ q ih =>
    intro p hp
    rcases List.mem_append.1 hp with h1 | h1
    · exact ih p h1
    · exact h p h1
theorem late_app {r : Ru} {A C : List (Int × Int)} (ha : allLate r A) (hc : allLate r C) : allLate r (A ++ C) := fun p hp => by
  rcases List.mem_append.1 hp with h | h
  · exact ha p h
  · exact hc p h
theorem rounds_behind {r : Ru} {A C : List (Int × Int)} {na n : Nat} (ha : A.length = na) (hn : (A ++ C).length = n) : ((rounds r (K.start r) (A ++ C)).take n).drop na = rounds r (steps r (K.start r) A) C := by
  have hl := rounds_len r (K.start r) (A ++ C)
  rw [List.take_of_length_le (by omega), rounds_append, List.drop_append_of_le_length (by rw [rounds_len]; omega), List.drop_of_length_le (by rw [rounds_len]; omega), List.nil_append]
theorem verdictStarves_go (r : Ru) (who ratio times : Int) (w : World) : Calls Try.prog 6 #[.agg #[.int .i64 r.k0, .int .i64 r.k1, .int .i64 r.r, .int .i64 r.m, .int .i64 r.j], .int .i64 who, .int .i64 ratio, .int .i64 times] w fun e w' => e = .returned (.bool true) ∧ Below w.heap.size w w' := by
  obtain ⟨k, m, E, h⟩ := jv_some r who ratio
  have al := fun v => alive20 v
  have j0 := fun v => judge_jv h v
  by_cases hE : E = 0
  · subst hE
    rcases id h with ⟨he, _⟩ | ⟨T, d, hb, rfl, rfl, _⟩ | ⟨T, hs, rfl, rfl, _⟩
    · have := he.ne; simp at this
    · exact vst_bad _ _ _ _ _ _ _ _ _ _ _ w (.inr (.inl ⟨by decide, by decide⟩)) al j0
    · by_cases t0 : times < 0
      · exact vst_bad _ _ _ _ _ _ _ _ _ _ _ w (.inr (.inr (.inl ⟨by decide, by decide, decide_eq_true t0⟩))) al j0
      by_cases t1 : 20 < times
      · exact vst_bad _ _ _ _ _ _ _ _ _ _ _ w (.inr (.inr (.inr ⟨by decide, by decide, decide_eq_false t0, decide_eq_true t1⟩))) al j0
      obtain ⟨N, rfl⟩ : ∃ N : Nat, times = (N : Int) := ⟨times.toNat, by omega⟩
      have hN : N ≤ 20 := by omega
      have hk := wrong_ok.1 hs.ok
      have hlen : ∀ A C n, Sv r who ratio A C → (A ++ again C N).length = n → n ≤ 6300 := fun A C n sv hn => by
        rw [List.length_append, again_len] at hn
        have := sv.la
        have h2 := Nat.mul_le_mul hN sv.lc
        omega
      refine vst_ok _ _ _ _ _ _ _ N hN r w al (fun v => ?_) (fun A C v ao n cp sv hn hv => ?_) (fun A C na n sv ha hn => ?_)
      · refine (judge_stv hs v).mono ?_
        rintro e w' ⟨a, na, ca, b, nb, cb, A, C, rfl, sv, la, lc, va, vc, hb⟩
        exact ⟨a, na, ca, b, nb, cb, A, C, rfl, ⟨sv, la, lc⟩, ⟨la ▸ sv.la, lc ▸ sv.lc⟩, va, vc, hb⟩
      · have h6 := hlen A C n sv hn
        have hall := late_app sv.a (again_late sv.c N)
        refine (play_any r hs.ok ao cp n _ hn (by omega) v hv).mono ?_
        rintro e w' ⟨⟨_, ao', cp', rfl, hc, hr, _⟩ | ⟨hx, _⟩, b⟩
        · exact ⟨ao', cp', _, rfl, hc, hr, b⟩
        · exact absurd hall hx
      · have h6 := hlen A C n sv hn
        have hall := late_app sv.a (again_late sv.c N)
        have e := rounds_behind (r := r) ha hn
        obtain ⟨_, g2⟩ := again_run sv.back (wgt who ratio) N
        refine ⟨total (wgt who ratio) (((rounds r (K.start r) (A ++ again C N)).take n).drop na), ?_, fun ao v c hR => brings hs.rg ao c (n - na) _ ?_ (by omega) (fun x hx => ?_) v hR⟩
        · rw [e, g2]
          have := sv.more
          have h1 : (N : Int) * 1 ≤ (N : Int) * total (wgt who ratio) (rounds r (steps r (K.start r) A) C) := Int.mul_le_mul_of_nonneg_left (by omega) (by omega)
          omega
        · rw [List.length_drop, List.length_take, rounds_len, hn]; omega
        · obtain ⟨_, _, q1, q2, _⟩ := rounds_in (start_right hk) hall x (List.mem_of_mem_take (List.mem_of_mem_drop hx))
          exact ⟨q1, q2⟩
  · exact vst_bad _ _ _ _ _ _ _ _ _ _ _ w (.inl (bne_iff_ne.2 hE)) al j0

end Go.Proofs.Ytbnofjpiioneiaa.D
