/- PROVED: tidewaitkeep.SteadyWeighs, over what States, Graph and Play answer. CONDITIONS: what they answer. tidewaitkeep.SteadyWeighs, whole. CONDITIONS: what States, Graph and alive19 answer. CONDITIONS: none beyond each theorem's own. -/
import Derived.Test.YtilpooifggofiaaB45Wei
import Derived.Test.YtilpooifggofiaaB46Wek
import Derived.Test.YtilpooifggofiaaB35DPlay
import Derived.Test.YtilpooifggofiaaB42Gra
namespace Go.Proofs.Ytilpooifggofiaa.D
open Go.RowKit K
set_option linter.unusedVariables false

set_option maxRecDepth 100000 in
set_option maxHeartbeats 12800000 in
theorem wei_bad (r : Ru) (who ratio F : Int) (hF : (F != 0) = true) (q E T len : Nat) (hq : r.j + 1 = (q : Int)) (hqE : (q : Int) * (q : Int) = (E : Int)) (hq4 : q ≤ 4) (hE16 : E ≤ 16) (hT : (E : Int) * (len : Int) = (T : Int)) (hll : len ≤ 300)
    (a : Option Addr) (cap n : Nat) (ls : List (Int × Int)) (w : World) (hv : VRow w a ls)
    (al : ∀ v, Calls Try.prog 16 #[] v fun e w' => e = .returned (.bool true) ∧ Below v.heap.size v w')
    (st : ∀ v, Calls Try.prog 8 #[.agg #[.int .i64 r.k0, .int .i64 r.k1, .int .i64 r.r, .int .i64 r.m, .int .i64 r.j]] v fun e w' => ∃ g cp, e = .returned (.tuple #[.slice (some ⟨g, 0, none⟩) len cp, .int .i64 0]) ∧ Below v.heap.size v w')
    (gr : ∀ v, Calls Try.prog 10 #[.agg #[.int .i64 r.k0, .int .i64 r.k1, .int .i64 r.r, .int .i64 r.m, .int .i64 r.j], .int .i64 who, .int .i64 ratio] v fun e w' => ∃ h c, e = .returned (.tuple #[.agg #[.int .i64 len, .slice (some ⟨h, 0, none⟩) T c], .int .i64 0]) ∧ Below v.heap.size v w')
    (pl : ∀ v, VRow v a ls → Calls Try.prog 17 #[.agg #[.int .i64 r.k0, .int .i64 r.k1, .int .i64 r.r, .int .i64 r.m, .int .i64 r.j], .slice a n cap] v fun e w' => e = .returned (.tuple #[.slice none 0 0, .agg #[.int .i64 0, .int .i64 0, .int .i64 0, .int .i64 0, .int .i64 0, .int .i64 0, .int .i64 0, .int .i64 0, .int .i64 0, .int .i64 0, .int .i64 0, .int .i64 0, .int .i64 0, .int .i64 0], .int .i64 F]) ∧ Below v.heap.size v w') :
    Calls Try.prog 6 #[.agg #[.int .i64 r.k0, .int .i64 r.k1, .int .i64 r.r, .int .i64 r.m, .int .i64 r.j], .int .i64 who, .int .i64 ratio, .slice a n cap] w fun e w' => e = .returned (.bool true) ∧ Below w.heap.size w w' := by
  have X := Rul.new w _ rfl r.k0 r.k1 r.r r.m r.j
  have B : Below w.heap.size w (w.alloc (.cells #[.int .i64 r.k0, .int .i64 r.k1, .int .i64 r.r, .int .i64 r.m, .int .i64 r.j] 24)) := balloc (Below.refl _ _) _
  replace hv := hv.alloc (.cells #[.int .i64 r.k0, .int .i64 r.k1, .int .i64 r.r, .int .i64 r.m, .int .i64 r.j] 24)
  have hTl : T ≤ 4800 := by
    have h1 : E * len ≤ 16 * 300 := Nat.mul_le_mul hE16 hll
    have h2 : ((E * len : Nat) : Int) = (T : Int) := by rw [Int.natCast_mul]; exact hT
    omega
  have hwE : IntKind.i64.wrap (E : Int) = (E : Int) := wrapIn (by omega)
  have hwT : IntKind.i64.wrap (T : Int) = (T : Int) := wrapIn (by omega)
  have hwq : IntKind.i64.wrap (q : Int) = (q : Int) := wrapIn (by omega)
  obtain ⟨x0, x1, x2, x3, x4, _, _, _, _, _⟩ := id X
  go_enter Try.func6, Try.ntmps6
  go_wp2_with (first
    | (go_at_call 16; refine (al _).mono ?_; clear al x0 x1 x2 x3 x4; rintro e v1 ⟨rfl, b⟩; replace X := X.kept b; replace hv := hv.kept b; replace B := bthen B b; obtain ⟨x0, x1, x2, x3, x4, _, _, _, _, _⟩ := id X)
    | (go_at_call 8; refine (st _).mono ?_; clear st x0 x1 x2 x3 x4; rintro e v1 ⟨g, cp, rfl, b⟩; replace X := X.kept b; replace hv := hv.kept b; replace B := bthen B b; obtain ⟨x0, x1, x2, x3, x4, _, _, _, _, _⟩ := id X)
    | (go_at_call 10; refine (gr _).mono ?_; clear gr x0 x1 x2 x3 x4; rintro e v2 ⟨h, c, rfl, b⟩; replace X := X.kept (balloc b (.cells #[.int .i64 len, .slice (some ⟨h, 0, none⟩) T c] 40)); replace hv := hv.kept (balloc b (.cells #[.int .i64 len, .slice (some ⟨h, 0, none⟩) T c] 40)); replace B := balloc (bthen B b) (.cells #[.int .i64 len, .slice (some ⟨h, 0, none⟩) T c] 40); have G0 : (v2.alloc (.cells #[.int .i64 len, .slice (some ⟨h, 0, none⟩) T c] 40)).cell? ⟨v2.heap.size, 0, none⟩ = some (.int .i64 len) := (by rw [World.cell?_alloc_at _ _ _ _ rfl]; rfl); have G1 : (v2.alloc (.cells #[.int .i64 len, .slice (some ⟨h, 0, none⟩) T c] 40)).cell? ⟨v2.heap.size, 1, none⟩ = some (.slice (some ⟨h, 0, none⟩) T c) := (by rw [World.cell?_alloc_at _ _ _ _ rfl]; rfl); obtain ⟨x0, x1, x2, x3, x4, _, _, _, _, _⟩ := id X)
    | (go_at_call 17; refine (pl _ hv).mono ?_; clear pl x0 x1 x2 x3 x4; rintro e v3 ⟨rfl, b⟩; have b2 := balloc b (.cells #[.int .i64 0, .int .i64 0, .int .i64 0, .int .i64 0, .int .i64 0, .int .i64 0, .int .i64 0, .int .i64 0, .int .i64 0, .int .i64 0, .int .i64 0, .int .i64 0, .int .i64 0, .int .i64 0] 48); replace B := bthen B b2))
  obtain ⟨W3, hW3⟩ : ∃ W3, v3.alloc (.cells #[.int .i64 0, .int .i64 0, .int .i64 0, .int .i64 0, .int .i64 0, .int .i64 0, .int .i64 0, .int .i64 0, .int .i64 0, .int .i64 0, .int .i64 0, .int .i64 0, .int .i64 0, .int .i64 0] 48) = W3 := ⟨_, rfl⟩
  rw [hW3] at B ⊢
  clear hW3 b b2
  go_loopw [17, 76] (fun tv iv wr => iv = .int .i64 0 ∧ tv = .int .i64 0 ∧ wr = W3) (fun _ _ _ => 0)
  case atStart => exact ⟨rfl, rfl, rfl⟩
  case round =>
    obtain ⟨rfl, rfl, rfl⟩ := hrel
    go_wp2
    go_ret
    exact ⟨rfl, B⟩

end Go.Proofs.Ytilpooifggofiaa.D

namespace Go.Proofs.Ytilpooifggofiaa.D
open Go.RowKit K
set_option linter.unusedVariables false

theorem rounds_get (r : Ru) : ∀ (ls : List (Int × Int)) (s : Sx) (k : Nat), k < ls.length → (rounds r s ls)[k]? = some (K.round r (steps r s (ls.take k))) := by
  intro ls
  induction ls with
  | nil => intro s k h; simp at h
  | cons p ls ih =>
    intro s k h
    cases k with
    | zero => rfl
    | succ k =>
      have := ih (K.step r s p.1 p.2) k (by simpa using h)
      exact this
theorem take_step (r : Ru) (s : Sx) (ls : List (Int × Int)) {k : Nat} {p : Int × Int} (h : ls[k]? = some p) : steps r s (ls.take (k + 1)) = K.step r (steps r s (ls.take k)) p.1 p.2 := by
  have hk := (List.getElem?_eq_some_iff.1 h).1
  have e : ls.take (k + 1) = ls.take k ++ [p] := by
    rw [List.take_add_one, h]; rfl
  rw [e, steps_append]
  rfl
theorem all_take {r : Ru} {ls : List (Int × Int)} (h : allLate r ls) (k : Nat) : allLate r (ls.take k) := fun p hp => h p (List.mem_of_mem_take hp)

section
variable {r : Ru} {T : Nat} {ls : List (Int × Int)}
/-- the number of the state behind k rounds -/
def Ak (r : Ru) (T : Nat) (ls : List (Int × Int)) (k : Nat) : Nat := ix (xp r T).1 (steps r (K.start r) (ls.take k))
theorem ak_in (hr : ranges r) (hT : Dn r T) (hl : allLate r ls) (k : Nat) : Ak r T ls k < (xp r T).1.length ∧ (xp r T).1[Ak r T ls k]? = some (steps r (K.start r) (ls.take k)) := ix_mem (run_in hr hT (all_take hl k))
theorem ak_zero (hT : Dn r T) : Ak r T ls 0 = 0 := ix_at (ex_nodup hT.1) (ex_first hT.1)
/-- the edge of round k -/
theorem ak_edge (hr : ranges r) (hT : Dn r T) (hl : allLate r ls) {k : Nat} {p : Int × Int} (hp : ls[k]? = some p) : ∃ (X Y u : Nat), p.1 = X ∧ p.2 = Y ∧ X ≤ 3 ∧ Y ≤ 3 ∧ ee r * Ak r T ls k + X * jj r + Y = u ∧ u < T ∧ u / ee r = Ak r T ls k ∧ (xp r T).2.getD u 0 = Ak r T ls (k + 1) := by
  have hlp := hl p (List.mem_of_getElem? hp)
  obtain ⟨n1, n2⟩ := nl_lt hr hlp
  obtain ⟨a1, a2⟩ := ak_in hr hT hl k
  have hlp' := hlp
  unfold lates at hlp'
  have hr3 := hr.2.2
  obtain ⟨i, i1, i2⟩ := done_closed hT.done a2 n1
  refine ⟨p.1.toNat, p.2.toNat, ee r * Ak r T ls k + nl r p, by omega, by omega, by omega, by omega, by unfold nl; omega, ?_, ?_, ?_⟩
  · have h1 : ee r * (Ak r T ls k + 1) ≤ ee r * (xp r T).1.length := Nat.mul_le_mul_left _ a1
    rw [Nat.mul_add, Nat.mul_one] at h1
    have e := hT.2.1
    omega
  · rw [Nat.mul_add_div (ee_pos r), Nat.div_eq_of_lt n1, Nat.add_zero]
  · have i1' : (xp r T).2[ee r * Ak r T ls k + nl r p]? = some i := i1
    rw [List.getD_eq_getElem?_getD, i1']
    show i = _
    have e : (xp r T).1[i]? = some (steps r (K.start r) (ls.take (k + 1))) := by
      rw [take_step r (K.start r) ls hp, ← n2]
      exact i2
    exact (ix_at (ex_nodup hT.1) e).symm
end

theorem weighs_run (who : Int) (hwh : who = 0 ∨ who = 1) (r : Ru) (ratio : Int) (hra : 1 ≤ ratio ∧ ratio ≤ 100) (h : wrong r = 0) (T : Nat) (hT : Dn r T) (gS : GrSome) (ls : List (Int × Int)) (g : allLate r ls) (v : World) :
    Calls Try.prog 10 #[.agg #[.int .i64 r.k0, .int .i64 r.k1, .int .i64 r.r, .int .i64 r.m, .int .i64 r.j], .int .i64 who, .int .i64 ratio] v fun e w' => ∃ h c, e = .returned (.tuple #[.agg #[.int .i64 ((xp r T).1.length : Nat), .slice (some ⟨h, 0, none⟩) T c], .int .i64 0]) ∧ T ≤ c ∧ (∀ k x y, k < ls.length → (x, y) = ls.getD k (0, 0) → ∃ (X Y u : Nat), x = X ∧ y = Y ∧ X ≤ 3 ∧ Y ≤ 3 ∧ ee r * Ak r T ls k + X * jj r + Y = u ∧ u < T ∧ EAt w' h (u * 3) (Ak r T ls k : Int) (Ak r T ls (k + 1) : Int) (wgt who ratio ((rounds r (K.start r) ls).getD k R0))) ∧ Below v.heap.size v w' := by
  have hr := (wrong_ok.1 h).2
  refine (gS r T who ratio h hT (by omega) hra v).mono ?_
  rintro e w' ⟨h', cp, rfl, hc, hE, b⟩
  refine ⟨h', cp, rfl, hc, fun k x y hk hxy => ?_, b⟩
  have hp : ls[k]? = some (x, y) := by
    rw [hxy, List.getD_eq_getElem?_getD, List.getElem?_eq_getElem hk]; rfl
  obtain ⟨X, Y, u, a1, a2, a3, a4, a5, a6, a7, a8⟩ := ak_edge hr hT g hp
  refine ⟨X, Y, u, a1, a2, a3, a4, a5, a6, ?_⟩
  have := hE u a6
  rw [a7, a8] at this
  have e1 : (xp r T).1.getD (Ak r T ls k) (K.start r) = steps r (K.start r) (ls.take k) := by
    rw [List.getD_eq_getElem?_getD, (ak_in hr hT g k).2]; rfl
  have e2 : (rounds r (K.start r) ls).getD k R0 = K.round r (steps r (K.start r) (ls.take k)) := by
    rw [List.getD_eq_getElem?_getD, rounds_get r ls (K.start r) k hk]; rfl
  rw [e1] at this
  rw [e2]
  exact this

theorem steadyWeighs_go (sS : StSome) (sF : StFull) (sW : StWrong) (gS : GrSome) (gF : GrFull) (gW : GrWrong) (gR : GrRange) (al : AlYes) (r : Ru) (who ratio : Int) (a : Option Addr) (cap : Nat) (ls : List (Int × Int)) (hl : ls.length ≤ 1048576) (w : World) (hv : VRow w a ls) :
    Calls Try.prog 6 #[.agg #[.int .i64 r.k0, .int .i64 r.k1, .int .i64 r.r, .int .i64 r.m, .int .i64 r.j], .int .i64 who, .int .i64 ratio, .slice a ls.length cap] w fun e w' => e = .returned (.bool true) ∧ Below w.heap.size w w' := by
  by_cases hin : (0 ≤ who ∧ who ≤ 1) ∧ 1 ≤ ratio ∧ ratio ≤ 100
  · by_cases h : wrong r = 0
    · have hr := (wrong_ok.1 h).2
      obtain ⟨hj1, hj4, he16⟩ := jj_cast hr
      rcases dn_or r with ⟨T, hT⟩ | hF
      · have hTi : ((ee r : Nat) : Int) * (((xp r T).1.length : Nat) : Int) = (T : Int) := by
          rw [← Int.natCast_mul, ← hT.2.1]
        have hqE : ((jj r : Nat) : Int) * ((jj r : Nat) : Int) = ((ee r : Nat) : Int) := by rw [← Int.natCast_mul]; rfl
        have hp := fun v q => play_any r h a cap ls.length ls rfl hl v q
        by_cases g : allLate r ls
        · have hR : (rounds r (K.start r) ls).length = ls.length := rounds_len r _ ls
          have hRb : ∀ k, k < ls.length → (0 ≤ ((rounds r (K.start r) ls).getD k R0).c0 ∧ ((rounds r (K.start r) ls).getD k R0).c0 ≤ 1000) ∧ (0 ≤ ((rounds r (K.start r) ls).getD k R0).c1 ∧ ((rounds r (K.start r) ls).getD k R0).c1 ≤ 1000) := fun k hk => by
            have e2 : (rounds r (K.start r) ls).getD k R0 = K.round r (steps r (K.start r) (ls.take k)) := by
              rw [List.getD_eq_getElem?_getD, rounds_get r ls (K.start r) k hk]; rfl
            have := rounds_in (start_right (wrong_ok.1 h)) g _ (List.mem_of_getElem? (rounds_get r ls (K.start r) k hk))
            rw [e2]
            omega
          have hpl : ∀ v, VRow v a ls → Calls Try.prog 17 #[.agg #[.int .i64 r.k0, .int .i64 r.k1, .int .i64 r.r, .int .i64 r.m, .int .i64 r.j], .slice a ls.length cap] v fun e w' => ∃ ao rc, e = .returned (.tuple #[.slice ao ls.length rc, .agg #[.int .i64 (steps r (K.start r) ls).f0.k, .int .i64 (steps r (K.start r) ls).f0.n, .int .i64 (steps r (K.start r) ls).f0.b, .int .i64 (steps r (K.start r) ls).f0.a, .int .i64 (steps r (K.start r) ls).f0.s, .int .i64 (steps r (K.start r) ls).f0.q, .int .i64 (steps r (K.start r) ls).f1.k, .int .i64 (steps r (K.start r) ls).f1.n, .int .i64 (steps r (K.start r) ls).f1.b, .int .i64 (steps r (K.start r) ls).f1.a, .int .i64 (steps r (K.start r) ls).f1.s, .int .i64 (steps r (K.start r) ls).f1.q, .int .i64 (steps r (K.start r) ls).w0, .int .i64 (steps r (K.start r) ls).w1], .int .i64 0]) ∧ RRow w' ao (rounds r (K.start r) ls) ∧ Below v.heap.size v w' := fun v q => (hp v q).mono (by
            rintro e w' ⟨⟨_, ao, cp, rfl, _, hr, _⟩ | ⟨h', _⟩, b⟩
            · exact ⟨ao, cp, rfl, hr, b⟩
            · exact absurd g h')
          rcases (show who = 0 ∨ who = 1 by omega) with rfl | rfl
          · exact wei_go r ratio hin.2 (jj r) (ee r) T _ ls.length hj1.symm hqE hj4 he16 hTi hT.2.2 (xp r T).1 rfl (Ak r T ls) (ak_zero hT) (fun k _ => (ak_in hr hT g k).1) (steps r (K.start r) ls) (rounds r (K.start r) ls) hR hl hRb a cap ls rfl w hv al (sS r T h hT) (fun v => (weighs_run 0 (.inl rfl) r ratio hin.2 h T hT gS ls g v)) hpl
          · exact wei_go1 r ratio hin.2 (jj r) (ee r) T _ ls.length hj1.symm hqE hj4 he16 hTi hT.2.2 (xp r T).1 rfl (Ak r T ls) (ak_zero hT) (fun k _ => (ak_in hr hT g k).1) (steps r (K.start r) ls) (rounds r (K.start r) ls) hR hl hRb a cap ls rfl w hv al (sS r T h hT) (fun v => (weighs_run 1 (.inr rfl) r ratio hin.2 h T hT gS ls g v)) hpl
        · refine wei_bad r who ratio 2 rfl (jj r) (ee r) T _ hj1.symm hqE hj4 he16 hTi hT.2.2 a cap ls.length ls w hv al (fun v => (sS r T h hT v).mono ?_) (fun v => (gS r T who ratio h hT hin.1 hin.2 v).mono ?_) (fun v q => (hp v q).mono ?_)
          · rintro e w' ⟨g, cp, rfl, _, _, b⟩
            exact ⟨g, cp, rfl, b⟩
          · rintro e w' ⟨h', cp, rfl, _, _, b⟩
            exact ⟨h', cp, rfl, b⟩
          · rintro e w' ⟨⟨h', _⟩ | ⟨_, rfl⟩, b⟩
            · exact absurd h' g
            · exact ⟨rfl, b⟩
      · refine wei_err r who ratio 4 4 rfl _ w al (fun v => (sF r h hF v).mono ?_) (gF r who ratio h hF hin.1 hin.2)
        rintro e w' ⟨rfl, b⟩
        exact ⟨none, 0, 0, rfl, b⟩
    · have he : (wrong r != 0) = true := by simpa using h
      refine wei_err r who ratio (wrong r) (wrong r) he _ w al (fun v => (sW r _ rfl he v).mono ?_) (gW r _ who ratio rfl he hin.1 hin.2)
      rintro e w' ⟨rfl, b⟩
      exact ⟨none, 0, 0, rfl, b⟩
  · have hg := gR r who ratio hin
    by_cases h : wrong r = 0
    · rcases dn_or r with ⟨T, hT⟩ | hF
      · refine wei_wrong r who ratio 0 2 rfl rfl _ w al (fun v => (sS r T h hT v).mono ?_) hg
        rintro e w' ⟨g, cp, rfl, _, _, b⟩
        exact ⟨_, _, cp, rfl, b⟩
      · refine wei_err r who ratio 4 2 rfl _ w al (fun v => (sF r h hF v).mono ?_) hg
        rintro e w' ⟨rfl, b⟩
        exact ⟨none, 0, 0, rfl, b⟩
    · have he : (wrong r != 0) = true := by simpa using h
      refine wei_err r who ratio (wrong r) 2 he _ w al (fun v => (sW r _ rfl he v).mono ?_) hg
      rintro e w' ⟨rfl, b⟩
      exact ⟨none, 0, 0, rfl, b⟩

end Go.Proofs.Ytilpooifggofiaa.D
