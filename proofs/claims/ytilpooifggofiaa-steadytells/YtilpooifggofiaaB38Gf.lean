/- PROVED: alive19, over what States, Lead and Graph answer. CONDITIONS: what they answer. SteadyClosed and SteadyLead, given what States and Lead answer. CONDITIONS: what they answer. alive19 given what States, Lead and Graph answer; a lead is short. CONDITIONS: what they answer. what steady's search answers, in words for its callers. on plain lists: where a round of steady's search tells that there are too many, there are. CONDITIONS: none beyond each theorem's own. -/
import Derived.Test.YtilpooifggofiaaB19Sr
import Derived.Test.YtilpooifggofiaaB36DEq
import Derived.Test.YtilpooifggofiaaB37Led
import Derived.Test.YtilpooifggofiaaB17Fnd
import Derived.Test.YtilpooifggofiaaB20Lif
namespace Go.Proofs.Ytilpooifggofiaa.D
open Go.RowKit K
set_option linter.unusedVariables false

set_option maxHeartbeats 6400000 in
theorem alive_go (N : Nat) (hN : 3 < N) (hN2 : N ≤ 300) (w : World)
    (st : ∀ v, Calls Try.prog 8 #[.agg #[.int .i64 1, .int .i64 3, .int .i64 3, .int .i64 4, .int .i64 0]] v fun e w' => ∃ ao cp, e = .returned (.tuple #[.slice ao N cp, .int .i64 0]) ∧ Below v.heap.size v w')
    (ld : ∀ v, Calls Try.prog 9 #[.agg #[.int .i64 1, .int .i64 3, .int .i64 3, .int .i64 4, .int .i64 0], .int .i64 1] v fun e w' => ∃ ao cp, e = .returned (.tuple #[.slice ao 1 cp, .int .i64 0]) ∧ Below v.heap.size v w')
    (gr : ∀ v, Calls Try.prog 10 #[.agg #[.int .i64 1, .int .i64 3, .int .i64 3, .int .i64 4, .int .i64 0], .int .i64 0, .int .i64 2] v fun e w' => ∃ ao cp, e = .returned (.tuple #[.agg #[.int .i64 N, .slice ao N cp], .int .i64 0]) ∧ Below v.heap.size v w') :
    Calls Try.prog 16 #[] w fun e w' => e = .returned (.bool true) ∧ Below w.heap.size w w' := by
  have X := Rul.new w _ rfl 1 3 3 4 0
  have B : Below w.heap.size w (w.alloc (.cells #[.int .i64 1, .int .i64 3, .int .i64 3, .int .i64 4, .int .i64 0] 24)) := balloc (Below.refl _ _) _
  have hd : decide ((3 : Int) < (N : Int)) = true := decide_eq_true (by omega)
  obtain ⟨x0, x1, x2, x3, x4, _, _, _, _, _⟩ := id X
  go_enter Try.func16, Try.ntmps16
  go_wp2_with (first
    | (go_at_call 8; refine (st _).mono ?_; clear st x0 x1 x2 x3 x4; rintro e v1 ⟨ao, cp, rfl, b⟩; replace X := X.kept b; replace B := bthen B b; obtain ⟨x0, x1, x2, x3, x4, _, _, _, _, _⟩ := id X)
    | (go_at_call 9; refine (ld _).mono ?_; clear ld x0 x1 x2 x3 x4; rintro e v1 ⟨ao1, cp1, rfl, b⟩; replace X := X.kept b; replace B := bthen B b; obtain ⟨x0, x1, x2, x3, x4, _, _, _, _, _⟩ := id X)
    | (go_at_call 10; refine (gr _).mono ?_; clear gr x0 x1 x2 x3 x4 X; rintro e v1 ⟨ao2, cp2, rfl, b⟩; replace B := balloc (bthen B b) (.cells #[.int .i64 N, .slice ao2 N cp2] 40)))
  go_ret
  exact ⟨rfl, B⟩

end Go.Proofs.Ytilpooifggofiaa.D

namespace Go.Proofs.Ytilpooifggofiaa.D
open Go.RowKit K
set_option linter.unusedVariables false

/-- States, where it comes to its end | where there are too many | of wrong rules -/
def StSome : Prop := ∀ (r : Ru) (T : Nat), wrong r = 0 → Dn r T → ∀ v, Calls Try.prog 8 #[.agg #[.int .i64 r.k0, .int .i64 r.k1, .int .i64 r.r, .int .i64 r.m, .int .i64 r.j]] v fun e w' => ∃ g cp, e = .returned (.tuple #[.slice (some ⟨g, 0, none⟩) (xp r T).1.length cp, .int .i64 0]) ∧ (xp r T).1.length ≤ cp ∧ (∀ i s, (xp r T).1[i]? = some s → Sat w' g (i * 14) s) ∧ Below v.heap.size v w'
def StFull : Prop := ∀ (r : Ru), wrong r = 0 → Fl r → ∀ v, Calls Try.prog 8 #[.agg #[.int .i64 r.k0, .int .i64 r.k1, .int .i64 r.r, .int .i64 r.m, .int .i64 r.j]] v fun e w' => e = .returned (.tuple #[.slice none 0 0, .int .i64 4]) ∧ Below v.heap.size v w'
def StWrong : Prop := ∀ (r : Ru) (E : Int), wrong r = E → (E != 0) = true → ∀ v, Calls Try.prog 8 #[.agg #[.int .i64 r.k0, .int .i64 r.k1, .int .i64 r.r, .int .i64 r.m, .int .i64 r.j]] v fun e w' => e = .returned (.tuple #[.slice none 0 0, .int .i64 E]) ∧ Below v.heap.size v w'
def AlYes : Prop := ∀ v, Calls Try.prog 16 #[] v fun e w' => e = .returned (.bool true) ∧ Below v.heap.size v w'
def Z0 : Sx := ⟨⟨0, 0, 0, 0, 0, 0⟩, ⟨0, 0, 0, 0, 0, 0⟩, 0, 0⟩
/-- what is late, by its number -/
def pr (r : Ru) (n : Nat) : Int × Int := (((n / jj r : Nat) : Int), ((n % jj r : Nat) : Int))
theorem steps_pr (r : Ru) : ∀ (l : List Nat) (s : Sx), steps r s (l.map (pr r)) = l.foldl (sp r) s := by
  intro l
  induction l with
  | nil => intro s; rfl
  | cons n l ih => intro s; exact ih (sp r s n)
/-- Lead, where there is such a state | where there is none -/
def LdSome : Prop := ∀ (r : Ru) (T n : Nat) (l : List Nat), wrong r = 0 → Dn r T → n < (xp r T).1.length → Ld (sp r) (ee r) (K.start r) n l → ∀ v, Calls Try.prog 9 #[.agg #[.int .i64 r.k0, .int .i64 r.k1, .int .i64 r.r, .int .i64 r.m, .int .i64 r.j], .int .i64 (n : Int)] v fun e w' => ∃ ao cp, e = .returned (.tuple #[.slice ao l.length cp, .int .i64 0]) ∧ VRow w' ao (l.map (pr r)) ∧ Below v.heap.size v w'
def LdNone : Prop := ∀ (r : Ru) (T : Nat) (n : Int), wrong r = 0 → Dn r T → n < 0 ∨ ((xp r T).1.length : Int) ≤ n → ∀ v, Calls Try.prog 9 #[.agg #[.int .i64 r.k0, .int .i64 r.k1, .int .i64 r.r, .int .i64 r.m, .int .i64 r.j], .int .i64 n] v fun e w' => e = .returned (.tuple #[.slice none 0 0, .int .i64 3]) ∧ Below v.heap.size v w'
def LdFull : Prop := ∀ (r : Ru) (n : Int), wrong r = 0 → Fl r → ∀ v, Calls Try.prog 9 #[.agg #[.int .i64 r.k0, .int .i64 r.k1, .int .i64 r.r, .int .i64 r.m, .int .i64 r.j], .int .i64 n] v fun e w' => e = .returned (.tuple #[.slice none 0 0, .int .i64 4]) ∧ Below v.heap.size v w'
def LdWrong : Prop := ∀ (r : Ru) (E n : Int), wrong r = E → (E != 0) = true → ∀ v, Calls Try.prog 9 #[.agg #[.int .i64 r.k0, .int .i64 r.k1, .int .i64 r.r, .int .i64 r.m, .int .i64 r.j], .int .i64 n] v fun e w' => e = .returned (.tuple #[.slice none 0 0, .int .i64 E]) ∧ Below v.heap.size v w'

theorem steadyClosed_go (sS : StSome) (sF : StFull) (sW : StWrong) (al : AlYes) (r : Ru) (a : Option Addr) (cap : Nat) (ls : List (Int × Int)) (hl : ls.length ≤ 1048576) (w : World) (hv : VRow w a ls) :
    Calls Try.prog 4 #[.agg #[.int .i64 r.k0, .int .i64 r.k1, .int .i64 r.r, .int .i64 r.m, .int .i64 r.j], .slice a ls.length cap] w fun e w' => e = .returned (.bool true) ∧ Below w.heap.size w w' := by
  by_cases h : wrong r = 0
  · have hp := fun v q => play_any r h a cap ls.length ls rfl hl v q
    rcases dn_or r with ⟨T, hT⟩ | hF
    · by_cases g : allLate r ls
      · refine clo_in r (steps r (K.start r) ls) 0 rfl (xp r T).1 _ rfl hT.2.2 (ex_nodup hT.1) (run_in (wrong_ok.1 h).2 hT g) a cap ls.length ls w hv al (sS r T h hT) (fun v q => (hp v q).mono ?_)
        rintro e w' ⟨⟨_, ao, cp, rfl, _, hr, _⟩ | ⟨h', _⟩, b⟩
        · exact ⟨ao, _, cp, rfl, b⟩
        · exact absurd g h'
      · refine clo_far r Z0 2 rfl (xp r T).1 _ a cap ls.length ls w hv al (sS r T h hT) (fun v q => (hp v q).mono ?_)
        rintro e w' ⟨⟨h', _⟩ | ⟨_, rfl⟩, b⟩
        · exact absurd h' g
        · exact ⟨none, 0, 0, rfl, b⟩
    · by_cases g : allLate r ls
      · refine clo_err r (steps r (K.start r) ls) 0 4 rfl a cap ls.length ls w hv al (sF r h hF) (fun v q => (hp v q).mono ?_)
        rintro e w' ⟨⟨_, ao, cp, rfl, _, hr, _⟩ | ⟨h', _⟩, b⟩
        · exact ⟨ao, _, cp, rfl, b⟩
        · exact absurd g h'
      · refine clo_err r Z0 2 4 rfl a cap ls.length ls w hv al (sF r h hF) (fun v q => (hp v q).mono ?_)
        rintro e w' ⟨⟨h', _⟩ | ⟨_, rfl⟩, b⟩
        · exact absurd h' g
        · exact ⟨none, 0, 0, rfl, b⟩
  · refine clo_err r Z0 (wrong r) (wrong r) (by simpa using h) a cap ls.length ls w hv al (sW r _ rfl (by simpa using h)) (fun v q => (play_wrong r _ rfl (by simpa using h) _ v).mono ?_)
    rintro e w' ⟨rfl, b⟩
    exact ⟨none, 0, 0, rfl, b⟩

theorem steadyLead_go (sS : StSome) (sF : StFull) (sW : StWrong) (lS : LdSome) (lN : LdNone) (lF : LdFull) (lW : LdWrong) (al : AlYes) (hlt : ∀ (r : Ru) T n l, Dn r T → n < (xp r T).1.length → Ld (sp r) (ee r) (K.start r) n l → l.length ≤ 300 ∧ ∀ i ∈ l, i < ee r) (r : Ru) (n : Int) (a : Option Addr) (cap : Nat) (ls : List (Int × Int)) (hl : ls.length ≤ 1048576) (w : World) (hv : VRow w a ls) :
    Calls Try.prog 5 #[.agg #[.int .i64 r.k0, .int .i64 r.k1, .int .i64 r.r, .int .i64 r.m, .int .i64 r.j], .int .i64 n, .slice a ls.length cap] w fun e w' => e = .returned (.bool true) ∧ Below w.heap.size w w' := by
  by_cases h : wrong r = 0
  · have hp := fun v q => play_any r h a cap ls.length ls rfl hl v q
    rcases dn_or r with ⟨T, hT⟩ | hF
    · by_cases hn : n < 0 ∨ ((xp r T).1.length : Int) ≤ n
      · refine led_out r n 3 rfl (xp r T).1 _ hn a cap ls.length ls w hv al (sS r T h hT) (fun v => (lN r T n h hT hn v).mono ?_)
        rintro e w' ⟨rfl, b⟩
        exact ⟨none, 0, 0, rfl, b⟩
      · obtain ⟨N, rfl⟩ : ∃ N : Nat, n = (N : Int) := ⟨n.toNat, by omega⟩
        have hN : N < (xp r T).1.length := by omega
        obtain ⟨l, hL⟩ := ld_some hT.1 N hN
        obtain ⟨hl3, hmem⟩ := hlt r T N l hT hN hL
        have hs := ld_run hT.1 N l hL hN
        have hal : allLate r (l.map (pr r)) := fun p hp => by
          obtain ⟨i, hi, rfl⟩ := List.mem_map.1 hp
          exact sp_lates (wrong_ok.1 h).2 (hmem i hi)
        have hst := steps_pr r l (K.start r)
        have pl : ∀ ao cp v, VRow v ao (l.map (pr r)) → Calls Try.prog 17 #[.agg #[.int .i64 r.k0, .int .i64 r.k1, .int .i64 r.r, .int .i64 r.m, .int .i64 r.j], .slice ao l.length cp] v _ := fun ao cp v q => play_any r h ao cp l.length (l.map (pr r)) (by simp) (by omega) v q
        have lS' := lS r T N l h hT hN hL
        by_cases g : allLate r ls
        · by_cases e : steps r (K.start r) ls = l.foldl (sp r) (K.start r)
          · refine led_same r N (xp r T).1 _ N rfl (l.foldl (sp r) (K.start r)) (steps r (K.start r) ls) hs hN hT.2.2 0 (l.map (pr r)) l.length rfl e.symm a cap ls.length ?_ ls w hv al (sS r T h hT) lS' (fun ao cp v q => (pl ao cp v q).mono ?_) (fun v q => (hp v q).mono ?_)
            · obtain ⟨a1, a2⟩ := steps_sp (wrong_ok.1 h).2 ls (K.start r) g
              have := done_short hT.done (ls.map (nl r)) a1 N l hL (by rw [← a2, e]; exact hs)
              simpa using this
            · rintro e w' ⟨⟨_, ao, cp, rfl, _, hr, _⟩ | ⟨h', _⟩, b⟩
              · rw [hst]; exact ⟨ao, _, cp, rfl, b⟩
              · exact absurd hal h'
            · rintro e w' ⟨⟨_, ao, cp, rfl, _, hr, _⟩ | ⟨h', _⟩, b⟩
              · exact ⟨ao, _, cp, rfl, b⟩
              · exact absurd g h'
          · refine led_other r N (xp r T).1 _ N rfl (l.foldl (sp r) (K.start r)) (steps r (K.start r) ls) hs hN hT.2.2 0 (l.map (pr r)) l.length rfl e a cap ls.length ls w hv al (sS r T h hT) lS' (fun ao cp v q => (pl ao cp v q).mono ?_) (fun v q => (hp v q).mono ?_)
            · rintro e w' ⟨⟨_, ao, cp, rfl, _, hr, _⟩ | ⟨h', _⟩, b⟩
              · rw [hst]; exact ⟨ao, _, cp, rfl, b⟩
              · exact absurd hal h'
            · rintro e w' ⟨⟨_, ao, cp, rfl, _, hr, _⟩ | ⟨h', _⟩, b⟩
              · exact ⟨ao, _, cp, rfl, b⟩
              · exact absurd g h'
        · refine led_fail r N (xp r T).1 _ N rfl (l.foldl (sp r) (K.start r)) Z0 hs hN hT.2.2 2 (l.map (pr r)) l.length rfl a cap ls.length ls w hv al (sS r T h hT) lS' (fun ao cp v q => (pl ao cp v q).mono ?_) (fun v q => (hp v q).mono ?_)
          · rintro e w' ⟨⟨_, ao, cp, rfl, _, hr, _⟩ | ⟨h', _⟩, b⟩
            · rw [hst]; exact ⟨ao, _, cp, rfl, b⟩
            · exact absurd hal h'
          · rintro e w' ⟨⟨h', _⟩ | ⟨_, rfl⟩, b⟩
            · exact absurd h' g
            · exact ⟨none, 0, 0, rfl, b⟩
    · refine led_err r n 4 4 rfl rfl a cap ls.length ls w hv al (sF r h hF) (fun v => (lF r n h hF v).mono ?_)
      rintro e w' ⟨rfl, b⟩
      exact ⟨none, 0, 0, rfl, b⟩
  · refine led_err r n (wrong r) (wrong r) (by simpa using h) (by simpa using h) a cap ls.length ls w hv al (sW r _ rfl (by simpa using h)) (fun v => (lW r _ n rfl (by simpa using h) v).mono ?_)
    rintro e w' ⟨rfl, b⟩
    exact ⟨none, 0, 0, rfl, b⟩

/-- alive19's rules -/
def r19 : Ru := ⟨1, 3, 3, 4, 0⟩
theorem dn19 : Dn r19 41 ∧ (xp r19 41).1.length = 41 := by
  refine ⟨⟨?_, ?_, ?_⟩, ?_⟩
  · unfold Live; decide +kernel
  · decide +kernel
  · decide +kernel
  · decide +kernel

end Go.Proofs.Ytilpooifggofiaa.D

namespace Go.Proofs.Ytilpooifggofiaa.D
open Go.RowKit K
set_option linter.unusedVariables false

theorem ld_small {r : Ru} {j : Nat} {l : List Nat} (h : Ld (sp r) (ee r) (K.start r) j l) : l.length ≤ j ∧ ∀ i ∈ l, i < ee r := by
  induction h with
  | zero => exact ⟨Nat.le_refl _, fun i hi => by simp at hi⟩
  | @more j u l hj hf h ih =>
    have hu : u / ee r < j := Nat.div_lt_of_lt_mul (by have := hf.1; rw [hf.2.1] at this; exact this)
    refine ⟨by rw [List.length_append]; have := ih.1; simp only [List.length_cons, List.length_nil]; omega, fun i hi => ?_⟩
    rcases List.mem_append.1 hi with q | q
    · exact ih.2 i q
    · obtain rfl : i = u % ee r := by simpa using q
      exact Nat.mod_lt _ (ee_pos r)
theorem ld_ok (r : Ru) (T n : Nat) (l : List Nat) (hT : Dn r T) (hn : n < (xp r T).1.length) (h : Ld (sp r) (ee r) (K.start r) n l) : l.length ≤ 300 ∧ ∀ i ∈ l, i < ee r := by
  obtain ⟨a, b⟩ := ld_small h
  exact ⟨by have := hT.2.2; omega, b⟩
/-- what a round weighs -/
def wgt (who ratio : Int) (x : Rx) : Int := if who = 0 then x.c0 - ratio * x.c1 else x.c1 - ratio * x.c0
/-- an edge in memory -/
structure EAt (w : World) (h o : Nat) (f t x : Int) : Prop where
  c0 : w.cell? ⟨h, o, none⟩ = some (.int .i64 f)
  c1 : w.cell? ⟨h, o + 1, none⟩ = some (.int .i64 t)
  c2 : w.cell? ⟨h, o + 2, none⟩ = some (.int .i64 x)
theorem EAt.kept {w w' : World} {g o : Nat} {f t x : Int} (h : EAt w g o f t x) (b : Below w.heap.size w w') : EAt w' g o f t x := by
  have hl : g < w.heap.size := block_lt h.c0
  have e : ∀ p, w'.cell? ⟨g, p, none⟩ = w.cell? ⟨g, p, none⟩ := fun p => b.cell (p := ⟨g, p, none⟩) hl
  exact ⟨(e _).trans h.c0, (e _).trans h.c1, (e _).trans h.c2⟩
/-- Graph -/
def GrSome : Prop := ∀ (r : Ru) (T : Nat) (who ratio : Int), wrong r = 0 → Dn r T → 0 ≤ who ∧ who ≤ 1 → 1 ≤ ratio ∧ ratio ≤ 100 → ∀ v, Calls Try.prog 10 #[.agg #[.int .i64 r.k0, .int .i64 r.k1, .int .i64 r.r, .int .i64 r.m, .int .i64 r.j], .int .i64 who, .int .i64 ratio] v fun e w' => ∃ h cp, e = .returned (.tuple #[.agg #[.int .i64 ((xp r T).1.length : Int), .slice (some ⟨h, 0, none⟩) T cp], .int .i64 0]) ∧ T ≤ cp ∧ (∀ u, u < T → EAt w' h (u * 3) ((u / ee r : Nat) : Int) (((xp r T).2.getD u 0 : Nat) : Int) (wgt who ratio (K.round r ((xp r T).1.getD (u / ee r) (K.start r))))) ∧ Below v.heap.size v w'
def GrFull : Prop := ∀ (r : Ru) (who ratio : Int), wrong r = 0 → Fl r → 0 ≤ who ∧ who ≤ 1 → 1 ≤ ratio ∧ ratio ≤ 100 → ∀ v, Calls Try.prog 10 #[.agg #[.int .i64 r.k0, .int .i64 r.k1, .int .i64 r.r, .int .i64 r.m, .int .i64 r.j], .int .i64 who, .int .i64 ratio] v fun e w' => e = .returned (.tuple #[.agg #[.int .i64 0, .slice none 0 0], .int .i64 4]) ∧ Below v.heap.size v w'
def GrWrong : Prop := ∀ (r : Ru) (E who ratio : Int), wrong r = E → (E != 0) = true → 0 ≤ who ∧ who ≤ 1 → 1 ≤ ratio ∧ ratio ≤ 100 → ∀ v, Calls Try.prog 10 #[.agg #[.int .i64 r.k0, .int .i64 r.k1, .int .i64 r.r, .int .i64 r.m, .int .i64 r.j], .int .i64 who, .int .i64 ratio] v fun e w' => e = .returned (.tuple #[.agg #[.int .i64 0, .slice none 0 0], .int .i64 E]) ∧ Below v.heap.size v w'
def GrRange : Prop := ∀ (r : Ru) (who ratio : Int), ¬ ((0 ≤ who ∧ who ≤ 1) ∧ 1 ≤ ratio ∧ ratio ≤ 100) → ∀ v, Calls Try.prog 10 #[.agg #[.int .i64 r.k0, .int .i64 r.k1, .int .i64 r.r, .int .i64 r.m, .int .i64 r.j], .int .i64 who, .int .i64 ratio] v fun e w' => e = .returned (.tuple #[.agg #[.int .i64 0, .slice none 0 0], .int .i64 2]) ∧ Below v.heap.size v w'

theorem alive_yes (sS : StSome) (lS : LdSome) (gS : GrSome) : AlYes := fun v => by
  obtain ⟨hd, hl⟩ := dn19
  have hw : wrong r19 = 0 := by decide +kernel
  obtain ⟨l, hL⟩ := ld_some hd.1 1 (by show 1 < (xp r19 41).1.length; omega)
  have hl1 : l.length = 1 := by
    have := (ld_small hL).1
    cases hL with
    | more hj hf h => rw [List.length_append] at this ⊢; simp only [List.length_cons, List.length_nil] at this ⊢; omega
  refine alive_go 41 (by omega) (by omega) v (fun v => (sS r19 41 hw hd v).mono ?_) (fun v => (lS r19 41 1 l hw hd (by omega) hL v).mono ?_) (fun v => (gS r19 41 0 2 hw hd (by omega) (by omega) v).mono ?_)
  · rintro e w' ⟨g, cp, rfl, _, _, b⟩
    rw [hl]; exact ⟨_, cp, rfl, b⟩
  · rintro e w' ⟨ao, cp, rfl, _, b⟩
    rw [hl1]; exact ⟨ao, cp, rfl, b⟩
  · rintro e w' ⟨h, cp, rfl, _, _, b⟩
    rw [hl]; exact ⟨_, cp, rfl, b⟩

end Go.Proofs.Ytilpooifggofiaa.D

namespace Go.Proofs.Ytilpooifggofiaa.D
open Go.RowKit K
set_option linter.unusedVariables false

theorem dn_same {r : Ru} {T T' : Nat} (h : Dn r T) (h' : Dn r T') : T = T' := by
  have key : ∀ {A B : Nat}, Dn r A → Dn r B → ¬ A < B := fun {A B} a b q => by
    have := b.1 A q
    have e := a.2.1
    unfold xp at e
    omega
  have a := key h h'
  have b := key h' h
  omega
theorem dn_fl {r : Ru} {T : Nat} (h : Dn r T) (hf : Fl r) : False := by
  obtain ⟨t, x, hL, hx, h3, hn⟩ := hf
  have hlt : t < ee r * (xp r t).1.length := by
    have h1 : t / ee r < (xp r t).1.length := (List.getElem?_eq_some_iff.1 hx).1
    have h2 := Nat.div_add_mod t (ee r)
    have h4 := Nat.mod_lt t (ee_pos r)
    have h5 : ee r * (t / ee r + 1) ≤ ee r * (xp r t).1.length := Nat.mul_le_mul_left _ h1
    rw [Nat.mul_add, Nat.mul_one] at h5
    omega
  have hL1 : Live (sp r) (ee r) (K.start r) (t + 1) := fun t' ht' => by
    rcases Nat.lt_succ_iff_lt_or_eq.1 ht' with q | rfl
    · exact hL t' q
    · exact hlt
  have e : xp r (t + 1) = _ := ex_go (step := sp r) (E := ee r) (s0 := K.start r) hx
  have hl : (xp r (t + 1)).1.length = 301 := by
    rw [e]
    show (Ytilpooifggofiaa.nx (xp r t).1 (sp r x (t % ee r))).length = 301
    unfold Ytilpooifggofiaa.nx
    rw [if_neg hn]
    simp [h3]
  rcases Nat.lt_or_ge T (t + 1) with q | q
  · have a := hL1 T q
    have b := h.2.1
    unfold xp at b
    omega
  · obtain ⟨d, rfl⟩ : ∃ d, T = t + 1 + d := ⟨T - (t + 1), by omega⟩
    have g := ex_grows (t := t + 1) (d := d) h.1
    have := h.2.2
    have hl' : (ex (sp r) (ee r) (K.start r) (t + 1)).1.length = 301 := hl
    have h6 : (ex (sp r) (ee r) (K.start r) (t + 1 + d)).1.length ≤ 300 := this
    omega
theorem dn_pos {r : Ru} {T : Nat} (h : Dn r T) : 1 ≤ (xp r T).1.length ∧ 1 ≤ T ∧ T ≤ 300 * ee r := by
  have h0 := ex_first h.1
  have h1 : 1 ≤ (xp r T).1.length := (List.getElem?_eq_some_iff.1 h0).1
  refine ⟨h1, ?_, ?_⟩
  · rw [h.2.1]; exact Nat.mul_pos (ee_pos r) h1
  · have := Nat.mul_le_mul_left (ee r) h.2.2
    have e := h.2.1
    rw [Nat.mul_comm 300]; omega

/-- a step in memory -/
structure Stq (w : World) (g o : Nat) (r : Ru) (s : Stp) : Prop where
  c0 : w.cell? ⟨g, o, none⟩ = some (.int .i64 (s.f : Int))
  c1 : w.cell? ⟨g, o + 1, none⟩ = some (.int .i64 (s.t : Int))
  c2 : w.cell? ⟨g, o + 2, none⟩ = some (.int .i64 (pr r s.n).1)
  c3 : w.cell? ⟨g, o + 3, none⟩ = some (.int .i64 (pr r s.n).2)
  c4 : w.cell? ⟨g, o + 4, none⟩ = some (.int .i64 s.c0)
  c5 : w.cell? ⟨g, o + 5, none⟩ = some (.int .i64 s.c1)
theorem Stq.kept {w w' : World} {g o : Nat} {r : Ru} {s : Stp} (h : Stq w g o r s) (b : Below w.heap.size w w') : Stq w' g o r s := by
  have hl : g < w.heap.size := block_lt h.c0
  have e : ∀ p, w'.cell? ⟨g, p, none⟩ = w.cell? ⟨g, p, none⟩ := fun p => b.cell (p := ⟨g, p, none⟩) hl
  exact ⟨(e _).trans h.c0, (e _).trans h.c1, (e _).trans h.c2, (e _).trans h.c3, (e _).trans h.c4, (e _).trans h.c5⟩
theorem own_step {w : World} {base : Nat} {t : Value} {m : Nat} {r : Ru} {S : List Stp} (h : w.ownsRow base 76 6 t m (flP r S)) (hm : 1 ≤ m) : ∃ g cap, t = .slice (some ⟨g, 0, none⟩) m cap ∧ m ≤ cap ∧ ∀ k s, S[k]? = some s → Stq w g (k * 6) r s := by
  obtain ⟨hl, ⟨e, e2⟩ | ⟨g, cap, cur, e, hg, hh, hc, _, hcs, htk⟩⟩ := h
  · omega
  · rw [flP_len] at hl
    refine ⟨g, cap, e, hc, fun k s hk => ?_⟩
    have hkl := (List.getElem?_eq_some_iff.1 hk).1
    have key : ∀ i, i < 6 → w.cell? ⟨g, k * 6 + i, none⟩ = (cP r s)[i]? := fun i hi => by
      have := flP_get r S k i s hk hi
      rw [← htk, List.getElem?_take_of_lt (by omega)] at this
      simp only [World.cell?, hh]
      rw [← this]
      simp
    exact ⟨key 0 (by omega), key 1 (by omega), key 2 (by omega), key 3 (by omega), key 4 (by omega), key 5 (by omega)⟩
theorem own_nat {w : World} {base : Nat} {t : Value} {m : Nat} {F : List Nat} (h : w.ownsRow base 3 1 t m (F.map fun i => .int .i64 ((i : Nat) : Int))) (hm : 1 ≤ m) : ∃ g cap, t = .slice (some ⟨g, 0, none⟩) m cap ∧ m ≤ cap ∧ ∀ (k u : Nat), F[k]? = some u → w.cell? ⟨g, k, none⟩ = some (.int .i64 (u : Int)) := by
  obtain ⟨hl, ⟨e, e2⟩ | ⟨g, cap, cur, e, hg, hh, hc, _, hcs, htk⟩⟩ := h
  · omega
  · refine ⟨g, cap, e, hc, fun k u hk => ?_⟩
    have hkl := (List.getElem?_eq_some_iff.1 hk).1
    rw [List.length_map] at hl
    have : (F.map fun i => Value.int .i64 ((i : Nat) : Int))[k]? = some (.int .i64 (u : Int)) := by rw [List.getElem?_map, hk]; rfl
    rw [← htk, List.getElem?_take_of_lt (by omega)] at this
    simp only [World.cell?, hh]
    rw [← this]
    simp

def SrSome : Prop := ∀ (r : Ru) (T : Nat), wrong r = 0 → Dn r T → ∀ w, Calls Try.prog 21 #[.agg #[.int .i64 r.k0, .int .i64 r.k1, .int .i64 r.r, .int .i64 r.m, .int .i64 r.j]] w fun e w' => ∃ g0 cp0 g1 cp1 g2 cp2 M, e = .returned (.tuple #[.agg #[.slice (some ⟨g0, 0, none⟩) (xp r T).1.length cp0, .map (some M), .slice (some ⟨g1, 0, none⟩) T cp1, .slice (some ⟨g2, 0, none⟩) (xp r T).1.length cp2], .int .i64 0]) ∧ (xp r T).1.length ≤ cp0 ∧ (∀ i s, (xp r T).1[i]? = some s → Sat w' g0 (i * 14) s) ∧ (∀ u s, (ga r T).S[u]? = some s → Stq w' g1 (u * 6) r s) ∧ (∀ (j u : Nat), (ga r T).F[j]? = some u → w'.cell? ⟨g2, j, none⟩ = some (.int .i64 (u : Int))) ∧ Below w.heap.size w w'
def SrFull : Prop := ∀ (r : Ru), wrong r = 0 → Fl r → ∀ w, Calls Try.prog 21 #[.agg #[.int .i64 r.k0, .int .i64 r.k1, .int .i64 r.r, .int .i64 r.m, .int .i64 r.j]] w fun e w' => e = .returned (.tuple #[.agg #[.slice none 0 0, .map none, .slice none 0 0, .slice none 0 0], .int .i64 4]) ∧ Below w.heap.size w w'
def SrWrong : Prop := ∀ (r : Ru) (E : Int), wrong r = E → (E != 0) = true → ∀ w, Calls Try.prog 21 #[.agg #[.int .i64 r.k0, .int .i64 r.k1, .int .i64 r.r, .int .i64 r.m, .int .i64 r.j]] w fun e w' => e = .returned (.tuple #[.agg #[.slice none 0 0, .map none, .slice none 0 0, .slice none 0 0], .int .i64 E]) ∧ Below w.heap.size w w'
/-- what search_any says -/
def SrAny : Prop := ∀ (r : Ru), wrong r = 0 → ∀ w, Calls Try.prog 21 #[.agg #[.int .i64 r.k0, .int .i64 r.k1, .int .i64 r.r, .int .i64 r.m, .int .i64 r.j]] w fun e w' => ((∃ T v M, Dn r T ∧ e = .returned (.tuple #[.agg #[v 0, .map (some M), v 1, v 2], .int .i64 0]) ∧ F3.Fam w.heap.size (fun _ => False) v (gn (ga r T)) (gr r (ga r T)) w') ∨ (Fl r ∧ e = .returned (.tuple #[.agg #[.slice none 0 0, .map none, .slice none 0 0, .slice none 0 0], .int .i64 4]))) ∧ Below w.heap.size w w'
theorem sr_some (h : SrAny) : SrSome := fun r T hw hT w => (h r hw w).mono fun e w' hh => by
  obtain ⟨⟨T', v, M, hT', rfl, hF⟩ | ⟨hf, _⟩, b⟩ := hh
  · obtain rfl := dn_same hT hT'
    obtain ⟨hl1, hT1, _⟩ := dn_pos hT
    have hS := ga_S hT.1
    have hFl := ga_F hT.1
    have o0 : w'.ownsRow w.heap.size 48 14 (v 0) (xp r T).1.length (flS (xp r T).1) := by
      have := hF.own 0 (by omega)
      simp only [gn, gr, ga_L] at this
      exact this
    have o1 : w'.ownsRow w.heap.size 76 6 (v 1) T (flP r (ga r T).S) := by
      have := hF.own 1 (by omega)
      simp only [gn, gr, hS.1] at this
      exact this
    have o2 : w'.ownsRow w.heap.size 3 1 (v 2) (xp r T).1.length ((ga r T).F.map fun i => .int .i64 ((i : Nat) : Int)) := by
      have := hF.own 2 (by omega)
      simp only [gn, gr, hFl.1] at this
      exact this
    obtain ⟨x, hx⟩ : ∃ x, (xp r T).1[0]? = some x := ⟨_, List.getElem?_eq_getElem hl1⟩
    obtain ⟨g0, cp0, e0, hc0, _, _⟩ := own_state o0 hx
    obtain ⟨g1, cp1, e1, _, k1⟩ := own_step o1 hT1
    obtain ⟨g2, cp2, e2, _, k2⟩ := own_nat o2 hl1
    refine ⟨g0, cp0, g1, cp1, g2, cp2, M, by rw [e0, e1, e2], hc0, fun i s hi => ?_, k1, k2, b⟩
    obtain ⟨g, cp, e, _, _, q⟩ := own_state o0 hi
    rw [e0] at e
    injection e with e _ _
    injection e with e
    injection e with e _ _
    subst e
    exact q
  · exact (dn_fl hT hf).elim
theorem sr_full (h : SrAny) : SrFull := fun r hw hf w => (h r hw w).mono fun e w' hh => by
  obtain ⟨⟨T', v, M, hT', rfl, hF⟩ | ⟨_, rfl⟩, b⟩ := hh
  · exact (dn_fl hT' hf).elim
  · exact ⟨rfl, b⟩

end Go.Proofs.Ytilpooifggofiaa.D

namespace Go.Proofs.Ytilpooifggofiaa.D
open Go.RowKit K
set_option linter.unusedVariables false
theorem fl_of {r : Ru} {k : Nat} {x : Sx} (hL : Live (sp r) (ee r) (K.start r) (k * ee r)) (hx : (ga r (k * ee r)).L[k]? = some x) {m : Nat} {pre p0 : List (Fin (jj r * jj r))} {x0 : Fin (jj r * jj r)} (hm : m ≤ ee r) (hp : allL (jj r) m pre) (e : pre = p0 ++ [x0]) (h3 : (gx r k x (ga r (k * ee r)) p0).L.length = 300) (hn : sp r x x0.1 ∉ (gx r k x (ga r (k * ee r)) p0).L) : Fl r := by
  have hl := allL_len hp
  rw [e] at hl
  simp at hl
  obtain ⟨m', rfl⟩ : ∃ m', m = m' + 1 := ⟨p0.length, hl.symm⟩
  have hl0 : p0.length = m' := by omega
  unfold allL at hp
  rw [e, List.map_append, List.range_succ] at hp
  have h1 := List.append_inj hp (by simp [hl0])
  have h2 : x0.1 = m' := by simpa using h1.2
  have hp0 : allL (jj r) m' p0 := h1.1
  rw [gx_all hx (by omega) hp0, ga_L] at h3 hn
  have hr := (ga_range hx m' (by omega)).2
  rw [ga_L] at hr
  have hd : (k * ee r + m') / ee r = k := by
    rw [Nat.mul_comm, Nat.mul_add_div (ee_pos r), Nat.div_eq_of_lt (by omega), Nat.add_zero]
  have hm2 : (k * ee r + m') % ee r = m' := by
    rw [Nat.mul_comm, Nat.mul_add_mod, Nat.mod_eq_of_lt (by omega)]
  exact ⟨k * ee r + m', x, Live.more hL hx m' (by omega), by rw [hd]; exact hr, h3, by rw [hm2]; rw [h2] at hn; exact hn⟩
end Go.Proofs.Ytilpooifggofiaa.D
