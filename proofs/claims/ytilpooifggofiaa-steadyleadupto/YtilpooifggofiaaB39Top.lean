/- PROVED: alive19, over what States, Lead and Graph answer. CONDITIONS: what they answer. SteadyClosed and SteadyLead, given what States and Lead answer. CONDITIONS: what they answer. CONDITIONS: none beyond each theorem's own. -/
import Derived.Test.YtilpooifggofiaaB19To
import Derived.Test.YtilpooifggofiaaB37DEq
import Derived.Test.YtilpooifggofiaaLed
namespace Go.Proofs.Ytilpooifggofiaa.D
open Go.RowKit K
set_option linter.unusedVariables false

set_option maxHeartbeats 6400000 in
theorem alive_go (N : Nat) (hN : 3 < N) (hN2 : N ≤ 300) (w : World)
    (st : ∀ v, Calls Try.prog 8 #[.agg #[.int .i64 1, .int .i64 3, .int .i64 3, .int .i64 4, .int .i64 0]] v fun e w' => ∃ ao cp, e = .returned (.tuple #[.slice ao N cp, .int .i64 0]) ∧ Below v.heap.size v w')
    (ld : ∀ v, Calls Try.prog 9 #[.agg #[.int .i64 1, .int .i64 3, .int .i64 3, .int .i64 4, .int .i64 0], .int .i64 1] v fun e w' => ∃ ao cp, e = .returned (.tuple #[.slice ao 1 cp, .int .i64 0]) ∧ Below v.heap.size v w')
    (gr : ∀ v, Calls Try.prog 10 #[.agg #[.int .i64 1, .int .i64 3, .int .i64 3, .int .i64 4, .int .i64 0], .int .i64 0, .int .i64 2] v fun e w' => ∃ ao cp, e = .returned (.tuple #[.agg #[.int .i64 N, .slice ao N cp], .int .i64 0]) ∧ Below v.heap.size v w') :
    Calls Try.prog 16 #[] w fun e w' => e = .returned (.bool true) ∧ Below w.heap.size w w' := by
  have X := Rul.new w _ rfl 1 3 3 4 0
  have B : Below w.heap.size w (w.alloc (.cells #[.int .i64 1, .int .i64 3, .int .i64 3, .int .i64 4, .int .i64 0] 24)) := balloc (Below.refl _ _) _
  have hd : decide ((3 : Int) < (N : Int)) = true := decide_eq_true (by omega)
  obtain ⟨x0, x1, x2, x3, x4, _, _, _, _, _⟩ := id X
  go_enter Try.func16, Try.ntmps16
  go_wp2_with (first
    | (go_at_call 8; refine (st _).mono ?_; clear st x0 x1 x2 x3 x4; rintro e v1 ⟨ao, cp, rfl, b⟩; replace X := X.kept b; replace B := bthen B b; obtain ⟨x0, x1, x2, x3, x4, _, _, _, _, _⟩ := id X)
    | (go_at_call 9; refine (ld _).mono ?_; clear ld x0 x1 x2 x3 x4; rintro e v1 ⟨ao1, cp1, rfl, b⟩; replace X := X.kept b; replace B := bthen B b; obtain ⟨x0, x1, x2, x3, x4, _, _, _, _, _⟩ := id X)
    | (go_at_call 10; refine (gr _).mono ?_; clear gr x0 x1 x2 x3 x4 X; rintro e v1 ⟨ao2, cp2, rfl, b⟩; replace B := balloc (bthen B b) (.cells #[.int .i64 N, .slice ao2 N cp2] 40)))
  go_ret
  exact ⟨rfl, B⟩

end Go.Proofs.Ytilpooifggofiaa.D

namespace Go.Proofs.Ytilpooifggofiaa.D
open Go.RowKit K
set_option linter.unusedVariables false

/-- States, where it comes to its end | where there are too many | of wrong rules -/
def StSome : Prop := ∀ (r : Ru) (T : Nat), wrong r = 0 → Dn r T → ∀ v, Calls Try.prog 8 #[.agg #[.int .i64 r.k0, .int .i64 r.k1, .int .i64 r.r, .int .i64 r.m, .int .i64 r.j]] v fun e w' => ∃ g cp, e = .returned (.tuple #[.slice (some ⟨g, 0, none⟩) (xp r T).1.length cp, .int .i64 0]) ∧ (xp r T).1.length ≤ cp ∧ (∀ i s, (xp r T).1[i]? = some s → Sat w' g (i * 14) s) ∧ Below v.heap.size v w'
def StFull : Prop := ∀ (r : Ru), wrong r = 0 → Fl r → ∀ v, Calls Try.prog 8 #[.agg #[.int .i64 r.k0, .int .i64 r.k1, .int .i64 r.r, .int .i64 r.m, .int .i64 r.j]] v fun e w' => e = .returned (.tuple #[.slice none 0 0, .int .i64 4]) ∧ Below v.heap.size v w'
def StWrong : Prop := ∀ (r : Ru) (E : Int), wrong r = E → (E != 0) = true → ∀ v, Calls Try.prog 8 #[.agg #[.int .i64 r.k0, .int .i64 r.k1, .int .i64 r.r, .int .i64 r.m, .int .i64 r.j]] v fun e w' => e = .returned (.tuple #[.slice none 0 0, .int .i64 E]) ∧ Below v.heap.size v w'
def AlYes : Prop := ∀ v, Calls Try.prog 16 #[] v fun e w' => e = .returned (.bool true) ∧ Below v.heap.size v w'
def Z0 : Sx := ⟨⟨0, 0, 0, 0, 0, 0⟩, ⟨0, 0, 0, 0, 0, 0⟩, 0, 0⟩
/-- what is late, by its number -/
def pr (r : Ru) (n : Nat) : Int × Int := (((n / jj r : Nat) : Int), ((n % jj r : Nat) : Int))
theorem steps_pr (r : Ru) : ∀ (l : List Nat) (s : Sx), steps r s (l.map (pr r)) = l.foldl (sp r) s := by
  intro l
  induction l with
  | nil => intro s; rfl
  | cons n l ih => intro s; exact ih (sp r s n)
/-- Lead, where there is such a state | where there is none -/
def LdSome : Prop := ∀ (r : Ru) (T n : Nat) (l : List Nat), wrong r = 0 → Dn r T → n < (xp r T).1.length → Ld (sp r) (ee r) (K.start r) n l → ∀ v, Calls Try.prog 9 #[.agg #[.int .i64 r.k0, .int .i64 r.k1, .int .i64 r.r, .int .i64 r.m, .int .i64 r.j], .int .i64 (n : Int)] v fun e w' => ∃ ao cp, e = .returned (.tuple #[.slice ao l.length cp, .int .i64 0]) ∧ VRow w' ao (l.map (pr r)) ∧ Below v.heap.size v w'
def LdNone : Prop := ∀ (r : Ru) (T : Nat) (n : Int), wrong r = 0 → Dn r T → n < 0 ∨ ((xp r T).1.length : Int) ≤ n → ∀ v, Calls Try.prog 9 #[.agg #[.int .i64 r.k0, .int .i64 r.k1, .int .i64 r.r, .int .i64 r.m, .int .i64 r.j], .int .i64 n] v fun e w' => e = .returned (.tuple #[.slice none 0 0, .int .i64 3]) ∧ Below v.heap.size v w'
def LdFull : Prop := ∀ (r : Ru) (n : Int), wrong r = 0 → Fl r → ∀ v, Calls Try.prog 9 #[.agg #[.int .i64 r.k0, .int .i64 r.k1, .int .i64 r.r, .int .i64 r.m, .int .i64 r.j], .int .i64 n] v fun e w' => e = .returned (.tuple #[.slice none 0 0, .int .i64 4]) ∧ Below v.heap.size v w'
def LdWrong : Prop := ∀ (r : Ru) (E n : Int), wrong r = E → (E != 0) = true → ∀ v, Calls Try.prog 9 #[.agg #[.int .i64 r.k0, .int .i64 r.k1, .int .i64 r.r, .int .i64 r.m, .int .i64 r.j], .int .i64 n] v fun e w' => e = .returned (.tuple #[.slice none 0 0, .int .i64 E]) ∧ Below v.heap.size v w'

theorem steadyClosed_go (sS : StSome) (sF : StFull) (sW : StWrong) (al : AlYes) (r : Ru) (a : Option Addr) (cap : Nat) (ls : List (Int × Int)) (hl : ls.length ≤ 1048576) (w : World) (hv : VRow w a ls) :
    Calls Try.prog 4 #[.agg #[.int .i64 r.k0, .int .i64 r.k1, .int .i64 r.r, .int .i64 r.m, .int .i64 r.j], .slice a ls.length cap] w fun e w' => e = .returned (.bool true) ∧ Below w.heap.size w w' := by
  by_cases h : wrong r = 0
  · have hp := fun v q => play_any r h a cap ls.length ls rfl hl v q
    rcases dn_or r with ⟨T, hT⟩ | hF
    · by_cases g : allLate r ls
      · refine clo_in r (steps r (K.start r) ls) 0 rfl (xp r T).1 _ rfl hT.2.2 (ex_nodup hT.1) (run_in (wrong_ok.1 h).2 hT g) a cap ls.length ls w hv al (sS r T h hT) (fun v q => (hp v q).mono ?_)
        rintro e w' ⟨⟨_, ao, cp, rfl, _, hr, _⟩ | ⟨h', _⟩, b⟩
        · exact ⟨ao, _, cp, rfl, b⟩
        · exact absurd g h'
      · refine clo_far r Z0 2 rfl (xp r T).1 _ a cap ls.length ls w hv al (sS r T h hT) (fun v q => (hp v q).mono ?_)
        rintro e w' ⟨⟨h', _⟩ | ⟨_, rfl⟩, b⟩
        · exact absurd h' g
        · exact ⟨none, 0, 0, rfl, b⟩
    · by_cases g : allLate r ls
      · refine clo_err r (steps r (K.start r) ls) 0 4 rfl a cap ls.length ls w hv al (sF r h hF) (fun v q => (hp v q).mono ?_)
        rintro e w' ⟨⟨_, ao, cp, rfl, _, hr, _⟩ | ⟨h', _⟩, b⟩
        · exact ⟨ao, _, cp, rfl, b⟩
        · exact absurd g h'
      · refine clo_err r Z0 2 4 rfl a cap ls.length ls w hv al (sF r h hF) (fun v q => (hp v q).mono ?_)
        rintro e w' ⟨⟨h', _⟩ | ⟨_, rfl⟩, b⟩
        · exact absurd h' g
        · exact ⟨none, 0, 0, rfl, b⟩
  · refine clo_err r Z0 (wrong r) (wrong r) (by simpa using h) a cap ls.length ls w hv al (sW r _ rfl (by simpa using h)) (fun v q => (play_wrong r _ rfl (by simpa using h) _ v).mono ?_)
    rintro e w' ⟨rfl, b⟩
    exact ⟨none, 0, 0, rfl, b⟩

theorem steadyLead_go (sS : StSome) (sF : StFull) (sW : StWrong) (lS : LdSome) (lN : LdNone) (lF : LdFull) (lW : LdWrong) (al : AlYes) (hlt : ∀ (r : Ru) T n l, Dn r T → n < (xp r T).1.length → Ld (sp r) (ee r) (K.start r) n l → l.length ≤ 300 ∧ ∀ i ∈ l, i < ee r) (r : Ru) (n : Int) (a : Option Addr) (cap : Nat) (ls : List (Int × Int)) (hl : ls.length ≤ 1048576) (w : World) (hv : VRow w a ls) :
    Calls Try.prog 5 #[.agg #[.int .i64 r.k0, .int .i64 r.k1, .int .i64 r.r, .int .i64 r.m, .int .i64 r.j], .int .i64 n, .slice a ls.length cap] w fun e w' => e = .returned (.bool true) ∧ Below w.heap.size w w' := by
  by_cases h : wrong r = 0
  · have hp := fun v q => play_any r h a cap ls.length ls rfl hl v q
    rcases dn_or r with ⟨T, hT⟩ | hF
    · by_cases hn : n < 0 ∨ ((xp r T).1.length : Int) ≤ n
      · refine led_out r n 3 rfl (xp r T).1 _ hn a cap ls.length ls w hv al (sS r T h hT) (fun v => (lN r T n h hT hn v).mono ?_)
        rintro e w' ⟨rfl, b⟩
        exact ⟨none, 0, 0, rfl, b⟩
      · obtain ⟨N, rfl⟩ : ∃ N : Nat, n = (N : Int) := ⟨n.toNat, by omega⟩
        have hN : N < (xp r T).1.length := by omega
        obtain ⟨l, hL⟩ := ld_some hT.1 N hN
        obtain ⟨hl3, hmem⟩ := hlt r T N l hT hN hL
        have hs := ld_run hT.1 N l hL hN
        have hal : allLate r (l.map (pr r)) := fun p hp => by
          obtain ⟨i, hi, rfl⟩ := List.mem_map.1 hp
          exact sp_lates (wrong_ok.1 h).2 (hmem i hi)
        have hst := steps_pr r l (K.start r)
        have pl : ∀ ao cp v, VRow v ao (l.map (pr r)) → Calls Try.prog 17 #[.agg #[.int .i64 r.k0, .int .i64 r.k1, .int .i64 r.r, .int .i64 r.m, .int .i64 r.j], .slice ao l.length cp] v _ := fun ao cp v q => play_any r h ao cp l.length (l.map (pr r)) (by simp) (by omega) v q
        have lS' := lS r T N l h hT hN hL
        by_cases g : allLate r ls
        · by_cases e : steps r (K.start r) ls = l.foldl (sp r) (K.start r)
          · refine led_same r N (xp r T).1 _ N rfl (l.foldl (sp r) (K.start r)) (steps r (K.start r) ls) hs hN hT.2.2 0 (l.map (pr r)) l.length rfl e.symm a cap ls.length ?_ ls w hv al (sS r T h hT) lS' (fun ao cp v q => (pl ao cp v q).mono ?_) (fun v q => (hp v q).mono ?_)
            · obtain ⟨a1, a2⟩ := steps_sp (wrong_ok.1 h).2 ls (K.start r) g
              have := done_short hT.done (ls.map (nl r)) a1 N l hL (by rw [← a2, e]; exact hs)
              simpa using this
            · rintro e w' ⟨⟨_, ao, cp, rfl, _, hr, _⟩ | ⟨h', _⟩, b⟩
              · rw [hst]; exact ⟨ao, _, cp, rfl, b⟩
              · exact absurd hal h'
            · rintro e w' ⟨⟨_, ao, cp, rfl, _, hr, _⟩ | ⟨h', _⟩, b⟩
              · exact ⟨ao, _, cp, rfl, b⟩
              · exact absurd g h'
          · refine led_other r N (xp r T).1 _ N rfl (l.foldl (sp r) (K.start r)) (steps r (K.start r) ls) hs hN hT.2.2 0 (l.map (pr r)) l.length rfl e a cap ls.length ls w hv al (sS r T h hT) lS' (fun ao cp v q => (pl ao cp v q).mono ?_) (fun v q => (hp v q).mono ?_)
            · rintro e w' ⟨⟨_, ao, cp, rfl, _, hr, _⟩ | ⟨h', _⟩, b⟩
              · rw [hst]; exact ⟨ao, _, cp, rfl, b⟩
              · exact absurd hal h'
            · rintro e w' ⟨⟨_, ao, cp, rfl, _, hr, _⟩ | ⟨h', _⟩, b⟩
              · exact ⟨ao, _, cp, rfl, b⟩
              · exact absurd g h'
        · refine led_fail r N (xp r T).1 _ N rfl (l.foldl (sp r) (K.start r)) Z0 hs hN hT.2.2 2 (l.map (pr r)) l.length rfl a cap ls.length ls w hv al (sS r T h hT) lS' (fun ao cp v q => (pl ao cp v q).mono ?_) (fun v q => (hp v q).mono ?_)
          · rintro e w' ⟨⟨_, ao, cp, rfl, _, hr, _⟩ | ⟨h', _⟩, b⟩
            · rw [hst]; exact ⟨ao, _, cp, rfl, b⟩
            · exact absurd hal h'
          · rintro e w' ⟨⟨h', _⟩ | ⟨_, rfl⟩, b⟩
            · exact absurd h' g
            · exact ⟨none, 0, 0, rfl, b⟩
    · refine led_err r n 4 4 rfl rfl a cap ls.length ls w hv al (sF r h hF) (fun v => (lF r n h hF v).mono ?_)
      rintro e w' ⟨rfl, b⟩
      exact ⟨none, 0, 0, rfl, b⟩
  · refine led_err r n (wrong r) (wrong r) (by simpa using h) (by simpa using h) a cap ls.length ls w hv al (sW r _ rfl (by simpa using h)) (fun v => (lW r _ n rfl (by simpa using h) v).mono ?_)
    rintro e w' ⟨rfl, b⟩
    exact ⟨none, 0, 0, rfl, b⟩

/-- alive19's rules -/
def r19 : Ru := ⟨1, 3, 3, 4, 0⟩
theorem dn19 : Dn r19 41 ∧ (xp r19 41).1.length = 41 := by
  refine ⟨⟨?_, ?_, ?_⟩, ?_⟩
  · unfold Live; decide +kernel
  · decide +kernel
  · decide +kernel
  · decide +kernel

end Go.Proofs.Ytilpooifggofiaa.D
