/- PROVED: what steady's put leaves. where the search of states comes to its end, and where there are too many. on plain lists: SOf comes to its end or there are too many; a run by what is late is a run by numbers. CONDITIONS: none beyond each theorem's own. -/
import Derived.Test.YtilpooifggofiaaPr
import Derived.Test.YtilpooifggofiaaB06Reg
import Derived.Test.YtilpooifggofiaaSoA
namespace Go.Proofs.Ytilpooifggofiaa.D
open Go.RowKit K
set_option linter.unusedVariables false

theorem Fnd.slice {B0 : Nat} {K : Nat → Prop} {C M : Nat} {r : Ru} {v : Nat → Value} {L Lm : List Sx} {S : List Stp} {F : List Nat} {w : World} (h : Fnd B0 K C M r v L Lm S F w) {c : Nat} (hc : c < 3) : ∃ ao cp, v c = .slice ao (gn ⟨L, S, F⟩ c) cp := by
  obtain ⟨_, ⟨e, e2⟩ | ⟨g, cap, cu, e, _⟩⟩ := h.fam.own c hc
  · exact ⟨none, 0, by rw [e, e2]⟩
  · exact ⟨_, _, e⟩
theorem int_one (n : Int) : ∀ u ∈ [Value.int .i64 n], u.oneCell' = true := by simp [Value.oneCell']
set_option maxHeartbeats 6400000 in
set_option maxRecDepth 20000 in
theorem put_any (B0 : Nat) (K : Nat → Prop) (C M : Nat) (r : Ru) (v : Nat → Value) (L : List Sx) (S : List Stp) (F : List Nat) (y : Sx) (hok : okS y) (hy : y ∉ L) (hL : L.length ≤ 300) (hS : S.length ≤ 100000) (hF : F.length ≤ 300) (w : World) (h : Fnd B0 K C M r v L L S F w) :
    Calls Try.prog 31 #[.pointer (some ⟨C, 0, none⟩), .agg #[.int .i64 y.f0.k, .int .i64 y.f0.n, .int .i64 y.f0.b, .int .i64 y.f0.a, .int .i64 y.f0.s, .int .i64 y.f0.q, .int .i64 y.f1.k, .int .i64 y.f1.n, .int .i64 y.f1.b, .int .i64 y.f1.a, .int .i64 y.f1.s, .int .i64 y.f1.q, .int .i64 y.w0, .int .i64 y.w1]] w fun e w' => e = .returned (.int .i64 (L.length : Int)) ∧ ∃ v', v' 1 = v 1 ∧ Fnd B0 K C M r v' (L ++ [y]) (L ++ [y]) S (F ++ [S.length]) w' ∧ Mov B0 K C M w w' := by
  obtain ⟨W1, hW1⟩ : ∃ W1, w.alloc (.cells #[.int .i64 y.f0.k, .int .i64 y.f0.n, .int .i64 y.f0.b, .int .i64 y.f0.a, .int .i64 y.f0.s, .int .i64 y.f0.q, .int .i64 y.f1.k, .int .i64 y.f1.n, .int .i64 y.f1.b, .int .i64 y.f1.a, .int .i64 y.f1.s, .int .i64 y.f1.q, .int .i64 y.w0, .int .i64 y.w1] 48) = W1 := ⟨_, rfl⟩
  obtain ⟨Bx, hBx⟩ : ∃ Bx, w.heap.size = Bx := ⟨_, rfl⟩
  have sB := Sta.new w w.heap.size rfl y.f0.k y.f0.n y.f0.b y.f0.a y.f0.s y.f0.q y.f1.k y.f1.n y.f1.b y.f1.a y.f1.s y.f1.q y.w0 y.w1
  have f1 := h.alloc (.cells #[.int .i64 y.f0.k, .int .i64 y.f0.n, .int .i64 y.f0.b, .int .i64 y.f0.a, .int .i64 y.f0.s, .int .i64 y.f0.q, .int .i64 y.f1.k, .int .i64 y.f1.n, .int .i64 y.f1.b, .int .i64 y.f1.a, .int .i64 y.f1.s, .int .i64 y.f1.q, .int .i64 y.w0, .int .i64 y.w1] 48)
  have m1 : Mov B0 K C M w (w.alloc (.cells #[.int .i64 y.f0.k, .int .i64 y.f0.n, .int .i64 y.f0.b, .int .i64 y.f0.a, .int .i64 y.f0.s, .int .i64 y.f0.q, .int .i64 y.f1.k, .int .i64 y.f1.n, .int .i64 y.f1.b, .int .i64 y.f1.a, .int .i64 y.f1.s, .int .i64 y.f1.q, .int .i64 y.w0, .int .i64 y.w1] 48)) := Mov.of_below (fun g hg => (h.fam.kb g hg).1) h.fam.sz (balloc (Below.refl _ _) _)
  have hBC : w.heap.size ≠ C := fun e => by have := block_lt h.cm; simp at this; omega
  have hBM : w.heap.size ≠ M := fun e => by have := h.map.lt; omega
  rw [hBx] at sB f1 hBC hBM
  rw [hW1] at sB f1 m1
  have f1k := h.kC
  have f1m := h.kM
  clear h
  have q0 := f1.cf 0 (by omega)
  obtain ⟨ao0, cp0, ev0⟩ := f1.slice (c := 0) (by omega)
  have en : gn ⟨L, S, F⟩ 0 = L.length := rfl
  rw [en] at ev0
  rw [ev0] at q0
  simp only [fld] at q0
  -- one state more
  obtain ⟨g0, cap0, w2, hr0, c0, fz0, f2, m2, _⟩ := f1.drew.app (c := 0) (by omega) (by rw [en]; omega) (news := cS y) rfl (by simp [cS, Value.oneCell']) 25 (L' := L ++ [y]) (S' := S) (F' := F) (gn_state r L S F y)
  have hr0' : ∀ ty, (Builtin.append_ #[25, 25] ty #[.slice ao0 L.length cp0, .slice (some ⟨W1.heap.size, 0, none⟩) 1 1]).run Try.prog (W1.drew.alloc (.cells (cS y).toArray 48)) = .ok (.slice (some ⟨g0, 0, none⟩) (L.length + 1) cap0) w2 := fun ty => by
    rw [ev0] at hr0; exact hr0
  rw [ev0] at c0
  simp only [fld] at c0 fz0 f2 m2
  rw [en] at f2 m2
  have sB2 := sB.block (m2.oth Bx (.inr rfl) hBC hBM)
  have hc1 : (W1.drew.alloc (.cells (cS y).toArray 48)).cell? ⟨C, 0, none⟩ = some (.slice ao0 L.length cp0) := by
    have := (f1.drew.alloc (.cells (cS y).toArray 48)).cf 0 (by omega)
    rw [ev0] at this; exact this
  obtain ⟨W2, hW2⟩ : ∃ W2, w2.setCell ⟨C, 0, none⟩ (.slice (some ⟨g0, 0, none⟩) (L.length + 1) cap0) = W2 := ⟨_, rfl⟩
  rw [hW2] at f2 m2 sB2
  -- the map
  obtain ⟨w3, hr3, f3, m3⟩ := f2.drew.store hok hy (by omega)
  have hcM : W2.drew.cell? ⟨C, 1, none⟩ = some (.map (some M)) := f2.drew.cm
  have sB2' : Sta W2.drew Bx y.f0.k y.f0.n y.f0.b y.f0.a y.f0.s y.f0.q y.f1.k y.f1.n y.f1.b y.f1.a y.f1.s y.f1.q y.w0 y.w1 := sB2.drew
  -- by which step
  have q2 := f3.cf 2 (by omega)
  obtain ⟨ao2, cp2, ev2⟩ := f3.slice (c := 2) (by omega)
  have en2 : gn ⟨L ++ [y], S, F⟩ 2 = F.length := rfl
  rw [en2] at ev2
  have q1 := f3.drew.cf 1 (by omega)
  obtain ⟨ao1, cp1, ev1⟩ := f3.slice (c := 1) (by omega)
  have en1 : gn ⟨L ++ [y], S, F⟩ 1 = S.length := rfl
  rw [en1] at ev1
  rw [ev1] at q1
  obtain ⟨g4, cap4, w4, hr4, c4, fz4, f4, m4, _⟩ := f3.drew.app (c := 2) (by omega) (by rw [en2]; omega) (news := [.int .i64 (S.length : Int)]) rfl (int_one _) 26 (L' := L ++ [y]) (S' := S) (F' := F ++ [S.length]) (gn_first r (L ++ [y]) S F S.length)
  have hr4' : ∀ ty, (Builtin.append_ #[26, 26] ty #[.slice ao2 F.length cp2, .slice (some ⟨w3.heap.size, 0, none⟩) 1 1]).run Try.prog (w3.drew.alloc (.cells #[.int .i64 (S.length : Int)] 3)) = .ok (.slice (some ⟨g4, 0, none⟩) (F.length + 1) cap4) w4 := fun ty => by
    rw [ev2] at hr4; exact hr4
  have q4 : w3.drew.cell? ⟨C, 3, none⟩ = some (.slice ao2 F.length cp2) := by rw [ev2] at q2; exact q2
  have q5 : (w3.drew.alloc (.cells #[.int .i64 (S.length : Int)] 3)).cell? ⟨C, 3, none⟩ = some (.slice ao2 F.length cp2) := by
    have := (f3.drew.alloc (.cells #[.int .i64 (S.length : Int)] 3)).cf 2 (by omega)
    rw [ev2] at this; exact this
  rw [ev2] at c4
  simp only [fld] at c4 fz4 f4 m4 q1
  rw [en2] at f4 m4
  obtain ⟨W4, hW4⟩ : ∃ W4, w4.setCell ⟨C, 3, none⟩ (.slice (some ⟨g4, 0, none⟩) (F.length + 1) cap4) = W4 := ⟨_, rfl⟩
  rw [hW4] at f4 m4
  have hall : Hid (∃ v', v' 1 = v 1 ∧ Fnd B0 K C M r v' (L ++ [y]) (L ++ [y]) S (F ++ [S.length]) W4 ∧ Mov B0 K C M w W4) := by
    refine ⟨_, ?_, f4.less (fun g hg => .inl hg) f1k f1m, ?_⟩
    · rw [up_ne _ _ _ (by omega), up_ne _ _ _ (by omega)]
    · have d1 : ∀ W : World, Mov B0 K C M W W.drew := fun W => ⟨fun _ _ _ _ => rfl, fun _ _ _ q _ => q, Below.drew (Below.refl _ _)⟩
      exact m1.trans ((d1 _).trans ((m2.less fun g hg => .inl hg).trans ((d1 _).trans ((m3.less fun g hg => .inl hg).trans ((d1 _).trans (m4.less fun g hg => .inl hg))))))
  have sB1 := sB.drew
  have hc0 : W1.drew.cell? ⟨C, 0, none⟩ = some (.slice ao0 L.length cp0) := q0
  clear f2 f3 f4 m1 m2 m3 m4 hr0 hr4 f1k f1m q2
  replace sB1 : Hid _ := sB1
  replace sB2' : Hid _ := sB2'
  replace hr0' : Hid _ := hr0'
  replace hr3 : Hid _ := hr3
  replace hr4' : Hid _ := hr4'
  clear sB sB2
  go_enter Try.func31, Try.ntmps31

  go_wp2
  refine regionP2 (by rfl) (by kernel_rfl) (by kernel_rfl) (by kernel_rfl) (by simp) (Bx := Bx) (by rfl) (by rfl) hc0 hc1 sB1.out hr0'.out c0 fz0 ?_
  intro ys
  rw [hW2]
  rw [show slotsOf OP2 = [11, 12, 13, 14, 15, 16, 17, 18, 19, 20] from rfl]
  simp only [tA, sets]
  simp only [List.setIfInBounds_toArray, List.set_cons_succ, List.set_cons_zero]
  generalize ys 11 = ys11
  generalize ys 12 = ys12
  generalize ys 13 = ys13
  generalize ys 14 = ys14
  generalize ys 15 = ys15
  generalize ys 16 = ys16
  generalize ys 17 = ys17
  generalize ys 18 = ys18
  generalize ys 19 = ys19
  generalize ys 20 = ys20

  go_wp2
  refine regionP3 (by rfl) (by kernel_rfl) (by kernel_rfl) (by kernel_rfl) (by simp) (Bx := Bx) (k := (L.length : Int)) (by rfl) (by rfl) (by rfl) hcM sB2'.out hr3.out ?_
  intro zs
  rw [show slotsOf OP3 = [21, 22, 23, 24, 25, 26] from rfl]
  simp only [tA, sets]
  simp only [List.setIfInBounds_toArray, List.set_cons_succ, List.set_cons_zero]
  generalize zs 21 = zs21
  generalize zs 22 = zs22
  generalize zs 23 = zs23
  generalize zs 24 = zs24
  generalize zs 25 = zs25
  generalize zs 26 = zs26

  go_wp2
  refine regionP4 (by rfl) (by kernel_rfl) (by kernel_rfl) (by kernel_rfl) (by simp) (by rfl) q4 q5 q1 hr4'.out c4 fz4 ?_
  intro us
  rw [hW4]
  rw [show slotsOf OP4 = [27, 28, 29, 30, 31, 32, 33, 34, 35, 36, 37, 38, 39, 40] from rfl]
  simp only [tA, sets]
  simp only [List.setIfInBounds_toArray, List.set_cons_succ, List.set_cons_zero]
  generalize us 27 = us27
  generalize us 28 = us28
  generalize us 29 = us29
  generalize us 30 = us30
  generalize us 31 = us31
  generalize us 32 = us32
  generalize us 33 = us33
  generalize us 34 = us34
  generalize us 35 = us35
  generalize us 36 = us36
  generalize us 37 = us37
  generalize us 38 = us38
  generalize us 39 = us39
  generalize us 40 = us40

  go_wp2
  refine bodyPost_ret (by simp [results, Try.results31, go_sem]) rfl ⟨rfl, hall.out⟩

end Go.Proofs.Ytilpooifggofiaa.D

namespace Go.Proofs.Ytilpooifggofiaa.D
open Go.RowKit K
set_option linter.unusedVariables false

/-- SOf came to its end: each step of each state is there -/
def Dn (r : Ru) (T : Nat) : Prop := Live (sp r) (ee r) (K.start r) T ∧ T = ee r * (xp r T).1.length ∧ (xp r T).1.length ≤ 300
/-- a state more than there may be -/
def Fl (r : Ru) : Prop := ∃ t x, Live (sp r) (ee r) (K.start r) t ∧ (xp r t).1[t / ee r]? = some x ∧ (xp r t).1.length = 300 ∧ sp r x (t % ee r) ∉ (xp r t).1

end Go.Proofs.Ytilpooifggofiaa.D

namespace Go.Proofs.Ytilpooifggofiaa.D
open Go.RowKit K
set_option linter.unusedVariables false

theorem dn_or (r : Ru) : (∃ T, Dn r T) ∨ Fl r := by
  by_cases hf : Fl r
  · exact .inr hf
  by_cases hd : ∃ T, Dn r T
  · exact .inl hd
  exfalso
  have key : ∀ t, Live (sp r) (ee r) (K.start r) t ∧ (xp r t).1.length ≤ 300 := by
    intro t
    induction t with
    | zero => exact ⟨fun t h => by omega, by show 1 ≤ 300; omega⟩
    | succ t ih =>
      obtain ⟨hL, hl⟩ := ih
      have hle : t ≤ ee r * (xp r t).1.length := by
        cases t with
        | zero => exact Nat.zero_le _
        | succ u =>
          have h1 := hL u (by omega)
          have g := ex_grows (t := u) (d := 1) hL
          exact Nat.le_trans h1 (Nat.mul_le_mul_left _ g)
      have hlt : t < ee r * (xp r t).1.length := by
        rcases Nat.lt_or_ge t (ee r * (xp r t).1.length) with q | q
        · exact q
        · exact absurd ⟨t, hL, Nat.le_antisymm hle q, hl⟩ hd
      have hL1 : Live (sp r) (ee r) (K.start r) (t + 1) := fun t' ht' => by
        rcases Nat.lt_succ_iff_lt_or_eq.1 ht' with q | rfl
        · exact hL t' q
        · exact hlt
      refine ⟨hL1, ?_⟩
      obtain ⟨x, hx, e⟩ := ex_succ (step := sp r) (E := ee r) (s0 := K.start r) hlt
      have e2 : (xp r (t + 1)).1 = Ytilpooifggofiaa.nx (xp r t).1 (sp r x (t % ee r)) := congrArg Prod.fst e
      rw [e2]
      rcases Nat.lt_or_ge (xp r t).1.length 300 with q | q
      · exact Nat.le_trans (nx_len _ _).2 (by omega)
      · by_cases hm : sp r x (t % ee r) ∈ (xp r t).1
        · unfold Ytilpooifggofiaa.nx; rw [if_pos hm]; exact hl
        · exact absurd ⟨t, x, hL, hx, by omega, hm⟩ hf
  have h1 : ee r * 300 < ee r * (xp r (ee r * 300)).1.length := (key (ee r * 300 + 1)).1 (ee r * 300) (by omega)
  have h2 := Nat.mul_le_mul_left (ee r) (key (ee r * 300)).2
  exact Nat.lt_irrefl _ (Nat.lt_of_lt_of_le h1 h2)
theorem Dn.done {r : Ru} {T : Nat} (h : Dn r T) : Done (sp r) (ee r) (K.start r) T := ⟨h.1, h.2.1⟩

/-- the number of what is late -/
def nl (r : Ru) (p : Int × Int) : Nat := p.1.toNat * jj r + p.2.toNat
theorem nl_lt {r : Ru} (hr : ranges r) {p : Int × Int} (h : lates r p.1 p.2) : nl r p < ee r ∧ ∀ s, sp r s (nl r p) = K.step r s p.1 p.2 := by
  obtain ⟨e, _, _⟩ := jj_cast hr
  unfold lates at h
  have h1 : p.1.toNat < jj r := by omega
  have h2 : p.2.toNat < jj r := by omega
  have d1 : nl r p / jj r = p.1.toNat := by
    unfold nl
    rw [Nat.mul_comm, Nat.mul_add_div (by omega), Nat.div_eq_of_lt h2, Nat.add_zero]
  have d2 : nl r p % jj r = p.2.toNat := by
    unfold nl
    rw [Nat.mul_comm, Nat.mul_add_mod, Nat.mod_eq_of_lt h2]
  refine ⟨?_, fun s => ?_⟩
  · have : (p.1.toNat + 1) * jj r ≤ jj r * jj r := Nat.mul_le_mul_right _ h1
    rw [Nat.add_mul, Nat.one_mul] at this
    unfold nl ee
    omega
  · unfold sp
    rw [d1, d2, Int.toNat_of_nonneg h.1.1, Int.toNat_of_nonneg h.2.1]
theorem steps_sp {r : Ru} (hr : ranges r) : ∀ (ls : List (Int × Int)) (s : Sx), allLate r ls → (∀ n ∈ ls.map (nl r), n < ee r) ∧ steps r s ls = (ls.map (nl r)).foldl (sp r) s := by
  intro ls
  induction ls with
  | nil => intro s _; exact ⟨fun n h => by simp at h, rfl⟩
  | cons p ls ih =>
    intro s h
    obtain ⟨h1, h2⟩ := nl_lt hr (h p (List.mem_cons_self ..))
    obtain ⟨a, b⟩ := ih (K.step r s p.1 p.2) fun q hq => h q (List.mem_cons_of_mem _ hq)
    refine ⟨fun n hn => ?_, ?_⟩
    · rw [List.map_cons] at hn
      rcases List.mem_cons.1 hn with q | q
      · rw [q]; exact h1
      · exact a n q
    · rw [List.map_cons, List.foldl_cons, h2]; exact b
/-- nothing else is come to -/
theorem run_in {r : Ru} (hr : ranges r) {T : Nat} (h : Dn r T) {ls : List (Int × Int)} (hl : allLate r ls) : steps r (K.start r) ls ∈ (xp r T).1 := by
  obtain ⟨a, b⟩ := steps_sp hr ls (K.start r) hl
  rw [b]
  exact done_run h.done _ a
end Go.Proofs.Ytilpooifggofiaa.D
