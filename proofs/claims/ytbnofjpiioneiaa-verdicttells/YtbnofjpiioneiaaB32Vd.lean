/- PROVED: runs are walks of the graph, and walks are runs; who starves, by runs alone; more that may be late, a smaller ratio: no less starve; what is bounded. CONDITIONS: none beyond each theorem's own. -/
import Derived.Test.YtbnofjpiioneiaaB31QCl
import Derived.Test.YtbnofjpiioneiaaB25DStart
namespace Go.Proofs.Ytbnofjpiioneiaa.D
open Go.RowKit K
set_option linter.unusedVariables false

/-- edge u of the graph -/
def ed (r : Ru) (T : Nat) (who ratio : Int) (u : Nat) : Q.Eg := ⟨u / ee r, (xp r T).2.getD u 0, wgt who ratio (K.round r ((xp r T).1.getD (u / ee r) (K.start r)))⟩
/-- all edges -/
def esG (r : Ru) (T : Nat) (who ratio : Int) : List Q.Eg := (List.range T).map (ed r T who ratio)
theorem esG_len (r : Ru) (T : Nat) (who ratio : Int) : (esG r T who ratio).length = T := by simp [esG]
theorem esG_get {r : Ru} {T : Nat} {who ratio : Int} {u : Nat} (h : u < T) : (esG r T who ratio)[u]? = some (ed r T who ratio u) := by
  simp [esG, List.getElem?_map, List.getElem?_range h]
theorem esG_mem {r : Ru} {T : Nat} {who ratio : Int} {e : Q.Eg} : e ∈ esG r T who ratio ↔ ∃ u, u < T ∧ ed r T who ratio u = e := by
  simp [esG]
theorem esG_eg {r : Ru} {T : Nat} {who ratio : Int} {u : Nat} (h : u < T) : Q.eg (esG r T who ratio) u = ed r T who ratio u := by
  unfold Q.eg; rw [List.getD_eq_getElem?_getD, esG_get h]; rfl
/-- state i -/
def stt (r : Ru) (T i : Nat) : Sx := (xp r T).1.getD i (K.start r)
theorem stt_at {r : Ru} {T i : Nat} {s : Sx} (h : (xp r T).1[i]? = some s) : stt r T i = s := by
  unfold stt; rw [List.getD_eq_getElem?_getD, h]; rfl
theorem stt_get {r : Ru} {T i : Nat} (h : i < (xp r T).1.length) : (xp r T).1[i]? = some (stt r T i) := by
  rw [stt_at (List.getElem?_eq_getElem h)]; exact List.getElem?_eq_getElem h

section
variable {r : Ru} {T : Nat} (hT : Dn r T) (who ratio : Int)
include hT
/-- what edge u is: the step of state u / E by what may be late number u % E -/
theorem ed_is {u : Nat} (hu : u < T) : u / ee r < (xp r T).1.length ∧ (ed r T who ratio u).t < (xp r T).1.length ∧ stt r T (ed r T who ratio u).t = sp r (stt r T (u / ee r)) (u % ee r) ∧ (ed r T who ratio u).x = wgt who ratio (K.round r (stt r T (u / ee r))) := by
  obtain ⟨x, i, h1, h2, h3, _, _⟩ := ex_to hT.1 hu
  replace h1 : (xp r T).1[u / ee r]? = some x := h1
  replace h2 : (xp r T).2[u]? = some i := h2
  replace h3 : (xp r T).1[i]? = some (sp r x (u % ee r)) := h3
  have e : (ed r T who ratio u).t = i := by show (xp r T).2.getD u 0 = i; rw [List.getD_eq_getElem?_getD, h2]; rfl
  refine ⟨(List.getElem?_eq_some_iff.1 h1).1, by rw [e]; exact (List.getElem?_eq_some_iff.1 h3).1, by rw [e, stt_at h3, stt_at h1], rfl⟩
theorem esG_inn : Q.Inn (xp r T).1.length (esG r T who ratio) := fun e he => by
  obtain ⟨u, hu, rfl⟩ := esG_mem.1 he
  obtain ⟨a, b, _, _⟩ := ed_is hT who ratio hu
  exact ⟨a, b⟩
/-- a run from a state on is a walk -/
theorem run_path (hr : ranges r) : ∀ (l : List (Int × Int)) (i : Nat), i < (xp r T).1.length → allLate r l → ∃ (c : List Q.Eg) (j : Nat), Q.Path (esG r T who ratio) i c j ∧ j < (xp r T).1.length ∧ stt r T j = steps r (stt r T i) l ∧ c.length = l.length ∧ Q.wt c = total (wgt who ratio) (rounds r (stt r T i) l) := by
  intro l
  induction l with
  | nil => exact fun i hi _ => ⟨[], i, rfl, hi, rfl, rfl, rfl⟩
  | cons p l ih =>
    intro i hi hl
    have hlp := hl p (by simp)
    obtain ⟨n1, n2⟩ := nl_lt hr hlp
    have hu : ee r * i + nl r p < T := by
      have h1 : ee r * (i + 1) ≤ ee r * (xp r T).1.length := Nat.mul_le_mul_left _ hi
      rw [Nat.mul_add, Nat.mul_one] at h1
      have e := hT.2.1
      omega
    have hd : (ee r * i + nl r p) / ee r = i := by rw [Nat.mul_add_div (ee_pos r), Nat.div_eq_of_lt n1, Nat.add_zero]
    have hm : (ee r * i + nl r p) % ee r = nl r p := by rw [Nat.mul_add_mod, Nat.mod_eq_of_lt n1]
    obtain ⟨a, b, c, d⟩ := ed_is hT who ratio hu
    rw [hd, hm, n2] at c
    rw [hd] at d
    obtain ⟨cs, j, h1, h2, h3, h4, h5⟩ := ih (ed r T who ratio (ee r * i + nl r p)).t b (fun q hq => hl q (by simp [hq]))
    refine ⟨ed r T who ratio (ee r * i + nl r p) :: cs, j, ⟨esG_mem.2 ⟨_, hu, rfl⟩, hd, h1⟩, h2, ?_, by simp [h4], ?_⟩
    · rw [h3, c]; rfl
    · show (ed r T who ratio (ee r * i + nl r p)).x + Q.wt cs = wgt who ratio (K.round r (stt r T i)) + total (wgt who ratio) (rounds r (K.step r (stt r T i) p.1 p.2) l)
      rw [h5, c, d]
/-- and a walk is a run -/
theorem path_run (hr : ranges r) : ∀ (c : List Q.Eg) (i j : Nat), i < (xp r T).1.length → Q.Path (esG r T who ratio) i c j → ∃ l, allLate r l ∧ l.length = c.length ∧ steps r (stt r T i) l = stt r T j ∧ total (wgt who ratio) (rounds r (stt r T i) l) = Q.wt c := by
  intro c
  induction c with
  | nil => intro i j hi h; cases h; exact ⟨[], (fun _ h => by cases h), rfl, rfl, rfl⟩
  | cons e c ih =>
    rintro i j hi ⟨h1, h2, h3⟩
    obtain ⟨u, hu, rfl⟩ := esG_mem.1 h1
    obtain ⟨a, b, q, d⟩ := ed_is hT who ratio hu
    have e : u / ee r = i := h2
    rw [e] at q d
    obtain ⟨l, g1, g2, g3, g4⟩ := ih _ j b h3
    have hl := sp_lates hr (n := u % ee r) (Nat.mod_lt _ (ee_pos r))
    refine ⟨pr r (u % ee r) :: l, fun p hp => ?_, by simp [g2], ?_, ?_⟩
    · rcases List.mem_cons.1 hp with rfl | hp
      · exact hl
      · exact g1 p hp
    · show steps r (sp r (stt r T i) (u % ee r)) l = _
      rw [← q, g3]
    · show wgt who ratio (K.round r (stt r T i)) + total (wgt who ratio) (rounds r (sp r (stt r T i) (u % ee r)) l) = (ed r T who ratio u).x + Q.wt c
      rw [← q, g4, d]
/-- the walk along edges by their numbers, as a run -/
theorem wok_run (hr : ranges r) {R : Nat → Nat} {p : Nat} (h : Q.Wok (esG r T who ratio) R p) : ∀ k, k ≤ p → ∀ (hp : 0 < p), steps r (stt r T (R 0 / ee r)) ((List.range k).map fun j => pr r (R j % ee r)) = (if k = 0 then stt r T (R 0 / ee r) else stt r T ((Q.eg (esG r T who ratio) (R (k - 1))).t)) ∧ total (wgt who ratio) (rounds r (stt r T (R 0 / ee r)) ((List.range k).map fun j => pr r (R j % ee r))) = Q.nsum (esG r T who ratio) R k := by
  intro k
  induction k with
  | zero => intro _ _; exact ⟨rfl, rfl⟩
  | succ k ih =>
    intro hk hp
    obtain ⟨g1, g2⟩ := ih (by omega) hp
    obtain ⟨w1, w2⟩ := h k (by omega)
    rw [esG_len] at w1
    obtain ⟨a, b, q, d⟩ := ed_is hT who ratio w1
    have hs : steps r (stt r T (R 0 / ee r)) ((List.range k).map fun j => pr r (R j % ee r)) = stt r T (R k / ee r) := by
      rw [g1]
      by_cases hk0 : k = 0
      · subst hk0; rfl
      · rw [if_neg hk0, ← w2 (by omega), esG_eg w1]; rfl
    rw [List.range_succ, List.map_append, List.map_singleton]
    refine ⟨?_, ?_⟩
    · rw [steps_snoc, hs, if_neg (by omega)]
      show sp r (stt r T (R k / ee r)) (R k % ee r) = _
      rw [← q, show k + 1 - 1 = k by omega, esG_eg w1]
    · rw [rounds_snoc, total_snoc, g2, hs]
      show _ = Q.nsum (esG r T who ratio) R k + (Q.eg (esG r T who ratio) (R k)).x
      rw [esG_eg w1, d]
end

/-- one starves the other: a run that comes to a state, and one that leads there again and brings more -/
def Starve (r : Ru) (who ratio : Int) : Prop := ∃ a c, allLate r a ∧ allLate r c ∧ steps r (steps r (K.start r) a) c = steps r (K.start r) a ∧ 0 < total (wgt who ratio) (rounds r (steps r (K.start r) a) c)
theorem stt_run {r : Ru} {T : Nat} (hr : ranges r) (hT : Dn r T) {i : Nat} (hi : i < (xp r T).1.length) : ∃ a, allLate r a ∧ steps r (K.start r) a = stt r T i := by
  obtain ⟨l, hL⟩ := ld_some hT.1 i hi
  obtain ⟨_, hm⟩ := ld_small hL
  have h := ld_run hT.1 i l hL hi
  refine ⟨l.map (pr r), fun p hp => ?_, ?_⟩
  · obtain ⟨n, hn, rfl⟩ := List.mem_map.1 hp
    exact sp_lates hr (hm n hn)
  · rw [steps_pr, stt_at h]
theorem starve_iff {r : Ru} {T : Nat} (hr : ranges r) (hT : Dn r T) (who ratio : Int) : Starve r who ratio ↔ ¬ Q.noPos (esG r T who ratio) := by
  constructor
  · rintro ⟨a, c, ha, hc, h1, h2⟩ hn
    have hm := run_in hr hT ha
    obtain ⟨i1, i2⟩ := ix_mem hm
    have e := stt_at i2
    obtain ⟨cs, j, g1, g2, g3, _, g5⟩ := run_path hT who ratio hr c _ i1 hc
    rw [e] at g3 g5
    rw [h1] at g3
    have hj : j = ix (xp r T).1 (steps r (K.start r) a) := by
      have := stt_get g2
      rw [g3] at this
      exact (ix_at (ex_nodup hT.1) this).symm
    subst hj
    have := hn _ _ g1
    omega
  · intro h
    obtain ⟨u, h⟩ := Classical.not_forall.1 h
    obtain ⟨l, h⟩ := Classical.not_forall.1 h
    obtain ⟨hp, hw⟩ := Classical.not_imp.1 h
    have hu : u < (xp r T).1.length := by
      cases l with
      | nil => exact absurd (show Q.wt [] ≤ 0 by simp [Q.wt]) hw
      | cons e l =>
        obtain ⟨g1, g2, _⟩ := hp
        rw [← g2]
        exact (esG_inn hT who ratio e g1).1
    obtain ⟨c, g1, g2, g3, g4⟩ := path_run hT who ratio hr l u u hu hp
    obtain ⟨a, a1, a2⟩ := stt_run hr hT hu
    exact ⟨a, c, a1, g1, by rw [a2, g3], by rw [a2, g4]; omega⟩

/-- rules that differ in how late one may be alone -/
def jit (r : Ru) (j : Int) : Ru := { r with j := j }
theorem steps_jit (r : Ru) (j : Int) : ∀ (l : List (Int × Int)) (s : Sx), steps (jit r j) s l = steps r s l := by
  intro l
  induction l with
  | nil => exact fun _ => rfl
  | cons p l ih => exact fun s => ih _
theorem rounds_jit (r : Ru) (j : Int) : ∀ (l : List (Int × Int)) (s : Sx), rounds (jit r j) s l = rounds r s l := by
  intro l
  induction l with
  | nil => exact fun _ => rfl
  | cons p l ih => exact fun s => congrArg _ (ih _)
theorem starve_jit {r : Ru} {j k : Int} (h : j ≤ k) {who ratio : Int} (hs : Starve (jit r j) who ratio) : Starve (jit r k) who ratio := by
  obtain ⟨a, c, ha, hc, h1, h2⟩ := hs
  have up : ∀ l, allLate (jit r j) l → allLate (jit r k) l := fun l hl p hp => by
    obtain ⟨⟨x0, x1⟩, y0, y1⟩ := hl p hp
    replace x1 : p.1 ≤ j := x1
    replace y1 : p.2 ≤ j := y1
    exact ⟨⟨x0, show p.1 ≤ k by omega⟩, y0, show p.2 ≤ k by omega⟩
  simp only [steps_jit, rounds_jit] at h1 h2
  refine ⟨a, c, up a ha, up c hc, ?_, ?_⟩
  · simp only [steps_jit]; exact h1
  · simp only [steps_jit, rounds_jit]; exact h2
theorem total_le {f g : Rx → Int} {l : List Rx} (h : ∀ x ∈ l, f x ≤ g x) : total f l ≤ total g l := by
  induction l with
  | nil => exact Int.le_refl _
  | cons x l ih =>
    have h1 := h x (by simp)
    have h2 := ih fun y hy => h y (by simp [hy])
    show f x + total f l ≤ g x + total g l
    omega
theorem starve_ratio {r : Ru} (hk : kinds r ∧ ranges r) {who ratio more : Int} (h : 0 ≤ more) (hs : Starve r who (ratio + more)) : Starve r who ratio := by
  obtain ⟨a, c, ha, hc, h1, h2⟩ := hs
  refine ⟨a, c, ha, hc, h1, Int.lt_of_lt_of_le h2 (total_le fun x hx => ?_)⟩
  obtain ⟨_, _, ⟨c0, _⟩, ⟨c1, _⟩, _⟩ := rounds_in (steps_right (start_right hk) ha) hc x hx
  have e0 := Int.mul_nonneg h c0
  have e1 := Int.mul_nonneg h c1
  unfold wgt
  split
  · rw [Int.add_mul]; omega
  · rw [Int.add_mul]; omega

/-- what rounds that follow one another bring at most -/
theorem bounded_run {r : Ru} {T : Nat} (hr : ranges r) (hT : Dn r T) {who ratio : Int} {m : Nat → Int} (hm : Q.Mst (esG r T who ratio) m) {M : Int} (hM : ∀ v, v < (xp r T).1.length → m v ≤ M) {ls : List (Int × Int)} (hl : allLate r ls) (x y : Nat) : total (wgt who ratio) (((rounds r (K.start r) ls).take y).drop x) ≤ M := by
  have key : ∀ a b, allLate r a → allLate r b → total (wgt who ratio) (rounds r (steps r (K.start r) a) b) ≤ M := fun a b ha hb => by
    obtain ⟨i1, i2⟩ := ix_mem (run_in hr hT ha)
    obtain ⟨cs, j, g1, g2, _, _, g5⟩ := run_path hT who ratio hr b _ i1 hb
    rw [stt_at i2] at g5
    have := Q.pots_walk hm.1 g1
    have := hm.2.1 (ix (xp r T).1 (steps r (K.start r) a))
    have := hM j g2
    omega
  have hz : ls = ls.take x ++ ls.drop x := (List.take_append_drop x ls).symm
  have e : ((rounds r (K.start r) ls).take y).drop x = rounds r (steps r (K.start r) ((ls.take y).take x)) ((ls.take y).drop x) := by
    have ht : ∀ (l : List (Int × Int)) (n : Nat) (s : Sx), (rounds r s l).take n = rounds r s (l.take n) := by
      intro l
      induction l with
      | nil => intro n s; cases n <;> rfl
      | cons p l ih => intro n s; cases n with
        | zero => rfl
        | succ n => exact congrArg _ (ih n _)
    have hd : ∀ (l : List (Int × Int)) (n : Nat) (s : Sx), (rounds r s l).drop n = rounds r (steps r s (l.take n)) (l.drop n) := by
      intro l
      induction l with
      | nil => intro n s; cases n <;> rfl
      | cons p l ih => intro n s; cases n with
        | zero => rfl
        | succ n => exact ih n _
    rw [ht, hd]
  rw [e]
  exact key _ _ (fun p hp => hl p (List.mem_of_mem_take (List.mem_of_mem_take hp))) (fun p hp => hl p (List.mem_of_mem_take (List.mem_of_mem_drop hp)))

/-- gone through again and again -/
def again (c : List (Int × Int)) : Nat → List (Int × Int)
  | 0 => []
  | k + 1 => again c k ++ c
theorem total_append (f : Rx → Int) (a b : List Rx) : total f (a ++ b) = total f a + total f b := by
  induction a with
  | nil => show total f b = 0 + total f b; omega
  | cons x a ih => show f x + total f (a ++ b) = f x + total f a + total f b; rw [ih]; omega
theorem again_run {r : Ru} {s : Sx} {c : List (Int × Int)} (h : steps r s c = s) (f : Rx → Int) : ∀ k, steps r s (again c k) = s ∧ total f (rounds r s (again c k)) = (k : Int) * total f (rounds r s c) := by
  intro k
  induction k with
  | zero => exact ⟨rfl, by show (0 : Int) = _; simp⟩
  | succ k ih =>
    obtain ⟨h1, h2⟩ := ih
    refine ⟨by show steps r s (again c k ++ c) = s; rw [steps_append, h1, h], ?_⟩
    show total f (rounds r s (again c k ++ c)) = _
    rw [rounds_append, total_append, h1, h2]
    push_cast
    rw [Int.add_mul]; omega

end Go.Proofs.Ytbnofjpiioneiaa.D
