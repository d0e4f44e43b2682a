/- PROVED: tidewaitkeep.VerdictBounds, whole. CONDITIONS: none beyond each theorem's own. -/
import Derived.Test.YtbnofjpiioneiaaU41Alv
import Derived.Test.YtbnofjpiioneiaaU43Tbr
import Derived.Deep.RegionHeld3
namespace Go.Proofs.Ytbnofjpiioneiaa.D
open Go.RowKit K
set_option linter.unusedVariables false

/-- what lies in a block, cell by cell -/
structure Cls (w : World) (C : Nat) (vs : List Value) : Prop where
  c : ∀ i v, vs[i]? = some v → w.cell? ⟨C, i, none⟩ = some v
theorem Cls.new (w : World) (vs : Array Value) (t : Nat) : Cls (w.alloc (.cells vs t)) w.heap.size vs.toList := ⟨fun i v h => by
  rw [World.cell?_alloc_at _ _ _ _ rfl]; simpa using h⟩
theorem Cls.kept {w w' : World} {C : Nat} {vs : List Value} (h : Cls w C vs) (b : Below w.heap.size w w') : Cls w' C vs :=
  ⟨fun i v hv => (b.cell (p := ⟨C, i, none⟩) (block_lt (h.c i v hv))).trans (h.c i v hv)⟩

set_option maxHeartbeats 6400000 in
theorem vbo_bad (p0 p1 rr bf jt who ratio frm tt k m E F : Int) (la : Option Addr) (ln lc : Nat) (ls : List (Int × Int)) (w : World) (hv : VRow w la ls)
    (hbad : (E != 0) = true ∨ ((E != 0) = false ∧ (F != 0) = true) ∨ ((E != 0) = false ∧ (F != 0) = false ∧ (k != 1) = true) ∨ ((E != 0) = false ∧ (F != 0) = false ∧ (k != 1) = false ∧ decide (frm < 0) = true) ∨ ((E != 0) = false ∧ (F != 0) = false ∧ (k != 1) = false ∧ decide (frm < 0) = false ∧ decide (tt < frm) = true))
    (al : ∀ v, Calls Try.prog 15 #[] v fun e w' => e = .returned (.bool true) ∧ Below v.heap.size v w')
    (j0 : ∀ v, Calls Try.prog 9 #[.agg #[.int .i64 p0, .int .i64 p1, .int .i64 rr, .int .i64 bf, .int .i64 jt], .int .i64 who, .int .i64 ratio] v fun e w' => ∃ a na ca b nb cb, e = .returned (.tuple #[.agg #[.int .i64 k, .int .i64 m, .slice a na ca, .slice b nb cb], .int .i64 E]) ∧ Below v.heap.size v w')
    (pl : ∀ v, VRow v la ls → Calls Try.prog 16 #[.agg #[.int .i64 p0, .int .i64 p1, .int .i64 rr, .int .i64 bf, .int .i64 jt], .slice la ln lc] v fun e w' => ∃ ao n cp, ∃ y : Sx, e = .returned (.tuple #[.slice ao n cp, .agg #[.int .i64 y.f0.k, .int .i64 y.f0.n, .int .i64 y.f0.b, .int .i64 y.f0.a, .int .i64 y.f0.s, .int .i64 y.f0.q, .int .i64 y.f1.k, .int .i64 y.f1.n, .int .i64 y.f1.b, .int .i64 y.f1.a, .int .i64 y.f1.s, .int .i64 y.f1.q, .int .i64 y.w0, .int .i64 y.w1], .int .i64 F]) ∧ Below v.heap.size v w') :
    Calls Try.prog 5 #[.agg #[.int .i64 p0, .int .i64 p1, .int .i64 rr, .int .i64 bf, .int .i64 jt], .int .i64 who, .int .i64 ratio, .slice la ln lc, .int .i64 frm, .int .i64 tt] w fun e w' => e = .returned (.bool true) ∧ Below w.heap.size w w' := by
  have B : Below w.heap.size w (w.alloc (.cells #[.int .i64 p0, .int .i64 p1, .int .i64 rr, .int .i64 bf, .int .i64 jt] 24)) := balloc (Below.refl _ _) _
  have X := Rul.new w _ rfl p0 p1 rr bf jt
  replace hv := hv.alloc (.cells #[.int .i64 p0, .int .i64 p1, .int .i64 rr, .int .i64 bf, .int .i64 jt] 24)
  obtain ⟨x0, x1, x2, x3, x4, -, -, -, -, -⟩ := id X
  rcases hbad with c0 | ⟨c0, c1⟩ | ⟨c0, c1, c2⟩ | ⟨c0, c1, c2, c3⟩ | ⟨c0, c1, c2, c3, c4⟩
  all_goals
    go_enter Try.func5, Try.ntmps5
    go_wp2_with (first
      | (go_at_call 15; refine (al _).mono ?_; clear al x0 x1 x2 x3 x4; rintro e w1 ⟨rfl, b1⟩; replace B := bthen B b1; replace X := X.kept b1; replace hv := hv.kept b1; obtain ⟨x0, x1, x2, x3, x4, -, -, -, -, -⟩ := id X)
      | (go_at_call 9; refine (j0 _).mono ?_; clear j0 x0 x1 x2 x3 x4; rintro e w2 ⟨a, na, ca, b, nb, cb, rfl, b2⟩; replace B := balloc (bthen B b2) (.cells #[.int .i64 k, .int .i64 m, .slice a na ca, .slice b nb cb] 27); replace X := (X.kept b2).alloc (.cells #[.int .i64 k, .int .i64 m, .slice a na ca, .slice b nb cb] 27); replace hv := (hv.kept b2).alloc (.cells #[.int .i64 k, .int .i64 m, .slice a na ca, .slice b nb cb] 27); obtain ⟨x0, x1, x2, x3, x4, -, -, -, -, -⟩ := id X; have V := Cls.new w2 #[.int .i64 k, .int .i64 m, .slice a na ca, .slice b nb cb] 27)
      | (go_at_call 16; refine (pl _ hv).mono ?_; clear pl x0 x1 x2 x3 x4 hv; rintro e w3 ⟨ao, n, cp, y, rfl, b3⟩; replace B := balloc (bthen B b3) (.cells #[.int .i64 y.f0.k, .int .i64 y.f0.n, .int .i64 y.f0.b, .int .i64 y.f0.a, .int .i64 y.f0.s, .int .i64 y.f0.q, .int .i64 y.f1.k, .int .i64 y.f1.n, .int .i64 y.f1.b, .int .i64 y.f1.a, .int .i64 y.f1.s, .int .i64 y.f1.q, .int .i64 y.w0, .int .i64 y.w1] 38); replace V := (V.kept b3).kept (balloc (Below.refl _ w3) (.cells #[.int .i64 y.f0.k, .int .i64 y.f0.n, .int .i64 y.f0.b, .int .i64 y.f0.a, .int .i64 y.f0.s, .int .i64 y.f0.q, .int .i64 y.f1.k, .int .i64 y.f1.n, .int .i64 y.f1.b, .int .i64 y.f1.a, .int .i64 y.f1.s, .int .i64 y.f1.q, .int .i64 y.w0, .int .i64 y.w1] 38)); have v0 := V.c 0 _ rfl; have v1 := V.c 1 _ rfl))
    go_ret
    exact ⟨rfl, B⟩

set_option maxHeartbeats 6400000 in
theorem vbo_far (p0 p1 rr bf jt who ratio frm tt k m : Int) (la : Option Addr) (ln lc n : Nat) (ls : List (Int × Int)) (w : World) (hv : VRow w la ls) (c2 : (k != 1) = false) (c3 : decide (frm < 0) = false) (c4 : decide (tt < frm) = false) (c5 : decide ((n : Int) < tt) = true)
    (al : ∀ v, Calls Try.prog 15 #[] v fun e w' => e = .returned (.bool true) ∧ Below v.heap.size v w')
    (j0 : ∀ v, Calls Try.prog 9 #[.agg #[.int .i64 p0, .int .i64 p1, .int .i64 rr, .int .i64 bf, .int .i64 jt], .int .i64 who, .int .i64 ratio] v fun e w' => ∃ a na ca b nb cb, e = .returned (.tuple #[.agg #[.int .i64 k, .int .i64 m, .slice a na ca, .slice b nb cb], .int .i64 0]) ∧ Below v.heap.size v w')
    (pl : ∀ v, VRow v la ls → Calls Try.prog 16 #[.agg #[.int .i64 p0, .int .i64 p1, .int .i64 rr, .int .i64 bf, .int .i64 jt], .slice la ln lc] v fun e w' => ∃ ao cp, ∃ y : Sx, e = .returned (.tuple #[.slice ao n cp, .agg #[.int .i64 y.f0.k, .int .i64 y.f0.n, .int .i64 y.f0.b, .int .i64 y.f0.a, .int .i64 y.f0.s, .int .i64 y.f0.q, .int .i64 y.f1.k, .int .i64 y.f1.n, .int .i64 y.f1.b, .int .i64 y.f1.a, .int .i64 y.f1.s, .int .i64 y.f1.q, .int .i64 y.w0, .int .i64 y.w1], .int .i64 0]) ∧ Below v.heap.size v w') :
    Calls Try.prog 5 #[.agg #[.int .i64 p0, .int .i64 p1, .int .i64 rr, .int .i64 bf, .int .i64 jt], .int .i64 who, .int .i64 ratio, .slice la ln lc, .int .i64 frm, .int .i64 tt] w fun e w' => e = .returned (.bool true) ∧ Below w.heap.size w w' := by
  have B : Below w.heap.size w (w.alloc (.cells #[.int .i64 p0, .int .i64 p1, .int .i64 rr, .int .i64 bf, .int .i64 jt] 24)) := balloc (Below.refl _ _) _
  have X := Rul.new w _ rfl p0 p1 rr bf jt
  replace hv := hv.alloc (.cells #[.int .i64 p0, .int .i64 p1, .int .i64 rr, .int .i64 bf, .int .i64 jt] 24)
  obtain ⟨x0, x1, x2, x3, x4, -, -, -, -, -⟩ := id X
  go_enter Try.func5, Try.ntmps5
  go_wp2_with (first
      | (go_at_call 15; refine (al _).mono ?_; clear al x0 x1 x2 x3 x4; rintro e w1 ⟨rfl, b1⟩; replace B := bthen B b1; replace X := X.kept b1; replace hv := hv.kept b1; obtain ⟨x0, x1, x2, x3, x4, -, -, -, -, -⟩ := id X)
      | (go_at_call 9; refine (j0 _).mono ?_; clear j0 x0 x1 x2 x3 x4; rintro e w2 ⟨a, na, ca, b, nb, cb, rfl, b2⟩; replace B := balloc (bthen B b2) (.cells #[.int .i64 k, .int .i64 m, .slice a na ca, .slice b nb cb] 27); replace X := (X.kept b2).alloc (.cells #[.int .i64 k, .int .i64 m, .slice a na ca, .slice b nb cb] 27); replace hv := (hv.kept b2).alloc (.cells #[.int .i64 k, .int .i64 m, .slice a na ca, .slice b nb cb] 27); obtain ⟨x0, x1, x2, x3, x4, -, -, -, -, -⟩ := id X; have V := Cls.new w2 #[.int .i64 k, .int .i64 m, .slice a na ca, .slice b nb cb] 27)
      | (go_at_call 16; refine (pl _ hv).mono ?_; clear pl x0 x1 x2 x3 x4 hv; rintro e w3 ⟨ao, cp, y, rfl, b3⟩; replace B := balloc (bthen B b3) (.cells #[.int .i64 y.f0.k, .int .i64 y.f0.n, .int .i64 y.f0.b, .int .i64 y.f0.a, .int .i64 y.f0.s, .int .i64 y.f0.q, .int .i64 y.f1.k, .int .i64 y.f1.n, .int .i64 y.f1.b, .int .i64 y.f1.a, .int .i64 y.f1.s, .int .i64 y.f1.q, .int .i64 y.w0, .int .i64 y.w1] 38); replace V := (V.kept b3).kept (balloc (Below.refl _ w3) (.cells #[.int .i64 y.f0.k, .int .i64 y.f0.n, .int .i64 y.f0.b, .int .i64 y.f0.a, .int .i64 y.f0.s, .int .i64 y.f0.q, .int .i64 y.f1.k, .int .i64 y.f1.n, .int .i64 y.f1.b, .int .i64 y.f1.a, .int .i64 y.f1.s, .int .i64 y.f1.q, .int .i64 y.w0, .int .i64 y.w1] 38)); have v0 := V.c 0 _ rfl; have v1 := V.c 1 _ rfl))
  go_ret
  exact ⟨rfl, B⟩

theorem RRow.cut {w : World} {q : Addr} {R : List Rx} (h : RRow w (some q) R) (f t : Nat) : RRow w (some (q.add (f * 6))) ((R.take t).drop f) := by
  rcases id h with rfl | ⟨b, o, e, _⟩
  · exact .inl (by simp)
  · injection e with e
    subst e
    rw [Addr.add_lit]
    exact h.sub f t
theorem sub_nil {R : List Rx} {f t : Nat} (h : t ≤ f) : (R.take t).drop f = [] := List.drop_eq_nil_of_le (by rw [List.length_take]; omega)

set_option maxHeartbeats 6400000 in
theorem vbo_ok (p0 p1 rr bf jt who ratio k top tot : Int) (la : Option Addr) (ln lc n f t N : Nat) (ls : List (Int × Int)) (R : List Rx) (hRn : R.length = n) (w : World) (hv : VRow w la ls) (c2 : (k != 1) = false) (hft : f ≤ t) (htn : t ≤ n) (hN : t - f = N) (htop : decide (tot ≤ top) = true)
    (al : ∀ v, Calls Try.prog 15 #[] v fun e w' => e = .returned (.bool true) ∧ Below v.heap.size v w')
    (j0 : ∀ v, Calls Try.prog 9 #[.agg #[.int .i64 p0, .int .i64 p1, .int .i64 rr, .int .i64 bf, .int .i64 jt], .int .i64 who, .int .i64 ratio] v fun e w' => ∃ a na ca b nb cb, e = .returned (.tuple #[.agg #[.int .i64 k, .int .i64 top, .slice a na ca, .slice b nb cb], .int .i64 0]) ∧ Below v.heap.size v w')
    (pl : ∀ v, VRow v la ls → Calls Try.prog 16 #[.agg #[.int .i64 p0, .int .i64 p1, .int .i64 rr, .int .i64 bf, .int .i64 jt], .slice la ln lc] v fun e w' => ∃ ao cp, ∃ y : Sx, e = .returned (.tuple #[.slice ao n cp, .agg #[.int .i64 y.f0.k, .int .i64 y.f0.n, .int .i64 y.f0.b, .int .i64 y.f0.a, .int .i64 y.f0.s, .int .i64 y.f0.q, .int .i64 y.f1.k, .int .i64 y.f1.n, .int .i64 y.f1.b, .int .i64 y.f1.a, .int .i64 y.f1.s, .int .i64 y.f1.q, .int .i64 y.w0, .int .i64 y.w1], .int .i64 0]) ∧ n ≤ cp ∧ RRow w' ao R ∧ Below v.heap.size v w')
    (br : Hid (∀ ao v c, RRow v ao ((R.take t).drop f) → Calls Try.prog 13 #[.slice ao N c, .int .i64 who, .int .i64 ratio] v fun e w' => e = .returned (.int .i64 tot) ∧ Below v.heap.size v w')) :
    Calls Try.prog 5 #[.agg #[.int .i64 p0, .int .i64 p1, .int .i64 rr, .int .i64 bf, .int .i64 jt], .int .i64 who, .int .i64 ratio, .slice la ln lc, .int .i64 (f : Int), .int .i64 (t : Int)] w fun e w' => e = .returned (.bool true) ∧ Below w.heap.size w w' := by
  have B : Below w.heap.size w (w.alloc (.cells #[.int .i64 p0, .int .i64 p1, .int .i64 rr, .int .i64 bf, .int .i64 jt] 24)) := balloc (Below.refl _ _) _
  have X := Rul.new w _ rfl p0 p1 rr bf jt
  replace hv := hv.alloc (.cells #[.int .i64 p0, .int .i64 p1, .int .i64 rr, .int .i64 bf, .int .i64 jt] 24)
  obtain ⟨x0, x1, x2, x3, x4, -, -, -, -, -⟩ := id X
  have c3 : decide ((f : Int) < 0) = false := decide_eq_false (by omega)
  have c4 : decide ((t : Int) < (f : Int)) = false := decide_eq_false (by omega)
  have c5 : decide ((n : Int) < (t : Int)) = false := decide_eq_false (by omega)
  replace hRn : Hid _ := hRn
  go_enter Try.func5, Try.ntmps5
  go_wp2_with (first
      | (go_at_call 15; refine (al _).mono ?_; clear al x0 x1 x2 x3 x4; rintro e w1 ⟨rfl, b1⟩; replace B := bthen B b1; replace X := X.kept b1; replace hv := hv.kept b1; obtain ⟨x0, x1, x2, x3, x4, -, -, -, -, -⟩ := id X)
      | (go_at_call 9; refine (j0 _).mono ?_; clear j0 x0 x1 x2 x3 x4; rintro e w2 ⟨a, na, ca, b, nb, cb, rfl, b2⟩; replace B := balloc (bthen B b2) (.cells #[.int .i64 k, .int .i64 top, .slice a na ca, .slice b nb cb] 27); replace X := (X.kept b2).alloc (.cells #[.int .i64 k, .int .i64 top, .slice a na ca, .slice b nb cb] 27); replace hv := (hv.kept b2).alloc (.cells #[.int .i64 k, .int .i64 top, .slice a na ca, .slice b nb cb] 27); obtain ⟨x0, x1, x2, x3, x4, -, -, -, -, -⟩ := id X; have V := Cls.new w2 #[.int .i64 k, .int .i64 top, .slice a na ca, .slice b nb cb] 27)
      | (go_at_call 16; refine (pl _ hv).mono ?_; clear pl x0 x1 x2 x3 x4 hv; rintro e w3 ⟨ao, cp, y, rfl, hnc, hS, b3⟩; replace B := balloc (bthen B b3) (.cells #[.int .i64 y.f0.k, .int .i64 y.f0.n, .int .i64 y.f0.b, .int .i64 y.f0.a, .int .i64 y.f0.s, .int .i64 y.f0.q, .int .i64 y.f1.k, .int .i64 y.f1.n, .int .i64 y.f1.b, .int .i64 y.f1.a, .int .i64 y.f1.s, .int .i64 y.f1.q, .int .i64 y.w0, .int .i64 y.w1] 38); replace V := (V.kept b3).kept (balloc (Below.refl _ w3) (.cells #[.int .i64 y.f0.k, .int .i64 y.f0.n, .int .i64 y.f0.b, .int .i64 y.f0.a, .int .i64 y.f0.s, .int .i64 y.f0.q, .int .i64 y.f1.k, .int .i64 y.f1.n, .int .i64 y.f1.b, .int .i64 y.f1.a, .int .i64 y.f1.s, .int .i64 y.f1.q, .int .i64 y.w0, .int .i64 y.w1] 38)); replace hS := hS.alloc (.cells #[.int .i64 y.f0.k, .int .i64 y.f0.n, .int .i64 y.f0.b, .int .i64 y.f0.a, .int .i64 y.f0.s, .int .i64 y.f0.q, .int .i64 y.f1.k, .int .i64 y.f1.n, .int .i64 y.f1.b, .int .i64 y.f1.a, .int .i64 y.f1.s, .int .i64 y.f1.q, .int .i64 y.w0, .int .i64 y.w1] 38); have v0 := V.c 0 _ rfl; have v1 := V.c 1 _ rfl))
  have f0 : (f : Int) ≤ (t : Int) := by omega
  have f1 : (t : Int) ≤ (cp : Int) := by omega
  have f2 : t ≤ cp := by omega
  have fin : Hid (∀ ao' v c, RRow v ao' ((R.take t).drop f) → Calls Try.prog 13 #[.slice ao' N c, .int .i64 who, .int .i64 ratio] v fun e w' => e = .returned (.int .i64 tot) ∧ Below v.heap.size v w') := br
  clear br
  cases ao with
  | none =>
    have hz : R = [] := by
      rcases hS with h | ⟨_, _, e, _⟩
      · exact h
      · cases e
    have hr : Hid (∀ v ao', RRow v ao' ((R.take t).drop f)) := fun v ao' => .inl (by rw [hz]; simp)
    have hn0 := hRn.out
    rw [hz] at hn0
    have hn0' : n = 0 := hn0.symm
    clear hn0 hz hS
    go_region_held3 (fun w' => w'.cell? ⟨w2.heap.size, 1, none⟩ = some (.int .i64 top)) (exact v1) (first
      | (go_at_call 13; refine (fin.out _ _ _ (hr.out _ _)).mono ?_; clear fin; rintro e w4 ⟨rfl, b4⟩; replace B := bthen (Below.drew B) b4; replace v1 := (b4.cell (p := ⟨w2.heap.size, 1, none⟩) (block_lt v1)).trans v1))
    all_goals go_wp2
    all_goals go_ret
    all_goals exact ⟨rfl, B⟩
  | some q =>
    by_cases hcf : cp = f
    · have hr : Hid (∀ v ao', RRow v ao' ((R.take t).drop f)) := fun v ao' => .inl (sub_nil (by omega))
      clear hS
      subst hcf
      go_region_held3 (fun w' => w'.cell? ⟨w2.heap.size, 1, none⟩ = some (.int .i64 top)) (exact v1) (first
        | (go_at_call 13; refine (fin.out _ _ _ (hr.out _ _)).mono ?_; clear fin; rintro e w4 ⟨rfl, b4⟩; replace B := bthen (Below.drew B) b4; replace v1 := (b4.cell (p := ⟨w2.heap.size, 1, none⟩) (block_lt v1)).trans v1))
      all_goals go_wp2
      all_goals go_ret
      all_goals exact ⟨rfl, B⟩
    · have hr := hS.cut f t
      clear hS
      go_region_held3 (fun w' => w'.cell? ⟨w2.heap.size, 1, none⟩ = some (.int .i64 top)) (exact v1) (first
        | (go_at_call 13; refine (fin.out _ _ _ (hr.kept (Below.drew (Below.refl _ _)))).mono ?_; clear fin; rintro e w4 ⟨rfl, b4⟩; replace B := bthen (Below.drew B) b4; replace v1 := (b4.cell (p := ⟨w2.heap.size, 1, none⟩) (block_lt v1)).trans v1))
      all_goals go_wp2
      all_goals go_ret
      all_goals exact ⟨rfl, B⟩

theorem verdictBounds_go (r : Ru) (who ratio frm tt : Int) (la : Option Addr) (lc : Nat) (ls : List (Int × Int)) (hl : ls.length ≤ 1048576) (w : World) (hv : VRow w la ls) : Calls Try.prog 5 #[.agg #[.int .i64 r.k0, .int .i64 r.k1, .int .i64 r.r, .int .i64 r.m, .int .i64 r.j], .int .i64 who, .int .i64 ratio, .slice la ls.length lc, .int .i64 frm, .int .i64 tt] w fun e w' => e = .returned (.bool true) ∧ Below w.heap.size w w' := by
  obtain ⟨k, m, E, h⟩ := jv_some r who ratio
  have al := fun v => alive20 v
  have j0 := fun v => judge_jv h v
  by_cases ok : wrong r = 0
  · have hk := wrong_ok.1 ok
    have pl := fun v hv => play_any r ok la lc ls.length ls rfl hl v hv
    by_cases ha : allLate r ls
    · have pl1 : ∀ v, VRow v la ls → Calls Try.prog 16 #[.agg #[.int .i64 r.k0, .int .i64 r.k1, .int .i64 r.r, .int .i64 r.m, .int .i64 r.j], .slice la ls.length lc] v fun e w' => ∃ ao cp, ∃ y : Sx, e = .returned (.tuple #[.slice ao ls.length cp, .agg #[.int .i64 y.f0.k, .int .i64 y.f0.n, .int .i64 y.f0.b, .int .i64 y.f0.a, .int .i64 y.f0.s, .int .i64 y.f0.q, .int .i64 y.f1.k, .int .i64 y.f1.n, .int .i64 y.f1.b, .int .i64 y.f1.a, .int .i64 y.f1.s, .int .i64 y.f1.q, .int .i64 y.w0, .int .i64 y.w1], .int .i64 0]) ∧ ls.length ≤ cp ∧ RRow w' ao (rounds r (K.start r) ls) ∧ Below v.heap.size v w' := fun v hv => by
        refine (pl v hv).mono ?_
        rintro e w' ⟨⟨_, ao, cp, rfl, hc, hr, _⟩ | ⟨hn, _⟩, b⟩
        · exact ⟨ao, cp, _, rfl, hc, hr, b⟩
        · exact absurd ha hn
      have pl0 : ∀ v, VRow v la ls → Calls Try.prog 16 #[.agg #[.int .i64 r.k0, .int .i64 r.k1, .int .i64 r.r, .int .i64 r.m, .int .i64 r.j], .slice la ls.length lc] v fun e w' => ∃ ao n cp, ∃ y : Sx, e = .returned (.tuple #[.slice ao n cp, .agg #[.int .i64 y.f0.k, .int .i64 y.f0.n, .int .i64 y.f0.b, .int .i64 y.f0.a, .int .i64 y.f0.s, .int .i64 y.f0.q, .int .i64 y.f1.k, .int .i64 y.f1.n, .int .i64 y.f1.b, .int .i64 y.f1.a, .int .i64 y.f1.s, .int .i64 y.f1.q, .int .i64 y.w0, .int .i64 y.w1], .int .i64 0]) ∧ Below v.heap.size v w' := fun v hv => (pl1 v hv).mono fun e w' ⟨ao, cp, y, he, _, _, b⟩ => ⟨ao, _, cp, y, he, b⟩
      by_cases hE : E = 0
      · subst hE
        obtain ⟨hg, _⟩ := h.ok (.inl rfl)
        rcases id h with ⟨he, _⟩ | ⟨T, d, hb, rfl, rfl, _⟩ | ⟨T, hs, rfl, rfl, _⟩
        · have := he.ne; simp at this
        · by_cases c3 : frm < 0
          · exact vbo_bad _ _ _ _ _ _ _ _ _ _ _ _ 0 la _ lc ls w hv (.inr (.inr (.inr (.inl ⟨by decide, by decide, by decide, decide_eq_true c3⟩)))) al j0 pl0
          by_cases c4 : tt < frm
          · exact vbo_bad _ _ _ _ _ _ _ _ _ _ _ _ 0 la _ lc ls w hv (.inr (.inr (.inr (.inr ⟨by decide, by decide, by decide, decide_eq_false c3, decide_eq_true c4⟩)))) al j0 pl0
          by_cases c5 : (ls.length : Int) < tt
          · exact vbo_far _ _ _ _ _ _ _ _ _ _ _ la _ lc ls.length ls w hv (by decide) (decide_eq_false c3) (decide_eq_false c4) (decide_eq_true c5) al j0 fun v hv => (pl1 v hv).mono fun e w' ⟨ao, cp, y, he, _, _, b⟩ => ⟨ao, cp, y, he, b⟩
          obtain ⟨f, rfl⟩ : ∃ f : Nat, frm = (f : Int) := ⟨frm.toNat, by omega⟩
          obtain ⟨t, rfl⟩ : ∃ t : Nat, tt = (t : Int) := ⟨tt.toNat, by omega⟩
          have hft : f ≤ t := by omega
          have htn : t ≤ ls.length := by omega
          have hle : total (wgt who ratio) (((rounds r (K.start r) ls).take t).drop f) ≤ mx d (xp r T).1.length := bounded_run hk.2 hb.dn hb.mst (fun v hv => mx_le hv) ha f t
          have hrl : (rounds r (K.start r) ls).length = ls.length := rounds_len r (K.start r) ls
          have hin : ∀ x ∈ ((rounds r (K.start r) ls).take t).drop f, (0 ≤ x.c0 ∧ x.c0 ≤ 100) ∧ (0 ≤ x.c1 ∧ x.c1 ≤ 100) := fun x hx => by
            obtain ⟨_, _, q1, q2, _⟩ := rounds_in (start_right hk) ha x (List.mem_of_mem_take (List.mem_of_mem_drop hx))
            exact ⟨q1, q2⟩
          have hlen : (((rounds r (K.start r) ls).take t).drop f).length = t - f := by
            rw [List.length_drop, List.length_take, hrl]; omega
          have hbr : ∀ ao v c, RRow v ao (((rounds r (K.start r) ls).take t).drop f) → Calls Try.prog 13 #[.slice ao (t - f) c, .int .i64 who, .int .i64 ratio] v fun e w' => e = .returned (.int .i64 (total (wgt who ratio) (((rounds r (K.start r) ls).take t).drop f))) ∧ Below v.heap.size v w' := fun ao v c hR => brings hg ao c (t - f) _ hlen (by omega) hin v hR
          exact vbo_ok _ _ _ _ _ _ _ _ _ _ la _ lc ls.length f t (t - f) ls _ hrl w hv (by decide) hft htn rfl (decide_eq_true hle) al j0 pl1 hbr
        · exact vbo_bad _ _ _ _ _ _ _ _ _ _ _ _ 0 la _ lc ls w hv (.inr (.inr (.inl ⟨by decide, by decide, by decide⟩))) al j0 pl0
      · exact vbo_bad _ _ _ _ _ _ _ _ _ _ _ _ 0 la _ lc ls w hv (.inl (bne_iff_ne.2 hE)) al j0 pl0
    · have pl0 : ∀ v, VRow v la ls → Calls Try.prog 16 #[.agg #[.int .i64 r.k0, .int .i64 r.k1, .int .i64 r.r, .int .i64 r.m, .int .i64 r.j], .slice la ls.length lc] v fun e w' => ∃ ao n cp, ∃ y : Sx, e = .returned (.tuple #[.slice ao n cp, .agg #[.int .i64 y.f0.k, .int .i64 y.f0.n, .int .i64 y.f0.b, .int .i64 y.f0.a, .int .i64 y.f0.s, .int .i64 y.f0.q, .int .i64 y.f1.k, .int .i64 y.f1.n, .int .i64 y.f1.b, .int .i64 y.f1.a, .int .i64 y.f1.s, .int .i64 y.f1.q, .int .i64 y.w0, .int .i64 y.w1], .int .i64 2]) ∧ Below v.heap.size v w' := fun v hv => by
        refine (pl v hv).mono ?_
        rintro e w' ⟨⟨hn, _⟩ | ⟨_, rfl⟩, b⟩
        · exact absurd hn ha
        · exact ⟨none, 0, 0, Z0, rfl, b⟩
      by_cases hE : E = 0
      · exact vbo_bad _ _ _ _ _ _ _ _ _ _ _ _ 2 la _ lc ls w hv (.inr (.inl ⟨by rw [hE]; decide, by decide⟩)) al j0 pl0
      · exact vbo_bad _ _ _ _ _ _ _ _ _ _ _ _ 2 la _ lc ls w hv (.inl (bne_iff_ne.2 hE)) al j0 pl0
  · have pl0 : ∀ v, VRow v la ls → Calls Try.prog 16 #[.agg #[.int .i64 r.k0, .int .i64 r.k1, .int .i64 r.r, .int .i64 r.m, .int .i64 r.j], .slice la ls.length lc] v fun e w' => ∃ ao n cp, ∃ y : Sx, e = .returned (.tuple #[.slice ao n cp, .agg #[.int .i64 y.f0.k, .int .i64 y.f0.n, .int .i64 y.f0.b, .int .i64 y.f0.a, .int .i64 y.f0.s, .int .i64 y.f0.q, .int .i64 y.f1.k, .int .i64 y.f1.n, .int .i64 y.f1.b, .int .i64 y.f1.a, .int .i64 y.f1.s, .int .i64 y.f1.q, .int .i64 y.w0, .int .i64 y.w1], .int .i64 (wrong r)]) ∧ Below v.heap.size v w' := fun v _ => by
      refine (play_wrong r (wrong r) rfl (bne_iff_ne.2 ok) _ v).mono ?_
      rintro e w' ⟨rfl, b⟩
      exact ⟨none, 0, 0, Z0, rfl, b⟩
    by_cases hE : E = 0
    · exact vbo_bad _ _ _ _ _ _ _ _ _ _ _ _ (wrong r) la _ lc ls w hv (.inr (.inl ⟨by rw [hE]; decide, bne_iff_ne.2 ok⟩)) al j0 pl0
    · exact vbo_bad _ _ _ _ _ _ _ _ _ _ _ _ (wrong r) la _ lc ls w hv (.inl (bne_iff_ne.2 hE)) al j0 pl0

end Go.Proofs.Ytbnofjpiioneiaa.D
