/- PROVED: what steady's put leaves. where the search of states comes to its end, and where there are too many. on plain lists: SOf comes to its end or there are too many; a run by what is late is a run by numbers. what lies there while steady's search goes on. CONDITIONS: none beyond each theorem's own. -/
import Derived.Test.YtjageagnclmnjabGreatDoorB12Pr
import Derived.Test.YtjageagnclmnjabGreatDoorB08SoA
import Derived.RangeFuncLeaves
namespace Go.Proofs.YtjageagnclmnjabGreatDoor.D
set_option maxRecDepth 100000
open Go.RowKit K
set_option linter.unusedVariables false

theorem Fnd.slice {B0 : Nat} {K : Nat → Prop} {C M : Nat} {r : Ru} {v : Nat → Value} {L Lm : List Sx} {S : List Stp} {F : List Nat} {w : World} (h : Fnd B0 K C M r v L Lm S F w) {c : Nat} (hc : c < 3) : ∃ ao cp, v c = .slice ao (gn ⟨L, S, F⟩ c) cp := by
  obtain ⟨_, ⟨e, e2⟩ | ⟨g, cap, cu, e, _⟩⟩ := h.fam.own c hc
  · exact ⟨none, 0, by rw [e, e2]⟩
  · exact ⟨_, _, e⟩
theorem int_one (n : Int) : ∀ u ∈ [Value.int .i64 n], u.oneCell' = true := by simp [Value.oneCell']
set_option maxHeartbeats 6400000 in
set_option maxRecDepth 20000 in
theorem put_any (B0 : Nat) (K : Nat → Prop) (C M : Nat) (r : Ru) (v : Nat → Value) (L : List Sx) (S : List Stp) (F : List Nat) (y : Sx) (hok : okS y) (hy : y ∉ L) (hL : L.length ≤ 300) (hS : S.length ≤ 100000) (hF : F.length ≤ 300) (w : World) (h : Fnd B0 K C M r v L L S F w) :
    Calls Tryz.prog 91 #[.pointer (some ⟨C, 0, none⟩), .agg #[.int .i64 y.f0.k, .int .i64 y.f0.n, .int .i64 y.f0.b, .int .i64 y.f0.a, .int .i64 y.f0.s, .int .i64 y.f0.q, .int .i64 y.f1.k, .int .i64 y.f1.n, .int .i64 y.f1.b, .int .i64 y.f1.a, .int .i64 y.f1.s, .int .i64 y.f1.q, .int .i64 y.w0, .int .i64 y.w1]] w fun e w' => e = .returned (.int .i64 (L.length : Int)) ∧ ∃ v', v' 1 = v 1 ∧ Fnd B0 K C M r v' (L ++ [y]) (L ++ [y]) S (F ++ [S.length]) w' ∧ Mov B0 K C M w w' := by
  obtain ⟨W1, hW1⟩ : ∃ W1, w.alloc (.cells #[.int .i64 y.f0.k, .int .i64 y.f0.n, .int .i64 y.f0.b, .int .i64 y.f0.a, .int .i64 y.f0.s, .int .i64 y.f0.q, .int .i64 y.f1.k, .int .i64 y.f1.n, .int .i64 y.f1.b, .int .i64 y.f1.a, .int .i64 y.f1.s, .int .i64 y.f1.q, .int .i64 y.w0, .int .i64 y.w1] 147) = W1 := ⟨_, rfl⟩
  obtain ⟨Bx, hBx⟩ : ∃ Bx, w.heap.size = Bx := ⟨_, rfl⟩
  have sB := Sta.new w w.heap.size rfl y.f0.k y.f0.n y.f0.b y.f0.a y.f0.s y.f0.q y.f1.k y.f1.n y.f1.b y.f1.a y.f1.s y.f1.q y.w0 y.w1
  have f1 := h.alloc (.cells #[.int .i64 y.f0.k, .int .i64 y.f0.n, .int .i64 y.f0.b, .int .i64 y.f0.a, .int .i64 y.f0.s, .int .i64 y.f0.q, .int .i64 y.f1.k, .int .i64 y.f1.n, .int .i64 y.f1.b, .int .i64 y.f1.a, .int .i64 y.f1.s, .int .i64 y.f1.q, .int .i64 y.w0, .int .i64 y.w1] 147)
  have m1 : Mov B0 K C M w (w.alloc (.cells #[.int .i64 y.f0.k, .int .i64 y.f0.n, .int .i64 y.f0.b, .int .i64 y.f0.a, .int .i64 y.f0.s, .int .i64 y.f0.q, .int .i64 y.f1.k, .int .i64 y.f1.n, .int .i64 y.f1.b, .int .i64 y.f1.a, .int .i64 y.f1.s, .int .i64 y.f1.q, .int .i64 y.w0, .int .i64 y.w1] 147)) := Mov.of_below (fun g hg => (h.fam.kb g hg).1) h.fam.sz (balloc (Below.refl _ _) _)
  have hBC : w.heap.size ≠ C := fun e => by have := block_lt h.cm; simp at this; omega
  have hBM : w.heap.size ≠ M := fun e => by have := h.map.lt; omega
  rw [hBx] at sB f1 hBC hBM
  rw [hW1] at sB f1 m1
  have f1k := h.kC
  have f1m := h.kM
  clear h
  have q0 := f1.cf 0 (by omega)
  obtain ⟨ao0, cp0, ev0⟩ := f1.slice (c := 0) (by omega)
  have en : gn ⟨L, S, F⟩ 0 = L.length := rfl
  rw [en] at ev0
  rw [ev0] at q0
  simp only [fld] at q0
  -- one state more
  obtain ⟨g0, cap0, w2, hr0, c0, fz0, f2, m2, _⟩ := f1.drew.app (c := 0) (by omega) (by rw [en]; omega) (news := cS y) rfl (by simp [cS, Value.oneCell']) 115 (L' := L ++ [y]) (S' := S) (F' := F) (gn_state r L S F y)
  have hr0' : ∀ ty, (Builtin.append_ #[115, 115] ty #[.slice ao0 L.length cp0, .slice (some ⟨W1.heap.size, 0, none⟩) 1 1]).run Tryz.prog (W1.drew.alloc (.cells (cS y).toArray 147)) = .ok (.slice (some ⟨g0, 0, none⟩) (L.length + 1) cap0) w2 := fun ty => by
    rw [ev0] at hr0; exact hr0
  rw [ev0] at c0
  simp only [fld] at c0 fz0 f2 m2
  rw [en] at f2 m2
  have sB2 := sB.block (m2.oth Bx (.inr rfl) hBC hBM)
  have hc1 : (W1.drew.alloc (.cells (cS y).toArray 147)).cell? ⟨C, 0, none⟩ = some (.slice ao0 L.length cp0) := by
    have := (f1.drew.alloc (.cells (cS y).toArray 147)).cf 0 (by omega)
    rw [ev0] at this; exact this
  obtain ⟨W2, hW2⟩ : ∃ W2, w2.setCell ⟨C, 0, none⟩ (.slice (some ⟨g0, 0, none⟩) (L.length + 1) cap0) = W2 := ⟨_, rfl⟩
  rw [hW2] at f2 m2 sB2
  -- the map
  obtain ⟨w3, hr3, f3, m3⟩ := f2.drew.store hok hy (by omega)
  have hcM : W2.drew.cell? ⟨C, 1, none⟩ = some (.map (some M)) := f2.drew.cm
  have sB2' : Sta W2.drew Bx y.f0.k y.f0.n y.f0.b y.f0.a y.f0.s y.f0.q y.f1.k y.f1.n y.f1.b y.f1.a y.f1.s y.f1.q y.w0 y.w1 := sB2.drew
  -- by which step
  have q2 := f3.cf 2 (by omega)
  obtain ⟨ao2, cp2, ev2⟩ := f3.slice (c := 2) (by omega)
  have en2 : gn ⟨L ++ [y], S, F⟩ 2 = F.length := rfl
  rw [en2] at ev2
  have q1 := f3.drew.cf 1 (by omega)
  obtain ⟨ao1, cp1, ev1⟩ := f3.slice (c := 1) (by omega)
  have en1 : gn ⟨L ++ [y], S, F⟩ 1 = S.length := rfl
  rw [en1] at ev1
  rw [ev1] at q1
  obtain ⟨g4, cap4, w4, hr4, c4, fz4, f4, m4, _⟩ := f3.drew.app (c := 2) (by omega) (by rw [en2]; omega) (news := [.int .i64 (S.length : Int)]) rfl (int_one _) 24 (L' := L ++ [y]) (S' := S) (F' := F ++ [S.length]) (gn_first r (L ++ [y]) S F S.length)
  have hr4' : ∀ ty, (Builtin.append_ #[24, 24] ty #[.slice ao2 F.length cp2, .slice (some ⟨w3.heap.size, 0, none⟩) 1 1]).run Tryz.prog (w3.drew.alloc (.cells #[.int .i64 (S.length : Int)] 3)) = .ok (.slice (some ⟨g4, 0, none⟩) (F.length + 1) cap4) w4 := fun ty => by
    rw [ev2] at hr4; exact hr4
  have q4 : w3.drew.cell? ⟨C, 3, none⟩ = some (.slice ao2 F.length cp2) := by rw [ev2] at q2; exact q2
  have q5 : (w3.drew.alloc (.cells #[.int .i64 (S.length : Int)] 3)).cell? ⟨C, 3, none⟩ = some (.slice ao2 F.length cp2) := by
    have := (f3.drew.alloc (.cells #[.int .i64 (S.length : Int)] 3)).cf 2 (by omega)
    rw [ev2] at this; exact this
  rw [ev2] at c4
  simp only [fld] at c4 fz4 f4 m4 q1
  rw [en2] at f4 m4
  obtain ⟨W4, hW4⟩ : ∃ W4, w4.setCell ⟨C, 3, none⟩ (.slice (some ⟨g4, 0, none⟩) (F.length + 1) cap4) = W4 := ⟨_, rfl⟩
  rw [hW4] at f4 m4
  have hall : Hid (∃ v', v' 1 = v 1 ∧ Fnd B0 K C M r v' (L ++ [y]) (L ++ [y]) S (F ++ [S.length]) W4 ∧ Mov B0 K C M w W4) := by
    refine ⟨_, ?_, f4.less (fun g hg => .inl hg) f1k f1m, ?_⟩
    · rw [up_ne _ _ _ (by omega), up_ne _ _ _ (by omega)]
    · have d1 : ∀ W : World, Mov B0 K C M W W.drew := fun W => ⟨fun _ _ _ _ => rfl, fun _ _ _ q _ => q, Below.drew (Below.refl _ _)⟩
      exact m1.trans ((d1 _).trans ((m2.less fun g hg => .inl hg).trans ((d1 _).trans ((m3.less fun g hg => .inl hg).trans ((d1 _).trans (m4.less fun g hg => .inl hg))))))
  have sB1 := sB.drew
  have hc0 : W1.drew.cell? ⟨C, 0, none⟩ = some (.slice ao0 L.length cp0) := q0
  clear f2 f3 f4 m1 m2 m3 m4 hr0 hr4 f1k f1m q2
  replace sB1 : Hid _ := sB1
  replace sB2' : Hid _ := sB2'
  replace hr0' : Hid _ := hr0'
  replace hr3 : Hid _ := hr3
  replace hr4' : Hid _ := hr4'
  clear sB sB2
  go_enter Tryz.func91, Tryz.ntmps91

  go_wp2
  refine regionP2 (by rfl) (by kernel_rfl) (by kernel_rfl) (by kernel_rfl) (by simp) (Bx := Bx) (by rfl) (by rfl) hc0 hc1 sB1.out hr0'.out c0 fz0 ?_
  intro ys
  rw [hW2]
  rw [show slotsOf OP2 = [11, 12, 13, 14, 15, 16, 17, 18, 19, 20] from rfl]
  simp only [tA, sets]
  simp only [List.setIfInBounds_toArray, List.set_cons_succ, List.set_cons_zero]
  generalize ys 11 = ys11
  generalize ys 12 = ys12
  generalize ys 13 = ys13
  generalize ys 14 = ys14
  generalize ys 15 = ys15
  generalize ys 16 = ys16
  generalize ys 17 = ys17
  generalize ys 18 = ys18
  generalize ys 19 = ys19
  generalize ys 20 = ys20

  go_wp2
  refine regionP3 (by rfl) (by kernel_rfl) (by kernel_rfl) (by kernel_rfl) (by simp) (Bx := Bx) (k := (L.length : Int)) (by rfl) (by rfl) (by rfl) hcM sB2'.out hr3.out ?_
  intro zs
  rw [show slotsOf OP3 = [21, 22, 23, 24, 25, 26] from rfl]
  simp only [tA, sets]
  simp only [List.setIfInBounds_toArray, List.set_cons_succ, List.set_cons_zero]
  generalize zs 21 = zs21
  generalize zs 22 = zs22
  generalize zs 23 = zs23
  generalize zs 24 = zs24
  generalize zs 25 = zs25
  generalize zs 26 = zs26

  go_wp2
  refine regionP4 (by rfl) (by kernel_rfl) (by kernel_rfl) (by kernel_rfl) (by simp) (by rfl) q4 q5 q1 hr4'.out c4 fz4 ?_
  intro us
  rw [hW4]
  rw [show slotsOf OP4 = [27, 28, 29, 30, 31, 32, 33, 34, 35, 36, 37, 38, 39, 40] from rfl]
  simp only [tA, sets]
  simp only [List.setIfInBounds_toArray, List.set_cons_succ, List.set_cons_zero]
  generalize us 27 = us27
  generalize us 28 = us28
  generalize us 29 = us29
  generalize us 30 = us30
  generalize us 31 = us31
  generalize us 32 = us32
  generalize us 33 = us33
  generalize us 34 = us34
  generalize us 35 = us35
  generalize us 36 = us36
  generalize us 37 = us37
  generalize us 38 = us38
  generalize us 39 = us39
  generalize us 40 = us40

  go_wp2
  refine bodyPost_ret (by simp [results, Tryz.results91, go_sem]) rfl ⟨rfl, hall.out⟩

end Go.Proofs.YtjageagnclmnjabGreatDoor.D

namespace Go.Proofs.YtjageagnclmnjabGreatDoor.D
open Go.RowKit K
set_option linter.unusedVariables false

/-- SOf came to its end: each step of each state is there -/
def Dn (r : Ru) (T : Nat) : Prop := Live (sp r) (ee r) (K.start r) T ∧ T = ee r * (xp r T).1.length ∧ (xp r T).1.length ≤ 300
/-- a state more than there may be -/
def Fl (r : Ru) : Prop := ∃ t x, Live (sp r) (ee r) (K.start r) t ∧ (xp r t).1[t / ee r]? = some x ∧ (xp r t).1.length = 300 ∧ sp r x (t % ee r) ∉ (xp r t).1

end Go.Proofs.YtjageagnclmnjabGreatDoor.D

namespace Go.Proofs.YtjageagnclmnjabGreatDoor.D
open Go.RowKit K
set_option linter.unusedVariables false

end Go.Proofs.YtjageagnclmnjabGreatDoor.D

namespace Go.Proofs.YtjageagnclmnjabGreatDoor.D
set_option maxRecDepth 100000
open Go.RowKit K
set_option linter.unusedVariables false

/-- append, kept whole -/
def appS (ats : Array TypeId) (ty : TypeId) (args : Array Value) : Sem Value := Builtin.append_ ats ty args
theorem appS_whole (ats : Array TypeId) (ty : TypeId) (args : Array Value) : Builtin.append_ ats ty args = appS ats ty args := rfl

theorem pright_ok {r : Ru} {s : Sx} (h : pright r s) : okS s := by
  obtain ⟨⟨hk, hr⟩, ⟨h0, _⟩, ⟨h1, _⟩, h2, h3, h4⟩ := h
  unfold ranges at hr
  have key : ∀ c : Ct, cright c → (1 ≤ c.k ∧ c.k ≤ 3) ∧ (1 ≤ c.n ∧ c.n ≤ 12) ∧ (-1 ≤ c.b ∧ c.b ≤ 1099511627776) ∧ (-1 ≤ c.a ∧ c.a ≤ 1) ∧ (0 ≤ c.s ∧ c.s ≤ 4) ∧ (0 ≤ c.q ∧ c.q ≤ 3) := fun c hc => by
    rcases hc with ⟨a, b, d, e, f, g⟩ | ⟨a, b, d, e, f, g⟩ | ⟨a, b, d, e, f, g, _⟩ <;> omega
  obtain ⟨a0, a1, a2, a3, a4, a5⟩ := key s.f0 h0
  obtain ⟨b0, b1, b2, b3, b4, b5⟩ := key s.f1 h1
  exact ⟨WalkArith.wf_i64 (by omega), WalkArith.wf_i64 (by omega), WalkArith.wf_i64 (by omega), WalkArith.wf_i64 (by omega), WalkArith.wf_i64 (by omega), WalkArith.wf_i64 (by omega), WalkArith.wf_i64 (by omega), WalkArith.wf_i64 (by omega), WalkArith.wf_i64 (by omega), WalkArith.wf_i64 (by omega), WalkArith.wf_i64 (by omega), WalkArith.wf_i64 (by omega), WalkArith.wf_i64 (by omega), WalkArith.wf_i64 (by omega)⟩

/-- the answer's own block -/
def nil4 : Nat → Value
  | 1 => .map none
  | _ => .slice none 0 0
structure Res4 (w : World) (P : Nat) (x : Nat → Value) : Prop where
  c : ∀ c, c < 4 → w.cell? ⟨P, c, none⟩ = some (x c) ∧ w.frozen? ⟨P, c, none⟩ = false
theorem Res4.same {w w' : World} {P : Nat} {x : Nat → Value} (h : Res4 w P x) (e : w'.heap[P]? = w.heap[P]?) : Res4 w' P x := ⟨fun c hc => ⟨(World.cell?_of_block (a := ⟨P, c, none⟩) e).trans (h.c c hc).1, (World.frozen?_of_block (a := ⟨P, c, none⟩) e).trans (h.c c hc).2⟩⟩
theorem Res4.lt {w : World} {P : Nat} {x : Nat → Value} (h : Res4 w P x) : P < w.heap.size := block_lt (h.c 0 (by omega)).1
theorem Res4.one {w : World} {C : Nat} {v : Nat → Value} (h : Res4 w C v) {k : Nat} (hk : k < 4) (x : Value) : Res4 (w.setCell ⟨C, k, none⟩ x) C (up v k x) := ⟨fun c hc => by
  refine ⟨?_, (World.frozen?_setCell _ _ _ _).trans (h.c c hc).2⟩
  by_cases e : c = k
  · subst e; rw [up_at]; exact World.cell?_setCell_same _ _ _ (h.c c hc).1
  · rw [up_ne _ _ _ e, World.cell?_setCell_other _ _ _ _ (fun q => e (congrArg Addr.off q).symm)]; exact (h.c c hc).1⟩
theorem Res4.far {w : World} {C : Nat} {v : Nat → Value} (h : Res4 w C v) {p : Addr} (hp : p.block ≠ C) (x : Value) : Res4 (w.setCell p x) C v := h.same (Below.heap_setCell _ _ _ _ (fun e => hp e.symm))
def put4 (w : World) (C : Nat) (x : Nat → Value) : World := (((w.setCell ⟨C, 0, none⟩ (x 0)).setCell ⟨C, 1, none⟩ (x 1)).setCell ⟨C, 2, none⟩ (x 2)).setCell ⟨C, 3, none⟩ (x 3)
theorem Res4.all {w : World} {C : Nat} {v : Nat → Value} (h : Res4 w C v) (x : Nat → Value) : Res4 (put4 w C x) C x := by
  have h5 := (((h.one (k := 0) (by omega) (x 0)).one (k := 1) (by omega) (x 1)).one (k := 2) (by omega) (x 2)).one (k := 3) (by omega) (x 3)
  refine ⟨fun c hc => ?_⟩
  have := h5.c c hc
  rcases (show c = 0 ∨ c = 1 ∨ c = 2 ∨ c = 3 by omega) with rfl | rfl | rfl | rfl <;> simpa [up, put4] using this
theorem below_put4 {B C : Nat} {w v : World} (h : Below B w v) (hC : B ≤ C) (x : Nat → Value) : Below B w (put4 v C x) := Below.setCell (Below.setCell (Below.setCell (Below.setCell h hC _) hC _) hC _) hC _
theorem put4_heap (w : World) (C : Nat) (x : Nat → Value) {g : Nat} (h : g ≠ C) : (put4 w C x).heap[g]? = w.heap[g]? := by
  unfold put4
  rw [Below.heap_setCell _ _ _ _ (by exact h), Below.heap_setCell _ _ _ _ (by exact h), Below.heap_setCell _ _ _ _ (by exact h), Below.heap_setCell _ _ _ _ (by exact h)]
/-- an int in a box -/
structure Bx1 (w : World) (B : Nat) (x : Value) : Prop where
  c : w.cell? ⟨B, 0, none⟩ = some x
  f : w.frozen? ⟨B, 0, none⟩ = false
theorem Bx1.same {w w' : World} {P : Nat} {x : Value} (h : Bx1 w P x) (e : w'.heap[P]? = w.heap[P]?) : Bx1 w' P x := ⟨(World.cell?_of_block (a := ⟨P, 0, none⟩) e).trans h.c, (World.frozen?_of_block (a := ⟨P, 0, none⟩) e).trans h.f⟩
theorem Bx1.lt {w : World} {P : Nat} {x : Value} (h : Bx1 w P x) : P < w.heap.size := block_lt h.c
theorem Bx1.set {w : World} {P : Nat} {x : Value} (h : Bx1 w P x) (u : Value) : Bx1 (w.setCell ⟨P, 0, none⟩ u) P u := ⟨World.cell?_setCell_same _ _ _ h.c, (World.frozen?_setCell _ _ _ _).trans h.f⟩
theorem Bx1.new (w : World) (B : Nat) (hB : B = w.heap.size) (x : Value) (t : Nat) : Bx1 (w.alloc (.cells #[x] t)) B x := by
  subst hB
  exact ⟨by rw [World.cell?_alloc_at _ _ _ _ rfl]; rfl, by rw [World.frozen?_alloc_at _ _ _ _ rfl]⟩
theorem Rul.block {w w' : World} {C : Nat} {a b c d e : Int} (h : Rul w C a b c d e) (q : w'.heap[C]? = w.heap[C]?) : Rul w' C a b c d e :=
  h.same (fun o => World.cell?_of_block (a := ⟨C, o, none⟩) q) (fun o => World.frozen?_of_block (a := ⟨C, o, none⟩) q)

/-- the blocks that stay where they are -/
def kS (w : World) (C M : Nat) (g : Nat) : Prop := g = w.heap.size ∨ g = w.heap.size + 1 ∨ g = w.heap.size + 2 ∨ g = C ∨ g = M
/-- what lies there -/
structure Sr (w : World) (r : Ru) (C M : Nat) (K' : Nat → Prop) (Ds : List Nat) (v : Nat → Value) (G : Gs) (W : World) : Prop where
  rul : Rul W w.heap.size r.k0 r.k1 r.r r.m r.j
  res : Res4 W (w.heap.size + 1) nil4
  er : Bx1 W (w.heap.size + 2) (.int .i64 0)
  fnd : Fnd w.heap.size K' C M r v G.L G.L G.S G.F W
  kin : ∀ g, kS w C M g → K' g
  cc : w.heap.size + 2 < C ∧ w.heap.size + 2 < M
  nd : Ds.Nodup
  df : ∀ D ∈ Ds, D ≠ M ∧ w.heap.size ≤ D ∧ W.heap[D]? = some (.deferred (some []))
  below : Below w.heap.size w W
section
variable {w : World} {r : Ru} {C M : Nat} {K' : Nat → Prop} {Ds : List Nat} {v : Nat → Value} {G : Gs} {W W' : World}
theorem Sr.kept (h : Sr w r C M K' Ds v G W) (b : Below W.heap.size W W') : Sr w r C M K' Ds v G W' :=
  ⟨h.rul.kept b, h.res.same (b.block _ h.res.lt), h.er.same (b.block _ h.er.lt), h.fnd.kept b, h.kin, h.cc, h.nd, fun D hD => ⟨(h.df D hD).1, (h.df D hD).2.1, (b.block _ (Array.getElem?_eq_some_iff.1 (h.df D hD).2.2).1).trans (h.df D hD).2.2⟩, bthen h.below b⟩
theorem Sr.alloc (h : Sr w r C M K' Ds v G W) (o : Obj) : Sr w r C M (fun g => K' g ∨ g = W.heap.size) Ds v G (W.alloc o) :=
  have k := h.kept (balloc (Below.refl _ _) o)
  ⟨k.rul, k.res, k.er, h.fnd.alloc o, fun g hg => .inl (h.kin g hg), k.cc, k.nd, k.df, k.below⟩
theorem Sr.less {K2 : Nat → Prop} (h : Sr w r C M K' Ds v G W) (h1 : ∀ g, K2 g → K' g) (h2 : ∀ g, kS w C M g → K2 g) : Sr w r C M K2 Ds v G W :=
  ⟨h.rul, h.res, h.er, h.fnd.less h1 (h2 C (.inr (.inr (.inr (.inl rfl))))) (h2 M (.inr (.inr (.inr (.inr rfl))))), h2, h.cc, h.nd, h.df, h.below⟩
/-- the finding has grown -/
theorem Sr.mov (h : Sr w r C M K' Ds v G W) {v' : Nat → Value} {G' : Gs} (hf : Fnd w.heap.size K' C M r v' G'.L G'.L G'.S G'.F W') (m : Mov w.heap.size K' C M W W') : Sr w r C M K' Ds v' G' W' := by
  have cc := h.cc
  have e0 := m.oth w.heap.size (h.kin _ (.inl rfl)) (by omega) (by omega)
  have e1 := m.oth (w.heap.size + 1) (h.kin _ (.inr (.inl rfl))) (by omega) (by omega)
  have e2 := m.oth (w.heap.size + 2) (h.kin _ (.inr (.inr (.inl rfl)))) (by omega) (by omega)
  exact ⟨h.rul.block e0, h.res.same e1, h.er.same e2, hf, h.kin, cc, h.nd, fun D hD => ⟨(h.df D hD).1, (h.df D hD).2.1, m.obj D _ (h.df D hD).1 (h.df D hD).2.2 rfl⟩, h.below.trans m.bel⟩
/-- something that is no row of cells, nor the map, nor one of Ds, has turned -/
theorem Fnd.turn {B0 : Nat} {L Lm : List Sx} {S : List Stp} {F : List Nat} (h : Fnd B0 K' C M r v L Lm S F W) {row : Option Nat} (hg : W.grownBy W' row) (hr : ∀ x, row = some x → x ≠ M ∧ ∃ o : Obj, W.heap[x]? = some o ∧ o.isCells = false) : Fnd B0 K' C M r v L Lm S F W' := by
  have hC : C < W.heap.size := block_lt h.cm
  have eC : W'.heap[C]? = W.heap[C]? := hg.block C hC (fun q => by
    obtain ⟨_, o, ho, hc⟩ := hr C q.symm
    exact cells_at h.cm ho hc)
  refine ⟨fun c hc => (World.cell?_of_block (a := ⟨C, fld c, none⟩) eC).trans (h.cf c hc), (World.cell?_of_block (a := ⟨C, 1, none⟩) eC).trans h.cm, fun c hc => (World.frozen?_of_block (a := ⟨C, c, none⟩) eC).trans (h.f c hc), ?_, h.kC, h.kM, ?_, h.b0⟩
  · refine h.fam.same (fun c hc g hq => hg.block g ((h.fam.own c hc).lt g hq).2 (fun q => ?_)) hg.size
    obtain ⟨_, o, ho, hco⟩ := hr g q.symm
    obtain ⟨o', q1, q2⟩ := h.fam.cells hc hq
    rw [ho] at q1; injection q1 with q1; subst q1; rw [q2] at hco; cases hco
  · exact h.map.same (hg.block M h.map.lt (fun q => (hr M q.symm).1 rfl))
theorem cell_turn {row : Option Nat} (hg : W.grownBy W' row) (hr : ∀ x, row = some x → ∃ o : Obj, W.heap[x]? = some o ∧ o.isCells = false) {g : Nat} {o : Obj} (ho : W.heap[g]? = some o) (hc : o.isCells = true) : W'.heap[g]? = some o := by
  refine (hg.block g (Array.getElem?_eq_some_iff.1 ho).1 (fun q => ?_)).trans ho
  obtain ⟨o', h1, h2⟩ := hr g q.symm
  rw [ho] at h1; injection h1 with h1; subst h1; rw [hc] at h2; cases h2
theorem block_turn {row : Option Nat} (hg : W.grownBy W' row) (hr : ∀ x, row = some x → ∃ o : Obj, W.heap[x]? = some o ∧ o.isCells = false) {a : Addr} {x : Value} (h : W.cell? a = some x) : W'.heap[a.block]? = W.heap[a.block]? :=
  hg.block _ (block_lt h) (fun q => by
    obtain ⟨o, ho, hc⟩ := hr _ q.symm
    exact cells_at h ho hc)
theorem Sr.turn (h : Sr w r C M K' Ds v G W) {row : Option Nat} (hg : W.grownBy W' row) (hr : ∀ x, row = some x → (x ≠ M ∧ x ∉ Ds ∧ w.heap.size ≤ x) ∧ ∃ o : Obj, W.heap[x]? = some o ∧ o.isCells = false) : Sr w r C M K' Ds v G W' := by
  have hr2 : ∀ x, row = some x → ∃ o : Obj, W.heap[x]? = some o ∧ o.isCells = false := fun x e => (hr x e).2
  refine ⟨h.rul.block (block_turn hg hr2 (a := ⟨w.heap.size, 0, none⟩) h.rul.c0), h.res.same (block_turn hg hr2 (a := ⟨w.heap.size + 1, 0, none⟩) (h.res.c 0 (by omega)).1), h.er.same (block_turn hg hr2 (a := ⟨w.heap.size + 2, 0, none⟩) h.er.c), h.fnd.turn hg (fun x e => ⟨(hr x e).1.1, (hr x e).2⟩), h.kin, h.cc, h.nd, fun D hD => ⟨(h.df D hD).1, (h.df D hD).2.1, ?_⟩, h.below.grown hg h.below.size (fun x e => (hr x e).1.2.2)⟩
  have := (h.df D hD).2.2
  exact (hg.block D (Array.getElem?_eq_some_iff.1 this).1 (fun q => (hr D q.symm).1.2.1 hD)).trans this
end
/-- a mark -/
def mk (D : Nat) : Deferred := { target := .collected D, args := #[] }
/-- all marks are taken -/
theorem leaves_marks {P : Program} {F : Fence} {n : Nat} {fn : Func} {tmps : Array Value} {R : Ending → World → Prop} {B : Nat} : ∀ (Ds : List Nat) (W : World), Ds.Nodup → (∀ D ∈ Ds, B ≤ D ∧ W.heap[D]? = some (.deferred (some []))) →
    (∀ W', (∀ (g : Nat) (o : Obj), W.heap[g]? = some o → o.isCells = true → W'.heap[g]? = some o) → Below B W W' → ∃ v, (results fn tmps).run P W' = .ok v W' ∧ R (.returned v) W') → LeavesInM F n P fn tmps R (Ds.map mk) .returning W := by
  intro Ds
  induction Ds with
  | nil => intro W _ _ h; exact h W (fun _ _ q _ => q) (Below.refl _ _)
  | cons D Ds ih =>
    intro W hnd hD h
    obtain ⟨hn1, hn2⟩ := List.nodup_cons.1 hnd
    obtain ⟨hB, hK⟩ := hD D (by simp)
    have hlt := (Array.getElem?_eq_some_iff.1 hK).1
    refine ⟨by simp, .inl ⟨D, _, rfl, run_takeDeferred hK, ih _ hn2 (fun D' h' => ⟨(hD D' (by simp [h'])).1, ?_⟩) fun W' h1 h2 => h W' (fun g o q1 q2 => h1 g o ?_ q2) ?_⟩⟩
    · have hne : D' ≠ D := fun e => hn1 (e ▸ h')
      exact ((grownBy_putObj' W D (.deferred none)).block D' (Array.getElem?_eq_some_iff.1 (hD D' (by simp [h'])).2).1 (fun q => hne (by injection q))).trans (hD D' (by simp [h'])).2
    · refine ((grownBy_putObj' W D (.deferred none)).block g (Array.getElem?_eq_some_iff.1 q1).1 (fun q => ?_)).trans q1
      injection q with q
      subst q
      rw [hK] at q1; injection q1 with q1; subst q1; cases q2
    · exact ((Below.refl B W).grown (grownBy_putObj' W D (.deferred none)) (by omega) (fun k e => by cases e; exact hB)).trans h2

end Go.Proofs.YtjageagnclmnjabGreatDoor.D
