/- PROVED: what steady's Graph answers, given what its search answers. CONDITIONS: what search answers. -/
import Derived.Test.YtjageagnclmnjabGreatDoorB28Rvp
import Derived.Maps.AppendAt
namespace Go.Proofs.YtjageagnclmnjabGreatDoor.D
set_option maxRecDepth 100000
open Go.RowKit K
set_option linter.unusedVariables false

attribute [local go_sem ↓] appS_whole

/-- an edge's cells -/
def edC (r : Ru) (T : Nat) (who ratio : Int) (u : Nat) : List Value := [.int .i64 ((u / ee r : Nat) : Int), .int .i64 (((xp r T).2.getD u 0 : Nat) : Int), .int .i64 (wgt who ratio (K.round r ((xp r T).1.getD (u / ee r) (K.start r))))]
def flE (r : Ru) (T : Nat) (who ratio : Int) : Nat → List Value
  | 0 => []
  | u + 1 => flE r T who ratio u ++ edC r T who ratio u
theorem flE_len (r : Ru) (T : Nat) (who ratio : Int) (i : Nat) : (flE r T who ratio i).length = i * 3 := by
  induction i with
  | zero => rfl
  | succ i ih => simp only [flE, edC, List.length_append, ih, List.length_cons, List.length_nil]; omega
theorem flE_get (r : Ru) (T : Nat) (who ratio : Int) (i : Nat) : ∀ u j, u < i → j < 3 → (flE r T who ratio i)[u * 3 + j]? = (edC r T who ratio u)[j]? := by
  induction i with
  | zero => intro u j h; omega
  | succ i ih =>
    intro u j hu hj
    rcases Nat.lt_succ_iff_lt_or_eq.1 hu with q | rfl
    · rw [flE, List.getElem?_append_left (by rw [flE_len]; omega)]; exact ih u j q hj
    · rw [flE, List.getElem?_append_right (by rw [flE_len]; omega), flE_len, show u * 3 + j - u * 3 = j by omega]
theorem round_in {r : Ru} {s : Sx} (h : pright r s) : (0 ≤ (K.round r s).c0 ∧ (K.round r s).c0 ≤ 100) ∧ (0 ≤ (K.round r s).c1 ∧ (K.round r s).c1 ≤ 100) := by
  have hl : lates r 0 0 := by
    have := h.1.2
    unfold ranges at this
    unfold lates
    omega
  have hal : allLate r [((0 : Int), (0 : Int))] := fun p hp => by
    have : p = (0, 0) := by simpa using hp
    rw [this]; exact hl
  have := rounds_in h hal (K.round r s) (by simp [rounds])
  exact ⟨this.2.2.1, this.2.2.2.1⟩
theorem Tryz.info54 : (Tryz.prog.info? 99).map (fun i => (i.zero, i.size, i.bytes)) = some (some (.agg #[.int .i64 0, .int .i64 0, .int .i64 0]), 3, 24) := by kernel_rfl
/-- edges that are gathered behind a field of a block of the call's own -/
structure Eg (W0 : World) (C : Nat) (len : Int) (t : Value) (n : Nat) (xs : List Value) (wr : World) : Prop where
  c0 : wr.cell? ⟨C, 0, none⟩ = some (.int .i64 len)
  c1 : wr.cell? ⟨C, 1, none⟩ = some t
  f1 : wr.frozen? ⟨C, 1, none⟩ = false
  own : wr.ownsRow (C + 1) 99 3 t n xs
  below : Below W0.heap.size W0 wr
  cc : W0.heap.size ≤ C
theorem Eg.kept {W0 : World} {C : Nat} {len : Int} {t : Value} {n : Nat} {xs : List Value} {wr w' : World} (h : Eg W0 C len t n xs wr) (b : Below wr.heap.size wr w') : Eg W0 C len t n xs w' := by
  have hC : C < wr.heap.size := block_lt h.c0
  exact ⟨(b.cell (p := ⟨C, 0, none⟩) hC).trans h.c0, (b.cell (p := ⟨C, 1, none⟩) hC).trans h.c1, (b.frozen (p := ⟨C, 1, none⟩) hC).trans h.f1, own_same h.own fun g hg => b.block g (h.own.lt g hg).2, bthen h.below b, h.cc⟩
theorem Eg.slice {W0 : World} {C : Nat} {len : Int} {t : Value} {n : Nat} {xs : List Value} {wr : World} (h : Eg W0 C len t n xs wr) : ∃ ao cp, t = .slice ao n cp := by
  obtain ⟨_, ⟨e, e2⟩ | ⟨g, cap, cu, e, _⟩⟩ := h.own
  · exact ⟨none, 0, by rw [e, e2]⟩
  · exact ⟨_, _, e⟩
/-- one edge more -/
theorem Eg.app {W0 : World} {C : Nat} {len : Int} {t : Value} {n : Nat} {xs : List Value} {wr : World} (h : Eg W0 C len t n xs wr) (hn : n ≤ 100000) (a b c : Int) : ∃ g cap w2, (appS #[89, 89] 89 #[t, .slice (some ⟨wr.heap.size, 0, none⟩) 1 1]).run Tryz.prog (wr.alloc (.cells #[.int .i64 a, .int .i64 b, .int .i64 c] 99)) = .ok (.slice (some ⟨g, 0, none⟩) (n + 1) cap) w2 ∧ w2.cell? ⟨C, 1, none⟩ = some t ∧ w2.frozen? ⟨C, 1, none⟩ = false ∧
    Eg W0 C len (.slice (some ⟨g, 0, none⟩) (n + 1) cap) (n + 1) (xs ++ [.int .i64 a, .int .i64 b, .int .i64 c]) (w2.setCell ⟨C, 1, none⟩ (.slice (some ⟨g, 0, none⟩) (n + 1) cap)) := by
  obtain ⟨i0, hi, hz0, hz1, hz2⟩ := info_parts Tryz.info54
  have k := h.kept (balloc (Below.refl _ _) (.cells #[.int .i64 a, .int .i64 b, .int .i64 c] 99))
  have hC : C < wr.heap.size := block_lt h.c0
  obtain ⟨v', w2, hr, h2, h3, _, h5⟩ := run_append_own_at (P := Tryz.prog) (wr.alloc (.cells #[.int .i64 a, .int .i64 b, .int .i64 c] 99)) (C + 1) 89 89 99 i0 (.agg #[.int .i64 0, .int .i64 0, .int .i64 0]) 3 24 Tryz.underlying89 hi hz0 hz1 hz2 rfl (by decide) t n xs k.own ⟨wr.heap.size, 0, none⟩ 1 1 [.int .i64 a, .int .i64 b, .int .i64 c] rfl (fun j u hu => by
    rw [Addr.add_lit, Nat.zero_add]
    exact (World.cell?_alloc_at (w := wr) #[.int .i64 a, .int .i64 b, .int .i64 c] 99 wr.heap.size j rfl).trans (by simpa using hu)) (by simp [Value.oneCell']) (by unfold maxLen; omega) (by omega) (by simp; omega)
  obtain ⟨hl2, ⟨_, e2⟩ | ⟨g, cap, cu, e, hgC, _⟩⟩ := id h2
  · omega
  · subst e
    have hCn : t.ownBlock ≠ some C := fun q => by have := (h.own.lt C q).1; omega
    have eC : w2.heap[C]? = (wr.alloc (.cells #[.int .i64 a, .int .i64 b, .int .i64 c] 99)).heap[C]? := h3.block C (by simp; omega) (fun q => hCn q.symm)
    have hgne : g ≠ C := by omega
    have d1 := (World.cell?_of_block (a := ⟨C, 1, none⟩) eC).trans k.c1
    have d2 := (World.frozen?_of_block (a := ⟨C, 1, none⟩) eC).trans k.f1
    refine ⟨g, cap, w2, hr, d1, d2, ?_, World.cell?_setCell_same _ _ _ d1, (World.frozen?_setCell _ _ _ _).trans d2, own_same h2 fun g' hq => ?_, ?_, h.cc⟩
    · rw [World.cell?_setCell_other _ _ _ _ (fun q => by have := congrArg Addr.off q; simp at this)]
      exact (World.cell?_of_block (a := ⟨C, 0, none⟩) eC).trans k.c0
    · have : g = g' := by simpa [Value.ownBlock] using hq
      exact Below.heap_setCell _ _ _ _ (by rw [← this]; exact hgne)
    · exact Below.setCell (p := ⟨C, 1, none⟩) (k.below.grown h3 k.below.size (fun q hq => by have := (k.own.lt q hq).1; have := h.cc; omega)) h.cc _
theorem Eg.start (W : World) (len : Int) : Eg W W.heap.size len (.slice none 0 0) 0 [] (W.alloc (.cells #[.int .i64 len, .slice none 0 0] 91)) := by
  have k : ∀ j, (W.alloc (.cells #[.int .i64 len, .slice none 0 0] 91)).cell? ⟨W.heap.size, j, none⟩ = (#[.int .i64 len, .slice none 0 0] : Array Value)[j]? := fun j => World.cell?_alloc_at _ _ _ _ rfl
  exact ⟨k 0, k 1, World.frozen?_alloc_at _ _ _ _ rfl, World.ownsRow_nil _ _ _ _, balloc (Below.refl _ _) _, Nat.le_refl _⟩
/-- the graph's own block -/
structure Rg2 (w : World) (P : Nat) : Prop where
  c0 : w.cell? ⟨P, 0, none⟩ = some (.int .i64 0)
  c1 : w.cell? ⟨P, 1, none⟩ = some (.slice none 0 0)
  f0 : w.frozen? ⟨P, 0, none⟩ = false
  f1 : w.frozen? ⟨P, 1, none⟩ = false
theorem Rg2.kept {w w' : World} {P : Nat} (h : Rg2 w P) (b : Below w.heap.size w w') : Rg2 w' P := by
  have hP : P < w.heap.size := block_lt h.c0
  exact ⟨(b.cell (p := ⟨P, 0, none⟩) hP).trans h.c0, (b.cell (p := ⟨P, 1, none⟩) hP).trans h.c1, (b.frozen (p := ⟨P, 0, none⟩) hP).trans h.f0, (b.frozen (p := ⟨P, 1, none⟩) hP).trans h.f1⟩
theorem Rg2.new (w : World) (P : Nat) (hP : P = w.heap.size) : Rg2 (w.alloc (.cells #[.int .i64 0, .slice none 0 0] 91)) P := by
  subst hP
  have k : ∀ j, (w.alloc (.cells #[.int .i64 0, .slice none 0 0] 91)).cell? ⟨w.heap.size, j, none⟩ = (#[.int .i64 0, .slice none 0 0] : Array Value)[j]? := fun j => World.cell?_alloc_at _ _ _ _ rfl
  exact ⟨k 0, k 1, World.frozen?_alloc_at _ _ _ _ rfl, World.frozen?_alloc_at _ _ _ _ rfl⟩
theorem Rg2.put {w : World} {P : Nat} (h : Rg2 w P) (a b : Value) : ((w.setCell ⟨P, 0, none⟩ a).setCell ⟨P, 1, none⟩ b).cell? ⟨P, 0, none⟩ = some a ∧ ((w.setCell ⟨P, 0, none⟩ a).setCell ⟨P, 1, none⟩ b).cell? ⟨P, 1, none⟩ = some b := by
  refine ⟨?_, ?_⟩
  · rw [World.cell?_setCell_other _ _ _ _ (fun q => by have := congrArg Addr.off q; simp at this)]
    exact World.cell?_setCell_same _ _ _ h.c0
  · refine World.cell?_setCell_same (u := .slice none 0 0) _ _ _ ?_
    rw [World.cell?_setCell_other _ _ _ _ (fun q => by have := congrArg Addr.off q; simp at this)]
    exact h.c1
set_option maxHeartbeats 6400000 in
set_option maxRecDepth 20000 in
theorem gr_some0 (sS : SrSome) (r : Ru) (T : Nat) (ratio : Int) (h : wrong r = 0) (hT : Dn r T) (hra : 1 ≤ ratio ∧ ratio ≤ 100) (v : World) : Calls Tryz.prog 59 #[.agg #[.int .i64 r.k0, .int .i64 r.k1, .int .i64 r.r, .int .i64 r.m, .int .i64 r.j], .int .i64 0, .int .i64 ratio] v fun e w' => ∃ h cp, e = .returned (.tuple #[.agg #[.int .i64 ((xp r T).1.length : Int), .slice (some ⟨h, 0, none⟩) T cp], .int .i64 0]) ∧ T ≤ cp ∧ (∀ u, u < T → EAt w' h (u * 3) ((u / ee r : Nat) : Int) (((xp r T).2.getD u 0 : Nat) : Int) (wgt 0 ratio (K.round r ((xp r T).1.getD (u / ee r) (K.start r))))) ∧ Below v.heap.size v w' := by
  have hs := sS r T h hT
  have hrg := (wrong_ok.1 h).2
  obtain ⟨_, _, he16⟩ := jj_cast hrg
  obtain ⟨hl1, hT1, hT3⟩ := dn_pos hT
  have hTb : T ≤ 4800 := Nat.le_trans hT3 (Nat.mul_le_mul_left 300 he16)
  have hl300 := hT.2.2
  have hSs := ga_S hT.1
  have hrt := xp_right (wrong_ok.1 h) T
  have X := (Rul.new v _ rfl r.k0 r.k1 r.r r.m r.j).alloc (.cells #[.int .i64 0, .slice none 0 0] 91)
  have Y := Rg2.new (v.alloc (.cells #[.int .i64 r.k0, .int .i64 r.k1, .int .i64 r.r, .int .i64 r.m, .int .i64 r.j] 69)) (v.heap.size + 1) (by simp)
  have B : Below v.heap.size v ((v.alloc (.cells #[.int .i64 r.k0, .int .i64 r.k1, .int .i64 r.r, .int .i64 r.m, .int .i64 r.j] 69)).alloc (.cells #[.int .i64 0, .slice none 0 0] 91)) := balloc (balloc (Below.refl _ _) _) _
  obtain ⟨w0, hw0⟩ : ∃ w0, (v.alloc (.cells #[.int .i64 r.k0, .int .i64 r.k1, .int .i64 r.r, .int .i64 r.m, .int .i64 r.j] 69)).alloc (.cells #[.int .i64 0, .slice none 0 0] 91) = w0 := ⟨_, rfl⟩
  rw [hw0] at X Y B
  obtain ⟨x0, x1, x2, x3, x4, -, -, -, -, -⟩ := id X
  obtain ⟨len, hlen⟩ : ∃ len, (xp r T).1.length = len := ⟨_, rfl⟩
  have d1 : decide (ratio < 1) = false := decide_eq_false (by omega)
  have d2 : decide (100 < ratio) = false := decide_eq_false (by omega)
  rw [hlen] at hl1 hl300 ⊢
  replace hlen : Hid _ := hlen
  have hs' : ∀ w, Calls Tryz.prog 72 #[.agg #[.int .i64 r.k0, .int .i64 r.k1, .int .i64 r.r, .int .i64 r.m, .int .i64 r.j]] w fun e w' => ∃ g0 cp0 g1 cp1 g2 cp2 M, e = .returned (.tuple #[.agg #[.slice (some ⟨g0, 0, none⟩) len cp0, .map (some M), .slice (some ⟨g1, 0, none⟩) T cp1, .slice (some ⟨g2, 0, none⟩) len cp2], .int .i64 0]) ∧ (∀ u s, (ga r T).S[u]? = some s → Stq w' g1 (u * 6) r s) ∧ Below w.heap.size w w' := fun w => (hs w).mono fun e w' hh => by
    obtain ⟨g0, cp0, g1, cp1, g2, cp2, M, rfl, _, _, k1, k2, b⟩ := hh
    rw [hlen.out]
    exact ⟨g0, cp0, g1, cp1, g2, cp2, M, rfl, k1, b⟩
  replace hSs : Hid _ := hSs
  replace hrt : Hid _ := hrt
  clear hs X
  go_enter Tryz.func59, Tryz.ntmps59
  go_wp2_with (go_at_call 72; refine (hs' _).mono ?_; clear hs' x0 x1 x2 x3 x4 hw0; rintro e v1 ⟨g0, cp0, g1, cp1, g2, cp2, M, rfl, k1, b⟩; replace k1 : Hid (∀ u s, (ga r T).S[u]? = some s → Stq v1 g1 (u * 6) r s) := k1; replace B := bthen B b; replace Y := Y.kept b; clear b)
  obtain ⟨W1, hW1⟩ : ∃ W1, v1.alloc (.cells #[.slice (some ⟨g0, 0, none⟩) len cp0, .map (some M), .slice (some ⟨g1, 0, none⟩) T cp1, .slice (some ⟨g2, 0, none⟩) len cp2] 119) = W1 := ⟨_, rfl⟩
  have bA : Below v1.heap.size v1 (v1.alloc (.cells #[.slice (some ⟨g0, 0, none⟩) len cp0, .map (some M), .slice (some ⟨g1, 0, none⟩) T cp1, .slice (some ⟨g2, 0, none⟩) len cp2] 119)) := balloc (Below.refl _ _) _
  have hsz1 : W1.heap.size = v1.heap.size + 1 := by rw [← hW1]; simp
  rw [hW1] at bA ⊢
  replace B := bthen B bA
  replace Y := Y.kept bA
  have k1' : Hid (∀ u s, (ga r T).S[u]? = some s → Stq W1 g1 (u * 6) r s) := fun u s hu => (k1.out u s hu).kept bA
  have E0 := Eg.start W1 (len : Int)
  rw [show v1.heap.size + 1 = W1.heap.size from hsz1.symm]
  obtain ⟨C, hC⟩ : ∃ C, W1.heap.size = C := ⟨_, rfl⟩
  rw [hC] at E0 ⊢
  clear k1 bA hW1 d1 d2
  go_loopw [45] (fun iv wr => ∃ (i : Nat) (t : Value), iv = .int .i64 (i : Int) ∧ i ≤ T ∧ Eg W1 C (len : Int) t i (flE r T 0 ratio i) wr) (fun iv _ => T - (intOf iv).toNat)
  case atStart => exact ⟨0, _, rfl, Nat.zero_le _, E0⟩
  case round =>
    obtain ⟨i, t, rfl, hi, hE⟩ := hrel
    by_cases hlt : i < T
    · have hiI : (i : Int) < (T : Int) := by omega
      obtain ⟨x, tt, hx, hto, hSu⟩ := hSs.out.2 i hlt
      have hs6 := (k1'.out i _ hSu).kept hE.below
      obtain ⟨y0, y1, y2, y3, y4, y5⟩ := hs6
      dsimp only at y0 y1 y2 y3 y4 y5
      have hrx := round_in (hrt.out x (List.mem_of_getElem? hx))
      obtain ⟨lp, hlp⟩ : ∃ lp, pr r (i % ee r) = lp := ⟨_, rfl⟩
      rw [hlp] at y2 y3
      have hed : Hid (edC r T 0 ratio i = [.int .i64 ((i / ee r : Nat) : Int), .int .i64 (tt : Int), .int .i64 ((K.round r x).c0 - ratio * (K.round r x).c1)]) := by
        show _ = _
        unfold edC
        rw [List.getD_eq_getElem?_getD, List.getD_eq_getElem?_getD, hto, hx]
        simp [wgt]
      obtain ⟨f, hfe⟩ : ∃ f, i / ee r = f := ⟨_, rfl⟩
      rw [hfe] at y0 hed
      generalize (K.round r x).c0 = e0 at *
      generalize (K.round r x).c1 = e1 at *
      have hp : 0 ≤ ratio * e1 ∧ ratio * e1 ≤ 10000 := by
        refine ⟨Int.mul_nonneg (by omega) (by omega), ?_⟩
        exact Int.le_trans (Int.mul_le_mul hra.2 (show e1 ≤ 100 by omega) (by omega) (by omega)) (by omega)
      obtain ⟨pd, hpd⟩ : ∃ pd, ratio * e1 = pd := ⟨_, rfl⟩
      rw [hpd] at hp hed
      have w1 : IntKind.i64.wrap pd = pd := wrapIn (by omega)
      have w2 : IntKind.i64.wrap (e0 - pd) = e0 - pd := wrapIn (by omega)
      have w3 : IntKind.i64.wrap ((i : Int) + 1) = (i : Int) + 1 := wrapIn (by omega)
      have k6 := hE.kept (balloc (Below.refl _ _) (.cells #[.int .i64 (f : Int), .int .i64 (tt : Int), .int .i64 lp.1, .int .i64 lp.2, .int .i64 e0, .int .i64 e1] 123))
      obtain ⟨W6, hW6⟩ : ∃ W6, wr.alloc (.cells #[.int .i64 (f : Int), .int .i64 (tt : Int), .int .i64 lp.1, .int .i64 lp.2, .int .i64 e0, .int .i64 e1] 123) = W6 := ⟨_, rfl⟩
      have kk : ∀ j, (wr.alloc (.cells #[.int .i64 (f : Int), .int .i64 (tt : Int), .int .i64 lp.1, .int .i64 lp.2, .int .i64 e0, .int .i64 e1] 123)).cell? ⟨wr.heap.size, j, none⟩ = (#[.int .i64 (f : Int), .int .i64 (tt : Int), .int .i64 lp.1, .int .i64 lp.2, .int .i64 e0, .int .i64 e1] : Array Value)[j]? := fun j => World.cell?_alloc_at _ _ _ _ rfl
      have n0 : (wr.alloc (.cells #[.int .i64 (f : Int), .int .i64 (tt : Int), .int .i64 lp.1, .int .i64 lp.2, .int .i64 e0, .int .i64 e1] 123)).cell? ⟨wr.heap.size, 0, none⟩ = some (.int .i64 (f : Int)) := kk 0
      have n1 : (wr.alloc (.cells #[.int .i64 (f : Int), .int .i64 (tt : Int), .int .i64 lp.1, .int .i64 lp.2, .int .i64 e0, .int .i64 e1] 123)).cell? ⟨wr.heap.size, 1, none⟩ = some (.int .i64 (tt : Int)) := kk 1
      have n4 : (wr.alloc (.cells #[.int .i64 (f : Int), .int .i64 (tt : Int), .int .i64 lp.1, .int .i64 lp.2, .int .i64 e0, .int .i64 e1] 123)).cell? ⟨wr.heap.size, 4, none⟩ = some (.int .i64 e0) := kk 4
      have n5 : (wr.alloc (.cells #[.int .i64 (f : Int), .int .i64 (tt : Int), .int .i64 lp.1, .int .i64 lp.2, .int .i64 e0, .int .i64 e1] 123)).cell? ⟨wr.heap.size, 5, none⟩ = some (.int .i64 e1) := kk 5
      rw [hW6] at k6 n0 n1 n4 n5
      obtain ⟨ao, cp, rfl⟩ := hE.slice
      have r1 := k6.c1
      clear hE
      clear kk hSu hx hto hlp hrx
      replace hfe : Hid _ := hfe
      go_wp2
      go_quiet (fail)
      obtain ⟨g, cap, w2, hr, q1, q2, hE2⟩ := (k6.kept (below_drewN (Below.refl _ _) nq)).app (by omega) (f : Int) (tt : Int) (e0 - pd)
      replace hE2 : Hid (Eg W1 C (len : Int) (.slice (some ⟨g, 0, none⟩) (i + 1) cap) (i + 1) (flE r T 0 ratio (i + 1)) (w2.setCell ⟨C, 1, none⟩ (.slice (some ⟨g, 0, none⟩) (i + 1) cap))) := by
        show Eg _ _ _ _ _ _ _
        rw [flE, hed.out]; exact hE2
      replace hr : (appS #[89, 89] 89 #[.slice ao i cp, .slice (some ⟨W6.heap.size, 0, none⟩) 1 1]).run Tryz.prog ((W6.drewN nq).alloc (.cells #[.int .i64 (f : Int), .int .i64 (tt : Int), .int .i64 (e0 - pd)] 99)) = .ok (.slice (some ⟨g, 0, none⟩) (i + 1) cap) w2 := hr
      clear k6
      go_wp2
      go_roundw
      case rel => exact ⟨i + 1, _, by simp, by omega, hE2.out⟩
      case measure => simp [intOf]; omega
    · obtain rfl : i = T := by omega
      have hd : ¬ (i : Int) < (i : Int) := by omega
      obtain ⟨hl2, ⟨_, e2⟩ | ⟨g, cap, cu, rfl, hgb, hh, hcap, hcm, hcs, htk⟩⟩ := id hE.own
      · omega
      have c0 := hE.c0
      have c1 := hE.c1
      have Y2 := Y.kept hE.below
      have hB2 := bthen B hE.below
      obtain ⟨y0, y1, f0, f1⟩ := id Y2
      have hPv : v.heap.size + 1 < C := by
        have := block_lt (Y.c0)
        simp at this
        omega
      obtain ⟨z0, z1⟩ := Y2.put (.int .i64 (len : Int)) (.slice (some ⟨g, 0, none⟩) i cap)
      have hBf : Below v.heap.size v ((wr.setCell ⟨v.heap.size + 1, 0, none⟩ (.int .i64 (len : Int))).setCell ⟨v.heap.size + 1, 1, none⟩ (.slice (some ⟨g, 0, none⟩) i cap)) := Below.setCell (p := ⟨v.heap.size + 1, 1, none⟩) (Below.setCell (p := ⟨v.heap.size + 1, 0, none⟩) hB2 (by show v.heap.size ≤ v.heap.size + 1; omega) _) (by show v.heap.size ≤ v.heap.size + 1; omega) _
      have hEd : Hid (∀ u, u < i → EAt ((wr.setCell ⟨v.heap.size + 1, 0, none⟩ (.int .i64 (len : Int))).setCell ⟨v.heap.size + 1, 1, none⟩ (.slice (some ⟨g, 0, none⟩) i cap)) g (u * 3) ((u / ee r : Nat) : Int) (((xp r i).2.getD u 0 : Nat) : Int) (wgt 0 ratio (K.round r ((xp r i).1.getD (u / ee r) (K.start r))))) := fun u hu => by
        have key : ∀ j, j < 3 → ((wr.setCell ⟨v.heap.size + 1, 0, none⟩ (.int .i64 (len : Int))).setCell ⟨v.heap.size + 1, 1, none⟩ (.slice (some ⟨g, 0, none⟩) i cap)).cell? ⟨g, u * 3 + j, none⟩ = (edC r i 0 ratio u)[j]? := fun j hj => by
          rw [World.cell?_setCell_other _ _ _ _ (fun q => by have := congrArg Addr.block q; simp at this; omega), World.cell?_setCell_other _ _ _ _ (fun q => by have := congrArg Addr.block q; simp at this; omega)]
          have := flE_get r i 0 ratio i u j hu hj
          rw [← htk, List.getElem?_take_of_lt (by omega)] at this
          simp only [World.cell?, hh]
          rw [← this]
          simp
        exact ⟨key 0 (by omega), key 1 (by omega), key 2 (by omega)⟩
      have hcap' : Hid (i ≤ cap) := hcap
      clear hE Y Y2 hh hcs htk hl2 hcap hcm
      go_wp2
      refine bodyPost_ret (v := .tuple #[.agg #[.int .i64 (len : Int), .slice (some ⟨g, 0, none⟩) i cap], .int .i64 0]) (by simp [results, Tryz.results59, go_sem, z0, z1]) rfl ?_
      exact ⟨g, cap, rfl, hcap'.out, hEd.out, hBf⟩
set_option maxHeartbeats 6400000 in
set_option maxRecDepth 20000 in
theorem gr_some1 (sS : SrSome) (r : Ru) (T : Nat) (ratio : Int) (h : wrong r = 0) (hT : Dn r T) (hra : 1 ≤ ratio ∧ ratio ≤ 100) (v : World) : Calls Tryz.prog 59 #[.agg #[.int .i64 r.k0, .int .i64 r.k1, .int .i64 r.r, .int .i64 r.m, .int .i64 r.j], .int .i64 1, .int .i64 ratio] v fun e w' => ∃ h cp, e = .returned (.tuple #[.agg #[.int .i64 ((xp r T).1.length : Int), .slice (some ⟨h, 0, none⟩) T cp], .int .i64 0]) ∧ T ≤ cp ∧ (∀ u, u < T → EAt w' h (u * 3) ((u / ee r : Nat) : Int) (((xp r T).2.getD u 0 : Nat) : Int) (wgt 1 ratio (K.round r ((xp r T).1.getD (u / ee r) (K.start r))))) ∧ Below v.heap.size v w' := by
  have hs := sS r T h hT
  have hrg := (wrong_ok.1 h).2
  obtain ⟨_, _, he16⟩ := jj_cast hrg
  obtain ⟨hl1, hT1, hT3⟩ := dn_pos hT
  have hTb : T ≤ 4800 := Nat.le_trans hT3 (Nat.mul_le_mul_left 300 he16)
  have hl300 := hT.2.2
  have hSs := ga_S hT.1
  have hrt := xp_right (wrong_ok.1 h) T
  have X := (Rul.new v _ rfl r.k0 r.k1 r.r r.m r.j).alloc (.cells #[.int .i64 0, .slice none 0 0] 91)
  have Y := Rg2.new (v.alloc (.cells #[.int .i64 r.k0, .int .i64 r.k1, .int .i64 r.r, .int .i64 r.m, .int .i64 r.j] 69)) (v.heap.size + 1) (by simp)
  have B : Below v.heap.size v ((v.alloc (.cells #[.int .i64 r.k0, .int .i64 r.k1, .int .i64 r.r, .int .i64 r.m, .int .i64 r.j] 69)).alloc (.cells #[.int .i64 0, .slice none 0 0] 91)) := balloc (balloc (Below.refl _ _) _) _
  obtain ⟨w0, hw0⟩ : ∃ w0, (v.alloc (.cells #[.int .i64 r.k0, .int .i64 r.k1, .int .i64 r.r, .int .i64 r.m, .int .i64 r.j] 69)).alloc (.cells #[.int .i64 0, .slice none 0 0] 91) = w0 := ⟨_, rfl⟩
  rw [hw0] at X Y B
  obtain ⟨x0, x1, x2, x3, x4, -, -, -, -, -⟩ := id X
  obtain ⟨len, hlen⟩ : ∃ len, (xp r T).1.length = len := ⟨_, rfl⟩
  have d1 : decide (ratio < 1) = false := decide_eq_false (by omega)
  have d2 : decide (100 < ratio) = false := decide_eq_false (by omega)
  rw [hlen] at hl1 hl300 ⊢
  replace hlen : Hid _ := hlen
  have hs' : ∀ w, Calls Tryz.prog 72 #[.agg #[.int .i64 r.k0, .int .i64 r.k1, .int .i64 r.r, .int .i64 r.m, .int .i64 r.j]] w fun e w' => ∃ g0 cp0 g1 cp1 g2 cp2 M, e = .returned (.tuple #[.agg #[.slice (some ⟨g0, 0, none⟩) len cp0, .map (some M), .slice (some ⟨g1, 0, none⟩) T cp1, .slice (some ⟨g2, 0, none⟩) len cp2], .int .i64 0]) ∧ (∀ u s, (ga r T).S[u]? = some s → Stq w' g1 (u * 6) r s) ∧ Below w.heap.size w w' := fun w => (hs w).mono fun e w' hh => by
    obtain ⟨g0, cp0, g1, cp1, g2, cp2, M, rfl, _, _, k1, k2, b⟩ := hh
    rw [hlen.out]
    exact ⟨g0, cp0, g1, cp1, g2, cp2, M, rfl, k1, b⟩
  replace hSs : Hid _ := hSs
  replace hrt : Hid _ := hrt
  clear hs X
  go_enter Tryz.func59, Tryz.ntmps59
  go_wp2_with (go_at_call 72; refine (hs' _).mono ?_; clear hs' x0 x1 x2 x3 x4 hw0; rintro e v1 ⟨g0, cp0, g1, cp1, g2, cp2, M, rfl, k1, b⟩; replace k1 : Hid (∀ u s, (ga r T).S[u]? = some s → Stq v1 g1 (u * 6) r s) := k1; replace B := bthen B b; replace Y := Y.kept b; clear b)
  obtain ⟨W1, hW1⟩ : ∃ W1, v1.alloc (.cells #[.slice (some ⟨g0, 0, none⟩) len cp0, .map (some M), .slice (some ⟨g1, 0, none⟩) T cp1, .slice (some ⟨g2, 0, none⟩) len cp2] 119) = W1 := ⟨_, rfl⟩
  have bA : Below v1.heap.size v1 (v1.alloc (.cells #[.slice (some ⟨g0, 0, none⟩) len cp0, .map (some M), .slice (some ⟨g1, 0, none⟩) T cp1, .slice (some ⟨g2, 0, none⟩) len cp2] 119)) := balloc (Below.refl _ _) _
  have hsz1 : W1.heap.size = v1.heap.size + 1 := by rw [← hW1]; simp
  rw [hW1] at bA ⊢
  replace B := bthen B bA
  replace Y := Y.kept bA
  have k1' : Hid (∀ u s, (ga r T).S[u]? = some s → Stq W1 g1 (u * 6) r s) := fun u s hu => (k1.out u s hu).kept bA
  have E0 := Eg.start W1 (len : Int)
  rw [show v1.heap.size + 1 = W1.heap.size from hsz1.symm]
  obtain ⟨C, hC⟩ : ∃ C, W1.heap.size = C := ⟨_, rfl⟩
  rw [hC] at E0 ⊢
  clear k1 bA hW1 d1 d2
  go_loopw [45] (fun iv wr => ∃ (i : Nat) (t : Value), iv = .int .i64 (i : Int) ∧ i ≤ T ∧ Eg W1 C (len : Int) t i (flE r T 1 ratio i) wr) (fun iv _ => T - (intOf iv).toNat)
  case atStart => exact ⟨0, _, rfl, Nat.zero_le _, E0⟩
  case round =>
    obtain ⟨i, t, rfl, hi, hE⟩ := hrel
    by_cases hlt : i < T
    · have hiI : (i : Int) < (T : Int) := by omega
      obtain ⟨x, tt, hx, hto, hSu⟩ := hSs.out.2 i hlt
      have hs6 := (k1'.out i _ hSu).kept hE.below
      obtain ⟨y0, y1, y2, y3, y4, y5⟩ := hs6
      dsimp only at y0 y1 y2 y3 y4 y5
      have hrx := round_in (hrt.out x (List.mem_of_getElem? hx))
      obtain ⟨lp, hlp⟩ : ∃ lp, pr r (i % ee r) = lp := ⟨_, rfl⟩
      rw [hlp] at y2 y3
      have hed : Hid (edC r T 1 ratio i = [.int .i64 ((i / ee r : Nat) : Int), .int .i64 (tt : Int), .int .i64 ((K.round r x).c1 - ratio * (K.round r x).c0)]) := by
        show _ = _
        unfold edC
        rw [List.getD_eq_getElem?_getD, List.getD_eq_getElem?_getD, hto, hx]
        simp [wgt]
      obtain ⟨f, hfe⟩ : ∃ f, i / ee r = f := ⟨_, rfl⟩
      rw [hfe] at y0 hed
      generalize (K.round r x).c0 = e0 at *
      generalize (K.round r x).c1 = e1 at *
      have hp : 0 ≤ ratio * e0 ∧ ratio * e0 ≤ 10000 := by
        refine ⟨Int.mul_nonneg (by omega) (by omega), ?_⟩
        exact Int.le_trans (Int.mul_le_mul hra.2 (show e0 ≤ 100 by omega) (by omega) (by omega)) (by omega)
      obtain ⟨pd, hpd⟩ : ∃ pd, ratio * e0 = pd := ⟨_, rfl⟩
      rw [hpd] at hp hed
      have w1 : IntKind.i64.wrap pd = pd := wrapIn (by omega)
      have w2 : IntKind.i64.wrap (e1 - pd) = e1 - pd := wrapIn (by omega)
      have w3 : IntKind.i64.wrap ((i : Int) + 1) = (i : Int) + 1 := wrapIn (by omega)
      have k6 := hE.kept (balloc (Below.refl _ _) (.cells #[.int .i64 (f : Int), .int .i64 (tt : Int), .int .i64 lp.1, .int .i64 lp.2, .int .i64 e0, .int .i64 e1] 123))
      obtain ⟨W6, hW6⟩ : ∃ W6, wr.alloc (.cells #[.int .i64 (f : Int), .int .i64 (tt : Int), .int .i64 lp.1, .int .i64 lp.2, .int .i64 e0, .int .i64 e1] 123) = W6 := ⟨_, rfl⟩
      have kk : ∀ j, (wr.alloc (.cells #[.int .i64 (f : Int), .int .i64 (tt : Int), .int .i64 lp.1, .int .i64 lp.2, .int .i64 e0, .int .i64 e1] 123)).cell? ⟨wr.heap.size, j, none⟩ = (#[.int .i64 (f : Int), .int .i64 (tt : Int), .int .i64 lp.1, .int .i64 lp.2, .int .i64 e0, .int .i64 e1] : Array Value)[j]? := fun j => World.cell?_alloc_at _ _ _ _ rfl
      have n0 : (wr.alloc (.cells #[.int .i64 (f : Int), .int .i64 (tt : Int), .int .i64 lp.1, .int .i64 lp.2, .int .i64 e0, .int .i64 e1] 123)).cell? ⟨wr.heap.size, 0, none⟩ = some (.int .i64 (f : Int)) := kk 0
      have n1 : (wr.alloc (.cells #[.int .i64 (f : Int), .int .i64 (tt : Int), .int .i64 lp.1, .int .i64 lp.2, .int .i64 e0, .int .i64 e1] 123)).cell? ⟨wr.heap.size, 1, none⟩ = some (.int .i64 (tt : Int)) := kk 1
      have n4 : (wr.alloc (.cells #[.int .i64 (f : Int), .int .i64 (tt : Int), .int .i64 lp.1, .int .i64 lp.2, .int .i64 e0, .int .i64 e1] 123)).cell? ⟨wr.heap.size, 4, none⟩ = some (.int .i64 e0) := kk 4
      have n5 : (wr.alloc (.cells #[.int .i64 (f : Int), .int .i64 (tt : Int), .int .i64 lp.1, .int .i64 lp.2, .int .i64 e0, .int .i64 e1] 123)).cell? ⟨wr.heap.size, 5, none⟩ = some (.int .i64 e1) := kk 5
      rw [hW6] at k6 n0 n1 n4 n5
      obtain ⟨ao, cp, rfl⟩ := hE.slice
      have r1 := k6.c1
      clear hE
      clear kk hSu hx hto hlp hrx
      replace hfe : Hid _ := hfe
      go_wp2
      go_quiet (fail)
      obtain ⟨g, cap, w2, hr, q1, q2, hE2⟩ := (k6.kept (below_drewN (Below.refl _ _) nq)).app (by omega) (f : Int) (tt : Int) (e1 - pd)
      replace hE2 : Hid (Eg W1 C (len : Int) (.slice (some ⟨g, 0, none⟩) (i + 1) cap) (i + 1) (flE r T 1 ratio (i + 1)) (w2.setCell ⟨C, 1, none⟩ (.slice (some ⟨g, 0, none⟩) (i + 1) cap))) := by
        show Eg _ _ _ _ _ _ _
        rw [flE, hed.out]; exact hE2
      replace hr : (appS #[89, 89] 89 #[.slice ao i cp, .slice (some ⟨W6.heap.size, 0, none⟩) 1 1]).run Tryz.prog ((W6.drewN nq).alloc (.cells #[.int .i64 (f : Int), .int .i64 (tt : Int), .int .i64 (e1 - pd)] 99)) = .ok (.slice (some ⟨g, 0, none⟩) (i + 1) cap) w2 := hr
      clear k6
      go_wp2
      go_roundw
      case rel => exact ⟨i + 1, _, by simp, by omega, hE2.out⟩
      case measure => simp [intOf]; omega
    · obtain rfl : i = T := by omega
      have hd : ¬ (i : Int) < (i : Int) := by omega
      obtain ⟨hl2, ⟨_, e2⟩ | ⟨g, cap, cu, rfl, hgb, hh, hcap, hcm, hcs, htk⟩⟩ := id hE.own
      · omega
      have c0 := hE.c0
      have c1 := hE.c1
      have Y2 := Y.kept hE.below
      have hB2 := bthen B hE.below
      obtain ⟨y0, y1, f0, f1⟩ := id Y2
      have hPv : v.heap.size + 1 < C := by
        have := block_lt (Y.c0)
        simp at this
        omega
      obtain ⟨z0, z1⟩ := Y2.put (.int .i64 (len : Int)) (.slice (some ⟨g, 0, none⟩) i cap)
      have hBf : Below v.heap.size v ((wr.setCell ⟨v.heap.size + 1, 0, none⟩ (.int .i64 (len : Int))).setCell ⟨v.heap.size + 1, 1, none⟩ (.slice (some ⟨g, 0, none⟩) i cap)) := Below.setCell (p := ⟨v.heap.size + 1, 1, none⟩) (Below.setCell (p := ⟨v.heap.size + 1, 0, none⟩) hB2 (by show v.heap.size ≤ v.heap.size + 1; omega) _) (by show v.heap.size ≤ v.heap.size + 1; omega) _
      have hEd : Hid (∀ u, u < i → EAt ((wr.setCell ⟨v.heap.size + 1, 0, none⟩ (.int .i64 (len : Int))).setCell ⟨v.heap.size + 1, 1, none⟩ (.slice (some ⟨g, 0, none⟩) i cap)) g (u * 3) ((u / ee r : Nat) : Int) (((xp r i).2.getD u 0 : Nat) : Int) (wgt 1 ratio (K.round r ((xp r i).1.getD (u / ee r) (K.start r))))) := fun u hu => by
        have key : ∀ j, j < 3 → ((wr.setCell ⟨v.heap.size + 1, 0, none⟩ (.int .i64 (len : Int))).setCell ⟨v.heap.size + 1, 1, none⟩ (.slice (some ⟨g, 0, none⟩) i cap)).cell? ⟨g, u * 3 + j, none⟩ = (edC r i 1 ratio u)[j]? := fun j hj => by
          rw [World.cell?_setCell_other _ _ _ _ (fun q => by have := congrArg Addr.block q; simp at this; omega), World.cell?_setCell_other _ _ _ _ (fun q => by have := congrArg Addr.block q; simp at this; omega)]
          have := flE_get r i 1 ratio i u j hu hj
          rw [← htk, List.getElem?_take_of_lt (by omega)] at this
          simp only [World.cell?, hh]
          rw [← this]
          simp
        exact ⟨key 0 (by omega), key 1 (by omega), key 2 (by omega)⟩
      have hcap' : Hid (i ≤ cap) := hcap
      clear hE Y Y2 hh hcs htk hl2 hcap hcm
      go_wp2
      refine bodyPost_ret (v := .tuple #[.agg #[.int .i64 (len : Int), .slice (some ⟨g, 0, none⟩) i cap], .int .i64 0]) (by simp [results, Tryz.results59, go_sem, z0, z1]) rfl ?_
      exact ⟨g, cap, rfl, hcap'.out, hEd.out, hBf⟩
theorem gr_some (sS : SrSome) : GrSome := fun r T who ratio h hT hw hra v => by
  rcases (show who = 0 ∨ who = 1 by omega) with rfl | rfl
  · exact gr_some0 sS r T ratio h hT hra v
  · exact gr_some1 sS r T ratio h hT hra v
theorem gr_err (r : Ru) (who ratio E : Int) (he : (E != 0) = true) (hwh : 0 ≤ who ∧ who ≤ 1) (hra : 1 ≤ ratio ∧ ratio ≤ 100) (hs : ∀ w, Calls Tryz.prog 72 #[.agg #[.int .i64 r.k0, .int .i64 r.k1, .int .i64 r.r, .int .i64 r.m, .int .i64 r.j]] w fun e w' => e = .returned (.tuple #[.agg #[.slice none 0 0, .map none, .slice none 0 0, .slice none 0 0], .int .i64 E]) ∧ Below w.heap.size w w') (v : World) : Calls Tryz.prog 59 #[.agg #[.int .i64 r.k0, .int .i64 r.k1, .int .i64 r.r, .int .i64 r.m, .int .i64 r.j], .int .i64 who, .int .i64 ratio] v fun e w' => e = .returned (.tuple #[.agg #[.int .i64 0, .slice none 0 0], .int .i64 E]) ∧ Below v.heap.size v w' := by
  have X := (Rul.new v _ rfl r.k0 r.k1 r.r r.m r.j).alloc (.cells #[.int .i64 0, .slice none 0 0] 91)
  have Y := Rg2.new (v.alloc (.cells #[.int .i64 r.k0, .int .i64 r.k1, .int .i64 r.r, .int .i64 r.m, .int .i64 r.j] 69)) (v.heap.size + 1) (by simp)
  have B : Below v.heap.size v ((v.alloc (.cells #[.int .i64 r.k0, .int .i64 r.k1, .int .i64 r.r, .int .i64 r.m, .int .i64 r.j] 69)).alloc (.cells #[.int .i64 0, .slice none 0 0] 91)) := balloc (balloc (Below.refl _ _) _) _
  obtain ⟨w0, hw0⟩ : ∃ w0, (v.alloc (.cells #[.int .i64 r.k0, .int .i64 r.k1, .int .i64 r.r, .int .i64 r.m, .int .i64 r.j] 69)).alloc (.cells #[.int .i64 0, .slice none 0 0] 91) = w0 := ⟨_, rfl⟩
  rw [hw0] at X Y B
  obtain ⟨x0, x1, x2, x3, x4, -, -, -, -, -⟩ := id X
  have d1 : decide (ratio < 1) = false := decide_eq_false (by omega)
  have d2 : decide (100 < ratio) = false := decide_eq_false (by omega)
  have d3 : decide (who < 0) = false := decide_eq_false (by omega)
  have d4 : decide (1 < who) = false := decide_eq_false (by omega)
  clear hwh hra
  go_enter Tryz.func59, Tryz.ntmps59
  go_wp2_with (go_at_call 72; refine (hs _).mono ?_; clear hs x0 x1 x2 x3 x4 hw0; rintro e v1 ⟨rfl, b⟩; replace B := balloc (bthen B b) (.cells #[.slice none 0 0, .map none, .slice none 0 0, .slice none 0 0] 119); replace Y := Y.kept (balloc b (.cells #[.slice none 0 0, .map none, .slice none 0 0, .slice none 0 0] 119)); obtain ⟨y0, y1, f0, f1⟩ := id Y)
  obtain ⟨z0, z1⟩ := Y.put (.int .i64 0) (.slice none 0 0)
  refine bodyPost_ret (v := .tuple #[.agg #[.int .i64 0, .slice none 0 0], .int .i64 E]) (by simp [results, Tryz.results59, go_sem, z0, z1]) rfl ⟨rfl, ?_⟩
  exact Below.setCell (p := ⟨v.heap.size + 1, 1, none⟩) (Below.setCell (p := ⟨v.heap.size + 1, 0, none⟩) B (by show v.heap.size ≤ v.heap.size + 1; omega) _) (by show v.heap.size ≤ v.heap.size + 1; omega) _
theorem gr_full (sF : SrFull) : GrFull := fun r who ratio h hF h1 h2 v => gr_err r who ratio 4 rfl h1 h2 (sF r h hF) v
theorem gr_wrong : GrWrong := fun r E who ratio hE he h1 h2 v => gr_err r who ratio E he h1 h2 (search_wrong r E hE he) v
theorem gr_range : GrRange := fun r who ratio h v => by
  have X := (Rul.new v _ rfl r.k0 r.k1 r.r r.m r.j).alloc (.cells #[.int .i64 0, .slice none 0 0] 91)
  have Y := Rg2.new (v.alloc (.cells #[.int .i64 r.k0, .int .i64 r.k1, .int .i64 r.r, .int .i64 r.m, .int .i64 r.j] 69)) (v.heap.size + 1) (by simp)
  have B : Below v.heap.size v ((v.alloc (.cells #[.int .i64 r.k0, .int .i64 r.k1, .int .i64 r.r, .int .i64 r.m, .int .i64 r.j] 69)).alloc (.cells #[.int .i64 0, .slice none 0 0] 91)) := balloc (balloc (Below.refl _ _) _) _
  obtain ⟨w0, hw0⟩ : ∃ w0, (v.alloc (.cells #[.int .i64 r.k0, .int .i64 r.k1, .int .i64 r.r, .int .i64 r.m, .int .i64 r.j] 69)).alloc (.cells #[.int .i64 0, .slice none 0 0] 91) = w0 := ⟨_, rfl⟩
  rw [hw0] at Y B
  obtain ⟨y0, y1, f0, f1⟩ := id Y
  obtain ⟨z0, z1⟩ := Y.put (.int .i64 0) (.slice none 0 0)
  have hbf := Below.setCell (p := ⟨v.heap.size + 1, 1, none⟩) (Below.setCell (p := ⟨v.heap.size + 1, 0, none⟩) B (by show v.heap.size ≤ v.heap.size + 1; omega) (.int .i64 0)) (by show v.heap.size ≤ v.heap.size + 1; omega) (.slice none 0 0)
  clear X
  by_cases h1 : who < 0
  · have d3 : decide (who < 0) = true := decide_eq_true h1
    clear h h1
    go_enter Tryz.func59, Tryz.ntmps59
    go_wp2
    exact bodyPost_ret (v := .tuple #[.agg #[.int .i64 0, .slice none 0 0], .int .i64 2]) (by simp [results, Tryz.results59, go_sem, z0, z1]) rfl ⟨rfl, hbf⟩
  · have d3 : decide (who < 0) = false := decide_eq_false h1
    by_cases h2 : 1 < who
    · have d4 : decide (1 < who) = true := decide_eq_true h2
      clear h h1 h2
      go_enter Tryz.func59, Tryz.ntmps59
      go_wp2
      exact bodyPost_ret (v := .tuple #[.agg #[.int .i64 0, .slice none 0 0], .int .i64 2]) (by simp [results, Tryz.results59, go_sem, z0, z1]) rfl ⟨rfl, hbf⟩
    · have d4 : decide (1 < who) = false := decide_eq_false h2
      by_cases h3 : ratio < 1
      · have d1 : decide (ratio < 1) = true := decide_eq_true h3
        clear h h1 h2 h3
        go_enter Tryz.func59, Tryz.ntmps59
        go_wp2
        exact bodyPost_ret (v := .tuple #[.agg #[.int .i64 0, .slice none 0 0], .int .i64 2]) (by simp [results, Tryz.results59, go_sem, z0, z1]) rfl ⟨rfl, hbf⟩
      · have d1 : decide (ratio < 1) = false := decide_eq_false h3
        have d2 : decide (100 < ratio) = true := decide_eq_true (by omega)
        clear h h1 h2 h3
        go_enter Tryz.func59, Tryz.ntmps59
        go_wp2
        exact bodyPost_ret (v := .tuple #[.agg #[.int .i64 0, .slice none 0 0], .int .i64 2]) (by simp [results, Tryz.results59, go_sem, z0, z1]) rfl ⟨rfl, hbf⟩
end Go.Proofs.YtjageagnclmnjabGreatDoor.D
