/- PROVED: ends (pairs of numbers) in memory; what slices.Repeat answers of one of them. what cycles weigh by the edge, on plain numbers: the greatest there is, when some cycle is above a quotient, the least of all quotients that none is above, lowest terms. CONDITIONS: none beyond each theorem's own. -/
import Derived.Test.YtjageagnclmnjaaGreatDoorX37QRepeat
import Derived.Test.YtjageagnclmnjaaGreatDoorX34QCl
import Derived.Test.YtjageagnclmnjaaGreatDoorM43Tel
section
namespace Go.Proofs.YtjageagnclmnjaaGreatDoor.Q
set_option maxRecDepth 100000
open Go.RowKit
set_option linter.unusedVariables false

theorem run_copy_wide (P : Program) (w : World) (dT sT ty elem : TypeId) (g o dLen dCap : Nat) (a : Addr) (sLen sCap : Nat) (cur : Array Value) (t : TypeId) (cs : List Value) (s : Nat)
    (hu : P.underlying dT = some (.slice elem)) (hs : (P.info? elem).map (·.size) = some s)
    (hg : w.heap[g]? = some (.cells cur t (0, 0))) (hn : cs.length = Nat.min sLen dLen * s)
    (hsrc : ∀ j v, cs[j]? = some v → w.cell? (a.add j) = some v) (hfit : o + cs.length ≤ cur.size) (h1 : ∀ v ∈ cs, v.oneCell' = true) :
    (Builtin.copy_ #[dT, sT] ty #[.slice (some ⟨g, o, none⟩) dLen dCap, .slice (some a) sLen sCap]).run P w =
      .ok (goInt (Nat.min sLen dLen)) (w.setRow g (cur.toList.take o ++ cs ++ cur.toList.drop (o + cs.length)).toArray) := by
  have hl := run_loadCells_list (P := P) w a cs hsrc
  have hst := run_storeCells_at P g o t cs 0 cur w hg (by simpa using hfit) h1
  cases hq : P.info? elem with
  | none => simp [hq] at hs
  | some i =>
    have hi : i.size = s := by simpa [hq] using hs
    simp [Builtin.copy_, run_underlying hu, Builtin.lenOf, Builtin.firstCells, sizeOf, typeInfo, hq, hi, ← hn, hl, hst]

/-- n ends that may be written, in block O -/
structure Pr (w : World) (O n : Nat) (F G : Nat → Int) : Prop where
  c : ∀ v, v < n → w.cell? ⟨O, v * 2, none⟩ = some (.int .i64 (F v)) ∧ w.cell? ⟨O, v * 2 + 1, none⟩ = some (.int .i64 (G v))
  fz : ∀ v, v < n → w.frozen? ⟨O, v * 2, none⟩ = false ∧ w.frozen? ⟨O, v * 2 + 1, none⟩ = false
theorem Pr.kept {w w' : World} {O n : Nat} {F G : Nat → Int} (h : Pr w O n F G) (b : Below w.heap.size w w') : Pr w' O n F G := by
  refine ⟨fun v hv => ?_, fun v hv => ?_⟩
  · obtain ⟨h1, h2⟩ := h.c v hv
    exact ⟨(b.cell (p := ⟨O, v * 2, none⟩) (block_lt h1)).trans h1, (b.cell (p := ⟨O, v * 2 + 1, none⟩) (block_lt h2)).trans h2⟩
  · have := b.block O (show O < w.heap.size from block_lt (h.c v hv).1)
    obtain ⟨q1, q2⟩ := h.fz v hv
    simp only [World.frozen?] at q1 q2 ⊢
    rw [this]; exact ⟨q1, q2⟩
theorem Pr.alloc {w : World} {O n : Nat} {F G : Nat → Int} (h : Pr w O n F G) (o : Obj) : Pr (w.alloc o) O n F G := h.kept (balloc (Below.refl _ _) o)
theorem Pr.drewN {w : World} {O n : Nat} {F G : Nat → Int} (h : Pr w O n F G) (q : Nat) : Pr (w.drewN q) O n F G := ⟨h.c, h.fz⟩
theorem Pr.put {w : World} {O n : Nat} {F G F' G' : Nat → Int} (h : Pr w O n F G) {k : Nat} (hk : k < n) {x y : Int} (hx : F' k = x) (hy : G' k = y) (hF : ∀ j, j < n → j ≠ k → F' j = F j) (hG : ∀ j, j < n → j ≠ k → G' j = G j) :
    Pr ((w.setCell ⟨O, k * 2, none⟩ (.int .i64 x)).setCell ⟨O, k * 2 + 1, none⟩ (.int .i64 y)) O n F' G' := by
  refine ⟨fun j hj => ?_, fun j hj => ?_⟩
  · by_cases e : j = k
    · subst e; subst hx; subst hy
      obtain ⟨h1, h2⟩ := h.c j hk
      refine ⟨?_, ?_⟩
      · rw [World.cell?_setCell_other _ _ _ _ (fun q => by injection q with _ q _; omega)]
        exact World.cell?_setCell_same _ _ _ h1
      · exact World.cell?_setCell_same _ _ _ ((World.cell?_setCell_other _ _ _ _ (fun q => by injection q with _ q _; omega)).trans h2)
    · rw [hF j hj e, hG j hj e, World.cell?_setCell_other _ _ _ _ (fun q => by injection q with _ q _; omega), World.cell?_setCell_other _ _ _ _ (fun q => by injection q with _ q _; omega), World.cell?_setCell_other _ _ _ _ (fun q => by injection q with _ q _; omega), World.cell?_setCell_other _ _ _ _ (fun q => by injection q with _ q _; omega)]
      exact h.c j hj
  · rw [World.frozen?_setCell, World.frozen?_setCell, World.frozen?_setCell, World.frozen?_setCell]; exact h.fz j hj
theorem Pr.ext {w : World} {O n : Nat} {F G F' G' : Nat → Int} (h : Pr w O n F G) (e : ∀ j, j < n → F' j = F j ∧ G' j = G j) : Pr w O n F' G' := ⟨fun j hj => by rw [(e j hj).1, (e j hj).2]; exact h.c j hj, h.fz⟩

theorem Tryz.size60 : (Tryz.prog.info? 175).map (·.size) = some 2 := by kernel_rfl
theorem Tryz.info60 : (Tryz.prog.info? 175).map (fun i => (i.zero, i.size, i.bytes)) = some (some (.agg #[.int .i64 0, .int .i64 0]), 2, 16) := by kernel_rfl

/-- a row of ends that was made -/
theorem made_ends (n : Nat) (hn : n ≤ 300) (w : World) : (Instr.makeSlice 170 (.int .i64 (n : Int)) (.int .i64 (n : Int))).run Tryz.prog w = .ok (.slice (some ⟨w.heap.size, 0, none⟩) n n) (w.alloc (.cells (madeCells #[.int .i64 0, .int .i64 0] (n * 2)) 175)) := by
  obtain ⟨i, hi, hzz⟩ := Option.map_eq_some_iff.1 Tryz.info60
  simp only [Prod.mk.injEq] at hzz
  obtain ⟨hz, hs, hb⟩ := hzz
  have := run_make (P := Tryz.prog) w 170 175 i (.agg #[.int .i64 0, .int .i64 0]) Tryz.underlying170 hi hz .i64 .i64 n n (by omega) (Int.le_refl _) (by rw [hb]; omega) (by omega)
  rw [hs] at this
  simp only [Int.toNat_natCast] at this
  exact this
theorem Pr.new (w : World) (n : Nat) : Pr (w.alloc (.cells (madeCells #[.int .i64 0, .int .i64 0] (n * 2)) 175)) w.heap.size n (fun _ => 0) (fun _ => 0) := by
  refine ⟨fun v hv => ?_, fun v hv => ?_⟩
  · rw [World.cell?_alloc_at _ _ _ _ rfl, World.cell?_alloc_at _ _ _ _ rfl]
    have a1 : v * 2 < n * 2 := by omega
    have a2 : v * 2 + 1 < n * 2 := by omega
    have a3 : (v * 2 + 1) % 2 = 1 := by omega
    simp [madeCells, a1, a2, a3]
  · rw [World.frozen?_alloc_at _ _ _ _ rfl, World.frozen?_alloc_at _ _ _ _ rfl]; exact ⟨rfl, rfl⟩

/-- the cells of q ends alike -/
def alt (x y : Int) (q : Nat) : List Value := (List.range (q * 2)).map fun j => if j % 2 = 0 then .int .i64 x else .int .i64 y
theorem alt_len (x y : Int) (q : Nat) : (alt x y q).length = q * 2 := by simp [alt]
theorem alt_get (x y : Int) (q j : Nat) (h : j < q * 2) : (alt x y q)[j]? = some (if j % 2 = 0 then .int .i64 x else .int .i64 y) := by simp [alt, h]
theorem alt_one (x y : Int) (q : Nat) : ∀ v ∈ alt x y q, v.oneCell' = true := fun v hv => by
  unfold alt at hv
  obtain ⟨j, _, rfl⟩ := List.mem_map.1 hv
  split <;> rfl

/-- so many of n places hold x, y -/
structure Rp (w : World) (n : Nat) (x y : Int) (m : Nat) (cur : List Value) (wr : World) : Prop where
  blk : wr.heap[w.heap.size]? = some (.cells cur.toArray 175 (0, 0))
  len : cur.length = n * 2
  val : ∀ j, j < m * 2 → cur[j]? = some (if j % 2 = 0 then .int .i64 x else .int .i64 y)
  below : Below w.heap.size w wr
theorem Rp.step {w : World} {n : Nat} {x y : Int} {m q : Nat} {cur : List Value} {wr w2 : World} (h : Rp w n x y m cur wr) (hq : m + q ≤ n)
    (hb : w2.heap[w.heap.size]? = some (.cells (splice cur (m * 2) (alt x y q)).toArray 175 (0, 0))) (hB : Below w.heap.size w w2) : Rp w n x y (m + q) (splice cur (m * 2) (alt x y q)) w2 := by
  refine ⟨hb, by rw [length_splice _ _ _ (by rw [alt_len, h.len]; omega), h.len], fun j hj => ?_, hB⟩
  rw [splice_get _ _ _ (by rw [alt_len, h.len]; omega) j (by rw [alt_len]; omega)]
  by_cases e : j < m * 2
  · rw [if_pos e]; exact h.val j e
  · rw [if_neg e, alt_get _ _ _ _ (by omega), show (j - m * 2) % 2 = j % 2 by omega]
theorem Rp.cell {w : World} {n : Nat} {x y : Int} {m : Nat} {cur : List Value} {wr : World} (h : Rp w n x y m cur wr) (j : Nat) (hj : j < m * 2) : wr.cell? ⟨w.heap.size, j, none⟩ = some (if j % 2 = 0 then .int .i64 x else .int .i64 y) := by
  simp [World.cell?, h.blk]
  simpa using h.val j hj
theorem Rp.ends {w : World} {n : Nat} {x y : Int} {cur : List Value} {wr : World} (h : Rp w n x y n cur wr) : Pr wr w.heap.size n (fun _ => x) (fun _ => y) :=
  ⟨fun j hj => by
    have h1 := h.cell (j * 2) (by omega)
    have h2 := h.cell (j * 2 + 1) (by omega)
    rw [if_pos (by omega)] at h1
    rw [if_neg (by omega)] at h2
    exact ⟨h1, h2⟩, fun j _ => by simp [World.frozen?, h.blk]⟩
theorem Rp.copy {w : World} {n : Nat} {x y : Int} {m : Nat} {cur : List Value} {wr : World} (h : Rp w n x y m cur wr) (ad : Addr) (sLen sCap dLen dCap q : Nat) (hd : m + dLen = n) (hq : q = Nat.min sLen dLen)
    (hsrc : ∀ j, j < q * 2 → wr.cell? (ad.add j) = some (if j % 2 = 0 then .int .i64 x else .int .i64 y)) :
    ∃ w2 cur2, (Builtin.copy_ #[170, 170] 3 #[.slice (some ⟨w.heap.size, m * 2, none⟩) dLen dCap, .slice (some ad) sLen sCap]).run Tryz.prog wr = .ok (.int .i64 q) w2 ∧ Rp w n x y (m + q) cur2 w2 := by
  have hqd : q ≤ dLen := by rw [hq]; exact Nat.min_le_right _ _
  have hr := run_copy_wide Tryz.prog wr 170 170 3 175 w.heap.size (m * 2) dLen dCap ad sLen sCap cur.toArray 175 (alt x y q) 2 Tryz.underlying170 Tryz.size60 h.blk (by rw [alt_len, hq])
    (fun j v hj => by
      have hjq : j < q * 2 := by
        have := (List.getElem?_eq_some_iff.1 hj).1
        rw [alt_len] at this; exact this
      rw [alt_get _ _ _ _ hjq] at hj
      injection hj with hj; subst hj; exact hsrc j hjq)
    (by rw [alt_len, List.size_toArray, h.len]; omega) (alt_one x y q)
  rw [← hq] at hr
  refine ⟨_, _, hr, h.step (by omega) ?_ ?_⟩
  · rw [setRow_heap wr w.heap.size _ _ 175 _ h.blk]
    simp [splice]
  · exact below_setRow h.below (Nat.le_refl _) _
theorem Rp.drew {w : World} {n : Nat} {x y : Int} {m : Nat} {cur : List Value} {wr : World} (h : Rp w n x y m cur wr) : Rp w n x y m cur wr.drew := ⟨h.blk, h.len, h.val, h.below.drew⟩

set_option maxHeartbeats 1600000 in
theorem repeatE_any (b o c n : Nat) (x y : Int) (w : World) (hx : w.cell? ⟨b, o, none⟩ = some (.int .i64 x)) (hy : w.cell? ⟨b, o + 1, none⟩ = some (.int .i64 y)) (h2 : n ≤ 300) :
    Calls Tryz.prog 134 #[.slice (some ⟨b, o, none⟩) 1 c, .int .i64 n] w fun e w' => e = .returned (.slice (some ⟨w.heap.size, 0, none⟩) n n) ∧ Pr w' w.heap.size n (fun _ => x) (fun _ => y) ∧ w.heap.size < w'.heap.size ∧ Below w.heap.size w w' := by
  have hmk := made_ends n h2
  have hst : Rp w n x y 0 (madeCells #[.int .i64 0, .int .i64 0] (n * 2)).toList (w.alloc (.cells (madeCells #[.int .i64 0, .int .i64 0] (n * 2)) 175)) :=
    ⟨by show (w.heap.push _)[w.heap.size]? = _; simp, by simp [madeCells], fun j h => by omega, balloc (Below.refl _ _) _⟩
  have hxa : (w.alloc (.cells (madeCells #[.int .i64 0, .int .i64 0] (n * 2)) 175)).cell? ⟨b, o, none⟩ = some (.int .i64 x) := (hst.below.cell (p := ⟨b, o, none⟩) (block_lt hx)).trans hx
  have hya : (w.alloc (.cells (madeCells #[.int .i64 0, .int .i64 0] (n * 2)) 175)).cell? ⟨b, o + 1, none⟩ = some (.int .i64 y) := (hst.below.cell (p := ⟨b, o + 1, none⟩) (block_lt hy)).trans hy
  obtain ⟨q0, hq0⟩ : ∃ q, q = Nat.min 1 n := ⟨_, rfl⟩
  have hq2 : q0 ≤ 1 := by rw [hq0]; exact Nat.min_le_left _ _
  have hq3 : q0 ≤ n := by rw [hq0]; exact Nat.min_le_right _ _
  have hq1 : 1 ≤ q0 ∨ q0 = n := by
    by_cases e : 1 ≤ n
    · left; rw [hq0]; exact Nat.le_of_eq (Nat.min_eq_left e).symm
    · right; omega
  obtain ⟨w2, cur2, hcp, hR⟩ := hst.copy ⟨b, o, none⟩ 1 c n n q0 (by omega) hq0 (fun j hj => by
    rcases (show j = 0 ∨ j = 1 by omega) with rfl | rfl
    · exact hxa
    · exact hya)
  rw [Nat.zero_add] at hR
  rw [Nat.zero_mul] at hcp
  have HQ0 : Hid (q0 = Nat.min 1 n) := hq0
  clear hq0
  clear hst hxa hya
  go_enter Tryz.func134, Tryz.ntmps134
  go_wp2_with (go_at_call 123; refine (mul1 n h2 _).mono ?_; rintro e w ⟨rfl, rfl⟩)
  clear hcp hx hy hmk hq2
  go_loopw [8] (fun i wr => ∃ (m : Nat) (cur : List Value), (1 ≤ m ∨ m = n) ∧ m ≤ n ∧ i = .int .i64 m ∧ Rp w n x y m cur wr) (fun i _ => n - (intOf i).toNat)
  case atStart => exact ⟨q0, cur2, hq1, hq3, rfl, hR⟩
  case round =>
    obtain ⟨m, cur, hm1, hmn, rfl, hR⟩ := hrel
    by_cases hlt : m < n
    · obtain ⟨d, hd⟩ : ∃ d, m + d = n := ⟨n - m, by omega⟩
      obtain ⟨q, hq⟩ : ∃ q, q = Nat.min m d := ⟨_, rfl⟩
      have hq1 : 1 ≤ q ∧ q ≤ d := by
        rw [hq]
        rcases Nat.le_total m d with e | e
        · rw [show Nat.min m d = m from Nat.min_eq_left e]; omega
        · rw [show Nat.min m d = d from Nat.min_eq_right e]; omega
      have hqm : q ≤ m := by rw [hq]; exact Nat.min_le_left _ _
      obtain ⟨w3, cur3, hcp, hR3⟩ := hR.drew.copy ⟨w.heap.size, 0, none⟩ m n (n - m) (n - m) q (by omega) (by rw [hq, show n - m = d by omega]) (fun j hj => by
        rw [Addr.add_lit, Nat.zero_add]
        exact hR.drew.cell j (by omega))
      have hm3 : (m : Int) < (n : Int) := by omega
      have HQ : Hid (q = Nat.min m d) := hq
      clear hq hR
      go_wp2
      go_region
      all_goals
        go_wp2
        go_roundw
        case rel => exact ⟨m + q, cur3, by omega, by omega, by go_num, hR3⟩
        case measure => simp [intOf]; omega
    · obtain rfl : m = n := by omega
      go_wp2
      go_ret
      exact ⟨rfl, hR.ends, lt_of_block hR.blk, hR.below⟩

end Go.Proofs.YtjageagnclmnjaaGreatDoor.Q

end

section
namespace Go.Proofs.YtjageagnclmnjaaGreatDoor.Q
set_option maxRecDepth 100000
set_option linter.unusedVariables false

/-- a way round -/
def Cyc (es l : List Eg) : Prop := l ≠ [] ∧ ∃ u, Path es u l u
theorem Cyc.len {es l : List Eg} (h : Cyc es l) : 0 < l.length := List.length_pos_iff.2 h.1
/-- p through q is the most that a way round weighs by the edge -/
structure Lam (es : List Eg) (p q : Int) : Prop where
  q1 : 0 < q
  got : ∃ l, Cyc es l ∧ q * wt l = p * (l.length : Int)
  most : ∀ l, Cyc es l → q * wt l ≤ p * (l.length : Int)

/-- numbers that are bounded have a greatest one -/
theorem int_max (Q : Int → Prop) (B : Int) (hB : ∀ x, Q x → x ≤ B) (x0 : Int) (h : Q x0) : ∃ m, Q m ∧ ∀ x, Q x → x ≤ m := by
  have go : ∀ (n : Nat) (x0 : Int), Q x0 → (B - x0).toNat ≤ n → ∃ m, Q m ∧ ∀ x, Q x → x ≤ m := by
    intro n
    induction n with
    | zero =>
      intro x0 h hn
      exact ⟨x0, h, fun x hx => by have := hB x hx; have := hB x0 h; omega⟩
    | succ n ih =>
      intro x0 h hn
      by_cases hx : ∃ x, Q x ∧ x0 < x
      · obtain ⟨x, h1, h2⟩ := hx
        exact ih x h1 (by have := hB x h1; omega)
      · exact ⟨x0, h, fun x hx2 => Classical.byContradiction fun q => hx ⟨x, hx2, by omega⟩⟩
  exact go _ x0 h (Nat.le_refl _)
theorem wt_le {es : List Eg} {B : Int} (hw : ∀ e ∈ es, e.x ≤ B) {u v : Nat} {l : List Eg} (h : Path es u l v) : wt l ≤ B * (l.length : Int) := by
  induction l generalizing u with
  | nil => show (0 : Int) ≤ B * ((0 : Nat) : Int); simp
  | cons e l ih =>
    obtain ⟨h1, _, h3⟩ := h
    have := ih h3
    have := hw e h1
    simp only [wt, List.length_cons, Int.natCast_add, Int.mul_add, Int.natCast_one, Int.mul_one]
    omega
theorem wt_ge {es : List Eg} {B : Int} (hw : ∀ e ∈ es, B ≤ e.x) {u v : Nat} {l : List Eg} (h : Path es u l v) : B * (l.length : Int) ≤ wt l := by
  induction l generalizing u with
  | nil => show B * ((0 : Nat) : Int) ≤ 0; simp
  | cons e l ih =>
    obtain ⟨h1, _, h3⟩ := h
    have := ih h3
    have := hw e h1
    simp only [wt, List.length_cons, Int.natCast_add, Int.mul_add, Int.natCast_one, Int.mul_one]
    omega
theorem mul_le_pos {a b c : Int} (h : a ≤ b) (hc : 0 ≤ c) : a * c ≤ b * c := Int.mul_le_mul_of_nonneg_right h hc
theorem le_of_mul {a b c : Int} (hc : 0 < c) (h : a * c ≤ b * c) : a ≤ b := Int.le_of_mul_le_mul_right h hc
theorem lt_of_mul {a b c : Int} (hc : 0 < c) (h : a * c < b * c) : a < b := Int.lt_of_mul_lt_mul_right h (Int.le_of_lt hc)
theorem mul_lt_pos {a b c : Int} (h : a < b) (hc : 0 < c) : a * c < b * c := Int.mul_lt_mul_of_pos_right h hc

/-- of ways round of so few edges one weighs most by the edge -/
theorem best_upto {es : List Eg} {B : Int} (hw : ∀ e ∈ es, e.x ≤ B) : ∀ k : Nat, (∃ l, Cyc es l ∧ l.length ≤ k) → ∃ (p : Int) (q : Nat), 1 ≤ q ∧ q ≤ k ∧ (∃ l, Cyc es l ∧ l.length = q ∧ wt l = p) ∧ ∀ l, Cyc es l → l.length ≤ k → (q : Int) * wt l ≤ p * (l.length : Int) := by
  intro k
  induction k with
  | zero => rintro ⟨l, h1, h2⟩; have := h1.len; omega
  | succ k ih =>
    rintro ⟨l0, h1, h2⟩
    have top : (∃ l, Cyc es l ∧ l.length = k + 1) → ∃ c, (∃ l, Cyc es l ∧ l.length = k + 1 ∧ wt l = c) ∧ ∀ l, Cyc es l → l.length = k + 1 → wt l ≤ c := fun ⟨l, hl, hk⟩ => by
      obtain ⟨c, hc, hm⟩ := int_max (fun x => ∃ l, Cyc es l ∧ l.length = k + 1 ∧ wt l = x) (B * ((k + 1 : Nat) : Int)) (fun x ⟨l, h1, h2, h3⟩ => by
        obtain ⟨u, hu⟩ := h1.2
        have := wt_le hw hu
        rw [h2, h3] at this
        exact this) (wt l) ⟨l, hl, hk, rfl⟩
      exact ⟨c, hc, fun l h1 h2 => hm _ ⟨l, h1, h2, rfl⟩⟩
    by_cases hlow : ∃ l, Cyc es l ∧ l.length ≤ k
    · obtain ⟨p, q, q1, qk, hg, hm⟩ := ih hlow
      by_cases htop : ∃ l, Cyc es l ∧ l.length = k + 1
      · obtain ⟨c, hc, hcm⟩ := top htop
        by_cases hcmp : c * (q : Int) ≤ p * ((k + 1 : Nat) : Int)
        · refine ⟨p, q, q1, by omega, hg, fun l hl hlk => ?_⟩
          by_cases hk : l.length ≤ k
          · exact hm l hl hk
          · have e : l.length = k + 1 := by omega
            rw [e]
            have := mul_le_pos (hcm l hl e) (show (0 : Int) ≤ q by omega)
            rw [Int.mul_comm (q : Int)]
            omega
        · refine ⟨c, k + 1, by omega, by omega, hc, fun l hl hlk => ?_⟩
          by_cases hk : l.length ≤ k
          · have h3 := hm l hl hk
            refine le_of_mul (c := (q : Int)) (by omega) ?_
            have h4 := mul_le_pos h3 (show (0 : Int) ≤ ((k + 1 : Nat) : Int) by omega)
            have h5 := mul_le_pos (show p * ((k + 1 : Nat) : Int) ≤ c * (q : Int) by omega) (show (0 : Int) ≤ (l.length : Int) by omega)
            calc ((k + 1 : Nat) : Int) * wt l * (q : Int) = (q : Int) * wt l * ((k + 1 : Nat) : Int) := by ac_rfl
              _ ≤ p * (l.length : Int) * ((k + 1 : Nat) : Int) := h4
              _ = p * ((k + 1 : Nat) : Int) * (l.length : Int) := by rw [Int.mul_assoc, Int.mul_comm (l.length : Int), ← Int.mul_assoc]
              _ ≤ c * (q : Int) * (l.length : Int) := h5
              _ = c * (l.length : Int) * (q : Int) := by rw [Int.mul_assoc, Int.mul_comm (q : Int), ← Int.mul_assoc]
          · have e : l.length = k + 1 := by omega
            rw [e]
            have := mul_le_pos (hcm l hl e) (show (0 : Int) ≤ ((k + 1 : Nat) : Int) by omega)
            rw [Int.mul_comm]
            exact this
      · refine ⟨p, q, q1, by omega, hg, fun l hl hlk => hm l hl ?_⟩
        rcases Nat.lt_or_ge k l.length with h | h
        · exact absurd ⟨l, hl, by omega⟩ htop
        · exact h
    · have e0 : l0.length = k + 1 := by
        rcases Nat.lt_or_ge k l0.length with h | h
        · omega
        · exact absurd ⟨l0, h1, h⟩ hlow
      obtain ⟨c, hc, hcm⟩ := top ⟨l0, h1, e0⟩
      refine ⟨c, k + 1, by omega, by omega, hc, fun l hl hlk => ?_⟩
      have e : l.length = k + 1 := by
        rcases Nat.lt_or_ge k l.length with h | h
        · omega
        · exact absurd ⟨l, hl, h⟩ hlow
      rw [e]
      have := mul_le_pos (hcm l hl e) (show (0 : Int) ≤ ((k + 1 : Nat) : Int) by omega)
      rw [Int.mul_comm]
      exact this

/-- a long way round falls into two shorter ones -/
theorem part {n : Nat} {es : List Eg} (hn : Inn n es) {l : List Eg} (h : Cyc es l) (hl : n < l.length) : ∃ c r, Cyc es c ∧ Cyc es r ∧ c.length < l.length ∧ r.length < l.length ∧ c.length + r.length = l.length ∧ wt l = wt c + wt r := by
  obtain ⟨h0, u, hu⟩ := h
  cases l with
  | nil => exact absurd rfl h0
  | cons e l =>
    have hin := path_in hn hu
    obtain ⟨h1, h2, h3⟩ := hu
    have hd : ¬ (e.t :: l.map (·.t)).Nodup := fun q => by
      have := nodup_len n _ q hin
      simp at this hl
      omega
    obtain ⟨a, c, b, m, rfl, hc, g1, g2, g3⟩ := turns h3 hd
    have hc1 : 0 < c.length := List.length_pos_iff.2 hc
    refine ⟨c, e :: (a ++ b), ⟨hc, m, g2⟩, ⟨by simp, u, h1, h2, path_append.2 ⟨m, g1, g3⟩⟩, ?_, ?_, ?_, ?_⟩
    · simp; omega
    · simp; omega
    · simp; omega
    · simp only [wt, wt_append]; omega
theorem Cyc.short {n : Nat} {es : List Eg} (hn : Inn n es) : ∀ (k : Nat) (l : List Eg), l.length ≤ k → Cyc es l → ∃ l, Cyc es l ∧ l.length ≤ n := by
  intro k
  induction k with
  | zero => intro l hl h; have := h.len; omega
  | succ k ih =>
    intro l hl h
    by_cases hs : l.length ≤ n
    · exact ⟨l, h, hs⟩
    · obtain ⟨c, r, h1, _, h3, _⟩ := part hn h (by omega)
      exact ih c (by omega) h1
theorem all_of_short {n : Nat} {es : List Eg} (hn : Inn n es) {p q : Int} (h : ∀ l, Cyc es l → l.length ≤ n → q * wt l ≤ p * (l.length : Int)) : ∀ (k : Nat) (l : List Eg), l.length ≤ k → Cyc es l → q * wt l ≤ p * (l.length : Int) := by
  intro k
  induction k with
  | zero => intro l hl hc; have := hc.len; omega
  | succ k ih =>
    intro l hl hc
    by_cases hs : l.length ≤ n
    · exact h l hc hs
    · obtain ⟨c, r, h1, h2, h3, h4, h5, h6⟩ := part hn hc (by omega)
      have a := ih c (by omega) h1
      have b := ih r (by omega) h2
      rw [h6, ← h5, Int.mul_add, Int.natCast_add, Int.mul_add]
      omega
/-- THE GREATEST THERE IS: where there is a way round -/
theorem lam_some {n : Nat} {es : List Eg} (hn : Inn n es) {B : Int} (hw : ∀ e ∈ es, e.x ≤ B) (h : ∃ l, Cyc es l) : ∃ (p : Int) (q : Nat), 1 ≤ q ∧ q ≤ n ∧ (∃ l, Cyc es l ∧ l.length = q ∧ wt l = p) ∧ Lam es p q := by
  obtain ⟨l, hl⟩ := h
  obtain ⟨p, q, q1, qn, hg, hm⟩ := best_upto hw n (Cyc.short hn _ l (Nat.le_refl _) hl)
  refine ⟨p, q, q1, qn, hg, by omega, ?_, fun l hl => all_of_short hn hm _ l (Nat.le_refl _) hl⟩
  obtain ⟨l, h1, h2, h3⟩ := hg
  exact ⟨l, h1, by rw [h2, h3, Int.mul_comm]⟩

/-- some way round weighs more by the edge than a through b -/
def Abv (es : List Eg) (a b : Int) : Prop := ∃ l, Cyc es l ∧ a * (l.length : Int) < b * wt l
theorem abv_iff {es : List Eg} {p q : Int} (h : Lam es p q) {a b : Int} (hb : 0 < b) : Abv es a b ↔ a * q < b * p := by
  constructor
  · rintro ⟨l, hl, hlt⟩
    have hlen : (0 : Int) < (l.length : Int) := by have := hl.len; omega
    refine lt_of_mul hlen ?_
    have h1 := mul_lt_pos hlt h.q1
    have h2 := mul_le_pos (h.most l hl) (Int.le_of_lt hb)
    calc a * q * (l.length : Int) = a * (l.length : Int) * q := by rw [Int.mul_assoc, Int.mul_comm q, ← Int.mul_assoc]
      _ < b * wt l * q := h1
      _ = q * wt l * b := by rw [Int.mul_comm (b * wt l), Int.mul_comm b, Int.mul_assoc]
      _ ≤ p * (l.length : Int) * b := h2
      _ = b * p * (l.length : Int) := by rw [Int.mul_comm (p * (l.length : Int)), Int.mul_assoc]
  · intro hlt
    obtain ⟨l, hl, he⟩ := h.got
    have hlen : (0 : Int) < (l.length : Int) := by have := hl.len; omega
    refine ⟨l, hl, lt_of_mul h.q1 ?_⟩
    have h1 := mul_lt_pos hlt hlen
    calc a * (l.length : Int) * q = a * q * (l.length : Int) := by rw [Int.mul_assoc, Int.mul_comm (l.length : Int), ← Int.mul_assoc]
      _ < b * p * (l.length : Int) := h1
      _ = p * (l.length : Int) * b := by rw [Int.mul_comm b, Int.mul_assoc, Int.mul_comm b, ← Int.mul_assoc]
      _ = q * wt l * b := by rw [he]
      _ = b * wt l * q := by rw [Int.mul_comm (q * wt l), ← Int.mul_assoc, Int.mul_comm (b * q), ← Int.mul_assoc, Int.mul_comm (wt l)]
/-- each edge b times as heavy, less a -/
def sc (es : List Eg) (a b : Int) : List Eg := es.map fun e => ⟨e.f, e.t, e.x * b - a⟩
theorem wt_sc (l : List Eg) (a b : Int) : wt (sc l a b) = b * wt l - a * (l.length : Int) := by
  unfold sc
  induction l with
  | nil => show (0 : Int) = b * 0 - a * ((0 : Nat) : Int); simp
  | cons e l ih =>
    simp only [List.map_cons, wt, ih, List.length_cons, Int.natCast_add, Int.mul_add, Int.natCast_one, Int.mul_one]
    rw [Int.mul_comm e.x b]
    omega
theorem sc_push {es : List Eg} (a b : Int) {u v : Nat} {l : List Eg} (h : Path es u l v) : Path (sc es a b) u (sc l a b) v := by
  induction l generalizing u with
  | nil => exact h
  | cons e l ih => obtain ⟨h1, h2, h3⟩ := h; exact ⟨List.mem_map.2 ⟨e, h1, rfl⟩, h2, ih h3⟩
theorem sc_pull {es : List Eg} (a b : Int) {u v : Nat} {l : List Eg} (h : Path (sc es a b) u l v) : ∃ l', Path es u l' v ∧ l = sc l' a b := by
  induction l generalizing u with
  | nil => exact ⟨[], h, rfl⟩
  | cons e l ih =>
    obtain ⟨h1, h2, h3⟩ := h
    obtain ⟨d, hd, rfl⟩ := List.mem_map.1 h1
    obtain ⟨l', q1, rfl⟩ := ih h3
    exact ⟨d :: l', ⟨hd, h2, q1⟩, rfl⟩
theorem abv_sc (es : List Eg) (a b : Int) : Abv es a b ↔ ¬ noPos (sc es a b) := by
  constructor
  · rintro ⟨l, ⟨_, u, hu⟩, hlt⟩ q
    have := q u _ (sc_push a b hu)
    rw [wt_sc] at this
    omega
  · intro h
    apply Classical.byContradiction
    intro q
    refine h fun u l hl => Classical.byContradiction fun hw => q ?_
    obtain ⟨l', h1, rfl⟩ := sc_pull a b hl
    rw [wt_sc] at hw
    refine ⟨l', ⟨fun e => ?_, u, h1⟩, by omega⟩
    subst e
    simp [wt] at hw
theorem sc_inn {n : Nat} {es : List Eg} (h : Inn n es) (a b : Int) : Inn n (sc es a b) := fun e he => by
  obtain ⟨d, hd, rfl⟩ := List.mem_map.1 he
  exact h d hd
/-- below the least weight: is there a way round at all? -/
theorem abv_least {es : List Eg} (hw : Wgt es) : Abv es (-1048577) 1 ↔ ∃ l, Cyc es l := by
  constructor
  · rintro ⟨l, hl, _⟩; exact ⟨l, hl⟩
  · rintro ⟨l, hl⟩
    obtain ⟨u, hu⟩ := hl.2
    have := wt_ge (fun e he => (hw e he).1) hu
    have := hl.len
    exact ⟨l, hl, by omega⟩

/-- what is the least of quotients behind b of them: N through D, not below p through q -/
structure Lst (p : Int) (q : Nat) (b : Nat) (N D : Int) : Prop where
  none : b = 0 → D = 0
  pos : 1 ≤ b → 1 ≤ D ∧ D ≤ b
  ge : p * D ≤ N * (q : Int)
  eq : q ≤ b → N * (q : Int) = p * D
theorem Lst.take {p : Int} {q : Nat} {b : Nat} {N D hi : Int} (h : Lst p q b N D) (hq : 1 ≤ q) (h1 : (hi - 1) * (q : Int) < ((b : Int) + 1) * p) (h2 : ((b : Int) + 1) * p ≤ hi * (q : Int)) (ht : D = 0 ∨ hi * D < N * ((b : Int) + 1)) : Lst p q (b + 1) hi ((b : Int) + 1) := by
  refine ⟨fun h => by omega, fun _ => by omega, by rw [Int.mul_comm]; exact h2, fun hqb => ?_⟩
  have hq0 : (0 : Int) < (q : Int) := by omega
  rcases Nat.lt_or_ge b q with hbq | hbq
  · have e : ((b : Int) + 1) = (q : Int) := by omega
    rw [e] at h1 h2 ⊢
    rw [Int.mul_comm (q : Int) p] at h1 h2
    have := lt_of_mul hq0 h1
    have := le_of_mul hq0 h2
    have e2 : hi = p := by omega
    rw [e2]
  · have hD := h.pos (by omega)
    have hE := h.eq hbq
    rcases ht with ht | ht
    · omega
    · exfalso
      have a1 := mul_lt_pos ht hq0
      have a2 := mul_le_pos h2 (show (0 : Int) ≤ D by omega)
      have e1 : N * ((b : Int) + 1) * (q : Int) = ((b : Int) + 1) * p * D := by
        rw [Int.mul_assoc, Int.mul_comm ((b : Int) + 1) (q : Int), ← Int.mul_assoc, hE, Int.mul_comm (p * D), Int.mul_assoc]
      have e2 : hi * D * (q : Int) = hi * (q : Int) * D := by rw [Int.mul_assoc, Int.mul_comm D, ← Int.mul_assoc]
      omega
theorem Lst.keep {p : Int} {q : Nat} {b : Nat} {N D hi : Int} (h : Lst p q b N D) (hq : 1 ≤ q) (h1 : (hi - 1) * (q : Int) < ((b : Int) + 1) * p) (h2 : ((b : Int) + 1) * p ≤ hi * (q : Int)) (hD : D ≠ 0) (ht : ¬ hi * D < N * ((b : Int) + 1)) : Lst p q (b + 1) N D := by
  have hb : 1 ≤ b := Nat.pos_of_ne_zero fun e => hD (h.none e)
  refine ⟨fun h => by omega, fun _ => by have := h.pos hb; omega, h.ge, fun hqb => ?_⟩
  rcases Nat.lt_or_ge b q with hbq | hbq
  · have hq0 : (0 : Int) < (q : Int) := by omega
    have e : ((b : Int) + 1) = (q : Int) := by omega
    rw [e] at h1 h2 ht
    rw [Int.mul_comm (q : Int) p] at h1 h2
    have := lt_of_mul hq0 h1
    have := le_of_mul hq0 h2
    have e2 : hi = p := by omega
    rw [e2] at ht
    have := h.ge
    omega
  · exact h.eq hbq

/-- lowest terms -/
def Low (P Q : Int) : Prop := 0 < Q ∧ Int.gcd P Q = 1
theorem low_of (a b : Int) (hb : 0 < b) : Low (a.tdiv (Int.gcd a b : Int)) (b.tdiv (Int.gcd a b : Int)) ∧ a.tdiv (Int.gcd a b : Int) * b = a * b.tdiv (Int.gcd a b : Int) := by
  have g0 : 0 < Int.gcd a b := Int.gcd_pos_of_ne_zero_right a (by omega)
  have ga : ((Int.gcd a b : Nat) : Int) ∣ a := Int.gcd_dvd_left a b
  have gb : ((Int.gcd a b : Nat) : Int) ∣ b := Int.gcd_dvd_right a b
  obtain ⟨x, hx⟩ := ga
  obtain ⟨y, hy⟩ := gb
  obtain ⟨g, hg⟩ : ∃ g, Int.gcd a b = g := ⟨_, rfl⟩
  rw [hg] at hx hy g0 ⊢
  have gi : ((g : Nat) : Int) ≠ 0 := by omega
  have ex : a.tdiv (g : Int) = x := by rw [hx]; exact Int.mul_tdiv_cancel_left x gi
  have ey : b.tdiv (g : Int) = y := by rw [hy]; exact Int.mul_tdiv_cancel_left y gi
  rw [ex, ey]
  refine ⟨⟨?_, ?_⟩, ?_⟩
  · have : (0 : Int) < (g : Int) * y := by rw [← hy]; exact hb
    exact lt_of_mul (c := (g : Int)) (by omega) (by rw [Int.zero_mul, Int.mul_comm]; exact this)
  · have : g * Int.gcd x y = g := by
      have h := Int.gcd_mul_left (g : Int) x y
      rw [← hx, ← hy, hg] at h
      simpa using h.symm
    exact Nat.eq_of_mul_eq_mul_left g0 (by rw [this, Nat.mul_one])
  · rw [hx, hy, ← Int.mul_assoc, Int.mul_comm x (g : Int)]

end Go.Proofs.YtjageagnclmnjaaGreatDoor.Q

end
