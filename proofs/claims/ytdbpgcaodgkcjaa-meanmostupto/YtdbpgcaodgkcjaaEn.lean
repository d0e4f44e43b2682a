/- PROVED: ends (pairs of numbers) in memory; what slices.Repeat answers of one of them. CONDITIONS: none beyond each theorem's own. -/
import Derived.Test.YtdbpgcaodgkcjaaRepeat
namespace Go.Proofs.Ytdbpgcaodgkcjaa
open Go.RowKit
set_option linter.unusedVariables false

theorem run_copy_wide (P : Program) (w : World) (dT sT ty elem : TypeId) (g o dLen dCap : Nat) (a : Addr) (sLen sCap : Nat) (cur : Array Value) (t : TypeId) (cs : List Value) (s : Nat)
    (hu : P.underlying dT = some (.slice elem)) (hs : (P.info? elem).map (·.size) = some s)
    (hg : w.heap[g]? = some (.cells cur t (0, 0))) (hn : cs.length = Nat.min sLen dLen * s)
    (hsrc : ∀ j v, cs[j]? = some v → w.cell? (a.add j) = some v) (hfit : o + cs.length ≤ cur.size) (h1 : ∀ v ∈ cs, v.oneCell' = true) :
    (Builtin.copy_ #[dT, sT] ty #[.slice (some ⟨g, o, none⟩) dLen dCap, .slice (some a) sLen sCap]).run P w =
      .ok (goInt (Nat.min sLen dLen)) (w.setRow g (cur.toList.take o ++ cs ++ cur.toList.drop (o + cs.length)).toArray) := by
  have hl := run_loadCells_list (P := P) w a cs hsrc
  have hst := run_storeCells_at P g o t cs 0 cur w hg (by simpa using hfit) h1
  cases hq : P.info? elem with
  | none => simp [hq] at hs
  | some i =>
    have hi : i.size = s := by simpa [hq] using hs
    simp [Builtin.copy_, run_underlying hu, Builtin.lenOf, Builtin.firstCells, sizeOf, typeInfo, hq, hi, ← hn, hl, hst]

/-- n ends that may be written, in block O -/
structure Pr (w : World) (O n : Nat) (F G : Nat → Int) : Prop where
  c : ∀ v, v < n → w.cell? ⟨O, v * 2, none⟩ = some (.int .i64 (F v)) ∧ w.cell? ⟨O, v * 2 + 1, none⟩ = some (.int .i64 (G v))
  fz : ∀ v, v < n → w.frozen? ⟨O, v * 2, none⟩ = false ∧ w.frozen? ⟨O, v * 2 + 1, none⟩ = false
theorem Pr.kept {w w' : World} {O n : Nat} {F G : Nat → Int} (h : Pr w O n F G) (b : Below w.heap.size w w') : Pr w' O n F G := by
  refine ⟨fun v hv => ?_, fun v hv => ?_⟩
  · obtain ⟨h1, h2⟩ := h.c v hv
    exact ⟨(b.cell (p := ⟨O, v * 2, none⟩) (block_lt h1)).trans h1, (b.cell (p := ⟨O, v * 2 + 1, none⟩) (block_lt h2)).trans h2⟩
  · have := b.block O (show O < w.heap.size from block_lt (h.c v hv).1)
    obtain ⟨q1, q2⟩ := h.fz v hv
    simp only [World.frozen?] at q1 q2 ⊢
    rw [this]; exact ⟨q1, q2⟩
theorem Pr.alloc {w : World} {O n : Nat} {F G : Nat → Int} (h : Pr w O n F G) (o : Obj) : Pr (w.alloc o) O n F G := h.kept (balloc (Below.refl _ _) o)
theorem Pr.drewN {w : World} {O n : Nat} {F G : Nat → Int} (h : Pr w O n F G) (q : Nat) : Pr (w.drewN q) O n F G := ⟨h.c, h.fz⟩
theorem Pr.far {w : World} {O n : Nat} {F G : Nat → Int} (h : Pr w O n F G) {p : Addr} (hp : p.block ≠ O) (x : Value) : Pr (w.setCell p x) O n F G :=
  ⟨fun v hv => by
    rw [World.cell?_setCell_other _ _ _ _ (fun q => hp (by rw [q])), World.cell?_setCell_other _ _ _ _ (fun q => hp (by rw [q]))]; exact h.c v hv, fun v hv => by
    rw [World.frozen?_setCell, World.frozen?_setCell]; exact h.fz v hv⟩
theorem Pr.put {w : World} {O n : Nat} {F G F' G' : Nat → Int} (h : Pr w O n F G) {k : Nat} (hk : k < n) {x y : Int} (hx : F' k = x) (hy : G' k = y) (hF : ∀ j, j < n → j ≠ k → F' j = F j) (hG : ∀ j, j < n → j ≠ k → G' j = G j) :
    Pr ((w.setCell ⟨O, k * 2, none⟩ (.int .i64 x)).setCell ⟨O, k * 2 + 1, none⟩ (.int .i64 y)) O n F' G' := by
  refine ⟨fun j hj => ?_, fun j hj => ?_⟩
  · by_cases e : j = k
    · subst e; subst hx; subst hy
      obtain ⟨h1, h2⟩ := h.c j hk
      refine ⟨?_, ?_⟩
      · rw [World.cell?_setCell_other _ _ _ _ (fun q => by injection q with _ q _; omega)]
        exact World.cell?_setCell_same _ _ _ h1
      · exact World.cell?_setCell_same _ _ _ ((World.cell?_setCell_other _ _ _ _ (fun q => by injection q with _ q _; omega)).trans h2)
    · rw [hF j hj e, hG j hj e, World.cell?_setCell_other _ _ _ _ (fun q => by injection q with _ q _; omega), World.cell?_setCell_other _ _ _ _ (fun q => by injection q with _ q _; omega), World.cell?_setCell_other _ _ _ _ (fun q => by injection q with _ q _; omega), World.cell?_setCell_other _ _ _ _ (fun q => by injection q with _ q _; omega)]
      exact h.c j hj
  · rw [World.frozen?_setCell, World.frozen?_setCell, World.frozen?_setCell, World.frozen?_setCell]; exact h.fz j hj
theorem Pr.ext {w : World} {O n : Nat} {F G F' G' : Nat → Int} (h : Pr w O n F G) (e : ∀ j, j < n → F' j = F j ∧ G' j = G j) : Pr w O n F' G' := ⟨fun j hj => by rw [(e j hj).1, (e j hj).2]; exact h.c j hj, h.fz⟩

theorem Try.size60 : (Try.prog.info? 60).map (·.size) = some 2 := by kernel_rfl
theorem Try.info60 : (Try.prog.info? 60).map (fun i => (i.zero, i.size, i.bytes)) = some (some (.agg #[.int .i64 0, .int .i64 0]), 2, 16) := by kernel_rfl

/-- a row of ends that was made -/
theorem made_ends (n : Nat) (hn : n ≤ 300) (w : World) : (Instr.makeSlice 55 (.int .i64 (n : Int)) (.int .i64 (n : Int))).run Try.prog w = .ok (.slice (some ⟨w.heap.size, 0, none⟩) n n) (w.alloc (.cells (madeCells #[.int .i64 0, .int .i64 0] (n * 2)) 60)) := by
  obtain ⟨i, hi, hzz⟩ := Option.map_eq_some_iff.1 Try.info60
  simp only [Prod.mk.injEq] at hzz
  obtain ⟨hz, hs, hb⟩ := hzz
  have := run_make (P := Try.prog) w 55 60 i (.agg #[.int .i64 0, .int .i64 0]) Try.underlying55 hi hz .i64 .i64 n n (by omega) (Int.le_refl _) (by rw [hb]; omega) (by omega)
  rw [hs] at this
  simp only [Int.toNat_natCast] at this
  exact this
theorem Pr.new (w : World) (n : Nat) : Pr (w.alloc (.cells (madeCells #[.int .i64 0, .int .i64 0] (n * 2)) 60)) w.heap.size n (fun _ => 0) (fun _ => 0) := by
  refine ⟨fun v hv => ?_, fun v hv => ?_⟩
  · rw [World.cell?_alloc_at _ _ _ _ rfl, World.cell?_alloc_at _ _ _ _ rfl]
    have a1 : v * 2 < n * 2 := by omega
    have a2 : v * 2 + 1 < n * 2 := by omega
    have a3 : (v * 2 + 1) % 2 = 1 := by omega
    simp [madeCells, a1, a2, a3]
  · rw [World.frozen?_alloc_at _ _ _ _ rfl, World.frozen?_alloc_at _ _ _ _ rfl]; exact ⟨rfl, rfl⟩

/-- the cells of q ends alike -/
def alt (x y : Int) (q : Nat) : List Value := (List.range (q * 2)).map fun j => if j % 2 = 0 then .int .i64 x else .int .i64 y
theorem alt_len (x y : Int) (q : Nat) : (alt x y q).length = q * 2 := by simp [alt]
theorem alt_get (x y : Int) (q j : Nat) (h : j < q * 2) : (alt x y q)[j]? = some (if j % 2 = 0 then .int .i64 x else .int .i64 y) := by simp [alt, h]
theorem alt_one (x y : Int) (q : Nat) : ∀ v ∈ alt x y q, v.oneCell' = true := fun v hv => by
  unfold alt at hv
  obtain ⟨j, _, rfl⟩ := List.mem_map.1 hv
  split <;> rfl

/-- so many of n places hold x, y -/
structure Rp (w : World) (n : Nat) (x y : Int) (m : Nat) (cur : List Value) (wr : World) : Prop where
  blk : wr.heap[w.heap.size]? = some (.cells cur.toArray 60 (0, 0))
  len : cur.length = n * 2
  val : ∀ j, j < m * 2 → cur[j]? = some (if j % 2 = 0 then .int .i64 x else .int .i64 y)
  below : Below w.heap.size w wr
theorem Rp.step {w : World} {n : Nat} {x y : Int} {m q : Nat} {cur : List Value} {wr w2 : World} (h : Rp w n x y m cur wr) (hq : m + q ≤ n)
    (hb : w2.heap[w.heap.size]? = some (.cells (splice cur (m * 2) (alt x y q)).toArray 60 (0, 0))) (hB : Below w.heap.size w w2) : Rp w n x y (m + q) (splice cur (m * 2) (alt x y q)) w2 := by
  refine ⟨hb, by rw [length_splice _ _ _ (by rw [alt_len, h.len]; omega), h.len], fun j hj => ?_, hB⟩
  rw [splice_get _ _ _ (by rw [alt_len, h.len]; omega) j (by rw [alt_len]; omega)]
  by_cases e : j < m * 2
  · rw [if_pos e]; exact h.val j e
  · rw [if_neg e, alt_get _ _ _ _ (by omega), show (j - m * 2) % 2 = j % 2 by omega]
theorem Rp.cell {w : World} {n : Nat} {x y : Int} {m : Nat} {cur : List Value} {wr : World} (h : Rp w n x y m cur wr) (j : Nat) (hj : j < m * 2) : wr.cell? ⟨w.heap.size, j, none⟩ = some (if j % 2 = 0 then .int .i64 x else .int .i64 y) := by
  simp [World.cell?, h.blk]
  simpa using h.val j hj
theorem Rp.ends {w : World} {n : Nat} {x y : Int} {cur : List Value} {wr : World} (h : Rp w n x y n cur wr) : Pr wr w.heap.size n (fun _ => x) (fun _ => y) :=
  ⟨fun j hj => by
    have h1 := h.cell (j * 2) (by omega)
    have h2 := h.cell (j * 2 + 1) (by omega)
    rw [if_pos (by omega)] at h1
    rw [if_neg (by omega)] at h2
    exact ⟨h1, h2⟩, fun j _ => by simp [World.frozen?, h.blk]⟩
theorem Rp.copy {w : World} {n : Nat} {x y : Int} {m : Nat} {cur : List Value} {wr : World} (h : Rp w n x y m cur wr) (ad : Addr) (sLen sCap dLen dCap q : Nat) (hd : m + dLen = n) (hq : q = Nat.min sLen dLen)
    (hsrc : ∀ j, j < q * 2 → wr.cell? (ad.add j) = some (if j % 2 = 0 then .int .i64 x else .int .i64 y)) :
    ∃ w2 cur2, (Builtin.copy_ #[55, 55] 3 #[.slice (some ⟨w.heap.size, m * 2, none⟩) dLen dCap, .slice (some ad) sLen sCap]).run Try.prog wr = .ok (.int .i64 q) w2 ∧ Rp w n x y (m + q) cur2 w2 := by
  have hqd : q ≤ dLen := by rw [hq]; exact Nat.min_le_right _ _
  have hr := run_copy_wide Try.prog wr 55 55 3 60 w.heap.size (m * 2) dLen dCap ad sLen sCap cur.toArray 60 (alt x y q) 2 Try.underlying55 Try.size60 h.blk (by rw [alt_len, hq])
    (fun j v hj => by
      have hjq : j < q * 2 := by
        have := (List.getElem?_eq_some_iff.1 hj).1
        rw [alt_len] at this; exact this
      rw [alt_get _ _ _ _ hjq] at hj
      injection hj with hj; subst hj; exact hsrc j hjq)
    (by rw [alt_len, List.size_toArray, h.len]; omega) (alt_one x y q)
  rw [← hq] at hr
  refine ⟨_, _, hr, h.step (by omega) ?_ ?_⟩
  · rw [setRow_heap wr w.heap.size _ _ 60 _ h.blk]
    simp [splice]
  · exact below_setRow h.below (Nat.le_refl _) _
theorem Rp.drew {w : World} {n : Nat} {x y : Int} {m : Nat} {cur : List Value} {wr : World} (h : Rp w n x y m cur wr) : Rp w n x y m cur wr.drew := ⟨h.blk, h.len, h.val, h.below.drew⟩

set_option maxHeartbeats 1600000 in
theorem repeatE_any (b o c n : Nat) (x y : Int) (w : World) (hx : w.cell? ⟨b, o, none⟩ = some (.int .i64 x)) (hy : w.cell? ⟨b, o + 1, none⟩ = some (.int .i64 y)) (h2 : n ≤ 300) :
    Calls Try.prog 35 #[.slice (some ⟨b, o, none⟩) 1 c, .int .i64 n] w fun e w' => e = .returned (.slice (some ⟨w.heap.size, 0, none⟩) n n) ∧ Pr w' w.heap.size n (fun _ => x) (fun _ => y) ∧ w.heap.size < w'.heap.size ∧ Below w.heap.size w w' := by
  have hmk := made_ends n h2
  have hst : Rp w n x y 0 (madeCells #[.int .i64 0, .int .i64 0] (n * 2)).toList (w.alloc (.cells (madeCells #[.int .i64 0, .int .i64 0] (n * 2)) 60)) :=
    ⟨by show (w.heap.push _)[w.heap.size]? = _; simp, by simp [madeCells], fun j h => by omega, balloc (Below.refl _ _) _⟩
  have hxa : (w.alloc (.cells (madeCells #[.int .i64 0, .int .i64 0] (n * 2)) 60)).cell? ⟨b, o, none⟩ = some (.int .i64 x) := (hst.below.cell (p := ⟨b, o, none⟩) (block_lt hx)).trans hx
  have hya : (w.alloc (.cells (madeCells #[.int .i64 0, .int .i64 0] (n * 2)) 60)).cell? ⟨b, o + 1, none⟩ = some (.int .i64 y) := (hst.below.cell (p := ⟨b, o + 1, none⟩) (block_lt hy)).trans hy
  obtain ⟨q0, hq0⟩ : ∃ q, q = Nat.min 1 n := ⟨_, rfl⟩
  have hq2 : q0 ≤ 1 := by rw [hq0]; exact Nat.min_le_left _ _
  have hq3 : q0 ≤ n := by rw [hq0]; exact Nat.min_le_right _ _
  have hq1 : 1 ≤ q0 ∨ q0 = n := by
    by_cases e : 1 ≤ n
    · left; rw [hq0]; exact Nat.le_of_eq (Nat.min_eq_left e).symm
    · right; omega
  obtain ⟨w2, cur2, hcp, hR⟩ := hst.copy ⟨b, o, none⟩ 1 c n n q0 (by omega) hq0 (fun j hj => by
    rcases (show j = 0 ∨ j = 1 by omega) with rfl | rfl
    · exact hxa
    · exact hya)
  rw [Nat.zero_add] at hR
  rw [Nat.zero_mul] at hcp
  have HQ0 : Hid (q0 = Nat.min 1 n) := hq0
  clear hq0
  clear hst hxa hya
  go_enter Try.func35, Try.ntmps35
  go_wp2_with (go_at_call 36; refine (mul1 n h2 _).mono ?_; rintro e w ⟨rfl, rfl⟩)
  clear hcp hx hy hmk hq2
  go_loopw [8] (fun i wr => ∃ (m : Nat) (cur : List Value), (1 ≤ m ∨ m = n) ∧ m ≤ n ∧ i = .int .i64 m ∧ Rp w n x y m cur wr) (fun i _ => n - (intOf i).toNat)
  case atStart => exact ⟨q0, cur2, hq1, hq3, rfl, hR⟩
  case round =>
    obtain ⟨m, cur, hm1, hmn, rfl, hR⟩ := hrel
    by_cases hlt : m < n
    · obtain ⟨d, hd⟩ : ∃ d, m + d = n := ⟨n - m, by omega⟩
      obtain ⟨q, hq⟩ : ∃ q, q = Nat.min m d := ⟨_, rfl⟩
      have hq1 : 1 ≤ q ∧ q ≤ d := by
        rw [hq]
        rcases Nat.le_total m d with e | e
        · rw [show Nat.min m d = m from Nat.min_eq_left e]; omega
        · rw [show Nat.min m d = d from Nat.min_eq_right e]; omega
      have hqm : q ≤ m := by rw [hq]; exact Nat.min_le_left _ _
      obtain ⟨w3, cur3, hcp, hR3⟩ := hR.drew.copy ⟨w.heap.size, 0, none⟩ m n (n - m) (n - m) q (by omega) (by rw [hq, show n - m = d by omega]) (fun j hj => by
        rw [Addr.add_lit, Nat.zero_add]
        exact hR.drew.cell j (by omega))
      have hm3 : (m : Int) < (n : Int) := by omega
      have HQ : Hid (q = Nat.min m d) := hq
      clear hq hR
      go_wp2
      go_region
      all_goals
        go_wp2
        go_roundw
        case rel => exact ⟨m + q, cur3, by omega, by omega, by go_num, hR3⟩
        case measure => simp [intOf]; omega
    · obtain rfl : m = n := by omega
      go_wp2
      go_ret
      exact ⟨rfl, hR.ends, lt_of_block hR.blk, hR.below⟩

end Go.Proofs.Ytdbpgcaodgkcjaa
