/- PROVED: what slices.Repeat answers of one number. CONDITIONS: none beyond each theorem's own. -/
import Derived.Test.YtdbpgcaodgkcjaaCel
import Derived.Test.YtdbpgcaodgkcjaaShelf
import Derived.Laws.CopyOwn
namespace Go.Proofs.Ytdbpgcaodgkcjaa
open Go.RowKit

theorem mul1 (n : Nat) (hn : n ≤ 300) (w : World) : Calls Try.prog 36 #[.int .u64 1, .int .u64 n] w fun e w' => e = .returned (.tuple #[.int .u64 0, .int .u64 n]) ∧ w' = w :=
  (Try.bits_Mul 1 n (by omega) (by omega) w).mono fun e w' ⟨he, hw⟩ => by
    refine ⟨?_, hw⟩
    rw [he, Nat.one_mul, Nat.div_eq_of_lt (by omega), Nat.mod_eq_of_lt (by omega)]
    rfl

theorem Try.size3 : (Try.prog.info? 3).map (·.size) = some 1 := by kernel_rfl

/-- so many of n places hold x -/
structure Rep (w : World) (n : Nat) (x : Int) (m : Nat) (cur : List Value) (wr : World) : Prop where
  blk : wr.heap[w.heap.size]? = some (.cells cur.toArray 3 (0, 0))
  len : cur.length = n
  val : ∀ j, j < m → cur[j]? = some (.int .i64 x)
  below : Below w.heap.size w wr

theorem splice_get {α : Type} (L : List α) (m : Nat) (cs : List α) (hm : m + cs.length ≤ L.length) (j : Nat) (hj : j < m + cs.length) : (splice L m cs)[j]? = if j < m then L[j]? else cs[j - m]? := by
  unfold splice
  by_cases h : j < m
  · rw [if_pos h, List.getElem?_append_left (by simp; omega), List.getElem?_take_of_lt h]
  · rw [if_neg h, List.getElem?_append_right (by simp; omega), List.length_take, Nat.min_eq_left (by omega), List.getElem?_append_left (by omega)]

theorem Rep.step {w : World} {n : Nat} {x : Int} {m q : Nat} {cur : List Value} {wr w2 : World} (h : Rep w n x m cur wr) (hq : m + q ≤ n)
    (hb : w2.heap[w.heap.size]? = some (.cells (splice cur m (List.replicate q (.int .i64 x))).toArray 3 (0, 0))) (hB : Below w.heap.size w w2) : Rep w n x (m + q) (splice cur m (List.replicate q (.int .i64 x))) w2 := by
  refine ⟨hb, by rw [length_splice _ _ _ (by rw [List.length_replicate, h.len]; exact hq), h.len], fun j hj => ?_, hB⟩
  rw [splice_get _ _ _ (by rw [List.length_replicate, h.len]; exact hq) j (by rw [List.length_replicate]; exact hj)]
  by_cases e : j < m
  · rw [if_pos e]; exact h.val j e
  · rw [if_neg e, List.getElem?_replicate, if_pos (by omega)]

theorem Rep.cell {w : World} {n : Nat} {x : Int} {m : Nat} {cur : List Value} {wr : World} (h : Rep w n x m cur wr) (j : Nat) (hj : j < m) : wr.cell? ⟨w.heap.size, j, none⟩ = some (.int .i64 x) := by
  simp [World.cell?, h.blk]
  simpa using h.val j hj

theorem Rep.cells {w : World} {n : Nat} {x : Int} {cur : List Value} {wr : World} (h : Rep w n x n cur wr) : Cells wr w.heap.size n fun _ => x :=
  ⟨fun j hj => h.cell j hj, fun j _ => by simp [World.frozen?, h.blk]⟩

/-- one copy more -/
theorem Rep.copy {w : World} {n : Nat} {x : Int} {m : Nat} {cur : List Value} {wr : World} (h : Rep w n x m cur wr) (ad : Addr) (sLen sCap dLen dCap q : Nat) (hd : m + dLen = n) (hq : q = Nat.min sLen dLen)
    (hsrc : ∀ j, j < q → wr.cell? (ad.add j) = some (.int .i64 x)) :
    ∃ w2 cur2, (Builtin.copy_ #[30, 30] 3 #[.slice (some ⟨w.heap.size, m, none⟩) dLen dCap, .slice (some ad) sLen sCap]).run Try.prog wr = .ok (.int .i64 q) w2 ∧ Rep w n x (m + q) cur2 w2 := by
  have hqd : q ≤ dLen := by rw [hq]; exact Nat.min_le_right _ _
  have hr := run_copy_row (P := Try.prog) wr 30 30 3 3 w.heap.size m dLen dCap ad sLen sCap cur.toArray 3 (List.replicate q (.int .i64 x)) Try.underlying30 Try.size3 h.blk (by rw [List.length_replicate]; exact hq)
    (fun j v hj => by
      rw [List.getElem?_replicate] at hj
      split at hj
      · injection hj with hj; subst hj; exact hsrc j (by assumption)
      · cases hj)
    (by rw [List.length_replicate, List.size_toArray, h.len]; omega) (fun v hv => by rw [List.eq_of_mem_replicate hv]; rfl)
  rw [List.length_replicate] at hr
  refine ⟨_, _, hr, h.step (by omega) ?_ ?_⟩
  · rw [setRow_heap wr w.heap.size _ _ 3 _ h.blk]
    simp [splice]
  · exact below_setRow h.below (Nat.le_refl _) _

theorem Rep.drew {w : World} {n : Nat} {x : Int} {m : Nat} {cur : List Value} {wr : World} (h : Rep w n x m cur wr) : Rep w n x m cur wr.drew := ⟨h.blk, h.len, h.val, h.below.drew⟩

set_option maxHeartbeats 1600000 in
theorem repeat_any (b o c n : Nat) (x : Int) (w : World) (hx : w.cell? ⟨b, o, none⟩ = some (.int .i64 x)) (h2 : n ≤ 300) :
    Calls Try.prog 31 #[.slice (some ⟨b, o, none⟩) 1 c, .int .i64 n] w fun e w' => e = .returned (.slice (some ⟨w.heap.size, 0, none⟩) n n) ∧ Cells w' w.heap.size n (fun _ => x) ∧ w.heap.size < w'.heap.size ∧ Below w.heap.size w w' := by
  have hmk := run_make_row' (P := Try.prog) 30 3 (.int .i64 0) 8 Try.underlying30 Try.info3 rfl .i64 .i64 n (by omega) (by omega)
  have hst : Rep w n x 0 (madeCells #[.int .i64 0] n).toList (w.alloc (.cells (madeCells #[.int .i64 0] n) 3)) :=
    ⟨by show (w.heap.push _)[w.heap.size]? = _; simp, by simp [madeCells], fun j h => by omega, balloc (Below.refl _ _) _⟩
  have hxa : (w.alloc (.cells (madeCells #[.int .i64 0] n) 3)).cell? ⟨b, o, none⟩ = some (.int .i64 x) := (hst.below.cell (p := ⟨b, o, none⟩) (block_lt hx)).trans hx
  obtain ⟨q0, hq0⟩ : ∃ q, q = Nat.min 1 n := ⟨_, rfl⟩
  have hq2 : q0 ≤ 1 := by rw [hq0]; exact Nat.min_le_left _ _
  have hq3 : q0 ≤ n := by rw [hq0]; exact Nat.min_le_right _ _
  have hq1 : 1 ≤ q0 ∨ q0 = n := by
    by_cases e : 1 ≤ n
    · left; rw [hq0]; exact Nat.le_of_eq (Nat.min_eq_left e).symm
    · right; omega
  obtain ⟨w2, cur2, hcp, hR⟩ := hst.copy ⟨b, o, none⟩ 1 c n n q0 (by omega) hq0 (fun j hj => by
    obtain rfl : j = 0 := by omega
    exact hxa)
  rw [Nat.zero_add] at hR
  have HQ0 : Hid (q0 = Nat.min 1 n) := hq0
  clear hq0
  clear hst hxa
  go_enter Try.func31, Try.ntmps31
  go_wp2_with (go_at_call 36; refine (mul1 n h2 _).mono ?_; rintro e w ⟨rfl, rfl⟩)
  clear hcp hx hmk hq2
  go_loopw [8] (fun i wr => ∃ (m : Nat) (cur : List Value), (1 ≤ m ∨ m = n) ∧ m ≤ n ∧ i = .int .i64 m ∧ Rep w n x m cur wr) (fun i _ => n - (intOf i).toNat)
  case atStart => exact ⟨q0, cur2, hq1, hq3, rfl, hR⟩
  case round =>
    obtain ⟨m, cur, hm1, hmn, rfl, hR⟩ := hrel
    by_cases hlt : m < n
    · obtain ⟨d, hd⟩ : ∃ d, m + d = n := ⟨n - m, by omega⟩
      obtain ⟨q, hq⟩ : ∃ q, q = Nat.min m d := ⟨_, rfl⟩
      have hq1 : 1 ≤ q ∧ q ≤ d := by
        rw [hq]
        rcases Nat.le_total m d with e | e
        · rw [show Nat.min m d = m from Nat.min_eq_left e]; omega
        · rw [show Nat.min m d = d from Nat.min_eq_right e]; omega
      have hqm : q ≤ m := by rw [hq]; exact Nat.min_le_left _ _
      obtain ⟨w3, cur3, hcp, hR3⟩ := hR.drew.copy ⟨w.heap.size, 0, none⟩ m n (n - m) (n - m) q (by omega) (by rw [hq, show n - m = d by omega]) (fun j hj => by
        rw [Addr.add_lit, Nat.zero_add]
        exact hR.drew.cell j (by omega))
      have hm3 : (m : Int) < (n : Int) := by omega
      have HQ : Hid (q = Nat.min m d) := hq
      clear hq hR
      go_wp2
      go_region
      all_goals
        go_wp2
        go_roundw
        case rel => exact ⟨m + q, cur3, by omega, by omega, by go_num, hR3⟩
        case measure => simp [intOf]; omega
    · obtain rfl : m = n := by omega
      go_wp2
      go_ret
      exact ⟨rfl, hR.cells, lt_of_block hR.blk, hR.below⟩

end Go.Proofs.Ytdbpgcaodgkcjaa
