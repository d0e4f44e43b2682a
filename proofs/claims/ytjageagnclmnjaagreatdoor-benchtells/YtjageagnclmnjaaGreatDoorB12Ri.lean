/- PROVED: the document's own SOf: the region in which four rows grow by one each, whole. CONDITIONS: none beyond each theorem's own. -/
import Derived.Test.YtjageagnclmnjaaGreatDoorB11Chn
namespace Go.Proofs.YtjageagnclmnjaaGreatDoor.D
set_option maxRecDepth 100000
open Go.RowKit K
set_option linter.unusedVariables false

theorem Fam.ext {B0 : Nat} {K' : Nat → Prop} {cur cur' : Nat → Value} {n n' : Nat → Nat} {xs xs' : Nat → List Value} {wr : World} (h : Fam B0 K' cur n xs wr) (e : ∀ c, c < 5 → cur' c = cur c ∧ n' c = n c ∧ xs' c = xs c) : Fam B0 K' cur' n' xs' wr :=
  ⟨fun c hc => by rw [(e c hc).1, (e c hc).2.1, (e c hc).2.2]; exact h.own c hc, fun c d hc hd hne g hg => by rw [(e d hd).1]; rw [(e c hc).1] at hg; exact h.ap c d hc hd hne g hg, fun g hg => ⟨(h.kb g hg).1, fun c hc => by rw [(e c hc).1]; exact (h.kb g hg).2 c hc⟩, h.sz⟩
def O25 : List (Op × Option Nat) := [(.fieldAddr 102 (.tmp 6) 1, some 97), (.load 66 (.tmp 97), some 98), (.move (.tmp 7), some 99), (.buildSlice 66 1 #[(0, .tmp 99)], some 100), (.call { callee := .builtin .append, args := #[.tmp 98, .tmp 100], argTypes := #[66, 66] }, some 101), (.fieldAddr 102 (.tmp 6) 2, some 102), (.load 66 (.tmp 102), some 103), (.move (.tmp 13), some 104), (.buildSlice 66 1 #[(0, .tmp 104)], some 105), (.call { callee := .builtin .append, args := #[.tmp 103, .tmp 105], argTypes := #[66, 66] }, some 106), (.fieldAddr 102 (.tmp 6) 3, some 107), (.load 30 (.tmp 107), some 108), (.load 31 (.tmp 9), some 109), (.buildSlice 30 1 #[(0, .tmp 109)], some 110), (.call { callee := .builtin .append, args := #[.tmp 108, .tmp 110], argTypes := #[30, 30] }, some 111), (.fieldAddr 102 (.tmp 6) 4, some 112), (.load 40 (.tmp 112), some 113), (.load 86 (.tmp 11), some 114), (.buildSlice 40 1 #[(0, .tmp 114)], some 115), (.call { callee := .builtin .append, args := #[.tmp 113, .tmp 115], argTypes := #[40, 40] }, some 116), (.fieldAddr 102 (.tmp 6) 1, some 117), (.store 66 (.tmp 117) (.tmp 101), none), (.fieldAddr 102 (.tmp 6) 2, some 118), (.store 66 (.tmp 118) (.tmp 106), none), (.fieldAddr 102 (.tmp 6) 3, some 119), (.store 30 (.tmp 119) (.tmp 111), none), (.fieldAddr 102 (.tmp 6) 4, some 120), (.store 40 (.tmp 120) (.tmp 116), none)]
def D25 : List (List Nat) := [[], [0], [], [2], [1, 3], [], [5], [], [7], [6, 8], [], [10], [], [12], [11, 13], [], [15], [], [17], [16, 18], [], [20, 4, 1], [], [22, 9, 6], [], [24, 14, 11], [], [26, 19, 16]]
def l25 : List Nat := [97, 98, 99, 100, 101, 102, 103, 104, 105, 106, 107, 108, 109, 110, 111, 112, 113, 114, 115, 116, 117, 118, 119, 120]
def el25 (k : Nat) (tz lx ly : Int) (rr : Rx) : Nat → Value
  | 1 => .int .i64 (k : Int)
  | 2 => .int .i64 tz
  | 3 => .agg #[.int .i64 lx, .int .i64 ly]
  | _ => .agg #[.int .i64 rr.s0, .int .i64 rr.s1, .int .i64 rr.c0, .int .i64 rr.c1, .int .i64 rr.l0, .int .i64 rr.l1]
def new25 (k : Nat) (tz lx ly : Int) (rr : Rx) : Nat → List Value
  | 1 => [.int .i64 (k : Int)]
  | 2 => [.int .i64 tz]
  | 3 => [.int .i64 lx, .int .i64 ly]
  | _ => cellsR rr
theorem new_len (k : Nat) (tz lx ly : Int) (rr : Rx) {c : Nat} (h1 : 1 ≤ c) (h5 : c < 5) : (new25 k tz lx ly rr c).length = fsz c ∧ ∀ u ∈ new25 k tz lx ly rr c, u.oneCell' = true := by
  rcases (show c = 1 ∨ c = 2 ∨ c = 3 ∨ c = 4 by omega) with rfl | rfl | rfl | rfl <;> exact ⟨rfl, by simp [new25, cellsR, Value.oneCell']⟩
/-- THE REGION -/
theorem region25 {Q : Exit → Act → World → Prop} {ops : Array Oper} (ho : looks ops O25) (hd : waits ops D25 = true) (hor : (List.range ops.size).all (fun i => ((ops[i]?).map fun o => o.after.all fun e => !Region.binds .any e || decide (e.on < i)).getD true) = true) {id : Nat} {a0 : Act} {W : World} (hm : Tryz.prog.follows .mixedOrders = true)
    {B0 B1 : Nat} {wB : World} {K' : Nat → Prop} {C Lt Rd k : Nat} {tz lx ly : Int} {rr : Rx} {v : Nat → Value} {n : Nat → Nat} {xs : Nat → List Value} (hz : 120 < a0.tmps.size)
    (e6 : a0.eval (.tmp 6) = .pointer (some ⟨C, 0, none⟩)) (e7 : a0.eval (.tmp 7) = .int .i64 (k : Int)) (e9 : a0.eval (.tmp 9) = .pointer (some ⟨Lt, 0, none⟩)) (e11 : a0.eval (.tmp 11) = .pointer (some ⟨Rd, 0, none⟩)) (e13 : a0.eval (.tmp 13) = .int .i64 tz)
    (hF : Fam B0 K' v n xs W) (hC : Fiv W C v) (kC : K' C) (kL : K' Lt) (kR : K' Rd) (hLC : Lt ≠ C) (hRC : Rd ≠ C) (hl0 : W.cell? ⟨Lt, 0, none⟩ = some (.int .i64 lx)) (hl1 : W.cell? ⟨Lt, 1, none⟩ = some (.int .i64 ly)) (hR : Rnd W Rd rr.s0 rr.s1 rr.c0 rr.c1 rr.l0 rr.l1) (hn : ∀ c, 1 ≤ c → c < 5 → n c + 1 ≤ 1048576)
    (hb : Below B1 wB W) (hb1 : B1 ≤ C ∧ B1 ≤ B0 ∧ B1 ≤ W.heap.size)
    (hQ : ∀ (y v' : Nat → Value) (w' : World), Fam B0 K' (fun c => if c = 0 then v 0 else v' c) (fun c => if c = 0 then n 0 else n c + 1) (fun c => if c = 0 then xs 0 else xs c ++ new25 k tz lx ly rr c) w' → Fiv w' C (fun c => if c = 0 then v 0 else v' c) → (∀ g, K' g → g ≠ C → w'.heap[g]? = W.heap[g]?) → Below B1 wB w' → Q .normal (tA a0 l25 y) w') : (Code.region id ops true).wp Tryz.prog Q a0 W := by
  have hsz : ops.size = 28 := looks_size ho
  refine wp_region_slots hm l25 (fun L y w' => ∃ v' b, Rj B0 K' C v (el25 k tz lx ly rr) n xs (new25 k tz lx ly rr) W B1 wB L y v' b w') ?_ ?_ ?_
  · have f : ∀ i, (Array.replicate ops.size false).getD i false = false := fun i => by
      rw [Array.getD_eq_getD_getElem?, Array.getElem?_replicate]
      split <;> rfl
    have fA : ∀ c, lA (Array.replicate ops.size false) c = false := fun c => by unfold lA; split; (exact f _); (rfl)
    have fB : ∀ c, lB (Array.replicate ops.size false) c = false := fun c => by unfold lB; split; (exact f _); (rfl)
    have fS : ∀ c, lS (Array.replicate ops.size false) c = false := fun c => by unfold lS; split; (exact f _); (rfl)
    refine ⟨fun _ => undef, fun _ => 0, by simp [hsz], fun i _ _ h => ?_, ?_, fun c _ h => ?_, fun c _ hc => ?_, hC.c 0 (by omega), fun c _ h => ?_, fun g _ _ => rfl, Below.drew hb, fun d _ h => ?_, kC, hb1⟩
    · rw [f] at h; cases h
    · refine (Fam.ext (hF.drewN 1) fun c hc => by simp [fA]).less fun g hg => ?_
      rcases hg with hg | ⟨c, _, h, _⟩
      · exact hg
      · rw [fB] at h; cases h
    · rw [fB] at h; cases h
    · rw [fS]; exact hC.c c hc
    · rw [fA] at h; cases h
    · rw [f] at h; cases h
  · rintro L y w' ⟨v', b, hG⟩ i hi
    have hi28 : i < 28 := by
      obtain ⟨_, o, q, _⟩ := mem_ready.1 hi
      have := (Array.getElem?_eq_some_iff.1 q).1
      omega
    have put : ∀ {s : Nat} (hs : s ∈ l25) (x : Value), (tA a0 l25 y).put (some s) x = tA a0 l25 (up y s x) := fun hs x => tA_put a0 l25 y hs x
    have o6 : (tA a0 l25 y).eval (.tmp 6) = .pointer (some ⟨C, 0, none⟩) := (tA_other a0 l25 y (by decide)).trans e6
    have o7 : (tA a0 l25 y).eval (.tmp 7) = .int .i64 (k : Int) := (tA_other a0 l25 y (by decide)).trans e7
    have o9 : (tA a0 l25 y).eval (.tmp 9) = .pointer (some ⟨Lt, 0, none⟩) := (tA_other a0 l25 y (by decide)).trans e9
    have o11 : (tA a0 l25 y).eval (.tmp 11) = .pointer (some ⟨Rd, 0, none⟩) := (tA_other a0 l25 y (by decide)).trans e11
    have o13 : (tA a0 l25 y).eval (.tmp 13) = .int .i64 tz := (tA_other a0 l25 y (by decide)).trans e13
    have got : ∀ {j s : Nat}, j < 28 → yields j → slot j = s → s ∈ l25 → s < a0.tmps.size → L.getD j false = true → (tA a0 l25 y).eval (.tmp s) = vl C v (el25 k tz lx ly rr) b v' j := fun h1 h2 h3 h4 h5 h6 => by
      rw [tA_slot a0 l25 y h4 h5, ← h3]; exact hG.sl _ h1 h2 h6
    have hLt := hG.oth Lt kL hLC
    have hRd := hG.oth Rd kR hRC
    have c0 : w'.cell? ⟨Lt, 0, none⟩ = some (.int .i64 lx) := (World.cell?_of_block (a := ⟨Lt, 0, none⟩) hLt).trans hl0
    have c1 : w'.cell? ⟨Lt, 1, none⟩ = some (.int .i64 ly) := (World.cell?_of_block (a := ⟨Lt, 1, none⟩) hLt).trans hl1
    have hR2 := rnd_block hR hRd
    rcases (show i = 0 ∨ i = 1 ∨ i = 2 ∨ i = 3 ∨ i = 4 ∨ i = 5 ∨ i = 6 ∨ i = 7 ∨ i = 8 ∨ i = 9 ∨ i = 10 ∨ i = 11 ∨ i = 12 ∨ i = 13 ∨ i = 14 ∨ i = 15 ∨ i = 16 ∨ i = 17 ∨ i = 18 ∨ i = 19 ∨ i = 20 ∨ i = 21 ∨ i = 22 ∨ i = 23 ∨ i = 24 ∨ i = 25 ∨ i = 26 ∨ i = 27 by omega) with rfl | rfl | rfl | rfl | rfl | rfl | rfl | rfl | rfl | rfl | rfl | rfl | rfl | rfl | rfl | rfl | rfl | rfl | rfl | rfl | rfl | rfl | rfl | rfl | rfl | rfl | rfl | rfl
    · obtain ⟨o, h1, h2, h3, h4⟩ := looks_at ho (i := 0) rfl
      have hw := waits_at hd hi (l := D25.getD 0 []) rfl
      refine wpOp_value h1 h4 (ex_fa h2 (by omega) o6) ?_
      rw [h3]
      exact ⟨_, put (by decide) _, v', b, hG.pure (by omega) (by unfold yields; omega) (fun d _ => by omega) (fun d _ => by omega) rfl⟩
    · obtain ⟨o, h1, h2, h3, h4⟩ := looks_at ho (i := 1) rfl
      have hw := waits_at hd hi (l := D25.getD 1 []) rfl
      have hs : lS L 1 = false := by
        cases q : lS L 1 with
        | false => rfl
        | true =>
          rw [lS_at (by omega) (by omega)] at q
          have := (hG.clo 0 (by omega) q).1
          rw [not_yet (by rw [hG.ls]; omega) hw.1] at this
          cases this
      have hcel := (hG.cel 1 (by omega) (by omega)).1
      rw [hs] at hcel
      refine wpOp_value h1 h4 (ex_ld h2 (by omega) (got (j := 0) (s := 97) (by omega) (by unfold yields; omega) rfl (by decide) (by omega) (hw.2 0 (by decide))) hcel) ?_
      rw [h3]
      exact ⟨_, put (by decide) _, v', b, hG.pure (by omega) (by unfold yields; omega) (fun d _ => by omega) (fun d _ => by omega) rfl⟩
    · obtain ⟨o, h1, h2, h3, h4⟩ := looks_at ho (i := 2) rfl
      have hw := waits_at hd hi (l := D25.getD 2 []) rfl
      refine wpOp_value h1 h4 (ex_mv h2 o7) ?_
      rw [h3]
      exact ⟨_, put (by decide) _, v', b, hG.pure (by omega) (by unfold yields; omega) (fun d _ => by omega) (fun d _ => by omega) rfl⟩
    · obtain ⟨o, h1, h2, h3, h4⟩ := looks_at ho (i := 3) rfl
      have hw := waits_at hd hi (l := D25.getD 3 []) rfl
      refine wpOp_value h1 h4 (ex_one h2 (got (j := 2) (s := 99) (by omega) (by unfold yields; omega) rfl (by decide) (by omega) (hw.2 2 (by decide)))) ?_
      rw [h3]
      exact ⟨_, put (by decide) _, v', _, hG.laid (c := 1) (by omega) (by omega) hw.1⟩
    · obtain ⟨o, h1, h2, h3, h4⟩ := looks_at ho (i := 4) rfl
      have hw := waits_at hd hi (l := D25.getD 4 []) rfl
      obtain ⟨x, w2, q1, q2⟩ := hG.grown (c := 1) (by omega) (by omega) hw.1 (hw.2 3 (by decide)) (hn 1 (by omega) (by omega)) (new_len k tz lx ly rr (by omega) (by omega)).1 (new_len k tz lx ly rr (by omega) (by omega)).2 o.type
      refine wpOp_value h1 h4 (ex_app h2 (got (j := 1) (s := 98) (by omega) (by unfold yields; omega) rfl (by decide) (by omega) (hw.2 1 (by decide))) (got (j := 3) (s := 100) (by omega) (by unfold yields; omega) rfl (by decide) (by omega) (hw.2 3 (by decide))) q1) ?_
      rw [h3]
      exact ⟨_, put (by decide) _, _, b, q2⟩
    · obtain ⟨o, h1, h2, h3, h4⟩ := looks_at ho (i := 5) rfl
      have hw := waits_at hd hi (l := D25.getD 5 []) rfl
      refine wpOp_value h1 h4 (ex_fa h2 (by omega) o6) ?_
      rw [h3]
      exact ⟨_, put (by decide) _, v', b, hG.pure (by omega) (by unfold yields; omega) (fun d _ => by omega) (fun d _ => by omega) rfl⟩
    · obtain ⟨o, h1, h2, h3, h4⟩ := looks_at ho (i := 6) rfl
      have hw := waits_at hd hi (l := D25.getD 6 []) rfl
      have hs : lS L 2 = false := by
        cases q : lS L 2 with
        | false => rfl
        | true =>
          rw [lS_at (by omega) (by omega)] at q
          have := (hG.clo 1 (by omega) q).1
          rw [not_yet (by rw [hG.ls]; omega) hw.1] at this
          cases this
      have hcel := (hG.cel 2 (by omega) (by omega)).1
      rw [hs] at hcel
      refine wpOp_value h1 h4 (ex_ld h2 (by omega) (got (j := 5) (s := 102) (by omega) (by unfold yields; omega) rfl (by decide) (by omega) (hw.2 5 (by decide))) hcel) ?_
      rw [h3]
      exact ⟨_, put (by decide) _, v', b, hG.pure (by omega) (by unfold yields; omega) (fun d _ => by omega) (fun d _ => by omega) rfl⟩
    · obtain ⟨o, h1, h2, h3, h4⟩ := looks_at ho (i := 7) rfl
      have hw := waits_at hd hi (l := D25.getD 7 []) rfl
      refine wpOp_value h1 h4 (ex_mv h2 o13) ?_
      rw [h3]
      exact ⟨_, put (by decide) _, v', b, hG.pure (by omega) (by unfold yields; omega) (fun d _ => by omega) (fun d _ => by omega) rfl⟩
    · obtain ⟨o, h1, h2, h3, h4⟩ := looks_at ho (i := 8) rfl
      have hw := waits_at hd hi (l := D25.getD 8 []) rfl
      refine wpOp_value h1 h4 (ex_one h2 (got (j := 7) (s := 104) (by omega) (by unfold yields; omega) rfl (by decide) (by omega) (hw.2 7 (by decide)))) ?_
      rw [h3]
      exact ⟨_, put (by decide) _, v', _, hG.laid (c := 2) (by omega) (by omega) hw.1⟩
    · obtain ⟨o, h1, h2, h3, h4⟩ := looks_at ho (i := 9) rfl
      have hw := waits_at hd hi (l := D25.getD 9 []) rfl
      obtain ⟨x, w2, q1, q2⟩ := hG.grown (c := 2) (by omega) (by omega) hw.1 (hw.2 8 (by decide)) (hn 2 (by omega) (by omega)) (new_len k tz lx ly rr (by omega) (by omega)).1 (new_len k tz lx ly rr (by omega) (by omega)).2 o.type
      refine wpOp_value h1 h4 (ex_app h2 (got (j := 6) (s := 103) (by omega) (by unfold yields; omega) rfl (by decide) (by omega) (hw.2 6 (by decide))) (got (j := 8) (s := 105) (by omega) (by unfold yields; omega) rfl (by decide) (by omega) (hw.2 8 (by decide))) q1) ?_
      rw [h3]
      exact ⟨_, put (by decide) _, _, b, q2⟩
    · obtain ⟨o, h1, h2, h3, h4⟩ := looks_at ho (i := 10) rfl
      have hw := waits_at hd hi (l := D25.getD 10 []) rfl
      refine wpOp_value h1 h4 (ex_fa h2 (by omega) o6) ?_
      rw [h3]
      exact ⟨_, put (by decide) _, v', b, hG.pure (by omega) (by unfold yields; omega) (fun d _ => by omega) (fun d _ => by omega) rfl⟩
    · obtain ⟨o, h1, h2, h3, h4⟩ := looks_at ho (i := 11) rfl
      have hw := waits_at hd hi (l := D25.getD 11 []) rfl
      have hs : lS L 3 = false := by
        cases q : lS L 3 with
        | false => rfl
        | true =>
          rw [lS_at (by omega) (by omega)] at q
          have := (hG.clo 2 (by omega) q).1
          rw [not_yet (by rw [hG.ls]; omega) hw.1] at this
          cases this
      have hcel := (hG.cel 3 (by omega) (by omega)).1
      rw [hs] at hcel
      refine wpOp_value h1 h4 (ex_ld h2 (by omega) (got (j := 10) (s := 107) (by omega) (by unfold yields; omega) rfl (by decide) (by omega) (hw.2 10 (by decide))) hcel) ?_
      rw [h3]
      exact ⟨_, put (by decide) _, v', b, hG.pure (by omega) (by unfold yields; omega) (fun d _ => by omega) (fun d _ => by omega) rfl⟩
    · obtain ⟨o, h1, h2, h3, h4⟩ := looks_at ho (i := 12) rfl
      have hw := waits_at hd hi (l := D25.getD 12 []) rfl
      refine wpOp_value h1 h4 (ex_pair h2 o9 c0 c1) ?_
      rw [h3]
      exact ⟨_, put (by decide) _, v', b, hG.pure (by omega) (by unfold yields; omega) (fun d _ => by omega) (fun d _ => by omega) rfl⟩
    · obtain ⟨o, h1, h2, h3, h4⟩ := looks_at ho (i := 13) rfl
      have hw := waits_at hd hi (l := D25.getD 13 []) rfl
      refine wpOp_value h1 h4 (ex_two h2 (got (j := 12) (s := 109) (by omega) (by unfold yields; omega) rfl (by decide) (by omega) (hw.2 12 (by decide)))) ?_
      rw [h3]
      exact ⟨_, put (by decide) _, v', _, hG.laid (c := 3) (by omega) (by omega) hw.1⟩
    · obtain ⟨o, h1, h2, h3, h4⟩ := looks_at ho (i := 14) rfl
      have hw := waits_at hd hi (l := D25.getD 14 []) rfl
      obtain ⟨x, w2, q1, q2⟩ := hG.grown (c := 3) (by omega) (by omega) hw.1 (hw.2 13 (by decide)) (hn 3 (by omega) (by omega)) (new_len k tz lx ly rr (by omega) (by omega)).1 (new_len k tz lx ly rr (by omega) (by omega)).2 o.type
      refine wpOp_value h1 h4 (ex_app h2 (got (j := 11) (s := 108) (by omega) (by unfold yields; omega) rfl (by decide) (by omega) (hw.2 11 (by decide))) (got (j := 13) (s := 110) (by omega) (by unfold yields; omega) rfl (by decide) (by omega) (hw.2 13 (by decide))) q1) ?_
      rw [h3]
      exact ⟨_, put (by decide) _, _, b, q2⟩
    · obtain ⟨o, h1, h2, h3, h4⟩ := looks_at ho (i := 15) rfl
      have hw := waits_at hd hi (l := D25.getD 15 []) rfl
      refine wpOp_value h1 h4 (ex_fa h2 (by omega) o6) ?_
      rw [h3]
      exact ⟨_, put (by decide) _, v', b, hG.pure (by omega) (by unfold yields; omega) (fun d _ => by omega) (fun d _ => by omega) rfl⟩
    · obtain ⟨o, h1, h2, h3, h4⟩ := looks_at ho (i := 16) rfl
      have hw := waits_at hd hi (l := D25.getD 16 []) rfl
      have hs : lS L 4 = false := by
        cases q : lS L 4 with
        | false => rfl
        | true =>
          rw [lS_at (by omega) (by omega)] at q
          have := (hG.clo 3 (by omega) q).1
          rw [not_yet (by rw [hG.ls]; omega) hw.1] at this
          cases this
      have hcel := (hG.cel 4 (by omega) (by omega)).1
      rw [hs] at hcel
      refine wpOp_value h1 h4 (ex_ld h2 (by omega) (got (j := 15) (s := 112) (by omega) (by unfold yields; omega) rfl (by decide) (by omega) (hw.2 15 (by decide))) hcel) ?_
      rw [h3]
      exact ⟨_, put (by decide) _, v', b, hG.pure (by omega) (by unfold yields; omega) (fun d _ => by omega) (fun d _ => by omega) rfl⟩
    · obtain ⟨o, h1, h2, h3, h4⟩ := looks_at ho (i := 17) rfl
      have hw := waits_at hd hi (l := D25.getD 17 []) rfl
      refine wpOp_value h1 h4 (ex_six h2 o11 hR2.c0 hR2.c1 hR2.c2 hR2.c3 hR2.c4 hR2.c5) ?_
      rw [h3]
      exact ⟨_, put (by decide) _, v', b, hG.pure (by omega) (by unfold yields; omega) (fun d _ => by omega) (fun d _ => by omega) rfl⟩
    · obtain ⟨o, h1, h2, h3, h4⟩ := looks_at ho (i := 18) rfl
      have hw := waits_at hd hi (l := D25.getD 18 []) rfl
      refine wpOp_value h1 h4 (ex_rnd h2 (got (j := 17) (s := 114) (by omega) (by unfold yields; omega) rfl (by decide) (by omega) (hw.2 17 (by decide)))) ?_
      rw [h3]
      exact ⟨_, put (by decide) _, v', _, hG.laid (c := 4) (by omega) (by omega) hw.1⟩
    · obtain ⟨o, h1, h2, h3, h4⟩ := looks_at ho (i := 19) rfl
      have hw := waits_at hd hi (l := D25.getD 19 []) rfl
      obtain ⟨x, w2, q1, q2⟩ := hG.grown (c := 4) (by omega) (by omega) hw.1 (hw.2 18 (by decide)) (hn 4 (by omega) (by omega)) (new_len k tz lx ly rr (by omega) (by omega)).1 (new_len k tz lx ly rr (by omega) (by omega)).2 o.type
      refine wpOp_value h1 h4 (ex_app h2 (got (j := 16) (s := 113) (by omega) (by unfold yields; omega) rfl (by decide) (by omega) (hw.2 16 (by decide))) (got (j := 18) (s := 115) (by omega) (by unfold yields; omega) rfl (by decide) (by omega) (hw.2 18 (by decide))) q1) ?_
      rw [h3]
      exact ⟨_, put (by decide) _, _, b, q2⟩
    · obtain ⟨o, h1, h2, h3, h4⟩ := looks_at ho (i := 20) rfl
      have hw := waits_at hd hi (l := D25.getD 20 []) rfl
      refine wpOp_value h1 h4 (ex_fa h2 (by omega) o6) ?_
      rw [h3]
      exact ⟨_, put (by decide) _, v', b, hG.pure (by omega) (by unfold yields; omega) (fun d _ => by omega) (fun d _ => by omega) rfl⟩
    · obtain ⟨o, h1, h2, h3, h4⟩ := looks_at ho (i := 21) rfl
      have hw := waits_at hd hi (l := D25.getD 21 []) rfl
      have hap := hw.2 4 (by decide)
      obtain ⟨g, cp, hvv⟩ := hG.vs 1 (by omega) (by rw [lA_at (by omega) (by omega)]; exact hap)
      have hcel := hG.cel 1 (by omega) (by omega)
      refine wpOp_skip h1 h4 (ex_st h2 (by omega) (got (j := 20) (s := 117) (by omega) (by unfold yields; omega) rfl (by decide) (by omega) (hw.2 20 (by decide))) ((got (j := 4) (s := 101) (by omega) (by unfold yields; omega) rfl (by decide) (by omega) (hw.2 4 (by decide))).trans hvv) hcel.1 hcel.2) ?_
      rw [h3]
      have := hG.stored (c := 1) (by omega) (by omega) hw.1 (hw.2 1 (by decide)) hap
      rw [hvv] at this
      exact ⟨y, rfl, v', b, this⟩
    · obtain ⟨o, h1, h2, h3, h4⟩ := looks_at ho (i := 22) rfl
      have hw := waits_at hd hi (l := D25.getD 22 []) rfl
      refine wpOp_value h1 h4 (ex_fa h2 (by omega) o6) ?_
      rw [h3]
      exact ⟨_, put (by decide) _, v', b, hG.pure (by omega) (by unfold yields; omega) (fun d _ => by omega) (fun d _ => by omega) rfl⟩
    · obtain ⟨o, h1, h2, h3, h4⟩ := looks_at ho (i := 23) rfl
      have hw := waits_at hd hi (l := D25.getD 23 []) rfl
      have hap := hw.2 9 (by decide)
      obtain ⟨g, cp, hvv⟩ := hG.vs 2 (by omega) (by rw [lA_at (by omega) (by omega)]; exact hap)
      have hcel := hG.cel 2 (by omega) (by omega)
      refine wpOp_skip h1 h4 (ex_st h2 (by omega) (got (j := 22) (s := 118) (by omega) (by unfold yields; omega) rfl (by decide) (by omega) (hw.2 22 (by decide))) ((got (j := 9) (s := 106) (by omega) (by unfold yields; omega) rfl (by decide) (by omega) (hw.2 9 (by decide))).trans hvv) hcel.1 hcel.2) ?_
      rw [h3]
      have := hG.stored (c := 2) (by omega) (by omega) hw.1 (hw.2 6 (by decide)) hap
      rw [hvv] at this
      exact ⟨y, rfl, v', b, this⟩
    · obtain ⟨o, h1, h2, h3, h4⟩ := looks_at ho (i := 24) rfl
      have hw := waits_at hd hi (l := D25.getD 24 []) rfl
      refine wpOp_value h1 h4 (ex_fa h2 (by omega) o6) ?_
      rw [h3]
      exact ⟨_, put (by decide) _, v', b, hG.pure (by omega) (by unfold yields; omega) (fun d _ => by omega) (fun d _ => by omega) rfl⟩
    · obtain ⟨o, h1, h2, h3, h4⟩ := looks_at ho (i := 25) rfl
      have hw := waits_at hd hi (l := D25.getD 25 []) rfl
      have hap := hw.2 14 (by decide)
      obtain ⟨g, cp, hvv⟩ := hG.vs 3 (by omega) (by rw [lA_at (by omega) (by omega)]; exact hap)
      have hcel := hG.cel 3 (by omega) (by omega)
      refine wpOp_skip h1 h4 (ex_st h2 (by omega) (got (j := 24) (s := 119) (by omega) (by unfold yields; omega) rfl (by decide) (by omega) (hw.2 24 (by decide))) ((got (j := 14) (s := 111) (by omega) (by unfold yields; omega) rfl (by decide) (by omega) (hw.2 14 (by decide))).trans hvv) hcel.1 hcel.2) ?_
      rw [h3]
      have := hG.stored (c := 3) (by omega) (by omega) hw.1 (hw.2 11 (by decide)) hap
      rw [hvv] at this
      exact ⟨y, rfl, v', b, this⟩
    · obtain ⟨o, h1, h2, h3, h4⟩ := looks_at ho (i := 26) rfl
      have hw := waits_at hd hi (l := D25.getD 26 []) rfl
      refine wpOp_value h1 h4 (ex_fa h2 (by omega) o6) ?_
      rw [h3]
      exact ⟨_, put (by decide) _, v', b, hG.pure (by omega) (by unfold yields; omega) (fun d _ => by omega) (fun d _ => by omega) rfl⟩
    · obtain ⟨o, h1, h2, h3, h4⟩ := looks_at ho (i := 27) rfl
      have hw := waits_at hd hi (l := D25.getD 27 []) rfl
      have hap := hw.2 19 (by decide)
      obtain ⟨g, cp, hvv⟩ := hG.vs 4 (by omega) (by rw [lA_at (by omega) (by omega)]; exact hap)
      have hcel := hG.cel 4 (by omega) (by omega)
      refine wpOp_skip h1 h4 (ex_st h2 (by omega) (got (j := 26) (s := 120) (by omega) (by unfold yields; omega) rfl (by decide) (by omega) (hw.2 26 (by decide))) ((got (j := 19) (s := 116) (by omega) (by unfold yields; omega) rfl (by decide) (by omega) (hw.2 19 (by decide))).trans hvv) hcel.1 hcel.2) ?_
      rw [h3]
      have := hG.stored (c := 4) (by omega) (by omega) hw.1 (hw.2 16 (by decide)) hap
      rw [hvv] at this
      exact ⟨y, rfl, v', b, this⟩
  · rintro L y w' ⟨v', b, hG⟩ hr
    have al := all_up (by rw [hG.ls, hsz]) hor hr
    have tA' : ∀ c, 1 ≤ c → c < 5 → lA L c = true := fun c h1 h5 => by rw [lA_at h1 h5]; exact al _ (by omega)
    have tS' : ∀ c, 1 ≤ c → c < 5 → lS L c = true := fun c h1 h5 => by rw [lS_at h1 h5]; exact al _ (by omega)
    have n0 : lA L 0 = false := by unfold lA; rw [if_neg (by omega)]
    refine hQ y v' w' (Fam.ext (hG.fam.less fun g hg => .inl hg) fun c hc => ?_) ⟨fun c hc => ?_⟩ hG.oth hG.bel
    · by_cases e : c = 0
      · subst e; simp [n0]
      · simp [e, tA' c (by omega) hc]
    · by_cases e : c = 0
      · subst e; exact hG.nul
      · have := hG.cel c (by omega) hc
        rw [tS' c (by omega) hc] at this
        simpa [e] using this

theorem So.ext {w : World} {r : Ru} {C : Nat} {K' : Nat → Prop} {v v2 : Nat → Value} {n n2 : Nat → Nat} {xs xs2 : Nat → List Value} {wr : World} (h : So w r C K' v n xs wr) (e : ∀ c, c < 5 → v2 c = v c ∧ n2 c = n c ∧ xs2 c = xs c) : So w r C K' v2 n2 xs2 wr :=
  ⟨h.rul, h.res, ⟨fun c hc => by rw [(e c hc).1]; exact h.fiv.c c hc⟩, Fam.ext h.fam e, h.kin, h.cc, h.below⟩
/-- rows behind t steps, but the states are those behind one more: then one more for each -/
theorem So.step {w : World} {r : Ru} {C : Nat} {K' : Nat → Prop} {v : Nat → Value} {t k : Nat} {tz lx ly : Int} {rd : Rx} {W6 : World} (hk : ∀ g, kk w C g → K' g)
    (h : So w r C K' v (fun c => if c = 0 then (xp r (t + 1)).1.length else t + 1) (fun c => if c = 0 then flS (xp r (t + 1)).1 else fx r t c ++ new25 k tz lx ly rd c) W6)
    (f1 : fx r (t + 1) 1 = fx r t 1 ++ [.int .i64 (k : Int)]) (f2 : fx r (t + 1) 2 = fx r t 2 ++ [.int .i64 tz]) (f3 : fx r (t + 1) 3 = fx r t 3 ++ [.int .i64 lx, .int .i64 ly]) (f4 : fx r (t + 1) 4 = fx r t 4 ++ cellsR rd) : So w r C (kk w C) v (fn r (t + 1)) (fx r (t + 1)) W6 := by
  refine (h.less hk (fun g q => q)).ext fun c hc => ?_
  rcases (show c = 0 ∨ c = 1 ∨ c = 2 ∨ c = 3 ∨ c = 4 by omega) with rfl | rfl | rfl | rfl | rfl
  · exact ⟨rfl, rfl, rfl⟩
  · exact ⟨rfl, rfl, f1⟩
  · exact ⟨rfl, rfl, f2⟩
  · exact ⟨rfl, rfl, f3⟩
  · exact ⟨rfl, rfl, f4⟩

end Go.Proofs.YtjageagnclmnjaaGreatDoor.D
