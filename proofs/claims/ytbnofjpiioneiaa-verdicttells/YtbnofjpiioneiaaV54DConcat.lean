/- PROVED: what slices.Grow of nothing and slices.Concat of two rows of pairs answer. CONDITIONS: none beyond each theorem's own. -/
import Derived.Test.YtbnofjpiioneiaaB27Rvp
import Derived.Lib.AppendZerosOnto
import Derived.Lib.SliceRun
import Derived.Lib.Walk
namespace Go.Proofs.Ytbnofjpiioneiaa.D
open Go.RowKit K

set_option maxHeartbeats 3200000 in
theorem grow_zero (w : World) : Calls Try.prog 29 #[.slice none 0 0, .int .i64 0] w fun e w' => e = .returned (.slice none 0 0) ∧ w' = w := by
  go_enter Try.func29, Try.ntmps29
  go_wp2
  go_ret
  exact ⟨rfl, rfl⟩

set_option maxHeartbeats 3200000 in
theorem grow_some (n : Nat) (h0 : 0 < n) (hn : n ≤ 4194304) (w : World) : Calls Try.prog 29 #[.slice none 0 0, .int .i64 n] w fun e w' => ∃ G, e = .returned (.slice (some ⟨w.heap.size, 0, none⟩) 0 G) ∧ G ≤ maxLen ∧ n ≤ G ∧ w' = (w.alloc (.cells (Builtin.zeroCells #[.int .i64 0, .int .i64 0] n ++ Builtin.zeroCells #[.int .i64 0, .int .i64 0] (G - n)) 22)).drew := by
  obtain ⟨i0, hi, hz0, hz1, hz2⟩ := info_parts Try.info22
  have hGn : n ≤ grownCap w n 0 22 := grownCap_ge w _ _ _
  have hGm := grownCap_le_maxLen w n 0 22 (by unfold maxLen; omega)
  have hrz : ∀ ty, (Builtin.append_ #[25, 3] ty #[.slice none 0 0, .int .i64 (n : Int)]).run Try.prog w = .ok (.slice (some ⟨w.heap.size, 0, none⟩) n (grownCap w n 0 22)) (w.drew.alloc (.cells (#[] ++ Builtin.zeroCells #[.int .i64 0, .int .i64 0] n ++ Builtin.zeroCells #[.int .i64 0, .int .i64 0] (grownCap w n 0 22 - n)) 22)) := fun ty => by
    have h := Lib.run_append_grow_zeros w 25 3 ty 22 i0 (.agg #[.int .i64 0, .int .i64 0]) .i64 .i64 Try.underlying25 Try.underlying3 hi hz0 none 0 0 [] (run_firstCells_none w.drew i0.size 0 0 0) n h0 (by omega) (by omega) (by omega) (by rw [hz2]; omega) (by rw [hz2]; exact growslice_fits (by omega) (by omega))
    simp only [Nat.zero_add] at h
    exact h
  obtain ⟨G, hG⟩ : ∃ G, grownCap w n 0 22 = G := ⟨_, rfl⟩
  rw [hG] at hrz hGn hGm
  have hG63 : G ≤ 9223372036854775807 := by unfold maxLen at hGm; omega
  have hpos : (0 : Int) < n := by omega
  have hd : decide ((n : Int) < 0) = false := decide_eq_false (by omega)
  clear hG
  go_enter Try.func29, Try.ntmps29
  go_wp2_with (at_builtin; refine Lib.wpList_append_run _ rfl _ _ _ _ rfl _ _ rfl rfl _ _ (hrz _) ?_)
  all_goals
    go_ret
    exact ⟨G, rfl, hGm, hGn, rfl⟩

theorem grow_any (n : Nat) (hn : n ≤ 4194304) (w : World) : Calls Try.prog 29 #[.slice none 0 0, .int .i64 n] w fun e w' => ∃ t, e = .returned t ∧ VGath w t w' [] := by
  rcases Nat.eq_zero_or_pos n with rfl | h0
  · refine (grow_zero w).mono ?_
    rintro e w' ⟨rfl, rfl⟩
    exact ⟨_, rfl, VGath.start _⟩
  · refine (grow_some n h0 hn w).mono ?_
    rintro e w' ⟨G, rfl, hG, hnG, rfl⟩
    refine ⟨_, rfl, ⟨rfl, .inr ⟨w.heap.size, G, (Builtin.zeroCells #[.int .i64 0, .int .i64 0] n ++ Builtin.zeroCells #[.int .i64 0, .int .i64 0] (G - n)), rfl, Nat.le_refl _, ?_, Nat.zero_le _, hG, ?_, ?_⟩⟩, Below.drew (balloc (Below.refl _ _) _)⟩
    · exact (MapKept.heap_alloc w _).1
    · simp [size_zeroCells]; omega
    · rfl

theorem run_append_none (w : World) (t : Value) (n : Nat) (xs : List Value) (base c2 : Nat) (h : w.ownsRow base 22 2 t n xs) : (Builtin.append_ #[25, 25] 25 #[t, .slice none 0 c2]).run Try.prog w = .ok t w := by
  obtain ⟨i0, hi, _, _, _⟩ := info_parts Try.info22
  obtain ⟨_, ⟨rfl, _⟩ | ⟨g, cap, cur, rfl, _, _, hc, _⟩⟩ := h
  · simp [Builtin.append_, Builtin.lenOf, Builtin.firstCells, run_underlying Try.underlying25, sizeOf, typeInfo, hi]
  · simp [Builtin.append_, Builtin.lenOf, Builtin.firstCells, run_underlying Try.underlying25, sizeOf, typeInfo, hi, hc, storeCells]

set_option maxRecDepth 100000 in
/-- a row of pairs behind those that have been gathered -/
theorem append_rowV {ops : Array Oper} {rest : List Oper} {o : Oper} {act : Act} {Q : Exit → Act → World → Prop} (w0 w : World) (hgd : o.guard = none) (s x : Operand)
    (hop : o.op = .call { callee := .builtin .append, args := #[s, x], argTypes := #[25, 25] }) (hty : o.type = 25) (t : Value) (ps ys : List (Int × Int)) (a : Option Addr) (cap n : Nat) (hn : ys.length = n)
    (hs : act.eval s = t) (hx : act.eval x = .slice a n cap) (hG : VGath w0 t w ps) (hv : VRow w a ys) (hl : ps.length + n ≤ 4194304)
    (h : ∀ v' w2, VGath w0 v' w2 (ps ++ ys) → wpList Try.prog ops Q rest (act.put o.dst v') w2) : wpList Try.prog ops Q (o :: rest) act w := by
  obtain ⟨i0, hi, hz0, hz1, hz2⟩ := info_parts Try.info22
  subst hn
  cases a with
  | none =>
    have he : ys = [] := by
      rcases hv with e | ⟨b, off, e, _⟩
      · exact e
      · cases e
    subst he
    refine wpList_plain hgd fun K hK => ?_
    have hr := run_append_none w t _ _ _ cap hG.own
    unfold Oper.wp execOp
    simp only [hop, hty, resolve, invoke, builtin, Sem.run_bind, Sem.run_pure, Result.andThen_ok, List.map_toArray, List.map_cons, List.map_nil, hs, hx, List.length_nil, hr]
    exact hK _ _ (h _ _ (by rw [List.append_nil]; exact hG))
  | some ad =>
    have hsz := hG.below.size
    refine wpList_append_own w hgd s x 25 hop w0.heap.size 22 i0 (.agg #[.int .i64 0, .int .i64 0]) 2 16 Try.underlying25 hi hz0 hz1 hz2 rfl (by decide) _ _ _ hs hG.own ad ys.length cap (flatV ys) hx (flatV_len ys)
      (fun j u hu => ?_) (flatV_one ys) (by unfold maxLen; omega) (by omega) hsz (fun v' w2 ho hg _ => h _ _ ⟨?_, ?_⟩)
    · have hj : j < ys.length * 2 := by
        have := (List.getElem?_eq_some_iff.1 hu).1
        rw [flatV_len] at this; exact this
      rcases hv with e | ⟨b, off, e, k⟩
      · subst e; simp at hj
      · injection e with e
        subst e
        rw [Addr.add_lit]
        obtain ⟨h1, h2⟩ := k (j / 2) (by omega)
        obtain ⟨f1, f2⟩ := flatV_get ys (j / 2) (by omega)
        rcases Nat.mod_two_eq_zero_or_one j with e | e
        · have e2 : j / 2 * 2 = j := by omega
          rw [e2] at f1 h1
          rw [f1] at hu
          rw [h1]; exact hu
        · have e2 : j / 2 * 2 + 1 = j := by omega
          rw [e2] at f2
          rw [f2] at hu
          rw [show off + j / 2 * 2 + 1 = off + j by omega] at h2
          rw [h2]; exact hu
    · rw [flatV_append, List.length_append]; exact ho
    · exact hG.below.grown hg hsz fun q hq => (hG.own.lt q hq).1

set_option maxHeartbeats 6400000 in
theorem concat_any (S n1 n2 N c1 c2 : Nat) (a1 a2 : Option Addr) (xs ys : List (Int × Int)) (h1 : xs.length = n1) (h2 : ys.length = n2) (hN : n1 + n2 = N) (hl : N ≤ 1048576) (w : World) (s0 : w.cell? ⟨S, 0, none⟩ = some (.slice a1 n1 c1)) (s1 : w.cell? ⟨S, 1, none⟩ = some (.slice a2 n2 c2)) (v1 : VRow w a1 xs) (v2 : VRow w a2 ys) :
    Calls Try.prog 12 #[.slice (some ⟨S, 0, none⟩) 2 2] w fun e w' => ∃ ao cp, e = .returned (.slice ao N cp) ∧ VRow w' ao (xs ++ ys) ∧ Below w.heap.size w w' := by
  have hS : S < w.heap.size := block_lt s0
  have gr := grow_any N (by omega) w
  have d1 : decide ((n1 : Int) < 0) = false := decide_eq_false (by omega)
  have d2 : decide ((N : Int) < 0) = false := decide_eq_false (by omega)
  have d3 : (n1 : Int) + n2 = (N : Int) := by omega
  have n1b : n1 ≤ 1048576 := by omega
  have n2b : n2 ≤ 1048576 := by omega
  replace hN : Hid _ := hN
  replace h1 : Hid _ := h1
  replace h2 : Hid _ := h2
  go_enter Try.func12, Try.ntmps12
  go_wp2
  go_loopw [3, 11] (fun z i wr => w = wr ∧ (i = .int .i64 0 ∧ z = .int .i64 0 ∨ i = .int .i64 1 ∧ z = .int .i64 n1 ∨ i = .int .i64 2 ∧ z = .int .i64 N)) (fun _ i _ => 2 - (intOf i).toNat)
  case atStart => exact ⟨rfl, .inl ⟨rfl, rfl⟩⟩
  case round =>
    obtain ⟨rfl, ⟨rfl, rfl⟩ | ⟨rfl, rfl⟩ | ⟨rfl, rfl⟩⟩ := hrel
    · clear gr d2 d3
      go_wp2
      go_roundw
      case rel => exact ⟨by first | rfl | trivial, .inr (.inl ⟨rfl, rfl⟩)⟩
      case measure => simp [intOf]
    · clear gr d1
      go_wp2
      go_roundw
      case rel => exact ⟨by first | rfl | trivial, .inr (.inr ⟨rfl, rfl⟩)⟩
      case measure => simp [intOf]
    · clear d1 d2 d3
      go_wp2_with (go_at_call 29; refine gr.mono ?_; clear gr; rintro e w1 ⟨t, rfl, hG⟩)
      go_loopw [6, 27] (fun t i wr => i = .int .i64 0 ∧ VGath w t wr [] ∨ i = .int .i64 1 ∧ VGath w t wr ([] ++ xs) ∨ i = .int .i64 2 ∧ VGath w t wr ([] ++ xs ++ ys)) (fun _ i _ => 2 - (intOf i).toNat)
      case atStart => exact .inl ⟨rfl, hG⟩
      case round =>
        clear hG
        obtain ⟨rfl, hG⟩ | ⟨rfl, hG⟩ | ⟨rfl, hG⟩ := hrel
        · have c0 := (hG.below.cell (p := ⟨S, 0, none⟩) hS).trans s0
          have ap := fun ops rest o act Q hgd s x hop hty hs hx h => append_rowV (ops := ops) (rest := rest) (o := o) (act := act) (Q := Q) w wr hgd s x hop hty _ [] xs a1 c1 n1 h1.out hs hx hG (v1.kept hG.below) (by simp; omega) h
          replace ap : Hid _ := ap
          clear s0 s1 v1 v2
          go_wp2_with (at_builtin; refine ap.out _ _ _ _ _ rfl _ _ rfl rfl rfl rfl ?_; clear ap; intro t' w2 hS')
          go_roundw
          case rel => exact .inr (.inl ⟨rfl, hS'⟩)
          case measure => simp [intOf]
        · have c0 := (hG.below.cell (p := ⟨S, 1, none⟩) hS).trans s1
          have ap := fun ops rest o act Q hgd s x hop hty hs hx h => append_rowV (ops := ops) (rest := rest) (o := o) (act := act) (Q := Q) w wr hgd s x hop hty _ ([] ++ xs) ys a2 c2 n2 h2.out hs hx hG (v2.kept hG.below) (by have := h1.out; have := hN.out; simp; omega) h
          replace ap : Hid _ := ap
          clear s0 s1 v1 v2
          go_wp2_with (at_builtin; refine ap.out _ _ _ _ _ rfl _ _ rfl rfl rfl rfl ?_; clear ap; intro t' w2 hS')
          go_roundw
          case rel => exact .inr (.inr ⟨rfl, hS'⟩)
          case measure => simp [intOf]
        · obtain ⟨ao, cp, et, _, hr⟩ := hG.done (n := N) (by rw [List.nil_append, List.length_append, h1.out, h2.out]; exact hN.out)
          subst et
          have hB := hG.below
          clear hG s0 s1 v1 v2
          go_wp2
          go_ret
          exact ⟨ao, cp, rfl, hr, hB⟩

end Go.Proofs.Ytbnofjpiioneiaa.D
