/- PROVED: what the document's own FRight answers. CONDITIONS: none beyond each theorem's own. -/
import Derived.Test.YtmhdodlgbbaonaaBLine
namespace Go.Proofs.Ytmhdodlgbbaonaa
open Go.RowKit

theorem own_two (w : World) (x y : Int) : (w.alloc (.cells #[.int .i64 x, .int .i64 y] 3)).ownsRow w.heap.size 3 1 (.slice (some ⟨w.heap.size, 0, none⟩) 2 2) 2 [.int .i64 x, .int .i64 y] :=
  ⟨rfl, .inr ⟨w.heap.size, 2, #[.int .i64 x, .int .i64 y], rfl, Nat.le_refl _, (by show (w.heap.push _)[w.heap.size]? = _; simp), Nat.le_refl _, by unfold maxLen; omega, rfl, rfl⟩⟩

theorem bright_flat (R B : Int) (z : List Int) : (z.length ≤ 299 ∧ ∀ j, j < 2 + z.length → inr ((R :: B :: z).getD j 0)) ↔ bright R B z := by
  constructor
  · rintro ⟨h1, h2⟩
    refine ⟨h2 0 (by omega), h2 1 (by omega), by omega, fun j hj => ?_⟩
    have := h2 (j + 1 + 1) (by omega)
    simpa using this
  · rintro ⟨h1, h2, h3, h4⟩
    refine ⟨by omega, fun j hj => ?_⟩
    match j with
    | 0 => exact h1
    | 1 => exact h2
    | j + 1 + 1 => have := h4 j (by omega); simpa using this

/-- whether the first k of them are right, and there are few enough -/
def upTo (l : Nat) (L : List Int) : Nat → Bool
  | 0 => decide ((l : Int) ≤ 299)
  | k + 1 => upTo l L k && decide (0 ≤ L.getD k 0) && decide (L.getD k 0 ≤ 1099511627776)
theorem upTo_iff (l : Nat) (L : List Int) (k : Nat) : upTo l L k = true ↔ (l ≤ 299 ∧ ∀ j, j < k → inr (L.getD j 0)) := by
  induction k with
  | zero => simp only [upTo, decide_eq_true_eq]; exact ⟨fun h => ⟨by omega, fun j hj => by omega⟩, fun h => by omega⟩
  | succ k ih =>
    simp only [upTo, Bool.and_eq_true, decide_eq_true_eq, ih]
    constructor
    · rintro ⟨⟨⟨h1, h2⟩, h3⟩, h4⟩
      refine ⟨h1, fun j hj => ?_⟩
      by_cases e : j = k
      · subst e; exact ⟨h3, h4⟩
      · exact h2 j (by omega)
    · rintro ⟨h1, h2⟩
      exact ⟨⟨⟨h1, fun j hj => h2 j (by omega)⟩, (h2 k (by omega)).1⟩, (h2 k (by omega)).2⟩
theorem upTo_bright (R B : Int) (z : List Int) : decide (bright R B z) = upTo z.length (R :: B :: z) (2 + z.length) := by
  rw [Bool.eq_iff_iff, upTo_iff, decide_eq_true_eq]; exact (bright_flat R B z).symm

/-- the loop over all of them, wherever they lie -/
structure Flat (w w2 : World) (t : Value) (L : List Int) : Prop where
  is : ∃ ao cap, t = .slice ao L.length cap ∧ Row w2 ao L
  below : Below w.heap.size w w2

theorem flat_of {w w2 : World} {x y : Int} {v' : Value} {z : List Int} (ho : w2.ownsRow w.heap.size 3 1 v' (2 + z.length) ([.int .i64 x, .int .i64 y] ++ z.map (Value.int .i64)))
    (hg : (w.alloc (.cells #[.int .i64 x, .int .i64 y] 3)).grownBy w2 (some w.heap.size)) : Flat w w2 v' (x :: y :: z) := by
  refine ⟨?_, ?_⟩
  · have hl : (x :: y :: z).length = 2 + z.length := by simp; omega
    have ho' : w2.ownsRow w.heap.size 3 1 v' (x :: y :: z).length ((x :: y :: z).map (Value.int .i64)) := by rw [hl]; exact ho
    exact owned_row ho'
  · have b1 := balloc (Below.refl w.heap.size w) (.cells #[.int .i64 x, .int .i64 y] 3)
    exact b1.grown hg b1.size (fun q hq => by injection hq with hq; omega)

theorem run_append_none (w : World) (b n c c2 : Nat) (h : n ≤ c) : (Builtin.append_ #[22, 22] 22 #[.slice (some ⟨b, 0, none⟩) n c, .slice none 0 c2]).run Try.prog w = .ok (.slice (some ⟨b, 0, none⟩) n c) w := by
  obtain ⟨i0, hi, _, _, _⟩ := info_parts Try.info3
  simp [Builtin.append_, Builtin.lenOf, Builtin.firstCells, run_underlying Try.underlying22, sizeOf, typeInfo, hi, h, storeCells]

/-- two numbers of the call's own, and a row that came in behind them -/
theorem append_two {ops : Array Oper} {rest : List Oper} {o : Oper} {act : Act} {Q : Exit → Act → World → Prop} (w : World) (hgd : o.guard = none) (s x : Operand)
    (hop : o.op = .call { callee := .builtin .append, args := #[s, x], argTypes := #[22, 22] }) (hty : o.type = 22) (y0 y1 : Int) (a : Option Addr) (cap : Nat) (z : List Int)
    (hs : act.eval s = .slice (some ⟨w.heap.size, 0, none⟩) 2 2) (hx : act.eval x = .slice a z.length cap) (hz : Row w a z) (hl : z.length ≤ 17592186044414)
    (h : ∀ v' w2, Flat w w2 v' (y0 :: y1 :: z) → wpList Try.prog ops Q rest (act.put o.dst v') w2) : wpList Try.prog ops Q (o :: rest) act (w.alloc (.cells #[.int .i64 y0, .int .i64 y1] 3)) := by
  obtain ⟨i0, hi, hz0, hz1, hz2⟩ := info_parts Try.info3
  cases a with
  | none =>
    have he : z = [] := by
      rcases hz with e | ⟨b, off, e, _⟩
      · exact e
      · cases e
    subst he
    refine wpList_plain hgd fun K hK => ?_
    have hr := run_append_none (w.alloc (.cells #[.int .i64 y0, .int .i64 y1] 3)) w.heap.size 2 2 cap (by omega)
    unfold Oper.wp execOp
    simp only [hop, hty, resolve, invoke, builtin, Sem.run_bind, Sem.run_pure, Result.andThen_ok, List.map_toArray, List.map_cons, List.map_nil, hs, hx, List.length_nil, hr]
    refine hK _ _ (h _ _ ⟨⟨_, 2, rfl, ?_⟩, balloc (Below.refl _ _) _⟩)
    exact (owned_row (R := [y0, y1]) (own_two w y0 y1)).elim fun ao ⟨c, e, r⟩ => by
      injection e with e _ _
      rw [e]; exact r
  | some ad =>
    have hz' := hz.alloc (.cells #[.int .i64 y0, .int .i64 y1] 3)
    refine wpList_append_own (w.alloc (.cells #[.int .i64 y0, .int .i64 y1] 3)) hgd s x 22 hop w.heap.size 3 i0 (.int .i64 0) 1 8 Try.underlying22 hi hz0 hz1 hz2 rfl (by decide) _ _ _ hs (own_two w y0 y1) ad z.length cap (z.map (Value.int .i64)) hx (by simp)
      (fun j u hu => ?_) (by simp [Value.oneCell']) (by unfold maxLen; omega) (by omega) (by simp) (fun v' w2 ho hg _ => h _ _ (flat_of ho hg))
    rcases hz' with e | ⟨b, off, e, k⟩
    · subst e; simp at hu
    · injection e with e
      subst e
      rw [Addr.add_lit]
      have hj : j < z.length := by
        have := (List.getElem?_eq_some_iff.1 hu).1
        simpa using this
      rw [k j hj, ← hu]
      simp [List.getD_eq_getElem?_getD, hj]

set_option maxHeartbeats 1600000 in
theorem fright_any (R B : Int) (a : Option Addr) (cap : Nat) (z : List Int) (w : World) (hz : Row w a z) (hl : z.length ≤ 17592186044414) :
    Calls Try.prog 12 #[.agg #[.int .i64 R, .int .i64 B], .slice a z.length cap] w fun e w' => e = .returned (.bool (decide (bright R B z))) ∧ Below w.heap.size w w' := by
  rw [upTo_bright]
  have hLL : (R :: B :: z).length = 2 + z.length := by simp; omega
  have hz1 := hz.alloc (.cells #[.int .i64 R, .int .i64 B] 28)
  have hB0 := balloc (Below.refl w.heap.size w) (.cells #[.int .i64 R, .int .i64 B] 28)
  have hap := fun ops rest o act Q hgd s x hop hty hs hx h => append_two (ops := ops) (rest := rest) (o := o) (act := act) (Q := Q) (w.alloc (.cells #[.int .i64 R, .int .i64 B] 28)) hgd s x hop hty R B a cap z hs hx hz1 hl h
  replace hap : Hid _ := hap
  have T1 := True.intro
  obtain ⟨l, hl2⟩ : ∃ l, z.length = l := ⟨_, rfl⟩
  have HL : Hid (z.length = l) := hl2
  rw [hl2] at hl hLL ⊢
  go_enter Try.func12, Try.ntmps12
  go_wp2_with (at_builtin; refine hap.out _ _ _ _ _ rfl _ _ rfl rfl (by simp; rfl) (by rw [hl2]; rfl) ?_; intro v' w2 hf; clear hap; obtain ⟨⟨ao, c2, rfl, hr⟩, hb⟩ := hf; rw [hLL])
  replace hb := bthen hB0 hb
  clear hB0 hz1 hz T1
  obtain ⟨L, hL⟩ : ∃ L, R :: B :: z = L := ⟨_, rfl⟩
  rw [hL] at hLL hr
  replace hLL : Hid _ := hLL
  replace hl2 : Hid _ := hl2
  obtain ⟨N, hN⟩ : ∃ N, 2 + l = N := ⟨_, rfl⟩
  rw [hN] at hLL ⊢
  have hfin : Hid (upTo l (R :: B :: z) (2 + l) = upTo l L N) := by rw [hL, hN]; exact (rfl : _ = _)
  replace hL : Hid _ := hL
  have hNI : 2 + (l : Int) = (N : Int) := by omega
  have hNb : N ≤ 17592186044416 := by omega
  replace hN : Hid _ := hN
  have hs2 : Hid (upTo l L 0 = decide ((l : Int) ≤ 299)) := rfl
  have hnx2 : Hid (∀ k, upTo l L (k + 1) = (upTo l L k && decide (0 ≤ L.getD k 0) && decide (L.getD k 0 ≤ 1099511627776))) := fun k => rfl
  generalize upTo l L = P at hs2 hnx2 hfin
  go_loopw [5, 19] (fun o i wr => ∃ k : Nat, k ≤ N ∧ i = .int .i64 k ∧ o = .bool (P k) ∧ w2 = wr) (fun _ i _ => N - (intOf i).toNat)
  case atStart => exact ⟨0, Nat.zero_le _, rfl, by rw [hs2.out], rfl⟩
  case round =>
    obtain ⟨k, hk, rfl, rfl, rfl⟩ := hrel
    by_cases hlt : k < N
    · obtain ⟨b, off, rfl, e1⟩ := hr.at (by rw [hLL.out]; omega)
      have cx := e1 k (by rw [hLL.out]; omega)
      have hkI : (k : Int) < N := by omega
      have hp := hnx2.out k
      clear e1 hs2
      generalize L.getD k 0 = x at cx hp
      generalize P k = pk at hp ⊢
      generalize hpp : P (k + 1) = pn at hp
      replace hpp : Hid _ := hpp
      cases pk with
      | false =>
        replace hp : Hid (pn = false) := hp
        go_wp2
        go_roundw
        case rel => exact ⟨k + 1, by omega, by go_num, by rw [hpp.out, hp.out], by first | rfl | trivial⟩
        case measure => simp [intOf]; omega
      | true =>
        by_cases h0 : 0 ≤ x
        · by_cases h1 : x ≤ 1099511627776
          · replace hp : Hid (pn = true) := by rw [hp, decide_eq_true h0, decide_eq_true h1]; rfl
            go_wp2
            go_roundw
            case rel => exact ⟨k + 1, by omega, by go_num, by rw [hpp.out, hp.out], by first | rfl | trivial⟩
            case measure => simp [intOf]; omega
          · replace hp : Hid (pn = false) := by rw [hp, decide_eq_true h0, decide_eq_false h1]; rfl
            have d1 : decide (x ≤ 1099511627776) = false := decide_eq_false h1
            clear h1
            go_wp2
            go_roundw
            case rel => exact ⟨k + 1, by omega, by go_num, by rw [hpp.out, hp.out], by first | rfl | trivial⟩
            case measure => simp [intOf]; omega
        · replace hp : Hid (pn = false) := by rw [hp, decide_eq_false h0]; rfl
          have d0 : decide (0 ≤ x) = false := decide_eq_false h0
          clear h0
          go_wp2
          go_roundw
          case rel => exact ⟨k + 1, by omega, by go_num, by rw [hpp.out, hp.out], by first | rfl | trivial⟩
          case measure => simp [intOf]; omega
    · obtain rfl : k = N := by omega
      go_wp2
      go_ret
      exact ⟨by rw [hfin.out]; rfl, hb⟩

end Go.Proofs.Ytmhdodlgbbaonaa
