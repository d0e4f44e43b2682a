/- PROVED: packets that are gathered, or copied; what slices.Clone answers. CONDITIONS: none beyond each theorem's own. -/
import Derived.Test.YtngmjmehkehbeaaRight
namespace Go.Proofs.Ytngmjmehkehbeaa
open Go.RowKit

theorem Try.info31 : (Try.prog.info? 31).map (fun i => (i.zero, i.size, i.bytes)) = some (some (.agg #[.int .i64 0, .int .i64 0]), 2, 16) := by kernel_rfl

/-- packets that may be written, in block g -/
structure PCells (w : World) (g : Nat) (ps : Rs) : Prop where
  c : ∀ j, j < ps.length → w.cell? ⟨g, j * 2, none⟩ = some (.int .i64 (ps.getD j (0, 0)).1) ∧ w.cell? ⟨g, j * 2 + 1, none⟩ = some (.int .i64 (ps.getD j (0, 0)).2)
  fz : ∀ i, i < ps.length * 2 → w.frozen? ⟨g, i, none⟩ = false
theorem PCells.row {w : World} {g : Nat} {ps : Rs} (h : PCells w g ps) : PRow w (some ⟨g, 0, none⟩) ps := .inr ⟨g, 0, rfl, fun j hj => by rw [Nat.zero_add]; exact h.c j hj⟩

/-- the cells of a row of packets, one after another -/
theorem PRow.flat {w : World} {b off : Nat} {ps : Rs} (h : ∀ j, j < ps.length → w.cell? ⟨b, off + j * 2, none⟩ = some (.int .i64 (ps.getD j (0, 0)).1) ∧ w.cell? ⟨b, off + j * 2 + 1, none⟩ = some (.int .i64 (ps.getD j (0, 0)).2))
    (j : Nat) (u : Value) (hu : (flat ps)[j]? = some u) : w.cell? ⟨b, off + j, none⟩ = some u := by
  have hj : j < ps.length * 2 := by
    have := (List.getElem?_eq_some_iff.1 hu).1
    rw [flat_len] at this; exact this
  obtain ⟨h1, h2⟩ := h (j / 2) (by omega)
  obtain ⟨f1, f2⟩ := flat_get ps (j / 2) (by omega)
  rcases Nat.mod_two_eq_zero_or_one j with e | e
  · have e2 : j / 2 * 2 = j := by omega
    rw [e2] at f1 h1
    rw [f1] at hu
    rw [h1]; exact hu
  · have e2 : j / 2 * 2 + 1 = j := by omega
    rw [e2] at f2
    rw [f2] at hu
    rw [show off + j / 2 * 2 + 1 = off + j by omega] at h2
    rw [h2]; exact hu

theorem powned {w : World} {base : Nat} {t : Value} {n : Nat} {ps : Rs} (hn : ps.length = n) (h : w.ownsRow base 31 2 t n (flat ps)) : (t = .slice none 0 0 ∧ ps = []) ∨ ∃ g cap, t = .slice (some ⟨g, 0, none⟩) n cap ∧ n ≤ cap ∧ base ≤ g ∧ PCells w g ps := by
  subst hn
  obtain ⟨hl, ⟨e, e2⟩ | ⟨g, cap, cur, e, hg, hh, hnc, _, hcs, htk⟩⟩ := h
  · exact .inl ⟨e, List.eq_nil_of_length_eq_zero e2⟩
  · refine .inr ⟨g, cap, e, hnc, hg, ⟨fun j hj => ?_, fun i hi => ?_⟩⟩
    · obtain ⟨f1, f2⟩ := flat_get ps j hj
      rw [← htk, List.getElem?_take_of_lt (by omega)] at f1 f2
      simp [World.cell?, hh]
      exact ⟨by simpa using f1, by simpa using f2⟩
    · simp [World.frozen?, hh]
theorem own_kept2 {wr w1 : World} {base : Nat} {t : Value} {n : Nat} {xs : List Value} (h : wr.ownsRow base 31 2 t n xs) (b : Below wr.heap.size wr w1) : w1.ownsRow base 31 2 t n xs := by
  obtain ⟨hl, h2⟩ := h
  refine ⟨hl, ?_⟩
  rcases h2 with e | ⟨g, cap, cur, e, hg, hh, r⟩
  · exact .inl e
  · refine .inr ⟨g, cap, cur, e, hg, ?_, r⟩
    have : g < wr.heap.size := lt_of_block hh
    rw [b.block g this]; exact hh

/-- what has been gathered so far, in a row of the call's own -/
structure PGath (w : World) (t : Value) (wr : World) (R : Rs) : Prop where
  own : wr.ownsRow w.heap.size 31 2 t R.length (flat R)
  below : Below w.heap.size w wr
theorem PGath.start (w : World) : PGath w (.slice none 0 0) w [] := ⟨World.ownsRow_nil _ _ _ _, Below.refl _ _⟩
theorem PGath.next {w : World} {t t' : Value} {wr w1 w2 : World} {R : Rs} (h : PGath w t wr R) {x y : Int}
    (hb : Below wr.heap.size wr w1) (ho : w2.ownsRow w.heap.size 31 2 t' (R.length + 1) (flat R ++ [.int .i64 x, .int .i64 y])) {o : Obj} (hg : (w1.alloc o).grownBy w2 t.ownBlock) : PGath w t' w2 (R ++ [(x, y)]) := by
  refine ⟨by rw [flat_append, List.length_append]; exact ho, ?_⟩
  have b1 := balloc (bthen h.below hb) o
  exact b1.grown hg b1.size (fun q hq => (h.own.lt q hq).1)
theorem PGath.done {w : World} {t : Value} {wr : World} {R : Rs} (h : PGath w t wr R) : ∃ ao cap, t = .slice ao R.length cap ∧ PRow wr ao R := by
  rcases powned rfl h.own with ⟨e, e2⟩ | ⟨g, cap, e, _, _, hc⟩
  · subst e2; exact ⟨none, 0, e, .inl rfl⟩
  · exact ⟨_, cap, e, hc.row⟩
theorem cell_two_new (w : World) (x y : Int) (j : Nat) (u : Value) (h : [Value.int .i64 x, .int .i64 y][j]? = some u) : (w.alloc (.cells #[.int .i64 x, .int .i64 y] 31)).cell? ((⟨w.heap.size, 0, none⟩ : Addr).add j) = some u := by
  rw [Addr.add_lit, Nat.zero_add]
  exact (World.cell?_alloc_at (w := w) #[.int .i64 x, .int .i64 y] 31 w.heap.size j rfl).trans (by simpa using h)

set_option maxHeartbeats 800000 in
theorem clone_any (b off cap : Nat) (ps : Rs) (n : Nat) (w : World) (hn : ps.length = n) (h0 : 0 < n) (hl : n ≤ 8796093022206) (h : ∀ j, j < ps.length → w.cell? ⟨b, off + j * 2, none⟩ = some (.int .i64 (ps.getD j (0, 0)).1) ∧ w.cell? ⟨b, off + j * 2 + 1, none⟩ = some (.int .i64 (ps.getD j (0, 0)).2)) :
    Calls Try.prog 15 #[.slice (some ⟨b, off, none⟩) n cap] w fun e w' => ∃ g c, e = .returned (.slice (some ⟨g, 0, none⟩) n c) ∧ n ≤ c ∧ w.heap.size ≤ g ∧ PCells w' g ps ∧ Below w.heap.size w w' := by
  obtain ⟨i0, hi, hz0, hz1, hz2⟩ := info_parts Try.info31
  have hf := PRow.flat h
  have hfl := flat_len ps
  have hf1 := flat_one ps
  have hbl : b < w.heap.size := block_lt (h 0 (by omega)).1
  have hpo : Hid (∀ B w' v, w.heap.size ≤ B → w'.ownsRow B 31 2 v n (flat ps) → ∃ g c, v = .slice (some ⟨g, 0, none⟩) n c ∧ n ≤ c ∧ w.heap.size ≤ g ∧ PCells w' g ps) := fun B w' v hB ho => by
    rcases powned hn ho with ⟨_, e⟩ | ⟨g, c, q1, q2, q3, q4⟩
    · subst e; simp at hn; omega
    · exact ⟨g, c, q1, q2, by omega, q4⟩
  generalize flat ps = F at *
  rw [hn] at hfl
  replace hf : Hid _ := hf
  replace hf1 : Hid _ := hf1
  clear h hn
  have he : ∀ w : World, (binOp .eql 22 (.slice (some ⟨b, off, none⟩) n cap) (.slice none 0 0)).run Try.prog w = .ok (.bool false) w := fun _ => rfl
  go_enter Try.func15, Try.ntmps15
  go_wp2_with (at_builtin; refine wpList_append_grows _ rfl _ _ 22 rfl 31 i0 (.agg #[.int .i64 0, .int .i64 0]) 2 16 Try.underlying22 hi hz0 hz1 hz2 rfl (by decide) (some ⟨w.heap.size, 0, none⟩) 0 0 [] rfl ?hn ?lo ?olds ⟨b, off, none⟩ n cap F rfl hfl ?c1 hf1.out ?full ?b1 ?b2 ?grow)
  case lo => rfl
  case olds => intro q _ j u hu; simp at hu
  case c1 =>
    intro j u hu
    rw [Addr.add_lit, World.cell?_alloc_past _ _ _ hbl]
    exact hf.out j u hu
  case full => omega
  case b1 => unfold maxLen; omega
  case b2 => omega
  case grow =>
    intro v' w2 hown hgrow
    have hB := (balloc (Below.refl w.heap.size w) (.cells #[] 31))
    obtain ⟨g, c, rfl, q1, q2, q3⟩ := hpo.out _ _ _ (Nat.le_succ _) hown
    have hB2 := hB.grown hgrow hB.size (fun k h => by cases h)
    clear hown hgrow hpo hf hf1
    go_wp2
    go_ret
    exact ⟨g, c, rfl, q1, q2, q3, hB2⟩

end Go.Proofs.Ytngmjmehkehbeaa
