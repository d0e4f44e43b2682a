/- PROVED: what becomes of a row of rivals to which one is added, with room and without. CONDITIONS: none beyond each theorem's own. -/
import Derived.Test.YtjageagnclmnjabGreatDoorC43YWRow
namespace Go.Proofs.YtjageagnclmnjabGreatDoor.Y
set_option maxRecDepth 100000
open Go.RowKit

/-- the cells of rivals -/
def flat : Rs → List Value
  | [] => []
  | r :: t => .int .i64 r.1 :: .int .i64 r.2 :: flat t

theorem flat_len (rs : Rs) : (flat rs).length = rs.length * 2 := by
  induction rs with
  | nil => rfl
  | cons r t ih => simp only [flat, List.length_cons, ih]; omega

theorem flat_append (a b : Rs) : flat (a ++ b) = flat a ++ flat b := by
  induction a with
  | nil => rfl
  | cons r t ih => simp [flat, ih]

theorem flat_get (rs : Rs) : ∀ j, j < rs.length → (flat rs)[j * 2]? = some (.int .i64 (rs.getD j (0, 0)).1) ∧ (flat rs)[j * 2 + 1]? = some (.int .i64 (rs.getD j (0, 0)).2) := by
  induction rs with
  | nil => intro j h; simp at h
  | cons r t ih =>
    intro j h
    cases j with
    | zero => exact ⟨rfl, rfl⟩
    | succ j =>
      have := ih j (by simpa using h)
      rw [show (j + 1) * 2 = j * 2 + 1 + 1 by omega]
      exact this

theorem flat_one (rs : Rs) : ∀ u ∈ flat rs, u.oneCell' = true := by
  induction rs with
  | nil => intro u h; cases h
  | cons r t ih =>
    intro u h
    simp only [flat, List.mem_cons] at h
    rcases h with rfl | rfl | h
    · rfl
    · rfl
    · exact ih u h

theorem Lies.flat {w : World} {g off cap : Nat} {rs : Rs} (h : Lies w g off cap rs) (S : Nat) (hS : S ≤ rs.length) (j : Nat) (u : Value)
    (hu : (flat (rs.take S))[j]? = some u) : w.cell? ⟨g, off + j, none⟩ = some u := by
  have hl : (rs.take S).length = S := by simp; omega
  have hj : j < S * 2 := by
    have := (List.getElem?_eq_some_iff.1 hu).1
    rw [flat_len, hl] at this; exact this
  have gt : ∀ q, q < S → (rs.take S).getD q (0, 0) = rs.getD q (0, 0) := fun q hq => by
    rw [List.getD_eq_getElem?_getD, List.getD_eq_getElem?_getD, List.getElem?_take_of_lt hq]
  have hq : j / 2 < S := by omega
  have fg := flat_get (rs.take S) (j / 2) (by omega)
  rw [gt _ hq] at fg
  rcases Nat.mod_two_eq_zero_or_one j with e | e
  · have e2 : j / 2 * 2 = j := by omega
    rw [e2] at fg
    rw [fg.1] at hu
    have := h.p (j / 2) (by omega)
    rw [e2] at this
    rw [this]; exact hu
  · have e2 : j / 2 * 2 + 1 = j := by omega
    rw [e2] at fg
    rw [fg.2] at hu
    have := h.v (j / 2) (by omega)
    rw [show off + j / 2 * 2 + 1 = off + j by omega] at this
    rw [this]; exact hu

/-- a row whose cells are known is a row of rivals -/
theorem lies_of {w : World} {g off cap : Nat} {rs : Rs} (hle : rs.length ≤ cap) (hs : cap ≤ maxLen) (hc : ∀ j u, (flat rs)[j]? = some u → w.cell? ⟨g, off + j, none⟩ = some u)
    (hr : ∀ i, i < 2 * cap → (w.cell? ⟨g, off + i, none⟩).isSome = true ∧ w.frozen? ⟨g, off + i, none⟩ = false) : Lies w g off cap rs :=
  ⟨hle, hs, fun j hj => hc _ _ (flat_get rs j hj).1, fun j hj => by rw [Nat.add_assoc]; exact hc _ _ (flat_get rs j hj).2, hr⟩

/-- the world at the append: so many draws, and the new one laid in a block of its own -/
abbrev atApp (w : World) (m : Nat) (p v : Int) : World := (w.drewN m).alloc (.cells #[.int .i64 p, .int .i64 v] 106)

theorem atApp_cell {w : World} {m : Nat} {p v : Int} {b i : Nat} (h : b < w.heap.size) : (atApp w m p v).cell? ⟨b, i, none⟩ = w.cell? ⟨b, i, none⟩ :=
  World.cell?_alloc_past (w := w.drewN m) _ _ _ h
theorem atApp_frozen {w : World} {m : Nat} {p v : Int} {b i : Nat} (h : b < w.heap.size) : (atApp w m p v).frozen? ⟨b, i, none⟩ = w.frozen? ⟨b, i, none⟩ :=
  World.frozen?_alloc_past (w := w.drewN m) _ _ _ h
theorem atApp_below (w : World) (m : Nat) (p v : Int) (P : Nat) (h : P ≤ w.heap.size) : Below P w (atApp w m p v) :=
  (below_drewN (Below.refl P w) m).alloc h _
theorem atApp_size (w : World) (m : Nat) (p v : Int) : (atApp w m p v).heap.size = w.heap.size + 1 := by
  simp [atApp]

theorem atApp_news (w : World) (m : Nat) (p v : Int) (j : Nat) (u : Value) (h : [Value.int .i64 p, .int .i64 v][j]? = some u) : (atApp w m p v).cell? ((⟨w.heap.size, 0, none⟩ : Addr).add j) = some u := by
  rw [Addr.add_lit, Nat.zero_add]
  exact (World.cell?_alloc_at (w := w.drewN m) #[.int .i64 p, .int .i64 v] 106 w.heap.size j rfl).trans (by simpa using h)

theorem wrapEq (x : Int) : IntKind.i64.wrap x = wrap64 x := by rw [IntKind.wrap_i64]; unfold wrap64; rfl
theorem wrap_in {x : Int} (h : -9223372036854775808 ≤ x ∧ x ≤ 9223372036854775807) : IntKind.i64.wrap x = x := by rw [wrapEq]; exact IntWalk.wrap64_in _ h

theorem size_setCells (b : Nat) : ∀ (vs : List Value) (o : Nat) (w : World), (w.setCells b o vs).heap.size = w.heap.size
  | [], _, _ => rfl
  | v :: r, o, w => by rw [World.setCells, size_setCells b r]; simp

theorem below_setCells {B b : Nat} (h : B ≤ b) : ∀ (vs : List Value) (o : Nat) (a w : World), Below B a w → Below B a (w.setCells b o vs)
  | [], _, _, _, k => k
  | v :: r, o, a, w, k => by rw [World.setCells]; exact below_setCells h r (o + 1) a _ (k.setCell (p := ⟨b, o, none⟩) h v)

/-- with room -/
theorem Riv.room {P : Nat} {bf : Value} {w : World} {g off cap : Nat} {rs : Rs} (h : Riv P bf w (some ⟨g, off, none⟩) cap rs) (m : Nat) (p v : Int) (S : Nat) (hS : S ≤ rs.length) (hr : S + 1 ≤ cap) :
    Riv P bf (((atApp w m p v).setCells g (off + S * 2) [.int .i64 p, .int .i64 v]).setCell ⟨P, 1, none⟩ (.slice (some ⟨g, off, none⟩) (S + 1) cap)) (some ⟨g, off, none⟩) cap (rs.take S ++ [(p, v)]) ∧
    Keep P w (((atApp w m p v).setCells g (off + S * 2) [.int .i64 p, .int .i64 v]).setCell ⟨P, 1, none⟩ (.slice (some ⟨g, off, none⟩) (S + 1) cap)) := by
  obtain ⟨hg1, hg2, hL⟩ : P + 2 ≤ g ∧ g < w.heap.size ∧ Lies w g off cap rs := by
    rcases h.row with ⟨e, _⟩ | ⟨g', off', e, h1, h2, hL⟩
    · cases e
    · cases e; exact ⟨h1, h2, hL⟩
  have hsz := h.size
  have hlt : (rs.take S ++ [(p, v)]).length = S + 1 := by simp; omega
  have oc : ∀ b i, b < w.heap.size → b ≠ g → ((atApp w m p v).setCells g (off + S * 2) [.int .i64 p, .int .i64 v]).cell? ⟨b, i, none⟩ = w.cell? ⟨b, i, none⟩ := fun b i h1 h2 => by
    rw [World.cell?_setCells_out g _ _ _ _ (fun e => absurd e h2)]; exact atApp_cell h1
  have fc : ∀ b i, b < w.heap.size → ((atApp w m p v).setCells g (off + S * 2) [.int .i64 p, .int .i64 v]).frozen? ⟨b, i, none⟩ = w.frozen? ⟨b, i, none⟩ := fun b i h1 => by
    rw [World.frozen?_setCells]; exact atApp_frozen h1
  have hin := World.cell?_setCells_in g [.int .i64 p, .int .i64 v] (off + S * 2) (atApp w m p v) (fun j hj => by
    rw [atApp_cell hg2]
    have := (hL.room (S * 2 + j) (by simp at hj; omega)).1
    rw [← Nat.add_assoc] at this; exact this)
  have i0 := hin 0 (by simp)
  have i1 := hin 1 (by simp)
  simp only [Nat.add_zero, List.getElem_cons_zero, List.getElem_cons_succ] at i0 i1
  refine ⟨⟨?_, ?_, ?_, ?_, .inr ⟨g, off, rfl, hg1, ?_, ?_⟩⟩, ?_, fun i => ⟨?_, ?_⟩⟩
  · rw [World.size_setCell, size_setCells, atApp_size]; omega
  · rw [World.cell?_setCell_other _ _ _ _ (fun e => by cases e), oc P 0 (by omega) (by omega)]; exact h.b
  · rw [hlt]
    exact World.cell?_setCell_same _ _ _ ((oc P 1 (by omega) (by omega)).trans h.l)
  · rw [World.frozen?_setCell, fc P 1 (by omega)]; exact h.f
  · rw [World.size_setCell, size_setCells, atApp_size]; omega
  · refine Lies.set ?_ _ (by omega)
    refine lies_of (by rw [hlt]; exact hr) hL.small (fun j u hu => ?_) (fun i hi => ?_)
    · rw [flat_append] at hu
      have hfl : (YtjageagnclmnjabGreatDoor.Y.flat (rs.take S)).length = S * 2 := by rw [flat_len]; simp; omega
      by_cases hj : j < S * 2
      · rw [List.getElem?_append_left (by omega)] at hu
        rw [World.cell?_setCells_out g _ _ _ _ (fun _ _ => Or.inl (by show off + j < _; omega)), atApp_cell hg2]
        exact hL.flat S hS j u hu
      · rw [List.getElem?_append_right (by omega), hfl] at hu
        have hj2 : j - S * 2 < 2 := by
          have := (List.getElem?_eq_some_iff.1 hu).1
          simpa [YtjageagnclmnjabGreatDoor.Y.flat] using this
        by_cases e : j = S * 2
        · subst e
          simp [YtjageagnclmnjabGreatDoor.Y.flat] at hu
          rw [i0, hu]
        · have e : j = S * 2 + 1 := by omega
          subst e
          simp [YtjageagnclmnjabGreatDoor.Y.flat] at hu
          rw [← Nat.add_assoc, i1, hu]
    · rw [World.frozen?_setCells, atApp_frozen hg2]
      refine ⟨?_, (hL.room i hi).2⟩
      by_cases e0 : i = S * 2
      · subst e0; rw [i0]; rfl
      · by_cases e1 : i = S * 2 + 1
        · subst e1; rw [← Nat.add_assoc, i1]; rfl
        · rw [World.cell?_setCells_out g _ _ _ _ (fun _ _ => by show off + i < _ ∨ _ ≤ off + i; simp; omega), atApp_cell hg2]
          exact (hL.room i hi).1
  · exact (below_setCells (by omega) _ _ _ _ (atApp_below w m p v P (by omega))).setCell (p := ⟨P, 1, none⟩) (Nat.le_refl P) _
  · rw [cell_set_other (by omega), oc (P + 1) i (by omega) (by omega)]
  · rw [World.frozen?_setCell, fc (P + 1) i (by omega)]

/-- without room -/
theorem riv_grow {P : Nat} {bf : Value} {w w' : World} {rs : Rs} (hsz : P + 2 ≤ w.heap.size) (hb : w.cell? ⟨P, 0, none⟩ = some bf) {ao : Option Addr} {n cap : Nat} (hl : w.cell? ⟨P, 1, none⟩ = some (.slice ao n cap)) (hf : w.frozen? ⟨P, 1, none⟩ = false)
    (m : Nat) (p v : Int) (g cap' : Nat)
    (hown : w'.ownsRow (atApp w m p v).heap.size 106 2 (.slice (some ⟨g, 0, none⟩) (rs.length + 1) cap') (rs.length + 1) (flat rs ++ [.int .i64 p, .int .i64 v])) (hgr : (atApp w m p v).grownBy w' none) :
    Riv P bf (w'.setCell ⟨P, 1, none⟩ (.slice (some ⟨g, 0, none⟩) (rs.length + 1) cap')) (some ⟨g, 0, none⟩) cap' (rs ++ [(p, v)]) ∧
    Keep P w (w'.setCell ⟨P, 1, none⟩ (.slice (some ⟨g, 0, none⟩) (rs.length + 1) cap')) := by
  have hbel : Below w.heap.size w w' := (atApp_below w m p v _ (Nat.le_refl _)).grown hgr (by rw [atApp_size]; omega) (fun k h => by cases h)
  rcases hown with ⟨hlen, ⟨e, _⟩ | ⟨g', cap2, cur, e, hg, hh, hcap, hmax, hcs, htk⟩⟩
  · cases e
  cases e
  rw [atApp_size] at hg
  have hbs := hbel.size
  have hgs : g < w'.heap.size := by
    rcases Nat.lt_or_ge g w'.heap.size with h | h
    · exact h
    · rw [Array.getElem?_eq_none h] at hh; cases hh
  have hcell : ∀ i, w'.cell? ⟨g, i, none⟩ = cur[i]? := fun i => by simp [World.cell?, hh]
  have hfrz : ∀ i, w'.frozen? ⟨g, i, none⟩ = false := fun i => by simp [World.frozen?, hh]
  refine ⟨⟨?_, ?_, ?_, ?_, .inr ⟨g, 0, rfl, by omega, by simpa using hgs, ?_⟩⟩, ?_, fun i => ⟨?_, ?_⟩⟩
  · rw [World.size_setCell]; omega
  · rw [World.cell?_setCell_other _ _ _ _ (fun e => by cases e)]
    exact (hbel.cell (p := ⟨P, 0, none⟩) (by show P < _; omega)).trans hb
  · simp only [List.length_append, List.length_cons, List.length_nil]
    exact World.cell?_setCell_same _ _ _ ((hbel.cell (p := ⟨P, 1, none⟩) (by show P < _; omega)).trans hl)
  · rw [World.frozen?_setCell]
    exact (hbel.frozen (p := ⟨P, 1, none⟩) (by show P < _; omega)).trans hf
  · refine Lies.set ?_ _ (by omega)
    refine lies_of (by simpa using hcap) hmax (fun j u hu => ?_) (fun i hi => ?_)
    · rw [flat_append] at hu
      have hu' : (flat rs ++ [.int .i64 p, .int .i64 v])[j]? = some u := hu
      rw [← htk] at hu'
      have hj : j < (rs.length + 1) * 2 := by
        have := (List.getElem?_eq_some_iff.1 hu').1
        simp at this; omega
      rw [List.getElem?_take_of_lt hj] at hu'
      rw [Nat.zero_add, hcell]
      simpa using hu'
    · rw [Nat.zero_add, hcell, hfrz]
      refine ⟨?_, rfl⟩
      rw [Array.getElem?_eq_getElem (by omega)]; rfl
  · exact (hbel.mono (by omega)).setCell (p := ⟨P, 1, none⟩) (Nat.le_refl P) _
  · rw [cell_set_other (by omega)]; exact hbel.cell (p := ⟨P + 1, i, none⟩) (by show P + 1 < _; omega)
  · rw [World.frozen?_setCell]; exact hbel.frozen (p := ⟨P + 1, i, none⟩) (by show P + 1 < _; omega)

end Go.Proofs.YtjageagnclmnjabGreatDoor.Y
