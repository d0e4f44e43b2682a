/- PROVED: how long slices are where all arguments together are of so small a bulk; a slice of integers that came in. CONDITIONS: none beyond each theorem's own. -/
import Derived.Test.YtbnofjpiioneiaaRows
import Derived.Test.YtbnofjpiioneiaaU45DFar
import Derived.Test.YtbnofjpiioneiaaB00Mem
namespace Go.Proofs.Ytbnofjpiioneiaa.D
open Go.ChangeShapes Go.WideShapes Go.ChangeAt Go.RowKit Go.Joins Go.Deep K

theorem bulk_len {H : Type} (l : List (DataW H)) : l.length ≤ Rows.uptoBulkAll l := by
  induction l with
  | nil => simp
  | cons x l ih => simp only [Rows.uptoBulkAll, List.length_cons]; have : 1 ≤ Rows.uptoBulk x := (by cases x <;> first | (simp [Rows.uptoBulk]; done) | (rename_i l; cases l <;> simp [Rows.uptoBulk])); omega
theorem bulk_slice {H : Type} (elems spare : List (DataW H)) : elems.length ≤ Rows.uptoBulk (.slice elems spare) := by
  have := bulk_len elems
  simp only [Rows.uptoBulk]
  omega
theorem bulk_in {H : Type} {ds : List (DataW H)} {i : Nat} {d : DataW H} (h : ds[i]? = some d) : Rows.uptoBulk d ≤ Rows.uptoBulkAll ds := by
  induction ds generalizing i with
  | nil => simp at h
  | cons x l ih =>
    cases i with
    | zero => obtain rfl : x = d := (by simpa using h); simp only [Rows.uptoBulkAll]; omega
    | succ i => have := ih (i := i) (by simpa using h); simp only [Rows.uptoBulkAll]; omega
theorem bulk_at {H : Type} {ds : List (DataW H)} {i : Nat} {elems spare : List (DataW H)} (hk : Rows.uptoSmall H ds = true) (h : ds[i]? = some (.slice elems spare)) : elems.length ≤ 1048576 := by
  have h' : Rows.uptoBulkAll ds ≤ 1048576 := of_decide_eq_true hk
  have := bulk_in h
  have := bulk_slice elems spare
  omega
/-- two slices behind one argument more -/
theorem bulk_both {H : Type} {d0 : DataW H} {e1 s1 e2 s2 : List (DataW H)} (hk : Rows.uptoSmall H [d0, .slice e1 s1, .slice e2 s2] = true) : e1.length + e2.length ≤ 1048576 := by
  have h' : Rows.uptoBulkAll [d0, .slice e1 s1, .slice e2 s2] ≤ 1048576 := of_decide_eq_true hk
  have := bulk_slice e1 s1
  have := bulk_slice e2 s2
  simp only [Rows.uptoBulkAll] at h'
  omega

/-- a slice of integers that came in -/
def FarS (w : World) (ao : Option Addr) (cap : Nat) (zs : List Int) : Prop := Row w ao zs ∧ zs.length ≤ cap ∧ cap ≤ 9223372036854775807
/-- so many numbers, one after another -/
theorem choose_ints (P : Nat → Int → Prop) (n : Nat) (h : ∀ j, j < n → ∃ p, P j p) : ∃ ps : List Int, ps.length = n ∧ ∀ j, j < n → P j (ps.getD j 0) := by
  induction n with
  | zero => exact ⟨[], rfl, fun j hj => by omega⟩
  | succ n ih =>
    obtain ⟨ps, hl, hp⟩ := ih fun j hj => h j (by omega)
    obtain ⟨p, hq⟩ := h n (by omega)
    refine ⟨ps ++ [p], by simp [hl], fun j hj => ?_⟩
    by_cases e : j = n
    · subst e
      rw [List.getD_eq_getElem?_getD, List.getElem?_append_right (by omega), hl]
      simpa using hq
    · rw [List.getD_eq_getElem?_getD, List.getElem?_append_left (by omega), ← List.getD_eq_getElem?_getD]
      exact hp j (by omega)
theorem farS {H : Type} {enc : TypeId × Value → H} {W : World} {a : Option Addr} {len cap : Nat} {d : DataW H} {p : List MemPlace}
    (h : DataW.Trod enc Try.prog W 0 (fun _ => true) true 56 (.slice a len cap) d p) : ∃ ps, ps.length = len ∧ FarS W a cap ps ∧ (d = .nil ∧ len = 0 ∨ ∃ elems spare, d = .slice elems spare ∧ len ≤ elems.length) := by
  obtain ⟨fuel, hf⟩ := h
  rcases DataW.trod_slice Try.underlying56 hf with ⟨hcs, hx⟩ | ⟨x, l, c, elems, rest, n, _, hcs, hx, _, hlc, hm, hlen, hel, _, _⟩
  · simp [Value.cells] at hcs
    obtain ⟨rfl, rfl, rfl⟩ := hcs
    injection hx with hx _
    exact ⟨[], rfl, ⟨.inl rfl, by simp, by omega⟩, .inl ⟨hx, rfl⟩⟩
  · simp [Value.cells] at hcs
    obtain ⟨rfl, rfl, rfl⟩ := hcs
    injection hx with hx _
    unfold maxLen at hm
    rw [Try.cells3] at hel
    obtain ⟨ps, hpl, hps⟩ := choose_ints (fun j q => W.cell? (x.add j) = some (.int .i64 q)) len fun j hj => by
      have := hel j hj
      rw [List.getElem?_eq_getElem (by omega), Option.bind_eq_some_iff] at this
      obtain ⟨cs, hcs, hy⟩ := this
      obtain ⟨h1, _, h3⟩ := World.cells?_some hcs
      obtain ⟨c, rfl⟩ : ∃ c, cs = [c] := by
        match cs, h1 with
        | [c], _ => exact ⟨c, rfl⟩
      obtain ⟨s, rfl, _⟩ := one_int hy
      have h0 := h3 0 (by omega)
      rw [Nat.mul_one, show (x.add j).add 0 = x.add j by simp [Addr.add]] at h0
      exact ⟨s, by simpa using h0⟩
    refine ⟨ps, hpl, ⟨?_, by omega, by omega⟩, .inr ⟨_, _, hx, by simp only [List.length_map]; omega⟩⟩
    by_cases h0 : len = 0
    · exact .inl (List.eq_nil_of_length_eq_zero (by omega))
    · have c0 := hps 0 (by omega)
      obtain ⟨b, o, sp⟩ := x
      have hsp : sp = none := by
        cases sp with
        | none => rfl
        | some q =>
          have : W.cell? ((⟨b, o, some q⟩ : Addr).add 0) = none := by
            show W.cell? ⟨b, o, some q⟩ = none
            simp only [World.cell?]
            split <;> simp
          rw [this] at c0; cases c0
      subst hsp
      refine .inr ⟨b, o, rfl, fun j hj => ?_⟩
      have := hps j (by omega)
      rw [Addr.add_lit] at this
      exact this

end Go.Proofs.Ytbnofjpiioneiaa.D
