/- PROVED: what is known of a graph and of a row of numbers that came in. CONDITIONS: none beyond each theorem's own. -/
import Derived.Test.YtdbpgcaodgkcjaaEdg
import Derived.Test.YtdbpgcaodgkcjaaRows
import Derived.ProofKit
import Derived.OpenShut
import Derived.ShutString
import Derived.ChangeOld
import Derived.Below
import Derived.SizedLaws
import Derived.ChangeSame
import Derived.Lib.SmallJoins
namespace Go.Proofs.Ytdbpgcaodgkcjaa
open Go.ChangeShapes Go.WideShapes Go.ChangeAt Go.RowKit Go.Joins Go.Deep

theorem fits {n : Int} (h : (Lit.int .i64 n).wf = true) : -9223372036854775808 ≤ n ∧ n ≤ 9223372036854775807 := by
  simpa [Lit.wf, IntKind.min, IntKind.max, IntKind.signed, IntKind.bits] using h
theorem own : ownKnob Try.prog.godebug = none := by kernel_rfl
theorem laidOut : laidOutB Try.prog = true := by kernel_rfl
theorem Try.cells3 : Try.prog.cellsOf 3 = 1 := by kernel_rfl
theorem Try.cells22 : Try.prog.cellsOf 22 = 1 := by kernel_rfl
theorem Try.cells24' : Try.prog.cellsOf 24 = 2 := by kernel_rfl
theorem Try.cells36' : Try.prog.cellsOf 36 = 3 := by kernel_rfl

section
variable {H : Type} {enc : TypeId × Value → H} {W : World} {fuel : Nat} {x : DataW H × List MemPlace}
theorem one_int {c : Value} (h : DataW.trod enc Try.prog W 0 (fun _ => true) true fuel 3 [c] = some x) : ∃ n : Int, c = .int .i64 n ∧ -9223372036854775808 ≤ n ∧ n ≤ 9223372036854775807 := by
  obtain ⟨n, e, _, w⟩ := DataW.trod_int Try.underlying3 h
  simp at e
  exact ⟨n, e, fits w⟩
theorem edge_ints {cs : List Value} (h : DataW.trod enc Try.prog W 0 (fun _ => true) true fuel 36 cs = some x) : ∃ f t y : Int, cs = [.int .i64 f, .int .i64 t, .int .i64 y] := by
  obtain ⟨xs, m, _, _, hl, hn, hel⟩ := DataW.trod_struct Try.underlying36 h
  rw [Try.cells36'] at hl
  obtain ⟨c0, c1, c2, rfl⟩ : ∃ c0 c1 c2, cs = [c0, c1, c2] := by
    match cs, hl with
    | [c0, c1, c2], _ => exact ⟨c0, c1, c2, rfl⟩
  obtain ⟨y0, y1, y2, rfl⟩ : ∃ c0 c1 c2, xs = [c0, c1, c2] := by
    match xs, hn with
    | [c0, c1, c2], _ => exact ⟨c0, c1, c2, rfl⟩
  obtain ⟨x0, rfl, _⟩ := one_int (enc := enc) (W := W) (fuel := m) (x := y0) (c := c0) (by simpa [Try.cells3] using hel 0 _ rfl)
  obtain ⟨x1, rfl, _⟩ := one_int (enc := enc) (W := W) (fuel := m) (x := y1) (c := c1) (by simpa [Try.cells3] using hel 1 _ rfl)
  obtain ⟨x2, rfl, _⟩ := one_int (enc := enc) (W := W) (fuel := m) (x := y2) (c := c2) (by simpa [Try.cells3] using hel 2 _ rfl)
  exact ⟨_, _, _, rfl⟩
end

/-- so many edges, one after another -/
theorem choose_eds (P : Nat → Ed → Prop) (n : Nat) (h : ∀ j, j < n → ∃ p, P j p) : ∃ ps : List Ed, ps.length = n ∧ ∀ j, j < n → P j (ed ps j) := by
  induction n with
  | zero => exact ⟨[], rfl, fun j hj => by omega⟩
  | succ n ih =>
    obtain ⟨ps, hl, hp⟩ := ih fun j hj => h j (by omega)
    obtain ⟨p, hq⟩ := h n (by omega)
    refine ⟨ps ++ [p], by simp [hl], fun j hj => ?_⟩
    unfold ed at hp ⊢
    by_cases e : j = n
    · subst e
      rw [List.getD_eq_getElem?_getD, List.getElem?_append_right (by omega), hl]
      simpa using hq
    · rw [List.getD_eq_getElem?_getD, List.getElem?_append_left (by omega), ← List.getD_eq_getElem?_getD]
      exact hp j (by omega)
theorem choose_ints (P : Nat → Int → Prop) (n : Nat) (h : ∀ j, j < n → ∃ p, P j p) : ∃ ps : List Int, ps.length = n ∧ ∀ j, j < n → P j (ps.getD j 0) := by
  induction n with
  | zero => exact ⟨[], rfl, fun j hj => by omega⟩
  | succ n ih =>
    obtain ⟨ps, hl, hp⟩ := ih fun j hj => h j (by omega)
    obtain ⟨p, hq⟩ := h n (by omega)
    refine ⟨ps ++ [p], by simp [hl], fun j hj => ?_⟩
    by_cases e : j = n
    · subst e
      rw [List.getD_eq_getElem?_getD, List.getElem?_append_right (by omega), hl]
      simpa using hq
    · rw [List.getD_eq_getElem?_getD, List.getElem?_append_left (by omega), ← List.getD_eq_getElem?_getD]
      exact hp j (by omega)
/-- cells that are there lie in a block of their own right -/
theorem spot {W : World} {x : Addr} {u : Value} (h : W.cell? x = some u) : ∃ b o, x = ⟨b, o, none⟩ := by
  obtain ⟨b, o, sp⟩ := x
  cases sp with
  | none => exact ⟨b, o, rfl⟩
  | some q =>
    have : W.cell? ⟨b, o, some q⟩ = none := by
      simp only [World.cell?]
      split <;> simp
    rw [this] at h; cases h

/-- a slice of edges that came in -/
def FarE (w : World) (ao : Option Addr) (cap : Nat) (L : List Ed) : Prop := ERow w ao L ∧ L.length ≤ cap ∧ cap ≤ 9223372036854775807
theorem farE {H : Type} {enc : TypeId × Value → H} {W : World} {fuel : Nat} {a : Option Addr} {len cap : Nat} {x : DataW H × List MemPlace}
    (hf : DataW.trod enc Try.prog W 0 (fun _ => true) true fuel 22 [.slice a len cap] = some x) : ∃ L, L.length = len ∧ FarE W a cap L := by
  rcases DataW.trod_slice Try.underlying22 hf with ⟨hcs, hx⟩ | ⟨x, l, c, elems, rest, n, _, hcs, hx, _, hlc, hm, hlen, hel, _, _⟩
  · simp at hcs
    obtain ⟨rfl, rfl, rfl⟩ := hcs
    exact ⟨[], rfl, .inl rfl, by simp, by omega⟩
  · simp at hcs
    obtain ⟨rfl, rfl, rfl⟩ := hcs
    unfold maxLen at hm
    rw [Try.cells36'] at hel
    obtain ⟨L, hpl, hps⟩ := choose_eds (fun j q => W.cell? (x.add (j * 3)) = some (.int .i64 q.f) ∧ W.cell? ((x.add (j * 3)).add 1) = some (.int .i64 q.t) ∧ W.cell? ((x.add (j * 3)).add 2) = some (.int .i64 q.x)) len fun j hj => by
      have := hel j hj
      rw [List.getElem?_eq_getElem (by omega), Option.bind_eq_some_iff] at this
      obtain ⟨cs, hcs, hy⟩ := this
      obtain ⟨f, t, y, rfl⟩ := edge_ints hy
      obtain ⟨_, _, h3⟩ := World.cells?_some hcs
      have h0 := h3 0 (by omega)
      have h1 := h3 1 (by omega)
      have h2 := h3 2 (by omega)
      rw [show (x.add (j * 3)).add 0 = x.add (j * 3) by simp [Addr.add]] at h0
      exact ⟨⟨f, t, y⟩, by simpa using h0, by simpa using h1, by simpa using h2⟩
    refine ⟨L, hpl, ?_, by omega, by omega⟩
    by_cases h0 : len = 0
    · exact .inl (List.eq_nil_of_length_eq_zero (by omega))
    · have c0 := (hps 0 (by omega)).1
      rw [Nat.zero_mul, show x.add 0 = x by simp [Addr.add]] at c0
      obtain ⟨b, o, rfl⟩ := spot c0
      refine .inr ⟨b, o, rfl, fun j hj => ?_⟩
      have := hps j (by omega)
      rw [Addr.add_lit, Addr.add_lit, Addr.add_lit] at this
      exact this
theorem openG {H : Type} {enc : TypeId × Value → H} {W : World} {r : Reach} {b0 : Nat} {v : Value} {d : DataW H} {p : List MemPlace}
    (hv : Value.okWide Try.prog W r b0 24 v) (h : DataW.Trod enc Try.prog W 0 (fun _ => true) true 24 v d p) : ∃ (n : Int) (a : Option Addr) (cap : Nat) (L : List Ed), v = .agg #[.int .i64 n, .slice a L.length cap] ∧ FarE W a cap L := by
  obtain ⟨⟨cs⟩, rfl, _⟩ := okWide_struct Try.underlying24 hv
  obtain ⟨fuel, hf⟩ := h
  obtain ⟨y0, y1, m, _, hl, h0, h1⟩ := trod_struct2 Try.underlying24 hf
  simp only [Value.cells] at hl h0 h1
  rw [Try.cells24'] at hl
  obtain ⟨c0, c1, rfl⟩ : ∃ c0 c1, cs = [c0, c1] := by
    match cs, hl with
    | [c0, c1], _ => exact ⟨c0, c1, rfl⟩
  obtain ⟨n, rfl, _⟩ := one_int (enc := enc) (W := W) (fuel := m) (x := y0) (c := c0) (by simpa [Try.cells3] using h0)
  have h1' : DataW.trod enc Try.prog W 0 (fun _ => true) true m 22 [c1] = some y1 := by simpa [Try.cells22] using h1
  obtain ⟨a, len, cap, rfl⟩ : ∃ a len cap, c1 = .slice a len cap := by
    rcases DataW.trod_slice Try.underlying22 h1' with ⟨hcs, _⟩ | ⟨x, l, c, _, _, _, _, hcs, _⟩
    · simp at hcs; exact ⟨_, _, _, hcs⟩
    · simp at hcs; exact ⟨_, _, _, hcs⟩
  obtain ⟨L, rfl, hL⟩ := farE h1'
  exact ⟨n, a, cap, L, rfl, hL⟩

/-- a slice of integers that came in -/
def FarS (w : World) (ao : Option Addr) (cap : Nat) (zs : List Int) : Prop := Row w ao zs ∧ zs.length ≤ cap ∧ cap ≤ 9223372036854775807
theorem farS {H : Type} {enc : TypeId × Value → H} {W : World} {a : Option Addr} {len cap : Nat} {d : DataW H} {p : List MemPlace}
    (h : DataW.Trod enc Try.prog W 0 (fun _ => true) true 30 (.slice a len cap) d p) : ∃ ps, ps.length = len ∧ FarS W a cap ps ∧ (d = .nil ∧ len = 0 ∨ ∃ elems spare, d = .slice elems spare ∧ len ≤ elems.length) := by
  obtain ⟨fuel, hf⟩ := h
  rcases DataW.trod_slice Try.underlying30 hf with ⟨hcs, hx⟩ | ⟨x, l, c, elems, rest, n, _, hcs, hx, _, hlc, hm, hlen, hel, _, _⟩
  · simp [Value.cells] at hcs
    obtain ⟨rfl, rfl, rfl⟩ := hcs
    injection hx with hx _
    exact ⟨[], rfl, ⟨.inl rfl, by simp, by omega⟩, .inl ⟨hx, rfl⟩⟩
  · simp [Value.cells] at hcs
    obtain ⟨rfl, rfl, rfl⟩ := hcs
    injection hx with hx _
    unfold maxLen at hm
    rw [Try.cells3] at hel
    obtain ⟨ps, hpl, hps⟩ := choose_ints (fun j q => W.cell? (x.add j) = some (.int .i64 q)) len fun j hj => by
      have := hel j hj
      rw [List.getElem?_eq_getElem (by omega), Option.bind_eq_some_iff] at this
      obtain ⟨cs, hcs, hy⟩ := this
      obtain ⟨h1, _, h3⟩ := World.cells?_some hcs
      obtain ⟨c, rfl⟩ : ∃ c, cs = [c] := by
        match cs, h1 with
        | [c], _ => exact ⟨c, rfl⟩
      obtain ⟨s, rfl, _⟩ := one_int hy
      have h0 := h3 0 (by omega)
      rw [Nat.mul_one, show (x.add j).add 0 = x.add j by simp [Addr.add]] at h0
      exact ⟨s, by simpa using h0⟩
    refine ⟨ps, hpl, ⟨?_, by omega, by omega⟩, .inr ⟨_, _, hx, by simp only [List.length_map]; omega⟩⟩
    by_cases h0 : len = 0
    · exact .inl (List.eq_nil_of_length_eq_zero (by omega))
    · have c0 := hps 0 (by omega)
      rw [show x.add 0 = x by simp [Addr.add]] at c0
      obtain ⟨b, o, rfl⟩ := spot c0
      refine .inr ⟨b, o, rfl, fun j hj => ?_⟩
      have := hps j (by omega)
      rw [Addr.add_lit] at this
      exact this

theorem bulk_len {H : Type} (l : List (DataW H)) : l.length ≤ Rows.uptoBulkAll l := by
  induction l with
  | nil => simp
  | cons x l ih => simp only [Rows.uptoBulkAll, List.length_cons]; have : 1 ≤ Rows.uptoBulk x := (by cases x <;> first | (simp [Rows.uptoBulk]; done) | (rename_i l; cases l <;> simp [Rows.uptoBulk])); omega
theorem bulk_slice {H : Type} (elems spare : List (DataW H)) : elems.length ≤ Rows.uptoBulk (.slice elems spare) := by
  have := bulk_len elems
  simp only [Rows.uptoBulk]
  omega
theorem bulk_in {H : Type} {ds : List (DataW H)} {i : Nat} {d : DataW H} (h : ds[i]? = some d) : Rows.uptoBulk d ≤ Rows.uptoBulkAll ds := by
  induction ds generalizing i with
  | nil => simp at h
  | cons x l ih =>
    cases i with
    | zero => obtain rfl : x = d := (by simpa using h); simp only [Rows.uptoBulkAll]; omega
    | succ i => have := ih (i := i) (by simpa using h); simp only [Rows.uptoBulkAll]; omega
theorem bulk_at {H : Type} {ds : List (DataW H)} {i : Nat} {elems spare : List (DataW H)} (hk : Rows.uptoSmall H ds = true) (h : ds[i]? = some (.slice elems spare)) : elems.length ≤ 1048576 := by
  have h' : Rows.uptoBulkAll ds ≤ 1048576 := of_decide_eq_true hk
  have := bulk_in h
  have := bulk_slice elems spare
  omega

end Go.Proofs.Ytdbpgcaodgkcjaa
