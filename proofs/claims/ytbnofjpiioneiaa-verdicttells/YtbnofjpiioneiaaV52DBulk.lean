/- PROVED: tidewaitlaw.VerdictTells, in all its cases. what is known of rules, states, pairs and rows of pairs and numbers that came in. how long slices are where all arguments together are of so small a bulk; a slice of integers that came in. CONDITIONS: none beyond each theorem's own. -/
import Derived.Test.YtbnofjpiioneiaaV51Vte
import Derived.Test.YtbnofjpiioneiaaB03DRow
import Derived.ProofKit
import Derived.OpenShut
import Derived.ShutString
import Derived.ChangeOld
import Derived.Below
import Derived.SizedLaws
import Derived.ChangeSame
import Derived.Lib.SmallJoins
import Derived.Test.YtbnofjpiioneiaaRows
import Derived.Test.YtbnofjpiioneiaaB00Mem
namespace Go.Proofs.Ytbnofjpiioneiaa.D
open Go.RowKit K
set_option linter.unusedVariables false

theorem late_app' {r : Ru} {A C : List (Int × Int)} (ha : allLate r A) (hc : allLate r C) : allLate r (A ++ C) := fun p hp => by
  rcases List.mem_append.1 hp with h | h
  · exact ha p h
  · exact hc p h
theorem rounds_behind' {r : Ru} {A C : List (Int × Int)} {na n : Nat} (ha : A.length = na) (hn : (A ++ C).length = n) : ((rounds r (K.start r) (A ++ C)).take n).drop na = rounds r (steps r (K.start r) A) C := by
  have hl := rounds_len r (K.start r) (A ++ C)
  rw [List.take_of_length_le (by omega), rounds_append, List.drop_append_of_le_length (by rw [rounds_len]; omega), List.drop_of_length_le (by rw [rounds_len]; omega), List.nil_append]
theorem verdictTells_go (r : Ru) (who ratio : Int) (w : World) : Calls Try.prog 3 #[.agg #[.int .i64 r.k0, .int .i64 r.k1, .int .i64 r.r, .int .i64 r.m, .int .i64 r.j], .int .i64 who, .int .i64 ratio] w fun e w' => e = .returned (.bool true) ∧ Below w.heap.size w w' := by
  rcases judge_or r who ratio with ⟨E, h⟩ | ⟨T, d, h⟩ | ⟨T, h⟩
  · exact vte_no _ _ _ _ _ _ _ 0 0 E (by decide) w (fun v => judge_err h v) (fun v => tj_err h v)
  · exact vte_no _ _ _ _ _ _ _ 1 _ 0 (by decide) w (fun v => judge_bnd h v) (fun v => tj_bnd h v)
  · have hk := wrong_ok.1 h.ok
    refine vte_yes _ _ _ _ _ _ _ r w (fun v => ?_) (fun v => tj_stv h v) (fun A C na nb sv hA hC => ?_)
    · refine (judge_stv h v).mono ?_
      rintro e w' ⟨a, na, ca, b, nb, cb, A, C, rfl, sv, la, lc, va, vc, hb⟩
      exact ⟨a, na, ca, b, nb, cb, A, C, rfl, ⟨sv, la, lc⟩, ⟨la ▸ sv.la, lc ▸ sv.lc, lc ▸ sv.pos⟩, va, vc, hb⟩
    · have hM : (A ++ C).length = na + nb := by rw [List.length_append, hA, hC]
      have h3 := sv.la
      have h4 := sv.lc
      have hall := late_app' sv.a sv.c
      have hst : steps r (K.start r) (A ++ C) = steps r (K.start r) A := by rw [steps_append, sv.back]
      have hbe := rounds_behind' (r := r) hA hM
      refine ⟨(steps r (K.start r) A).f0.k, (steps r (K.start r) A).f0.n, (steps r (K.start r) A).f0.b, (steps r (K.start r) A).f0.a, (steps r (K.start r) A).f0.s, (steps r (K.start r) A).f0.q, (steps r (K.start r) A).f1.k, (steps r (K.start r) A).f1.n, (steps r (K.start r) A).f1.b, (steps r (K.start r) A).f1.a, (steps r (K.start r) A).f1.s, (steps r (K.start r) A).f1.q, (steps r (K.start r) A).w0, (steps r (K.start r) A).w1, rounds r (K.start r) (A ++ C), total (wgt who ratio) (rounds r (steps r (K.start r) A) C), by rw [rounds_len, hM], sv.more, fun a ca v hv => ?_, fun ao cp v hv => ?_, fun ao v c hR => ?_⟩
      · refine (pplay_any r h.ok a ca na A hA (by omega) v hv).mono ?_
        rintro e w' ⟨⟨_, ao, cp, rfl, _⟩ | ⟨hn, _⟩, b⟩
        · exact ⟨ao, cp, rfl, b⟩
        · exact absurd sv.a hn
      · refine (pplay_any r h.ok ao cp (na + nb) (A ++ C) hM (by omega) v hv).mono ?_
        rintro e w' ⟨⟨_, al, cp', rfl, hc, hr, hq⟩ | ⟨hn, _⟩, b⟩
        · rw [hst]; exact ⟨al, cp', rfl, hc, hr, hq, b⟩
        · exact absurd hall hn
      · rw [hbe] at hR
        refine brings h.rg ao c nb _ (by rw [rounds_len, hC]) (by omega) (fun x hx => ?_) v hR
        obtain ⟨_, _, q1, q2, _⟩ := rounds_in (steps_right (start_right hk) sv.a) sv.c x hx
        exact ⟨q1, q2⟩

end Go.Proofs.Ytbnofjpiioneiaa.D

namespace Go.Proofs.Ytbnofjpiioneiaa.D
open Go.ChangeShapes Go.WideShapes Go.ChangeAt Go.RowKit Go.Joins Go.Deep K
set_option maxRecDepth 100000

theorem fits {n : Int} (h : (Lit.int .i64 n).wf = true) : -9223372036854775808 ≤ n ∧ n ≤ 9223372036854775807 := by
  simpa [Lit.wf, IntKind.min, IntKind.max, IntKind.signed, IntKind.bits] using h
theorem own : ownKnob Try.prog.godebug = none := by kernel_rfl
theorem laidOut : laidOutB Try.prog = true := by kernel_rfl
theorem Try.cells3 : Try.prog.cellsOf 3 = 1 := by kernel_rfl
theorem Try.cells22 : Try.prog.cellsOf 22 = 2 := by kernel_rfl
theorem Try.cells24 : Try.prog.cellsOf 24 = 5 := by kernel_rfl
theorem Try.cells35' : Try.prog.cellsOf 35 = 6 := by kernel_rfl
theorem Try.cells36 : Try.prog.cellsOf 36 = 12 := by kernel_rfl
theorem Try.cells38 : Try.prog.cellsOf 38 = 14 := by kernel_rfl
theorem Try.bytes22 : Try.prog.bytesOf 22 = 16 := by kernel_rfl
theorem Try.bytes3 : Try.prog.bytesOf 3 = 8 := by kernel_rfl

section
variable {H : Type} {enc : TypeId × Value → H} {W : World} {fuel : Nat} {x : DataW H × List MemPlace}
theorem one_int {c : Value} (h : DataW.trod enc Try.prog W 0 (fun _ => true) true fuel 3 [c] = some x) : ∃ n : Int, c = .int .i64 n ∧ -9223372036854775808 ≤ n ∧ n ≤ 9223372036854775807 := by
  obtain ⟨n, e, _, w⟩ := DataW.trod_int Try.underlying3 h
  simp at e
  exact ⟨n, e, fits w⟩
theorem list2 {α : Type} {l : List α} (h : l.length = 2) : ∃ c0 c1, l = [c0, c1] := by
  match l, h with
  | [c0, c1], _ => exact ⟨c0, c1, rfl⟩
theorem two_ints {cs : List Value} (h : DataW.trod enc Try.prog W 0 (fun _ => true) true fuel 22 cs = some x) : ∃ a b : Int, cs = [.int .i64 a, .int .i64 b] ∧ (-9223372036854775808 ≤ a ∧ a ≤ 9223372036854775807) ∧ -9223372036854775808 ≤ b ∧ b ≤ 9223372036854775807 := by
  obtain ⟨xs, m, _, _, hl, hn, hel⟩ := DataW.trod_array Try.underlying22 h
  rw [Try.cells22] at hl
  obtain ⟨c0, c1, rfl⟩ := list2 hl
  obtain ⟨y0, y1, rfl⟩ := list2 hn
  obtain ⟨a, rfl, wa⟩ := one_int (enc := enc) (W := W) (fuel := m) (x := y0) (c := c0) (by simpa [Try.cells3] using hel 0 (by omega))
  obtain ⟨b, rfl, wb⟩ := one_int (enc := enc) (W := W) (fuel := m) (x := y1) (c := c1) (by simpa [Try.cells3] using hel 1 (by omega))
  exact ⟨a, b, rfl, wa, wb⟩
theorem six_ints {cs : List Value} (h : DataW.trod enc Try.prog W 0 (fun _ => true) true fuel 35 cs = some x) : ∃ x0 x1 x2 x3 x4 x5 : Int, cs = [.int .i64 x0, .int .i64 x1, .int .i64 x2, .int .i64 x3, .int .i64 x4, .int .i64 x5] ∧ (-9223372036854775808 ≤ x0 ∧ x0 ≤ 9223372036854775807) ∧ (-9223372036854775808 ≤ x1 ∧ x1 ≤ 9223372036854775807) ∧ (-9223372036854775808 ≤ x2 ∧ x2 ≤ 9223372036854775807) ∧ (-9223372036854775808 ≤ x3 ∧ x3 ≤ 9223372036854775807) ∧ (-9223372036854775808 ≤ x4 ∧ x4 ≤ 9223372036854775807) ∧ (-9223372036854775808 ≤ x5 ∧ x5 ≤ 9223372036854775807) := by
  obtain ⟨xs, m, _, _, hl, hn, hel⟩ := DataW.trod_struct Try.underlying35 h
  rw [Try.cells35'] at hl
  obtain ⟨c0, c1, c2, c3, c4, c5, rfl⟩ : ∃ c0 c1 c2 c3 c4 c5, cs = [c0, c1, c2, c3, c4, c5] := by
    match cs, hl with
    | [c0, c1, c2, c3, c4, c5], _ => exact ⟨c0, c1, c2, c3, c4, c5, rfl⟩
  obtain ⟨y0, y1, y2, y3, y4, y5, rfl⟩ : ∃ c0 c1 c2 c3 c4 c5, xs = [c0, c1, c2, c3, c4, c5] := by
    match xs, hn with
    | [c0, c1, c2, c3, c4, c5], _ => exact ⟨c0, c1, c2, c3, c4, c5, rfl⟩
  obtain ⟨x0, rfl, w0⟩ := one_int (enc := enc) (W := W) (fuel := m) (x := y0) (c := c0) (by simpa [Try.cells3] using hel 0 _ rfl)
  obtain ⟨x1, rfl, w1⟩ := one_int (enc := enc) (W := W) (fuel := m) (x := y1) (c := c1) (by simpa [Try.cells3] using hel 1 _ rfl)
  obtain ⟨x2, rfl, w2⟩ := one_int (enc := enc) (W := W) (fuel := m) (x := y2) (c := c2) (by simpa [Try.cells3] using hel 2 _ rfl)
  obtain ⟨x3, rfl, w3⟩ := one_int (enc := enc) (W := W) (fuel := m) (x := y3) (c := c3) (by simpa [Try.cells3] using hel 3 _ rfl)
  obtain ⟨x4, rfl, w4⟩ := one_int (enc := enc) (W := W) (fuel := m) (x := y4) (c := c4) (by simpa [Try.cells3] using hel 4 _ rfl)
  obtain ⟨x5, rfl, w5⟩ := one_int (enc := enc) (W := W) (fuel := m) (x := y5) (c := c5) (by simpa [Try.cells3] using hel 5 _ rfl)
  exact ⟨_, _, _, _, _, _, rfl, w0, w1, w2, w3, w4, w5⟩
theorem flows_ints {cs : List Value} (h : DataW.trod enc Try.prog W 0 (fun _ => true) true fuel 36 cs = some x) : ∃ x0 x1 x2 x3 x4 x5 x6 x7 x8 x9 x10 x11 : Int, cs = [.int .i64 x0, .int .i64 x1, .int .i64 x2, .int .i64 x3, .int .i64 x4, .int .i64 x5, .int .i64 x6, .int .i64 x7, .int .i64 x8, .int .i64 x9, .int .i64 x10, .int .i64 x11] ∧ (-9223372036854775808 ≤ x0 ∧ x0 ≤ 9223372036854775807) ∧ (-9223372036854775808 ≤ x1 ∧ x1 ≤ 9223372036854775807) ∧ (-9223372036854775808 ≤ x2 ∧ x2 ≤ 9223372036854775807) ∧ (-9223372036854775808 ≤ x3 ∧ x3 ≤ 9223372036854775807) ∧ (-9223372036854775808 ≤ x4 ∧ x4 ≤ 9223372036854775807) ∧ (-9223372036854775808 ≤ x5 ∧ x5 ≤ 9223372036854775807) ∧ (-9223372036854775808 ≤ x6 ∧ x6 ≤ 9223372036854775807) ∧ (-9223372036854775808 ≤ x7 ∧ x7 ≤ 9223372036854775807) ∧ (-9223372036854775808 ≤ x8 ∧ x8 ≤ 9223372036854775807) ∧ (-9223372036854775808 ≤ x9 ∧ x9 ≤ 9223372036854775807) ∧ (-9223372036854775808 ≤ x10 ∧ x10 ≤ 9223372036854775807) ∧ (-9223372036854775808 ≤ x11 ∧ x11 ≤ 9223372036854775807) := by
  obtain ⟨xs, m, _, _, hl, hn, hel⟩ := DataW.trod_array Try.underlying36 h
  rw [Try.cells36] at hl
  obtain ⟨c0, c1, c2, c3, c4, c5, c6, c7, c8, c9, c10, c11, rfl⟩ : ∃ c0 c1 c2 c3 c4 c5 c6 c7 c8 c9 c10 c11, cs = [c0, c1, c2, c3, c4, c5, c6, c7, c8, c9, c10, c11] := by
    match cs, hl with
    | [c0, c1, c2, c3, c4, c5, c6, c7, c8, c9, c10, c11], _ => exact ⟨c0, c1, c2, c3, c4, c5, c6, c7, c8, c9, c10, c11, rfl⟩
  obtain ⟨y0, y1, rfl⟩ := list2 hn
  obtain ⟨x0, x1, x2, x3, x4, x5, e0, w0⟩ := six_ints (enc := enc) (W := W) (fuel := m) (x := y0) (cs := [c0, c1, c2, c3, c4, c5]) (by simpa [Try.cells35'] using hel 0 (by omega))
  obtain ⟨x6, x7, x8, x9, x10, x11, e1, w1⟩ := six_ints (enc := enc) (W := W) (fuel := m) (x := y1) (cs := [c6, c7, c8, c9, c10, c11]) (by simpa [Try.cells35'] using hel 1 (by omega))
  simp only [List.cons.injEq, and_true] at e0 e1
  obtain ⟨rfl, rfl, rfl, rfl, rfl, rfl⟩ := e0
  obtain ⟨rfl, rfl, rfl, rfl, rfl, rfl⟩ := e1
  obtain ⟨u0, u1, u2, u3, u4, u5⟩ := w0
  obtain ⟨u6, u7, u8, u9, u10, u11⟩ := w1
  exact ⟨_, _, _, _, _, _, _, _, _, _, _, _, rfl, u0, u1, u2, u3, u4, u5, u6, u7, u8, u9, u10, u11⟩
theorem state_ints {cs : List Value} (h : DataW.trod enc Try.prog W 0 (fun _ => true) true fuel 38 cs = some x) : ∃ x0 x1 x2 x3 x4 x5 x6 x7 x8 x9 x10 x11 x12 x13 : Int, cs = [.int .i64 x0, .int .i64 x1, .int .i64 x2, .int .i64 x3, .int .i64 x4, .int .i64 x5, .int .i64 x6, .int .i64 x7, .int .i64 x8, .int .i64 x9, .int .i64 x10, .int .i64 x11, .int .i64 x12, .int .i64 x13] ∧ (-9223372036854775808 ≤ x0 ∧ x0 ≤ 9223372036854775807) ∧ (-9223372036854775808 ≤ x1 ∧ x1 ≤ 9223372036854775807) ∧ (-9223372036854775808 ≤ x2 ∧ x2 ≤ 9223372036854775807) ∧ (-9223372036854775808 ≤ x3 ∧ x3 ≤ 9223372036854775807) ∧ (-9223372036854775808 ≤ x4 ∧ x4 ≤ 9223372036854775807) ∧ (-9223372036854775808 ≤ x5 ∧ x5 ≤ 9223372036854775807) ∧ (-9223372036854775808 ≤ x6 ∧ x6 ≤ 9223372036854775807) ∧ (-9223372036854775808 ≤ x7 ∧ x7 ≤ 9223372036854775807) ∧ (-9223372036854775808 ≤ x8 ∧ x8 ≤ 9223372036854775807) ∧ (-9223372036854775808 ≤ x9 ∧ x9 ≤ 9223372036854775807) ∧ (-9223372036854775808 ≤ x10 ∧ x10 ≤ 9223372036854775807) ∧ (-9223372036854775808 ≤ x11 ∧ x11 ≤ 9223372036854775807) ∧ (-9223372036854775808 ≤ x12 ∧ x12 ≤ 9223372036854775807) ∧ (-9223372036854775808 ≤ x13 ∧ x13 ≤ 9223372036854775807) := by
  obtain ⟨y0, y1, m, _, hl, h0, h1⟩ := trod_struct2 Try.underlying38 h
  rw [Try.cells38] at hl
  obtain ⟨c0, c1, c2, c3, c4, c5, c6, c7, c8, c9, c10, c11, c12, c13, rfl⟩ : ∃ c0 c1 c2 c3 c4 c5 c6 c7 c8 c9 c10 c11 c12 c13, cs = [c0, c1, c2, c3, c4, c5, c6, c7, c8, c9, c10, c11, c12, c13] := by
    match cs, hl with
    | [c0, c1, c2, c3, c4, c5, c6, c7, c8, c9, c10, c11, c12, c13], _ => exact ⟨c0, c1, c2, c3, c4, c5, c6, c7, c8, c9, c10, c11, c12, c13, rfl⟩
  obtain ⟨x0, x1, x2, x3, x4, x5, x6, x7, x8, x9, x10, x11, e0, w0, w1, w2, w3, w4, w5, w6, w7, w8, w9, w10, w11⟩ := flows_ints (enc := enc) (W := W) (fuel := m) (x := y0) (cs := [c0, c1, c2, c3, c4, c5, c6, c7, c8, c9, c10, c11]) (by simpa [Try.cells36] using h0)
  obtain ⟨x12, x13, e1, w12, w13⟩ := two_ints (enc := enc) (W := W) (fuel := m) (x := y1) (cs := [c12, c13]) (by simpa [Try.cells22] using h1)
  simp only [List.cons.injEq, and_true] at e0 e1
  obtain ⟨rfl, rfl, rfl, rfl, rfl, rfl, rfl, rfl, rfl, rfl, rfl, rfl⟩ := e0
  obtain ⟨rfl, rfl⟩ := e1
  exact ⟨x0, x1, x2, x3, x4, x5, x6, x7, x8, x9, x10, x11, x12, x13, rfl, w0, w1, w2, w3, w4, w5, w6, w7, w8, w9, w10, w11, w12, w13⟩
theorem rules_ints {cs : List Value} (h : DataW.trod enc Try.prog W 0 (fun _ => true) true fuel 24 cs = some x) : ∃ x0 x1 x2 x3 x4 : Int, cs = [.int .i64 x0, .int .i64 x1, .int .i64 x2, .int .i64 x3, .int .i64 x4] ∧ (-9223372036854775808 ≤ x0 ∧ x0 ≤ 9223372036854775807) ∧ (-9223372036854775808 ≤ x1 ∧ x1 ≤ 9223372036854775807) ∧ (-9223372036854775808 ≤ x2 ∧ x2 ≤ 9223372036854775807) ∧ (-9223372036854775808 ≤ x3 ∧ x3 ≤ 9223372036854775807) ∧ (-9223372036854775808 ≤ x4 ∧ x4 ≤ 9223372036854775807) := by
  obtain ⟨y0, y1, y2, y3, m, _, hl, h0, h1, h2, h3⟩ := trod_struct4 Try.underlying24 h
  rw [Try.cells24] at hl
  obtain ⟨c0, c1, c2, c3, c4, rfl⟩ : ∃ c0 c1 c2 c3 c4, cs = [c0, c1, c2, c3, c4] := by
    match cs, hl with
    | [c0, c1, c2, c3, c4], _ => exact ⟨c0, c1, c2, c3, c4, rfl⟩
  obtain ⟨x0, x1, e0, w0, w1⟩ := two_ints (enc := enc) (W := W) (fuel := m) (x := y0) (cs := [c0, c1]) (by simpa [Try.cells22] using h0)
  obtain ⟨x2, rfl, w2⟩ := one_int (enc := enc) (W := W) (fuel := m) (x := y1) (c := c2) (by simpa [Try.cells3] using h1)
  obtain ⟨x3, rfl, w3⟩ := one_int (enc := enc) (W := W) (fuel := m) (x := y2) (c := c3) (by simpa [Try.cells3] using h2)
  obtain ⟨x4, rfl, w4⟩ := one_int (enc := enc) (W := W) (fuel := m) (x := y3) (c := c4) (by simpa [Try.cells3] using h3)
  simp only [List.cons.injEq, and_true] at e0
  obtain ⟨rfl, rfl⟩ := e0
  exact ⟨x0, x1, x2, x3, x4, rfl, w0, w1, w2, w3, w4⟩
end

theorem okAgg {r : Reach} {b0 : Nat} {t : TypeId} {fs : Array Field} {W : World} {v : Value} (hs : Try.prog.underlying t = some (.struct fs)) (hv : Value.okWide Try.prog W r b0 t v) : ∃ cs, v = .agg cs := by
  obtain ⟨cs, rfl, _⟩ := okWide_struct hs hv
  exact ⟨cs, rfl⟩
theorem openR {H : Type} {enc : TypeId × Value → H} {W : World} {r : Reach} {b0 : Nat} {v : Value} {d : DataW H} {p : List MemPlace}
    (hv : Value.okWide Try.prog W r b0 24 v) (h : DataW.Trod enc Try.prog W 0 (fun _ => true) true 24 v d p) : ∃ x0 x1 x2 x3 x4 : Int, v = .agg #[.int .i64 x0, .int .i64 x1, .int .i64 x2, .int .i64 x3, .int .i64 x4] ∧ (-9223372036854775808 ≤ x0 ∧ x0 ≤ 9223372036854775807) ∧ (-9223372036854775808 ≤ x1 ∧ x1 ≤ 9223372036854775807) ∧ (-9223372036854775808 ≤ x2 ∧ x2 ≤ 9223372036854775807) ∧ (-9223372036854775808 ≤ x3 ∧ x3 ≤ 9223372036854775807) ∧ (-9223372036854775808 ≤ x4 ∧ x4 ≤ 9223372036854775807) := by
  obtain ⟨⟨cs⟩, rfl⟩ := okAgg Try.underlying24 hv
  obtain ⟨fuel, hf⟩ := h
  obtain ⟨x0, x1, x2, x3, x4, e, w⟩ := rules_ints hf
  simp only [Value.cells] at e
  exact ⟨x0, x1, x2, x3, x4, by rw [show cs = _ from e], w⟩
theorem openX {H : Type} {enc : TypeId × Value → H} {W : World} {r : Reach} {b0 : Nat} {v : Value} {d : DataW H} {p : List MemPlace}
    (hv : Value.okWide Try.prog W r b0 38 v) (h : DataW.Trod enc Try.prog W 0 (fun _ => true) true 38 v d p) : ∃ x0 x1 x2 x3 x4 x5 x6 x7 x8 x9 x10 x11 x12 x13 : Int, v = .agg #[.int .i64 x0, .int .i64 x1, .int .i64 x2, .int .i64 x3, .int .i64 x4, .int .i64 x5, .int .i64 x6, .int .i64 x7, .int .i64 x8, .int .i64 x9, .int .i64 x10, .int .i64 x11, .int .i64 x12, .int .i64 x13] ∧ (-9223372036854775808 ≤ x0 ∧ x0 ≤ 9223372036854775807) ∧ (-9223372036854775808 ≤ x1 ∧ x1 ≤ 9223372036854775807) ∧ (-9223372036854775808 ≤ x2 ∧ x2 ≤ 9223372036854775807) ∧ (-9223372036854775808 ≤ x3 ∧ x3 ≤ 9223372036854775807) ∧ (-9223372036854775808 ≤ x4 ∧ x4 ≤ 9223372036854775807) ∧ (-9223372036854775808 ≤ x5 ∧ x5 ≤ 9223372036854775807) ∧ (-9223372036854775808 ≤ x6 ∧ x6 ≤ 9223372036854775807) ∧ (-9223372036854775808 ≤ x7 ∧ x7 ≤ 9223372036854775807) ∧ (-9223372036854775808 ≤ x8 ∧ x8 ≤ 9223372036854775807) ∧ (-9223372036854775808 ≤ x9 ∧ x9 ≤ 9223372036854775807) ∧ (-9223372036854775808 ≤ x10 ∧ x10 ≤ 9223372036854775807) ∧ (-9223372036854775808 ≤ x11 ∧ x11 ≤ 9223372036854775807) ∧ (-9223372036854775808 ≤ x12 ∧ x12 ≤ 9223372036854775807) ∧ (-9223372036854775808 ≤ x13 ∧ x13 ≤ 9223372036854775807) := by
  obtain ⟨⟨cs⟩, rfl⟩ := okAgg Try.underlying38 hv
  obtain ⟨fuel, hf⟩ := h
  obtain ⟨x0, x1, x2, x3, x4, x5, x6, x7, x8, x9, x10, x11, x12, x13, e, w⟩ := state_ints hf
  simp only [Value.cells] at e
  exact ⟨x0, x1, x2, x3, x4, x5, x6, x7, x8, x9, x10, x11, x12, x13, by rw [show cs = _ from e], w⟩
theorem openP {H : Type} {enc : TypeId × Value → H} {W : World} {r : Reach} {b0 : Nat} {v : Value} {d : DataW H} {p : List MemPlace}
    (hv : Value.okWide Try.prog W r b0 22 v) (h : DataW.Trod enc Try.prog W 0 (fun _ => true) true 22 v d p) : ∃ a b : Int, v = .agg #[.int .i64 a, .int .i64 b] ∧ (-9223372036854775808 ≤ a ∧ a ≤ 9223372036854775807) ∧ -9223372036854775808 ≤ b ∧ b ≤ 9223372036854775807 := by
  obtain ⟨⟨cs⟩, rfl, _, _⟩ : ∃ cs, v = .agg cs ∧ cs.size = Try.prog.cellsOf 22 ∧ Row.okWide Try.prog W r b0 22 cs := by
    simpa [Value.okWide, Try.underlying22] using hv
  obtain ⟨fuel, hf⟩ := h
  obtain ⟨a, b, e, w⟩ := two_ints hf
  simp only [Value.cells] at e
  exact ⟨a, b, by rw [show cs = _ from e], w⟩

/-- so many pairs, one after another -/
theorem choose_pairs (P : Nat → Int × Int → Prop) (n : Nat) (h : ∀ j, j < n → ∃ p, P j p) : ∃ ps : List (Int × Int), ps.length = n ∧ ∀ j, j < n → P j (ps.getD j (0, 0)) := by
  induction n with
  | zero => exact ⟨[], rfl, fun j hj => by omega⟩
  | succ n ih =>
    obtain ⟨ps, hl, hp⟩ := ih fun j hj => h j (by omega)
    obtain ⟨p, hq⟩ := h n (by omega)
    refine ⟨ps ++ [p], by simp [hl], fun j hj => ?_⟩
    by_cases e : j = n
    · subst e
      rw [List.getD_eq_getElem?_getD, List.getElem?_append_right (by omega), hl]
      simpa using hq
    · rw [List.getD_eq_getElem?_getD, List.getElem?_append_left (by omega), ← List.getD_eq_getElem?_getD]
      exact hp j (by omega)
/-- a slice of pairs that came in -/
def FarV (w : World) (ao : Option Addr) (cap : Nat) (ps : List (Int × Int)) : Prop :=
  VRow w ao ps ∧ ps.length ≤ cap ∧ cap ≤ 9223372036854775807
theorem farV {H : Type} {enc : TypeId × Value → H} {W : World} {a : Option Addr} {len cap : Nat} {d : DataW H} {p : List MemPlace}
    (h : DataW.Trod enc Try.prog W 0 (fun _ => true) true 25 (.slice a len cap) d p) : ∃ ps, ps.length = len ∧ FarV W a cap ps ∧ (d = .nil ∧ len = 0 ∨ ∃ elems spare, d = .slice elems spare ∧ len ≤ elems.length) := by
  obtain ⟨fuel, hf⟩ := h
  rcases DataW.trod_slice Try.underlying25 hf with ⟨hcs, hx⟩ | ⟨x, l, c, elems, rest, n, _, hcs, hx, _, hlc, hm, hlen, hel, _, _⟩
  · simp [Value.cells] at hcs
    obtain ⟨rfl, rfl, rfl⟩ := hcs
    injection hx with hx _
    exact ⟨[], rfl, ⟨.inl rfl, by simp, by omega⟩, .inl ⟨hx, rfl⟩⟩
  · simp [Value.cells] at hcs
    obtain ⟨rfl, rfl, rfl⟩ := hcs
    injection hx with hx _
    unfold maxLen at hm
    rw [Try.cells22] at hel
    obtain ⟨ps, hpl, hps⟩ := choose_pairs (fun j q => W.cell? (x.add (j * 2)) = some (.int .i64 q.1) ∧ W.cell? ((x.add (j * 2)).add 1) = some (.int .i64 q.2)) len fun j hj => by
      have := hel j hj
      rw [List.getElem?_eq_getElem (by omega), Option.bind_eq_some_iff] at this
      obtain ⟨cs, hcs, hy⟩ := this
      obtain ⟨s, c, rfl, hs, hc⟩ := two_ints hy
      obtain ⟨_, _, h3⟩ := World.cells?_some hcs
      have h0 := h3 0 (by omega)
      have h1 := h3 1 (by omega)
      rw [show (x.add (j * 2)).add 0 = x.add (j * 2) by simp [Addr.add]] at h0
      exact ⟨(s, c), by simpa using h0, by simpa using h1⟩
    refine ⟨ps, hpl, ⟨?_, by omega, by omega⟩, .inr ⟨_, _, hx, by simp only [List.length_map]; omega⟩⟩
    by_cases h0 : len = 0
    · exact .inl (List.eq_nil_of_length_eq_zero (by omega))
    · have c0 := (hps 0 (by omega)).1
      obtain ⟨b, o, sp⟩ := x
      have hsp : sp = none := by
        cases sp with
        | none => rfl
        | some q =>
          have : W.cell? ((⟨b, o, some q⟩ : Addr).add 0) = none := by
            show W.cell? ⟨b, o, some q⟩ = none
            simp only [World.cell?]
            split <;> simp
          rw [Nat.zero_mul, this] at c0; cases c0
      subst hsp
      refine .inr ⟨b, o, rfl, fun j hj => ?_⟩
      have := hps j (by omega)
      rw [Addr.add_lit, Addr.add_lit] at this
      exact this

end Go.Proofs.Ytbnofjpiioneiaa.D

namespace Go.Proofs.Ytbnofjpiioneiaa.D
open Go.ChangeShapes Go.WideShapes Go.ChangeAt Go.RowKit Go.Joins Go.Deep K

theorem bulk_len {H : Type} (l : List (DataW H)) : l.length ≤ Rows.uptoBulkAll l := by
  induction l with
  | nil => simp
  | cons x l ih => simp only [Rows.uptoBulkAll, List.length_cons]; have : 1 ≤ Rows.uptoBulk x := (by cases x <;> first | (simp [Rows.uptoBulk]; done) | (rename_i l; cases l <;> simp [Rows.uptoBulk])); omega
theorem bulk_slice {H : Type} (elems spare : List (DataW H)) : elems.length ≤ Rows.uptoBulk (.slice elems spare) := by
  have := bulk_len elems
  simp only [Rows.uptoBulk]
  omega
theorem bulk_in {H : Type} {ds : List (DataW H)} {i : Nat} {d : DataW H} (h : ds[i]? = some d) : Rows.uptoBulk d ≤ Rows.uptoBulkAll ds := by
  induction ds generalizing i with
  | nil => simp at h
  | cons x l ih =>
    cases i with
    | zero => obtain rfl : x = d := (by simpa using h); simp only [Rows.uptoBulkAll]; omega
    | succ i => have := ih (i := i) (by simpa using h); simp only [Rows.uptoBulkAll]; omega
theorem bulk_at {H : Type} {ds : List (DataW H)} {i : Nat} {elems spare : List (DataW H)} (hk : Rows.uptoSmall H ds = true) (h : ds[i]? = some (.slice elems spare)) : elems.length ≤ 1048576 := by
  have h' : Rows.uptoBulkAll ds ≤ 1048576 := of_decide_eq_true hk
  have := bulk_in h
  have := bulk_slice elems spare
  omega
/-- two slices behind one argument more -/
theorem bulk_both {H : Type} {d0 : DataW H} {e1 s1 e2 s2 : List (DataW H)} (hk : Rows.uptoSmall H [d0, .slice e1 s1, .slice e2 s2] = true) : e1.length + e2.length ≤ 1048576 := by
  have h' : Rows.uptoBulkAll [d0, .slice e1 s1, .slice e2 s2] ≤ 1048576 := of_decide_eq_true hk
  have := bulk_slice e1 s1
  have := bulk_slice e2 s2
  simp only [Rows.uptoBulkAll] at h'
  omega

/-- a slice of integers that came in -/
def FarS (w : World) (ao : Option Addr) (cap : Nat) (zs : List Int) : Prop := Row w ao zs ∧ zs.length ≤ cap ∧ cap ≤ 9223372036854775807
/-- so many numbers, one after another -/
theorem choose_ints (P : Nat → Int → Prop) (n : Nat) (h : ∀ j, j < n → ∃ p, P j p) : ∃ ps : List Int, ps.length = n ∧ ∀ j, j < n → P j (ps.getD j 0) := by
  induction n with
  | zero => exact ⟨[], rfl, fun j hj => by omega⟩
  | succ n ih =>
    obtain ⟨ps, hl, hp⟩ := ih fun j hj => h j (by omega)
    obtain ⟨p, hq⟩ := h n (by omega)
    refine ⟨ps ++ [p], by simp [hl], fun j hj => ?_⟩
    by_cases e : j = n
    · subst e
      rw [List.getD_eq_getElem?_getD, List.getElem?_append_right (by omega), hl]
      simpa using hq
    · rw [List.getD_eq_getElem?_getD, List.getElem?_append_left (by omega), ← List.getD_eq_getElem?_getD]
      exact hp j (by omega)
theorem farS {H : Type} {enc : TypeId × Value → H} {W : World} {a : Option Addr} {len cap : Nat} {d : DataW H} {p : List MemPlace}
    (h : DataW.Trod enc Try.prog W 0 (fun _ => true) true 56 (.slice a len cap) d p) : ∃ ps, ps.length = len ∧ FarS W a cap ps ∧ (d = .nil ∧ len = 0 ∨ ∃ elems spare, d = .slice elems spare ∧ len ≤ elems.length) := by
  obtain ⟨fuel, hf⟩ := h
  rcases DataW.trod_slice Try.underlying56 hf with ⟨hcs, hx⟩ | ⟨x, l, c, elems, rest, n, _, hcs, hx, _, hlc, hm, hlen, hel, _, _⟩
  · simp [Value.cells] at hcs
    obtain ⟨rfl, rfl, rfl⟩ := hcs
    injection hx with hx _
    exact ⟨[], rfl, ⟨.inl rfl, by simp, by omega⟩, .inl ⟨hx, rfl⟩⟩
  · simp [Value.cells] at hcs
    obtain ⟨rfl, rfl, rfl⟩ := hcs
    injection hx with hx _
    unfold maxLen at hm
    rw [Try.cells3] at hel
    obtain ⟨ps, hpl, hps⟩ := choose_ints (fun j q => W.cell? (x.add j) = some (.int .i64 q)) len fun j hj => by
      have := hel j hj
      rw [List.getElem?_eq_getElem (by omega), Option.bind_eq_some_iff] at this
      obtain ⟨cs, hcs, hy⟩ := this
      obtain ⟨h1, _, h3⟩ := World.cells?_some hcs
      obtain ⟨c, rfl⟩ : ∃ c, cs = [c] := by
        match cs, h1 with
        | [c], _ => exact ⟨c, rfl⟩
      obtain ⟨s, rfl, _⟩ := one_int hy
      have h0 := h3 0 (by omega)
      rw [Nat.mul_one, show (x.add j).add 0 = x.add j by simp [Addr.add]] at h0
      exact ⟨s, by simpa using h0⟩
    refine ⟨ps, hpl, ⟨?_, by omega, by omega⟩, .inr ⟨_, _, hx, by simp only [List.length_map]; omega⟩⟩
    by_cases h0 : len = 0
    · exact .inl (List.eq_nil_of_length_eq_zero (by omega))
    · have c0 := hps 0 (by omega)
      obtain ⟨b, o, sp⟩ := x
      have hsp : sp = none := by
        cases sp with
        | none => rfl
        | some q =>
          have : W.cell? ((⟨b, o, some q⟩ : Addr).add 0) = none := by
            show W.cell? ⟨b, o, some q⟩ = none
            simp only [World.cell?]
            split <;> simp
          rw [this] at c0; cases c0
      subst hsp
      refine .inr ⟨b, o, rfl, fun j hj => ?_⟩
      have := hps j (by omega)
      rw [Addr.add_lit] at this
      exact this

end Go.Proofs.Ytbnofjpiioneiaa.D
