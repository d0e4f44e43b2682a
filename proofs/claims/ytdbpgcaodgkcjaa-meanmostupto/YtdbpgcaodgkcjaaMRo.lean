/- PROVED: what the law's own round answers: whether edges go round. CONDITIONS: none beyond each theorem's own. -/
import Derived.Test.YtdbpgcaodgkcjaaMTe
import Derived.Test.YtdbpgcaodgkcjaaMSi
namespace Go.Proofs.Ytdbpgcaodgkcjaa
open Go.RowKit
set_option linter.unusedVariables false

/-- these numbers go round -/
def Rnz (es : List Eg) (z : List Int) (p : Nat) : Prop := wkz es z p ∧ 0 < p ∧ (eg es (z.getD 0 0).toNat).f = (eg es (z.getD (p - 1) 0).toNat).t
theorem weighN (n : Nat) (es : List Eg) (hG : Gph n es) (a : Option Addr) (cap m : Nat) (hm : es.length = m) (a1 : Option Addr) (cap1 p : Nat) (z : List Int) (hzp : z.length = p) (hl : p ≤ 9223372036854775807) (w : World) (hE : GRow w a es) (hz : Row w a1 z) (A1 A2 : Int) (hA : wge es z = (A1, A2)) :
    Calls Try.prog 13 #[.agg #[.int .i64 n, .slice a m cap], .slice a1 p cap1] w fun e w' => e = .returned (.tuple #[.int .i64 A1, .int .i64 A2]) ∧ Below w.heap.size w w' := by
  have := weigh_any n es hG a a1 cap cap1 z w hE hz (by omega)
  rw [hm, hzp, hA] at this
  exact this
theorem round_wrong (N : Int) (a : Option Addr) (cap : Nat) (L : List Ed) (a1 : Option Addr) (cap1 p : Nat) (hl : L.length ≤ 9223372036854775807) (hg : ¬ grt N L) (w : World) (hE : ERow w a L) :
    Calls Try.prog 12 #[.agg #[.int .i64 N, .slice a L.length cap], .slice a1 p cap1] w fun e w' => e = .returned (.bool false) ∧ Below w.heap.size w w' := by
  have B : Below w.heap.size w (w.alloc (.cells #[.int .i64 N, .slice a L.length cap] 24)) := balloc (Below.refl _ _) _
  have hw := weigh_wrong N a a1 cap cap1 p L _ (hE.kept B) hl hg
  generalize L.length = m at *
  clear hE hg
  go_enter Try.func12, Try.ntmps12
  go_wp2_with (go_at_call 13; refine hw.mono ?_; rintro e w1 ⟨rfl, b1⟩; clear hw)
  go_quiet (fail)
  go_wp2
  go_ret
  exact ⟨rfl, below_drewN (bthen B b1) _⟩
set_option maxHeartbeats 3200000 in
theorem round_any (n : Nat) (es : List Eg) (hG : Gph n es) (a : Option Addr) (cap m : Nat) (hm : es.length = m) (a1 : Option Addr) (cap1 p : Nat) (z : List Int) (hzp : z.length = p) (hl : p ≤ 9223372036854775807) (t : Bool) (ht : t = true ↔ Rnz es z p) (w : World) (hE : GRow w a es) (hz : Row w a1 z) :
    Calls Try.prog 12 #[.agg #[.int .i64 n, .slice a m cap], .slice a1 p cap1] w fun e w' => e = .returned (.bool t) ∧ Below w.heap.size w w' := by
  have m4 : m ≤ 4800 := by rw [← hm]; exact hG.m4
  have B : Below w.heap.size w (w.alloc (.cells #[.int .i64 n, .slice a m cap] 24)) := balloc (Below.refl _ _) _
  have E := hE.kept B
  have Z := hz.kept B
  have K := Gb.new w n a m cap
  obtain ⟨w0, hw0⟩ : ∃ w0, w.alloc (.cells #[.int .i64 n, .slice a m cap] 24) = w0 := ⟨_, rfl⟩
  rw [hw0] at B E Z K
  by_cases hwk : wkz es z p
  · obtain ⟨A1, A2, hA, hA2⟩ : ∃ A1 A2, wge es z = (A1, A2) ∧ A2 = 0 := ⟨_, _, wge_yes (by rw [hzp]; exact hwk), rfl⟩
    subst hA2
    have hw := weighN n es hG a cap m hm a1 cap1 p z hzp hl w0 E Z A1 0 hA
    by_cases hp0 : p = 0
    · have tf : t = false := by
        cases t
        · rfl
        · have := (ht.1 rfl).2.1; omega
      subst tf
      have d0 : decide ((0 : Int) < (p : Int)) = false := decide_eq_false (by omega)
      have d1 : decide (0 < p) = false := decide_eq_false (by omega)
      obtain ⟨g0, g1⟩ := id K
      replace hp0 : Hid _ := hp0
      clear hE hz hG hm hwk ht hA hzp
      go_enter Try.func12, Try.ntmps12
      go_wp2_with (go_at_call 13; refine hw.mono ?_; rintro e w1 ⟨rfl, b1⟩; clear hw)
      go_quiet (fail)
      go_wp2
      go_ret
      exact ⟨rfl, below_drewN (bthen B b1) _⟩
    · obtain ⟨pp, hpp⟩ : ∃ pp, p = pp + 1 := ⟨p - 1, by omega⟩
      obtain ⟨u0, u1, _⟩ := hwk 0 (by omega)
      obtain ⟨v0, v1, _⟩ := hwk pp (by omega)
      obtain ⟨R0, hR0⟩ : ∃ R0 : Nat, z.getD 0 0 = (R0 : Int) := ⟨(z.getD 0 0).toNat, by omega⟩
      obtain ⟨R1, hR1⟩ : ∃ R1 : Nat, z.getD pp 0 = (R1 : Int) := ⟨(z.getD pp 0).toNat, by omega⟩
      have hE1 : Hid (∀ v, GRow v a es → ∃ b off, a = some ⟨b, off, none⟩ ∧ v.cell? ⟨b, off + R0 * 3, none⟩ = some (.int .i64 ((eg es R0).f : Int)) ∧ v.cell? ⟨b, off + R1 * 3 + 1, none⟩ = some (.int .i64 ((eg es R1).t : Int))) := fun v h => by
        obtain ⟨b, off, e, h1⟩ := h.at (by omega)
        exact ⟨b, off, e, (h1 R0 (by omega)).1, (h1 R1 (by omega)).2.1⟩
      have hZ1 : Hid (∀ v, Row v a1 z → ∃ b off, a1 = some ⟨b, off, none⟩ ∧ v.cell? ⟨b, off + 0, none⟩ = some (.int .i64 (R0 : Int)) ∧ v.cell? ⟨b, off + pp, none⟩ = some (.int .i64 (R1 : Int))) := fun v h => by
        obtain ⟨b, off, e, h1⟩ := h.at (by omega)
        exact ⟨b, off, e, by rw [← hR0]; exact h1 0 (by omega), by rw [← hR1]; exact h1 pp (by omega)⟩
      have htt : Hid (t = decide ((eg es R0).f = (eg es R1).t)) := (by
        rw [Bool.eq_iff_iff, ht, decide_eq_true_iff]
        unfold Rnz
        rw [hR0, show p - 1 = pp by omega, hR1, Int.toNat_natCast, Int.toNat_natCast]
        exact ⟨fun h => h.2.2, fun h => ⟨hwk, by omega, h⟩⟩ : t = decide ((eg es R0).f = (eg es R1).t))
      obtain ⟨f, hf⟩ : ∃ f, (eg es R0).f = f := ⟨_, rfl⟩
      obtain ⟨tt, htt2⟩ : ∃ tt, (eg es R1).t = tt := ⟨_, rfl⟩
      rw [hf, htt2] at htt hE1
      have i0 : (R0 : Int) < (m : Int) := by omega
      have i1 : (R1 : Int) < (m : Int) := by omega
      have i2 : (p : Int) - 1 = (pp : Int) := by omega
      have i3 : IntKind.i64.wrap (pp : Int) = (pp : Int) := wrap_in (by omega)
      have i4 : (pp : Int) < (p : Int) := by omega
      have i5 : (0 : Int) < (p : Int) := by omega
      have d0 : decide ((0 : Int) < (p : Int)) = true := decide_eq_true (by omega)
      have d1 : decide (0 < p) = true := decide_eq_true (by omega)
      have dd : ((f : Int) == (tt : Int)) = t := by
        rw [htt.out, Bool.eq_iff_iff, beq_iff_eq, decide_eq_true_iff]; omega
      obtain ⟨g0, g1⟩ := id K
      clear hE hz hG hm hwk ht hA hzp hf htt2 hR0 hR1 u0 u1 v0 v1 htt hp0 hpp
      go_enter Try.func12, Try.ntmps12
      obtain ⟨b, off, rfl, _, _⟩ := hE1.out w0 E
      obtain ⟨b1, o1, rfl, _, _⟩ := hZ1.out w0 Z
      go_wp2_with (go_at_call 13; refine hw.mono ?_; rintro e w1 ⟨rfl, bb⟩; clear hw; replace E := E.kept bb; replace Z := Z.kept bb; replace K := K.kept bb; replace B := bthen B bb; clear g0 g1; obtain ⟨g0, g1⟩ := id K)
      obtain ⟨b', off', hb', x0, x1⟩ := hE1.out _ E
      injection hb' with hb'
      injection hb' with hb1' hb2' _
      subst hb1' hb2'
      obtain ⟨b', off', hb', y0, y1⟩ := hZ1.out _ Z
      injection hb' with hb'
      injection hb' with hb1' hb2' _
      subst hb1' hb2'
      rw [Nat.add_zero] at y0
      clear hE1 hZ1 E Z
      go_quiet (fail)
      go_wp2
      go_ret
      exact ⟨by first | rfl | (rw [dd]), below_drewN B _⟩
  · obtain ⟨A1, A2, hA, hA2⟩ : ∃ A1 A2, wge es z = (A1, A2) ∧ A2 = 1 := ⟨_, _, wge_no (by rw [hzp]; exact hwk), rfl⟩
    subst hA2
    have hw := weighN n es hG a cap m hm a1 cap1 p z hzp hl w0 E Z A1 1 hA
    have tf : t = false := by
      cases t
      · rfl
      · exact absurd (ht.1 rfl).1 hwk
    subst tf
    obtain ⟨g0, g1⟩ := id K
    clear hE hz hG hm hwk ht hA hzp
    go_enter Try.func12, Try.ntmps12
    go_wp2_with (go_at_call 13; refine hw.mono ?_; rintro e w1 ⟨rfl, b1⟩; clear hw)
    go_quiet (fail)
    go_wp2
    go_ret
    exact ⟨rfl, below_drewN (bthen B b1) _⟩

end Go.Proofs.Ytdbpgcaodgkcjaa
