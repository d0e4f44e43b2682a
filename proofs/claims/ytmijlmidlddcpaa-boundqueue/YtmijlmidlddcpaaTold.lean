/- PROVED: the contracts with how long each row is said apart; what bucket.Keeps answers. CONDITIONS: none beyond each theorem's own. -/
import Derived.Test.YtmijlmidlddcpaaSame
import Derived.Test.YtmijlmidlddcpaaBLine
import Derived.Test.YtmijlmidlddcpaaOf
import Derived.Test.YtmijlmidlddcpaaWithin
import Derived.Test.YtmijlmidlddcpaaFar
namespace Go.Proofs.Ytmijlmidlddcpaa
open Go.RowKit

/-- one step of a walk that is not taken yet -/
theorem tok : Hid True := trivial
/-- what a call answers: n numbers -/
def AnsN (w : World) (n : Nat) (R : List Int) (e : Ending) (w' : World) : Prop :=
  ∃ ao cap, e = .returned (.slice ao n cap) ∧ n ≤ cap ∧ Row w' ao R ∧ Below w.heap.size w w'
theorem Ans.told {w : World} {R S : List Int} {n : Nat} {e : Ending} {w' : World} (h : Ans w R e w') (hl : R.length = n) (hS : R = S) : AnsN w n S e w' := by
  subst hS; subst hl; exact h

theorem of_r (a : Option Addr) (c n : Nat) (f R : List Int) (hR : of f = R) (w : World) (k : Row w a f) (e1 : f.length = n) (h : n ≤ 17592186044415) :
    Calls Try.prog 19 #[.slice a n c] w (AnsN w (n + 1) R) := by
  subst e1
  exact (of_any a c f w k h).mono fun e w' q => q.told (of_len f) hR
theorem conv_r (a1 a2 : Option Addr) (c1 c2 n : Nat) (f g R : List Int) (hR : conv f g = R) (w : World) (k1 : Row w a1 f) (k2 : Row w a2 g) (e1 : f.length = n) (e2 : g.length = n) (h : n ≤ 17592186044416) :
    Calls Try.prog 26 #[.slice a1 n c1, .slice a2 n c2] w (AnsN w n R) := by
  have hc := conv_any a1 a2 c1 c2 f g w k1 k2 (by omega) (by omega)
  rw [e1, e2] at hc
  exact hc.mono fun e w' q => q.told (by rw [conv_len, e1, e2, Nat.min_self]) hR
theorem within_n (a1 a2 : Option Addr) (c1 c2 n m : Nat) (f g : List Int) (w : World) (k1 : Row w a1 f) (k2 : Row w a2 g) (e1 : f.length = n) (e2 : g.length = m) (h : n ≤ 17592186044416) (h2 : m ≤ 17592186044416) (b : Bool) (hb : decide (below f g) = b) :
    Calls Try.prog 25 #[.slice a1 n c1, .slice a2 m c2] w fun e w' => e = .returned (.bool b) ∧ Below w.heap.size w w' := by
  subst e1; subst e2; subst hb
  exact within_any a1 a2 c1 c2 f g h h2 w k1 k2
theorem equal_n (a1 a2 : Option Addr) (c1 c2 n m : Nat) (f g : List Int) (w : World) (k1 : Row w a1 f) (k2 : Row w a2 g) (e1 : f.length = n) (e2 : g.length = m) (h : n ≤ 35184372088832) (h2 : m ≤ 35184372088832) (b : Bool) (hb : decide (f = g) = b) :
    Calls Try.prog 12 #[.slice a1 n c1, .slice a2 m c2] w fun e w' => e = .returned (.bool b) ∧ Below w.heap.size w w' := by
  subst e1; subst e2; subst hb
  exact (equal_any a1 a2 c1 c2 f g w k1 k2 h h2).mono fun _ _ ⟨he, q, hw⟩ => ⟨he, hw ▸ below_drewN (Below.refl _ _) q⟩
theorem bright_n (R B : Int) (a : Option Addr) (c n : Nat) (f : List Int) (w : World) (k : Row w a f) (e1 : f.length = n) (b : Bool) (hb : decide (bright R B f) = b) :
    Calls Try.prog 18 #[.agg #[.int .i64 R, .int .i64 B], .slice a n c] w fun e w' => e = .returned (.bool b) ∧ Below w.heap.size w w' := by
  subst e1; subst hb
  exact bright_any R B a c f w k
theorem line_r (R B : Int) (hR : inr R) (hB : inr B) (n : Nat) (hn : n ≤ 300) (S : List Int) (hS : line R B n = S) (w : World) :
    Calls Try.prog 20 #[.agg #[.int .i64 R, .int .i64 B], .int .i64 n] w (AnsN w n S) :=
  (line_nat R B n n (by omega) w).mono fun e w' q => q.told (line_len hR hB n) hS
set_option maxHeartbeats 1600000 in
theorem keeps_any (R B : Int) (a : Option Addr) (c : Nat) (z : List Int) (w : World) (hz : Row w a z) :
    Calls Try.prog 21 #[.agg #[.int .i64 R, .int .i64 B], .slice a z.length c] w fun e w' => e = .returned (.bool (decide (keeps R B z))) ∧ Below w.heap.size w w' := by
  obtain ⟨w0, hw0⟩ : ∃ w0, w.alloc (.cells #[.int .i64 R, .int .i64 B] 30) = w0 := ⟨_, rfl⟩
  have hb0 : Below w.heap.size w w0 := by rw [← hw0]; exact balloc (Below.refl _ _) _
  have hK : Bk w0 w.heap.size R B := by rw [← hw0]; exact Bk.new w R B
  have hz0 := hz.kept hb0
  have hb := bright_any R B a c z w0 hz0
  have cr0 := hK.r
  have cb0 := hK.b
  by_cases h : bright R B z
  · have hk : decide (keeps R B z) = decide (below (of z) (conv (of z) (line R B (z.length + 1)))) := by
      rw [Bool.eq_iff_iff]; simp only [decide_eq_true_eq]; exact ⟨fun k => k.2, fun k => ⟨h, k⟩⟩
    rw [hk]
    clear hk
    rw [decide_eq_true h] at hb
    have hR := h.1
    have hB := h.2.1
    have hn := h.2.2.1
    have hll := line_len h.1 h.2.1 (z.length + 1)
    have hol := of_len z
    have hcl : (conv (of z) (line R B (z.length + 1))).length = z.length + 1 := by rw [conv_len, hol, hll, Nat.min_self]
    have HR : Hid (inr R) := hR
    have HB : Hid (inr B) := hB
    have hln := fun w => line_r R B hR hB (z.length + 1) (by omega) _ rfl w
    have hcv := fun a1 a2 c1 c2 w k1 k2 => conv_r a1 a2 c1 c2 (z.length + 1) (of z) (line R B (z.length + 1)) _ rfl w k1 k2 hol hll (by omega)
    have hwi := fun a1 a2 c1 c2 w k1 k2 => within_n a1 a2 c1 c2 (z.length + 1) (z.length + 1) (of z) (conv (of z) (line R B (z.length + 1))) w k1 k2 hol hcl (by omega) (by omega) _ rfl
    have hof := fun w k => of_r a c z.length z _ rfl w k rfl (by omega)
    clear hR hB h hll hol hcl
    generalize conv (of z) (line R B (z.length + 1)) = C at hcv hwi ⊢
    generalize line R B (z.length + 1) = L at hln hcv
    generalize decide (below (of z) C) = ans at hwi ⊢
    generalize of z = O at hof hcv hwi
    generalize z.length = n at *
    replace hln : Hid _ := hln
    replace hcv : Hid _ := hcv
    replace hwi : Hid _ := hwi
    replace hof : Hid _ := hof
    have hnI : ((n + 1 : Nat) : Int) = (n : Int) + 1 := by omega
    go_enter Try.func21, Try.ntmps21
    go_wp2_with (first
      | (go_at_call 18; refine hb.mono ?_; rintro e w1 ⟨rfl, b1⟩; clear hb cr0 cb0; have r1 := hz0.kept b1; have K1 := hK.kept b1; have B1 := bthen hb0 b1)
      | (go_at_call 19; refine (hof.out w1 r1).mono ?_; rintro e w2 ⟨a2, c2, rfl, _, r2, b2⟩; clear hof; have K2 := K1.kept b2; have B2 := bthen B1 b2; have cr := K2.r; have cb := K2.b; clear B1 r1 K1 b1 b2)
      | (go_at_call 20; refine (hln.out w2).mono ?_; rintro e w3 ⟨a3, c3, rfl, _, r3, b3⟩; clear hln; have B3 := bthen B2 b3; have r23 := r2.kept b3; clear B2 K2 cr cb b3)
      | (go_at_call 26; refine (hcv.out a2 a3 c2 c3 w3 r23 r3).mono ?_; rintro e w4 ⟨a4, c4, rfl, _, r4, b4⟩; clear hcv; have B4 := bthen B3 b4; have r24 := r23.kept b4; clear B3 r3 r23 b4)
      | (go_at_call 25; refine (hwi.out a2 a4 c2 c4 w4 r24 r4).mono ?_; rintro e w5 ⟨rfl, b5⟩; clear hwi; have B5 := bthen B4 b5; clear B4 r24 r4 b5))
    go_ret
    exact ⟨rfl, B5⟩
  · have hk : decide (keeps R B z) = false := decide_eq_false fun k => h k.1
    rw [hk]
    rw [decide_eq_false h] at hb
    go_enter Try.func21, Try.ntmps21
    go_wp2_with (go_at_call 18; refine hb.mono ?_; rintro e w1 ⟨rfl, b1⟩; clear hb)
    go_ret
    exact ⟨rfl, bthen hb0 b1⟩
theorem keeps_n (R B : Int) (a : Option Addr) (c n : Nat) (f : List Int) (w : World) (k : Row w a f) (e1 : f.length = n) (b : Bool) (hb : decide (keeps R B f) = b) :
    Calls Try.prog 21 #[.agg #[.int .i64 R, .int .i64 B], .slice a n c] w fun e w' => e = .returned (.bool b) ∧ Below w.heap.size w w' := by
  subst e1; subst hb
  exact keeps_any R B a c f w k

end Go.Proofs.Ytmijlmidlddcpaa
