/- PROVED: what add and best do to a row of rivals that lies in memory. CONDITIONS: none beyond each theorem's own. -/
import Derived.Test.YtngmjmehkehbeaaWSmall
import Derived.Test.YtngmjmehkehbeaaRivals
import Derived.ArgAppend
import Derived.Deep.LoopGhost
namespace Go.Proofs.Ytngmjmehkehbeaa
open Go.RowKit

theorem Try.info51 : (Try.prog.info? 51).map (fun i => (i.zero, i.size, i.bytes)) = some (some (.agg #[.int .i64 0, .int .i64 0]), 2, 16) := by kernel_rfl

/-- the rivals rs lie from place off on in block g, behind them room up to cap -/
structure Lies (w : World) (g off cap : Nat) (rs : Rs) : Prop where
  le : rs.length ≤ cap
  small : cap ≤ maxLen
  p : ∀ j, j < rs.length → w.cell? ⟨g, off + j * 2, none⟩ = some (.int .i64 (rs.getD j (0, 0)).1)
  v : ∀ j, j < rs.length → w.cell? ⟨g, off + j * 2 + 1, none⟩ = some (.int .i64 (rs.getD j (0, 0)).2)
  room : ∀ i, i < 2 * cap → (w.cell? ⟨g, off + i, none⟩).isSome = true ∧ w.frozen? ⟨g, off + i, none⟩ = false

/-- the struct of the rivals in block P: who beats; the row -/
structure Riv (P : Nat) (bf : Value) (w : World) (ao : Option Addr) (cap : Nat) (rs : Rs) : Prop where
  size : P + 2 ≤ w.heap.size
  b : w.cell? ⟨P, 0, none⟩ = some bf
  l : w.cell? ⟨P, 1, none⟩ = some (.slice ao rs.length cap)
  f : w.frozen? ⟨P, 1, none⟩ = false
  row : (ao = none ∧ rs = [] ∧ cap = 0) ∨ ∃ g off, ao = some ⟨g, off, none⟩ ∧ P + 2 ≤ g ∧ g < w.heap.size ∧ Lies w g off cap rs

/-- nothing has turned below block P, nor in the one behind it -/
structure Keep (P : Nat) (w w' : World) : Prop where
  below : Below P w w'
  out : ∀ i, w'.cell? ⟨P + 1, i, none⟩ = w.cell? ⟨P + 1, i, none⟩ ∧ w'.frozen? ⟨P + 1, i, none⟩ = w.frozen? ⟨P + 1, i, none⟩

theorem cell_set_other {w : World} {b c i j : Nat} {u : Value} (h : b ≠ c) : (w.setCell ⟨b, i, none⟩ u).cell? ⟨c, j, none⟩ = w.cell? ⟨c, j, none⟩ :=
  World.cell?_setCell_other _ _ _ _ (fun e => h (congrArg Addr.block e))

theorem Lies.congr {w w' : World} {g off cap : Nat} {rs : Rs} (h : Lies w g off cap rs) (e : ∀ i, w'.cell? ⟨g, i, none⟩ = w.cell? ⟨g, i, none⟩ ∧ w'.frozen? ⟨g, i, none⟩ = w.frozen? ⟨g, i, none⟩) : Lies w' g off cap rs :=
  ⟨h.le, h.small, fun j hj => by rw [(e _).1]; exact h.p j hj, fun j hj => by rw [(e _).1]; exact h.v j hj, fun i hi => by rw [(e _).1, (e _).2]; exact h.room i hi⟩

theorem Lies.set {w : World} {g off cap : Nat} {rs : Rs} (h : Lies w g off cap rs) {P i : Nat} (u : Value) (hP : P ≠ g) : Lies (w.setCell ⟨P, i, none⟩ u) g off cap rs :=
  h.congr fun _ => ⟨cell_set_other hP, World.frozen?_setCell _ _ _ _⟩

theorem Lies.tail {w : World} {g off cap : Nat} {r : Int × Int} {rs : Rs} (h : Lies w g off cap (r :: rs)) : Lies w g (off + 2) (cap - 1) rs := by
  have hl : rs.length + 1 ≤ cap := by simpa using h.le
  refine ⟨by omega, by have := h.small; omega, fun j hj => ?_, fun j hj => ?_, fun i hi => ?_⟩
  · have := h.p (j + 1) (by simp; omega); rw [show off + (j + 1) * 2 = off + 2 + j * 2 by omega] at this; exact this
  · have := h.v (j + 1) (by simp; omega); rw [show off + (j + 1) * 2 = off + 2 + j * 2 by omega] at this; exact this
  · have := h.room (2 + i) (by omega); rw [show off + (2 + i) = off + 2 + i by omega] at this; exact this

theorem Riv.drop {P : Nat} {bf : Value} {w : World} {g off cap : Nat} {r : Int × Int} {rs : Rs} (h : Riv P bf w (some ⟨g, off, none⟩) cap (r :: rs)) :
    Riv P bf (w.setCell ⟨P, 1, none⟩ (.slice (some ⟨g, off + 2, none⟩) rs.length (cap - 1))) (some ⟨g, off + 2, none⟩) (cap - 1) rs := by
  refine ⟨by simpa using h.size, ?_, World.cell?_setCell_same _ _ _ h.l, by rw [World.frozen?_setCell]; exact h.f, .inr ?_⟩
  · rw [World.cell?_setCell_other _ _ _ _ (fun e => by cases e)]; exact h.b
  · rcases h.row with ⟨e, _⟩ | ⟨g', off', e, h1, h2, hL⟩
    · cases e
    · cases e
      exact ⟨g, off + 2, rfl, h1, by simpa using h2, hL.tail.set _ (by omega)⟩

theorem Keep.refl (P : Nat) (w : World) : Keep P w w := ⟨Below.refl _ _, fun _ => ⟨rfl, rfl⟩⟩
theorem Keep.trans {P : Nat} {a b c : World} (h : Keep P a b) (k : Keep P b c) : Keep P a c :=
  ⟨h.below.trans k.below, fun i => ⟨(k.out i).1.trans (h.out i).1, (k.out i).2.trans (h.out i).2⟩⟩
theorem Keep.set {P i : Nat} {a w : World} (h : Keep P a w) (u : Value) : Keep P a (w.setCell ⟨P, i, none⟩ u) :=
  h.trans ⟨(Below.refl P w).setCell (p := ⟨P, i, none⟩) (Nat.le_refl P) u, fun _ => ⟨cell_set_other (by omega), World.frozen?_setCell _ _ _ _⟩⟩

theorem Good.later {low : Bool} {f : Nat → Int} {lo k b : Nat} {rs : Rs} (h : Good low f lo k rs) (hb : lo ≤ b) : Good low f b k rs :=
  ⟨h.len, h.mem, h.last, h.beats, h.up, fun j h1 h2 => h.all j (by omega) h2⟩

set_option maxHeartbeats 800000 in
theorem best_any (P : Nat) (bf : Value) (ao : Option Addr) (cap : Nat) (rs : Rs) (low : Bool) (f : Nat → Int) (lo k b : Nat) (w : World)
    (h : Riv P bf w ao cap rs) (hg : Good low f lo k rs) (hlo : lo ≤ b) (hb : b < k) (hk : k ≤ 35184372088832) :
    Calls Try.prog 26 #[.pointer (some ⟨P, 0, none⟩), .int .i64 b] w fun e w' => ∃ v, e = .returned (.int .i64 v) ∧ Best low f b k v ∧ ∃ ao' cap' rs', Riv P bf w' ao' cap' rs' ∧ Good low f b k rs' ∧ Keep P w w' ∧ rs'.length ≤ k - b := by
  go_enter Try.func26, Try.ntmps26
  go_wp2
  go_loopg [] rs.length (fun n wr => ∃ ao' cap' rs' lo', rs'.length = n ∧ lo' ≤ b ∧ Riv P bf wr ao' cap' rs' ∧ Good low f lo' k rs' ∧ Keep P w wr)
  case atStart => exact ⟨ao, cap, rs, lo, rfl, hlo, h, hg, ⟨Below.refl _ _, fun _ => ⟨rfl, rfl⟩⟩⟩
  case round =>
    obtain ⟨ao', cap', rs', lo', hn, hlo', hR, hG, hK⟩ := hrel
    obtain ⟨r, rs', rfl⟩ : ∃ r t, rs' = r :: t := by
      cases rs' with
      | nil => have := (hG.last (by omega)).1; simp at this
      | cons r t => exact ⟨r, t, rfl⟩
    obtain ⟨g, off, rfl, hg1, hg2, hL⟩ : ∃ g off, ao' = some ⟨g, off, none⟩ ∧ P + 2 ≤ g ∧ g < wr.heap.size ∧ Lies wr g off cap' (r :: rs') := by
      rcases hR.row with ⟨_, e, _⟩ | e
      · cases e
      · exact e
    have c1 := hR.l
    have f1 := hR.f
    have p0 := hL.p 0 (by simp)
    have v0 := hL.v 0 (by simp)
    simp only [Nat.zero_mul, Nat.add_zero, List.getD_cons_zero, List.length_cons] at c1 p0 v0
    have hsz : rs'.length + 1 ≤ cap' := by simpa using hL.le
    have hcm := hL.small
    unfold maxLen at hcm
    by_cases hlt : r.1 < (b : Int)
    · have hne := hG.two hlt hb
      have hp : 0 < rs'.length := List.length_pos_iff.2 hne
      go_wp2
      go_roundg rs'.length
      case measure => simp at hn; omega
      case rel => exact ⟨_, _, rs', b, rfl, Nat.le_refl _, hR.drop, hG.drop hne hlt hlo', hK.set _⟩
    · go_wp2
      go_ret
      exact ⟨r.2, rfl, hG.front (by omega) hlo', _, _, _, hR, hG.later hlo', hK, hG.count (by omega) (by omega)⟩

end Go.Proofs.Ytngmjmehkehbeaa
