/- PROVED: what Min, Max and Base answer, and slices.Equal. CONDITIONS: none beyond each theorem's own. -/
import Derived.Test.YtdnhanaeamnddaaSlide
import Derived.Test.YtdnhanaeamnddaaShelf
namespace Go.Proofs.Ytdnhanaeamnddaa
open Go.RowKit

theorem equal_any (a1 a2 : Option Addr) (c1 c2 : Nat) (xs ys : List Int) (w : World) (h1 : Row w a1 xs) (h2 : Row w a2 ys) (b1 : xs.length ≤ 35184372088832) (b2 : ys.length ≤ 35184372088832) :
    Calls Try.prog 8 #[.slice a1 xs.length c1, .slice a2 ys.length c2] w fun e w' => e = .returned (.bool (decide (xs = ys))) ∧ ∃ q, w' = w.drewN q := by
  by_cases hl : xs.length = ys.length
  · rcases h1 with e | ⟨g1, o1, rfl, k1⟩
    · subst e
      have hy : ys = [] := List.eq_nil_of_length_eq_zero (by simpa using hl.symm)
      subst hy
      exact (Try.slices_Equal_int_empty a1 a2 c1 0 c2 w (by omega)).mono fun e w' ⟨he, hw⟩ => ⟨by rw [he]; rfl, 0, hw⟩
    · rcases h2 with e | ⟨g2, o2, rfl, k2⟩
      · subst e
        have hx : xs = [] := List.eq_nil_of_length_eq_zero (by simpa using hl)
        subst hx
        exact (Try.slices_Equal_int_empty _ a2 c1 0 c2 w (by omega)).mono fun e w' ⟨he, hw⟩ => ⟨by rw [he]; rfl, 0, hw⟩
      · refine (Try.slices_Equal_int g1 o1 xs.length c1 g2 o2 ys.length c2 xs ys w (Nat.le_refl _) (Nat.le_refl _) (by omega) (by omega) k1 k2).mono fun e w' ⟨he, hw⟩ => ⟨?_, hw⟩
        rw [he, List.take_length, List.take_length]
        congr 2
        rw [Bool.eq_iff_iff]; simp
  · refine (Try.slices_Equal_int_lens a1 a2 xs.length c1 ys.length c2 w hl).mono fun e w' ⟨he, hw⟩ => ⟨?_, 0, hw⟩
    have hne : xs ≠ ys := fun q => hl (by rw [q])
    rw [he, decide_eq_false hne]

/-- a row of answers -/
def Told (w : World) (zs : List Int) (low : Bool) (fr : Nat → Nat) (e : Ending) (w' : World) : Prop :=
  ∃ (R : List Int) (O : Nat), R.length = zs.length ∧ e = .returned (.slice (some ⟨O, 0, none⟩) zs.length zs.length) ∧ Row w' (some ⟨O, 0, none⟩) R ∧
    (∀ k, k < zs.length → Best low (fun j => zs.getD j 0) (fr k) (k + 1) (R.getD k 0)) ∧ Below w.heap.size w w'

theorem told_of {w w1 w' : World} {zs : List Int} {low : Bool} {fr : Nat → Nat} {e : Ending} (h : Slid w1 zs low fr e w') (b : Below w.heap.size w w1) : Told w zs low fr e w' := by
  obtain ⟨R, h1, h2, h3, h4, h5⟩ := h
  exact ⟨R, _, h1, h2, h3, h4, b.trans (h5.mono b.size)⟩

set_option maxHeartbeats 800000 in
theorem min_far (ao : Option Addr) (cap : Nat) (zs : List Int) (v : Int) (w : World) (hz : Row w ao zs) (hk : zs.length ≤ 35184372088832) (hs : zs.length ≤ 4398046511104 ∨ v ≤ 4398046511104) (hv : 1 ≤ v) (hv2 : v ≤ 9223372036854775807) :
    Calls Try.prog 9 #[.slice ao zs.length cap, .int .i64 v] w (Told w zs true (frL v)) := by
  have hsm : ∀ k, k < zs.length → k + 1 - frL v k ≤ 4398046511104 := fun k hk => by unfold frL; omega
  have b1 : Below w.heap.size w (w.alloc (.cells #[.int .i64 v] 3)) := (Below.refl _ _).alloc (Nat.le_refl _) _
  have hz1 := hz.kept b1
  have hc : (w.alloc (.cells #[.int .i64 v] 3)).cell? ⟨w.heap.size, 0, none⟩ = some (.int .i64 v) := by rw [World.cell?_alloc_at _ _ _ _ rfl]; rfl
  go_enter Try.func9, Try.ntmps9
  go_wp2_with (first
    | (go_at_call 17; refine (lastOf_any _ _).mono ?_; rintro e w' ⟨rfl, rfl⟩)
    | (go_at_call 15; refine (slide_last ao cap zs true v w.heap.size _ hz1 hk hsm hc hv hv2).mono ?_; intro e w' hS; have hT := told_of hS b1; obtain ⟨R, O, g1, rfl, g3, g4, g5⟩ := hT))
  go_ret
  exact ⟨R, O, g1, rfl, g3, g4, g5⟩

set_option maxHeartbeats 800000 in
theorem max_far (ao : Option Addr) (cap : Nat) (zs : List Int) (v : Int) (w : World) (hz : Row w ao zs) (hk : zs.length ≤ 35184372088832) (hs : zs.length ≤ 4398046511104 ∨ v ≤ 4398046511104) (hv : 1 ≤ v) (hv2 : v ≤ 9223372036854775807) :
    Calls Try.prog 11 #[.slice ao zs.length cap, .int .i64 v] w (Told w zs false (frL v)) := by
  have hsm : ∀ k, k < zs.length → k + 1 - frL v k ≤ 4398046511104 := fun k hk => by unfold frL; omega
  have b1 : Below w.heap.size w (w.alloc (.cells #[.int .i64 v] 3)) := (Below.refl _ _).alloc (Nat.le_refl _) _
  have hz1 := hz.kept b1
  have hc : (w.alloc (.cells #[.int .i64 v] 3)).cell? ⟨w.heap.size, 0, none⟩ = some (.int .i64 v) := by rw [World.cell?_alloc_at _ _ _ _ rfl]; rfl
  go_enter Try.func11, Try.ntmps11
  go_wp2_with (first
    | (go_at_call 17; refine (lastOf_any _ _).mono ?_; rintro e w' ⟨rfl, rfl⟩)
    | (go_at_call 15; refine (slide_last ao cap zs false v w.heap.size _ hz1 hk hsm hc hv hv2).mono ?_; intro e w' hS; have hT := told_of hS b1; obtain ⟨R, O, g1, rfl, g3, g4, g5⟩ := hT))
  go_ret
  exact ⟨R, O, g1, rfl, g3, g4, g5⟩

theorem min_any (ao : Option Addr) (cap : Nat) (zs : List Int) (v : Int) (w : World) (hz : Row w ao zs) (hk : zs.length ≤ 4294967296) (hv : 1 ≤ v) (hv2 : v ≤ 9223372036854775807) :
    Calls Try.prog 9 #[.slice ao zs.length cap, .int .i64 v] w (Told w zs true (frL v)) := min_far ao cap zs v w hz (by omega) (by omega) hv hv2
theorem max_any (ao : Option Addr) (cap : Nat) (zs : List Int) (v : Int) (w : World) (hz : Row w ao zs) (hk : zs.length ≤ 4294967296) (hv : 1 ≤ v) (hv2 : v ≤ 9223372036854775807) :
    Calls Try.prog 11 #[.slice ao zs.length cap, .int .i64 v] w (Told w zs false (frL v)) := max_far ao cap zs v w hz (by omega) (by omega) hv hv2

theorem min_none (ao : Option Addr) (n cap : Nat) (v : Int) (w : World) (hv : v < 1) :
    Calls Try.prog 9 #[.slice ao n cap, .int .i64 v] w fun e w' => e = .returned (.slice none 0 0) ∧ w' = w := by
  go_enter Try.func9, Try.ntmps9
  go_wp2
  go_ret
  exact ⟨rfl, rfl⟩
theorem max_none (ao : Option Addr) (n cap : Nat) (v : Int) (w : World) (hv : v < 1) :
    Calls Try.prog 11 #[.slice ao n cap, .int .i64 v] w fun e w' => e = .returned (.slice none 0 0) ∧ w' = w := by
  go_enter Try.func11, Try.ntmps11
  go_wp2
  go_ret
  exact ⟨rfl, rfl⟩

set_option maxHeartbeats 800000 in
theorem base_any (ao : Option Addr) (cap : Nat) (zs : List Int) (u v : Int) (w : World) (hz : Row w ao zs) (hk : zs.length ≤ 4294967296) (hu : 1 ≤ u) (hu2 : u ≤ 9223372036854775807) (hv : 1 ≤ v) (hv2 : v ≤ 9223372036854775807) :
    Calls Try.prog 12 #[.slice ao zs.length cap, .int .i64 u, .int .i64 v] w (Told w zs true (frB u v)) := by
  have hsm : ∀ k, k < zs.length → k + 1 - frB u v k ≤ 4398046511104 := fun k hk => by omega
  have b1 : Below w.heap.size w ((w.alloc (.cells #[.int .i64 u] 3)).alloc (.cells #[.int .i64 v] 3)) := ((Below.refl _ _).alloc (Nat.le_refl _) _).alloc (by simp) _
  have hz1 := hz.kept b1
  have hb : ((w.alloc (.cells #[.int .i64 u] 3)).alloc (.cells #[.int .i64 v] 3)).cell? ⟨w.heap.size, 0, none⟩ = some (.int .i64 u) := by
    rw [World.cell?_alloc_past _ _ _ (by simp), World.cell?_alloc_at _ _ _ _ rfl]; rfl
  have hc : ((w.alloc (.cells #[.int .i64 u] 3)).alloc (.cells #[.int .i64 v] 3)).cell? ⟨w.heap.size + 1, 0, none⟩ = some (.int .i64 v) := by rw [World.cell?_alloc_at _ _ _ _ (by simp)]; rfl
  have d1 : decide (u < 1) = false := by simp; omega
  have d2 : decide (v < 1) = false := by simp; omega
  go_enter Try.func12, Try.ntmps12
  go_wp2_with (first
    | (go_at_call 21; refine (partsOf_any _ _ _).mono ?_; rintro e w' ⟨rfl, rfl⟩)
    | (go_at_call 15; refine (slide_parts ao cap zs true u v w.heap.size (w.heap.size + 1) _ hz1 (by omega) hsm hb hc hu hu2 hv hv2).mono ?_; intro e w' hS; have hT := told_of hS b1; obtain ⟨R, O, g1, rfl, g3, g4, g5⟩ := hT))
  go_ret
  exact ⟨R, O, g1, rfl, g3, g4, g5⟩

theorem base_none (ao : Option Addr) (n cap : Nat) (u v : Int) (w : World) (h : u < 1 ∨ v < 1) :
    Calls Try.prog 12 #[.slice ao n cap, .int .i64 u, .int .i64 v] w fun e w' => e = .returned (.slice none 0 0) ∧ w' = w := by
  by_cases hu : u < 1
  · have d1 : decide (u < 1) = true := by simpa using hu
    go_enter Try.func12, Try.ntmps12
    go_wp2
    go_ret
    exact ⟨rfl, rfl⟩
  · have hv : v < 1 := by omega
    have d1 : decide (u < 1) = false := by simpa using hu
    have d2 : decide (v < 1) = true := by simpa using hv
    go_enter Try.func12, Try.ntmps12
    go_wp2
    go_ret
    exact ⟨rfl, rfl⟩

end Go.Proofs.Ytdnhanaeamnddaa
