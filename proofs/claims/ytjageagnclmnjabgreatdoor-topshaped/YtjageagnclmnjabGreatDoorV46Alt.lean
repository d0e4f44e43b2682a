/- PROVED: The library's contracts for slices.Equal, Max, BinarySearch, laid at this program. what slices.Equal answers. alive (of the whole) answers true. CONDITIONS: none beyond each theorem's own. -/
import Derived.Shelf.Slices.Turned
import Derived.Shelf.Slices.Equal
import Derived.Ground.Names2Prog
import Derived.Shelf.Slices.SearchI
import Derived.Shelf.Slices.Empties2
import Derived.Test.YtjageagnclmnjabGreatDoorB04Shelf
import Derived.Test.YtjageagnclmnjabGreatDoorV40BAns
import Derived.Test.YtjageagnclmnjabGreatDoorV39Tel
import Derived.Test.YtjageagnclmnjabGreatDoorV43BBPass
import Derived.Test.YtjageagnclmnjabGreatDoorV45BQPlay
section
namespace Go.Proofs
open Go.Shelf
def Tryz.lays111_ren : Go.Shelf.Ren := ⟨fun | 111 => 15 | n => n, fun | 28 => 24 | 3 => 3 | 4 => 4 | 0 => 0 | n => n, fun | n => n⟩
theorem Tryz.lays111 : Go.Proofs.Lays.n111 Tryz.prog Tryz.lays111_ren := {
  mixed := by kernel_rfl
  f111 := Tryz.func15.trans (congrArg some (by kernel_rfl))
  t0 := Tryz.underlying0
  a0 := Tryz.isAgg0
  z0 := Tryz.sizeOf0
  v0 := Tryz.zeroValue0
  t3 := Tryz.underlying3
  a3 := Tryz.isAgg3
  z3 := Tryz.sizeOf3
  v3 := Tryz.zeroValue3
  t4 := Tryz.underlying4
  a4 := Tryz.isAgg4
  z4 := Tryz.sizeOf4
  v4 := Tryz.zeroValue4
  t28 := Tryz.underlying24
  a28 := Tryz.isAgg24
  z28 := Tryz.sizeOf24
  v28 := Tryz.zeroValue24 }
open Go.RowKit Go.Lib in
theorem Tryz.slices_Equal_int (b1 o1 n c b2 o2 m d : Nat) (xs ys : List Int) (w : World) (hx : n ≤ xs.length) (hy : m ≤ ys.length) (hbig : n ≤ 9223372036854775807) (hbig2 : m ≤ 9223372036854775807) (hc1 : ∀ j, j < xs.length → w.cell? ⟨b1, o1 + j, none⟩ = some (.int .i64 (xs.getD j 0))) (hc2 : ∀ j, j < ys.length → w.cell? ⟨b2, o2 + j, none⟩ = some (.int .i64 (ys.getD j 0))) :
    Calls Tryz.prog 15 #[.slice (some ⟨b1, o1, none⟩) n c, .slice (some ⟨b2, o2, none⟩) m d] w fun e w' => e = .returned (.bool (xs.take n == ys.take m)) ∧ ∃ q, w' = w.drewN q := Any.slices_Equal_int Tryz.lays111 b1 o1 n c b2 o2 m d xs ys w hx hy hbig hbig2 hc1 hc2
open Go.RowKit Go.Lib in
theorem Tryz.slices_Equal_int_empty (a1 a2 : Option Addr) (c m d : Nat) (w : World) (hbig2 : m ≤ 9223372036854775807) :
    Calls Tryz.prog 15 #[.slice a1 0 c, .slice a2 m d] w fun e w' => e = .returned (.bool (decide (m = 0))) ∧ w' = w := Any.slices_Equal_int_empty Tryz.lays111 a1 a2 c m d w hbig2
def Tryz.laysNm225_ren : Go.Shelf.Ren := ⟨fun | 25 => 30 | 31 => 47 | 32 => 48 | 37 => 65 | n => n, fun | 22 => 24 | 3 => 3 | 4 => 4 | 40 => 79 | 0 => 0 | n => n, fun | n => n⟩
theorem Tryz.laysNm225 : Go.Proofs.Lays2.n25 Tryz.prog Tryz.laysNm225_ren := {
  mixed := by kernel_rfl
  f25 := Tryz.func30.trans (congrArg some (by kernel_rfl))
  f31 := Tryz.func47.trans (congrArg some (by kernel_rfl))
  f32 := Tryz.func48.trans (congrArg some (by kernel_rfl))
  f37 := Tryz.func65.trans (congrArg some (by kernel_rfl))
  t0 := Tryz.underlying0
  a0 := Tryz.isAgg0
  z0 := Tryz.sizeOf0
  v0 := Tryz.zeroValue0
  t3 := Tryz.underlying3
  a3 := Tryz.isAgg3
  z3 := Tryz.sizeOf3
  v3 := Tryz.zeroValue3
  t4 := Tryz.underlying4
  a4 := Tryz.isAgg4
  z4 := Tryz.sizeOf4
  v4 := Tryz.zeroValue4
  t22 := Tryz.underlying24
  a22 := Tryz.isAgg24
  z22 := Tryz.sizeOf24
  v22 := Tryz.zeroValue24
  t40 := Tryz.underlying79
  a40 := Tryz.isAgg79
  z40 := Tryz.sizeOf79
  v40 := Tryz.zeroValue79 }
open Go.RowKit Go.Lib in
theorem Tryz.slices_BinarySearch_int (b off n c : Nat) (zs : List Int) (x : Int) (w : World) (hz : n ≤ zs.length) (hbig : n < 4611686018427387904) (hc : ∀ j, j < zs.length → w.cell? ⟨b, off + j, none⟩ = some (.int .i64 (zs.getD j 0))) (hs : (zs.take n).Pairwise (· ≤ ·)) :
    Calls Tryz.prog 30 #[.slice (some ⟨b, off, none⟩) n c, .int .i64 x] w fun e w' => e = .returned (.tuple #[.int .i64 ((zs.take n).countP (· < x) : Nat), .bool ((zs.take n).contains x)]) ∧ ∃ q, w' = w.drewN q := Any.slices_BinarySearch_int Tryz.laysNm225 b off n c zs x w hz hbig hc hs
open Go.RowKit Go.Lib in
theorem Tryz.slices_Equal_int_lens (a1 a2 : Option Addr) (n c m d : Nat) (w : World) (hnm : n ≠ m) :
    Calls Tryz.prog 15 #[.slice a1 n c, .slice a2 m d] w fun e w' => e = .returned (.bool false) ∧ w' = w := Any.slices_Equal_int_lens Tryz.lays111 a1 a2 n c m d w hnm
end Go.Proofs

end

section
namespace Go.Proofs.YtjageagnclmnjabGreatDoor.B
set_option maxRecDepth 100000
open Go.RowKit

theorem equal_any (a1 a2 : Option Addr) (c1 c2 : Nat) (xs ys : List Int) (w : World) (h1 : Row w a1 xs) (h2 : Row w a2 ys) (b1 : xs.length ≤ 35184372088832) (b2 : ys.length ≤ 35184372088832) :
    Calls Tryz.prog 15 #[.slice a1 xs.length c1, .slice a2 ys.length c2] w fun e w' => e = .returned (.bool (decide (xs = ys))) ∧ ∃ q, w' = w.drewN q := by
  by_cases hl : xs.length = ys.length
  · rcases h1 with e | ⟨g1, o1, rfl, k1⟩
    · subst e
      have hy : ys = [] := List.eq_nil_of_length_eq_zero (by simpa using hl.symm)
      subst hy
      exact (Tryz.slices_Equal_int_empty a1 a2 c1 0 c2 w (by omega)).mono fun e w' ⟨he, hw⟩ => ⟨by rw [he]; rfl, 0, hw⟩
    · rcases h2 with e | ⟨g2, o2, rfl, k2⟩
      · subst e
        have hx : xs = [] := List.eq_nil_of_length_eq_zero (by simpa using hl)
        subst hx
        exact (Tryz.slices_Equal_int_empty _ a2 c1 0 c2 w (by omega)).mono fun e w' ⟨he, hw⟩ => ⟨by rw [he]; rfl, 0, hw⟩
      · refine (Tryz.slices_Equal_int g1 o1 xs.length c1 g2 o2 ys.length c2 xs ys w (Nat.le_refl _) (Nat.le_refl _) (by omega) (by omega) k1 k2).mono fun e w' ⟨he, hw⟩ => ⟨?_, hw⟩
        rw [he, List.take_length, List.take_length]
        congr 2
        rw [Bool.eq_iff_iff]; simp
  · refine (Tryz.slices_Equal_int_lens a1 a2 xs.length c1 ys.length c2 w hl).mono fun e w' ⟨he, hw⟩ => ⟨?_, 0, hw⟩
    have hne : xs ≠ ys := fun q => hl (by rw [q])
    rw [he, decide_eq_false hne]

end Go.Proofs.YtjageagnclmnjabGreatDoor.B

end

section
namespace Go.Proofs.YtjageagnclmnjabGreatDoor.D
set_option maxRecDepth 100000
open Go.RowKit K
set_option linter.unusedVariables false

abbrev sVV : ByteArray := ⟨#[118, 101, 103, 97, 115, 32, 118, 101, 103, 97, 115, 32, 50, 32, 50, 32, 48]⟩
def rVV : Ru := ⟨1, 1, 2, 2, 0⟩
theorem rd_vv : Rd sVV.data.toList rVV := ⟨by decide +kernel, by decide +kernel⟩
theorem dnVV : Dn rVV 3 := by
  refine ⟨?_, ?_, ?_⟩
  · unfold Live; decide +kernel
  · decide +kernel
  · decide +kernel
theorem jv_dn' {r : Ru} {T : Nat} (hT : Dn r T) (hw : wrong r = 0) {who ratio : Int} (hg : Rg who ratio) : ∃ k m, Jv r who ratio k m 0 ∧ 1 ≤ k ∧ k ≤ 2 := by
  by_cases hp : Q.noPos (esG r T who ratio)
  · obtain ⟨d, hd⟩ := mst_some (esG_inn hT who ratio) hp
    exact ⟨1, _, .inr (.inl ⟨T, d, ⟨hg, hw, hT, hd⟩, rfl, rfl, rfl⟩), by omega, by omega⟩
  · exact ⟨2, 0, .inr (.inr ⟨T, ⟨hg, hw, hT, hp⟩, rfl, rfl, rfl⟩), by omega, by omega⟩
theorem tell_vv (v : World) (L : Lw v) : Calls Tryz.prog 27 #[.string sVV, .int .i64 3] v fun e w' => ∃ g cap, e = .returned (.tuple #[.slice (some ⟨g, 0, none⟩) 2 cap, .int .i64 0]) ∧ Below v.heap.size v w' := by
  obtain ⟨k0, m0, j0, _⟩ := jv_dn' dnVV rd_vv.1 (who := 0) (ratio := 3) (by unfold Rg; omega)
  obtain ⟨k1, m1, j1, _⟩ := jv_dn' dnVV rd_vv.1 (who := 1) (ratio := 3) (by unfold Rg; omega)
  have T : Tl sVV.data.toList 3 0 _ _ := .inr ⟨rVV, rd_vv, k0, m0, 0, k1, m1, 0, j0, j1, rfl, rfl, by decide⟩
  refine (tell_any (by decide) T v L).mono ?_
  rintro e w' ⟨⟨t, rfl, ⟨h, _⟩ | ⟨_, g, cap, rfl, _, _⟩⟩, b⟩
  · exact absurd h (by decide)
  · exact ⟨g, cap, rfl, b⟩
theorem row2 (w : World) (a b : Int) : B.Row (w.alloc (.cells #[.int .i64 a, .int .i64 b] 3)) (some ⟨w.heap.size, 0, none⟩) [a, b] := by
  refine .inr ⟨w.heap.size, 0, rfl, fun j hj => ?_⟩
  rw [Nat.zero_add, World.cell?_alloc_at _ _ _ _ rfl]
  simp only [List.length_cons, List.length_nil] at hj
  match j, hj with
  | 0, _ => rfl
  | 1, _ => rfl
theorem vv_let : B.let' 1 2 [5, 0] = [2, 1] := by decide +kernel
theorem vv_right : B.bright 2 3 [2, 1] := by decide +kernel
theorem vv_play : B.outs (B.qg 2 3 fun j => [2, 1].getD j 0) 2 = [2, 1] := by decide +kernel
theorem pass_vv (a : Option Addr) (c : Nat) (v : World) (h : B.Row v a [5, 0]) : Calls Tryz.prog 8 #[.agg #[.int .i64 1, .int .i64 2], .slice a 2 c] v fun e w' => ∃ ao cap, e = .returned (.slice ao 2 cap) ∧ B.Row w' ao [2, 1] ∧ Below v.heap.size v w' := by
  refine (B.pass_any 1 2 a c [5, 0] v h).mono ?_
  rintro e w' ⟨ao, cap, rfl, _, r, b⟩
  rw [vv_let] at r ⊢
  exact ⟨ao, cap, rfl, r, b⟩
theorem play_vv (a : Option Addr) (c : Nat) (v : World) (h : B.Row v a [2, 1]) : Calls Tryz.prog 11 #[.int .i64 2, .int .i64 3, .slice a 2 c] v fun e w' => ∃ a1 c1 a2 c2 a3 c3, e = .returned (.tuple #[.slice a1 2 c1, .slice a2 2 c2, .slice a3 2 c3]) ∧ B.Row w' a1 [2, 1] ∧ Below v.heap.size v w' := by
  refine (B.play_any 2 3 a c [2, 1] v h vv_right).mono ?_
  rintro e w' ⟨a1, c1, a2, c2, a3, c3, rfl, _, r, _, _, b⟩
  exact ⟨a1, c1, a2, c2, a3, c3, rfl, vv_play ▸ r, b⟩
theorem equal_vv (a1 a2 : Option Addr) (c1 c2 : Nat) (v : World) (h1 : B.Row v a1 [2, 1]) (h2 : B.Row v a2 [2, 1]) : Calls Tryz.prog 15 #[.slice a1 2 c1, .slice a2 2 c2] v fun e w' => e = .returned (.bool true) ∧ Below v.heap.size v w' := by
  refine (B.equal_any a1 a2 c1 c2 [2, 1] [2, 1] v h1 h2 (by decide) (by decide)).mono ?_
  rintro e w' ⟨rfl, q, rfl⟩
  exact ⟨by simp, below_drewN (Below.refl _ _) q⟩
theorem bRow_kept {w w' : World} {a : Option Addr} {z : List Int} (h : B.Row w a z) (b : Below w.heap.size w w') : B.Row w' a z := by
  rcases h with h | ⟨g, o, rfl, h⟩
  · exact .inl h
  · refine .inr ⟨g, o, rfl, fun j hj => ?_⟩
    have := h j hj
    exact (b.cell (p := ⟨g, o + j, none⟩) (block_lt this)).trans this
set_option maxHeartbeats 3200000 in
theorem alive_top (w : World) (L : Lw w) : Calls Tryz.prog 7 #[] w fun e w' => e = .returned (.bool true) ∧ Below w.heap.size w w' := by
  go_enter Tryz.func7, Tryz.ntmps7
  go_wp2_with (first
    | (go_at_call 27; refine (tell_vv _ L).mono ?_; clear L; rintro e v1 ⟨g, cap, rfl, B⟩; replace B := balloc B (.cells #[.int .i64 5, .int .i64 0] 3); have R := row2 v1 5 0)
    | (go_at_call 8; refine (pass_vv _ _ _ R).mono ?_; clear R; rintro e v2 ⟨ao, cp, rfl, R, b⟩; replace B := bthen B b; clear b)
    | (go_at_call 11; refine (play_vv _ _ _ R).mono ?_; clear R; rintro e v3 ⟨a1, c1, a2, c2, a3, c3, rfl, R, b⟩; replace B := balloc (bthen B b) (.cells #[.int .i64 2, .int .i64 1] 3); have R2 := row2 v3 2 1; replace R := bRow_kept R (balloc (Below.refl _ v3) (.cells #[.int .i64 2, .int .i64 1] 3)); clear b)
    | (go_at_call 15; refine (equal_vv _ _ _ _ _ R R2).mono ?_; clear R R2; rintro e v4 ⟨rfl, b⟩; replace B := bthen B b; clear b))
  go_ret
  exact ⟨rfl, B⟩
end Go.Proofs.YtjageagnclmnjabGreatDoor.D

end
