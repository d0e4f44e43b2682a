/- PROVED: The library's contracts for slices.Equal, Max, BinarySearch, laid at this program. what slices.Equal answers. alive (of the whole) answers true. rows of numbers that a function tells. how rows of integers lie in memory, what keeps them. what it is to answer a row; rows that grow by append. what lesser and the begin of parts answer. CONDITIONS: none beyond each theorem's own. -/
import Derived.Shelf.Slices.Turned
import Derived.Shelf.Slices.Equal
import Derived.Ground.Names2Prog
import Derived.Shelf.Slices.SearchI
import Derived.Shelf.Slices.Empties2
import Derived.Test.YtjageagnclmnjabGreatDoorB04Shelf
import Derived.Test.YtjageagnclmnjabGreatDoorC39BLeast
import Derived.Test.YtjageagnclmnjabGreatDoorC38Tel
import Derived.Test.YtjageagnclmnjabGreatDoorC41BQPlay
import Derived.Test.YtjageagnclmnjabGreatDoorRows
import Derived.WalkKit
import Derived.Lib.MinMax
import Derived.Lib.SlicesMore
import Derived.Deep.Draws
import Derived.WalkSpells
import Derived.WalkLawsBesides
import Derived.Deep.QuietTactic
import Derived.BigQuiet
import Derived.ArgAppend
import Derived.Deep.LoopGhost
import Derived.Deep.OwnRows
section
namespace Go.Proofs
open Go.Shelf
def Tryz.lays113_ren : Go.Shelf.Ren := ⟨fun | 113 => 19 | n => n, fun | 28 => 24 | 3 => 3 | 4 => 4 | 9 => 9 | 20 => 20 | 0 => 0 | n => n, fun | n => n⟩
theorem Tryz.lays113 : Go.Proofs.Lays.n113 Tryz.prog Tryz.lays113_ren := {
  mixed := by kernel_rfl
  f113 := Tryz.func19.trans (congrArg some (by kernel_rfl))
  t0 := Tryz.underlying0
  a0 := Tryz.isAgg0
  z0 := Tryz.sizeOf0
  v0 := Tryz.zeroValue0
  t3 := Tryz.underlying3
  a3 := Tryz.isAgg3
  z3 := Tryz.sizeOf3
  v3 := Tryz.zeroValue3
  t4 := Tryz.underlying4
  a4 := Tryz.isAgg4
  z4 := Tryz.sizeOf4
  v4 := Tryz.zeroValue4
  t9 := Tryz.underlying9
  a9 := Tryz.isAgg9
  z9 := Tryz.sizeOf9
  v9 := Tryz.zeroValue9
  t20 := Tryz.underlying20
  a20 := Tryz.isAgg20
  z20 := Tryz.sizeOf20
  v20 := Tryz.zeroValue20
  t28 := Tryz.underlying24
  a28 := Tryz.isAgg24
  z28 := Tryz.sizeOf24
  v28 := Tryz.zeroValue24 }
open Go.Lib in
theorem Tryz.slices_Max_int (b off n c : Nat) (zs : List Int) (w : World) (hn : 0 < n) (hz : n ≤ zs.length) (hbig : n ≤ 9223372036854775807) (hc : ∀ j, j < zs.length → w.cell? ⟨b, off + j, none⟩ = some (.int .i64 (zs.getD j 0))) :
    Calls Tryz.prog 19 #[.slice (some ⟨b, off, none⟩) n c] w fun e w' => e = .returned (.int .i64 (Lib.maxOf (zs.take n))) ∧ w' = w := Any.slices_Max_int Tryz.lays113 b off n c zs w hn hz hbig hc
def Tryz.lays114_ren : Go.Shelf.Ren := ⟨fun | 114 => 24 | n => n, fun | 28 => 24 | 3 => 3 | 4 => 4 | 9 => 9 | 20 => 20 | 0 => 0 | n => n, fun | n => n⟩
theorem Tryz.lays114 : Go.Proofs.Lays.n114 Tryz.prog Tryz.lays114_ren := {
  mixed := by kernel_rfl
  f114 := Tryz.func24.trans (congrArg some (by kernel_rfl))
  t0 := Tryz.underlying0
  a0 := Tryz.isAgg0
  z0 := Tryz.sizeOf0
  v0 := Tryz.zeroValue0
  t3 := Tryz.underlying3
  a3 := Tryz.isAgg3
  z3 := Tryz.sizeOf3
  v3 := Tryz.zeroValue3
  t4 := Tryz.underlying4
  a4 := Tryz.isAgg4
  z4 := Tryz.sizeOf4
  v4 := Tryz.zeroValue4
  t9 := Tryz.underlying9
  a9 := Tryz.isAgg9
  z9 := Tryz.sizeOf9
  v9 := Tryz.zeroValue9
  t20 := Tryz.underlying20
  a20 := Tryz.isAgg20
  z20 := Tryz.sizeOf20
  v20 := Tryz.zeroValue20
  t28 := Tryz.underlying24
  a28 := Tryz.isAgg24
  z28 := Tryz.sizeOf24
  v28 := Tryz.zeroValue24 }
open Go.Lib in
theorem Tryz.slices_Min_int (b off n c : Nat) (zs : List Int) (w : World) (hn : 0 < n) (hz : n ≤ zs.length) (hbig : n ≤ 9223372036854775807) (hc : ∀ j, j < zs.length → w.cell? ⟨b, off + j, none⟩ = some (.int .i64 (zs.getD j 0))) :
    Calls Tryz.prog 24 #[.slice (some ⟨b, off, none⟩) n c] w fun e w' => e = .returned (.int .i64 (Lib.minOf (zs.take n))) ∧ w' = w := Any.slices_Min_int Tryz.lays114 b off n c zs w hn hz hbig hc
def Tryz.lays111_ren : Go.Shelf.Ren := ⟨fun | 111 => 15 | n => n, fun | 28 => 24 | 3 => 3 | 4 => 4 | 0 => 0 | n => n, fun | n => n⟩
theorem Tryz.lays111 : Go.Proofs.Lays.n111 Tryz.prog Tryz.lays111_ren := {
  mixed := by kernel_rfl
  f111 := Tryz.func15.trans (congrArg some (by kernel_rfl))
  t0 := Tryz.underlying0
  a0 := Tryz.isAgg0
  z0 := Tryz.sizeOf0
  v0 := Tryz.zeroValue0
  t3 := Tryz.underlying3
  a3 := Tryz.isAgg3
  z3 := Tryz.sizeOf3
  v3 := Tryz.zeroValue3
  t4 := Tryz.underlying4
  a4 := Tryz.isAgg4
  z4 := Tryz.sizeOf4
  v4 := Tryz.zeroValue4
  t28 := Tryz.underlying24
  a28 := Tryz.isAgg24
  z28 := Tryz.sizeOf24
  v28 := Tryz.zeroValue24 }
open Go.RowKit Go.Lib in
theorem Tryz.slices_Equal_int (b1 o1 n c b2 o2 m d : Nat) (xs ys : List Int) (w : World) (hx : n ≤ xs.length) (hy : m ≤ ys.length) (hbig : n ≤ 9223372036854775807) (hbig2 : m ≤ 9223372036854775807) (hc1 : ∀ j, j < xs.length → w.cell? ⟨b1, o1 + j, none⟩ = some (.int .i64 (xs.getD j 0))) (hc2 : ∀ j, j < ys.length → w.cell? ⟨b2, o2 + j, none⟩ = some (.int .i64 (ys.getD j 0))) :
    Calls Tryz.prog 15 #[.slice (some ⟨b1, o1, none⟩) n c, .slice (some ⟨b2, o2, none⟩) m d] w fun e w' => e = .returned (.bool (xs.take n == ys.take m)) ∧ ∃ q, w' = w.drewN q := Any.slices_Equal_int Tryz.lays111 b1 o1 n c b2 o2 m d xs ys w hx hy hbig hbig2 hc1 hc2
open Go.RowKit Go.Lib in
theorem Tryz.slices_Equal_int_empty (a1 a2 : Option Addr) (c m d : Nat) (w : World) (hbig2 : m ≤ 9223372036854775807) :
    Calls Tryz.prog 15 #[.slice a1 0 c, .slice a2 m d] w fun e w' => e = .returned (.bool (decide (m = 0))) ∧ w' = w := Any.slices_Equal_int_empty Tryz.lays111 a1 a2 c m d w hbig2
open Go.RowKit Go.Lib in
theorem Tryz.slices_Equal_int_lens (a1 a2 : Option Addr) (n c m d : Nat) (w : World) (hnm : n ≠ m) :
    Calls Tryz.prog 15 #[.slice a1 n c, .slice a2 m d] w fun e w' => e = .returned (.bool false) ∧ w' = w := Any.slices_Equal_int_lens Tryz.lays111 a1 a2 n c m d w hnm
end Go.Proofs

end

section
namespace Go.Proofs.YtjageagnclmnjabGreatDoor.B
set_option maxRecDepth 100000
open Go.RowKit

theorem equal_any (a1 a2 : Option Addr) (c1 c2 : Nat) (xs ys : List Int) (w : World) (h1 : Row w a1 xs) (h2 : Row w a2 ys) (b1 : xs.length ≤ 35184372088832) (b2 : ys.length ≤ 35184372088832) :
    Calls Tryz.prog 15 #[.slice a1 xs.length c1, .slice a2 ys.length c2] w fun e w' => e = .returned (.bool (decide (xs = ys))) ∧ ∃ q, w' = w.drewN q := by
  by_cases hl : xs.length = ys.length
  · rcases h1 with e | ⟨g1, o1, rfl, k1⟩
    · subst e
      have hy : ys = [] := List.eq_nil_of_length_eq_zero (by simpa using hl.symm)
      subst hy
      exact (Tryz.slices_Equal_int_empty a1 a2 c1 0 c2 w (by omega)).mono fun e w' ⟨he, hw⟩ => ⟨by rw [he]; rfl, 0, hw⟩
    · rcases h2 with e | ⟨g2, o2, rfl, k2⟩
      · subst e
        have hx : xs = [] := List.eq_nil_of_length_eq_zero (by simpa using hl)
        subst hx
        exact (Tryz.slices_Equal_int_empty _ a2 c1 0 c2 w (by omega)).mono fun e w' ⟨he, hw⟩ => ⟨by rw [he]; rfl, 0, hw⟩
      · refine (Tryz.slices_Equal_int g1 o1 xs.length c1 g2 o2 ys.length c2 xs ys w (Nat.le_refl _) (Nat.le_refl _) (by omega) (by omega) k1 k2).mono fun e w' ⟨he, hw⟩ => ⟨?_, hw⟩
        rw [he, List.take_length, List.take_length]
        congr 2
        rw [Bool.eq_iff_iff]; simp
  · refine (Tryz.slices_Equal_int_lens a1 a2 xs.length c1 ys.length c2 w hl).mono fun e w' ⟨he, hw⟩ => ⟨?_, 0, hw⟩
    have hne : xs ≠ ys := fun q => hl (by rw [q])
    rw [he, decide_eq_false hne]

end Go.Proofs.YtjageagnclmnjabGreatDoor.B

end

section
namespace Go.Proofs.YtjageagnclmnjabGreatDoor.D
set_option maxRecDepth 100000
open Go.RowKit K
set_option linter.unusedVariables false

abbrev sVV : ByteArray := ⟨#[118, 101, 103, 97, 115, 32, 118, 101, 103, 97, 115, 32, 50, 32, 50, 32, 48]⟩
def rVV : Ru := ⟨1, 1, 2, 2, 0⟩
theorem rd_vv : Rd sVV.data.toList rVV := ⟨by decide +kernel, by decide +kernel⟩
theorem dnVV : Dn rVV 3 := by
  refine ⟨?_, ?_, ?_⟩
  · unfold Live; decide +kernel
  · decide +kernel
  · decide +kernel
theorem jv_dn' {r : Ru} {T : Nat} (hT : Dn r T) (hw : wrong r = 0) {who ratio : Int} (hg : Rg who ratio) : ∃ k m, Jv r who ratio k m 0 ∧ 1 ≤ k ∧ k ≤ 2 := by
  by_cases hp : Q.noPos (esG r T who ratio)
  · obtain ⟨d, hd⟩ := mst_some (esG_inn hT who ratio) hp
    exact ⟨1, _, .inr (.inl ⟨T, d, ⟨hg, hw, hT, hd⟩, rfl, rfl, rfl⟩), by omega, by omega⟩
  · exact ⟨2, 0, .inr (.inr ⟨T, ⟨hg, hw, hT, hp⟩, rfl, rfl, rfl⟩), by omega, by omega⟩
theorem tell_vv (v : World) (L : Lw v) : Calls Tryz.prog 27 #[.string sVV, .int .i64 3] v fun e w' => ∃ g cap, e = .returned (.tuple #[.slice (some ⟨g, 0, none⟩) 2 cap, .int .i64 0]) ∧ Below v.heap.size v w' := by
  obtain ⟨k0, m0, j0, _⟩ := jv_dn' dnVV rd_vv.1 (who := 0) (ratio := 3) (by unfold Rg; omega)
  obtain ⟨k1, m1, j1, _⟩ := jv_dn' dnVV rd_vv.1 (who := 1) (ratio := 3) (by unfold Rg; omega)
  have T : Tl sVV.data.toList 3 0 _ _ := .inr ⟨rVV, rd_vv, k0, m0, 0, k1, m1, 0, j0, j1, rfl, rfl, by decide⟩
  refine (tell_any (by decide) T v L).mono ?_
  rintro e w' ⟨⟨t, rfl, ⟨h, _⟩ | ⟨_, g, cap, rfl, _, _⟩⟩, b⟩
  · exact absurd h (by decide)
  · exact ⟨g, cap, rfl, b⟩
theorem row2 (w : World) (a b : Int) : B.Row (w.alloc (.cells #[.int .i64 a, .int .i64 b] 3)) (some ⟨w.heap.size, 0, none⟩) [a, b] := by
  refine .inr ⟨w.heap.size, 0, rfl, fun j hj => ?_⟩
  rw [Nat.zero_add, World.cell?_alloc_at _ _ _ _ rfl]
  simp only [List.length_cons, List.length_nil] at hj
  match j, hj with
  | 0, _ => rfl
  | 1, _ => rfl
theorem vv_let : B.let' 1 2 [5, 0] = [2, 1] := by decide +kernel
theorem vv_right : B.bright 2 3 [2, 1] := by decide +kernel
theorem vv_play : B.outs (B.qg 2 3 fun j => [2, 1].getD j 0) 2 = [2, 1] := by decide +kernel
theorem pass_vv (a : Option Addr) (c : Nat) (v : World) (h : B.Row v a [5, 0]) : Calls Tryz.prog 8 #[.agg #[.int .i64 1, .int .i64 2], .slice a 2 c] v fun e w' => ∃ ao cap, e = .returned (.slice ao 2 cap) ∧ B.Row w' ao [2, 1] ∧ Below v.heap.size v w' := by
  refine (B.pass_any 1 2 a c [5, 0] v h).mono ?_
  rintro e w' ⟨ao, cap, rfl, _, r, b⟩
  rw [vv_let] at r ⊢
  exact ⟨ao, cap, rfl, r, b⟩
theorem play_vv (a : Option Addr) (c : Nat) (v : World) (h : B.Row v a [2, 1]) : Calls Tryz.prog 11 #[.int .i64 2, .int .i64 3, .slice a 2 c] v fun e w' => ∃ a1 c1 a2 c2 a3 c3, e = .returned (.tuple #[.slice a1 2 c1, .slice a2 2 c2, .slice a3 2 c3]) ∧ B.Row w' a1 [2, 1] ∧ Below v.heap.size v w' := by
  refine (B.play_any 2 3 a c [2, 1] v h vv_right).mono ?_
  rintro e w' ⟨a1, c1, a2, c2, a3, c3, rfl, _, r, _, _, b⟩
  exact ⟨a1, c1, a2, c2, a3, c3, rfl, vv_play ▸ r, b⟩
theorem equal_vv (a1 a2 : Option Addr) (c1 c2 : Nat) (v : World) (h1 : B.Row v a1 [2, 1]) (h2 : B.Row v a2 [2, 1]) : Calls Tryz.prog 15 #[.slice a1 2 c1, .slice a2 2 c2] v fun e w' => e = .returned (.bool true) ∧ Below v.heap.size v w' := by
  refine (B.equal_any a1 a2 c1 c2 [2, 1] [2, 1] v h1 h2 (by decide) (by decide)).mono ?_
  rintro e w' ⟨rfl, q, rfl⟩
  exact ⟨by simp, below_drewN (Below.refl _ _) q⟩
theorem bRow_kept {w w' : World} {a : Option Addr} {z : List Int} (h : B.Row w a z) (b : Below w.heap.size w w') : B.Row w' a z := by
  rcases h with h | ⟨g, o, rfl, h⟩
  · exact .inl h
  · refine .inr ⟨g, o, rfl, fun j hj => ?_⟩
    have := h j hj
    exact (b.cell (p := ⟨g, o + j, none⟩) (block_lt this)).trans this
set_option maxHeartbeats 3200000 in
theorem alive_top (w : World) (L : Lw w) : Calls Tryz.prog 7 #[] w fun e w' => e = .returned (.bool true) ∧ Below w.heap.size w w' := by
  go_enter Tryz.func7, Tryz.ntmps7
  go_wp2_with (first
    | (go_at_call 27; refine (tell_vv _ L).mono ?_; clear L; rintro e v1 ⟨g, cap, rfl, B⟩; replace B := balloc B (.cells #[.int .i64 5, .int .i64 0] 3); have R := row2 v1 5 0)
    | (go_at_call 8; refine (pass_vv _ _ _ R).mono ?_; clear R; rintro e v2 ⟨ao, cp, rfl, R, b⟩; replace B := bthen B b; clear b)
    | (go_at_call 11; refine (play_vv _ _ _ R).mono ?_; clear R; rintro e v3 ⟨a1, c1, a2, c2, a3, c3, rfl, R, b⟩; replace B := balloc (bthen B b) (.cells #[.int .i64 2, .int .i64 1] 3); have R2 := row2 v3 2 1; replace R := bRow_kept R (balloc (Below.refl _ v3) (.cells #[.int .i64 2, .int .i64 1] 3)); clear b)
    | (go_at_call 15; refine (equal_vv _ _ _ _ _ R R2).mono ?_; clear R R2; rintro e v4 ⟨rfl, b⟩; replace B := bthen B b; clear b))
  go_ret
  exact ⟨rfl, B⟩
end Go.Proofs.YtjageagnclmnjabGreatDoor.D

end

section
namespace Go.Proofs.YtjageagnclmnjabGreatDoor.Y
set_option maxRecDepth 100000

/-- the first k of what f tells -/
def outs (f : Nat → Int) (k : Nat) : List Int := (List.range k).map f
theorem outs_len (f : Nat → Int) (k : Nat) : (outs f k).length = k := by simp [outs]
theorem outs_succ (f : Nat → Int) (k : Nat) : outs f (k + 1) = outs f k ++ [f k] := by simp [outs, List.range_succ]
theorem outs_getD (f : Nat → Int) (k j : Nat) (h : j < k) : (outs f k).getD j 0 = f j := by
  simp [outs, List.getD_eq_getElem?_getD, h]
theorem list_ext {xs ys : List Int} (hl : xs.length = ys.length) (h : ∀ j, j < xs.length → xs.getD j 0 = ys.getD j 0) : xs = ys := by
  apply List.ext_getElem hl
  intro j h1 h2
  have := h j h1
  rw [List.getD_eq_getElem?_getD, List.getD_eq_getElem?_getD, List.getElem?_eq_getElem h1, List.getElem?_eq_getElem h2] at this
  exact this
end Go.Proofs.YtjageagnclmnjabGreatDoor.Y

end

section
namespace Go.Proofs.YtjageagnclmnjabGreatDoor.Y
set_option maxRecDepth 100000
open Go.RowKit

theorem ret_int {k : IntKind} {a b : Int} (h : a = b) : Ending.returned (.int k a) = .returned (.int k b) := by rw [h]

theorem below_drewN {B : Nat} {w w1 : World} (h : Below B w w1) (n : Nat) : Below B w (w1.drewN n) := by
  induction n with
  | zero => exact h
  | succ n ih => exact Below.drew ih

theorem Tryz.info3 : (Tryz.prog.info? 3).map (fun i => (i.zero, i.size, i.bytes)) = some (some (.int .i64 0), 1, 8) := by kernel_rfl

/-- a slice that holds zs -/
def Row (w : World) (ao : Option Addr) (zs : List Int) : Prop :=
  zs = [] ∨ ∃ b off, ao = some ⟨b, off, none⟩ ∧ ∀ j, j < zs.length → w.cell? ⟨b, off + j, none⟩ = some (.int .i64 (zs.getD j 0))

theorem block_lt {w : World} {a : Addr} {v : Value} (h : w.cell? a = some v) : a.block < w.heap.size := by
  rcases Nat.lt_or_ge a.block w.heap.size with k | k
  · exact k
  · simp [World.cell?, Array.getElem?_eq_none k] at h

theorem Row.kept {w w' : World} {ao : Option Addr} {zs : List Int} (h : Row w ao zs) (b : Below w.heap.size w w') : Row w' ao zs := by
  rcases h with h | ⟨g, off, rfl, h⟩
  · exact .inl h
  · exact .inr ⟨g, off, rfl, fun j hj => (b.cell (p := ⟨g, off + j, none⟩) (block_lt (h j hj))).trans (h j hj)⟩

/-- one of its numbers is there -/
theorem Row.at {w : World} {ao : Option Addr} {zs : List Int} (h : Row w ao zs) (hp : 0 < zs.length) : ∃ b off, ao = some ⟨b, off, none⟩ ∧ ∀ j, j < zs.length → w.cell? ⟨b, off + j, none⟩ = some (.int .i64 (zs.getD j 0)) := by
  rcases h with e | e
  · subst e; simp at hp
  · exact e

theorem bthen {w w1 w2 : World} (h : Below w.heap.size w w1) (k : Below w1.heap.size w1 w2) : Below w.heap.size w w2 := h.trans (k.mono h.size)
theorem balloc {w w1 : World} (h : Below w.heap.size w w1) (o : Obj) : Below w.heap.size w (w1.alloc o) := h.alloc h.size o
theorem Row.alloc {w : World} {ao : Option Addr} {zs : List Int} (h : Row w ao zs) (o : Obj) : Row (w.alloc o) ao zs := h.kept (balloc (Below.refl _ _) o)
theorem Row.drewN {w : World} {ao : Option Addr} {zs : List Int} (h : Row w ao zs) (n : Nat) : Row (w.drewN n) ao zs := h

theorem getD_snoc_old (R : List Int) (v : Int) (j : Nat) (h : j < R.length) : (R ++ [v]).getD j 0 = R.getD j 0 := by
  rw [List.getD_eq_getElem?_getD, List.getD_eq_getElem?_getD, List.getElem?_append_left h]
theorem getD_snoc_new (R : List Int) (v : Int) (j : Nat) (h : j = R.length) : (R ++ [v]).getD j 0 = v := by
  subst h; simp [List.getD_eq_getElem?_getD]

/-- what has been answered so far, in block O, that was made for n numbers -/
structure Out (w : World) (O n : Nat) (R : List Int) : Prop where
  c : ∀ j, j < R.length → w.cell? ⟨O, j, none⟩ = some (.int .i64 (R.getD j 0))
  room : ∀ j, j < n → (w.cell? ⟨O, j, none⟩).isSome = true ∧ w.frozen? ⟨O, j, none⟩ = false

theorem Out.put {w : World} {O n : Nat} {R : List Int} (h : Out w O n R) (hk : R.length < n) (v : Int) : Out (w.setCell ⟨O, R.length, none⟩ (.int .i64 v)) O n (R ++ [v]) := by
  refine ⟨fun j hj => ?_, fun j hj => ?_⟩
  · by_cases e : j = R.length
    · subst e
      rw [getD_snoc_new _ _ _ rfl]
      obtain ⟨u, hu⟩ := Option.isSome_iff_exists.1 (h.room R.length hk).1
      exact World.cell?_setCell_same _ _ _ hu
    · have hj' : j < R.length := by simp at hj; omega
      rw [getD_snoc_old _ _ _ hj', World.cell?_setCell_other _ _ _ _ (fun q => e (by injection q with _ q _; exact q.symm))]
      exact h.c j hj'
  · rw [World.frozen?_setCell]
    refine ⟨?_, (h.room j hj).2⟩
    by_cases e : j = R.length
    · subst e
      obtain ⟨u, hu⟩ := Option.isSome_iff_exists.1 (h.room R.length hk).1
      rw [World.cell?_setCell_same _ _ _ hu]; rfl
    · rw [World.cell?_setCell_other _ _ _ _ (fun q => e (by injection q with _ q _; exact q.symm))]
      exact (h.room j hj).1

theorem Out.drewN {w : World} {O n : Nat} {R : List Int} (h : Out w O n R) (q : Nat) : Out (w.drewN q) O n R := ⟨h.c, h.room⟩
theorem Out.row {w : World} {O n : Nat} {R : List Int} (h : Out w O n R) : Row w (some ⟨O, 0, none⟩) R := .inr ⟨O, 0, rfl, fun j hj => by rw [Nat.zero_add]; exact h.c j hj⟩

theorem owned_row {w : World} {base : Nat} {t : Value} {R : List Int} (h : w.ownsRow base 3 1 t R.length (R.map (Value.int .i64))) : ∃ ao cap, t = .slice ao R.length cap ∧ Row w ao R := by
  obtain ⟨hl, ⟨e, e2⟩ | ⟨g, cap, cur, e, _, hh, _, _, _, htk⟩⟩ := h
  · have hR : R = [] := List.eq_nil_of_length_eq_zero e2
    subst hR
    exact ⟨none, 0, e, .inl rfl⟩
  · refine ⟨_, cap, e, .inr ⟨g, 0, rfl, fun j hj => ?_⟩⟩
    have : (R.map (Value.int .i64))[j]? = some (.int .i64 (R.getD j 0)) := by simp [List.getD_eq_getElem?_getD, hj]
    rw [← htk, List.getElem?_take_of_lt (by omega)] at this
    rw [Nat.zero_add]
    simp [World.cell?, hh]
    simpa using this

/-- rows that grow: what has been gathered so far, in a row of the call's own -/
structure Gath (w : World) (t : Value) (wr : World) (R : List Int) : Prop where
  own : wr.ownsRow w.heap.size 3 1 t R.length (R.map (Value.int .i64))
  below : Below w.heap.size w wr
theorem Gath.step {w : World} {t t' : Value} {wr w1 w2 : World} {R : List Int} (h : Gath w t wr R) {x : Int}
    (hb : Below wr.heap.size wr w1) (ho : w2.ownsRow w.heap.size 3 1 t' (R.length + 1) (R.map (Value.int .i64) ++ [.int .i64 x])) {o : Obj} (hg : (w1.alloc o).grownBy w2 t.ownBlock) : Gath w t' w2 (R ++ [x]) := by
  refine ⟨by simpa using ho, ?_⟩
  have b1 := balloc (bthen h.below hb) o
  exact b1.grown hg b1.size (fun q hq => (h.own.lt q hq).1)

end Go.Proofs.YtjageagnclmnjabGreatDoor.Y

end

section
namespace Go.Proofs.YtjageagnclmnjabGreatDoor.Y
set_option maxRecDepth 100000
open Go.RowKit

/-- what a call answers: a row -/
def Ans (w : World) (R : List Int) (e : Ending) (w' : World) : Prop :=
  ∃ ao cap, e = .returned (.slice ao R.length cap) ∧ R.length ≤ cap ∧ Row w' ao R ∧ Below w.heap.size w w'

theorem owned_cap {w : World} {base : Nat} {t : Value} {R : List Int} (h : w.ownsRow base 3 1 t R.length (R.map (Value.int .i64))) : ∃ ao cap, t = .slice ao R.length cap ∧ R.length ≤ cap ∧ Row w ao R := by
  obtain ⟨ao, cap, e, hR⟩ := owned_row h
  refine ⟨ao, cap, e, ?_, hR⟩
  obtain ⟨_, ⟨e2, e3⟩ | ⟨g, cap', cur, e2, _, _, hnc, _⟩⟩ := h
  · omega
  · rw [e] at e2; injection e2 with _ _ e2; omega

theorem Gath.done {w : World} {t : Value} {wr : World} {R : List Int} (h : Gath w t wr R) : Ans w R (.returned t) wr := by
  obtain ⟨ao, cap, rfl, hc, hr⟩ := owned_cap h.own
  exact ⟨ao, cap, rfl, hc, hr, h.below⟩
theorem Gath.next {w : World} {t t' : Value} {wr w1 w2 : World} {f : Nat → Int} {k : Nat} (h : Gath w t wr (outs f k)) (hb : Below wr.heap.size wr w1) {x : Int} (hx : x = f k)
    (ho : w2.ownsRow w.heap.size 3 1 t' ((outs f k).length + 1) ((outs f k).map (Value.int .i64) ++ [.int .i64 x])) {o : Obj} (hg : (w1.alloc o).grownBy w2 t.ownBlock) : Gath w t' w2 (outs f (k + 1)) := by
  rw [outs_succ, ← hx]
  exact h.step hb ho hg
end Go.Proofs.YtjageagnclmnjabGreatDoor.Y

end

section
namespace Go.Proofs.YtjageagnclmnjabGreatDoor.Y
set_option maxRecDepth 100000
open Go.RowKit

theorem lesser_any (x y : Int) (w : World) :
    Calls Tryz.prog 37 #[.int .i64 x, .int .i64 y] w fun e w' => e = .returned (.bool (decide (x < y))) ∧ w' = w := by
  go_enter Tryz.func37, Tryz.ntmps37
  go_wp2
  go_ret
  exact ⟨rfl, rfl⟩

theorem partsOf_any (u v : Int) (w : World) :
    Calls Tryz.prog 38 #[.int .i64 u, .int .i64 v] w fun e w' => e = .returned (.func (.func 53) #[] #[.pointer (some ⟨w.heap.size, 0, none⟩), .pointer (some ⟨w.heap.size + 1, 0, none⟩)]) ∧ w' = (w.alloc (.cells #[.int .i64 u] 3)).alloc (.cells #[.int .i64 v] 3) := by
  go_enter Tryz.func38, Tryz.ntmps38
  go_wp2
  go_ret
  exact ⟨rfl, rfl⟩

theorem parts_any (place u v : Int) (b c : Nat) (w : World) (h0 : 0 ≤ place) (h1 : place ≤ 35184372088832) (hu : 1 ≤ u) (hu2 : u ≤ 9223372036854775807) (hv : 1 ≤ v) (hv2 : v ≤ 9223372036854775807)
    (hc : w.cell? ⟨b, 0, none⟩ = some (.int .i64 u)) (hd : w.cell? ⟨c, 0, none⟩ = some (.int .i64 v)) :
    Calls Tryz.prog 53 #[.int .i64 place, .pointer (some ⟨b, 0, none⟩), .pointer (some ⟨c, 0, none⟩)] w fun e w' => e = .returned (.int .i64 (max (place / u - (v - 1)) 0 * u)) ∧ ∃ n, w' = w.drewN n := by
  have q0 : 0 ≤ place / u := Int.ediv_nonneg h0 (by omega)
  have q1 : place / u ≤ place := Int.ediv_le_self _ h0
  have q2 : place / u * u ≤ place := Int.ediv_mul_le _ (by omega)
  have m0 : 0 ≤ max (place / u - (v - 1)) 0 * u := Int.mul_nonneg (by omega) (by omega)
  have m1 : max (place / u - (v - 1)) 0 * u ≤ place / u * u := Int.mul_le_mul_of_nonneg_right (by omega) (by omega)
  have M : Hid (wrap64 (max (place / u - (v - 1)) 0 * u) = max (place / u - (v - 1)) 0 * u) := IntWalk.wrap64_in _ (by omega)
  clear m0 m1 q2
  go_enter Tryz.func53, Tryz.ntmps53
  go_wp2
  go_region
  all_goals (try go_wp2)
  all_goals go_ret
  exact ⟨ret_int M.out, 1, rfl⟩

end Go.Proofs.YtjageagnclmnjabGreatDoor.Y

end
