/- PROVED: alive (of the whole) answers true. rows of numbers that a function tells. how rows of integers lie in memory, what keeps them. CONDITIONS: none beyond each theorem's own. -/
import Derived.Test.YtjageagnclmnjabGreatDoorB38BAns
import Derived.Test.YtjageagnclmnjabGreatDoorB40BQueue
import Derived.Test.YtjageagnclmnjabGreatDoorB41BSame
import Derived.Test.YtjageagnclmnjabGreatDoorRows
import Derived.WalkKit
import Derived.Lib.MinMax
import Derived.Lib.SlicesMore
import Derived.Deep.Draws
import Derived.WalkSpells
import Derived.WalkLawsBesides
import Derived.Deep.QuietTactic
import Derived.BigQuiet
import Derived.ArgAppend
import Derived.Deep.LoopGhost
import Derived.Deep.OwnRows
namespace Go.Proofs.YtjageagnclmnjabGreatDoor.D
set_option maxRecDepth 100000
open Go.RowKit K
set_option linter.unusedVariables false

abbrev sVV : ByteArray := ⟨#[118, 101, 103, 97, 115, 32, 118, 101, 103, 97, 115, 32, 50, 32, 50, 32, 48]⟩
def rVV : Ru := ⟨1, 1, 2, 2, 0⟩
theorem rd_vv : Rd sVV.data.toList rVV := ⟨by decide +kernel, by decide +kernel⟩
theorem dnVV : Dn rVV 3 := by
  refine ⟨?_, ?_, ?_⟩
  · unfold Live; decide +kernel
  · decide +kernel
  · decide +kernel
theorem jv_dn' {r : Ru} {T : Nat} (hT : Dn r T) (hw : wrong r = 0) {who ratio : Int} (hg : Rg who ratio) : ∃ k m, Jv r who ratio k m 0 ∧ 1 ≤ k ∧ k ≤ 2 := by
  by_cases hp : Q.noPos (esG r T who ratio)
  · obtain ⟨d, hd⟩ := mst_some (esG_inn hT who ratio) hp
    exact ⟨1, _, .inr (.inl ⟨T, d, ⟨hg, hw, hT, hd⟩, rfl, rfl, rfl⟩), by omega, by omega⟩
  · exact ⟨2, 0, .inr (.inr ⟨T, ⟨hg, hw, hT, hp⟩, rfl, rfl, rfl⟩), by omega, by omega⟩
theorem tell_vv (v : World) (L : Lw v) : Calls Tryz.prog 27 #[.string sVV, .int .i64 3] v fun e w' => ∃ g cap, e = .returned (.tuple #[.slice (some ⟨g, 0, none⟩) 2 cap, .int .i64 0]) ∧ Below v.heap.size v w' := by
  obtain ⟨k0, m0, j0, _⟩ := jv_dn' dnVV rd_vv.1 (who := 0) (ratio := 3) (by unfold Rg; omega)
  obtain ⟨k1, m1, j1, _⟩ := jv_dn' dnVV rd_vv.1 (who := 1) (ratio := 3) (by unfold Rg; omega)
  have T : Tl sVV.data.toList 3 0 _ _ := .inr ⟨rVV, rd_vv, k0, m0, 0, k1, m1, 0, j0, j1, rfl, rfl, by decide⟩
  refine (tell_any (by decide) T v L).mono ?_
  rintro e w' ⟨⟨t, rfl, ⟨h, _⟩ | ⟨_, g, cap, rfl, _, _⟩⟩, b⟩
  · exact absurd h (by decide)
  · exact ⟨g, cap, rfl, b⟩
theorem row2 (w : World) (a b : Int) : B.Row (w.alloc (.cells #[.int .i64 a, .int .i64 b] 3)) (some ⟨w.heap.size, 0, none⟩) [a, b] := by
  refine .inr ⟨w.heap.size, 0, rfl, fun j hj => ?_⟩
  rw [Nat.zero_add, World.cell?_alloc_at _ _ _ _ rfl]
  simp only [List.length_cons, List.length_nil] at hj
  match j, hj with
  | 0, _ => rfl
  | 1, _ => rfl
theorem vv_let : B.let' 1 2 [5, 0] = [2, 1] := by decide +kernel
theorem vv_right : B.bright 2 3 [2, 1] := by decide +kernel
theorem vv_play : B.outs (B.qg 2 3 fun j => [2, 1].getD j 0) 2 = [2, 1] := by decide +kernel
theorem pass_vv (a : Option Addr) (c : Nat) (v : World) (h : B.Row v a [5, 0]) : Calls Tryz.prog 8 #[.agg #[.int .i64 1, .int .i64 2], .slice a 2 c] v fun e w' => ∃ ao cap, e = .returned (.slice ao 2 cap) ∧ B.Row w' ao [2, 1] ∧ Below v.heap.size v w' := by
  refine (B.pass_any 1 2 a c [5, 0] v h).mono ?_
  rintro e w' ⟨ao, cap, rfl, _, r, b⟩
  rw [vv_let] at r ⊢
  exact ⟨ao, cap, rfl, r, b⟩
theorem play_vv (a : Option Addr) (c : Nat) (v : World) (h : B.Row v a [2, 1]) : Calls Tryz.prog 11 #[.int .i64 2, .int .i64 3, .slice a 2 c] v fun e w' => ∃ a1 c1 a2 c2 a3 c3, e = .returned (.tuple #[.slice a1 2 c1, .slice a2 2 c2, .slice a3 2 c3]) ∧ B.Row w' a1 [2, 1] ∧ Below v.heap.size v w' := by
  refine (B.play_any 2 3 a c [2, 1] v h vv_right).mono ?_
  rintro e w' ⟨a1, c1, a2, c2, a3, c3, rfl, _, r, _, _, b⟩
  exact ⟨a1, c1, a2, c2, a3, c3, rfl, vv_play ▸ r, b⟩
theorem equal_vv (a1 a2 : Option Addr) (c1 c2 : Nat) (v : World) (h1 : B.Row v a1 [2, 1]) (h2 : B.Row v a2 [2, 1]) : Calls Tryz.prog 15 #[.slice a1 2 c1, .slice a2 2 c2] v fun e w' => e = .returned (.bool true) ∧ Below v.heap.size v w' := by
  refine (B.equal_any a1 a2 c1 c2 [2, 1] [2, 1] v h1 h2 (by decide) (by decide)).mono ?_
  rintro e w' ⟨rfl, q, rfl⟩
  exact ⟨by simp, below_drewN (Below.refl _ _) q⟩
theorem bRow_kept {w w' : World} {a : Option Addr} {z : List Int} (h : B.Row w a z) (b : Below w.heap.size w w') : B.Row w' a z := by
  rcases h with h | ⟨g, o, rfl, h⟩
  · exact .inl h
  · refine .inr ⟨g, o, rfl, fun j hj => ?_⟩
    have := h j hj
    exact (b.cell (p := ⟨g, o + j, none⟩) (block_lt this)).trans this
set_option maxHeartbeats 3200000 in
theorem alive_top (w : World) (L : Lw w) : Calls Tryz.prog 7 #[] w fun e w' => e = .returned (.bool true) ∧ Below w.heap.size w w' := by
  go_enter Tryz.func7, Tryz.ntmps7
  go_wp2_with (first
    | (go_at_call 27; refine (tell_vv _ L).mono ?_; clear L; rintro e v1 ⟨g, cap, rfl, B⟩; replace B := balloc B (.cells #[.int .i64 5, .int .i64 0] 3); have R := row2 v1 5 0)
    | (go_at_call 8; refine (pass_vv _ _ _ R).mono ?_; clear R; rintro e v2 ⟨ao, cp, rfl, R, b⟩; replace B := bthen B b; clear b)
    | (go_at_call 11; refine (play_vv _ _ _ R).mono ?_; clear R; rintro e v3 ⟨a1, c1, a2, c2, a3, c3, rfl, R, b⟩; replace B := balloc (bthen B b) (.cells #[.int .i64 2, .int .i64 1] 3); have R2 := row2 v3 2 1; replace R := bRow_kept R (balloc (Below.refl _ v3) (.cells #[.int .i64 2, .int .i64 1] 3)); clear b)
    | (go_at_call 15; refine (equal_vv _ _ _ _ _ R R2).mono ?_; clear R R2; rintro e v4 ⟨rfl, b⟩; replace B := bthen B b; clear b))
  go_ret
  exact ⟨rfl, B⟩
end Go.Proofs.YtjageagnclmnjabGreatDoor.D

namespace Go.Proofs.YtjageagnclmnjabGreatDoor.G
set_option maxRecDepth 100000

/-- the first k of what f tells -/
def outs (f : Nat → Int) (k : Nat) : List Int := (List.range k).map f
theorem outs_len (f : Nat → Int) (k : Nat) : (outs f k).length = k := by simp [outs]
theorem outs_succ (f : Nat → Int) (k : Nat) : outs f (k + 1) = outs f k ++ [f k] := by simp [outs, List.range_succ]
theorem outs_getD (f : Nat → Int) (k j : Nat) (h : j < k) : (outs f k).getD j 0 = f j := by
  simp [outs, List.getD_eq_getElem?_getD, h]
end Go.Proofs.YtjageagnclmnjabGreatDoor.G

namespace Go.Proofs.YtjageagnclmnjabGreatDoor.G
set_option maxRecDepth 100000
open Go.RowKit

theorem below_drewN {B : Nat} {w w1 : World} (h : Below B w w1) (n : Nat) : Below B w (w1.drewN n) := by
  induction n with
  | zero => exact h
  | succ n ih => exact Below.drew ih

theorem Tryz.info3 : (Tryz.prog.info? 3).map (fun i => (i.zero, i.size, i.bytes)) = some (some (.int .i64 0), 1, 8) := by kernel_rfl

/-- a slice that holds zs -/
def Row (w : World) (ao : Option Addr) (zs : List Int) : Prop :=
  zs = [] ∨ ∃ b off, ao = some ⟨b, off, none⟩ ∧ ∀ j, j < zs.length → w.cell? ⟨b, off + j, none⟩ = some (.int .i64 (zs.getD j 0))

theorem block_lt {w : World} {a : Addr} {v : Value} (h : w.cell? a = some v) : a.block < w.heap.size := by
  rcases Nat.lt_or_ge a.block w.heap.size with k | k
  · exact k
  · simp [World.cell?, Array.getElem?_eq_none k] at h

theorem Row.kept {w w' : World} {ao : Option Addr} {zs : List Int} (h : Row w ao zs) (b : Below w.heap.size w w') : Row w' ao zs := by
  rcases h with h | ⟨g, off, rfl, h⟩
  · exact .inl h
  · exact .inr ⟨g, off, rfl, fun j hj => (b.cell (p := ⟨g, off + j, none⟩) (block_lt (h j hj))).trans (h j hj)⟩

/-- one of its numbers is there -/
theorem Row.at {w : World} {ao : Option Addr} {zs : List Int} (h : Row w ao zs) (hp : 0 < zs.length) : ∃ b off, ao = some ⟨b, off, none⟩ ∧ ∀ j, j < zs.length → w.cell? ⟨b, off + j, none⟩ = some (.int .i64 (zs.getD j 0)) := by
  rcases h with e | e
  · subst e; simp at hp
  · exact e

theorem bthen {w w1 w2 : World} (h : Below w.heap.size w w1) (k : Below w1.heap.size w1 w2) : Below w.heap.size w w2 := h.trans (k.mono h.size)
theorem balloc {w w1 : World} (h : Below w.heap.size w w1) (o : Obj) : Below w.heap.size w (w1.alloc o) := h.alloc h.size o
theorem Row.alloc {w : World} {ao : Option Addr} {zs : List Int} (h : Row w ao zs) (o : Obj) : Row (w.alloc o) ao zs := h.kept (balloc (Below.refl _ _) o)
theorem Row.drewN {w : World} {ao : Option Addr} {zs : List Int} (h : Row w ao zs) (n : Nat) : Row (w.drewN n) ao zs := h

theorem owned_row {w : World} {base : Nat} {t : Value} {R : List Int} (h : w.ownsRow base 3 1 t R.length (R.map (Value.int .i64))) : ∃ ao cap, t = .slice ao R.length cap ∧ Row w ao R := by
  obtain ⟨hl, ⟨e, e2⟩ | ⟨g, cap, cur, e, _, hh, _, _, _, htk⟩⟩ := h
  · have hR : R = [] := List.eq_nil_of_length_eq_zero e2
    subst hR
    exact ⟨none, 0, e, .inl rfl⟩
  · refine ⟨_, cap, e, .inr ⟨g, 0, rfl, fun j hj => ?_⟩⟩
    have : (R.map (Value.int .i64))[j]? = some (.int .i64 (R.getD j 0)) := by simp [List.getD_eq_getElem?_getD, hj]
    rw [← htk, List.getElem?_take_of_lt (by omega)] at this
    rw [Nat.zero_add]
    simp [World.cell?, hh]
    simpa using this

theorem own_kept {wr w1 : World} {base : Nat} {t : Value} {n : Nat} {xs : List Value} (h : wr.ownsRow base 3 1 t n xs) (b : Below wr.heap.size wr w1) : w1.ownsRow base 3 1 t n xs := by
  obtain ⟨hl, h2⟩ := h
  refine ⟨hl, ?_⟩
  rcases h2 with e | ⟨g, cap, cur, e, hg, hh, r⟩
  · exact .inl e
  · refine .inr ⟨g, cap, cur, e, hg, ?_, r⟩
    have : g < wr.heap.size := lt_of_block hh
    rw [b.block g this]; exact hh

/-- rows that grow: what has been gathered so far, in a row of the call's own -/
structure Gath (w : World) (t : Value) (wr : World) (R : List Int) : Prop where
  own : wr.ownsRow w.heap.size 3 1 t R.length (R.map (Value.int .i64))
  below : Below w.heap.size w wr
theorem Gath.start (w : World) : Gath w (.slice none 0 0) w [] := ⟨World.ownsRow_nil _ _ _ _, Below.refl _ _⟩
theorem Gath.step {w : World} {t t' : Value} {wr w1 w2 : World} {R : List Int} (h : Gath w t wr R) {x : Int}
    (hb : Below wr.heap.size wr w1) (ho : w2.ownsRow w.heap.size 3 1 t' (R.length + 1) (R.map (Value.int .i64) ++ [.int .i64 x])) {o : Obj} (hg : (w1.alloc o).grownBy w2 t.ownBlock) : Gath w t' w2 (R ++ [x]) := by
  refine ⟨by simpa using ho, ?_⟩
  have b1 := balloc (bthen h.below hb) o
  exact b1.grown hg b1.size (fun q hq => (h.own.lt q hq).1)

end Go.Proofs.YtjageagnclmnjabGreatDoor.G
