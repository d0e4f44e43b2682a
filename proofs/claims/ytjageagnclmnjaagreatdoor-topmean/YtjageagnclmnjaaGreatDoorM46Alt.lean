/- PROVED: what queue.Right and queue.Play answer. The library's contracts for slices.Equal, Max, BinarySearch, laid at this program. what slices.Equal answers. alive (of the whole) answers true. CONDITIONS: none beyond each theorem's own. -/
import Derived.Test.YtjageagnclmnjaaGreatDoorM45BQueue
import Derived.Deep.CutRange
import Derived.Shelf.Slices.Turned
import Derived.Shelf.Slices.Equal
import Derived.Shelf.Slices.Empties2
import Derived.Test.YtjageagnclmnjaaGreatDoorX04Shelf
import Derived.Test.YtjageagnclmnjaaGreatDoorM44BLeast
import Derived.Test.YtjageagnclmnjaaGreatDoorM43Tel
section
namespace Go.Proofs.YtjageagnclmnjaaGreatDoor.B
set_option maxRecDepth 100000
open Go.RowKit

theorem qright_any (R M : Int) (a : Option Addr) (cap : Nat) (z : List Int) (w : World) (hz : Row w a z) :
    Calls Tryz.prog 49 #[.int .i64 R, .int .i64 M, .slice a z.length cap] w fun e w' => e = .returned (.bool (decide (bright R M z))) ∧ Below w.heap.size w w' := by
  have hb := bright_any R M a cap z w hz
  generalize decide (bright R M z) = ans at hb ⊢
  generalize z.length = n at hb ⊢
  go_enter Tryz.func49, Tryz.ntmps49
  go_wp2_with (go_at_call 50; refine hb.mono ?_; rintro e w1 ⟨rfl, b1⟩; clear hb)
  go_ret
  exact ⟨rfl, b1⟩

theorem Cells.other {w : World} {O n : Nat} {V : Nat → Int} (h : Cells w O n V) {p : Addr} (hp : p.block ≠ O) (v : Value) : Cells (w.setCell p v) O n V := by
  refine ⟨fun j hj => ?_, fun j hj => ?_⟩
  · rw [World.cell?_setCell_other _ _ _ _ (fun q => hp (by rw [q]))]
    exact h.c j hj
  · rw [World.frozen?_setCell]; exact h.fz j hj
theorem Cells.kept {w w' : World} {O n : Nat} {V : Nat → Int} (h : Cells w O n V) (hO : O < w.heap.size) (b : Below w.heap.size w w') : Cells w' O n V :=
  ⟨fun j hj => (b.cell (p := ⟨O, j, none⟩) hO).trans (h.c j hj), fun j hj => by
    rw [World.frozen?_of_block (w := w) (b.block O hO)]; exact h.fz j hj⟩

/-- three rows that may be written, each in a block of its own: k of each are there -/
structure Tri (w v : World) (A B C n : Nat) (f g h : Nat → Int) (k : Nat) : Prop where
  a : Cells v A n (fill f k)
  b : Cells v B n (fill g k)
  c : Cells v C n (fill h k)
  ab : A ≠ B
  ac : A ≠ C
  bc : B ≠ C
  lo : w.heap.size ≤ A ∧ w.heap.size ≤ B ∧ w.heap.size ≤ C
  below : Below w.heap.size w v
theorem Tri.drewN {w v : World} {A B C n : Nat} {f g h : Nat → Int} {k : Nat} (t : Tri w v A B C n f g h k) (q : Nat) : Tri w (v.drewN q) A B C n f g h k :=
  ⟨t.a.drewN q, t.b.drewN q, t.c.drewN q, t.ab, t.ac, t.bc, t.lo, below_drewN t.below q⟩
theorem Tri.put {w v : World} {A B C n : Nat} {f g h : Nat → Int} {k : Nat} (t : Tri w v A B C n f g h k) (hk : k < n) {x y z : Int} (hx : f k = x) (hy : g k = y) (hz : h k = z) :
    Tri w (((v.setCell ⟨A, k, none⟩ (.int .i64 x)).setCell ⟨B, k, none⟩ (.int .i64 y)).setCell ⟨C, k, none⟩ (.int .i64 z)) A B C n f g h (k + 1) := by
  refine ⟨?_, ?_, ?_, t.ab, t.ac, t.bc, t.lo, ?_⟩
  · exact ((t.a.put hk ((fill_new f k).trans hx) (fun j _ hj => fill_old f k j hj)).other (fun q => t.ab q.symm) _).other (fun q => t.ac q.symm) _
  · exact ((t.b.other (p := ⟨A, k, none⟩) t.ab _).put hk ((fill_new g k).trans hy) (fun j _ hj => fill_old g k j hj)).other (fun q => t.bc q.symm) _
  · exact ((t.c.other (p := ⟨A, k, none⟩) t.ac _).other (p := ⟨B, k, none⟩) t.bc _).put hk ((fill_new h k).trans hz) (fun j _ hj => fill_old h k j hj)
  · exact ((t.below.setCell (p := ⟨A, k, none⟩) t.lo.1 _).setCell (p := ⟨B, k, none⟩) t.lo.2.1 _).setCell (p := ⟨C, k, none⟩) t.lo.2.2 _

/-- what a call answers: three rows of n numbers -/
def Ans3 (w : World) (n : Nat) (X Y Z : List Int) (e : Ending) (w' : World) : Prop :=
  ∃ a1 c1 a2 c2 a3 c3, e = .returned (.tuple #[.slice a1 n c1, .slice a2 n c2, .slice a3 n c3]) ∧ n ≤ c1 ∧ Row w' a1 X ∧ Row w' a2 Y ∧ Row w' a3 Z ∧ Below w.heap.size w w'

theorem tri_start (w v : World) (b : Below w.heap.size w v) (n : Nat) (f g h : Nat → Int) (A B C a b' c : Nat) (ha : A = v.heap.size + a) (hb : B = v.heap.size + b') (hc : C = v.heap.size + c) (h3 : a < 3 ∧ b' < 3 ∧ c < 3 ∧ a ≠ b' ∧ a ≠ c ∧ b' ≠ c) :
    Tri w (((v.alloc (.cells (madeCells #[.int .i64 0] n) 3)).alloc (.cells (madeCells #[.int .i64 0] n) 3)).alloc (.cells (madeCells #[.int .i64 0] n) 3)) A B C n f g h 0 := by
  have hs := b.size
  have hall : ∀ (u : Nat) (V : Nat → Int), u < 3 → (∀ j, j < n → V j = 0) → Cells (((v.alloc (.cells (madeCells #[.int .i64 0] n) 3)).alloc (.cells (madeCells #[.int .i64 0] n) 3)).alloc (.cells (madeCells #[.int .i64 0] n) 3)) (v.heap.size + u) n V := by
    intro u V hu hV
    have n1 : (v.alloc (.cells (madeCells #[.int .i64 0] n) 3)).heap.size = v.heap.size + 1 := by simp
    have n2 : ((v.alloc (.cells (madeCells #[.int .i64 0] n) 3)).alloc (.cells (madeCells #[.int .i64 0] n) 3)).heap.size = v.heap.size + 2 := by simp
    match u, hu with
    | 0, _ => exact ((Cells.start v n V hV).kept (by rw [n1]; omega) (balloc (Below.refl _ _) _)).kept (by rw [n2]; omega) (balloc (Below.refl _ _) _)
    | 1, _ =>
      have := Cells.start (v.alloc (.cells (madeCells #[.int .i64 0] n) 3)) n V hV
      rw [n1] at this
      exact this.kept (by rw [n2]; omega) (balloc (Below.refl _ _) _)
    | 2, _ =>
      have := Cells.start ((v.alloc (.cells (madeCells #[.int .i64 0] n) 3)).alloc (.cells (madeCells #[.int .i64 0] n) 3)) n V hV
      rw [n2] at this
      exact this
  subst ha hb hc
  exact ⟨hall _ _ h3.1 fun _ _ => rfl, hall _ _ h3.2.1 fun _ _ => rfl, hall _ _ h3.2.2.1 fun _ _ => rfl, by omega, by omega, by omega, by omega, balloc (balloc (balloc b _) _) _⟩

set_option maxHeartbeats 3200000 in
theorem play_any (R M : Int) (a : Option Addr) (cap : Nat) (z : List Int) (w : World) (hz : Row w a z) (h : bright R M z) :
    Calls Tryz.prog 25 #[.int .i64 R, .int .i64 M, .slice a z.length cap] w (Ans3 w z.length (outs (qg R M fun j => z.getD j 0) z.length) (outs (ql R M fun j => z.getD j 0) z.length) (outs (qw R M fun j => z.getD j 0) z.length)) := by
  have hb := qright_any R M a cap z w hz
  rw [decide_eq_true h] at hb
  obtain ⟨hR, hM, hn0, hF⟩ := h
  obtain ⟨n, hn⟩ : ∃ n, z.length = n := ⟨_, rfl⟩
  have hz2 : Hid (Row w a z) := hz
  unfold allIn at hF
  rw [hn] at hb hn0 hF ⊢
  replace hn : Hid (z.length = n) := hn
  have hz3 : ∀ v, Below w.heap.size w v → 0 < n → ∃ b o, a = some ⟨b, o, none⟩ ∧ ∀ j, j < n → v.cell? ⟨b, o + j, none⟩ = some (.int .i64 (z.getD j 0)) := fun v hv hp => by
    obtain ⟨b, o, e, k⟩ := (hz2.out.kept hv).at (by rw [hn.out]; exact hp)
    exact ⟨b, o, e, fun j hj => k j (by rw [hn.out]; exact hj)⟩
  replace hz3 : Hid _ := hz3
  clear hz
  generalize hFd : (fun j => z.getD j 0) = F
  have hFF : ∀ j, z.getD j 0 = F j := fun j => by rw [← hFd]
  clear hFd
  have hFi : ∀ j, j < n → inr (F j) := fun j hj => by rw [← hFF]; exact hF j hj
  replace hFF : Hid _ := hFF
  clear hF
  have hst := qu_in hR hM hFi
  have hinr := hFi
  replace hst : Hid _ := hst
  replace hinr : Hid _ := hinr
  clear hFi
  unfold inr at hR hM
  go_enter Tryz.func25, Tryz.ntmps25
  go_upto_region 3 with (go_at_call 49; refine hb.mono ?_; rintro e w1 ⟨rfl, b1⟩; clear hb; have hmk := run_make_row' (P := Tryz.prog) 66 3 (.int .i64 0) 8 Tryz.underlying66 Tryz.info3 rfl .i64 .i64 n (by omega) (by omega))
  go_cut [6, 7, 8] from 17 to 25 (fun g l q wc => ∃ A B C : Nat, g = .slice (some ⟨A, 0, none⟩) n n ∧ l = .slice (some ⟨B, 0, none⟩) n n ∧ q = .slice (some ⟨C, 0, none⟩) n n ∧ Tri w wc A B C n (qg R M F) (ql R M F) (qw R M F) 0)
  case first =>
    go_region
    all_goals
      go_wp2
      go_meet
      first
        | exact ⟨_, _, _, rfl, rfl, rfl, (tri_start w w1 b1 n _ _ _ _ _ _ 0 1 2 (by omega) (by omega) (by omega) (by decide)).drewN 1⟩
        | exact ⟨_, _, _, rfl, rfl, rfl, (tri_start w w1 b1 n _ _ _ _ _ _ 0 2 1 (by omega) (by omega) (by omega) (by decide)).drewN 1⟩
        | exact ⟨_, _, _, rfl, rfl, rfl, (tri_start w w1 b1 n _ _ _ _ _ _ 1 0 2 (by omega) (by omega) (by omega) (by decide)).drewN 1⟩
        | exact ⟨_, _, _, rfl, rfl, rfl, (tri_start w w1 b1 n _ _ _ _ _ _ 2 0 1 (by omega) (by omega) (by omega) (by decide)).drewN 1⟩
        | exact ⟨_, _, _, rfl, rfl, rfl, (tri_start w w1 b1 n _ _ _ _ _ _ 1 2 0 (by omega) (by omega) (by omega) (by decide)).drewN 1⟩
        | exact ⟨_, _, _, rfl, rfl, rfl, (tri_start w w1 b1 n _ _ _ _ _ _ 2 1 0 (by omega) (by omega) (by omega) (by decide)).drewN 1⟩
  case rest =>
    obtain ⟨A, B, C, rfl, rfl, rfl, hT0⟩ := hcut
    clear hmk
    go_wp2
    go_loopw [9, 28] (fun lv i wr => ∃ k : Nat, k ≤ n ∧ i = .int .i64 k ∧ lv = .int .i64 (qu R M F k) ∧ Tri w wr A B C n (qg R M F) (ql R M F) (qw R M F) k) (fun _ i _ => n - (intOf i).toNat)
    case atStart => exact ⟨0, Nat.zero_le _, rfl, rfl, hT0⟩
    case round =>
      obtain ⟨k, hk, rfl, rfl, hT⟩ := hrel
      clear hT0
      by_cases hlt : k < n
      · obtain ⟨b, o, rfl, e1⟩ := hz3.out wr hT.below (by omega)
        have cx := e1 k hlt
        rw [hFF.out] at cx
        clear e1
        have hgo : Hid (qg R M F k = min (qu R M F k + F k) R) := rfl
        have hlo : Hid (ql R M F k = max (qu R M F k + F k - min (qu R M F k + F k) R - M) 0) := rfl
        have hqw : Hid (qw R M F k = qu R M F k + F k - min (qu R M F k + F k) R - max (qu R M F k + F k - min (qu R M F k + F k) R - M) 0) := rfl
        have hqu : Hid (qu R M F (k + 1) = qu R M F k + F k - min (qu R M F k + F k) R - max (qu R M F k + F k - min (qu R M F k + F k) R - M) 0) := rfl
        have hlI : (k : Int) < n := by omega
        have i1 := hst.out k hk
        have i3 := hinr.out k hlt
        unfold inr at i3
        generalize F k = x at *
        generalize qu R M F k = W at *
        have hN := hT.put hlt hgo.out hlo.out hqw.out
        have ca := hT.a.c k hlt
        have fa := hT.a.fz k hlt
        have cb := (hT.b.other (p := ⟨A, k, none⟩) hT.ab (.int .i64 (min (W + x) R))).c k hlt
        have fb := (hT.b.other (p := ⟨A, k, none⟩) hT.ab (.int .i64 (min (W + x) R))).fz k hlt
        have cc := ((hT.c.other (p := ⟨A, k, none⟩) hT.ac (.int .i64 (min (W + x) R))).other (p := ⟨B, k, none⟩) hT.bc (.int .i64 (max (W + x - min (W + x) R - M) 0))).c k hlt
        have fc := ((hT.c.other (p := ⟨A, k, none⟩) hT.ac (.int .i64 (min (W + x) R))).other (p := ⟨B, k, none⟩) hT.bc (.int .i64 (max (W + x - min (W + x) R - M) 0))).fz k hlt
        generalize fill (qg R M F) k k = oa at ca
        generalize fill (ql R M F) k k = ob at cb
        generalize fill (qw R M F) k k = oc at cc
        go_wp2
        go_roundw
        case rel => exact ⟨k + 1, by omega, by go_num, by rw [hqu.out], hN⟩
        case measure => simp [intOf]; omega
      · obtain rfl : k = n := by omega
        go_wp2
        go_ret3
        exact ⟨_, _, _, _, _, _, rfl, Nat.le_refl _, (hT.a.ext fun j hj => (fill_all (qg R M F) k j hj).symm).row, (hT.b.ext fun j hj => (fill_all (ql R M F) k j hj).symm).row, (hT.c.ext fun j hj => (fill_all (qw R M F) k j hj).symm).row, hT.below⟩

end Go.Proofs.YtjageagnclmnjaaGreatDoor.B

end

section
namespace Go.Proofs
open Go.Shelf
def Tryz.lays111_ren : Go.Shelf.Ren := ⟨fun | 111 => 27 | n => n, fun | 28 => 66 | 3 => 3 | 4 => 4 | 0 => 0 | n => n, fun | n => n⟩
theorem Tryz.lays111 : Go.Proofs.Lays.n111 Tryz.prog Tryz.lays111_ren := {
  mixed := by kernel_rfl
  f111 := Tryz.func27.trans (congrArg some (by kernel_rfl))
  t0 := Tryz.underlying0
  a0 := Tryz.isAgg0
  z0 := Tryz.sizeOf0
  v0 := Tryz.zeroValue0
  t3 := Tryz.underlying3
  a3 := Tryz.isAgg3
  z3 := Tryz.sizeOf3
  v3 := Tryz.zeroValue3
  t4 := Tryz.underlying4
  a4 := Tryz.isAgg4
  z4 := Tryz.sizeOf4
  v4 := Tryz.zeroValue4
  t28 := Tryz.underlying66
  a28 := Tryz.isAgg66
  z28 := Tryz.sizeOf66
  v28 := Tryz.zeroValue66 }
open Go.RowKit Go.Lib in
theorem Tryz.slices_Equal_int (b1 o1 n c b2 o2 m d : Nat) (xs ys : List Int) (w : World) (hx : n ≤ xs.length) (hy : m ≤ ys.length) (hbig : n ≤ 9223372036854775807) (hbig2 : m ≤ 9223372036854775807) (hc1 : ∀ j, j < xs.length → w.cell? ⟨b1, o1 + j, none⟩ = some (.int .i64 (xs.getD j 0))) (hc2 : ∀ j, j < ys.length → w.cell? ⟨b2, o2 + j, none⟩ = some (.int .i64 (ys.getD j 0))) :
    Calls Tryz.prog 27 #[.slice (some ⟨b1, o1, none⟩) n c, .slice (some ⟨b2, o2, none⟩) m d] w fun e w' => e = .returned (.bool (xs.take n == ys.take m)) ∧ ∃ q, w' = w.drewN q := Any.slices_Equal_int Tryz.lays111 b1 o1 n c b2 o2 m d xs ys w hx hy hbig hbig2 hc1 hc2
open Go.RowKit Go.Lib in
theorem Tryz.slices_Equal_int_empty (a1 a2 : Option Addr) (c m d : Nat) (w : World) (hbig2 : m ≤ 9223372036854775807) :
    Calls Tryz.prog 27 #[.slice a1 0 c, .slice a2 m d] w fun e w' => e = .returned (.bool (decide (m = 0))) ∧ w' = w := Any.slices_Equal_int_empty Tryz.lays111 a1 a2 c m d w hbig2
open Go.RowKit Go.Lib in
theorem Tryz.slices_Equal_int_lens (a1 a2 : Option Addr) (n c m d : Nat) (w : World) (hnm : n ≠ m) :
    Calls Tryz.prog 27 #[.slice a1 n c, .slice a2 m d] w fun e w' => e = .returned (.bool false) ∧ w' = w := Any.slices_Equal_int_lens Tryz.lays111 a1 a2 n c m d w hnm
end Go.Proofs

end

section
namespace Go.Proofs.YtjageagnclmnjaaGreatDoor.B
set_option maxRecDepth 100000
open Go.RowKit

theorem equal_any (a1 a2 : Option Addr) (c1 c2 : Nat) (xs ys : List Int) (w : World) (h1 : Row w a1 xs) (h2 : Row w a2 ys) (b1 : xs.length ≤ 35184372088832) (b2 : ys.length ≤ 35184372088832) :
    Calls Tryz.prog 27 #[.slice a1 xs.length c1, .slice a2 ys.length c2] w fun e w' => e = .returned (.bool (decide (xs = ys))) ∧ ∃ q, w' = w.drewN q := by
  by_cases hl : xs.length = ys.length
  · rcases h1 with e | ⟨g1, o1, rfl, k1⟩
    · subst e
      have hy : ys = [] := List.eq_nil_of_length_eq_zero (by simpa using hl.symm)
      subst hy
      exact (Tryz.slices_Equal_int_empty a1 a2 c1 0 c2 w (by omega)).mono fun e w' ⟨he, hw⟩ => ⟨by rw [he]; rfl, 0, hw⟩
    · rcases h2 with e | ⟨g2, o2, rfl, k2⟩
      · subst e
        have hx : xs = [] := List.eq_nil_of_length_eq_zero (by simpa using hl)
        subst hx
        exact (Tryz.slices_Equal_int_empty _ a2 c1 0 c2 w (by omega)).mono fun e w' ⟨he, hw⟩ => ⟨by rw [he]; rfl, 0, hw⟩
      · refine (Tryz.slices_Equal_int g1 o1 xs.length c1 g2 o2 ys.length c2 xs ys w (Nat.le_refl _) (Nat.le_refl _) (by omega) (by omega) k1 k2).mono fun e w' ⟨he, hw⟩ => ⟨?_, hw⟩
        rw [he, List.take_length, List.take_length]
        congr 2
        rw [Bool.eq_iff_iff]; simp
  · refine (Tryz.slices_Equal_int_lens a1 a2 xs.length c1 ys.length c2 w hl).mono fun e w' ⟨he, hw⟩ => ⟨?_, 0, hw⟩
    have hne : xs ≠ ys := fun q => hl (by rw [q])
    rw [he, decide_eq_false hne]

end Go.Proofs.YtjageagnclmnjaaGreatDoor.B

end

section
namespace Go.Proofs.YtjageagnclmnjaaGreatDoor.D
set_option maxRecDepth 100000
open Go.RowKit K
set_option linter.unusedVariables false

abbrev sVV : ByteArray := ⟨#[118, 101, 103, 97, 115, 32, 118, 101, 103, 97, 115, 32, 50, 32, 50, 32, 48]⟩
def rVV : Ru := ⟨1, 1, 2, 2, 0⟩
theorem rd_vv : Rd sVV.data.toList rVV := ⟨by decide +kernel, by decide +kernel⟩
theorem dnVV : Dn rVV 3 := by
  refine ⟨?_, ?_, ?_⟩
  · unfold Live; decide +kernel
  · decide +kernel
  · decide +kernel
theorem jv_dn' {r : Ru} {T : Nat} (hT : Dn r T) (hw : wrong r = 0) {who ratio : Int} (hg : Rg who ratio) : ∃ k m, Jv r who ratio k m 0 ∧ 1 ≤ k ∧ k ≤ 2 := by
  by_cases hp : Q.noPos (esG r T who ratio)
  · obtain ⟨d, hd⟩ := mst_some (esG_inn hT who ratio) hp
    exact ⟨1, _, .inr (.inl ⟨T, d, ⟨hg, hw, hT, hd⟩, rfl, rfl, rfl⟩), by omega, by omega⟩
  · exact ⟨2, 0, .inr (.inr ⟨T, ⟨hg, hw, hT, hp⟩, rfl, rfl, rfl⟩), by omega, by omega⟩
theorem tell_vv (v : World) (L : Lw v) : Calls Tryz.prog 7 #[.string sVV, .int .i64 3] v fun e w' => ∃ g cap, e = .returned (.tuple #[.slice (some ⟨g, 0, none⟩) 2 cap, .int .i64 0]) ∧ Below v.heap.size v w' := by
  obtain ⟨k0, m0, j0, _⟩ := jv_dn' dnVV rd_vv.1 (who := 0) (ratio := 3) (by unfold Rg; omega)
  obtain ⟨k1, m1, j1, _⟩ := jv_dn' dnVV rd_vv.1 (who := 1) (ratio := 3) (by unfold Rg; omega)
  have T : Tl sVV.data.toList 3 0 _ _ := .inr ⟨rVV, rd_vv, k0, m0, 0, k1, m1, 0, j0, j1, rfl, rfl, by decide⟩
  refine (tell_any (by decide) T v L).mono ?_
  rintro e w' ⟨⟨t, rfl, ⟨h, _⟩ | ⟨_, g, cap, rfl, _, _⟩⟩, b⟩
  · exact absurd h (by decide)
  · exact ⟨g, cap, rfl, b⟩
theorem row2 (w : World) (a b : Int) : B.Row (w.alloc (.cells #[.int .i64 a, .int .i64 b] 3)) (some ⟨w.heap.size, 0, none⟩) [a, b] := by
  refine .inr ⟨w.heap.size, 0, rfl, fun j hj => ?_⟩
  rw [Nat.zero_add, World.cell?_alloc_at _ _ _ _ rfl]
  simp only [List.length_cons, List.length_nil] at hj
  match j, hj with
  | 0, _ => rfl
  | 1, _ => rfl
theorem vv_let : B.let' 1 2 [5, 0] = [2, 1] := by decide +kernel
theorem vv_right : B.bright 2 3 [2, 1] := by decide +kernel
theorem vv_play : B.outs (B.qg 2 3 fun j => [2, 1].getD j 0) 2 = [2, 1] := by decide +kernel
theorem pass_vv (a : Option Addr) (c : Nat) (v : World) (h : B.Row v a [5, 0]) : Calls Tryz.prog 26 #[.agg #[.int .i64 1, .int .i64 2], .slice a 2 c] v fun e w' => ∃ ao cap, e = .returned (.slice ao 2 cap) ∧ B.Row w' ao [2, 1] ∧ Below v.heap.size v w' := by
  refine (B.pass_any 1 2 a c [5, 0] v h).mono ?_
  rintro e w' ⟨ao, cap, rfl, _, r, b⟩
  rw [vv_let] at r ⊢
  exact ⟨ao, cap, rfl, r, b⟩
theorem play_vv (a : Option Addr) (c : Nat) (v : World) (h : B.Row v a [2, 1]) : Calls Tryz.prog 25 #[.int .i64 2, .int .i64 3, .slice a 2 c] v fun e w' => ∃ a1 c1 a2 c2 a3 c3, e = .returned (.tuple #[.slice a1 2 c1, .slice a2 2 c2, .slice a3 2 c3]) ∧ B.Row w' a1 [2, 1] ∧ Below v.heap.size v w' := by
  refine (B.play_any 2 3 a c [2, 1] v h vv_right).mono ?_
  rintro e w' ⟨a1, c1, a2, c2, a3, c3, rfl, _, r, _, _, b⟩
  exact ⟨a1, c1, a2, c2, a3, c3, rfl, vv_play ▸ r, b⟩
theorem equal_vv (a1 a2 : Option Addr) (c1 c2 : Nat) (v : World) (h1 : B.Row v a1 [2, 1]) (h2 : B.Row v a2 [2, 1]) : Calls Tryz.prog 27 #[.slice a1 2 c1, .slice a2 2 c2] v fun e w' => e = .returned (.bool true) ∧ Below v.heap.size v w' := by
  refine (B.equal_any a1 a2 c1 c2 [2, 1] [2, 1] v h1 h2 (by decide) (by decide)).mono ?_
  rintro e w' ⟨rfl, q, rfl⟩
  exact ⟨by simp, below_drewN (Below.refl _ _) q⟩
theorem bRow_kept {w w' : World} {a : Option Addr} {z : List Int} (h : B.Row w a z) (b : Below w.heap.size w w') : B.Row w' a z := by
  rcases h with h | ⟨g, o, rfl, h⟩
  · exact .inl h
  · refine .inr ⟨g, o, rfl, fun j hj => ?_⟩
    have := h j hj
    exact (b.cell (p := ⟨g, o + j, none⟩) (block_lt this)).trans this
set_option maxHeartbeats 3200000 in
theorem alive_top (w : World) (L : Lw w) : Calls Tryz.prog 12 #[] w fun e w' => e = .returned (.bool true) ∧ Below w.heap.size w w' := by
  go_enter Tryz.func12, Tryz.ntmps12
  go_wp2_with (first
    | (go_at_call 7; refine (tell_vv _ L).mono ?_; clear L; rintro e v1 ⟨g, cap, rfl, B⟩; replace B := balloc B (.cells #[.int .i64 5, .int .i64 0] 3); have R := row2 v1 5 0)
    | (go_at_call 26; refine (pass_vv _ _ _ R).mono ?_; clear R; rintro e v2 ⟨ao, cp, rfl, R, b⟩; replace B := bthen B b; clear b)
    | (go_at_call 25; refine (play_vv _ _ _ R).mono ?_; clear R; rintro e v3 ⟨a1, c1, a2, c2, a3, c3, rfl, R, b⟩; replace B := balloc (bthen B b) (.cells #[.int .i64 2, .int .i64 1] 3); have R2 := row2 v3 2 1; replace R := bRow_kept R (balloc (Below.refl _ v3) (.cells #[.int .i64 2, .int .i64 1] 3)); clear b)
    | (go_at_call 27; refine (equal_vv _ _ _ _ _ R R2).mono ?_; clear R R2; rintro e v4 ⟨rfl, b⟩; replace B := bthen B b; clear b))
  go_ret
  exact ⟨rfl, B⟩
end Go.Proofs.YtjageagnclmnjaaGreatDoor.D

end
