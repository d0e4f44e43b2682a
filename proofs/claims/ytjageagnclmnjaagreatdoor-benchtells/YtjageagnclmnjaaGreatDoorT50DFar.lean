/- PROVED: what the verifier's UTell answers. The library's contracts for slices.Equal, Max, BinarySearch, laid at this program. the walk of the law BenchTells. what is known of rules, states, pairs and rows of pairs and numbers that came in. CONDITIONS: none beyond each theorem's own. -/
import Derived.Test.YtjageagnclmnjaaGreatDoorT38VYes
import Derived.Test.YtjageagnclmnjaaGreatDoorT42Upa
import Derived.Test.YtjageagnclmnjaaGreatDoorT49Tju
import Derived.Shelf.Slices.Turned
import Derived.Shelf.Slices.Equal
import Derived.Shelf.Slices.Empties2
import Derived.Test.YtjageagnclmnjaaGreatDoorB04Shelf
import Derived.Test.YtjageagnclmnjaaGreatDoorB07Reg
import Derived.ProofKit
import Derived.OpenShut
import Derived.ShutString
import Derived.ChangeOld
import Derived.Below
import Derived.SizedLaws
import Derived.ChangeSame
import Derived.Lib.SmallJoins
namespace Go.Proofs.YtjageagnclmnjaaGreatDoor.D
set_option maxRecDepth 100000
open Go.RowKit K
set_option linter.unusedVariables false

abbrev sSt : ByteArray := ⟨#[32, 115, 116, 97, 114, 118, 101, 115]⟩
abbrev sBo : ByteArray := ⟨#[32, 98, 111, 117, 110, 100, 101, 100, 32]⟩
theorem tj_jv {r : Ru} {who ratio k m E : Int} (h : Jv r who ratio k m E) (w : World) :
    Calls Tryz.prog 21 #[.agg #[.int .i64 r.k0, .int .i64 r.k1, .int .i64 r.r, .int .i64 r.m, .int .i64 r.j], .int .i64 who, .int .i64 ratio] w fun e w' => e = .returned (.tuple #[.int .i64 k, .int .i64 m, .int .i64 E]) ∧ Below w.heap.size w w' := by
  rcases h with ⟨h, rfl, rfl⟩ | ⟨T, d, h, rfl, rfl, rfl⟩ | ⟨T, h, rfl, rfl, rfl⟩
  · exact tj_err h w
  · exact tj_bnd h w
  · exact tj_stv h w
def Tc (p0 p1 r m j who ratio k mo E : Int) : Prop := ∀ v, Calls Tryz.prog 21 #[.agg #[.int .i64 p0, .int .i64 p1, .int .i64 r, .int .i64 m, .int .i64 j], .int .i64 who, .int .i64 ratio] v fun e w' => e = .returned (.tuple #[.int .i64 k, .int .i64 mo, .int .i64 E]) ∧ Below v.heap.size v w'
def Ic (n : Int) (u : ByteArray) : Prop := ∀ v, Lw v → Calls Tryz.prog 22 #[.int .i64 n] v fun e w' => e = .returned (.string u) ∧ Below v.heap.size v w'
set_option maxHeartbeats 6400000 in
theorem utell_err (s : ByteArray) (ratio : Int) (p0 p1 r m j F : Int) (hF : (F != 0) = true) (w : World)
    (y : ∀ v, Calls Tryz.prog 20 #[.string s] v fun e w' => e = .returned (.tuple #[.agg #[.int .i64 p0, .int .i64 p1, .int .i64 r, .int .i64 m, .int .i64 j], .int .i64 F]) ∧ Below v.heap.size v w') :
    Calls Tryz.prog 8 #[.string s, .int .i64 ratio] w fun e w' => e = .returned (.tuple #[.slice none 0 0, .int .i64 F]) ∧ Below w.heap.size w w' := by
  go_enter Tryz.func8, Tryz.ntmps8
  go_wp2_with (go_at_call 20; with_reducible refine (y _).mono ?_; clear y; rintro e v1 ⟨rfl, b⟩; have B := balloc b (.cells #[.int .i64 p0, .int .i64 p1, .int .i64 r, .int .i64 m, .int .i64 j] 33); clear b)
  refine bodyPost_ret (v := .tuple #[.slice none 0 0, .int .i64 F]) (by simp [results, Tryz.results8, go_sem]) rfl ⟨rfl, B⟩
set_option maxHeartbeats 12800000 in
theorem utell_of (s : ByteArray) (ratio : Int) (p0 p1 r m j k0 m0 E0 k1 m1 E1 : Int) (l0 l1 u0 u1 d0 d1 : ByteArray) (w : World) (L : Lw w)
    (y : ∀ v, Calls Tryz.prog 20 #[.string s] v fun e w' => e = .returned (.tuple #[.agg #[.int .i64 p0, .int .i64 p1, .int .i64 r, .int .i64 m, .int .i64 j], .int .i64 0]) ∧ Below v.heap.size v w')
    (J0 : Tc p0 p1 r m j 0 ratio k0 m0 E0) (J1 : Tc p0 p1 r m j 1 ratio k1 m1 E1) (I0 : Ic 0 u0) (I1 : Ic 1 u1) (M0 : Ic m0 d0) (M1 : Ic m1 d1) (b0 b1 : Bool) (h0 : (E0 != 0) = b0) (h1 : (E1 != 0) = b1)
    (K0 : b0 = false → (k0 = 1 ∧ ∃ y0 z0, (∀ v, (Op.stringOp .add u0 sSt).run Tryz.prog v = .ok (.string y0) v) ∧ (∀ v, (Op.stringOp .add u0 sBo).run Tryz.prog v = .ok (.string z0) v) ∧ ∀ v, (Op.stringOp .add z0 d0).run Tryz.prog v = .ok (.string l0) v) ∨ (k0 = 2 ∧ ∀ v, (Op.stringOp .add u0 sSt).run Tryz.prog v = .ok (.string l0) v))
    (K1 : b1 = false → (k1 = 1 ∧ ∃ y0 z0, (∀ v, (Op.stringOp .add u1 sSt).run Tryz.prog v = .ok (.string y0) v) ∧ (∀ v, (Op.stringOp .add u1 sBo).run Tryz.prog v = .ok (.string z0) v) ∧ ∀ v, (Op.stringOp .add z0 d1).run Tryz.prog v = .ok (.string l1) v) ∨ (k1 = 2 ∧ ∀ v, (Op.stringOp .add u1 sSt).run Tryz.prog v = .ok (.string l1) v)) :
    Calls Tryz.prog 8 #[.string s, .int .i64 ratio] w fun e w' => (∃ t, e = .returned (.tuple #[t, .int .i64 (if b0 then E0 else if b1 then E1 else 0)]) ∧ (if b0 || b1 then t = .slice none 0 0 else LRow w' t [l0, l1])) ∧ Below w.heap.size w w' := by
  obtain ⟨i0, hi, hz0, hz1, hz2⟩ := info_parts infS
  replace J0 : Hid _ := J0
  replace J1 : Hid _ := J1
  replace I0 : Hid _ := I0
  replace I1 : Hid _ := I1
  replace M0 : Hid _ := M0
  replace M1 : Hid _ := M1
  replace K0 : Hid _ := K0
  replace K1 : Hid _ := K1
  have T1 : Hid True := trivial
  have T2 : Hid True := trivial
  have T3 : Hid True := trivial
  go_enter Tryz.func8, Tryz.ntmps8
  go_wp2_with (go_at_call 20; with_reducible refine (y _).mono ?_; clear y; rintro e v1 ⟨rfl, b⟩; have X := Rul.new v1 _ rfl p0 p1 r m j; have hv := b.size; replace b := balloc b (.cells #[.int .i64 p0, .int .i64 p1, .int .i64 r, .int .i64 m, .int .i64 j] 33); have T : Tg w v1.heap.size p0 p1 r m j (.slice none 0 0) [] _ := ⟨L, X, hv, World.ownsRow_nil _ _ _ _, Below.refl _ _, b⟩; clear X b)
  go_loopw [22, 8] (fun i t wr => (i = .int .i64 0 ∧ t = .slice none 0 0 ∧ Tg w v1.heap.size p0 p1 r m j t [] wr) ∨ (i = .int .i64 1 ∧ b0 = false ∧ Tg w v1.heap.size p0 p1 r m j t [l0] wr) ∨ (i = .int .i64 2 ∧ b0 = false ∧ b1 = false ∧ Tg w v1.heap.size p0 p1 r m j t [l0, l1] wr)) (fun i _ _ => 2 - (intOf i).toNat)
  case atStart => exact .inl ⟨rfl, rfl, T⟩
  case round =>
    clear T
    rcases hrel with ⟨rfl, rfl, T⟩ | ⟨rfl, rfl, T⟩ | ⟨rfl, rfl, rfl, T⟩
    · clear J1 I1 M1 K1
      obtain ⟨x0, x1, x2, x3, x4, -, -, -, -, -⟩ := id T.x
      cases b0
      · rcases K0.out rfl with ⟨rfl, y0, z0, a1, a2, a3⟩ | ⟨rfl, a1⟩
        · go_wp2_with (first
          | (go_at_call 21; refine (J0.out _).mono ?_; clear J0 x0 x1 x2 x3 x4; rintro e v2 ⟨rfl, b⟩; replace T := T.kept b; clear b)
          | (clear T1; go_at_call 22; refine (I0.out _ T.lw).mono ?_; rintro e v3 ⟨rfl, b⟩; replace T := T.kept b; clear b; have hcn := Lib.hid (str_new v3 l0); have hT := T.lt)
          | (clear T2 hcn hT; go_at_call 22; refine (I0.out _ T.lw).mono ?_; rintro e v4 ⟨rfl, b⟩; replace T := T.kept b; clear b)
          | (clear T3; go_at_call 22; refine (M0.out _ T.lw).mono ?_; rintro e v3 ⟨rfl, b⟩; replace T := T.kept b; clear b; have hcn := Lib.hid (str_new v3 l0); have hT := T.lt)
          | (at_builtin; refine wpList_append_own _ rfl _ _ 22 rfl (v1.heap.size + 1) 9 i0 (.string ⟨#[]⟩) 1 16 Tryz.underlying22 hi hz0 hz1 hz2 rfl (by decide) _ _ _ rfl ((T.alloc (.cells #[.string l0] 9)).own) ⟨v3.heap.size, 0, none⟩ 1 1 [.string l0] rfl rfl hcn.out (by simp [Value.oneCell']) (by simp [maxLen]) (by simp) (by simp; omega) ?_; intro t' w2 ho hg _; replace T := T.next ho hg; clear ho hg))
          go_roundw
          case rel => exact .inr (.inl ⟨rfl, by first | rfl | trivial, T⟩)
          case measure => simp [intOf]
        · go_wp2_with (first
          | (go_at_call 21; refine (J0.out _).mono ?_; clear J0 x0 x1 x2 x3 x4; rintro e v2 ⟨rfl, b⟩; replace T := T.kept b; clear b)
          | (clear T1; go_at_call 22; refine (I0.out _ T.lw).mono ?_; rintro e v3 ⟨rfl, b⟩; replace T := T.kept b; clear b; have hcn := Lib.hid (str_new v3 l0); have hT := T.lt)
          | (at_builtin; refine wpList_append_own _ rfl _ _ 22 rfl (v1.heap.size + 1) 9 i0 (.string ⟨#[]⟩) 1 16 Tryz.underlying22 hi hz0 hz1 hz2 rfl (by decide) _ _ _ rfl ((T.alloc (.cells #[.string l0] 9)).own) ⟨v3.heap.size, 0, none⟩ 1 1 [.string l0] rfl rfl hcn.out (by simp [Value.oneCell']) (by simp [maxLen]) (by simp) (by simp; omega) ?_; intro t' w2 ho hg _; replace T := T.next ho hg; clear ho hg))
          go_roundw
          case rel => exact .inr (.inl ⟨rfl, by first | rfl | trivial, T⟩)
          case measure => simp [intOf]
      · go_wp2_with (go_at_call 21; refine (J0.out _).mono ?_; clear J0 x0 x1 x2 x3 x4; rintro e v2 ⟨rfl, b⟩; replace T := T.kept b; clear b)
        refine bodyPost_ret (v := .tuple #[.slice none 0 0, .int .i64 E0]) (by simp [results, Tryz.results8, go_sem]) rfl ⟨rfl, T.bw⟩
    · clear J0 I0 M0 K0
      obtain ⟨x0, x1, x2, x3, x4, -, -, -, -, -⟩ := id T.x
      cases b1
      · rcases K1.out rfl with ⟨rfl, y0, z0, a1, a2, a3⟩ | ⟨rfl, a1⟩
        · go_wp2_with (first
          | (go_at_call 21; refine (J1.out _).mono ?_; clear J1 x0 x1 x2 x3 x4; rintro e v2 ⟨rfl, b⟩; replace T := T.kept b; clear b)
          | (clear T1; go_at_call 22; refine (I1.out _ T.lw).mono ?_; rintro e v3 ⟨rfl, b⟩; replace T := T.kept b; clear b; have hcn := Lib.hid (str_new v3 l1); have hT := T.lt)
          | (clear T2 hcn hT; go_at_call 22; refine (I1.out _ T.lw).mono ?_; rintro e v4 ⟨rfl, b⟩; replace T := T.kept b; clear b)
          | (clear T3; go_at_call 22; refine (M1.out _ T.lw).mono ?_; rintro e v3 ⟨rfl, b⟩; replace T := T.kept b; clear b; have hcn := Lib.hid (str_new v3 l1); have hT := T.lt)
          | (at_builtin; refine wpList_append_own _ rfl _ _ 22 rfl (v1.heap.size + 1) 9 i0 (.string ⟨#[]⟩) 1 16 Tryz.underlying22 hi hz0 hz1 hz2 rfl (by decide) _ _ _ rfl ((T.alloc (.cells #[.string l1] 9)).own) ⟨v3.heap.size, 0, none⟩ 1 1 [.string l1] rfl rfl hcn.out (by simp [Value.oneCell']) (by simp [maxLen]) (by simp) (by simp; omega) ?_; intro t' w2 ho hg _; replace T := T.next ho hg; clear ho hg))
          go_roundw
          case rel => exact .inr (.inr ⟨rfl, by first | rfl | trivial, by first | rfl | trivial, T⟩)
          case measure => simp [intOf]
        · go_wp2_with (first
          | (go_at_call 21; refine (J1.out _).mono ?_; clear J1 x0 x1 x2 x3 x4; rintro e v2 ⟨rfl, b⟩; replace T := T.kept b; clear b)
          | (clear T1; go_at_call 22; refine (I1.out _ T.lw).mono ?_; rintro e v3 ⟨rfl, b⟩; replace T := T.kept b; clear b; have hcn := Lib.hid (str_new v3 l1); have hT := T.lt)
          | (at_builtin; refine wpList_append_own _ rfl _ _ 22 rfl (v1.heap.size + 1) 9 i0 (.string ⟨#[]⟩) 1 16 Tryz.underlying22 hi hz0 hz1 hz2 rfl (by decide) _ _ _ rfl ((T.alloc (.cells #[.string l1] 9)).own) ⟨v3.heap.size, 0, none⟩ 1 1 [.string l1] rfl rfl hcn.out (by simp [Value.oneCell']) (by simp [maxLen]) (by simp) (by simp; omega) ?_; intro t' w2 ho hg _; replace T := T.next ho hg; clear ho hg))
          go_roundw
          case rel => exact .inr (.inr ⟨rfl, by first | rfl | trivial, by first | rfl | trivial, T⟩)
          case measure => simp [intOf]
      · go_wp2_with (go_at_call 21; refine (J1.out _).mono ?_; clear J1 x0 x1 x2 x3 x4; rintro e v2 ⟨rfl, b⟩; replace T := T.kept b; clear b)
        refine bodyPost_ret (v := .tuple #[.slice none 0 0, .int .i64 E1]) (by simp [results, Tryz.results8, go_sem]) rfl ⟨rfl, T.bw⟩
    · clear J0 I0 M0 K0 J1 I1 M1 K1
      obtain ⟨g, cap, rfl, hg, hc⟩ := own_lines (by simp) T.own
      go_wp2
      refine bodyPost_ret (v := .tuple #[.slice (some ⟨g, 0, none⟩) 2 cap, .int .i64 0]) (by simp [results, Tryz.results8, go_sem]) rfl ⟨⟨_, rfl, g, cap, rfl, hg, hc⟩, T.bw⟩
end Go.Proofs.YtjageagnclmnjaaGreatDoor.D

namespace Go.Proofs
open Go.Shelf
open Go.Lib in
open Go.RowKit Go.Lib in
open Go.RowKit Go.Lib in
def Tryz.lays193_ren : Go.Shelf.Ren := ⟨fun | 193 => 9 | n => n, fun | 31 => 22 | 9 => 9 | 4 => 4 | 3 => 3 | 0 => 0 | n => n, fun | n => n⟩
theorem Tryz.lays193 : Go.Proofs.Lays.n193 Tryz.prog Tryz.lays193_ren := {
  mixed := by kernel_rfl
  f193 := Tryz.func9.trans (congrArg some (by kernel_rfl))
  t0 := Tryz.underlying0
  a0 := Tryz.isAgg0
  z0 := Tryz.sizeOf0
  v0 := Tryz.zeroValue0
  t3 := Tryz.underlying3
  a3 := Tryz.isAgg3
  z3 := Tryz.sizeOf3
  v3 := Tryz.zeroValue3
  t4 := Tryz.underlying4
  a4 := Tryz.isAgg4
  z4 := Tryz.sizeOf4
  v4 := Tryz.zeroValue4
  t9 := Tryz.underlying9
  a9 := Tryz.isAgg9
  z9 := Tryz.sizeOf9
  v9 := Tryz.zeroValue9
  t31 := Tryz.underlying22
  a31 := Tryz.isAgg22
  z31 := Tryz.sizeOf22
  v31 := Tryz.zeroValue22 }
open Go.RowKit Go.Lib in
theorem Tryz.slices_Equal_string (b1 o1 n c b2 o2 m d : Nat) (xs ys : List ByteArray) (w : World) (hx : n ≤ xs.length) (hy : m ≤ ys.length) (hbig : n ≤ 9223372036854775807) (hbig2 : m ≤ 9223372036854775807) (hc1 : ∀ j, j < xs.length → w.cell? ⟨b1, o1 + j, none⟩ = some (.string (xs.getD j ByteArray.empty))) (hc2 : ∀ j, j < ys.length → w.cell? ⟨b2, o2 + j, none⟩ = some (.string (ys.getD j ByteArray.empty))) :
    Calls Tryz.prog 9 #[.slice (some ⟨b1, o1, none⟩) n c, .slice (some ⟨b2, o2, none⟩) m d] w fun e w' => e = .returned (.bool (decide (xs.take n = ys.take m))) ∧ ∃ q, w' = w.drewN q := Any.slices_Equal_string Tryz.lays193 b1 o1 n c b2 o2 m d xs ys w hx hy hbig hbig2 hc1 hc2
open Go.RowKit Go.Lib in
theorem Tryz.slices_Equal_string_empty (a1 a2 : Option Addr) (c m d : Nat) (w : World) (hbig2 : m ≤ 9223372036854775807) :
    Calls Tryz.prog 9 #[.slice a1 0 c, .slice a2 m d] w fun e w' => e = .returned (.bool (decide (m = 0))) ∧ w' = w := Any.slices_Equal_string_empty Tryz.lays193 a1 a2 c m d w hbig2
end Go.Proofs

namespace Go.Proofs.YtjageagnclmnjaaGreatDoor.D
set_option maxRecDepth 100000
open Go.RowKit K
set_option linter.unusedVariables false

theorem str_eq {a b : ByteArray} (h : a.data.toList = b.data.toList) : a = b := by
  obtain ⟨a⟩ := a
  obtain ⟨b⟩ := b
  simp only at h
  rw [Array.toList_inj.1 h]
theorem ukk {who k m : Int} (hw : 0 ≤ who ∧ who ≤ 1) (hm : 0 ≤ m ∧ m ≤ 1099511627776) (hk : k = 1 ∨ k = 2) :
    (k = 1 ∧ ∃ y0 z0, (∀ v, (Op.stringOp .add ⟨(Lib.itoa who).toArray⟩ sSt).run Tryz.prog v = .ok (.string y0) v) ∧ (∀ v, (Op.stringOp .add ⟨(Lib.itoa who).toArray⟩ sBo).run Tryz.prog v = .ok (.string z0) v) ∧ ∀ v, (Op.stringOp .add z0 ⟨(Lib.itoa m).toArray⟩).run Tryz.prog v = .ok (.string ⟨(ln who k m).toArray⟩) v) ∨ (k = 2 ∧ ∀ v, (Op.stringOp .add ⟨(Lib.itoa who).toArray⟩ sSt).run Tryz.prog v = .ok (.string ⟨(ln who k m).toArray⟩) v) := by
  have z0 := itoa_size who (by omega)
  have z1 := itoa_size m (by omega)
  have ss : sSt.size = 8 := rfl
  have sb : sBo.size = 9 := rfl
  rcases hk with rfl | rfl
  · refine .inl ⟨rfl, _, _, zadd _ _ (by omega) (by omega), zadd _ _ (by omega) (by omega), fun v => ?_⟩
    rw [zadd _ _ (by simp only [ByteArray.size_append]; omega) (by omega)]
    congr 2
    apply str_eq
    simp [ln, ByteArray.data_append]
  · refine .inr ⟨rfl, fun v => ?_⟩
    rw [zadd _ _ (by omega) (by omega)]
    first | rfl | (congr 2; apply str_eq; simp [ln, ByteArray.data_append])
theorem utell_any {s : ByteArray} {ratio E : Int} {l0 l1 : List UInt8} (h : Tl s.data.toList ratio E l0 l1) (w : World) (L : Lw w) :
    Calls Tryz.prog 8 #[.string s, .int .i64 ratio] w fun e w' => (∃ t, e = .returned (.tuple #[t, .int .i64 E]) ∧ ((E != 0) = true ∧ t = .slice none 0 0 ∨ (E != 0) = false ∧ LRow w' t [⟨l0.toArray⟩, ⟨l1.toArray⟩])) ∧ Below w.heap.size w w' := by
  rcases h with ⟨rfl, h⟩ | ⟨r, hr, k0, m0, E0, k1, m1, E1, j0, j1, rfl, rfl, rfl⟩
  · refine (utell_err s ratio 0 0 0 0 0 1 (by decide) w (fun v => uparse_not s h v)).mono ?_
    rintro e w' ⟨rfl, b⟩
    exact ⟨⟨_, rfl, .inl ⟨by decide, rfl⟩⟩, b⟩
  · have q0 : ∀ {who k m E : Int}, Jv r who ratio k m E → (E != 0) = false → k = 1 ∨ k = 2 := fun j e => by
      obtain rfl : _ = (0 : Int) := by simpa using e
      rcases j.zero with ⟨h, _⟩ | ⟨h, _⟩
      · exact .inr h
      · exact .inl h
    have z0 := j0.most
    have z1 := j1.most
    have q := utell_of s ratio r.k0 r.k1 r.r r.m r.j k0 m0 E0 k1 m1 E1 ⟨(ln 0 k0 m0).toArray⟩ ⟨(ln 1 k1 m1).toArray⟩ ⟨(Lib.itoa 0).toArray⟩ ⟨(Lib.itoa 1).toArray⟩ ⟨(Lib.itoa m0).toArray⟩ ⟨(Lib.itoa m1).toArray⟩ w L (fun v => uparse_rd s r hr v) (fun v => tj_jv j0 v) (fun v => tj_jv j1 v)
      (fun v l => itoa_any 0 (by omega) v l) (fun v l => itoa_any 1 (by omega) v l) (fun v l => itoa_any m0 (by omega) v l) (fun v l => itoa_any m1 (by omega) v l) _ _ rfl rfl (fun e => ukk (by omega) z0 (q0 j0 e)) (fun e => ukk (by omega) z1 (q0 j1 e))
    refine q.mono ?_
    rintro e w' ⟨⟨t, rfl, ht⟩, b⟩
    refine ⟨⟨t, rfl, ?_⟩, b⟩
    cases h0 : (E0 != 0) <;> cases h1 : (E1 != 0)
    all_goals (rw [h0, h1] at ht; simp at ht)
    · exact .inr ⟨by simp, ht⟩
    · exact .inl ⟨by simpa using h1, ht⟩
    · exact .inl ⟨by simpa using h0, ht⟩
    · exact .inl ⟨by simpa using h0, ht⟩
theorem equal_lines {x y : ByteArray} {g h c d : Nat} (v : World) (h1 : ∀ i z, [x, y][i]? = some z → v.cell? ⟨g, i, none⟩ = some (.string z)) (h2 : ∀ i z, [x, y][i]? = some z → v.cell? ⟨h, i, none⟩ = some (.string z)) :
    Calls Tryz.prog 9 #[.slice (some ⟨g, 0, none⟩) 2 c, .slice (some ⟨h, 0, none⟩) 2 d] v fun e w' => e = .returned (.bool true) ∧ Below v.heap.size v w' := by
  have aux : ∀ g, (∀ i z, [x, y][i]? = some z → v.cell? ⟨g, i, none⟩ = some (.string z)) → ∀ j, j < [x, y].length → v.cell? ⟨g, 0 + j, none⟩ = some (.string ([x, y].getD j ByteArray.empty)) := fun g hg j hj => by
    rw [Nat.zero_add]
    match j, hj with
    | 0, _ => exact hg 0 _ rfl
    | 1, _ => exact hg 1 _ rfl
  refine (Tryz.slices_Equal_string g 0 2 c h 0 2 d [x, y] [x, y] v (by simp) (by simp) (by omega) (by omega) (aux g h1) (aux h h2)).mono ?_
  rintro e w' ⟨rfl, q, rfl⟩
  exact ⟨by simp, below_drewN (Below.refl _ _) q⟩
set_option maxHeartbeats 3200000 in
theorem tells_err (s : ByteArray) (ratio E : Int) (w : World) (L : Lw w)
    (y : ∀ v, Lw v → Calls Tryz.prog 7 #[.string s, .int .i64 ratio] v fun e w' => e = .returned (.tuple #[.slice none 0 0, .int .i64 E]) ∧ Below v.heap.size v w')
    (z : ∀ v, Lw v → Calls Tryz.prog 8 #[.string s, .int .i64 ratio] v fun e w' => e = .returned (.tuple #[.slice none 0 0, .int .i64 E]) ∧ Below v.heap.size v w') :
    Calls Tryz.prog 3 #[.string s, .int .i64 ratio] w fun e w' => e = .returned (.bool true) ∧ Below w.heap.size w w' := by
  have q : ∀ v, Calls Tryz.prog 9 #[.slice none 0 0, .slice none 0 0] v fun e w' => e = .returned (.bool true) ∧ w' = v := fun v => by
    have := Tryz.slices_Equal_string_empty none none 0 0 0 v (by omega)
    simpa using this
  go_enter Tryz.func3, Tryz.ntmps3
  go_wp2_with (first
    | (go_at_call 7; refine (y _ L).mono ?_; clear y; rintro e v1 ⟨rfl, B⟩; replace L := L.kept B)
    | (go_at_call 8; refine (z _ L).mono ?_; clear z; rintro e v2 ⟨rfl, b⟩; replace B := bthen B b; clear b)
    | (go_at_call 9; refine (q _).mono ?_; clear q; rintro e v3 ⟨rfl, rfl⟩))
  go_ret
  exact ⟨rfl, B⟩
set_option maxHeartbeats 3200000 in
theorem tells_ok (s l0 l1 : ByteArray) (ratio : Int) (w : World) (L : Lw w)
    (y : ∀ v, Lw v → Calls Tryz.prog 7 #[.string s, .int .i64 ratio] v fun e w' => ∃ g cap, e = .returned (.tuple #[.slice (some ⟨g, 0, none⟩) 2 cap, .int .i64 0]) ∧ (g < w'.heap.size ∧ ∀ i x, [l0, l1][i]? = some x → w'.cell? ⟨g, i, none⟩ = some (.string x)) ∧ Below v.heap.size v w')
    (z : ∀ v, Lw v → Calls Tryz.prog 8 #[.string s, .int .i64 ratio] v fun e w' => ∃ g cap, e = .returned (.tuple #[.slice (some ⟨g, 0, none⟩) 2 cap, .int .i64 0]) ∧ (g < w'.heap.size ∧ ∀ i x, [l0, l1][i]? = some x → w'.cell? ⟨g, i, none⟩ = some (.string x)) ∧ Below v.heap.size v w') :
    Calls Tryz.prog 3 #[.string s, .int .i64 ratio] w fun e w' => e = .returned (.bool true) ∧ Below w.heap.size w w' := by
  go_enter Tryz.func3, Tryz.ntmps3
  go_wp2_with (first
    | (go_at_call 7; refine (y _ L).mono ?_; clear y; rintro e v1 ⟨g, cap, rfl, ⟨hg, hc⟩, B⟩; replace L := L.kept B; replace hc := Lib.hid hc)
    | (go_at_call 8; refine (z _ L).mono ?_; clear z; rintro e v2 ⟨g', cap', rfl, ⟨hg', hc'⟩, b⟩; replace hc : Hid (∀ i x, [l0, l1][i]? = some x → v2.cell? ⟨g, i, none⟩ = some (.string x)) := (fun i x hx => (b.cell (p := ⟨g, i, none⟩) hg).trans (hc.out i x hx)); replace B := bthen B b; replace hc' := Lib.hid hc'; clear b)
    | (go_at_call 9; refine (equal_lines _ hc.out hc'.out).mono ?_; rintro e v3 ⟨rfl, b⟩; replace B := bthen B b; clear b))
  go_ret
  exact ⟨rfl, B⟩
theorem benchTells_go (s : ByteArray) (hs : s.size ≤ 140737488355328) (ratio : Int) (w : World) (L : Lw w) :
    Calls Tryz.prog 3 #[.string s, .int .i64 ratio] w fun e w' => e = .returned (.bool true) ∧ Below w.heap.size w w' := by
  obtain ⟨E, l0, l1, h⟩ := tl_some s.data.toList ratio
  cases hE : (E != 0)
  · obtain rfl : E = 0 := by simpa using hE
    refine tells_ok s ⟨l0.toArray⟩ ⟨l1.toArray⟩ ratio w L (fun v l => (tell_any hs h v l).mono ?_) (fun v l => (utell_any h v l).mono ?_)
    all_goals
      rintro e w' ⟨⟨t, rfl, ⟨q, _⟩ | ⟨_, g, cap, rfl, hg, hc⟩⟩, b⟩
      · exact absurd q (by decide)
      · exact ⟨g, cap, rfl, ⟨hg, hc⟩, b⟩
  · refine tells_err s ratio E w L (fun v l => (tell_any hs h v l).mono ?_) (fun v l => (utell_any h v l).mono ?_)
    all_goals
      rintro e w' ⟨⟨t, rfl, ⟨_, rfl⟩ | ⟨q, _⟩⟩, b⟩
      · exact ⟨rfl, b⟩
      · rw [hE] at q; simp at q
end Go.Proofs.YtjageagnclmnjaaGreatDoor.D

namespace Go.Proofs.YtjageagnclmnjaaGreatDoor.D
open Go.ChangeShapes Go.WideShapes Go.ChangeAt Go.RowKit Go.Joins Go.Deep K
set_option maxRecDepth 100000

theorem own : ownKnob Tryz.prog.godebug = none := by kernel_rfl
theorem laidOut : laidOutB Tryz.prog = true := by kernel_rfl
theorem Tryz.cells3 : Tryz.prog.cellsOf 3 = 1 := by kernel_rfl
section
variable {H : Type} {enc : TypeId × Value → H} {W : World} {fuel : Nat} {x : DataW H × List MemPlace}
end

end Go.Proofs.YtjageagnclmnjaaGreatDoor.D
