/- PROVED: what bench.Print answers. rules in memory, written whole. what bench.kindOf and bench.numberOf answer. CONDITIONS: none beyond each theorem's own. -/
import Derived.Test.YtjageagnclmnjabGreatDoorB00Pw
import Derived.Test.YtjageagnclmnjabGreatDoorB01Tx
import Derived.Test.YtjageagnclmnjabGreatDoorB03DOwn
import Derived.Test.YtjageagnclmnjabGreatDoorB04Shelf
import Derived.Deep.RegionHeld3
import Derived.Lib.Join
import Derived.Test.YtjageagnclmnjabGreatDoorB02DMem
namespace Go.Proofs.YtjageagnclmnjabGreatDoor.D
set_option maxRecDepth 100000
open Go.RowKit K
set_option linter.unusedVariables false

theorem print_no (r : Ru) (E : Int) (h : wrong r = E) (he : (E != 0) = true) (w : World) :
    Calls Tryz.prog 58 #[.agg #[.int .i64 r.k0, .int .i64 r.k1, .int .i64 r.r, .int .i64 r.m, .int .i64 r.j]] w fun e w' => e = .returned (.tuple #[.string ⟨#[]⟩, .int .i64 E]) ∧ Below w.heap.size w w' := by
  have p := fun v => wrong_is r E h v
  obtain ⟨k0, k1, rr, m, j⟩ := r
  have B : Below w.heap.size w (w.alloc (.cells #[.int .i64 k0, .int .i64 k1, .int .i64 rr, .int .i64 m, .int .i64 j] 69)) := balloc (Below.refl _ _) _
  obtain ⟨x0, x1, x2, x3, x4, -, -, -, -, -⟩ := Rul.new w _ rfl k0 k1 rr m j
  go_enter Tryz.func58, Tryz.ntmps58
  go_wp2_with (go_at_call 70; refine (p _).mono ?_; clear p; rintro x v ⟨rfl, b⟩; replace B := bthen B b)
  refine bodyPost_ret (v := .tuple #[.string ⟨#[]⟩, .int .i64 E]) (by simp [results, Tryz.results58, go_sem]) rfl ⟨rfl, B⟩
/-- the five words, one behind the other -/
theorem join5 (a b c d e : List UInt8) : Lib.join [a, b, c, d, e] [32] = a ++ 32 :: b ++ 32 :: c ++ 32 :: d ++ 32 :: e := by
  simp [Lib.join, List.intercalate]

theorem dig_short : ∀ n, n < 100 → (Lib.decDigits n).length ≤ 2 := by decide +kernel
theorem five_cells {w : World} {K : Nat} {x0 x1 x2 x3 x4 : ByteArray} (h : K = w.heap.size) : ∀ (j : Nat) x, [x0, x1, x2, x3, x4][j]? = some x → ((w.alloc (.cells #[.string x0, .string x1, .string x2, .string x3, .string x4] 9)).drew).cell? ⟨K, 0 + j, none⟩ = some (.string x) := by
  intro j x hx
  subst h
  show (w.alloc _).cell? _ = _
  rw [World.cell?_alloc_at _ _ _ _ rfl]
  match j, hx with
  | 0, hx => simpa using hx
  | 1, hx => simpa using hx
  | 2, hx => simpa using hx
  | 3, hx => simpa using hx
  | 4, hx => simpa using hx
  | n + 5, hx => simp at hx
theorem join_five {w : World} {x0 x1 x2 x3 x4 : ByteArray} (hl : x0.data.toList.length + x1.data.toList.length + x2.data.toList.length + x3.data.toList.length + x4.data.toList.length ≤ 1000) :
    Calls Tryz.prog 71 #[.slice (some ⟨w.heap.size, 0, none⟩) 5 5, .string ⟨#[32]⟩] ((w.alloc (.cells #[.string x0, .string x1, .string x2, .string x3, .string x4] 9)).drew) fun e w' =>
      e = .returned (.string ⟨(x0.data.toList ++ 32 :: x1.data.toList ++ 32 :: x2.data.toList ++ 32 :: x3.data.toList ++ 32 :: x4.data.toList).toArray⟩) ∧ Below ((w.alloc (.cells #[.string x0, .string x1, .string x2, .string x3, .string x4] 9)).drew).heap.size ((w.alloc (.cells #[.string x0, .string x1, .string x2, .string x3, .string x4] 9)).drew) w' := by
  have c := Tryz.strings_Join w.heap.size 0 5 [x0, x1, x2, x3, x4] ⟨#[32]⟩ ((w.alloc (.cells #[.string x0, .string x1, .string x2, .string x3, .string x4] 9)).drew) (five_cells rfl) (by simp) (by simp) (by simp) (by
    show (Lib.join [_, _, _, _, _] [32]).length ≤ _
    rw [join5]
    simp only [List.length_append, List.length_cons]
    omega)
  rw [← join5]
  exact c

set_option maxRecDepth 100000 in
set_option maxHeartbeats 3200000 in
theorem print_of (i j a b c : Nat) (hi : i < 4) (hj : j < 4) (ha : a < 100) (hb : b < 100) (hc : c < 100) (n0 n1 : ByteArray) (hn : n0.size ≤ 10 ∧ n1.size ≤ 10) (w : World)
    (q0 : w.cell? ⟨0, i, none⟩ = some (.string n0)) (q1 : w.cell? ⟨0, j, none⟩ = some (.string n1))
    (p : ∀ v, Calls Tryz.prog 70 #[.agg #[.int .i64 i, .int .i64 j, .int .i64 a, .int .i64 b, .int .i64 c]] v fun x w' => x = .returned (.int .i64 0) ∧ Below v.heap.size v w') :
    Calls Tryz.prog 58 #[.agg #[.int .i64 i, .int .i64 j, .int .i64 a, .int .i64 b, .int .i64 c]] w fun e w' =>
      e = .returned (.tuple #[.string ⟨(n0.data.toList ++ 32 :: n1.data.toList ++ 32 :: Lib.decDigits a ++ 32 :: Lib.decDigits b ++ 32 :: Lib.decDigits c).toArray⟩, .int .i64 0]) ∧ Below w.heap.size w w' := by
  have X := Rul.new w _ rfl i j a b c
  have B : Below w.heap.size w (w.alloc (.cells #[.int .i64 i, .int .i64 j, .int .i64 a, .int .i64 b, .int .i64 c] 69)) := balloc (Below.refl _ _) _
  replace q0 := (B.cell (p := ⟨0, i, none⟩) (block_lt q0)).trans q0
  replace q1 := (B.cell (p := ⟨0, j, none⟩) (block_lt q1)).trans q1
  have hi' : (i : Int) < 4 := by omega
  have hj' : (j : Int) < 4 := by omega
  go_enter Tryz.func58, Tryz.ntmps58
  go_wp2_with (go_at_call 70; refine (p _).mono ?_; clear p; rintro x v ⟨rfl, b'⟩; replace X := X.kept b'; replace q0 := (b'.cell (p := ⟨0, i, none⟩) (block_lt q0)).trans q0; replace q1 := (b'.cell (p := ⟨0, j, none⟩) (block_lt q1)).trans q1; replace B := bthen B b'; clear b'; obtain ⟨x0, x1, x2, x3, x4, -, -, -, -, -⟩ := id X; clear X)
  go_region_held3 (fun w' => w'.cell? ⟨w.heap.size, 0, none⟩ = some (.int .i64 i) ∧ w'.cell? ⟨w.heap.size, 1, none⟩ = some (.int .i64 j) ∧ w'.cell? ⟨w.heap.size, 2, none⟩ = some (.int .i64 a) ∧ w'.cell? ⟨w.heap.size, 3, none⟩ = some (.int .i64 b) ∧ w'.cell? ⟨w.heap.size, 4, none⟩ = some (.int .i64 c) ∧ w'.cell? ⟨0, i, none⟩ = some (.string n0) ∧ w'.cell? ⟨0, j, none⟩ = some (.string n1))
    (go_keep)
    (first
    | (go_at_call 64; refine (Tryz.strconv_Itoa_small a ha _).mono ?_; rintro x v1 ⟨rfl, rfl⟩)
    | (go_at_call 64; refine (Tryz.strconv_Itoa_small b hb _).mono ?_; rintro x v1 ⟨rfl, rfl⟩)
    | (go_at_call 64; refine (Tryz.strconv_Itoa_small c hc _).mono ?_; rintro x v1 ⟨rfl, rfl⟩))
  have B2 : Below w.heap.size w ((v.alloc (.cells #[.string n0, .string n1, .string ⟨(Lib.decDigits a).toArray⟩, .string ⟨(Lib.decDigits b).toArray⟩, .string ⟨(Lib.decDigits c).toArray⟩] 9)).drew) := below_drewN (balloc B _) 1
  have hlen : n0.data.toList.length + n1.data.toList.length + (ByteArray.mk (Lib.decDigits a).toArray).data.toList.length + (ByteArray.mk (Lib.decDigits b).toArray).data.toList.length + (ByteArray.mk (Lib.decDigits c).toArray).data.toList.length ≤ 1000 := by
    have h1 := dig_short a ha
    have h2 := dig_short b hb
    have h3 := dig_short c hc
    have h4 : n0.data.toList.length ≤ 10 := hn.1
    have h5 : n1.data.toList.length ≤ 10 := hn.2
    show n0.data.toList.length + n1.data.toList.length + (Lib.decDigits a).length + (Lib.decDigits b).length + (Lib.decDigits c).length ≤ 1000
    omega
  go_wp2_with (go_at_call 71; refine (join_five (w := v) (x0 := n0) (x1 := n1) (x2 := ⟨(Lib.decDigits a).toArray⟩) (x3 := ⟨(Lib.decDigits b).toArray⟩) (x4 := ⟨(Lib.decDigits c).toArray⟩) hlen).mono ?_; rintro e w' ⟨rfl, b'⟩; replace B2 := bthen B2 b'; clear b')
  refine bodyPost_ret (v := .tuple #[.string ⟨(n0.data.toList ++ 32 :: n1.data.toList ++ 32 :: Lib.decDigits a ++ 32 :: Lib.decDigits b ++ 32 :: Lib.decDigits c).toArray⟩, .int .i64 0]) (by simp [results, Tryz.results58, go_sem]) rfl ⟨rfl, B2⟩

theorem rgt_of {r : Ru} (h : wrong r = 0) : kinds r ∧ ranges r := by
  unfold wrong at h
  split at h
  · rename_i hk
    split at h
    · rename_i hr; exact ⟨hk, hr⟩
    · simp at h
  · simp at h
/-- a kind's name, as it lies -/
theorem name_cell {w : World} (L : Lw w) {i : Nat} (h : 1 ≤ i ∧ i ≤ 3) : ∃ n : ByteArray, w.cell? ⟨0, i, none⟩ = some (.string n) ∧ n.size ≤ 10 ∧ n.data.toList = nme i := by
  obtain ⟨_, c1, c2, c3⟩ := L.cell
  rcases (show i = 1 ∨ i = 2 ∨ i = 3 by omega) with rfl | rfl | rfl
  · exact ⟨_, c1, by decide, rfl⟩
  · exact ⟨_, c2, by decide, rfl⟩
  · exact ⟨_, c3, by decide, rfl⟩
theorem print_yes (r : Ru) (h : wrong r = 0) (w : World) (L : Lw w) :
    Calls Tryz.prog 58 #[.agg #[.int .i64 r.k0, .int .i64 r.k1, .int .i64 r.r, .int .i64 r.m, .int .i64 r.j]] w fun e w' => e = .returned (.tuple #[.string ⟨(tx r).toArray⟩, .int .i64 0]) ∧ Below w.heap.size w w' := by
  have p := fun v => wrong_is r 0 h v
  have hr := rgt_of h
  unfold kinds ranges at hr
  obtain ⟨k0, k1, rr, m, j⟩ := r
  simp only at hr
  obtain ⟨i, rfl⟩ : ∃ i : Nat, k0 = i := ⟨k0.toNat, by omega⟩
  obtain ⟨i1, rfl⟩ : ∃ i : Nat, k1 = i := ⟨k1.toNat, by omega⟩
  obtain ⟨a, rfl⟩ : ∃ i : Nat, rr = i := ⟨rr.toNat, by omega⟩
  obtain ⟨b, rfl⟩ : ∃ i : Nat, m = i := ⟨m.toNat, by omega⟩
  obtain ⟨c, rfl⟩ : ∃ i : Nat, j = i := ⟨j.toNat, by omega⟩
  obtain ⟨n0, q0, s0, e0⟩ := name_cell L (i := i) (by omega)
  obtain ⟨n1, q1, s1, e1⟩ := name_cell L (i := i1) (by omega)
  have z := print_of i i1 a b c (by omega) (by omega) (by omega) (by omega) (by omega) n0 n1 ⟨s0, s1⟩ w q0 q1 p
  rw [e0, e1] at z
  exact z
end Go.Proofs.YtjageagnclmnjabGreatDoor.D

namespace Go.Proofs.YtjageagnclmnjabGreatDoor.D
set_option maxRecDepth 100000
open Go.RowKit

theorem Rul.put {w : World} {C : Nat} {v0 v1 v2 v3 v4 : Int} (h : Rul w C v0 v1 v2 v3 v4) (x0 x1 x2 x3 x4 : Int) : Rul (((((w.setCell ⟨C, 0, none⟩ (.int .i64 x0)).setCell ⟨C, 1, none⟩ (.int .i64 x1)).setCell ⟨C, 2, none⟩ (.int .i64 x2)).setCell ⟨C, 3, none⟩ (.int .i64 x3)).setCell ⟨C, 4, none⟩ (.int .i64 x4)) C x0 x1 x2 x3 x4 :=
  (((((h).set0 x0).set1 x1).set2 x2).set3 x3).set4 x4

end Go.Proofs.YtjageagnclmnjabGreatDoor.D

namespace Go.Proofs.YtjageagnclmnjabGreatDoor.D
set_option maxRecDepth 100000
open Go.RowKit
set_option linter.unusedVariables false

theorem nx0 (a b c d : ByteArray) (w : World) : (Instr.index 108 (.agg #[.string a, .string b, .string c, .string d]) (.int .i64 0)).run Tryz.prog w = .ok (.string a) w := by kernel_rfl
theorem nx1 (a b c d : ByteArray) (w : World) : (Instr.index 108 (.agg #[.string a, .string b, .string c, .string d]) (.int .i64 1)).run Tryz.prog w = .ok (.string b) w := by kernel_rfl
theorem nx2 (a b c d : ByteArray) (w : World) : (Instr.index 108 (.agg #[.string a, .string b, .string c, .string d]) (.int .i64 2)).run Tryz.prog w = .ok (.string c) w := by kernel_rfl
theorem nx3 (a b c d : ByteArray) (w : World) : (Instr.index 108 (.agg #[.string a, .string b, .string c, .string d]) (.int .i64 3)).run Tryz.prog w = .ok (.string d) w := by kernel_rfl
attribute [local go_sem] nx0 nx1 nx2 nx3
set_option maxRecDepth 100000 in
set_option maxHeartbeats 1600000 in
theorem kindof_of (p n0 n1 n2 n3 : ByteArray) (w : World) (c0 : w.cell? ⟨0, 0, none⟩ = some (.string n0)) (c1 : w.cell? ⟨0, 1, none⟩ = some (.string n1)) (c2 : w.cell? ⟨0, 2, none⟩ = some (.string n2)) (c3 : w.cell? ⟨0, 3, none⟩ = some (.string n3))
    (t0 t1 t2 t3 : Bool) (h0 : (n0.toList == p.toList) = t0) (h1 : (n1.toList == p.toList) = t1) (h2 : (n2.toList == p.toList) = t2) (h3 : (n3.toList == p.toList) = t3) :
    Calls Tryz.prog 56 #[.string p] w fun e w' => e = .returned (.int .i64 (if t0 then 0 else if t1 then 1 else if t2 then 2 else if t3 then 3 else 0)) ∧ w' = w := by
  go_enter Tryz.func56, Tryz.ntmps56
  go_wp2
  go_loopw [6] (fun i wr => wr = w ∧ (i = .int .i64 0 ∨ i = .int .i64 1 ∧ t0 = false ∨ i = .int .i64 2 ∧ t0 = false ∧ t1 = false ∨ i = .int .i64 3 ∧ t0 = false ∧ t1 = false ∧ t2 = false ∨ i = .int .i64 4 ∧ t0 = false ∧ t1 = false ∧ t2 = false ∧ t3 = false)) (fun i _ => 4 - (intOf i).toNat)
  case atStart => exact ⟨rfl, .inl rfl⟩
  case round =>
    obtain ⟨rfl, rfl | ⟨rfl, rfl⟩ | ⟨rfl, rfl, rfl⟩ | ⟨rfl, rfl, rfl, rfl⟩ | ⟨rfl, rfl, rfl, rfl, rfl⟩⟩ := hrel
    · clear h1 h2 h3
      cases t0
      · go_wp2
        go_roundw
        case rel => exact ⟨by first | rfl | trivial, .inr (.inl ⟨rfl, by first | rfl | trivial⟩)⟩
        case measure => simp [intOf]
      · go_wp2
        go_ret
        exact ⟨rfl, rfl⟩
    · clear h0 h2 h3
      cases t1
      · go_wp2
        go_roundw
        case rel => exact ⟨by first | rfl | trivial, .inr (.inr (.inl ⟨rfl, by first | rfl | trivial, by first | rfl | trivial⟩))⟩
        case measure => simp [intOf]
      · go_wp2
        go_ret
        exact ⟨rfl, rfl⟩
    · clear h0 h1 h3
      cases t2
      · go_wp2
        go_roundw
        case rel => exact ⟨by first | rfl | trivial, .inr (.inr (.inr (.inl ⟨rfl, by first | rfl | trivial, by first | rfl | trivial, by first | rfl | trivial⟩)))⟩
        case measure => simp [intOf]
      · go_wp2
        go_ret
        exact ⟨rfl, rfl⟩
    · clear h0 h1 h2
      cases t3
      · go_wp2
        go_roundw
        case rel => exact ⟨by first | rfl | trivial, .inr (.inr (.inr (.inr ⟨rfl, by first | rfl | trivial, by first | rfl | trivial, by first | rfl | trivial, by first | rfl | trivial⟩)))⟩
        case measure => simp [intOf]
      · go_wp2
        go_ret
        exact ⟨rfl, rfl⟩
    · clear h0 h1 h2 h3
      go_wp2
      go_ret
      exact ⟨rfl, rfl⟩
theorem same_is (n p : ByteArray) : (n.toList == p.toList) = decide (p.data.toList = n.data.toList) := by
  rw [Lib.toList_data, Lib.toList_data]
  by_cases h : p.data.toList = n.data.toList
  · rw [h]; simp
  · rw [decide_eq_false h]
    simp only [beq_eq_false_iff_ne, ne_eq]
    exact fun e => h e.symm
theorem kindof (p : ByteArray) (w : World) (L : Lw w) : Calls Tryz.prog 56 #[.string p] w fun e w' => e = .returned (.int .i64 (kd p.data.toList)) ∧ w' = w := by
  obtain ⟨c0, c1, c2, c3⟩ := L.cell
  have c := kindof_of p _ _ _ _ w c0 c1 c2 c3 _ _ _ _ (same_is _ _) (same_is _ _) (same_is _ _) (same_is _ _)
  refine c.mono ?_
  rintro e w' ⟨rfl, rfl⟩
  refine ⟨?_, rfl⟩
  congr 2
  unfold kd
  simp only [decide_eq_true_eq]
  by_cases h : p.data.toList = []
  · rw [h]; rfl
  · rw [if_neg (by simpa using h)]
theorem numberof (p : ByteArray) (hp : p.size ≤ 140737488355328) (w : World) (L : Lw w) : Calls Tryz.prog 57 #[.string p] w fun e w' => e = .returned (.int .i64 (nb p.data.toList)) ∧ Below w.heap.size w w' := by
  obtain ⟨_, ⟨t1, p1, v1⟩, ⟨t2, p2, v2⟩, _⟩ := L
  cases h : Lib.atoiAll p.data.toList with
  | ok v =>
    have e : nb p.data.toList = v := by unfold nb; rw [h]
    rw [e]
    go_enter Tryz.func57, Tryz.ntmps57
    go_wp2_with (go_at_call 69; refine (Tryz.strconv_Atoi_ok p (by omega) v h w).mono ?_; rintro e w' ⟨rfl, hw⟩)
    go_ret
    refine ⟨rfl, ?_⟩
    rcases hw with rfl | ⟨t, rfl⟩
    · exact Below.refl _ _
    · exact Lib.bytesWorld_below _ _ _
  | «syntax» =>
    have e : nb p.data.toList = 0 := by unfold nb; rw [h]
    rw [e]
    go_enter Tryz.func57, Tryz.ntmps57
    go_wp2_with (go_at_call 69; refine (Tryz.strconv_Atoi_syntax_var p (by omega) h t2 p2 w v2).mono ?_; rintro e w' ⟨M, rfl, _, _, hb⟩)
    go_ret
    exact ⟨rfl, hb⟩
  | range =>
    have e : nb p.data.toList = Lib.atoiSat p.data.toList := by unfold nb; rw [h]
    rw [e]
    go_enter Tryz.func57, Tryz.ntmps57
    go_wp2_with (go_at_call 69; refine (Tryz.strconv_Atoi_range_var p (by omega) h t1 p1 w v1).mono ?_; rintro e w' ⟨M, rfl, _, _, hb⟩)
    go_ret
    exact ⟨rfl, hb⟩
end Go.Proofs.YtjageagnclmnjabGreatDoor.D
