/- PROVED: what bench.Print answers. what bench.kindOf and bench.numberOf answer. what strings.SplitN answers at a blank, at most six parts, for every text that there can be. CONDITIONS: none beyond each theorem's own. -/
import Derived.Test.YtjageagnclmnjaaGreatDoorX00KNums
import Derived.Test.YtjageagnclmnjaaGreatDoorX01Tx
import Derived.Test.YtjageagnclmnjaaGreatDoorX03DOwn
import Derived.Test.YtjageagnclmnjaaGreatDoorX04Shelf
import Derived.Deep.RegionHeld3
import Derived.Lib.Join
import Derived.Deep.OwnRows
import Derived.Laws.Strings3
import Derived.Lib.Walk
import Derived.Lib.SplitLaws
namespace Go.Proofs.YtjageagnclmnjaaGreatDoor.D
set_option maxRecDepth 100000
open Go.RowKit K
set_option linter.unusedVariables false

theorem print_no (r : Ru) (E : Int) (h : wrong r = E) (he : (E != 0) = true) (w : World) :
    Calls Tryz.prog 23 #[.agg #[.int .i64 r.k0, .int .i64 r.k1, .int .i64 r.r, .int .i64 r.m, .int .i64 r.j]] w fun e w' => e = .returned (.tuple #[.string ⟨#[]⟩, .int .i64 E]) ∧ Below w.heap.size w w' := by
  have p := fun v => wrong_is r E h v
  obtain ⟨k0, k1, rr, m, j⟩ := r
  have B : Below w.heap.size w (w.alloc (.cells #[.int .i64 k0, .int .i64 k1, .int .i64 rr, .int .i64 m, .int .i64 j] 33)) := balloc (Below.refl _ _) _
  obtain ⟨x0, x1, x2, x3, x4, -, -, -, -, -⟩ := Rul.new w _ rfl k0 k1 rr m j
  go_enter Tryz.func23, Tryz.ntmps23
  go_wp2_with (go_at_call 47; refine (p _).mono ?_; clear p; rintro x v ⟨rfl, b⟩; replace B := bthen B b)
  refine bodyPost_ret (v := .tuple #[.string ⟨#[]⟩, .int .i64 E]) (by simp [results, Tryz.results23, go_sem]) rfl ⟨rfl, B⟩
/-- the five words, one behind the other -/
theorem join5 (a b c d e : List UInt8) : Lib.join [a, b, c, d, e] [32] = a ++ 32 :: b ++ 32 :: c ++ 32 :: d ++ 32 :: e := by
  simp [Lib.join, List.intercalate]

theorem dig_short : ∀ n, n < 100 → (Lib.decDigits n).length ≤ 2 := by decide +kernel
theorem five_cells {w : World} {K : Nat} {x0 x1 x2 x3 x4 : ByteArray} (h : K = w.heap.size) : ∀ (j : Nat) x, [x0, x1, x2, x3, x4][j]? = some x → ((w.alloc (.cells #[.string x0, .string x1, .string x2, .string x3, .string x4] 9)).drew).cell? ⟨K, 0 + j, none⟩ = some (.string x) := by
  intro j x hx
  subst h
  show (w.alloc _).cell? _ = _
  rw [World.cell?_alloc_at _ _ _ _ rfl]
  match j, hx with
  | 0, hx => simpa using hx
  | 1, hx => simpa using hx
  | 2, hx => simpa using hx
  | 3, hx => simpa using hx
  | 4, hx => simpa using hx
  | n + 5, hx => simp at hx
theorem join_five {w : World} {x0 x1 x2 x3 x4 : ByteArray} (hl : x0.data.toList.length + x1.data.toList.length + x2.data.toList.length + x3.data.toList.length + x4.data.toList.length ≤ 1000) :
    Calls Tryz.prog 48 #[.slice (some ⟨w.heap.size, 0, none⟩) 5 5, .string ⟨#[32]⟩] ((w.alloc (.cells #[.string x0, .string x1, .string x2, .string x3, .string x4] 9)).drew) fun e w' =>
      e = .returned (.string ⟨(x0.data.toList ++ 32 :: x1.data.toList ++ 32 :: x2.data.toList ++ 32 :: x3.data.toList ++ 32 :: x4.data.toList).toArray⟩) ∧ Below ((w.alloc (.cells #[.string x0, .string x1, .string x2, .string x3, .string x4] 9)).drew).heap.size ((w.alloc (.cells #[.string x0, .string x1, .string x2, .string x3, .string x4] 9)).drew) w' := by
  have c := Tryz.strings_Join w.heap.size 0 5 [x0, x1, x2, x3, x4] ⟨#[32]⟩ ((w.alloc (.cells #[.string x0, .string x1, .string x2, .string x3, .string x4] 9)).drew) (five_cells rfl) (by simp) (by simp) (by simp) (by
    show (Lib.join [_, _, _, _, _] [32]).length ≤ _
    rw [join5]
    simp only [List.length_append, List.length_cons]
    omega)
  rw [← join5]
  exact c

set_option maxRecDepth 100000 in
set_option maxHeartbeats 3200000 in
theorem print_of (i j a b c : Nat) (hi : i < 4) (hj : j < 4) (ha : a < 100) (hb : b < 100) (hc : c < 100) (n0 n1 : ByteArray) (hn : n0.size ≤ 10 ∧ n1.size ≤ 10) (w : World)
    (q0 : w.cell? ⟨0, i, none⟩ = some (.string n0)) (q1 : w.cell? ⟨0, j, none⟩ = some (.string n1))
    (p : ∀ v, Calls Tryz.prog 47 #[.agg #[.int .i64 i, .int .i64 j, .int .i64 a, .int .i64 b, .int .i64 c]] v fun x w' => x = .returned (.int .i64 0) ∧ Below v.heap.size v w') :
    Calls Tryz.prog 23 #[.agg #[.int .i64 i, .int .i64 j, .int .i64 a, .int .i64 b, .int .i64 c]] w fun e w' =>
      e = .returned (.tuple #[.string ⟨(n0.data.toList ++ 32 :: n1.data.toList ++ 32 :: Lib.decDigits a ++ 32 :: Lib.decDigits b ++ 32 :: Lib.decDigits c).toArray⟩, .int .i64 0]) ∧ Below w.heap.size w w' := by
  have X := Rul.new w _ rfl i j a b c
  have B : Below w.heap.size w (w.alloc (.cells #[.int .i64 i, .int .i64 j, .int .i64 a, .int .i64 b, .int .i64 c] 33)) := balloc (Below.refl _ _) _
  replace q0 := (B.cell (p := ⟨0, i, none⟩) (block_lt q0)).trans q0
  replace q1 := (B.cell (p := ⟨0, j, none⟩) (block_lt q1)).trans q1
  have hi' : (i : Int) < 4 := by omega
  have hj' : (j : Int) < 4 := by omega
  go_enter Tryz.func23, Tryz.ntmps23
  go_wp2_with (go_at_call 47; refine (p _).mono ?_; clear p; rintro x v ⟨rfl, b'⟩; replace X := X.kept b'; replace q0 := (b'.cell (p := ⟨0, i, none⟩) (block_lt q0)).trans q0; replace q1 := (b'.cell (p := ⟨0, j, none⟩) (block_lt q1)).trans q1; replace B := bthen B b'; clear b'; obtain ⟨x0, x1, x2, x3, x4, -, -, -, -, -⟩ := id X; clear X)
  go_region_held3 (fun w' => w'.cell? ⟨w.heap.size, 0, none⟩ = some (.int .i64 i) ∧ w'.cell? ⟨w.heap.size, 1, none⟩ = some (.int .i64 j) ∧ w'.cell? ⟨w.heap.size, 2, none⟩ = some (.int .i64 a) ∧ w'.cell? ⟨w.heap.size, 3, none⟩ = some (.int .i64 b) ∧ w'.cell? ⟨w.heap.size, 4, none⟩ = some (.int .i64 c) ∧ w'.cell? ⟨0, i, none⟩ = some (.string n0) ∧ w'.cell? ⟨0, j, none⟩ = some (.string n1))
    (go_keep)
    (first
    | (go_at_call 22; refine (Tryz.strconv_Itoa_small a ha _).mono ?_; rintro x v1 ⟨rfl, rfl⟩)
    | (go_at_call 22; refine (Tryz.strconv_Itoa_small b hb _).mono ?_; rintro x v1 ⟨rfl, rfl⟩)
    | (go_at_call 22; refine (Tryz.strconv_Itoa_small c hc _).mono ?_; rintro x v1 ⟨rfl, rfl⟩))
  have B2 : Below w.heap.size w ((v.alloc (.cells #[.string n0, .string n1, .string ⟨(Lib.decDigits a).toArray⟩, .string ⟨(Lib.decDigits b).toArray⟩, .string ⟨(Lib.decDigits c).toArray⟩] 9)).drew) := below_drewN (balloc B _) 1
  have hlen : n0.data.toList.length + n1.data.toList.length + (ByteArray.mk (Lib.decDigits a).toArray).data.toList.length + (ByteArray.mk (Lib.decDigits b).toArray).data.toList.length + (ByteArray.mk (Lib.decDigits c).toArray).data.toList.length ≤ 1000 := by
    have h1 := dig_short a ha
    have h2 := dig_short b hb
    have h3 := dig_short c hc
    have h4 : n0.data.toList.length ≤ 10 := hn.1
    have h5 : n1.data.toList.length ≤ 10 := hn.2
    show n0.data.toList.length + n1.data.toList.length + (Lib.decDigits a).length + (Lib.decDigits b).length + (Lib.decDigits c).length ≤ 1000
    omega
  go_wp2_with (go_at_call 48; refine (join_five (w := v) (x0 := n0) (x1 := n1) (x2 := ⟨(Lib.decDigits a).toArray⟩) (x3 := ⟨(Lib.decDigits b).toArray⟩) (x4 := ⟨(Lib.decDigits c).toArray⟩) hlen).mono ?_; rintro e w' ⟨rfl, b'⟩; replace B2 := bthen B2 b'; clear b')
  refine bodyPost_ret (v := .tuple #[.string ⟨(n0.data.toList ++ 32 :: n1.data.toList ++ 32 :: Lib.decDigits a ++ 32 :: Lib.decDigits b ++ 32 :: Lib.decDigits c).toArray⟩, .int .i64 0]) (by simp [results, Tryz.results23, go_sem]) rfl ⟨rfl, B2⟩

theorem rgt_of {r : Ru} (h : wrong r = 0) : kinds r ∧ ranges r := by
  unfold wrong at h
  split at h
  · rename_i hk
    split at h
    · rename_i hr; exact ⟨hk, hr⟩
    · simp at h
  · simp at h
/-- a kind's name, as it lies -/
theorem name_cell {w : World} (L : Lw w) {i : Nat} (h : 1 ≤ i ∧ i ≤ 3) : ∃ n : ByteArray, w.cell? ⟨0, i, none⟩ = some (.string n) ∧ n.size ≤ 10 ∧ n.data.toList = nme i := by
  obtain ⟨_, c1, c2, c3⟩ := L.cell
  rcases (show i = 1 ∨ i = 2 ∨ i = 3 by omega) with rfl | rfl | rfl
  · exact ⟨_, c1, by decide, rfl⟩
  · exact ⟨_, c2, by decide, rfl⟩
  · exact ⟨_, c3, by decide, rfl⟩
theorem print_yes (r : Ru) (h : wrong r = 0) (w : World) (L : Lw w) :
    Calls Tryz.prog 23 #[.agg #[.int .i64 r.k0, .int .i64 r.k1, .int .i64 r.r, .int .i64 r.m, .int .i64 r.j]] w fun e w' => e = .returned (.tuple #[.string ⟨(tx r).toArray⟩, .int .i64 0]) ∧ Below w.heap.size w w' := by
  have p := fun v => wrong_is r 0 h v
  have hr := rgt_of h
  unfold kinds ranges at hr
  obtain ⟨k0, k1, rr, m, j⟩ := r
  simp only at hr
  obtain ⟨i, rfl⟩ : ∃ i : Nat, k0 = i := ⟨k0.toNat, by omega⟩
  obtain ⟨i1, rfl⟩ : ∃ i : Nat, k1 = i := ⟨k1.toNat, by omega⟩
  obtain ⟨a, rfl⟩ : ∃ i : Nat, rr = i := ⟨rr.toNat, by omega⟩
  obtain ⟨b, rfl⟩ : ∃ i : Nat, m = i := ⟨m.toNat, by omega⟩
  obtain ⟨c, rfl⟩ : ∃ i : Nat, j = i := ⟨j.toNat, by omega⟩
  obtain ⟨n0, q0, s0, e0⟩ := name_cell L (i := i) (by omega)
  obtain ⟨n1, q1, s1, e1⟩ := name_cell L (i := i1) (by omega)
  have z := print_of i i1 a b c (by omega) (by omega) (by omega) (by omega) (by omega) n0 n1 ⟨s0, s1⟩ w q0 q1 p
  rw [e0, e1] at z
  exact z
end Go.Proofs.YtjageagnclmnjaaGreatDoor.D

namespace Go.Proofs.YtjageagnclmnjaaGreatDoor.D
set_option maxRecDepth 100000
open Go.RowKit
set_option linter.unusedVariables false

theorem nx0 (a b c d : ByteArray) (w : World) : (Instr.index 109 (.agg #[.string a, .string b, .string c, .string d]) (.int .i64 0)).run Tryz.prog w = .ok (.string a) w := by kernel_rfl
theorem nx1 (a b c d : ByteArray) (w : World) : (Instr.index 109 (.agg #[.string a, .string b, .string c, .string d]) (.int .i64 1)).run Tryz.prog w = .ok (.string b) w := by kernel_rfl
theorem nx2 (a b c d : ByteArray) (w : World) : (Instr.index 109 (.agg #[.string a, .string b, .string c, .string d]) (.int .i64 2)).run Tryz.prog w = .ok (.string c) w := by kernel_rfl
theorem nx3 (a b c d : ByteArray) (w : World) : (Instr.index 109 (.agg #[.string a, .string b, .string c, .string d]) (.int .i64 3)).run Tryz.prog w = .ok (.string d) w := by kernel_rfl
attribute [local go_sem] nx0 nx1 nx2 nx3
set_option maxRecDepth 100000 in
set_option maxHeartbeats 1600000 in
theorem kindof_of (p n0 n1 n2 n3 : ByteArray) (w : World) (c0 : w.cell? ⟨0, 0, none⟩ = some (.string n0)) (c1 : w.cell? ⟨0, 1, none⟩ = some (.string n1)) (c2 : w.cell? ⟨0, 2, none⟩ = some (.string n2)) (c3 : w.cell? ⟨0, 3, none⟩ = some (.string n3))
    (t0 t1 t2 t3 : Bool) (h0 : (n0.toList == p.toList) = t0) (h1 : (n1.toList == p.toList) = t1) (h2 : (n2.toList == p.toList) = t2) (h3 : (n3.toList == p.toList) = t3) :
    Calls Tryz.prog 29 #[.string p] w fun e w' => e = .returned (.int .i64 (if t0 then 0 else if t1 then 1 else if t2 then 2 else if t3 then 3 else 0)) ∧ w' = w := by
  go_enter Tryz.func29, Tryz.ntmps29
  go_wp2
  go_loopw [6] (fun i wr => wr = w ∧ (i = .int .i64 0 ∨ i = .int .i64 1 ∧ t0 = false ∨ i = .int .i64 2 ∧ t0 = false ∧ t1 = false ∨ i = .int .i64 3 ∧ t0 = false ∧ t1 = false ∧ t2 = false ∨ i = .int .i64 4 ∧ t0 = false ∧ t1 = false ∧ t2 = false ∧ t3 = false)) (fun i _ => 4 - (intOf i).toNat)
  case atStart => exact ⟨rfl, .inl rfl⟩
  case round =>
    obtain ⟨rfl, rfl | ⟨rfl, rfl⟩ | ⟨rfl, rfl, rfl⟩ | ⟨rfl, rfl, rfl, rfl⟩ | ⟨rfl, rfl, rfl, rfl, rfl⟩⟩ := hrel
    · clear h1 h2 h3
      cases t0
      · go_wp2
        go_roundw
        case rel => exact ⟨by first | rfl | trivial, .inr (.inl ⟨rfl, by first | rfl | trivial⟩)⟩
        case measure => simp [intOf]
      · go_wp2
        go_ret
        exact ⟨rfl, rfl⟩
    · clear h0 h2 h3
      cases t1
      · go_wp2
        go_roundw
        case rel => exact ⟨by first | rfl | trivial, .inr (.inr (.inl ⟨rfl, by first | rfl | trivial, by first | rfl | trivial⟩))⟩
        case measure => simp [intOf]
      · go_wp2
        go_ret
        exact ⟨rfl, rfl⟩
    · clear h0 h1 h3
      cases t2
      · go_wp2
        go_roundw
        case rel => exact ⟨by first | rfl | trivial, .inr (.inr (.inr (.inl ⟨rfl, by first | rfl | trivial, by first | rfl | trivial, by first | rfl | trivial⟩)))⟩
        case measure => simp [intOf]
      · go_wp2
        go_ret
        exact ⟨rfl, rfl⟩
    · clear h0 h1 h2
      cases t3
      · go_wp2
        go_roundw
        case rel => exact ⟨by first | rfl | trivial, .inr (.inr (.inr (.inr ⟨rfl, by first | rfl | trivial, by first | rfl | trivial, by first | rfl | trivial, by first | rfl | trivial⟩)))⟩
        case measure => simp [intOf]
      · go_wp2
        go_ret
        exact ⟨rfl, rfl⟩
    · clear h0 h1 h2 h3
      go_wp2
      go_ret
      exact ⟨rfl, rfl⟩
theorem same_is (n p : ByteArray) : (n.toList == p.toList) = decide (p.data.toList = n.data.toList) := by
  rw [Lib.toList_data, Lib.toList_data]
  by_cases h : p.data.toList = n.data.toList
  · rw [h]; simp
  · rw [decide_eq_false h]
    simp only [beq_eq_false_iff_ne, ne_eq]
    exact fun e => h e.symm
theorem kindof (p : ByteArray) (w : World) (L : Lw w) : Calls Tryz.prog 29 #[.string p] w fun e w' => e = .returned (.int .i64 (kd p.data.toList)) ∧ w' = w := by
  obtain ⟨c0, c1, c2, c3⟩ := L.cell
  have c := kindof_of p _ _ _ _ w c0 c1 c2 c3 _ _ _ _ (same_is _ _) (same_is _ _) (same_is _ _) (same_is _ _)
  refine c.mono ?_
  rintro e w' ⟨rfl, rfl⟩
  refine ⟨?_, rfl⟩
  congr 2
  unfold kd
  simp only [decide_eq_true_eq]
  by_cases h : p.data.toList = []
  · rw [h]; rfl
  · rw [if_neg (by simpa using h)]
theorem numberof (p : ByteArray) (hp : p.size ≤ 140737488355328) (w : World) (L : Lw w) : Calls Tryz.prog 30 #[.string p] w fun e w' => e = .returned (.int .i64 (nb p.data.toList)) ∧ Below w.heap.size w w' := by
  obtain ⟨_, ⟨t1, p1, v1⟩, ⟨t2, p2, v2⟩, _⟩ := L
  cases h : Lib.atoiAll p.data.toList with
  | ok v =>
    have e : nb p.data.toList = v := by unfold nb; rw [h]
    rw [e]
    go_enter Tryz.func30, Tryz.ntmps30
    go_wp2_with (go_at_call 52; refine (Tryz.strconv_Atoi_ok p (by omega) v h w).mono ?_; rintro e w' ⟨rfl, hw⟩)
    go_ret
    refine ⟨rfl, ?_⟩
    rcases hw with rfl | ⟨t, rfl⟩
    · exact Below.refl _ _
    · exact Lib.bytesWorld_below _ _ _
  | «syntax» =>
    have e : nb p.data.toList = 0 := by unfold nb; rw [h]
    rw [e]
    go_enter Tryz.func30, Tryz.ntmps30
    go_wp2_with (go_at_call 52; refine (Tryz.strconv_Atoi_syntax_var p (by omega) h t2 p2 w v2).mono ?_; rintro e w' ⟨M, rfl, _, _, hb⟩)
    go_ret
    exact ⟨rfl, hb⟩
  | range =>
    have e : nb p.data.toList = Lib.atoiSat p.data.toList := by unfold nb; rw [h]
    rw [e]
    go_enter Tryz.func30, Tryz.ntmps30
    go_wp2_with (go_at_call 52; refine (Tryz.strconv_Atoi_range_var p (by omega) h t1 p1 w v1).mono ?_; rintro e w' ⟨M, rfl, _, _, hb⟩)
    go_ret
    exact ⟨rfl, hb⟩
end Go.Proofs.YtjageagnclmnjaaGreatDoor.D

namespace Go.Proofs.YtjageagnclmnjaaGreatDoor.D
set_option maxRecDepth 100000
open Go.RowKit
set_option linter.unusedVariables false

abbrev bl : ByteArray := ⟨#[32]⟩
theorem index_bl (s : ByteArray) (w : World) : Calls Tryz.prog 80 #[.string s, .string bl] w fun e w' => e = .returned (.int .i64 (Lib.indexB s bl)) ∧ w' = w := by
  have e0 : Lib.indexB s bl = Lib.indexByte s.data.toList 32 := Lib.index_one _ _
  rw [e0]
  go_enter Tryz.func80, Tryz.ntmps80
  go_wp2_with (go_at_call 117; refine (Tryz.stringslite_Index_one s 32 w).mono ?_; rintro e w' ⟨rfl, rfl⟩)
  go_ret
  exact ⟨rfl, rfl⟩
theorem inf9 : (Tryz.prog.info? 9).map (fun i => (i.zero, i.size, i.bytes)) = some (some (.string ByteArray.empty), 1, 16) := by kernel_rfl

set_option maxHeartbeats 4000000 in
set_option maxRecDepth 1000000 in
theorem gensplit (s : ByteArray) (w : World) (hs : s.size ≤ 140737488355328) (N : Nat) (hN : min 6 ((s.size : Int) + 1) = (N : Int)) :
    Calls Tryz.prog 51 #[.string s, .string bl, .int .i64 0, .int .i64 6] w fun e w' =>
      e = .returned (.slice (some ⟨w.heap.size, 0, none⟩) (Lib.splitB bl 0 (N - 1) s).length N) ∧ w' = w.alloc (.cells (Lib.cellsOf (Lib.splitB bl 0 (N - 1) s) N) 9) := by
  have h1 : 1 ≤ N := by omega
  have h6 : N ≤ 6 := by omega
  have hNs : N ≤ s.size + 1 := by omega
  have hmk := run_make_row' (P := Tryz.prog) 22 9 (.string ByteArray.empty) 16 Tryz.underlying22 inf9 rfl .i64 .i64 N (by omega) (by omega)
  have hz : bl.size = 1 := rfl
  go_enter Tryz.func51, Tryz.ntmps51
  go_wp2
  clear hmk
  go_loopw [0, 10] (fun s0 s10 wr => ∃ (done : List ByteArray) (rest : ByteArray), s0 = .string rest ∧ s10 = .int .i64 done.length ∧ done.length ≤ N - 1 ∧ rest.size ≤ s.size ∧
      wr = w.alloc (.cells (Lib.cellsOf done N) 9) ∧ done ++ Lib.splitB bl 0 (N - 1 - done.length) rest = Lib.splitB bl 0 (N - 1) s) (fun _ i _ => N - 1 - (intOf i).toNat)
  case atStart => exact ⟨[], s, rfl, rfl, Nat.zero_le _, Nat.le_refl _, by rw [Lib.cellsOf_nil], rfl⟩
  case round =>
    obtain ⟨done, rest, rfl, rfl, hd, hrs, rfl, hsp⟩ := hrel
    have hnext : (Lib.cellsOf done N)[done.length]? = some (.string ByteArray.empty) := Lib.cellsOf_next (by omega)
    have HS : Hid (done ++ Lib.splitB bl 0 (N - 1 - done.length) rest = Lib.splitB bl 0 (N - 1) s) := hsp
    clear hsp
    have fin : Lib.splitB bl 0 (N - 1 - done.length) rest = [rest] → (Lib.splitB bl 0 (N - 1) s).length = done.length + 1 ∧ (Lib.cellsOf done N).setIfInBounds done.length (.string rest) = Lib.cellsOf (Lib.splitB bl 0 (N - 1) s) N := fun h => by
      have e := HS.out
      rw [h] at e
      rw [← e]
      exact ⟨by simp, Lib.cellsOf_set (by omega) rest⟩
    by_cases hlt : done.length < N - 1
    · have hltz : ((done.length : Nat) : Int) < (N : Int) - 1 := by omega
      rcases Lib.indexB_cases rest bl with hix | ⟨i, hix, hroom⟩
      · go_wp2_with (go_at_call 80; refine (index_bl rest _).mono ?_; rintro e w' ⟨rfl, rfl⟩; rw [hix])
        go_ret
        obtain ⟨f1, f2⟩ := fin (Lib.splitB_miss bl 0 _ rest hix)
        rw [f1, ← f2]
        exact ⟨by first | rfl | (congr 2 <;> omega), rfl⟩
      · rw [hz] at hroom
        have c0 : ¬ ((i : Int) < 0) := by omega
        have c1 : (0 : Int) ≤ (i : Int) := by omega
        have c2 : (i : Int) ≤ (rest.size : Int) := by omega
        have c3 : (0 : Int) ≤ (i : Int) + 1 := by omega
        have c4 : (i : Int) + 1 ≤ (rest.size : Int) := by omega
        go_wp2_with (go_at_call 80; refine (index_bl rest _).mono ?_; rintro e w' ⟨rfl, rfl⟩; rw [hix])
        go_roundw
        case rel =>
          refine ⟨done ++ [rest.extract 0 i], rest.extract (i + 1) rest.size, rfl, by simp, by simp; omega, by rw [ByteArray.size_extract]; omega, by rw [← Lib.cellsOf_set (by omega)], ?_⟩
          rw [← HS.out, show N - 1 - done.length = (N - 1 - (done.length + 1)) + 1 by omega, Lib.splitB_hit bl 0 _ rest i hix]
          simp [hz]
        case measure => simp [intOf]; omega
    · have hltz : ¬ (((done.length : Nat) : Int) < (N : Int) - 1) := by omega
      go_wp2
      go_ret
      obtain ⟨f1, f2⟩ := fin (by rw [show N - 1 - done.length = 0 by omega]; rfl)
      rw [f1, ← f2]
      exact ⟨by first | rfl | (congr 2 <;> omega), rfl⟩

theorem splitn (s : ByteArray) (w : World) (hs : s.size ≤ 140737488355328) (N : Nat) (hN : min 6 ((s.size : Int) + 1) = (N : Int)) :
    Calls Tryz.prog 28 #[.string s, .string bl, .int .i64 6] w fun e w' =>
      e = .returned (.slice (some ⟨w.heap.size, 0, none⟩) (Lib.splitB bl 0 (N - 1) s).length N) ∧ w' = w.alloc (.cells (Lib.cellsOf (Lib.splitB bl 0 (N - 1) s) N) 9) := by
  go_enter Tryz.func28, Tryz.ntmps28
  go_wp2_with (go_at_call 51; refine (gensplit s w hs N hN).mono ?_; rintro e w' ⟨rfl, hw⟩; rw [hw])
  go_ret
  exact ⟨rfl, rfl⟩
theorem wds_short (l : List UInt8) : ∀ x ∈ wds l, x.length ≤ l.length := by
  induction l with
  | nil => simp [wds]
  | cons c l ih =>
    intro x hx
    unfold wds at hx
    split at hx
    · rcases List.mem_cons.1 hx with rfl | h
      · simp
      · have := ih x h; simp; omega
    · split at hx
      · rename_i e; have := wds_ne l; rw [e] at this; simp at this
      · rename_i v vs e
        rcases List.mem_cons.1 hx with rfl | h
        · have := ih v (by rw [e]; simp); simp; omega
        · have := ih x (by rw [e]; simp [h]); simp; omega
/-- five words: the five parts, as they lie -/
theorem split_yes (s : ByteArray) (hs : s.size ≤ 140737488355328) (h5 : (wds s.data.toList).length = 5) :
    ∃ (p0 p1 p2 p3 p4 : ByteArray) (N : Nat), wds s.data.toList = [p0.data.toList, p1.data.toList, p2.data.toList, p3.data.toList, p4.data.toList] ∧ (p0.size ≤ s.size ∧ p1.size ≤ s.size ∧ p2.size ≤ s.size ∧ p3.size ≤ s.size ∧ p4.size ≤ s.size) ∧ ∀ w, Calls Tryz.prog 28 #[.string s, .string bl, .int .i64 6] w fun e w' =>
      e = .returned (.slice (some ⟨w.heap.size, 0, none⟩) 5 N) ∧ (w'.cell? ⟨w.heap.size, 0, none⟩ = some (.string p0) ∧ w'.cell? ⟨w.heap.size, 1, none⟩ = some (.string p1) ∧ w'.cell? ⟨w.heap.size, 2, none⟩ = some (.string p2) ∧ w'.cell? ⟨w.heap.size, 3, none⟩ = some (.string p3) ∧ w'.cell? ⟨w.heap.size, 4, none⟩ = some (.string p4)) ∧ Below w.heap.size w w' := by
  obtain ⟨N, hN⟩ : ∃ N : Nat, min 6 ((s.size : Int) + 1) = (N : Int) := ⟨(min 6 ((s.size : Int) + 1)).toNat, by omega⟩
  have hsz : s.size = s.data.toList.length := by rw [Array.length_toList]; rfl
  have hd := Lib.splitB_data bl 0 (N - 1) s
  have hN' : N - 1 = min 6 (s.data.toList.length + 1) - 1 := by omega
  have hw : Lib.splitK [32] 0 (N - 1) s.data.toList = wds s.data.toList := by
    rw [hN']
    rcases splitN_five s.data.toList with ⟨_, h⟩ | ⟨h, _⟩
    · exact h
    · exact absurd h5 h
  have hd' : (Lib.splitB bl 0 (N - 1) s).map (·.data.toList) = wds s.data.toList := hd.trans hw
  obtain ⟨l, hl⟩ : ∃ l, Lib.splitB bl 0 (N - 1) s = l := ⟨_, rfl⟩
  rw [hl] at hd'
  have hlen : l.length = 5 := by rw [← h5, ← hd', List.length_map]
  match l, hlen with
  | [p0, p1, p2, p3, p4], _ =>
    simp only [List.map_cons, List.map_nil] at hd'
    have hsh := wds_short s.data.toList
    rw [← hd'] at hsh
    have z : ∀ p : ByteArray, p.data.toList.length ≤ s.data.toList.length → p.size ≤ s.size := fun p h => by
      rw [hsz]
      have : p.size = p.data.toList.length := by rw [Array.length_toList]; rfl
      omega
    refine ⟨p0, p1, p2, p3, p4, N, hd'.symm, ⟨z _ (hsh _ (by simp)), z _ (hsh _ (by simp)), z _ (hsh _ (by simp)), z _ (hsh _ (by simp)), z _ (hsh _ (by simp))⟩, fun w => ?_⟩
    have c := splitn s w hs N hN
    rw [hl] at c
    refine c.mono ?_
    rintro e w' ⟨rfl, rfl⟩
    refine ⟨rfl, ?_, balloc (Below.refl _ _) _⟩
    refine ⟨?_, ?_, ?_, ?_, ?_⟩ <;> (rw [World.cell?_alloc_at _ _ _ _ rfl]; simp [Lib.cellsOf])
theorem split_no (s : ByteArray) (hs : s.size ≤ 140737488355328) (h5 : (wds s.data.toList).length ≠ 5) :
    ∃ n N : Nat, ((n : Int) != 5) = true ∧ ∀ w, Calls Tryz.prog 28 #[.string s, .string bl, .int .i64 6] w fun e w' => e = .returned (.slice (some ⟨w.heap.size, 0, none⟩) n N) ∧ Below w.heap.size w w' := by
  obtain ⟨N, hN⟩ : ∃ N : Nat, min 6 ((s.size : Int) + 1) = (N : Int) := ⟨(min 6 ((s.size : Int) + 1)).toNat, by omega⟩
  have hsz : s.size = s.data.toList.length := by rw [Array.length_toList]; rfl
  have hd := Lib.splitB_data bl 0 (N - 1) s
  have hN' : N - 1 = min 6 (s.data.toList.length + 1) - 1 := by omega
  have hw : (Lib.splitB bl 0 (N - 1) s).length ≠ 5 := by
    have := congrArg List.length hd
    rw [List.length_map] at this
    rw [this, hN']
    rcases splitN_five s.data.toList with ⟨h, _⟩ | ⟨_, h⟩
    · exact absurd h h5
    · exact h
  refine ⟨(Lib.splitB bl 0 (N - 1) s).length, N, ?_, fun w => (splitn s w hs N hN).mono ?_⟩
  · simp; omega
  · rintro e w' ⟨rfl, rfl⟩
    exact ⟨rfl, balloc (Below.refl _ _) _⟩
end Go.Proofs.YtjageagnclmnjaaGreatDoor.D
