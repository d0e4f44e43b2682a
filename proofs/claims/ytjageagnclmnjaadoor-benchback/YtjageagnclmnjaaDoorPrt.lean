/- PROVED: what bench.Print answers. CONDITIONS: none beyond each theorem's own. -/
import Derived.Test.YtjageagnclmnjaaDoorLw
import Derived.Test.YtjageagnclmnjaaDoorTx
import Derived.Test.YtjageagnclmnjaaDoorDOwn
import Derived.Test.YtjageagnclmnjaaDoorShelf
import Derived.Deep.RegionHeld3
import Derived.Lib.Join
namespace Go.Proofs.YtjageagnclmnjaaDoor.D
open Go.RowKit K
set_option linter.unusedVariables false

theorem print_no (r : Ru) (E : Int) (h : wrong r = E) (he : (E != 0) = true) (w : World) :
    Calls Tryd.prog 5 #[.agg #[.int .i64 r.k0, .int .i64 r.k1, .int .i64 r.r, .int .i64 r.m, .int .i64 r.j]] w fun e w' => e = .returned (.tuple #[.string ⟨#[]⟩, .int .i64 E]) ∧ Below w.heap.size w w' := by
  have p := fun v => wrong_is r E h v
  obtain ⟨k0, k1, rr, m, j⟩ := r
  have B : Below w.heap.size w (w.alloc (.cells #[.int .i64 k0, .int .i64 k1, .int .i64 rr, .int .i64 m, .int .i64 j] 24)) := balloc (Below.refl _ _) _
  obtain ⟨x0, x1, x2, x3, x4, -, -, -, -, -⟩ := Rul.new w _ rfl k0 k1 rr m j
  go_enter Tryd.func5, Tryd.ntmps5
  go_wp2_with (go_at_call 10; refine (p _).mono ?_; clear p; rintro x v ⟨rfl, b⟩; replace B := bthen B b)
  refine bodyPost_ret (v := .tuple #[.string ⟨#[]⟩, .int .i64 E]) (by simp [results, Tryd.results5, go_sem]) rfl ⟨rfl, B⟩
/-- the five words, one behind the other -/
theorem join5 (a b c d e : List UInt8) : Lib.join [a, b, c, d, e] [32] = a ++ 32 :: b ++ 32 :: c ++ 32 :: d ++ 32 :: e := by
  simp [Lib.join, List.intercalate]

theorem dig_short : ∀ n, n < 100 → (Lib.decDigits n).length ≤ 2 := by decide +kernel
theorem five_cells {w : World} {K : Nat} {x0 x1 x2 x3 x4 : ByteArray} (h : K = w.heap.size) : ∀ (j : Nat) x, [x0, x1, x2, x3, x4][j]? = some x → ((w.alloc (.cells #[.string x0, .string x1, .string x2, .string x3, .string x4] 9)).drew).cell? ⟨K, 0 + j, none⟩ = some (.string x) := by
  intro j x hx
  subst h
  show (w.alloc _).cell? _ = _
  rw [World.cell?_alloc_at _ _ _ _ rfl]
  match j, hx with
  | 0, hx => simpa using hx
  | 1, hx => simpa using hx
  | 2, hx => simpa using hx
  | 3, hx => simpa using hx
  | 4, hx => simpa using hx
  | n + 5, hx => simp at hx
theorem join_five {w : World} {x0 x1 x2 x3 x4 : ByteArray} (hl : x0.data.toList.length + x1.data.toList.length + x2.data.toList.length + x3.data.toList.length + x4.data.toList.length ≤ 1000) :
    Calls Tryd.prog 12 #[.slice (some ⟨w.heap.size, 0, none⟩) 5 5, .string ⟨#[32]⟩] ((w.alloc (.cells #[.string x0, .string x1, .string x2, .string x3, .string x4] 9)).drew) fun e w' =>
      e = .returned (.string ⟨(x0.data.toList ++ 32 :: x1.data.toList ++ 32 :: x2.data.toList ++ 32 :: x3.data.toList ++ 32 :: x4.data.toList).toArray⟩) ∧ Below ((w.alloc (.cells #[.string x0, .string x1, .string x2, .string x3, .string x4] 9)).drew).heap.size ((w.alloc (.cells #[.string x0, .string x1, .string x2, .string x3, .string x4] 9)).drew) w' := by
  have c := Tryd.strings_Join w.heap.size 0 5 [x0, x1, x2, x3, x4] ⟨#[32]⟩ ((w.alloc (.cells #[.string x0, .string x1, .string x2, .string x3, .string x4] 9)).drew) (five_cells rfl) (by simp) (by simp) (by simp) (by
    show (Lib.join [_, _, _, _, _] [32]).length ≤ _
    rw [join5]
    simp only [List.length_append, List.length_cons]
    omega)
  rw [← join5]
  exact c

set_option maxRecDepth 100000 in
set_option maxHeartbeats 3200000 in
theorem print_of (i j a b c : Nat) (hi : i < 4) (hj : j < 4) (ha : a < 100) (hb : b < 100) (hc : c < 100) (n0 n1 : ByteArray) (hn : n0.size ≤ 10 ∧ n1.size ≤ 10) (w : World)
    (q0 : w.cell? ⟨0, i, none⟩ = some (.string n0)) (q1 : w.cell? ⟨0, j, none⟩ = some (.string n1))
    (p : ∀ v, Calls Tryd.prog 10 #[.agg #[.int .i64 i, .int .i64 j, .int .i64 a, .int .i64 b, .int .i64 c]] v fun x w' => x = .returned (.int .i64 0) ∧ Below v.heap.size v w') :
    Calls Tryd.prog 5 #[.agg #[.int .i64 i, .int .i64 j, .int .i64 a, .int .i64 b, .int .i64 c]] w fun e w' =>
      e = .returned (.tuple #[.string ⟨(n0.data.toList ++ 32 :: n1.data.toList ++ 32 :: Lib.decDigits a ++ 32 :: Lib.decDigits b ++ 32 :: Lib.decDigits c).toArray⟩, .int .i64 0]) ∧ Below w.heap.size w w' := by
  have X := Rul.new w _ rfl i j a b c
  have B : Below w.heap.size w (w.alloc (.cells #[.int .i64 i, .int .i64 j, .int .i64 a, .int .i64 b, .int .i64 c] 24)) := balloc (Below.refl _ _) _
  replace q0 := (B.cell (p := ⟨0, i, none⟩) (block_lt q0)).trans q0
  replace q1 := (B.cell (p := ⟨0, j, none⟩) (block_lt q1)).trans q1
  have hi' : (i : Int) < 4 := by omega
  have hj' : (j : Int) < 4 := by omega
  go_enter Tryd.func5, Tryd.ntmps5
  go_wp2_with (go_at_call 10; refine (p _).mono ?_; clear p; rintro x v ⟨rfl, b'⟩; replace X := X.kept b'; replace q0 := (b'.cell (p := ⟨0, i, none⟩) (block_lt q0)).trans q0; replace q1 := (b'.cell (p := ⟨0, j, none⟩) (block_lt q1)).trans q1; replace B := bthen B b'; clear b'; obtain ⟨x0, x1, x2, x3, x4, -, -, -, -, -⟩ := id X; clear X)
  go_region_held3 (fun w' => w'.cell? ⟨w.heap.size, 0, none⟩ = some (.int .i64 i) ∧ w'.cell? ⟨w.heap.size, 1, none⟩ = some (.int .i64 j) ∧ w'.cell? ⟨w.heap.size, 2, none⟩ = some (.int .i64 a) ∧ w'.cell? ⟨w.heap.size, 3, none⟩ = some (.int .i64 b) ∧ w'.cell? ⟨w.heap.size, 4, none⟩ = some (.int .i64 c) ∧ w'.cell? ⟨0, i, none⟩ = some (.string n0) ∧ w'.cell? ⟨0, j, none⟩ = some (.string n1))
    (go_keep)
    (first
    | (go_at_call 11; refine (Tryd.strconv_Itoa_small a ha _).mono ?_; rintro x v1 ⟨rfl, rfl⟩)
    | (go_at_call 11; refine (Tryd.strconv_Itoa_small b hb _).mono ?_; rintro x v1 ⟨rfl, rfl⟩)
    | (go_at_call 11; refine (Tryd.strconv_Itoa_small c hc _).mono ?_; rintro x v1 ⟨rfl, rfl⟩))
  have B2 : Below w.heap.size w ((v.alloc (.cells #[.string n0, .string n1, .string ⟨(Lib.decDigits a).toArray⟩, .string ⟨(Lib.decDigits b).toArray⟩, .string ⟨(Lib.decDigits c).toArray⟩] 9)).drew) := below_drewN (balloc B _) 1
  have hlen : n0.data.toList.length + n1.data.toList.length + (ByteArray.mk (Lib.decDigits a).toArray).data.toList.length + (ByteArray.mk (Lib.decDigits b).toArray).data.toList.length + (ByteArray.mk (Lib.decDigits c).toArray).data.toList.length ≤ 1000 := by
    have h1 := dig_short a ha
    have h2 := dig_short b hb
    have h3 := dig_short c hc
    have h4 : n0.data.toList.length ≤ 10 := hn.1
    have h5 : n1.data.toList.length ≤ 10 := hn.2
    show n0.data.toList.length + n1.data.toList.length + (Lib.decDigits a).length + (Lib.decDigits b).length + (Lib.decDigits c).length ≤ 1000
    omega
  go_wp2_with (go_at_call 12; refine (join_five (w := v) (x0 := n0) (x1 := n1) (x2 := ⟨(Lib.decDigits a).toArray⟩) (x3 := ⟨(Lib.decDigits b).toArray⟩) (x4 := ⟨(Lib.decDigits c).toArray⟩) hlen).mono ?_; rintro e w' ⟨rfl, b'⟩; replace B2 := bthen B2 b'; clear b')
  refine bodyPost_ret (v := .tuple #[.string ⟨(n0.data.toList ++ 32 :: n1.data.toList ++ 32 :: Lib.decDigits a ++ 32 :: Lib.decDigits b ++ 32 :: Lib.decDigits c).toArray⟩, .int .i64 0]) (by simp [results, Tryd.results5, go_sem]) rfl ⟨rfl, B2⟩

theorem right_of {r : Ru} (h : wrong r = 0) : kinds r ∧ ranges r := by
  unfold wrong at h
  split at h
  · rename_i hk
    split at h
    · rename_i hr; exact ⟨hk, hr⟩
    · simp at h
  · simp at h
theorem wrong_right {r : Ru} (h : kinds r ∧ ranges r) : wrong r = 0 := by
  unfold wrong
  rw [if_pos h.1, if_pos h.2]
/-- a kind's name, as it lies -/
theorem name_cell {w : World} (L : Lw w) {i : Nat} (h : 1 ≤ i ∧ i ≤ 3) : ∃ n : ByteArray, w.cell? ⟨0, i, none⟩ = some (.string n) ∧ n.size ≤ 10 ∧ n.data.toList = nme i := by
  obtain ⟨_, c1, c2, c3⟩ := L.cell
  rcases (show i = 1 ∨ i = 2 ∨ i = 3 by omega) with rfl | rfl | rfl
  · exact ⟨_, c1, by decide, rfl⟩
  · exact ⟨_, c2, by decide, rfl⟩
  · exact ⟨_, c3, by decide, rfl⟩
theorem print_yes (r : Ru) (h : wrong r = 0) (w : World) (L : Lw w) :
    Calls Tryd.prog 5 #[.agg #[.int .i64 r.k0, .int .i64 r.k1, .int .i64 r.r, .int .i64 r.m, .int .i64 r.j]] w fun e w' => e = .returned (.tuple #[.string ⟨(tx r).toArray⟩, .int .i64 0]) ∧ Below w.heap.size w w' := by
  have p := fun v => wrong_is r 0 h v
  have hr := right_of h
  unfold kinds ranges at hr
  obtain ⟨k0, k1, rr, m, j⟩ := r
  simp only at hr
  obtain ⟨i, rfl⟩ : ∃ i : Nat, k0 = i := ⟨k0.toNat, by omega⟩
  obtain ⟨i1, rfl⟩ : ∃ i : Nat, k1 = i := ⟨k1.toNat, by omega⟩
  obtain ⟨a, rfl⟩ : ∃ i : Nat, rr = i := ⟨rr.toNat, by omega⟩
  obtain ⟨b, rfl⟩ : ∃ i : Nat, m = i := ⟨m.toNat, by omega⟩
  obtain ⟨c, rfl⟩ : ∃ i : Nat, j = i := ⟨j.toNat, by omega⟩
  obtain ⟨n0, q0, s0, e0⟩ := name_cell L (i := i) (by omega)
  obtain ⟨n1, q1, s1, e1⟩ := name_cell L (i := i1) (by omega)
  have z := print_of i i1 a b c (by omega) (by omega) (by omega) (by omega) (by omega) n0 n1 ⟨s0, s1⟩ w q0 q1 p
  rw [e0, e1] at z
  exact z
end Go.Proofs.YtjageagnclmnjaaDoor.D
