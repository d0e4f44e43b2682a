/- PROVED: what the verifier's UPrint answers. CONDITIONS: none beyond each theorem's own. -/
import Derived.Test.YtjageagnclmnjaaDoorTx
import Derived.Test.YtjageagnclmnjaaDoorLw
import Derived.Test.YtjageagnclmnjaaDoorDWrong
import Derived.Test.YtjageagnclmnjaaDoorShelf
import Derived.Deep.RegionHeld3
namespace Go.Proofs.YtjageagnclmnjaaDoor.D
open Go.RowKit K
set_option linter.unusedVariables false

set_option maxRecDepth 100000 in
set_option maxHeartbeats 1600000 in
theorem uname_any (i : Nat) (h : 1 ≤ i ∧ i ≤ 3) (w : World) : Calls Tryd.prog 14 #[.int .i64 i] w fun e w' => e = .returned (.string ⟨(nme i).toArray⟩) ∧ Below w.heap.size w w' := by
  rcases (show i = 1 ∨ i = 2 ∨ i = 3 by omega) with rfl | rfl | rfl
  all_goals
    go_enter Tryd.func14, Tryd.ntmps14
    go_wp2
    go_ret
    exact ⟨rfl, balloc (Below.refl _ _) _⟩

set_option maxRecDepth 100000 in
theorem uprint_no (r : Ru) (E : Int) (h : wrong r = E) (he : (E != 0) = true) (w : World) :
    Calls Tryd.prog 6 #[.agg #[.int .i64 r.k0, .int .i64 r.k1, .int .i64 r.r, .int .i64 r.m, .int .i64 r.j]] w fun e w' => e = .returned (.tuple #[.string ⟨#[]⟩, .int .i64 E]) ∧ Below w.heap.size w w' := by
  have p := fun v => pwrong_is r E h v
  obtain ⟨k0, k1, rr, m, j⟩ := r
  have B : Below w.heap.size w (w.alloc (.cells #[.int .i64 k0, .int .i64 k1, .int .i64 rr, .int .i64 m, .int .i64 j] 24)) := balloc (Below.refl _ _) _
  obtain ⟨x0, x1, x2, x3, x4, -, -, -, -, -⟩ := Rul.new w _ rfl k0 k1 rr m j
  go_enter Tryd.func6, Tryd.ntmps6
  go_wp2_with (go_at_call 13; refine (p _).mono ?_; clear p; rintro x v ⟨rfl, b⟩; replace B := bthen B b)
  refine bodyPost_ret (v := .tuple #[.string ⟨#[]⟩, .int .i64 E]) (by simp [results, Tryd.results6, go_sem]) rfl ⟨rfl, B⟩

set_option maxRecDepth 100000 in
set_option maxHeartbeats 3200000 in
theorem uprint_of (i j a b c : Int) (n0 n1 d0 d1 d2 s1 s2 s3 s4 s5 s6 s7 s8 : ByteArray) (w : World)
    (q0 : ∀ v, Calls Tryd.prog 14 #[.int .i64 i] v fun e w' => e = .returned (.string n0) ∧ Below v.heap.size v w')
    (q1 : ∀ v, Calls Tryd.prog 14 #[.int .i64 j] v fun e w' => e = .returned (.string n1) ∧ Below v.heap.size v w')
    (f0 : ∀ v, Calls Tryd.prog 11 #[.int .i64 a] v fun e w' => e = .returned (.string d0) ∧ w' = v)
    (f1 : ∀ v, Calls Tryd.prog 11 #[.int .i64 b] v fun e w' => e = .returned (.string d1) ∧ w' = v)
    (f2 : ∀ v, Calls Tryd.prog 11 #[.int .i64 c] v fun e w' => e = .returned (.string d2) ∧ w' = v)
    (a1 : ∀ v, (Op.stringOp .add n0 ⟨#[32]⟩).run Tryd.prog v = .ok (.string s1) v) (a2 : ∀ v, (Op.stringOp .add s1 n1).run Tryd.prog v = .ok (.string s2) v)
    (a3 : ∀ v, (Op.stringOp .add s2 ⟨#[32]⟩).run Tryd.prog v = .ok (.string s3) v) (a4 : ∀ v, (Op.stringOp .add s3 d0).run Tryd.prog v = .ok (.string s4) v)
    (a5 : ∀ v, (Op.stringOp .add s4 ⟨#[32]⟩).run Tryd.prog v = .ok (.string s5) v) (a6 : ∀ v, (Op.stringOp .add s5 d1).run Tryd.prog v = .ok (.string s6) v)
    (a7 : ∀ v, (Op.stringOp .add s6 ⟨#[32]⟩).run Tryd.prog v = .ok (.string s7) v) (a8 : ∀ v, (Op.stringOp .add s7 d2).run Tryd.prog v = .ok (.string s8) v)
    (p : ∀ v, Calls Tryd.prog 13 #[.agg #[.int .i64 i, .int .i64 j, .int .i64 a, .int .i64 b, .int .i64 c]] v fun x w' => x = .returned (.int .i64 0) ∧ Below v.heap.size v w') :
    Calls Tryd.prog 6 #[.agg #[.int .i64 i, .int .i64 j, .int .i64 a, .int .i64 b, .int .i64 c]] w fun e w' => e = .returned (.tuple #[.string s8, .int .i64 0]) ∧ Below w.heap.size w w' := by
  have X := Rul.new w _ rfl i j a b c
  have B : Below w.heap.size w (w.alloc (.cells #[.int .i64 i, .int .i64 j, .int .i64 a, .int .i64 b, .int .i64 c] 24)) := balloc (Below.refl _ _) _
  go_enter Tryd.func6, Tryd.ntmps6
  go_wp2_with (go_at_call 13; refine (p _).mono ?_; clear p; rintro x v ⟨rfl, b'⟩; replace X := X.kept b'; replace B := bthen B b'; clear b')
  go_region_held3 (fun w' => w'.cell? ⟨w.heap.size, 0, none⟩ = some (.int .i64 i) ∧ w'.cell? ⟨w.heap.size, 1, none⟩ = some (.int .i64 j) ∧ w'.cell? ⟨w.heap.size, 2, none⟩ = some (.int .i64 a) ∧ w'.cell? ⟨w.heap.size, 3, none⟩ = some (.int .i64 b) ∧ w'.cell? ⟨w.heap.size, 4, none⟩ = some (.int .i64 c))
    (first | with_reducible exact ⟨X.c0, X.c1, X.c2, X.c3, X.c4⟩ | with_reducible exact ⟨X.drew.c0, X.drew.c1, X.drew.c2, X.drew.c3, X.drew.c4⟩ | go_keep)
    (first
    | (go_at_call 14; refine (q0 _).mono ?_; clear q0; rintro x v1 ⟨rfl, b'⟩; replace X := (X.drewN 1).kept b'; replace B := bthen (below_drewN B 1) b'; clear b')
    | (go_at_call 14; refine (q1 _).mono ?_; clear q1; rintro x v2 ⟨rfl, b'⟩; replace X := X.kept b'; replace B := bthen B b'; clear b')
    | (go_at_call 11; refine (f0 _).mono ?_; clear f0; rintro x v3 ⟨rfl, rfl⟩)
    | (go_at_call 11; refine (f1 _).mono ?_; clear f1; rintro x v3 ⟨rfl, rfl⟩)
    | (go_at_call 11; refine (f2 _).mono ?_; clear f2; rintro x v3 ⟨rfl, rfl⟩))
  go_wp2
  refine bodyPost_ret (v := .tuple #[.string s8, .int .i64 0]) (by simp [results, Tryd.results6, go_sem]) rfl ⟨rfl, B⟩
theorem add_is (a b : ByteArray) (ha : a.size ≤ 1000) (hb : b.size ≤ 1000) (v : World) : (Op.stringOp .add a b).run Tryd.prog v = .ok (.string (a ++ b)) v := run_string_add_sum v a b (by omega)
theorem dig_size : ∀ n, n < 100 → (ByteArray.mk (Lib.decDigits n).toArray).size ≤ 2 := by decide +kernel
theorem right_of' {r : Ru} (h : wrong r = 0) : kinds r ∧ ranges r := by
  unfold wrong at h
  split at h
  · rename_i hk
    split at h
    · rename_i hr; exact ⟨hk, hr⟩
    · simp at h
  · simp at h
theorem nme_size {k : Int} : (ByteArray.mk (nme k).toArray).size ≤ 10 := by
  unfold nme
  split
  · decide
  · split <;> decide
theorem uprint_yes (r : Ru) (h : wrong r = 0) (w : World) :
    Calls Tryd.prog 6 #[.agg #[.int .i64 r.k0, .int .i64 r.k1, .int .i64 r.r, .int .i64 r.m, .int .i64 r.j]] w fun e w' => e = .returned (.tuple #[.string ⟨(tx r).toArray⟩, .int .i64 0]) ∧ Below w.heap.size w w' := by
  have p := fun v => pwrong_is r 0 h v
  have hr := right_of' h
  unfold kinds ranges at hr
  obtain ⟨k0, k1, rr, m, j⟩ := r
  simp only at hr
  obtain ⟨i, rfl⟩ : ∃ i : Nat, k0 = i := ⟨k0.toNat, by omega⟩
  obtain ⟨i1, rfl⟩ : ∃ i : Nat, k1 = i := ⟨k1.toNat, by omega⟩
  obtain ⟨a, rfl⟩ : ∃ i : Nat, rr = i := ⟨rr.toNat, by omega⟩
  obtain ⟨b, rfl⟩ : ∃ i : Nat, m = i := ⟨m.toNat, by omega⟩
  obtain ⟨c, rfl⟩ : ∃ i : Nat, j = i := ⟨j.toNat, by omega⟩
  have sb : (ByteArray.mk #[32]).size = 1 := rfl
  have s0 : (ByteArray.mk (nme (i : Int)).toArray).size ≤ 10 := nme_size
  have s1 : (ByteArray.mk (nme (i1 : Int)).toArray).size ≤ 10 := nme_size
  have da := dig_size a (by omega)
  have db := dig_size b (by omega)
  have dc := dig_size c (by omega)
  have z := uprint_of i i1 a b c ⟨(nme i).toArray⟩ ⟨(nme i1).toArray⟩ ⟨(Lib.decDigits a).toArray⟩ ⟨(Lib.decDigits b).toArray⟩ ⟨(Lib.decDigits c).toArray⟩ _ _ _ _ _ _ _ _ w (uname_any i (by omega)) (uname_any i1 (by omega))
    (Tryd.strconv_Itoa_small a (by omega)) (Tryd.strconv_Itoa_small b (by omega)) (Tryd.strconv_Itoa_small c (by omega))
    (add_is _ _ (by omega) (by omega)) (add_is _ _ (by simp only [ByteArray.size_append]; omega) (by omega)) (add_is _ _ (by simp only [ByteArray.size_append]; omega) (by omega)) (add_is _ _ (by simp only [ByteArray.size_append]; omega) (by omega)) (add_is _ _ (by simp only [ByteArray.size_append]; omega) (by omega)) (add_is _ _ (by simp only [ByteArray.size_append]; omega) (by omega)) (add_is _ _ (by simp only [ByteArray.size_append]; omega) (by omega)) (add_is _ _ (by simp only [ByteArray.size_append]; omega) (by omega)) p
  refine z.mono ?_
  rintro e w' ⟨rfl, b'⟩
  refine ⟨?_, b'⟩
  congr 5
  refine (bytes_is ?_)
  simp only [ByteArray.data_append, Array.toList_append]
  simp [tx]
end Go.Proofs.YtjageagnclmnjaaDoor.D
