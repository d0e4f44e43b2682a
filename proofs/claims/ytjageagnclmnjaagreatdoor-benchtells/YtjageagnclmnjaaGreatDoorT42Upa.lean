/- PROVED: what the verifier's UPrint answers. what the verifier's UParse answers, by what it tries: where none fits. what the verifier's UParse answers, by what it tries: where one fits. the verifier's UParse reads just the texts that rules have. CONDITIONS: none beyond each theorem's own. -/
import Derived.Test.YtjageagnclmnjaaGreatDoorB01Tx
import Derived.Test.YtjageagnclmnjaaGreatDoorB00KNums
import Derived.Test.YtjageagnclmnjaaGreatDoorT41DWrong
import Derived.Test.YtjageagnclmnjaaGreatDoorB04Shelf
import Derived.Deep.RegionHeld3
import Derived.Lib.Hide
import Derived.Test.YtjageagnclmnjaaGreatDoorB06St
namespace Go.Proofs.YtjageagnclmnjaaGreatDoor.D
set_option maxRecDepth 100000
open Go.RowKit K
set_option linter.unusedVariables false

set_option maxRecDepth 100000 in
set_option maxHeartbeats 1600000 in
theorem uname_any (i : Nat) (h : 1 ≤ i ∧ i ≤ 3) (w : World) : Calls Tryz.prog 67 #[.int .i64 i] w fun e w' => e = .returned (.string ⟨(nme i).toArray⟩) ∧ Below w.heap.size w w' := by
  rcases (show i = 1 ∨ i = 2 ∨ i = 3 by omega) with rfl | rfl | rfl
  all_goals
    go_enter Tryz.func67, Tryz.ntmps67
    go_wp2
    go_ret
    exact ⟨rfl, balloc (Below.refl _ _) _⟩

set_option maxRecDepth 100000 in
set_option maxHeartbeats 3200000 in
theorem uprint_of (i j a b c : Int) (n0 n1 d0 d1 d2 s1 s2 s3 s4 s5 s6 s7 s8 : ByteArray) (w : World)
    (q0 : ∀ v, Calls Tryz.prog 67 #[.int .i64 i] v fun e w' => e = .returned (.string n0) ∧ Below v.heap.size v w')
    (q1 : ∀ v, Calls Tryz.prog 67 #[.int .i64 j] v fun e w' => e = .returned (.string n1) ∧ Below v.heap.size v w')
    (f0 : ∀ v, Calls Tryz.prog 22 #[.int .i64 a] v fun e w' => e = .returned (.string d0) ∧ w' = v)
    (f1 : ∀ v, Calls Tryz.prog 22 #[.int .i64 b] v fun e w' => e = .returned (.string d1) ∧ w' = v)
    (f2 : ∀ v, Calls Tryz.prog 22 #[.int .i64 c] v fun e w' => e = .returned (.string d2) ∧ w' = v)
    (a1 : ∀ v, (Op.stringOp .add n0 ⟨#[32]⟩).run Tryz.prog v = .ok (.string s1) v) (a2 : ∀ v, (Op.stringOp .add s1 n1).run Tryz.prog v = .ok (.string s2) v)
    (a3 : ∀ v, (Op.stringOp .add s2 ⟨#[32]⟩).run Tryz.prog v = .ok (.string s3) v) (a4 : ∀ v, (Op.stringOp .add s3 d0).run Tryz.prog v = .ok (.string s4) v)
    (a5 : ∀ v, (Op.stringOp .add s4 ⟨#[32]⟩).run Tryz.prog v = .ok (.string s5) v) (a6 : ∀ v, (Op.stringOp .add s5 d1).run Tryz.prog v = .ok (.string s6) v)
    (a7 : ∀ v, (Op.stringOp .add s6 ⟨#[32]⟩).run Tryz.prog v = .ok (.string s7) v) (a8 : ∀ v, (Op.stringOp .add s7 d2).run Tryz.prog v = .ok (.string s8) v)
    (p : ∀ v, Calls Tryz.prog 66 #[.agg #[.int .i64 i, .int .i64 j, .int .i64 a, .int .i64 b, .int .i64 c]] v fun x w' => x = .returned (.int .i64 0) ∧ Below v.heap.size v w') :
    Calls Tryz.prog 42 #[.agg #[.int .i64 i, .int .i64 j, .int .i64 a, .int .i64 b, .int .i64 c]] w fun e w' => e = .returned (.tuple #[.string s8, .int .i64 0]) ∧ Below w.heap.size w w' := by
  have X := Rul.new w _ rfl i j a b c
  have B : Below w.heap.size w (w.alloc (.cells #[.int .i64 i, .int .i64 j, .int .i64 a, .int .i64 b, .int .i64 c] 33)) := balloc (Below.refl _ _) _
  go_enter Tryz.func42, Tryz.ntmps42
  go_wp2_with (go_at_call 66; refine (p _).mono ?_; clear p; rintro x v ⟨rfl, b'⟩; replace X := X.kept b'; replace B := bthen B b'; clear b')
  go_region_held3 (fun w' => w'.cell? ⟨w.heap.size, 0, none⟩ = some (.int .i64 i) ∧ w'.cell? ⟨w.heap.size, 1, none⟩ = some (.int .i64 j) ∧ w'.cell? ⟨w.heap.size, 2, none⟩ = some (.int .i64 a) ∧ w'.cell? ⟨w.heap.size, 3, none⟩ = some (.int .i64 b) ∧ w'.cell? ⟨w.heap.size, 4, none⟩ = some (.int .i64 c))
    (first | with_reducible exact ⟨X.c0, X.c1, X.c2, X.c3, X.c4⟩ | with_reducible exact ⟨X.drew.c0, X.drew.c1, X.drew.c2, X.drew.c3, X.drew.c4⟩ | go_keep)
    (first
    | (go_at_call 67; refine (q0 _).mono ?_; clear q0; rintro x v1 ⟨rfl, b'⟩; replace X := (X.drewN 1).kept b'; replace B := bthen (below_drewN B 1) b'; clear b')
    | (go_at_call 67; refine (q1 _).mono ?_; clear q1; rintro x v2 ⟨rfl, b'⟩; replace X := X.kept b'; replace B := bthen B b'; clear b')
    | (go_at_call 22; refine (f0 _).mono ?_; clear f0; rintro x v3 ⟨rfl, rfl⟩)
    | (go_at_call 22; refine (f1 _).mono ?_; clear f1; rintro x v3 ⟨rfl, rfl⟩)
    | (go_at_call 22; refine (f2 _).mono ?_; clear f2; rintro x v3 ⟨rfl, rfl⟩))
  go_wp2
  refine bodyPost_ret (v := .tuple #[.string s8, .int .i64 0]) (by simp [results, Tryz.results42, go_sem]) rfl ⟨rfl, B⟩
theorem add_is (a b : ByteArray) (ha : a.size ≤ 1000) (hb : b.size ≤ 1000) (v : World) : (Op.stringOp .add a b).run Tryz.prog v = .ok (.string (a ++ b)) v := run_string_add_sum v a b (by omega)
theorem dig_size : ∀ n, n < 100 → (ByteArray.mk (Lib.decDigits n).toArray).size ≤ 2 := by decide +kernel
theorem rgt_of' {r : Ru} (h : wrong r = 0) : kinds r ∧ ranges r := by
  unfold wrong at h
  split at h
  · rename_i hk
    split at h
    · rename_i hr; exact ⟨hk, hr⟩
    · simp at h
  · simp at h
theorem nme_size {k : Int} : (ByteArray.mk (nme k).toArray).size ≤ 10 := by
  unfold nme
  split
  · decide
  · split <;> decide
theorem uprint_yes (r : Ru) (h : wrong r = 0) (w : World) :
    Calls Tryz.prog 42 #[.agg #[.int .i64 r.k0, .int .i64 r.k1, .int .i64 r.r, .int .i64 r.m, .int .i64 r.j]] w fun e w' => e = .returned (.tuple #[.string ⟨(tx r).toArray⟩, .int .i64 0]) ∧ Below w.heap.size w w' := by
  have p := fun v => pwrong_is r 0 h v
  have hr := rgt_of' h
  unfold kinds ranges at hr
  obtain ⟨k0, k1, rr, m, j⟩ := r
  simp only at hr
  obtain ⟨i, rfl⟩ : ∃ i : Nat, k0 = i := ⟨k0.toNat, by omega⟩
  obtain ⟨i1, rfl⟩ : ∃ i : Nat, k1 = i := ⟨k1.toNat, by omega⟩
  obtain ⟨a, rfl⟩ : ∃ i : Nat, rr = i := ⟨rr.toNat, by omega⟩
  obtain ⟨b, rfl⟩ : ∃ i : Nat, m = i := ⟨m.toNat, by omega⟩
  obtain ⟨c, rfl⟩ : ∃ i : Nat, j = i := ⟨j.toNat, by omega⟩
  have sb : (ByteArray.mk #[32]).size = 1 := rfl
  have s0 : (ByteArray.mk (nme (i : Int)).toArray).size ≤ 10 := nme_size
  have s1 : (ByteArray.mk (nme (i1 : Int)).toArray).size ≤ 10 := nme_size
  have da := dig_size a (by omega)
  have db := dig_size b (by omega)
  have dc := dig_size c (by omega)
  have z := uprint_of i i1 a b c ⟨(nme i).toArray⟩ ⟨(nme i1).toArray⟩ ⟨(Lib.decDigits a).toArray⟩ ⟨(Lib.decDigits b).toArray⟩ ⟨(Lib.decDigits c).toArray⟩ _ _ _ _ _ _ _ _ w (uname_any i (by omega)) (uname_any i1 (by omega))
    (Tryz.strconv_Itoa_small a (by omega)) (Tryz.strconv_Itoa_small b (by omega)) (Tryz.strconv_Itoa_small c (by omega))
    (add_is _ _ (by omega) (by omega)) (add_is _ _ (by simp only [ByteArray.size_append]; omega) (by omega)) (add_is _ _ (by simp only [ByteArray.size_append]; omega) (by omega)) (add_is _ _ (by simp only [ByteArray.size_append]; omega) (by omega)) (add_is _ _ (by simp only [ByteArray.size_append]; omega) (by omega)) (add_is _ _ (by simp only [ByteArray.size_append]; omega) (by omega)) (add_is _ _ (by simp only [ByteArray.size_append]; omega) (by omega)) (add_is _ _ (by simp only [ByteArray.size_append]; omega) (by omega)) p
  refine z.mono ?_
  rintro e w' ⟨rfl, b'⟩
  refine ⟨?_, b'⟩
  congr 5
  refine (bytes_is ?_)
  simp only [ByteArray.data_append, Array.toList_append]
  simp [tx]
end Go.Proofs.YtjageagnclmnjaaGreatDoor.D

namespace Go.Proofs.YtjageagnclmnjaaGreatDoor.D
open Go.RowKit K
set_option linter.unusedVariables false

set_option maxRecDepth 100000 in
set_option maxHeartbeats 6400000 in
theorem uparse_none (s : ByteArray) (t : Nat → Nat → Nat → Nat → ByteArray)
    (u : ∀ n a b c : Nat, n < 9 → 1 ≤ a → a ≤ 12 → b < 17 → c < 4 → ∀ v, Calls Tryz.prog 42 #[.agg #[.int .i64 ((n : Int) / 3 + 1), .int .i64 ((n : Int) % 3 + 1), .int .i64 a, .int .i64 b, .int .i64 c]] v fun e w' => e = .returned (.tuple #[.string (t n a b c), .int .i64 0]) ∧ Below v.heap.size v w')
    (hF : ∀ n a b c : Nat, n < 9 → 1 ≤ a → a ≤ 12 → b < 17 → c < 4 → ((t n a b c).toList == s.toList) = false) (w : World) :
    Calls Tryz.prog 20 #[.string s] w fun e w' => e = .returned (.tuple #[.agg #[.int .i64 0, .int .i64 0, .int .i64 0, .int .i64 0, .int .i64 0], .int .i64 1]) ∧ Below w.heap.size w w' := by
  have Z := Rul.new w _ rfl 0 0 0 0 0
  have B : Below w.heap.size w (w.alloc (.cells #[.int .i64 0, .int .i64 0, .int .i64 0, .int .i64 0, .int .i64 0] 33)) := balloc (Below.refl _ _) _
  replace u := Lib.hid u
  replace hF := Lib.hid hF
  go_enter Tryz.func20, Tryz.ntmps20
  go_wp2
  go_loopw [11] (fun i wr => ∃ n : Nat, (n ≤ 9 ∧ n ≤ 9) ∧ i = .int .i64 n ∧ Rul wr w.heap.size 0 0 0 0 0 ∧ Below w.heap.size w wr) (fun i _ => 9 - (intOf i).toNat)
  case atStart => exact ⟨0, by omega, rfl, Z, B⟩
  case round =>
    clear Z B
    obtain ⟨n, hn, rfl, Z, B⟩ := hrel
    by_cases hn9 : n < 9
    · have hnI : (n : Int) < 9 := by omega
      replace hn := Lib.hid hn
      go_wp2
      go_loopw [5] (fun i wr => ∃ a : Nat, 1 ≤ a ∧ (a ≤ 13 ∧ a ≤ 13) ∧ i = .int .i64 a ∧ Rul wr w.heap.size 0 0 0 0 0 ∧ Below w.heap.size w wr) (fun i _ => 13 - (intOf i).toNat)
      case atStart => exact ⟨1, by omega, by have := hn.out; omega, rfl, Z, B⟩
      case round =>
        clear Z B
        obtain ⟨a, ha1, ha, rfl, Z, B⟩ := hrel
        by_cases ha9 : a ≤ 12
        · have haI : (a : Int) ≤ 12 := by omega
          replace ha := Lib.hid ha
          go_wp2
          go_loopw [18] (fun i wr => ∃ b : Nat, (b ≤ 17 ∧ b ≤ 17) ∧ i = .int .i64 b ∧ Rul wr w.heap.size 0 0 0 0 0 ∧ Below w.heap.size w wr) (fun i _ => 17 - (intOf i).toNat)
          case atStart => exact ⟨0, by have := ha.out; omega, rfl, Z, B⟩
          case round =>
            clear Z B
            obtain ⟨b, hb, rfl, Z, B⟩ := hrel
            by_cases hb9 : b < 17
            · have hbI : (b : Int) < 17 := by omega
              replace hb := Lib.hid hb
              go_wp2
              go_loopw [21] (fun i wr => ∃ c : Nat, (c ≤ 4 ∧ c ≤ 4) ∧ i = .int .i64 c ∧ Rul wr w.heap.size 0 0 0 0 0 ∧ Below w.heap.size w wr) (fun i _ => 4 - (intOf i).toNat)
              case atStart => exact ⟨0, by have := hb.out; omega, rfl, Z, B⟩
              case round =>
                clear Z B
                obtain ⟨c, hc, rfl, Z, B⟩ := hrel
                by_cases hc9 : c < 4
                · have hcI : (c : Int) < 4 := by omega
                  replace hc := Lib.hid hc
                  have hf := hF.out n a b c hn9 ha1 ha9 hb9 hc9
                  have hu := Lib.hid (u.out n a b c hn9 ha1 ha9 hb9 hc9)
                  go_wp2_with (go_at_call 42; refine (hu.out _).mono ?_; clear hu; rintro x v ⟨rfl, b'⟩; replace Z := (Z.alloc (.cells #[.int .i64 ((n : Int) / 3 + 1), .int .i64 ((n : Int) % 3 + 1), .int .i64 a, .int .i64 b, .int .i64 c] 33)).kept b'; have X := (Rul.new wr _ rfl ((n : Int) / 3 + 1) ((n : Int) % 3 + 1) a b c).kept b'; replace B := bthen (balloc B _) b'; obtain ⟨x0, x1, x2, x3, x4, -, -, -, -, -⟩ := id X; obtain ⟨z0, z1, z2, z3, z4, y0, y1, y2, y3, y4⟩ := id Z; clear b' X)
                  go_roundw
                  case rel => exact ⟨c + 1, by have := hc.out; omega, by go_num, Z, B⟩
                  case measure => simp [intOf]; omega
                · obtain rfl : c = 4 := by omega
                  replace hc := Lib.hid hc
                  go_wp2
                  go_roundw
                  case rel => exact ⟨b + 1, by have := hc.out; have := hb.out; omega, by go_num, Z, B⟩
                  case measure => simp [intOf]; omega
            · obtain rfl : b = 17 := by omega
              replace hb := Lib.hid hb
              go_wp2
              go_roundw
              case rel => exact ⟨a + 1, by omega, by have := hb.out; have := ha.out; omega, by go_num, Z, B⟩
              case measure => simp [intOf]; omega
        · obtain rfl : a = 13 := by omega
          replace ha := Lib.hid ha
          go_wp2
          go_roundw
          case rel => exact ⟨n + 1, by have := ha.out; have := hn.out; omega, by go_num, Z, B⟩
          case measure => simp [intOf]; omega
    · obtain rfl : n = 9 := by omega
      obtain ⟨z0, z1, z2, z3, z4, y0, y1, y2, y3, y4⟩ := id Z
      go_wp2
      refine bodyPost_ret (v := .tuple #[.agg #[.int .i64 0, .int .i64 0, .int .i64 0, .int .i64 0, .int .i64 0], .int .i64 1]) ?_ rfl ⟨rfl, ?_⟩
      · simp [results, Tryz.results20, go_sem, z0, z1, z2, z3, z4]
      · repeat (with_reducible refine Below.setCell ?_ (by simp) _)
        exact B

end Go.Proofs.YtjageagnclmnjaaGreatDoor.D

namespace Go.Proofs.YtjageagnclmnjaaGreatDoor.D
open Go.RowKit K
set_option linter.unusedVariables false

set_option maxRecDepth 100000 in
set_option maxHeartbeats 6400000 in
theorem uparse_some (s : ByteArray) (t : Nat → Nat → Nat → Nat → ByteArray) (n0 a0 b0 c0 : Nat) (t0 : n0 < 9) (t1 : 1 ≤ a0 ∧ a0 ≤ 12) (t2 : b0 < 17) (t3 : c0 < 4)
    (u : ∀ n a b c : Nat, n < 9 → 1 ≤ a → a ≤ 12 → b < 17 → c < 4 → ∀ v, Calls Tryz.prog 42 #[.agg #[.int .i64 ((n : Int) / 3 + 1), .int .i64 ((n : Int) % 3 + 1), .int .i64 a, .int .i64 b, .int .i64 c]] v fun e w' => e = .returned (.tuple #[.string (t n a b c), .int .i64 0]) ∧ Below v.heap.size v w')
    (hF : ∀ n a b c : Nat, n < 9 → 1 ≤ a → a ≤ 12 → b < 17 → c < 4 → ((t n a b c).toList == s.toList) = decide (n = n0 ∧ a = a0 ∧ b = b0 ∧ c = c0)) (w : World) :
    Calls Tryz.prog 20 #[.string s] w fun e w' => e = .returned (.tuple #[.agg #[.int .i64 ((n0 : Int) / 3 + 1), .int .i64 ((n0 : Int) % 3 + 1), .int .i64 a0, .int .i64 b0, .int .i64 c0], .int .i64 0]) ∧ Below w.heap.size w w' := by
  have Z := Rul.new w _ rfl 0 0 0 0 0
  have B : Below w.heap.size w (w.alloc (.cells #[.int .i64 0, .int .i64 0, .int .i64 0, .int .i64 0, .int .i64 0] 33)) := balloc (Below.refl _ _) _
  replace u := Lib.hid u
  replace hF := Lib.hid hF
  go_enter Tryz.func20, Tryz.ntmps20
  go_wp2
  go_loopw [11] (fun i wr => ∃ n : Nat, (n ≤ 9 ∧ n ≤ n0) ∧ i = .int .i64 n ∧ Rul wr w.heap.size 0 0 0 0 0 ∧ Below w.heap.size w wr) (fun i _ => 9 - (intOf i).toNat)
  case atStart => exact ⟨0, by omega, rfl, Z, B⟩
  case round =>
    clear Z B
    obtain ⟨n, hn, rfl, Z, B⟩ := hrel
    by_cases hn9 : n < 9
    · have hnI : (n : Int) < 9 := by omega
      replace hn := Lib.hid hn
      go_wp2
      go_loopw [5] (fun i wr => ∃ a : Nat, 1 ≤ a ∧ (a ≤ 13 ∧ (n < n0 ∨ (n = n0 ∧ a ≤ a0))) ∧ i = .int .i64 a ∧ Rul wr w.heap.size 0 0 0 0 0 ∧ Below w.heap.size w wr) (fun i _ => 13 - (intOf i).toNat)
      case atStart => exact ⟨1, by omega, by have := hn.out; omega, rfl, Z, B⟩
      case round =>
        clear Z B
        obtain ⟨a, ha1, ha, rfl, Z, B⟩ := hrel
        by_cases ha9 : a ≤ 12
        · have haI : (a : Int) ≤ 12 := by omega
          replace ha := Lib.hid ha
          go_wp2
          go_loopw [18] (fun i wr => ∃ b : Nat, (b ≤ 17 ∧ (n < n0 ∨ (n = n0 ∧ (a < a0 ∨ (a = a0 ∧ b ≤ b0))))) ∧ i = .int .i64 b ∧ Rul wr w.heap.size 0 0 0 0 0 ∧ Below w.heap.size w wr) (fun i _ => 17 - (intOf i).toNat)
          case atStart => exact ⟨0, by have := ha.out; omega, rfl, Z, B⟩
          case round =>
            clear Z B
            obtain ⟨b, hb, rfl, Z, B⟩ := hrel
            by_cases hb9 : b < 17
            · have hbI : (b : Int) < 17 := by omega
              replace hb := Lib.hid hb
              go_wp2
              go_loopw [21] (fun i wr => ∃ c : Nat, (c ≤ 4 ∧ (n < n0 ∨ (n = n0 ∧ (a < a0 ∨ (a = a0 ∧ (b < b0 ∨ (b = b0 ∧ c ≤ c0))))))) ∧ i = .int .i64 c ∧ Rul wr w.heap.size 0 0 0 0 0 ∧ Below w.heap.size w wr) (fun i _ => 4 - (intOf i).toNat)
              case atStart => exact ⟨0, by have := hb.out; omega, rfl, Z, B⟩
              case round =>
                clear Z B
                obtain ⟨c, hc, rfl, Z, B⟩ := hrel
                by_cases hc9 : c < 4
                · have hcI : (c : Int) < 4 := by omega
                  replace hc := Lib.hid hc
                  have hf := hF.out n a b c hn9 ha1 ha9 hb9 hc9
                  have hu := Lib.hid (u.out n a b c hn9 ha1 ha9 hb9 hc9)
                  by_cases hit : n = n0 ∧ a = a0 ∧ b = b0 ∧ c = c0
                  · rw [decide_eq_true hit] at hf
                    replace hit := Lib.hid hit
                    have hne : wr.heap.size ≠ w.heap.size := fun e => by have := block_lt Z.c0; simp only at this; omega
                    go_wp2_with (go_at_call 42; refine (hu.out _).mono ?_; clear hu; rintro x v ⟨rfl, b'⟩; replace Z := (Z.alloc (.cells #[.int .i64 ((n : Int) / 3 + 1), .int .i64 ((n : Int) % 3 + 1), .int .i64 a, .int .i64 b, .int .i64 c] 33)).kept b'; have X := (Rul.new wr _ rfl ((n : Int) / 3 + 1) ((n : Int) % 3 + 1) a b c).kept b'; replace B := bthen (balloc B _) b'; obtain ⟨x0, x1, x2, x3, x4, -, -, -, -, -⟩ := id X; obtain ⟨z0, z1, z2, z3, z4, y0, y1, y2, y3, y4⟩ := id Z; clear b' X)
                    obtain ⟨rfl, rfl, rfl, rfl⟩ := hit.out
                    refine bodyPost_ret (v := .tuple #[.agg #[.int .i64 ((n : Int) / 3 + 1), .int .i64 ((n : Int) % 3 + 1), .int .i64 a, .int .i64 b, .int .i64 c], .int .i64 0]) ?_ rfl ⟨rfl, ?_⟩
                    · simp [results, Tryz.results20, go_sem, z0, z1, z2, z3, z4]
                    · repeat (with_reducible refine Below.setCell ?_ (by simp) _)
                      exact B
                  · rw [decide_eq_false hit] at hf
                    replace hit := Lib.hid hit
                    go_wp2_with (go_at_call 42; refine (hu.out _).mono ?_; clear hu; rintro x v ⟨rfl, b'⟩; replace Z := (Z.alloc (.cells #[.int .i64 ((n : Int) / 3 + 1), .int .i64 ((n : Int) % 3 + 1), .int .i64 a, .int .i64 b, .int .i64 c] 33)).kept b'; have X := (Rul.new wr _ rfl ((n : Int) / 3 + 1) ((n : Int) % 3 + 1) a b c).kept b'; replace B := bthen (balloc B _) b'; obtain ⟨x0, x1, x2, x3, x4, -, -, -, -, -⟩ := id X; obtain ⟨z0, z1, z2, z3, z4, y0, y1, y2, y3, y4⟩ := id Z; clear b' X)
                    go_roundw
                    case rel => exact ⟨c + 1, by have := hc.out; have := hit.out; omega, by go_num, Z, B⟩
                    case measure => simp [intOf]; omega
                · obtain rfl : c = 4 := by omega
                  replace hc := Lib.hid hc
                  go_wp2
                  go_roundw
                  case rel => exact ⟨b + 1, by have := hc.out; have := hb.out; omega, by go_num, Z, B⟩
                  case measure => simp [intOf]; omega
            · obtain rfl : b = 17 := by omega
              replace hb := Lib.hid hb
              go_wp2
              go_roundw
              case rel => exact ⟨a + 1, by omega, by have := hb.out; have := ha.out; omega, by go_num, Z, B⟩
              case measure => simp [intOf]; omega
        · obtain rfl : a = 13 := by omega
          replace ha := Lib.hid ha
          go_wp2
          go_roundw
          case rel => exact ⟨n + 1, by have := ha.out; have := hn.out; omega, by go_num, Z, B⟩
          case measure => simp [intOf]; omega
    · obtain rfl : n = 9 := by omega
      exfalso; omega

end Go.Proofs.YtjageagnclmnjaaGreatDoor.D

namespace Go.Proofs.YtjageagnclmnjaaGreatDoor.D
set_option maxRecDepth 100000
open Go.RowKit K
set_option linter.unusedVariables false

/-- the rules that are tried -/
def ruOf (n a b c : Nat) : Ru := ⟨(n : Int) / 3 + 1, (n : Int) % 3 + 1, a, b, c⟩
theorem ruOf_right {n a b c : Nat} (h0 : n < 9) (h1 : 1 ≤ a) (h2 : a ≤ 12) (h3 : b < 17) (h4 : c < 4) : wrong (ruOf n a b c) = 0 := by
  refine wrong_right ⟨?_, ?_⟩
  · unfold kinds ruOf; simp only; omega
  · unfold ranges ruOf; simp only; omega
theorem ruOf_inj {n a b c m d e f : Nat} (h : ruOf n a b c = ruOf m d e f) : n = m ∧ a = d ∧ b = e ∧ c = f := by
  unfold ruOf at h
  injection h with h0 h1 h2 h3 h4
  omega
theorem ruOf_some {r : Ru} (h : wrong r = 0) : ∃ n a b c, n < 9 ∧ (1 ≤ a ∧ a ≤ 12) ∧ b < 17 ∧ c < 4 ∧ r = ruOf n a b c := by
  have hr := rgt_of h
  unfold kinds ranges at hr
  obtain ⟨k0, k1, rr, m, j⟩ := r
  simp only at hr
  refine ⟨3 * (k0.toNat - 1) + (k1.toNat - 1), rr.toNat, m.toNat, j.toNat, by omega, by omega, by omega, by omega, ?_⟩
  unfold ruOf
  congr 1 <;> omega
theorem u_any (n a b c : Nat) (h0 : n < 9) (h1 : 1 ≤ a) (h2 : a ≤ 12) (h3 : b < 17) (h4 : c < 4) (v : World) : Calls Tryz.prog 42 #[.agg #[.int .i64 ((n : Int) / 3 + 1), .int .i64 ((n : Int) % 3 + 1), .int .i64 a, .int .i64 b, .int .i64 c]] v fun e w' => e = .returned (.tuple #[.string ⟨(tx (ruOf n a b c)).toArray⟩, .int .i64 0]) ∧ Below v.heap.size v w' :=
  uprint_yes (ruOf n a b c) (ruOf_right h0 h1 h2 h3 h4) v
theorem uparse_rd (s : ByteArray) (r : Ru) (h : Rd s.data.toList r) (w : World) :
    Calls Tryz.prog 20 #[.string s] w fun e w' => e = .returned (.tuple #[.agg #[.int .i64 r.k0, .int .i64 r.k1, .int .i64 r.r, .int .i64 r.m, .int .i64 r.j], .int .i64 0]) ∧ Below w.heap.size w w' := by
  obtain ⟨n, a, b, c, h0, h1, h2, h3, rfl⟩ := ruOf_some h.1
  refine uparse_some s (fun n a b c => ⟨(tx (ruOf n a b c)).toArray⟩) n a b c h0 h1 h2 h3 u_any (fun m d e f g0 g1 g2 g3 g4 => same_text ?_) w
  by_cases e0 : m = n ∧ d = a ∧ e = b ∧ f = c
  · obtain ⟨rfl, rfl, rfl, rfl⟩ := e0
    rw [decide_eq_true h.2]; simp
  · rw [decide_eq_false e0, decide_eq_false]
    intro e1
    exact e0 (ruOf_inj (Rd.one ⟨ruOf_right g0 g1 g2 g3 g4, e1⟩ h))
theorem uparse_not (s : ByteArray) (h : ∀ r, ¬ Rd s.data.toList r) (w : World) :
    Calls Tryz.prog 20 #[.string s] w fun e w' => e = .returned (.tuple #[.agg #[.int .i64 0, .int .i64 0, .int .i64 0, .int .i64 0, .int .i64 0], .int .i64 1]) ∧ Below w.heap.size w w' :=
  uparse_none s (fun n a b c => ⟨(tx (ruOf n a b c)).toArray⟩) u_any (fun m d e f g0 g1 g2 g3 g4 => same_text (decide_eq_false fun e1 => h _ ⟨ruOf_right g0 g1 g2 g3 g4, e1⟩)) w
end Go.Proofs.YtjageagnclmnjaaGreatDoor.D
