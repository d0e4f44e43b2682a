/- PROVED: what bucket.Line answers. what bucket.Pass answers. a queue on plain integers: what goes, is lost and waits, and what the promises say of one another. CONDITIONS: none beyond each theorem's own. -/
import Derived.Test.YtjageagnclmnjaaGreatDoorX43BBRight
namespace Go.Proofs.YtjageagnclmnjaaGreatDoor.B
set_option maxRecDepth 100000
open Go.RowKit

/-- a bucket of the call's own, in block O -/
structure Bk (w : World) (O : Nat) (R B : Int) : Prop where
  r : w.cell? ⟨O, 0, none⟩ = some (.int .i64 R)
  b : w.cell? ⟨O, 1, none⟩ = some (.int .i64 B)
theorem Bk.new (w : World) (R B : Int) : Bk (w.alloc (.cells #[.int .i64 R, .int .i64 B] 71)) w.heap.size R B :=
  ⟨by rw [World.cell?_alloc_at _ _ _ _ rfl]; rfl, by rw [World.cell?_alloc_at _ _ _ _ rfl]; rfl⟩
theorem Bk.kept {w w' : World} {O : Nat} {R B : Int} (h : Bk w O R B) (b : Below w.heap.size w w') : Bk w' O R B :=
  ⟨(b.cell (p := ⟨O, 0, none⟩) (block_lt h.r)).trans h.r, (b.cell (p := ⟨O, 1, none⟩) (block_lt h.b)).trans h.b⟩
theorem Bk.alloc {w : World} {O : Nat} {R B : Int} (h : Bk w O R B) (o : Obj) : Bk (w.alloc o) O R B := h.kept (balloc (Below.refl _ _) o)
theorem alloc_up {w w1 : World} {o : Obj} (h : Below (w.alloc o).heap.size (w.alloc o) w1) : Below w.heap.size w w1 := bthen (balloc (Below.refl _ _) o) h

theorem nil_ans {w w' : World} (b : Below w.heap.size w w') : Ans w [] (.returned (.slice none 0 0)) w' := ⟨none, 0, rfl, Nat.le_refl _, .inl rfl, b⟩

theorem mul_in {m : Int} (k : Nat) (h0 : 0 ≤ m) (h1 : m ≤ 1099511627776) (hk : k ≤ 300) : 0 ≤ (k : Int) * m ∧ (k : Int) * m ≤ 329853488332800 := by
  refine ⟨Int.mul_nonneg (by omega) h0, ?_⟩
  have h2 : (k : Int) * m ≤ 300 * m := Int.mul_le_mul_of_nonneg_right (by omega) h0
  omega

end Go.Proofs.YtjageagnclmnjaaGreatDoor.B

namespace Go.Proofs.YtjageagnclmnjaaGreatDoor.B
set_option maxRecDepth 100000
open Go.RowKit

set_option maxHeartbeats 3200000 in
theorem pass_any (R B : Int) (a : Option Addr) (cap : Nat) (z : List Int) (w : World) (hz : Row w a z) :
    Calls Tryz.prog 26 #[.agg #[.int .i64 R, .int .i64 B], .slice a z.length cap] w (Ans w (let' R B z)) := by
  have hb := bright_any R B a cap z (w.alloc (.cells #[.int .i64 R, .int .i64 B] 71)) (hz.alloc _)
  by_cases h : bright R B z
  · have e : let' R B z = pass R B z := by unfold let'; rw [if_pos h]
    rw [e]
    clear e
    rw [decide_eq_true h] at hb
    obtain ⟨hR, hB, hn0, hF⟩ := h
    unfold pass
    obtain ⟨n, hn⟩ : ∃ n, z.length = n := ⟨_, rfl⟩
    have hz2 : Hid (Row w a z) := hz
    unfold allIn at hF
    rw [hn] at hb hn0 hF ⊢
    replace hn : Hid (z.length = n) := hn
    have hz3 : ∀ v, Below w.heap.size w v → 0 < n → ∃ b o, a = some ⟨b, o, none⟩ ∧ ∀ j, j < n → v.cell? ⟨b, o + j, none⟩ = some (.int .i64 (z.getD j 0)) := fun v hv hp => by
      obtain ⟨b, o, e, k⟩ := (hz2.out.kept hv).at (by rw [hn.out]; exact hp)
      exact ⟨b, o, e, fun j hj => k j (by rw [hn.out]; exact hj)⟩
    replace hz3 : Hid _ := hz3
    clear hz
    generalize hFd : (fun j => z.getD j 0) = F
    have hFF : ∀ j, z.getD j 0 = F j := fun j => by rw [← hFd]
    clear hFd
    have hFi : ∀ j, j < n → inr (F j) := fun j hj => by rw [← hFF]; exact hF j hj
    replace hFF : Hid _ := hFF
    clear hF
    have hst := st_in hR hB hFi
    have htop := fun t ht => wa_top hR hB hFi t ht (Nat.le_of_lt hn0)
    have hinr := hFi
    replace hst : Hid _ := hst
    replace htop : Hid _ := htop
    replace hinr : Hid _ := hinr
    clear hFi
    unfold inr at hR hB
    go_enter Tryz.func26, Tryz.ntmps26
    go_wp2_with (go_at_call 50; refine hb.mono ?_; rintro e w1 ⟨rfl, b1⟩; clear hb; have hmk := run_make_row' (P := Tryz.prog) 66 3 (.int .i64 0) 8 Tryz.underlying66 Tryz.info3 rfl .i64 .i64 n (by omega) (by omega); have hK : Bk w1 w.heap.size R B := (Bk.new w R B).kept b1; have hK2 := (hK.alloc (.cells (madeCells #[.int .i64 0] n) 3)).b)
    have hs0 : Cells (w1.alloc (.cells (madeCells #[.int .i64 0] n) 3)) w1.heap.size n (fill (go R B F) 0) := Cells.start w1 n _ fun j _ => rfl
    go_region
    all_goals
      clear hK2 hmk
      go_wp2
      go_loopw [6, 7, 21] (fun wv hv i wr => ∃ k : Nat, k ≤ n ∧ i = .int .i64 k ∧ wv = .int .i64 (wa R B F k) ∧ hv = .int .i64 (ho R B F k) ∧ Cells wr w1.heap.size n (fill (go R B F) k) ∧ Below w1.heap.size w1 wr) (fun _ _ i _ => n - (intOf i).toNat)
      case atStart => exact ⟨0, Nat.zero_le _, rfl, rfl, rfl, hs0.drewN 1, below_drewN (balloc (Below.refl _ _) _) 1⟩
      case round =>
        obtain ⟨k, hk, rfl, rfl, rfl, hC, hBl⟩ := hrel
        clear hs0
        by_cases hlt : k < n
        · obtain ⟨b, o, rfl, e1⟩ := hz3.out wr (bthen (alloc_up b1) hBl) (by omega)
          have cx := e1 k hlt
          rw [hFF.out] at cx
          clear e1
          have cr := (hK.kept hBl).r
          have cb := (hK.kept hBl).b
          have cc := hC.c k hlt
          have cf := hC.fz k hlt
          have hN := hC.put (V' := fill (go R B F) (k + 1)) hlt (fill_new (go R B F) k) (fun j _ hj => fill_old (go R B F) k j hj)
          have hwa := wa_succ R B F k
          have hho := ho_succ R B F k
          have hgo : go R B F k = min (wa R B F k + F k) (ho R B F k) := rfl
          rw [hgo] at hN hwa hho
          clear hgo
          have hlI : (k : Int) < n := by omega
          have i1 := hst.out k hk
          have i2 := htop.out k hk
          have i3 := hinr.out k hlt
          unfold inr at i3
          replace hwa : Hid _ := hwa
          replace hho : Hid _ := hho
          generalize fill (go R B F) k k = old at cc
          generalize F k = x at *
          generalize wa R B F k = W at *
          generalize ho R B F k = H at *
          have hB2 := hBl.setCell (p := ⟨w1.heap.size, k, none⟩) (Nat.le_refl _) (.int .i64 (min (W + x) H))
          have cr2 := (hK.kept hB2).r
          have cb2 := (hK.kept hB2).b
          clear cr cb
          go_wp2
          go_region
          all_goals
            go_wp2
            go_roundw
            case rel => exact ⟨k + 1, by omega, by go_num, by rw [hwa.out], by rw [hho.out], hN.drewN 1, below_drewN hB2 1⟩
            case measure => simp [intOf]; omega
        · obtain rfl : k = n := by omega
          go_wp2
          go_ret
          have hA := (hC.ext (V' := go R B F) fun j hj => (fill_all (go R B F) k j (by omega)).symm).done hBl
          obtain ⟨ao, cap, e, h1, h2, h3⟩ := hA
          exact ⟨ao, cap, e, h1, h2, bthen (alloc_up b1) h3⟩
  · have e : let' R B z = [] := by unfold let'; rw [if_neg h]
    rw [e]
    rw [decide_eq_false h] at hb
    go_enter Tryz.func26, Tryz.ntmps26
    go_wp2_with (go_at_call 50; refine hb.mono ?_; rintro e w1 ⟨rfl, b1⟩; clear hb)
    go_ret
    exact nil_ans (alloc_up b1)

end Go.Proofs.YtjageagnclmnjaaGreatDoor.B

namespace Go.Proofs.YtjageagnclmnjaaGreatDoor.B
set_option maxRecDepth 100000
set_option linter.unusedVariables false
set_option linter.unusedSectionVars false

/-- what waits ahead of tick t -/
def qu (R M : Int) (F : Nat → Int) : Nat → Int
  | 0 => 0
  | t + 1 => qu R M F t + F t - min (qu R M F t + F t) R - max (qu R M F t + F t - min (qu R M F t + F t) R - M) 0
/-- what goes, and is lost, at tick t -/
def qg (R M : Int) (F : Nat → Int) (t : Nat) : Int := min (qu R M F t + F t) R
def ql (R M : Int) (F : Nat → Int) (t : Nat) : Int := max (qu R M F t + F t - qg R M F t - M) 0
/-- what waits behind tick t -/
def qw (R M : Int) (F : Nat → Int) (t : Nat) : Int := qu R M F (t + 1)
theorem qu_zero (R M : Int) (F : Nat → Int) : qu R M F 0 = 0 := rfl
theorem qu_succ (R M : Int) (F : Nat → Int) (t : Nat) : qu R M F (t + 1) = qu R M F t + F t - qg R M F t - ql R M F t := rfl

section
variable {R M : Int} {F : Nat → Int} {n : Nat} (hR : inr R) (hM : inr M) (hF : ∀ j, j < n → inr (F j))
include hR hM hF
theorem qu_in (t : Nat) (ht : t ≤ n) : 0 ≤ qu R M F t ∧ qu R M F t ≤ M := by
  unfold inr at *
  induction t with
  | zero => rw [qu_zero]; omega
  | succ t ih =>
    have := ih (by omega)
    have := hF t (by omega)
    rw [qu_succ]; unfold ql qg; omega
theorem qw_in (t : Nat) (ht : t < n) : inr (qw R M F t) := by
  have := qu_in hR hM hF (t + 1) (by omega)
  unfold inr qw at *; omega
theorem qu_sum (t : Nat) (ht : t ≤ n) : acc F t = acc (qg R M F) t + acc (ql R M F) t + qu R M F t := by
  induction t with
  | zero => rfl
  | succ t ih => rw [qu_succ]; simp only [acc]; have := ih (by omega); omega
theorem lindley (t : Nat) (h : ql R M F t = 0) : qu R M F (t + 1) = max 0 (qu R M F t + F t - R) := by
  rw [qu_succ, h]; unfold qg; omega
end

/-- more room, and a faster one -/
theorem more {R M Q N : Int} {F : Nat → Int} {n : Nat} (hR : inr R) (hM : inr M) (hQ : inr Q) (hN : inr N) (hF : ∀ j, j < n → inr (F j)) (h1 : R ≤ Q) (h2 : M ≤ N) (t : Nat) (ht : t ≤ n) :
    acc (ql Q N F) t ≤ acc (ql R M F) t ∧ acc (qg R M F) t ≤ acc (qg Q N F) t := by
  induction t with
  | zero => exact ⟨Int.le_refl _, Int.le_refl _⟩
  | succ t ih =>
    obtain ⟨i1, i2⟩ := ih (by omega)
    have a := qu_sum hR hM hF t (by omega)
    have b := qu_sum hQ hN hF t (by omega)
    simp only [acc]
    have e1 : ql R M F t = max (qu R M F t + F t - qg R M F t - M) 0 := rfl
    have e2 : ql Q N F t = max (qu Q N F t + F t - qg Q N F t - N) 0 := rfl
    have e3 : qg R M F t = min (qu R M F t + F t) R := rfl
    have e4 : qg Q N F t = min (qu Q N F t + F t) Q := rfl
    omega

/-- where nothing is lost, what waits is the most by which what came in some last ticks is more than what goes in so many -/
def most (A : Nat → Int) (R : Int) (t : Nat) : Nat → Int
  | 0 => 0
  | k + 1 => max (most A R t k) (A (t + 1) - A (t - k) - ((k : Int) + 1) * R)
theorem reich_le {R M : Int} {F : Nat → Int} {n : Nat} (hR : inr R) (hM : inr M) (hF : ∀ j, j < n → inr (F j)) (h0 : ∀ j, j < n → ql R M F j = 0) (t : Nat) (ht : t ≤ n) (k : Nat) (hk : k ≤ t) :
    acc F t - acc F (t - k) - (k : Int) * R ≤ qu R M F t := by
  induction t generalizing k with
  | zero =>
    obtain rfl : k = 0 := by omega
    simp [acc, qu_zero]
  | succ t ih =>
    rw [lindley hR hM hF t (h0 t (by omega))]
    cases k with
    | zero => simp; omega
    | succ k =>
      have := ih (by omega) k (by omega)
      rw [show t + 1 - (k + 1) = t - k by omega, show ((k + 1 : Nat) : Int) * R = (k : Int) * R + R by rw [show ((k + 1 : Nat) : Int) = (k : Int) + 1 by omega, Int.add_mul, Int.one_mul]]
      simp only [acc]
      omega
/-- the first tick from t on at which G behind it is as much as x: how many later, of m that are left -/
def later (x : Int) (G : Nat → Int) (t : Nat) : Nat → Nat
  | 0 => 0
  | m + 1 => if x ≤ G (t + 1) then 0 else later x G (t + 1) m + 1
/-- how many ticks later; -1 where it is never -/
def delay (A G : Nat → Int) (n t : Nat) : Int := if t + later (A (t + 1)) G t (n - t) = n then -1 else (later (A (t + 1)) G t (n - t) : Int)
section
variable {R M : Int} {F : Nat → Int} {n : Nat} (hR : inr R) (hM : inr M) (hF : ∀ j, j < n → inr (F j)) (h0 : ∀ j, j < n → ql R M F j = 0)
include hR hM hF h0
theorem acc_zero (t : Nat) (ht : t ≤ n) : acc (ql R M F) t = 0 := by
  induction t with
  | zero => rfl
  | succ t ih => simp only [acc]; rw [ih (by omega), h0 t (by omega)]; rfl
theorem acc_up (G : Nat → Int) (h : ∀ j, j < n → inr (G j)) (t d : Nat) (ht : t + d ≤ n) : acc G t ≤ acc G (t + d) := by
  induction d with
  | zero => exact Int.le_refl _
  | succ d ih =>
    have := ih (by omega)
    have := h (t + d) (by omega)
    unfold inr at this
    rw [show t + (d + 1) = t + d + 1 by omega]
    simp only [acc]; omega
/-- of what waits behind a tick the rate goes at each later one -/
theorem gone (t : Nat) (ht : t < n) (d : Nat) (hd : t + d < n) :
    min (acc F (t + 1)) (acc (qg R M F) (t + d + 1)) = min (acc F (t + 1)) (acc F (t + 1) - qw R M F t + (d : Int) * R) := by
  have hs := fun t ht => qu_sum hR hM hF t ht
  have hz := acc_zero hR hM hF h0
  induction d with
  | zero =>
    have a := hs (t + 1) (by omega)
    rw [hz (t + 1) (by omega)] at a
    unfold qw
    simp
    omega
  | succ d ih =>
    have i := ih (by omega)
    have a := hs (t + d + 1) (by omega)
    rw [hz _ (by omega)] at a
    have u := acc_up hR hM hF h0 F hF (t + 1) d (by omega)
    rw [show t + 1 + d = t + d + 1 by omega] at u
    have f := hF (t + d + 1) (by omega)
    have q := qu_in hR hM hF (t + 1) (by omega)
    rw [show t + (d + 1) + 1 = t + d + 1 + 1 by omega, show ((d + 1 : Nat) : Int) * R = (d : Int) * R + R by rw [show ((d + 1 : Nat) : Int) = (d : Int) + 1 by omega, Int.add_mul, Int.one_mul]]
    have g : acc (qg R M F) (t + d + 1 + 1) = acc (qg R M F) (t + d + 1) + min (qu R M F (t + d + 1) + F (t + d + 1)) R := rfl
    rw [g]
    unfold inr at *
    generalize (d : Int) * R = P at *
    omega
end
/-! Rows. -/
def pw (R M : Int) (s : List Int) : List Int := if bright R M s then outs (qg R M fun j => s.getD j 0) s.length else []
def pl (R M : Int) (s : List Int) : List Int := if bright R M s then outs (ql R M fun j => s.getD j 0) s.length else []
end Go.Proofs.YtjageagnclmnjaaGreatDoor.B
