/- PROVED: what bucket.Line answers. what bucket.Pass answers. a queue on plain integers: what goes, is lost and waits, and what the promises say of one another. what queue.Right and queue.Play answer. CONDITIONS: none beyond each theorem's own. -/
import Derived.Test.YtjageagnclmnjabGreatDoorC40BBRight
import Derived.Deep.CutRange
section
namespace Go.Proofs.YtjageagnclmnjabGreatDoor.B
set_option maxRecDepth 100000
open Go.RowKit

/-- a bucket of the call's own, in block O -/
structure Bk (w : World) (O : Nat) (R B : Int) : Prop where
  r : w.cell? ⟨O, 0, none⟩ = some (.int .i64 R)
  b : w.cell? ⟨O, 1, none⟩ = some (.int .i64 B)
theorem Bk.new (w : World) (R B : Int) : Bk (w.alloc (.cells #[.int .i64 R, .int .i64 B] 23)) w.heap.size R B :=
  ⟨by rw [World.cell?_alloc_at _ _ _ _ rfl]; rfl, by rw [World.cell?_alloc_at _ _ _ _ rfl]; rfl⟩
theorem Bk.kept {w w' : World} {O : Nat} {R B : Int} (h : Bk w O R B) (b : Below w.heap.size w w') : Bk w' O R B :=
  ⟨(b.cell (p := ⟨O, 0, none⟩) (block_lt h.r)).trans h.r, (b.cell (p := ⟨O, 1, none⟩) (block_lt h.b)).trans h.b⟩
theorem Bk.alloc {w : World} {O : Nat} {R B : Int} (h : Bk w O R B) (o : Obj) : Bk (w.alloc o) O R B := h.kept (balloc (Below.refl _ _) o)
theorem alloc_up {w w1 : World} {o : Obj} (h : Below (w.alloc o).heap.size (w.alloc o) w1) : Below w.heap.size w w1 := bthen (balloc (Below.refl _ _) o) h

theorem nil_ans {w w' : World} (b : Below w.heap.size w w') : Ans w [] (.returned (.slice none 0 0)) w' := ⟨none, 0, rfl, Nat.le_refl _, .inl rfl, b⟩

end Go.Proofs.YtjageagnclmnjabGreatDoor.B

end

section
namespace Go.Proofs.YtjageagnclmnjabGreatDoor.B
set_option maxRecDepth 100000
open Go.RowKit

theorem Bk.drewN {w : World} {O : Nat} {R B : Int} (h : Bk w O R B) (q : Nat) : Bk (w.drewN q) O R B := ⟨h.r, h.b⟩

set_option maxHeartbeats 3200000 in
theorem pass_any (R B : Int) (a : Option Addr) (cap : Nat) (z : List Int) (w : World) (hz : Row w a z) :
    Calls Tryz.prog 8 #[.agg #[.int .i64 R, .int .i64 B], .slice a z.length cap] w (Ans w (let' R B z)) := by
  have hb := bright_any R B a cap z (w.alloc (.cells #[.int .i64 R, .int .i64 B] 23)) (hz.alloc _)
  by_cases h : bright R B z
  · have e : let' R B z = pass R B z := by unfold let'; rw [if_pos h]
    rw [e]
    clear e
    rw [decide_eq_true h] at hb
    obtain ⟨hR, hB, hn0, hF⟩ := h
    unfold pass
    obtain ⟨n, hn⟩ : ∃ n, z.length = n := ⟨_, rfl⟩
    have hz2 : Hid (Row w a z) := hz
    unfold allIn at hF
    rw [hn] at hb hn0 hF ⊢
    replace hn : Hid (z.length = n) := hn
    have hz3 : ∀ v, Below w.heap.size w v → 0 < n → ∃ b o, a = some ⟨b, o, none⟩ ∧ ∀ j, j < n → v.cell? ⟨b, o + j, none⟩ = some (.int .i64 (z.getD j 0)) := fun v hv hp => by
      obtain ⟨b, o, e, k⟩ := (hz2.out.kept hv).at (by rw [hn.out]; exact hp)
      exact ⟨b, o, e, fun j hj => k j (by rw [hn.out]; exact hj)⟩
    replace hz3 : Hid _ := hz3
    clear hz
    generalize hFd : (fun j => z.getD j 0) = F
    have hFF : ∀ j, z.getD j 0 = F j := fun j => by rw [← hFd]
    clear hFd
    have hFi : ∀ j, j < n → inr (F j) := fun j hj => by rw [← hFF]; exact hF j hj
    replace hFF : Hid _ := hFF
    clear hF
    have hst := st_in hR hB hFi
    have htop := fun t ht => wa_top hR hB hFi t ht (Nat.le_of_lt hn0)
    have hinr := hFi
    replace hst : Hid _ := hst
    replace htop : Hid _ := htop
    replace hinr : Hid _ := hinr
    clear hFi
    unfold inr at hR hB
    go_enter Tryz.func8, Tryz.ntmps8
    go_wp2_with (go_at_call 9; refine hb.mono ?_; rintro e w1 ⟨rfl, b1⟩; clear hb; have hmk := run_make_row' (P := Tryz.prog) 24 3 (.int .i64 0) 8 Tryz.underlying24 Tryz.info3 rfl .i64 .i64 n (by omega) (by omega); have hK : Bk w1 w.heap.size R B := (Bk.new w R B).kept b1; have hK2 := (hK.alloc (.cells (madeCells #[.int .i64 0] n) 3)).b)
    have hs0 : Cells (w1.alloc (.cells (madeCells #[.int .i64 0] n) 3)) w1.heap.size n (fill (go R B F) 0) := Cells.start w1 n _ fun j _ => rfl
    go_region
    all_goals
      clear hK2 hmk
      go_wp2
      go_loopw [6, 7, 21] (fun wv hv i wr => ∃ k : Nat, k ≤ n ∧ i = .int .i64 k ∧ wv = .int .i64 (wa R B F k) ∧ hv = .int .i64 (ho R B F k) ∧ Cells wr w1.heap.size n (fill (go R B F) k) ∧ Below w1.heap.size w1 wr) (fun _ _ i _ => n - (intOf i).toNat)
      case atStart => exact ⟨0, Nat.zero_le _, rfl, rfl, rfl, hs0.drewN 1, below_drewN (balloc (Below.refl _ _) _) 1⟩
      case round =>
        obtain ⟨k, hk, rfl, rfl, rfl, hC, hBl⟩ := hrel
        clear hs0
        by_cases hlt : k < n
        · obtain ⟨b, o, rfl, e1⟩ := hz3.out wr (bthen (alloc_up b1) hBl) (by omega)
          have cx := e1 k hlt
          rw [hFF.out] at cx
          clear e1
          have cr := (hK.kept hBl).r
          have cb := (hK.kept hBl).b
          have cc := hC.c k hlt
          have cf := hC.fz k hlt
          have hN := hC.put (V' := fill (go R B F) (k + 1)) hlt (fill_new (go R B F) k) (fun j _ hj => fill_old (go R B F) k j hj)
          have hwa := wa_succ R B F k
          have hho := ho_succ R B F k
          have hgo : go R B F k = min (wa R B F k + F k) (ho R B F k) := rfl
          rw [hgo] at hN hwa hho
          clear hgo
          have hlI : (k : Int) < n := by omega
          have i1 := hst.out k hk
          have i2 := htop.out k hk
          have i3 := hinr.out k hlt
          unfold inr at i3
          replace hwa : Hid _ := hwa
          replace hho : Hid _ := hho
          generalize fill (go R B F) k k = old at cc
          generalize F k = x at *
          generalize wa R B F k = W at *
          generalize ho R B F k = H at *
          have hB2 := hBl.setCell (p := ⟨w1.heap.size, k, none⟩) (Nat.le_refl _) (.int .i64 (min (W + x) H))
          have cr2 := (hK.kept hB2).r
          have cb2 := (hK.kept hB2).b
          clear cr cb
          go_wp2
          go_region
          all_goals
            go_wp2
            go_roundw
            case rel => exact ⟨k + 1, by omega, by go_num, by rw [hwa.out], by rw [hho.out], hN.drewN 1, below_drewN hB2 1⟩
            case measure => simp [intOf]; omega
        · obtain rfl : k = n := by omega
          go_wp2
          go_ret
          have hA := (hC.ext (V' := go R B F) fun j hj => (fill_all (go R B F) k j (by omega)).symm).done hBl
          obtain ⟨ao, cap, e, h1, h2, h3⟩ := hA
          exact ⟨ao, cap, e, h1, h2, bthen (alloc_up b1) h3⟩
  · have e : let' R B z = [] := by unfold let'; rw [if_neg h]
    rw [e]
    rw [decide_eq_false h] at hb
    go_enter Tryz.func8, Tryz.ntmps8
    go_wp2_with (go_at_call 9; refine hb.mono ?_; rintro e w1 ⟨rfl, b1⟩; clear hb)
    go_ret
    exact nil_ans (alloc_up b1)

end Go.Proofs.YtjageagnclmnjabGreatDoor.B

end

section
namespace Go.Proofs.YtjageagnclmnjabGreatDoor.B
set_option maxRecDepth 100000
set_option linter.unusedVariables false
set_option linter.unusedSectionVars false

/-- what waits ahead of tick t -/
def qu (R M : Int) (F : Nat → Int) : Nat → Int
  | 0 => 0
  | t + 1 => qu R M F t + F t - min (qu R M F t + F t) R - max (qu R M F t + F t - min (qu R M F t + F t) R - M) 0
/-- what goes, and is lost, at tick t -/
def qg (R M : Int) (F : Nat → Int) (t : Nat) : Int := min (qu R M F t + F t) R
def ql (R M : Int) (F : Nat → Int) (t : Nat) : Int := max (qu R M F t + F t - qg R M F t - M) 0
/-- what waits behind tick t -/
def qw (R M : Int) (F : Nat → Int) (t : Nat) : Int := qu R M F (t + 1)
theorem qu_zero (R M : Int) (F : Nat → Int) : qu R M F 0 = 0 := rfl
theorem qu_succ (R M : Int) (F : Nat → Int) (t : Nat) : qu R M F (t + 1) = qu R M F t + F t - qg R M F t - ql R M F t := rfl

section
variable {R M : Int} {F : Nat → Int} {n : Nat} (hR : inr R) (hM : inr M) (hF : ∀ j, j < n → inr (F j))
include hR hM hF
theorem qu_in (t : Nat) (ht : t ≤ n) : 0 ≤ qu R M F t ∧ qu R M F t ≤ M := by
  unfold inr at *
  induction t with
  | zero => rw [qu_zero]; omega
  | succ t ih =>
    have := ih (by omega)
    have := hF t (by omega)
    rw [qu_succ]; unfold ql qg; omega
end

/-- where nothing is lost, what waits is the most by which what came in some last ticks is more than what goes in so many -/
def most (A : Nat → Int) (R : Int) (t : Nat) : Nat → Int
  | 0 => 0
  | k + 1 => max (most A R t k) (A (t + 1) - A (t - k) - ((k : Int) + 1) * R)
/-- the first tick from t on at which G behind it is as much as x: how many later, of m that are left -/
def later (x : Int) (G : Nat → Int) (t : Nat) : Nat → Nat
  | 0 => 0
  | m + 1 => if x ≤ G (t + 1) then 0 else later x G (t + 1) m + 1
section
variable {R M : Int} {F : Nat → Int} {n : Nat} (hR : inr R) (hM : inr M) (hF : ∀ j, j < n → inr (F j)) (h0 : ∀ j, j < n → ql R M F j = 0)
include hR hM hF h0
end
/-! Rows. -/
end Go.Proofs.YtjageagnclmnjabGreatDoor.B

end

section
namespace Go.Proofs.YtjageagnclmnjabGreatDoor.B
set_option maxRecDepth 100000
open Go.RowKit

theorem qright_any (R M : Int) (a : Option Addr) (cap : Nat) (z : List Int) (w : World) (hz : Row w a z) :
    Calls Tryz.prog 10 #[.int .i64 R, .int .i64 M, .slice a z.length cap] w fun e w' => e = .returned (.bool (decide (bright R M z))) ∧ Below w.heap.size w w' := by
  have hb := bright_any R M a cap z w hz
  generalize decide (bright R M z) = ans at hb ⊢
  generalize z.length = n at hb ⊢
  go_enter Tryz.func10, Tryz.ntmps10
  go_wp2_with (go_at_call 9; refine hb.mono ?_; rintro e w1 ⟨rfl, b1⟩; clear hb)
  go_ret
  exact ⟨rfl, b1⟩

theorem Cells.other {w : World} {O n : Nat} {V : Nat → Int} (h : Cells w O n V) {p : Addr} (hp : p.block ≠ O) (v : Value) : Cells (w.setCell p v) O n V := by
  refine ⟨fun j hj => ?_, fun j hj => ?_⟩
  · rw [World.cell?_setCell_other _ _ _ _ (fun q => hp (by rw [q]))]
    exact h.c j hj
  · rw [World.frozen?_setCell]; exact h.fz j hj
theorem Cells.kept {w w' : World} {O n : Nat} {V : Nat → Int} (h : Cells w O n V) (hO : O < w.heap.size) (b : Below w.heap.size w w') : Cells w' O n V :=
  ⟨fun j hj => (b.cell (p := ⟨O, j, none⟩) hO).trans (h.c j hj), fun j hj => by
    rw [World.frozen?_of_block (w := w) (b.block O hO)]; exact h.fz j hj⟩

/-- three rows that may be written, each in a block of its own: k of each are there -/
structure Tri (w v : World) (A B C n : Nat) (f g h : Nat → Int) (k : Nat) : Prop where
  a : Cells v A n (fill f k)
  b : Cells v B n (fill g k)
  c : Cells v C n (fill h k)
  ab : A ≠ B
  ac : A ≠ C
  bc : B ≠ C
  lo : w.heap.size ≤ A ∧ w.heap.size ≤ B ∧ w.heap.size ≤ C
  below : Below w.heap.size w v
theorem Tri.drewN {w v : World} {A B C n : Nat} {f g h : Nat → Int} {k : Nat} (t : Tri w v A B C n f g h k) (q : Nat) : Tri w (v.drewN q) A B C n f g h k :=
  ⟨t.a.drewN q, t.b.drewN q, t.c.drewN q, t.ab, t.ac, t.bc, t.lo, below_drewN t.below q⟩
theorem Tri.put {w v : World} {A B C n : Nat} {f g h : Nat → Int} {k : Nat} (t : Tri w v A B C n f g h k) (hk : k < n) {x y z : Int} (hx : f k = x) (hy : g k = y) (hz : h k = z) :
    Tri w (((v.setCell ⟨A, k, none⟩ (.int .i64 x)).setCell ⟨B, k, none⟩ (.int .i64 y)).setCell ⟨C, k, none⟩ (.int .i64 z)) A B C n f g h (k + 1) := by
  refine ⟨?_, ?_, ?_, t.ab, t.ac, t.bc, t.lo, ?_⟩
  · exact ((t.a.put hk ((fill_new f k).trans hx) (fun j _ hj => fill_old f k j hj)).other (fun q => t.ab q.symm) _).other (fun q => t.ac q.symm) _
  · exact ((t.b.other (p := ⟨A, k, none⟩) t.ab _).put hk ((fill_new g k).trans hy) (fun j _ hj => fill_old g k j hj)).other (fun q => t.bc q.symm) _
  · exact ((t.c.other (p := ⟨A, k, none⟩) t.ac _).other (p := ⟨B, k, none⟩) t.bc _).put hk ((fill_new h k).trans hz) (fun j _ hj => fill_old h k j hj)
  · exact ((t.below.setCell (p := ⟨A, k, none⟩) t.lo.1 _).setCell (p := ⟨B, k, none⟩) t.lo.2.1 _).setCell (p := ⟨C, k, none⟩) t.lo.2.2 _

/-- what a call answers: three rows of n numbers -/
def Ans3 (w : World) (n : Nat) (X Y Z : List Int) (e : Ending) (w' : World) : Prop :=
  ∃ a1 c1 a2 c2 a3 c3, e = .returned (.tuple #[.slice a1 n c1, .slice a2 n c2, .slice a3 n c3]) ∧ n ≤ c1 ∧ Row w' a1 X ∧ Row w' a2 Y ∧ Row w' a3 Z ∧ Below w.heap.size w w'

theorem tri_start (w v : World) (b : Below w.heap.size w v) (n : Nat) (f g h : Nat → Int) (A B C a b' c : Nat) (ha : A = v.heap.size + a) (hb : B = v.heap.size + b') (hc : C = v.heap.size + c) (h3 : a < 3 ∧ b' < 3 ∧ c < 3 ∧ a ≠ b' ∧ a ≠ c ∧ b' ≠ c) :
    Tri w (((v.alloc (.cells (madeCells #[.int .i64 0] n) 3)).alloc (.cells (madeCells #[.int .i64 0] n) 3)).alloc (.cells (madeCells #[.int .i64 0] n) 3)) A B C n f g h 0 := by
  have hs := b.size
  have hall : ∀ (u : Nat) (V : Nat → Int), u < 3 → (∀ j, j < n → V j = 0) → Cells (((v.alloc (.cells (madeCells #[.int .i64 0] n) 3)).alloc (.cells (madeCells #[.int .i64 0] n) 3)).alloc (.cells (madeCells #[.int .i64 0] n) 3)) (v.heap.size + u) n V := by
    intro u V hu hV
    have n1 : (v.alloc (.cells (madeCells #[.int .i64 0] n) 3)).heap.size = v.heap.size + 1 := by simp
    have n2 : ((v.alloc (.cells (madeCells #[.int .i64 0] n) 3)).alloc (.cells (madeCells #[.int .i64 0] n) 3)).heap.size = v.heap.size + 2 := by simp
    match u, hu with
    | 0, _ => exact ((Cells.start v n V hV).kept (by rw [n1]; omega) (balloc (Below.refl _ _) _)).kept (by rw [n2]; omega) (balloc (Below.refl _ _) _)
    | 1, _ =>
      have := Cells.start (v.alloc (.cells (madeCells #[.int .i64 0] n) 3)) n V hV
      rw [n1] at this
      exact this.kept (by rw [n2]; omega) (balloc (Below.refl _ _) _)
    | 2, _ =>
      have := Cells.start ((v.alloc (.cells (madeCells #[.int .i64 0] n) 3)).alloc (.cells (madeCells #[.int .i64 0] n) 3)) n V hV
      rw [n2] at this
      exact this
  subst ha hb hc
  exact ⟨hall _ _ h3.1 fun _ _ => rfl, hall _ _ h3.2.1 fun _ _ => rfl, hall _ _ h3.2.2.1 fun _ _ => rfl, by omega, by omega, by omega, by omega, balloc (balloc (balloc b _) _) _⟩

set_option maxHeartbeats 3200000 in
theorem play_any (R M : Int) (a : Option Addr) (cap : Nat) (z : List Int) (w : World) (hz : Row w a z) (h : bright R M z) :
    Calls Tryz.prog 11 #[.int .i64 R, .int .i64 M, .slice a z.length cap] w (Ans3 w z.length (outs (qg R M fun j => z.getD j 0) z.length) (outs (ql R M fun j => z.getD j 0) z.length) (outs (qw R M fun j => z.getD j 0) z.length)) := by
  have hb := qright_any R M a cap z w hz
  rw [decide_eq_true h] at hb
  obtain ⟨hR, hM, hn0, hF⟩ := h
  obtain ⟨n, hn⟩ : ∃ n, z.length = n := ⟨_, rfl⟩
  have hz2 : Hid (Row w a z) := hz
  unfold allIn at hF
  rw [hn] at hb hn0 hF ⊢
  replace hn : Hid (z.length = n) := hn
  have hz3 : ∀ v, Below w.heap.size w v → 0 < n → ∃ b o, a = some ⟨b, o, none⟩ ∧ ∀ j, j < n → v.cell? ⟨b, o + j, none⟩ = some (.int .i64 (z.getD j 0)) := fun v hv hp => by
    obtain ⟨b, o, e, k⟩ := (hz2.out.kept hv).at (by rw [hn.out]; exact hp)
    exact ⟨b, o, e, fun j hj => k j (by rw [hn.out]; exact hj)⟩
  replace hz3 : Hid _ := hz3
  clear hz
  generalize hFd : (fun j => z.getD j 0) = F
  have hFF : ∀ j, z.getD j 0 = F j := fun j => by rw [← hFd]
  clear hFd
  have hFi : ∀ j, j < n → inr (F j) := fun j hj => by rw [← hFF]; exact hF j hj
  replace hFF : Hid _ := hFF
  clear hF
  have hst := qu_in hR hM hFi
  have hinr := hFi
  replace hst : Hid _ := hst
  replace hinr : Hid _ := hinr
  clear hFi
  unfold inr at hR hM
  go_enter Tryz.func11, Tryz.ntmps11
  go_upto_region 3 with (go_at_call 10; refine hb.mono ?_; rintro e w1 ⟨rfl, b1⟩; clear hb; have hmk := run_make_row' (P := Tryz.prog) 24 3 (.int .i64 0) 8 Tryz.underlying24 Tryz.info3 rfl .i64 .i64 n (by omega) (by omega))
  go_cut [6, 7, 8] from 17 to 25 (fun g l q wc => ∃ A B C : Nat, g = .slice (some ⟨A, 0, none⟩) n n ∧ l = .slice (some ⟨B, 0, none⟩) n n ∧ q = .slice (some ⟨C, 0, none⟩) n n ∧ Tri w wc A B C n (qg R M F) (ql R M F) (qw R M F) 0)
  case first =>
    go_region
    all_goals
      go_wp2
      go_meet
      first
        | exact ⟨_, _, _, rfl, rfl, rfl, (tri_start w w1 b1 n _ _ _ _ _ _ 0 1 2 (by omega) (by omega) (by omega) (by decide)).drewN 1⟩
        | exact ⟨_, _, _, rfl, rfl, rfl, (tri_start w w1 b1 n _ _ _ _ _ _ 0 2 1 (by omega) (by omega) (by omega) (by decide)).drewN 1⟩
        | exact ⟨_, _, _, rfl, rfl, rfl, (tri_start w w1 b1 n _ _ _ _ _ _ 1 0 2 (by omega) (by omega) (by omega) (by decide)).drewN 1⟩
        | exact ⟨_, _, _, rfl, rfl, rfl, (tri_start w w1 b1 n _ _ _ _ _ _ 2 0 1 (by omega) (by omega) (by omega) (by decide)).drewN 1⟩
        | exact ⟨_, _, _, rfl, rfl, rfl, (tri_start w w1 b1 n _ _ _ _ _ _ 1 2 0 (by omega) (by omega) (by omega) (by decide)).drewN 1⟩
        | exact ⟨_, _, _, rfl, rfl, rfl, (tri_start w w1 b1 n _ _ _ _ _ _ 2 1 0 (by omega) (by omega) (by omega) (by decide)).drewN 1⟩
  case rest =>
    obtain ⟨A, B, C, rfl, rfl, rfl, hT0⟩ := hcut
    clear hmk
    go_wp2
    go_loopw [9, 28] (fun lv i wr => ∃ k : Nat, k ≤ n ∧ i = .int .i64 k ∧ lv = .int .i64 (qu R M F k) ∧ Tri w wr A B C n (qg R M F) (ql R M F) (qw R M F) k) (fun _ i _ => n - (intOf i).toNat)
    case atStart => exact ⟨0, Nat.zero_le _, rfl, rfl, hT0⟩
    case round =>
      obtain ⟨k, hk, rfl, rfl, hT⟩ := hrel
      clear hT0
      by_cases hlt : k < n
      · obtain ⟨b, o, rfl, e1⟩ := hz3.out wr hT.below (by omega)
        have cx := e1 k hlt
        rw [hFF.out] at cx
        clear e1
        have hgo : Hid (qg R M F k = min (qu R M F k + F k) R) := rfl
        have hlo : Hid (ql R M F k = max (qu R M F k + F k - min (qu R M F k + F k) R - M) 0) := rfl
        have hqw : Hid (qw R M F k = qu R M F k + F k - min (qu R M F k + F k) R - max (qu R M F k + F k - min (qu R M F k + F k) R - M) 0) := rfl
        have hqu : Hid (qu R M F (k + 1) = qu R M F k + F k - min (qu R M F k + F k) R - max (qu R M F k + F k - min (qu R M F k + F k) R - M) 0) := rfl
        have hlI : (k : Int) < n := by omega
        have i1 := hst.out k hk
        have i3 := hinr.out k hlt
        unfold inr at i3
        generalize F k = x at *
        generalize qu R M F k = W at *
        have hN := hT.put hlt hgo.out hlo.out hqw.out
        have ca := hT.a.c k hlt
        have fa := hT.a.fz k hlt
        have cb := (hT.b.other (p := ⟨A, k, none⟩) hT.ab (.int .i64 (min (W + x) R))).c k hlt
        have fb := (hT.b.other (p := ⟨A, k, none⟩) hT.ab (.int .i64 (min (W + x) R))).fz k hlt
        have cc := ((hT.c.other (p := ⟨A, k, none⟩) hT.ac (.int .i64 (min (W + x) R))).other (p := ⟨B, k, none⟩) hT.bc (.int .i64 (max (W + x - min (W + x) R - M) 0))).c k hlt
        have fc := ((hT.c.other (p := ⟨A, k, none⟩) hT.ac (.int .i64 (min (W + x) R))).other (p := ⟨B, k, none⟩) hT.bc (.int .i64 (max (W + x - min (W + x) R - M) 0))).fz k hlt
        generalize fill (qg R M F) k k = oa at ca
        generalize fill (ql R M F) k k = ob at cb
        generalize fill (qw R M F) k k = oc at cc
        go_wp2
        go_roundw
        case rel => exact ⟨k + 1, by omega, by go_num, by rw [hqu.out], hN⟩
        case measure => simp [intOf]; omega
      · obtain rfl : k = n := by omega
        go_wp2
        go_ret3
        exact ⟨_, _, _, _, _, _, rfl, Nat.le_refl _, (hT.a.ext fun j hj => (fill_all (qg R M F) k j hj).symm).row, (hT.b.ext fun j hj => (fill_all (ql R M F) k j hj).symm).row, (hT.c.ext fun j hj => (fill_all (qw R M F) k j hj).symm).row, hT.below⟩

end Go.Proofs.YtjageagnclmnjabGreatDoor.B

end
