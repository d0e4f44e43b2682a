/- PROVED: what bucket.outside, slices.IndexFunc and slices.ContainsFunc over it, and bucket.Right answer. what bucket.Line answers. what bucket.Pass answers. CONDITIONS: none beyond each theorem's own. -/
import Derived.Test.YtjageagnclmnjabGreatDoorV40BAns
import Derived.Test.YtjageagnclmnjabGreatDoorV42BFlow
section
namespace Go.Proofs.YtjageagnclmnjabGreatDoor.B
set_option maxRecDepth 100000
open Go.RowKit

theorem outside_any (x : Int) (w : World) :
    Calls Tryz.prog 28 #[.int .i64 x] w fun e w' => e = .returned (.bool (decide (¬ inr x))) ∧ w' = w := by
  by_cases h0 : x < 0
  · have e : decide (¬ inr x) = true := decide_eq_true (by unfold inr; omega)
    rw [e]
    go_enter Tryz.func28, Tryz.ntmps28
    go_wp2
    go_ret
    exact ⟨rfl, rfl⟩
  · by_cases h1 : 1099511627776 < x
    · have e : decide (¬ inr x) = true := decide_eq_true (by unfold inr; omega)
      rw [e]
      go_enter Tryz.func28, Tryz.ntmps28
      go_wp2
      go_ret
      exact ⟨rfl, rfl⟩
    · have e : decide (¬ inr x) = false := decide_eq_false (by unfold inr; omega)
      rw [e]
      go_enter Tryz.func28, Tryz.ntmps28
      go_wp2
      go_ret
      exact ⟨rfl, rfl⟩

set_option maxHeartbeats 1600000 in
theorem index_any (a : Option Addr) (cap : Nat) (z : List Int) (w : World) (hz : Row w a z) (hl : z.length ≤ 35184372088832) :
    Calls Tryz.prog 46 #[.slice a z.length cap, .func (.func 28) #[] #[]] w fun e w' => ∃ k : Int, e = .returned (.int .i64 k) ∧ decide (0 ≤ k) = decide (¬ allIn z) ∧ w' = w := by
  obtain ⟨n, hn⟩ : ∃ n, z.length = n := ⟨_, rfl⟩
  have hyes : Hid ((∀ j, j < n → inr (z.getD j 0)) → decide (¬ allIn z) = false) := fun h => decide_eq_false fun k => k fun j hj => h j (by omega)
  have hno : Hid (∀ j, j < n → ¬ inr (z.getD j 0) → decide (¬ allIn z) = true) := fun j hj h => decide_eq_true fun k => h (k j (by omega))
  generalize decide (¬ allIn z) = ans at hyes hno ⊢
  rw [hn] at hl ⊢
  go_enter Tryz.func46, Tryz.ntmps46
  go_wp2
  go_loopw [8] (fun i wr => ∃ k : Nat, k ≤ n ∧ i = .int .i64 k ∧ (∀ j, j < k → inr (z.getD j 0)) ∧ w = wr) (fun i _ => n - (intOf i).toNat)
  case atStart => exact ⟨0, Nat.zero_le _, rfl, fun j h => by omega, rfl⟩
  case round =>
    obtain ⟨k, hk, rfl, hA, rfl⟩ := hrel
    by_cases hlt : k < n
    · obtain ⟨b, off, rfl, e1⟩ := hz.at (by omega)
      have cx := e1 k (by omega)
      have hkI : (k : Int) < n := by omega
      have hA2 : Hid (inr (z.getD k 0) → ∀ j, j < k + 1 → inr (z.getD j 0)) := fun h j hj => by
        by_cases e : j = k
        · subst e; exact h
        · exact hA j (by omega)
      have hno2 : Hid (¬ inr (z.getD k 0) → ans = true) := hno.out k hlt
      clear hA e1 hno
      generalize z.getD k 0 = x at cx hA2 hno2
      have ho := outside_any x w
      by_cases hx : inr x
      · rw [decide_eq_false (fun h => h hx)] at ho
        have hA3 := hA2.out hx
        replace hA3 : Hid _ := hA3
        clear hA2
        go_wp2_with (go_at_call 28; refine ho.mono ?_; rintro e w'' ⟨rfl, rfl⟩; clear ho)
        go_roundw
        case rel => exact ⟨k + 1, by omega, by go_num, hA3.out, by first | rfl | trivial⟩
        case measure => simp [intOf]; omega
      · rw [decide_eq_true hx] at ho
        have ha := hno2.out hx
        replace ha : Hid (ans = true) := ha
        go_wp2_with (go_at_call 28; refine ho.mono ?_; rintro e w'' ⟨rfl, rfl⟩; clear ho)
        go_ret
        exact ⟨k, rfl, by rw [ha.out]; exact decide_eq_true (by omega), rfl⟩
    · obtain rfl : k = n := by omega
      have ha : Hid (ans = false) := hyes.out hA
      go_wp2
      go_ret
      exact ⟨-1, rfl, by rw [ha.out]; rfl, rfl⟩

theorem contains_any (a : Option Addr) (cap : Nat) (z : List Int) (w : World) (hz : Row w a z) (hl : z.length ≤ 35184372088832) :
    Calls Tryz.prog 29 #[.slice a z.length cap, .func (.func 28) #[] #[]] w fun e w' => e = .returned (.bool (decide (¬ allIn z))) ∧ w' = w := by
  have hi := index_any a cap z w hz hl
  generalize decide (¬ allIn z) = ans at hi ⊢
  go_enter Tryz.func29, Tryz.ntmps29
  go_wp2_with (go_at_call 46; refine hi.mono ?_; rintro e w'' ⟨k, rfl, hk, rfl⟩; clear hi)
  go_ret
  exact ⟨by rw [← hk]; rfl, rfl⟩

set_option maxHeartbeats 1600000 in
theorem bright_any (R B : Int) (a : Option Addr) (cap : Nat) (z : List Int) (w : World) (hz : Row w a z) :
    Calls Tryz.prog 9 #[.agg #[.int .i64 R, .int .i64 B], .slice a z.length cap] w fun e w' => e = .returned (.bool (decide (bright R B z))) ∧ Below w.heap.size w w' := by
  have hB := balloc (Below.refl w.heap.size w) (.cells #[.int .i64 R, .int .i64 B] 23)
  have oR := outside_any R (w.alloc (.cells #[.int .i64 R, .int .i64 B] 23))
  have oB := outside_any B (w.alloc (.cells #[.int .i64 R, .int .i64 B] 23))
  by_cases hR : inr R
  · rw [decide_eq_false (fun h => h hR)] at oR
    by_cases hC : inr B
    · rw [decide_eq_false (fun h => h hC)] at oB
      by_cases hl : z.length < 300
      · have oz := contains_any a cap z (w.alloc (.cells #[.int .i64 R, .int .i64 B] 23)) (hz.alloc _) (by omega)
        have e : decide (bright R B z) = !decide (¬ allIn z) := by
          rw [Bool.eq_iff_iff]; simp [bright, hR, hC, hl]
        rw [e]
        generalize decide (¬ allIn z) = ans at oz ⊢
        clear e
        obtain ⟨n, hn⟩ : ∃ n, z.length = n := ⟨_, rfl⟩
        rw [hn] at hl oz ⊢
        have hlI : (n : Int) < 300 := by omega
        clear hn hR hC
        have T1 := True.intro
        go_enter Tryz.func9, Tryz.ntmps9
        go_wp2_with (first
          | (go_at_call 28; refine oR.mono ?_; rintro e w'' ⟨rfl, rfl⟩; clear oR)
          | (go_at_call 28; refine oB.mono ?_; rintro e w'' ⟨rfl, rfl⟩; clear oB)
          | (go_at_call 29; refine oz.mono ?_; rintro e w'' ⟨rfl, rfl⟩; clear oz))
        go_ret
        exact ⟨rfl, hB⟩
      · have e : decide (bright R B z) = false := decide_eq_false fun k => hl k.2.2.1
        rw [e]
        obtain ⟨n, hn⟩ : ∃ n, z.length = n := ⟨_, rfl⟩
        rw [hn] at hl ⊢
        have hlI : decide ((n : Int) < 300) = false := decide_eq_false (by omega)
        clear hn hR hC hl
        go_enter Tryz.func9, Tryz.ntmps9
        go_wp2_with (first
          | (go_at_call 28; refine oR.mono ?_; rintro e w'' ⟨rfl, rfl⟩; clear oR)
          | (go_at_call 28; refine oB.mono ?_; rintro e w'' ⟨rfl, rfl⟩; clear oB))
        go_ret
        exact ⟨rfl, hB⟩
    · have e : decide (bright R B z) = false := decide_eq_false fun k => hC k.2.1
      rw [e]
      rw [decide_eq_true hC] at oB
      clear hR hC
      go_enter Tryz.func9, Tryz.ntmps9
      go_wp2_with (first
        | (go_at_call 28; refine oR.mono ?_; rintro e w'' ⟨rfl, rfl⟩; clear oR)
        | (go_at_call 28; refine oB.mono ?_; rintro e w'' ⟨rfl, rfl⟩; clear oB))
      go_ret
      exact ⟨rfl, hB⟩
  · have e : decide (bright R B z) = false := decide_eq_false fun k => hR k.1
    rw [e]
    rw [decide_eq_true hR] at oR
    clear hR
    go_enter Tryz.func9, Tryz.ntmps9
    go_wp2_with (go_at_call 28; refine oR.mono ?_; rintro e w'' ⟨rfl, rfl⟩; clear oR)
    go_ret
    exact ⟨rfl, hB⟩

end Go.Proofs.YtjageagnclmnjabGreatDoor.B

end

section
namespace Go.Proofs.YtjageagnclmnjabGreatDoor.B
set_option maxRecDepth 100000
open Go.RowKit

/-- a bucket of the call's own, in block O -/
structure Bk (w : World) (O : Nat) (R B : Int) : Prop where
  r : w.cell? ⟨O, 0, none⟩ = some (.int .i64 R)
  b : w.cell? ⟨O, 1, none⟩ = some (.int .i64 B)
theorem Bk.new (w : World) (R B : Int) : Bk (w.alloc (.cells #[.int .i64 R, .int .i64 B] 23)) w.heap.size R B :=
  ⟨by rw [World.cell?_alloc_at _ _ _ _ rfl]; rfl, by rw [World.cell?_alloc_at _ _ _ _ rfl]; rfl⟩
theorem Bk.kept {w w' : World} {O : Nat} {R B : Int} (h : Bk w O R B) (b : Below w.heap.size w w') : Bk w' O R B :=
  ⟨(b.cell (p := ⟨O, 0, none⟩) (block_lt h.r)).trans h.r, (b.cell (p := ⟨O, 1, none⟩) (block_lt h.b)).trans h.b⟩
theorem Bk.alloc {w : World} {O : Nat} {R B : Int} (h : Bk w O R B) (o : Obj) : Bk (w.alloc o) O R B := h.kept (balloc (Below.refl _ _) o)
theorem alloc_up {w w1 : World} {o : Obj} (h : Below (w.alloc o).heap.size (w.alloc o) w1) : Below w.heap.size w w1 := bthen (balloc (Below.refl _ _) o) h

theorem nil_ans {w w' : World} (b : Below w.heap.size w w') : Ans w [] (.returned (.slice none 0 0)) w' := ⟨none, 0, rfl, Nat.le_refl _, .inl rfl, b⟩

end Go.Proofs.YtjageagnclmnjabGreatDoor.B

end

section
namespace Go.Proofs.YtjageagnclmnjabGreatDoor.B
set_option maxRecDepth 100000
open Go.RowKit

theorem Bk.drewN {w : World} {O : Nat} {R B : Int} (h : Bk w O R B) (q : Nat) : Bk (w.drewN q) O R B := ⟨h.r, h.b⟩

set_option maxHeartbeats 3200000 in
theorem pass_any (R B : Int) (a : Option Addr) (cap : Nat) (z : List Int) (w : World) (hz : Row w a z) :
    Calls Tryz.prog 8 #[.agg #[.int .i64 R, .int .i64 B], .slice a z.length cap] w (Ans w (let' R B z)) := by
  have hb := bright_any R B a cap z (w.alloc (.cells #[.int .i64 R, .int .i64 B] 23)) (hz.alloc _)
  by_cases h : bright R B z
  · have e : let' R B z = pass R B z := by unfold let'; rw [if_pos h]
    rw [e]
    clear e
    rw [decide_eq_true h] at hb
    obtain ⟨hR, hB, hn0, hF⟩ := h
    unfold pass
    obtain ⟨n, hn⟩ : ∃ n, z.length = n := ⟨_, rfl⟩
    have hz2 : Hid (Row w a z) := hz
    unfold allIn at hF
    rw [hn] at hb hn0 hF ⊢
    replace hn : Hid (z.length = n) := hn
    have hz3 : ∀ v, Below w.heap.size w v → 0 < n → ∃ b o, a = some ⟨b, o, none⟩ ∧ ∀ j, j < n → v.cell? ⟨b, o + j, none⟩ = some (.int .i64 (z.getD j 0)) := fun v hv hp => by
      obtain ⟨b, o, e, k⟩ := (hz2.out.kept hv).at (by rw [hn.out]; exact hp)
      exact ⟨b, o, e, fun j hj => k j (by rw [hn.out]; exact hj)⟩
    replace hz3 : Hid _ := hz3
    clear hz
    generalize hFd : (fun j => z.getD j 0) = F
    have hFF : ∀ j, z.getD j 0 = F j := fun j => by rw [← hFd]
    clear hFd
    have hFi : ∀ j, j < n → inr (F j) := fun j hj => by rw [← hFF]; exact hF j hj
    replace hFF : Hid _ := hFF
    clear hF
    have hst := st_in hR hB hFi
    have htop := fun t ht => wa_top hR hB hFi t ht (Nat.le_of_lt hn0)
    have hinr := hFi
    replace hst : Hid _ := hst
    replace htop : Hid _ := htop
    replace hinr : Hid _ := hinr
    clear hFi
    unfold inr at hR hB
    go_enter Tryz.func8, Tryz.ntmps8
    go_wp2_with (go_at_call 9; refine hb.mono ?_; rintro e w1 ⟨rfl, b1⟩; clear hb; have hmk := run_make_row' (P := Tryz.prog) 24 3 (.int .i64 0) 8 Tryz.underlying24 Tryz.info3 rfl .i64 .i64 n (by omega) (by omega); have hK : Bk w1 w.heap.size R B := (Bk.new w R B).kept b1; have hK2 := (hK.alloc (.cells (madeCells #[.int .i64 0] n) 3)).b)
    have hs0 : Cells (w1.alloc (.cells (madeCells #[.int .i64 0] n) 3)) w1.heap.size n (fill (go R B F) 0) := Cells.start w1 n _ fun j _ => rfl
    go_region
    all_goals
      clear hK2 hmk
      go_wp2
      go_loopw [6, 7, 21] (fun wv hv i wr => ∃ k : Nat, k ≤ n ∧ i = .int .i64 k ∧ wv = .int .i64 (wa R B F k) ∧ hv = .int .i64 (ho R B F k) ∧ Cells wr w1.heap.size n (fill (go R B F) k) ∧ Below w1.heap.size w1 wr) (fun _ _ i _ => n - (intOf i).toNat)
      case atStart => exact ⟨0, Nat.zero_le _, rfl, rfl, rfl, hs0.drewN 1, below_drewN (balloc (Below.refl _ _) _) 1⟩
      case round =>
        obtain ⟨k, hk, rfl, rfl, rfl, hC, hBl⟩ := hrel
        clear hs0
        by_cases hlt : k < n
        · obtain ⟨b, o, rfl, e1⟩ := hz3.out wr (bthen (alloc_up b1) hBl) (by omega)
          have cx := e1 k hlt
          rw [hFF.out] at cx
          clear e1
          have cr := (hK.kept hBl).r
          have cb := (hK.kept hBl).b
          have cc := hC.c k hlt
          have cf := hC.fz k hlt
          have hN := hC.put (V' := fill (go R B F) (k + 1)) hlt (fill_new (go R B F) k) (fun j _ hj => fill_old (go R B F) k j hj)
          have hwa := wa_succ R B F k
          have hho := ho_succ R B F k
          have hgo : go R B F k = min (wa R B F k + F k) (ho R B F k) := rfl
          rw [hgo] at hN hwa hho
          clear hgo
          have hlI : (k : Int) < n := by omega
          have i1 := hst.out k hk
          have i2 := htop.out k hk
          have i3 := hinr.out k hlt
          unfold inr at i3
          replace hwa : Hid _ := hwa
          replace hho : Hid _ := hho
          generalize fill (go R B F) k k = old at cc
          generalize F k = x at *
          generalize wa R B F k = W at *
          generalize ho R B F k = H at *
          have hB2 := hBl.setCell (p := ⟨w1.heap.size, k, none⟩) (Nat.le_refl _) (.int .i64 (min (W + x) H))
          have cr2 := (hK.kept hB2).r
          have cb2 := (hK.kept hB2).b
          clear cr cb
          go_wp2
          go_region
          all_goals
            go_wp2
            go_roundw
            case rel => exact ⟨k + 1, by omega, by go_num, by rw [hwa.out], by rw [hho.out], hN.drewN 1, below_drewN hB2 1⟩
            case measure => simp [intOf]; omega
        · obtain rfl : k = n := by omega
          go_wp2
          go_ret
          have hA := (hC.ext (V' := go R B F) fun j hj => (fill_all (go R B F) k j (by omega)).symm).done hBl
          obtain ⟨ao, cap, e, h1, h2, h3⟩ := hA
          exact ⟨ao, cap, e, h1, h2, bthen (alloc_up b1) h3⟩
  · have e : let' R B z = [] := by unfold let'; rw [if_neg h]
    rw [e]
    rw [decide_eq_false h] at hb
    go_enter Tryz.func8, Tryz.ntmps8
    go_wp2_with (go_at_call 9; refine hb.mono ?_; rintro e w1 ⟨rfl, b1⟩; clear hb)
    go_ret
    exact nil_ans (alloc_up b1)

end Go.Proofs.YtjageagnclmnjabGreatDoor.B

end
