/- PROVED: numbers that may be written; what jitter.outside, slices.IndexFunc and slices.ContainsFunc over it, slices.IsSorted and jitter.Right answer. CONDITIONS: none beyond each theorem's own. -/
import Derived.Test.YtjageagnclmnjabGreatDoorC48JLate
namespace Go.Proofs.YtjageagnclmnjabGreatDoor.J
set_option maxRecDepth 100000
open Go.RowKit

/-- n numbers that may be written, in block O -/
structure Cells (w : World) (O n : Nat) (V : Nat → Int) : Prop where
  c : ∀ j, j < n → w.cell? ⟨O, j, none⟩ = some (.int .i64 (V j))
  fz : ∀ j, j < n → w.frozen? ⟨O, j, none⟩ = false
theorem Cells.start (w : World) (n : Nat) (V : Nat → Int) (hV : ∀ j, j < n → V j = 0) : Cells (w.alloc (.cells (madeCells #[.int .i64 0] n) 3)) w.heap.size n V := by
  refine ⟨fun j hj => ?_, fun j hj => ?_⟩
  · rw [World.cell?_alloc_at _ _ _ _ rfl, hV j hj]
    simp [madeCells, hj, Nat.mod_one]
  · rw [World.frozen?_alloc_at _ _ _ _ rfl]
theorem Cells.put {w : World} {O n : Nat} {V V' : Nat → Int} (h : Cells w O n V) {k : Nat} (hk : k < n) {v : Int} (hv : V' k = v) (hj : ∀ j, j < n → j ≠ k → V' j = V j) : Cells (w.setCell ⟨O, k, none⟩ (.int .i64 v)) O n V' := by
  refine ⟨fun j hjn => ?_, fun j hjn => ?_⟩
  · by_cases e : j = k
    · subst e; subst hv
      exact World.cell?_setCell_same _ _ _ (h.c j hk)
    · rw [World.cell?_setCell_other _ _ _ _ (fun q => e (by injection q with _ q _; exact q.symm)), hj j hjn e]
      exact h.c j hjn
  · rw [World.frozen?_setCell]; exact h.fz j hjn
theorem Cells.drewN {w : World} {O n : Nat} {V : Nat → Int} (h : Cells w O n V) (q : Nat) : Cells (w.drewN q) O n V := ⟨h.c, h.fz⟩
theorem Cells.ext {w : World} {O n : Nat} {V V' : Nat → Int} (h : Cells w O n V) (e : ∀ j, j < n → V' j = V j) : Cells w O n V' := ⟨fun j hj => by rw [e j hj]; exact h.c j hj, h.fz⟩
theorem Cells.row {w : World} {O n : Nat} {f : Nat → Int} (h : Cells w O n f) : Row w (some ⟨O, 0, none⟩) (outs f n) := .inr ⟨O, 0, rfl, fun j hj => by
  rw [outs_len] at hj
  rw [Nat.zero_add, outs_getD _ _ _ hj]; exact h.c j hj⟩
/-- the first k are there -/
def fill (f : Nat → Int) (k j : Nat) : Int := if j < k then f j else 0
theorem fill_new (f : Nat → Int) (k : Nat) : fill f (k + 1) k = f k := by unfold fill; rw [if_pos (by omega)]
theorem fill_old (f : Nat → Int) (k j : Nat) (h : j ≠ k) : fill f (k + 1) j = fill f k j := by
  unfold fill
  by_cases e : j < k
  · rw [if_pos e, if_pos (by omega)]
  · rw [if_neg e, if_neg (by omega)]
theorem fill_all (f : Nat → Int) (n j : Nat) (h : j < n) : fill f n j = f j := by unfold fill; rw [if_pos h]

theorem Cells.done {w wr : World} {n : Nat} {f : Nat → Int} (h : Cells wr w.heap.size n f) (hb : Below w.heap.size w wr) : Ans w (outs f n) (.returned (.slice (some ⟨w.heap.size, 0, none⟩) n n)) wr :=
  ⟨_, n, by rw [outs_len], by rw [outs_len]; exact Nat.le_refl _, h.row, hb⟩
theorem wrapEq (x : Int) : IntKind.i64.wrap x = wrap64 x := by rw [IntKind.wrap_i64]; unfold wrap64; rfl
theorem wrap_in {x : Int} (h : -9223372036854775808 ≤ x ∧ x ≤ 9223372036854775807) : IntKind.i64.wrap x = x := by rw [wrapEq]; exact IntWalk.wrap64_in _ h

set_option maxHeartbeats 800000 in
theorem sorted_any (b off cap : Nat) (z : List Int) (w : World) (hz : ∀ j, j < z.length → w.cell? ⟨b, off + j, none⟩ = some (.int .i64 (z.getD j 0))) (h1 : 0 < z.length) (hl : z.length ≤ 17592186044416) :
    Calls Tryz.prog 33 #[.slice (some ⟨b, off, none⟩) z.length cap] w fun e w' => e = .returned (.bool (decide (up z))) ∧ ∃ q, w' = w.drewN q := by
  have hw1 : IntKind.i64.wrap ((z.length : Int) - 1) = (z.length : Int) - 1 := wrap_in (by omega)
  go_enter Tryz.func33, Tryz.ntmps33
  go_wp2
  go_loopw [3] (fun i wr => ∃ k q : Nat, k < z.length ∧ i = .int .i64 k ∧ wr = w.drewN q ∧ ∀ j, k ≤ j → j < z.length - 1 → z.getD j 0 ≤ z.getD (j + 1) 0) (fun i _ => (intOf i).toNat)
  case atStart => exact ⟨z.length - 1, 0, by omega, by congr 1; omega, rfl, fun j h1 h2 => by omega⟩
  case round =>
    obtain ⟨k, q, hk, rfl, rfl, hup⟩ := hrel
    by_cases h0 : 0 < k
    · obtain ⟨p, hp⟩ : ∃ p, k = p + 1 := ⟨k - 1, by omega⟩
      have c1 := hz k hk
      have c2 := hz p (by omega)
      have hpi : (k : Int) - 1 = (p : Int) := by omega
      have hlt1 : (k : Int) < z.length := by omega
      have hlt2 : (p : Int) < z.length := by omega
      have hw2 : IntKind.i64.wrap (p : Int) = p := wrap_in (by omega)
      have hun : Hid (z.getD k 0 < z.getD p 0 → decide (up z) = false) := fun h => decide_eq_false fun hu => absurd (hu p (by omega)) (by rw [← hp]; omega)
      have hup2 : Hid (¬ z.getD k 0 < z.getD p 0 → ∀ j, p ≤ j → j < z.length - 1 → z.getD j 0 ≤ z.getD (j + 1) 0) := fun h j h1 h2 => by
        by_cases e : j = p
        · subst e; rw [← hp]; omega
        · exact hup j (by omega) h2
      generalize z.getD k 0 = x at c1 hun hup2
      generalize z.getD p 0 = y at c2 hun hup2
      have hpl : p < z.length := by omega
      have hpk : p < k := by omega
      clear hz hup hp
      by_cases hlt : x < y
      · have d1 : decide (x < y) = true := decide_eq_true hlt
        have hF := hun.out hlt
        clear hun hup2
        go_wp2
        go_quiet ((go_at_call 47; refine (cmpless_any _ _ _).mono ?_; rintro e w'' ⟨rfl, rfl⟩; exact ⟨rfl, _, rfl⟩))
        go_wp2
        go_ret
        exact ⟨by rw [hF]; rfl, q + nq, World.drewN_drewN _ _ _⟩
      · have d1 : decide (x < y) = false := decide_eq_false hlt
        have hU := hup2.out hlt
        have hge : y ≤ x := by omega
        clear hun hup2
        go_wp2
        go_quiet ((go_at_call 47; refine (cmpless_any _ _ _).mono ?_; rintro e w'' ⟨rfl, rfl⟩; exact ⟨rfl, _, rfl⟩))
        go_wp2
        go_roundw
        case rel => exact ⟨p, q + nq, hpl, rfl, rfl, hU⟩
        case measure => simp [intOf]; omega
    · obtain rfl : k = 0 := by omega
      have hT : decide (up z) = true := decide_eq_true fun j hj => hup j (Nat.zero_le _) hj
      clear hup hz
      go_wp2
      go_ret
      exact ⟨by rw [hT]; rfl, q, rfl⟩

theorem outside_any (x : Int) (w : World) :
    Calls Tryz.prog 34 #[.int .i64 x] w fun e w' => e = .returned (.bool (decide (¬ inr x))) ∧ w' = w := by
  by_cases h0 : x < 0
  · have e : decide (¬ inr x) = true := decide_eq_true (by unfold inr; omega)
    rw [e]
    go_enter Tryz.func34, Tryz.ntmps34
    go_wp2
    go_ret
    exact ⟨rfl, rfl⟩
  · by_cases h1 : 1099511627776 < x
    · have e : decide (¬ inr x) = true := decide_eq_true (by unfold inr; omega)
      rw [e]
      go_enter Tryz.func34, Tryz.ntmps34
      go_wp2
      go_ret
      exact ⟨rfl, rfl⟩
    · have e : decide (¬ inr x) = false := decide_eq_false (by unfold inr; omega)
      rw [e]
      go_enter Tryz.func34, Tryz.ntmps34
      go_wp2
      go_ret
      exact ⟨rfl, rfl⟩

set_option maxHeartbeats 1600000 in
theorem index_any (a : Option Addr) (cap : Nat) (z : List Int) (w : World) (hz : Row w a z) (hl : z.length ≤ 35184372088832) :
    Calls Tryz.prog 46 #[.slice a z.length cap, .func (.func 34) #[] #[]] w fun e w' => ∃ k : Int, e = .returned (.int .i64 k) ∧ decide (0 ≤ k) = decide (¬ allIn z) ∧ w' = w := by
  obtain ⟨n, hn⟩ : ∃ n, z.length = n := ⟨_, rfl⟩
  have hyes : Hid ((∀ j, j < n → inr (z.getD j 0)) → decide (¬ allIn z) = false) := fun h => decide_eq_false fun k => k fun j hj => h j (by omega)
  have hno : Hid (∀ j, j < n → ¬ inr (z.getD j 0) → decide (¬ allIn z) = true) := fun j hj h => decide_eq_true fun k => h (k j (by omega))
  generalize decide (¬ allIn z) = ans at hyes hno ⊢
  rw [hn] at hl ⊢
  go_enter Tryz.func46, Tryz.ntmps46
  go_wp2
  go_loopw [8] (fun i wr => ∃ k : Nat, k ≤ n ∧ i = .int .i64 k ∧ (∀ j, j < k → inr (z.getD j 0)) ∧ w = wr) (fun i _ => n - (intOf i).toNat)
  case atStart => exact ⟨0, Nat.zero_le _, rfl, fun j h => by omega, rfl⟩
  case round =>
    obtain ⟨k, hk, rfl, hA, rfl⟩ := hrel
    by_cases hlt : k < n
    · obtain ⟨b, off, rfl, e1⟩ := hz.at (by omega)
      have cx := e1 k (by omega)
      have hkI : (k : Int) < n := by omega
      have hA2 : Hid (inr (z.getD k 0) → ∀ j, j < k + 1 → inr (z.getD j 0)) := fun h j hj => by
        by_cases e : j = k
        · subst e; exact h
        · exact hA j (by omega)
      have hno2 : Hid (¬ inr (z.getD k 0) → ans = true) := hno.out k hlt
      clear hA e1 hno
      generalize z.getD k 0 = x at cx hA2 hno2
      have ho := outside_any x w
      by_cases hx : inr x
      · rw [decide_eq_false (fun h => h hx)] at ho
        have hA3 := hA2.out hx
        replace hA3 : Hid _ := hA3
        clear hA2
        go_wp2_with (go_at_call 34; refine ho.mono ?_; rintro e w'' ⟨rfl, rfl⟩; clear ho)
        go_roundw
        case rel => exact ⟨k + 1, by omega, by go_num, hA3.out, by first | rfl | trivial⟩
        case measure => simp [intOf]; omega
      · rw [decide_eq_true hx] at ho
        have ha := hno2.out hx
        replace ha : Hid (ans = true) := ha
        go_wp2_with (go_at_call 34; refine ho.mono ?_; rintro e w'' ⟨rfl, rfl⟩; clear ho)
        go_ret
        exact ⟨k, rfl, by rw [ha.out]; exact decide_eq_true (by omega), rfl⟩
    · obtain rfl : k = n := by omega
      have ha : Hid (ans = false) := hyes.out hA
      go_wp2
      go_ret
      exact ⟨-1, rfl, by rw [ha.out]; rfl, rfl⟩

theorem contains_any (a : Option Addr) (cap : Nat) (z : List Int) (w : World) (hz : Row w a z) (hl : z.length ≤ 35184372088832) :
    Calls Tryz.prog 29 #[.slice a z.length cap, .func (.func 34) #[] #[]] w fun e w' => e = .returned (.bool (decide (¬ allIn z))) ∧ w' = w := by
  have hi := index_any a cap z w hz hl
  generalize decide (¬ allIn z) = ans at hi ⊢
  go_enter Tryz.func29, Tryz.ntmps29
  go_wp2_with (go_at_call 46; refine hi.mono ?_; rintro e w'' ⟨k, rfl, hk, rfl⟩; clear hi)
  go_ret
  exact ⟨by rw [← hk]; rfl, rfl⟩

theorem sorted_all (a : Option Addr) (cap : Nat) (z : List Int) (w : World) (hz : Row w a z) (hl : z.length ≤ 17592186044416) :
    Calls Tryz.prog 33 #[.slice a z.length cap] w fun e w' => e = .returned (.bool (decide (up z))) ∧ ∃ q, w' = w.drewN q := by
  by_cases h : 0 < z.length
  · obtain ⟨b, off, rfl, hc⟩ := hz.at h
    exact sorted_any b off cap z w hc h hl
  · have e : z = [] := List.eq_nil_of_length_eq_zero (by omega)
    subst e
    have hu : decide (up []) = true := decide_eq_true fun j hj => by simp at hj
    rw [hu]
    go_enter Tryz.func33, Tryz.ntmps33
    go_wp2
    go_loopw [3] (fun i wr => i = .int .i64 (-1) ∧ w = wr) (fun _ _ => 0)
    case atStart => exact ⟨rfl, rfl⟩
    case round =>
      obtain ⟨rfl, rfl⟩ := hrel
      go_wp2
      go_ret
      exact ⟨rfl, 0, rfl⟩

set_option maxHeartbeats 1600000 in
theorem right_any (a1 a2 : Option Addr) (c1 c2 : Nat) (t l : List Int) (w : World) (ht : Row w a1 t) (hl : Row w a2 l) (b1 : t.length ≤ 17592186044416) (b2 : l.length ≤ 17592186044416) :
    Calls Tryz.prog 18 #[.slice a1 t.length c1, .slice a2 l.length c2] w fun e w' => e = .returned (.bool (decide (jright t l))) ∧ ∃ q, w' = w.drewN q := by
  have os := sorted_all a1 c1 t w ht b1
  have ot := fun q => contains_any a1 c1 t (w.drewN q) (ht.drewN q) (by omega)
  have ol := fun q => contains_any a2 c2 l (w.drewN q) (hl.drewN q) (by omega)
  by_cases h1 : t.length = l.length
  · by_cases h2 : up t
    · rw [decide_eq_true h2] at os
      by_cases h3 : allIn t
      · rw [show decide (¬ allIn t) = false from decide_eq_false fun k => k h3] at ot
        have e : decide (jright t l) = !decide (¬ allIn l) := by
          rw [Bool.eq_iff_iff]; simp [jright, h1, h2, h3]
        rw [e]
        clear e
        generalize decide (¬ allIn l) = ans at ol ⊢
        rw [← h1] at ol b2 ⊢
        generalize t.length = n at *
        replace ot : Hid _ := ot
        replace ol : Hid _ := ol
        clear h1 h2 h3 ht hl
        go_enter Tryz.func18, Tryz.ntmps18
        go_wp2_with (first
          | (go_at_call 33; refine os.mono ?_; rintro e w1 ⟨rfl, q, rfl⟩; clear os)
          | (go_at_call 29; refine (ot.out q).mono ?_; rintro e w2 ⟨rfl, rfl⟩; clear ot)
          | (go_at_call 29; refine (ol.out q).mono ?_; rintro e w3 ⟨rfl, rfl⟩; clear ol))
        go_ret
        exact ⟨rfl, q, rfl⟩
      · have e : decide (jright t l) = false := decide_eq_false fun k => h3 k.2.2.1
        rw [e]
        rw [show decide (¬ allIn t) = true from decide_eq_true h3] at ot
        rw [← h1] at b2 ⊢
        generalize t.length = n at *
        replace ot : Hid _ := ot
        clear h1 h2 h3 ht hl ol e
        go_enter Tryz.func18, Tryz.ntmps18
        go_wp2_with (first
          | (go_at_call 33; refine os.mono ?_; rintro e w1 ⟨rfl, q, rfl⟩; clear os)
          | (go_at_call 29; refine (ot.out q).mono ?_; rintro e w2 ⟨rfl, rfl⟩; clear ot))
        go_ret
        exact ⟨rfl, q, rfl⟩
    · have e : decide (jright t l) = false := decide_eq_false fun k => h2 k.2.1
      rw [e]
      rw [decide_eq_false h2] at os
      rw [← h1] at b2 ⊢
      generalize t.length = n at *
      clear h1 h2 ht hl ol e ot
      go_enter Tryz.func18, Tryz.ntmps18
      go_wp2_with (go_at_call 33; refine os.mono ?_; rintro e w1 ⟨rfl, q, rfl⟩; clear os)
      go_ret
      exact ⟨rfl, q, rfl⟩
  · have e : decide (jright t l) = false := decide_eq_false fun k => h1 k.1
    rw [e]
    have hd : ((t.length : Int) == (l.length : Int)) = false := beq_eq_false_iff_ne.2 (by omega)
    generalize t.length = n at *
    generalize l.length = m at *
    clear h1 ht hl ol e ot os
    go_enter Tryz.func18, Tryz.ntmps18
    go_wp2
    go_ret
    exact ⟨rfl, 0, rfl⟩

end Go.Proofs.YtjageagnclmnjabGreatDoor.J
