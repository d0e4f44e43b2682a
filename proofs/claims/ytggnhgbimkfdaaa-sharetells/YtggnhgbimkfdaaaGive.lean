/- PROVED: what share.given, share.wholeRounds with its own question and sort.Search over it, and share.Share answer. CONDITIONS: none beyond each theorem's own. -/
import Derived.Test.YtggnhgbimkfdaaaRight
namespace Go.Proofs.Ytggnhgbimkfdaaa
open Go.RowKit

/-- what z wants -/
abbrev wt (z : List Int) : Nat → Int := fun j => z.getD j 0

theorem gv_in {z : List Int} (h : sright z) {r : Int} (h0 : 0 ≤ r) (k : Nat) (hk : k ≤ z.length) : 0 ≤ gv (wt z) r k ∧ gv (wt z) r k ≤ 314572800 := by
  have a := tot_in (fun j => min (wt z j) r) 1048576 k fun j hj => by
    have := h.2 j (by omega); unfold inr at this
    show 0 ≤ min _ _ ∧ min _ _ ≤ _
    unfold wt; omega
  have b := h.1
  refine ⟨a.1, ?_⟩
  have c := a.2
  show tot _ k ≤ _
  omega

set_option maxHeartbeats 800000 in
theorem given_any (r : Int) (a : Option Addr) (cap : Nat) (z : List Int) (w : World) (hz : Row w a z) (hr : sright z) (h0 : 0 ≤ r) (h1 : r ≤ 1048576) :
    Calls Try.prog 26 #[.int .i64 r, .slice a z.length cap] w fun e w' => e = .returned (.int .i64 (gv (wt z) r z.length)) ∧ w' = w := by
  have hgv : Hid (∀ k, k ≤ z.length → 0 ≤ gv (wt z) r k ∧ gv (wt z) r k ≤ 314572800) := fun k hk => gv_in hr h0 k hk
  obtain ⟨hl, hin⟩ := hr
  replace hin : Hid _ := hin
  obtain ⟨n, hn⟩ : ∃ n, z.length = n := ⟨_, rfl⟩
  rw [hn] at hl hgv ⊢
  go_enter Try.func26, Try.ntmps26
  go_wp2
  go_loopw [5, 10] (fun s i wr => ∃ k : Nat, k ≤ n ∧ i = .int .i64 k ∧ s = .int .i64 (gv (wt z) r k) ∧ w = wr) (fun _ i _ => n - (intOf i).toNat)
  case atStart => exact ⟨0, Nat.zero_le _, rfl, rfl, rfl⟩
  case round =>
    obtain ⟨k, hk, rfl, rfl, rfl⟩ := hrel
    by_cases hlt : k < n
    · obtain ⟨b, off, rfl, e1⟩ := hz.at (by omega)
      have cx := e1 k (by omega)
      have hkI : (k : Int) < n := by omega
      have hx := hin.out k (by omega)
      unfold inr at hx
      have hs : Hid (gv (wt z) r k + min (z.getD k 0) r = gv (wt z) r (k + 1)) := rfl
      obtain ⟨g1, g2⟩ := hgv.out k hk
      generalize z.getD k 0 = x at cx hx hs
      generalize gv (wt z) r k = g at hs g1 g2 ⊢
      obtain ⟨x0, x1⟩ := hx
      clear e1 hgv hin
      go_wp2
      go_roundw
      case rel => exact ⟨k + 1, by omega, by go_num, by rw [hs.out], by first | rfl | trivial⟩
      case measure => simp [intOf]; omega
    · obtain rfl : k = n := by omega
      go_wp2
      go_ret
      exact ⟨rfl, rfl⟩

set_option maxHeartbeats 800000 in
theorem low_any (k : Nat) (all : Int) (G A : Nat) (a : Option Addr) (cap : Nat) (z : List Int) (w : World) (cG : w.cell? ⟨G, 0, none⟩ = some (.slice a z.length cap)) (cA : w.cell? ⟨A, 0, none⟩ = some (.int .i64 all)) (hz : Row w a z) (hr : sright z) (hk : k < 1048576) :
    Calls Try.prog 31 #[.int .i64 k, .pointer (some ⟨G, 0, none⟩), .pointer (some ⟨A, 0, none⟩)] w fun e w' => e = .returned (.bool (decide (all < gv (wt z) ((k : Int) + 1) z.length))) ∧ ∃ q, w' = w.drewN q := by
  obtain ⟨kk, hkk⟩ : ∃ kk : Nat, (k : Int) + 1 = (kk : Int) := ⟨k + 1, by omega⟩
  rw [hkk]
  have hw : IntKind.i64.wrap (kk : Int) = kk := wrap_in (by omega)
  have hq : ∀ w0 : World, Row w0 a z → Calls Try.prog 26 #[.int .i64 (kk : Int), .slice a z.length cap] w0 fun e w' => e = .returned (.int .i64 (gv (wt z) (kk : Int) z.length)) ∧ w' = w0 := fun w0 h => given_any _ a cap z w0 h hr (by omega) (by omega)
  generalize gv (wt z) (kk : Int) z.length = g at hq ⊢
  generalize z.length = n at *
  go_enter Try.func31, Try.ntmps31
  go_wp2
  go_quiet ((go_at_call 26; refine (hq _ (Row.drewN hz _)).mono ?_; rintro e w'' ⟨rfl, rfl⟩; exact ⟨rfl, _, rfl⟩))
  go_wp2
  go_ret
  exact ⟨rfl, nq, rfl⟩

set_option maxHeartbeats 1600000 in
theorem find_any (n h : Nat) (hn : n ≤ 17592186044416) (p1 p2 : Value) (P : Nat → Bool) (w : World) (hh : h ≤ n) (h1 : ∀ p, p < h → P p = false) (h2 : ∀ p, h ≤ p → p < n → P p = true)
    (hc : ∀ k q, k < n → Calls Try.prog 31 #[.int .i64 k, p1, p2] (w.drewN q) fun e w' => e = .returned (.bool (P k)) ∧ ∃ q, w' = w.drewN q) :
    Calls Try.prog 30 #[.int .i64 n, .func (.func 31) #[] #[p1, p2]] w fun e w' => e = .returned (.int .i64 h) ∧ ∃ q, w' = w.drewN q := by
  replace h1 : Hid _ := h1
  replace h2 : Hid _ := h2
  go_enter Try.func30, Try.ntmps30
  go_wp2
  go_loopw [5, 6] (fun a b wr => ∃ i j q : Nat, i ≤ h ∧ h ≤ j ∧ j ≤ n ∧ a = .int .i64 i ∧ b = .int .i64 j ∧ wr = w.drewN q) (fun a b _ => ((intOf b) - (intOf a)).toNat)
  case atStart => exact ⟨0, n, 0, Nat.zero_le _, hh, Nat.le_refl _, rfl, rfl, rfl⟩
  case round =>
    obtain ⟨i, j, q, hi, hj, hjn, rfl, rfl, rfl⟩ := hrel
    by_cases hlt : i < j
    · obtain ⟨c, hh⟩ : ∃ c, (i + j) / 2 = c := ⟨_, rfl⟩
      have c1 : i ≤ c := by omega
      have c2 : c < j := by omega
      have hhi : ((i : Int) + j) / 2 = (c : Int) := by omega
      have hb := hc c q (by omega)
      have hltI : (i : Int) < j := by omega
      by_cases hd : c < h
      · rw [h1.out c hd] at hb
        clear hc
        go_wp2_with (go_at_call 31; refine hb.mono ?_; rintro e w'' ⟨rfl, q2, rfl⟩; clear hb)
        go_roundw
        case rel => exact ⟨c + 1, j, q2, by omega, by omega, by omega, by go_num, rfl, rfl⟩
        case measure => simp [intOf]; omega
      · rw [h2.out c (by omega) (by omega)] at hb
        clear hc
        go_wp2_with (go_at_call 31; refine hb.mono ?_; rintro e w'' ⟨rfl, q2, rfl⟩; clear hb)
        go_roundw
        case rel => exact ⟨i, c, q2, by omega, by omega, by omega, rfl, rfl, rfl⟩
        case measure => simp [intOf]; omega
    · obtain rfl : i = j := by omega
      obtain rfl : i = h := by omega
      clear hc
      go_wp2
      go_ret
      exact ⟨rfl, q, rfl⟩

/-- R is how many whole rounds a is enough for, at most 2^20 -/
structure Rounds (z : List Int) (a : Int) (R : Nat) : Prop where
  le : R ≤ 1048576
  ok : gv (wt z) R z.length ≤ a
  before : ∀ p : Nat, p < R → gv (wt z) ((p : Int) + 1) z.length ≤ a
  behind : ∀ p : Nat, R ≤ p → p < 1048576 → a < gv (wt z) ((p : Int) + 1) z.length
theorem rounds {z : List Int} (h : sright z) {a : Int} (ha : 0 ≤ a) : ∃ R, Rounds z a R := by
  obtain ⟨R, h1, h2, h3, h4⟩ := rounds_are (wt z) z.length a ha (fun j hj => (h.2 j hj).1) 1048576
  exact ⟨R, h1, h2, h3, h4⟩
theorem Rounds.shares {z : List Int} {a : Int} {R : Nat} (hR : Rounds z a R) (h : sright z) : Shares (wt z) z.length a (got z a R) := by
  refine shares_sh (fun j hj => (h.2 j hj).1) (by omega) hR.ok ?_
  by_cases e : R < 1048576
  · left
    have := hR.behind R (Nat.le_refl _) e
    rw [gv_step] at this
    omega
  · right
    have e2 : R = 1048576 := by have := hR.le; omega
    subst e2
    have x := tot_le (f := fun j => hg (wt z j) ((1048576 : Nat) : Int)) (g := fun _ => 0 * (0 : Int)) z.length fun j hj => by
      have := (h.2 j hj).2
      show hg _ _ ≤ _
      unfold hg
      rw [if_neg (by unfold wt; omega)]
      omega
    rw [tot_mul, Int.zero_mul] at x
    have y := hn_lo (wt z) ((1048576 : Nat) : Int) z.length
    unfold hn at y ⊢
    omega

theorem rounds_any (all : Int) (a : Option Addr) (cap : Nat) (z : List Int) (w : World) (hz : Row w a z) (hr : sright z) (R : Nat) (hR : Rounds z all R) :
    Calls Try.prog 25 #[.int .i64 all, .slice a z.length cap] w fun e w' => e = .returned (.int .i64 R) ∧ Below w.heap.size w w' := by
  have hb : Below w.heap.size w ((w.alloc (.cells #[.int .i64 all] 3)).alloc (.cells #[.slice a z.length cap] 22)) := balloc (balloc (Below.refl _ _) _) _
  have cA : ((w.alloc (.cells #[.int .i64 all] 3)).alloc (.cells #[.slice a z.length cap] 22)).cell? ⟨w.heap.size, 0, none⟩ = some (.int .i64 all) := by simp
  have cG : ((w.alloc (.cells #[.int .i64 all] 3)).alloc (.cells #[.slice a z.length cap] 22)).cell? ⟨w.heap.size + 1, 0, none⟩ = some (.slice a z.length cap) := by
    rw [World.cell?_alloc_at _ _ _ _ (by simp)]; rfl
  have hz2 := hz.kept hb
  have hf := find_any 1048576 R (by omega) (.pointer (some ⟨w.heap.size + 1, 0, none⟩)) (.pointer (some ⟨w.heap.size, 0, none⟩)) (fun p => decide (all < gv (wt z) ((p : Int) + 1) z.length)) _ hR.le (fun p hp => decide_eq_false (by have := hR.before p hp; omega)) (fun p h1 h2 => decide_eq_true (hR.behind p h1 h2))
    (fun k q hk => (low_any k all (w.heap.size + 1) w.heap.size a cap z (((w.alloc (.cells #[.int .i64 all] 3)).alloc (.cells #[.slice a z.length cap] 22)).drewN q) cG cA (hz2.drewN q) hr hk).mono fun e w' ⟨h1, q2, h2⟩ => ⟨h1, q + q2, by rw [h2, World.drewN_drewN]⟩)
  clear cA cG hz2 hR
  go_enter Try.func25, Try.ntmps25
  go_wp2_with (go_at_call 30; refine hf.mono ?_; rintro e w'' ⟨rfl, q, rfl⟩; clear hf)
  go_ret
  exact ⟨rfl, below_drewN hb q⟩

end Go.Proofs.Ytggnhgbimkfdaaa
