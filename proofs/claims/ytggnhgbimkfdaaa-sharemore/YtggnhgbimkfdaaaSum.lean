/- PROVED: what the laws' own sum and slices.Clone answer; what shares are as a row, and in all. CONDITIONS: none beyond each theorem's own. -/
import Derived.Test.YtggnhgbimkfdaaaTold
namespace Go.Proofs.Ytggnhgbimkfdaaa
open Go.RowKit

set_option maxHeartbeats 800000 in
theorem sum_any (a : Option Addr) (cap : Nat) (z : List Int) (w : World) (hz : Row w a z) (hr : sright z) :
    Calls Try.prog 15 #[.slice a z.length cap] w fun e w' => e = .returned (.int .i64 (sm z z.length)) ∧ w' = w := by
  have h1 : Hid (∀ k, k ≤ z.length → 0 ≤ sm z k ∧ sm z k ≤ 314572800) := fun k hk => sm_in hr k hk
  obtain ⟨hl, hin⟩ := hr
  replace hin : Hid _ := hin
  obtain ⟨n, hn⟩ : ∃ n, z.length = n := ⟨_, rfl⟩
  rw [hn] at hl h1 ⊢
  go_enter Try.func15, Try.ntmps15
  go_wp2
  go_loopw [3, 8] (fun s i wr => ∃ k : Nat, k ≤ n ∧ i = .int .i64 k ∧ s = .int .i64 (sm z k) ∧ w = wr) (fun _ i _ => n - (intOf i).toNat)
  case atStart => exact ⟨0, Nat.zero_le _, rfl, rfl, rfl⟩
  case round =>
    obtain ⟨k, hk, rfl, rfl, rfl⟩ := hrel
    by_cases hlt : k < n
    · obtain ⟨b, off, rfl, e1⟩ := hz.at (by omega)
      have cx := e1 k (by omega)
      have hkI : (k : Int) < n := by omega
      have hx := hin.out k (by omega)
      unfold inr at hx
      have hs : Hid (sm z k + z.getD k 0 = sm z (k + 1)) := rfl
      obtain ⟨g1, g2⟩ := h1.out k hk
      generalize z.getD k 0 = x at cx hx hs
      generalize sm z k = g at hs g1 g2 ⊢
      obtain ⟨x0, x1⟩ := hx
      clear e1 h1 hin
      go_wp2
      go_roundw
      case rel => exact ⟨k + 1, by omega, by go_num, by rw [hs.out], by first | rfl | trivial⟩
      case measure => simp [intOf]; omega
    · obtain rfl : k = n := by omega
      go_wp2
      go_ret
      exact ⟨rfl, rfl⟩
theorem sum_n (a : Option Addr) (c n : Nat) (f : List Int) (w : World) (k : Row w a f) (e1 : f.length = n) (hr : sright f) (s : Int) (hs : sm f n = s) :
    Calls Try.prog 15 #[.slice a n c] w fun e w' => e = .returned (.int .i64 s) ∧ w' = w := by
  subst e1; subst hs
  exact sum_any a c f w k hr

/-- what is owned may be written -/
theorem owned_cells {w : World} {base : Nat} {t : Value} {n : Nat} {R : List Int} (hn : R.length = n) (h0 : 0 < n) (h : w.ownsRow base 3 1 t n (R.map (Value.int .i64))) : ∃ g cap, t = .slice (some ⟨g, 0, none⟩) n cap ∧ base ≤ g ∧ Cells w g n (fun j => R.getD j 0) := by
  subst hn
  obtain ⟨hl, ⟨e, e2⟩ | ⟨g, cap, cur, e, hg, hh, hnc, _, hcs, htk⟩⟩ := h
  · omega
  · refine ⟨g, cap, e, hg, ⟨fun j hj => ?_, fun j hj => ?_⟩⟩
    · have : (R.map (Value.int .i64))[j]? = some (.int .i64 (R.getD j 0)) := by simp [List.getD_eq_getElem?_getD, hj]
      rw [← htk, List.getElem?_take_of_lt (by omega)] at this
      simp [World.cell?, hh]
      simpa using this
    · simp [World.frozen?, hh]

set_option maxHeartbeats 800000 in
theorem clone_any (b off cap : Nat) (z : List Int) (n : Nat) (w : World) (hn : z.length = n) (h0 : 0 < n) (hl : n ≤ 8796093022206) (h : ∀ j, j < z.length → w.cell? ⟨b, off + j, none⟩ = some (.int .i64 (z.getD j 0))) :
    Calls Try.prog 18 #[.slice (some ⟨b, off, none⟩) n cap] w fun e w' => ∃ g c, e = .returned (.slice (some ⟨g, 0, none⟩) n c) ∧ w.heap.size ≤ g ∧ Cells w' g n (fun j => z.getD j 0) ∧ Below w.heap.size w w' := by
  obtain ⟨i0, hi, hz0, hz1, hz2⟩ := info_parts Try.info3
  have hf : ∀ j u, (z.map (Value.int .i64))[j]? = some u → w.cell? ⟨b, off + j, none⟩ = some u := fun j u hu => by
    have hj : j < z.length := by
      have := (List.getElem?_eq_some_iff.1 hu).1
      simpa using this
    rw [h j hj, ← hu]
    simp [List.getD_eq_getElem?_getD, hj]
  have hfl : (z.map (Value.int .i64)).length = n := by simpa using hn
  have hf1 : ∀ u ∈ z.map (Value.int .i64), u.oneCell' = true := fun u hu => by
    obtain ⟨x, _, rfl⟩ := List.mem_map.1 hu
    rfl
  have hbl : b < w.heap.size := block_lt (h 0 (by omega))
  have hpo : Hid (∀ B w' v, w.heap.size ≤ B → w'.ownsRow B 3 1 v n (z.map (Value.int .i64)) → ∃ g c, v = .slice (some ⟨g, 0, none⟩) n c ∧ w.heap.size ≤ g ∧ Cells w' g n (fun j => z.getD j 0)) := fun B w' v hB ho => by
    obtain ⟨g, c, q1, q2, q3⟩ := owned_cells hn h0 ho
    exact ⟨g, c, q1, by omega, q3⟩
  generalize z.map (Value.int .i64) = F at *
  replace hf : Hid _ := hf
  replace hf1 : Hid _ := hf1
  clear h hn
  have he : ∀ w : World, (binOp .eql 22 (.slice (some ⟨b, off, none⟩) n cap) (.slice none 0 0)).run Try.prog w = .ok (.bool false) w := fun _ => rfl
  go_enter Try.func18, Try.ntmps18
  go_wp2_with (at_builtin; refine wpList_append_grows _ rfl _ _ 22 rfl 3 i0 (.int .i64 0) 1 8 Try.underlying22 hi hz0 hz1 hz2 rfl (by decide) (some ⟨w.heap.size, 0, none⟩) 0 0 [] rfl ?hn ?lo ?olds ⟨b, off, none⟩ n cap F rfl ?hfl ?c1 ?hf1 ?full ?b1 ?b2 ?grow)
  case lo => rfl
  case olds => intro q _ j u hu; simp at hu
  case hfl => omega
  case hf1 => exact hf1.out
  case c1 =>
    intro j u hu
    rw [Addr.add_lit, World.cell?_alloc_past _ _ _ hbl]
    exact hf.out j u hu
  case full => omega
  case b1 => unfold maxLen; omega
  case b2 => omega
  case grow =>
    intro v' w2 hown hgrow
    have hB := (balloc (Below.refl w.heap.size w) (.cells #[] 3))
    obtain ⟨g, c, rfl, q2, q3⟩ := hpo.out _ _ _ (Nat.le_succ _) hown
    have hB2 := hB.grown hgrow hB.size (fun k h => by cases h)
    clear hown hgrow hpo hf hf1
    go_wp2
    go_ret
    exact ⟨g, c, rfl, q2, q3, hB2⟩

/-! Shares as a row. -/
theorem sm_outs (S : Nat → Int) (n : Nat) : sm (outs S n) n = tot S n := tot_ext n fun _ hj => outs_getD _ _ _ hj
theorem Shares.right {z : List Int} {a : Int} {S : Nat → Int} (h : Shares (wt z) z.length a S) (hr : sright z) : sright (outs S z.length) := by
  refine ⟨by rw [outs_len]; exact hr.1, fun j hj => ?_⟩
  rw [outs_len] at hj
  rw [outs_getD _ _ _ hj]
  have := h.lo j hj; have := h.hi j hj; have := (hr.2 j hj).2
  unfold inr
  unfold wt at *
  omega
theorem gv_all (f : Nat → Int) (r : Int) (k : Nat) : gv f r k ≤ tot f k := tot_le k fun _ _ => by show min _ _ ≤ _; omega
theorem Rounds.sum {z : List Int} {a : Int} {R : Nat} (hR : Rounds z a R) (h : sright z) : tot (got z a R) z.length = min a (sm z z.length) := by
  have e : tot (got z a R) z.length = gv (wt z) R z.length + min (a - gv (wt z) R z.length) (hn (wt z) R z.length) := sh_sum (f := wt z) (show 0 ≤ a - gv (wt z) R z.length by have := hR.ok; omega) _
  rw [e]
  have o := hR.ok
  have g0 := gv_all (wt z) R z.length
  show _ = min a (tot (wt z) z.length)
  by_cases c : R < 1048576
  · have b := hR.behind R (Nat.le_refl _) c
    have g := gv_all (wt z) ((R : Int) + 1) z.length
    rw [gv_step] at b g
    omega
  · have e2 : R = 1048576 := by have := hR.le; omega
    subst e2
    have g : gv (wt z) ((1048576 : Nat) : Int) z.length = tot (wt z) z.length := tot_ext _ fun j hj => by
      have := (h.2 j hj).2
      show min (z.getD j 0) _ = z.getD j 0
      omega
    have y := hn_lo (wt z) ((1048576 : Nat) : Int) z.length
    have u := gv_all (wt z) (((1048576 : Nat) : Int) + 1) z.length
    rw [gv_step] at u
    omega

end Go.Proofs.Ytggnhgbimkfdaaa
