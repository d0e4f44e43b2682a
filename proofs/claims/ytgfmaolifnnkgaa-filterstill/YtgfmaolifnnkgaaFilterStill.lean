/- PROVED: for every number, every length and every shift FilterStill returns true. CONDITIONS: none. -/
import Derived.Test.YtgfmaolifnnkgaaAlive
import Derived.Test.YtgfmaolifnnkgaaRepeat
import Derived.Test.YtgfmaolifnnkgaaFar
namespace Go.Proofs.Ytgfmaolifnnkgaa
open Go.RowKit
set_option linter.unusedVariables false

theorem rep_getD (n : Nat) (x : Int) (j : Nat) (h : j < n) : (List.replicate n x).getD j 0 = x := by simp [List.getD_eq_getElem?_getD, h]

theorem outs_rep {N : Int} {f : Nat → Int} {c : Int} {n : Nat} (h : ∀ j, j < n → cnt (f j) = c) : outs N f n = List.replicate n c := by
  rw [List.eq_replicate_iff]
  refine ⟨outs_len _ _ _, fun b hb => ?_⟩
  obtain ⟨k, hk, rfl⟩ := List.mem_map.1 hb
  exact told_still h k (List.mem_range.1 hk)
theorem fars_rep {N : Int} {f : Nat → Int} {c : Int} {n : Nat} (h : ∀ j, j < n → cnt (f j) = c) : fars N f n = List.replicate n 0 := by
  rw [List.eq_replicate_iff]
  refine ⟨fars_len _ _ _, fun b hb => ?_⟩
  obtain ⟨k, hk, rfl⟩ := List.mem_map.1 hb
  exact far_still h k (List.mem_range.1 hk)
theorem smooth_still (n : Nat) (x s : Int) (h : okS s = true) : smooth (List.replicate n x) s = List.replicate n (cnt x) := by
  rw [smooth_ok h, List.length_replicate]
  exact outs_rep fun j hj => by show cnt ((List.replicate n x).getD j 0) = _; rw [rep_getD n x j hj]
theorem spread_still (n : Nat) (x s : Int) (h : okS s = true) : spread (List.replicate n x) s = List.replicate n 0 := by
  rw [spread_ok h, List.length_replicate, fars_rep (c := cnt x) (fun j hj => by show cnt ((List.replicate n x).getD j 0) = _; rw [rep_getD n x j hj])]
  exact smooth_still n 0 s h

/-- a row of one number again and again is answered -/
def AnsR (w : World) (n : Nat) (x : Int) (e : Ending) (w' : World) : Prop :=
  ∃ ao cap, e = .returned (.slice ao n cap) ∧ Row w' ao (List.replicate n x) ∧ Below w.heap.size w w'
theorem smooth_rep (ao : Option Addr) (cap n : Nat) (x s : Int) (w : World) (hz : Row w ao (List.replicate n x)) (hn : n ≤ 300) (h : okS s = true) :
    Calls Try.prog 8 #[.slice ao n cap, .int .i64 s] w (AnsR w n (cnt x)) := by
  have := smooth_any ao cap (List.replicate n x) s w hz (by rw [List.length_replicate]; omega)
  rw [smooth_still n x s h, List.length_replicate] at this
  exact this.mono fun e w' ⟨a, c, he, r, b⟩ => ⟨a, c, by rw [he, List.length_replicate], r, b⟩
theorem spread_rep (ao : Option Addr) (cap n : Nat) (x s : Int) (w : World) (hz : Row w ao (List.replicate n x)) (hn : n ≤ 300) (h : okS s = true) :
    Calls Try.prog 10 #[.slice ao n cap, .int .i64 s] w (AnsR w n 0) := by
  have := spread_any ao cap (List.replicate n x) s w hz (by rw [List.length_replicate]; omega)
  rw [spread_still n x s h, List.length_replicate] at this
  exact this.mono fun e w' ⟨a, c, he, r, b⟩ => ⟨a, c, by rw [he, List.length_replicate], r, b⟩
theorem Row.rep {w : World} {ao : Option Addr} {n : Nat} {x : Int} (h : Row w ao (List.replicate n x)) (hn : 0 < n) : ∃ b off, ao = some ⟨b, off, none⟩ ∧ ∀ j, j < n → w.cell? ⟨b, off + j, none⟩ = some (.int .i64 x) := by
  obtain ⟨b, off, rfl, hc⟩ := h.at (by rw [List.length_replicate]; exact hn)
  exact ⟨b, off, rfl, fun j hj => by rw [hc j (by rw [List.length_replicate]; exact hj), rep_getD n x j hj]⟩
theorem new_one (w : World) (x : Int) : (w.alloc (.cells #[.int .i64 x] 3)).cell? ⟨w.heap.size, 0, none⟩ = some (.int .i64 x) := by rw [World.cell?_alloc_at _ _ _ _ rfl]; rfl

set_option maxHeartbeats 3200000 in
theorem filterStill_walk (a0 a1 a2 : Int) (w : World) (w0 : -9223372036854775808 ≤ a0 ∧ a0 ≤ 9223372036854775807) (w1 : -9223372036854775808 ≤ a1 ∧ a1 ≤ 9223372036854775807) (w2 : -9223372036854775808 ≤ a2 ∧ a2 ≤ 9223372036854775807) :
    Calls Try.prog 6 #[.int .i64 a0, .int .i64 a1, .int .i64 a2] w fun e w' => e = .returned (.bool true) ∧ Below w.heap.size w w' := by
  by_cases x1 : a1 < 1
  · have d1 : decide (a1 < 1) = true := decide_eq_true x1
    go_enter Try.func6, Try.ntmps6
    go_wp2_with (go_at_call 12; refine (alive_any _).mono ?_; rintro e w' ⟨rfl, hb⟩)
    go_ret
    exact ⟨rfl, hb⟩
  have d1 : decide (a1 < 1) = false := decide_eq_false x1
  by_cases x2 : 300 < a1
  · have d2 : decide (300 < a1) = true := decide_eq_true x2
    go_enter Try.func6, Try.ntmps6
    go_wp2_with (go_at_call 12; refine (alive_any _).mono ?_; rintro e w' ⟨rfl, hb⟩)
    go_ret
    exact ⟨rfl, hb⟩
  have d2 : decide (300 < a1) = false := decide_eq_false x2
  by_cases x3 : a2 < 0
  · have d3 : decide (a2 < 0) = true := decide_eq_true x3
    go_enter Try.func6, Try.ntmps6
    go_wp2_with (go_at_call 12; refine (alive_any _).mono ?_; rintro e w' ⟨rfl, hb⟩)
    go_ret
    exact ⟨rfl, hb⟩
  have d3 : decide (a2 < 0) = false := decide_eq_false x3
  by_cases x4 : 16 < a2
  · have d4 : decide (16 < a2) = true := decide_eq_true x4
    go_enter Try.func6, Try.ntmps6
    go_wp2_with (go_at_call 12; refine (alive_any _).mono ?_; rintro e w' ⟨rfl, hb⟩)
    go_ret
    exact ⟨rfl, hb⟩
  have d4 : decide (16 < a2) = false := decide_eq_false x4
  have hok : okS a2 = true := decide_eq_true ⟨by omega, by omega⟩
  obtain ⟨n, rfl⟩ := Int.eq_ofNat_of_zero_le (by omega : 0 ≤ a1)
  have hfc := fit_cnt a0
  have hn1 : 1 ≤ n := by omega
  have hn2 : n ≤ 300 := by omega
  clear w0 w1 w2 x1 x2 x3 x4
  go_enter Try.func6, Try.ntmps6
  go_wp2_with (first
    | (go_at_call 12; refine (alive_any _).mono ?_; rintro e v1 ⟨rfl, b1⟩)
    | (go_at_call 14; refine (repeat_any v1.heap.size 0 1 n a0 _ (new_one v1 a0) hn1 hn2).mono ?_; rintro e v2 ⟨ao2, cap2, he, r2, b2⟩; rw [List.length_replicate] at he; subst he; have B2 := bthen (balloc b1 _) b2; clear b1 b2)
    | (go_at_call 13; refine (fit_any _ _).mono ?_; rintro e v2 ⟨rfl, rfl⟩)
    | (go_at_call 8; refine (smooth_rep ao2 cap2 n a0 a2 _ r2 hn2 hok).mono ?_; rintro e v3 ⟨ao3, cap3, rfl, r3, b3⟩; have r2' := r2.kept b3; have B3 := bthen B2 b3; clear r2 B2 b3))
  go_loopw [38] (fun i wr => ∃ k : Nat, k ≤ n ∧ i = .int .i64 k ∧ Below v3.heap.size v3 wr) (fun i _ => n - (intOf i).toNat)
  case atStart => exact ⟨0, Nat.zero_le _, rfl, Below.refl _ _⟩
  case round =>
    obtain ⟨k, hkn, rfl, hB⟩ := hrel
    have r2w := r2'.kept hB
    by_cases hlt : k < n
    · obtain ⟨g3, o3, rfl, c3⟩ := (r3.kept hB).rep (by omega)
      have hy := c3 k hlt
      generalize hcc : cnt a0 = c at hy ⊢
      have hne : (c == c) = true := by simp
      clear c3 hcc hfc
      go_wp2_with (go_at_call 10; refine (spread_rep ao2 cap2 n a0 a2 _ r2w hn2 hok).mono ?_; rintro e v4 ⟨ao4, cap4, rfl, r4, b4⟩; obtain ⟨g4, o4, rfl, c4⟩ := r4.rep (by omega); have hy4 := c4 k hlt; have hB4 := bthen hB b4; clear c4 r4 b4 r2w)
      go_roundw
      case rel => exact ⟨k + 1, by omega, by go_num, hB4⟩
      case measure => simp [intOf]; omega
    · have e : k = n := by omega
      subst e
      go_wp2_with (go_at_call 8; refine (smooth_rep ao2 cap2 k a0 a2 _ r2w hn2 hok).mono ?_; rintro e v5 ⟨ao5, cap5, rfl, r5, b5⟩; have hB5 := bthen (bthen B3 hB) b5; clear r2w b5)
      go_ret
      exact ⟨by simp, hB5⟩

end Go.Proofs.Ytgfmaolifnnkgaa
namespace Go.Proofs.Ytgfmaolifnnkgaa.filterStill
open Go.ChangeShapes Go.WideShapes Go.ChangeAt Go.RowKit
set_option linter.unusedVariables false

set_option maxRecDepth 100000 in
theorem lifted (os : Os) (started : os.Started) (H : Type) (enc : TypeId × Value → H) :
    ReturnsInHanded {} Try.checked os 6 .any (Rows.filterStillSpec.pre6 enc Try.prog Try.f6 Rows.filterStillRow.domain false) (Rows.filterStillSpec.post enc Try.prog Try.f6 false true false false) := by
  refine returnsInHanded_of_change_sized (C := Try.checked) own started (by kernel_rfl) Try.func6
    (ChangeSpec.witness6 (enc := enc) (C := Try.checked) false ⟨#[], #[.int .i64 0, .int .i64 0, .int .i64 0], []⟩ 8 (by kernel_rfl) (by kernel_rfl) (by kernel_rfl) (by kernel_rfl)) ?_
  intro W base args ds gs before hval0 hW _ hsz0 _
  have hsz : (DataW.weightsEach Try.prog (Try.f6.params.toList ++ Rows.filterStillSpec.plain.varTypes Try.prog) (ds ++ gs)).all (· ≤ reachBytes) = true := hsz0
  have hval : ∀ (j : Nat) t v, Try.f6.params[j]? = some t → args[j]? = some v → Value.okWide Try.prog W .any base t v := hval0
  have hW' := hW
  obtain ⟨p, q, hA0, hV, rfl, hfz, hnd⟩ := hW
  have hA : DataW.TrodAll enc Try.prog W 0 (fun _ => true) true Try.f6.params.toList args.toList ds p := hA0
  rw [Try.params6] at hA hval hsz
  obtain ⟨v0, vs0, d0, ds0, p0, q0, hargs, rfl, rfl, h0, r0⟩ := trodAll_cons hA
  obtain ⟨v1, vs1, d1, ds1, p1, q1, rfl, rfl, rfl, h1, r1⟩ := trodAll_cons r0
  obtain ⟨v2, vs2, d2, ds2, p2, q2, rfl, rfl, rfl, h2, r2⟩ := trodAll_cons r1
  obtain ⟨rfl, rfl, rfl⟩ := trodAll_nil r2
  obtain rfl : args = #[v0, v1, v2] := by cases args; simp_all
  obtain ⟨rfl, rfl⟩ := trodVars_none hV
  obtain ⟨a0, rfl, rfl, rfl, w0⟩ := open_int Try.underlying3 (hval 0 3 v0 rfl rfl) h0
  obtain ⟨a1, rfl, rfl, rfl, w1⟩ := open_int Try.underlying3 (hval 1 3 v1 rfl rfl) h1
  obtain ⟨a2, rfl, rfl, rfl, w2⟩ := open_int Try.underlying3 (hval 2 3 v2 rfl rfl) h2
  clear hA0 hval0 hsz0 hsz
  refine (filterStill_walk a0 a1 a2 W (fits w0) (fits w1) (fits w2)).mono fun e W' ⟨he, bel⟩ => ?_
  subst he
  exact ⟨_, rfl, _, _, _, [], _, [], hW', trodAll_mk1 (shut_bool Try.underlying4 _), (trodAll_cons_mk (shut_int Try.underlying3 w0) (trodAll_cons_mk (shut_int Try.underlying3 w1) (trodAll_cons_mk (shut_int Try.underlying3 w2) trodAll_mk0))), rfl, bel.frame _, fun h => by cases h⟩

theorem proved : Rows.FilterStillSaid :=
  OpenClaim.holds_of_wide 6 Try.f6 rfl rfl rfl rfl rfl rfl rfl ⟨rfl, rfl, rfl, rfl, rfl⟩ rfl rfl rfl rfl rfl (by kernel_rfl) Try.func6 (by kernel_rfl)
    (of_decide_eq_true (by kernel_rfl)) (by unfold Func.isWrapper; first | (rw [if_pos (by decide +kernel)]; kernel_rfl) | (rw [if_neg (by decide +kernel)]; exact ⟨rfl, rfl⟩))
    (fun os started H enc _ => lifted os started H enc)

end Go.Proofs.Ytgfmaolifnnkgaa.filterStill
namespace Go.Proofs.Ytgfmaolifnnkgaa
theorem filterStill_holds : Rows.FilterStillSaid := filterStill.proved
#print axioms filterStill_holds
end Go.Proofs.Ytgfmaolifnnkgaa
