/- PROVED: for every row of numbers and every window WindowTurned returns true, and the row reads as before. CONDITIONS: the arguments hold together at most 1048576 values. -/
import Derived.Test.YtdnhanaeamnddaaCame
namespace Go.Proofs.Ytdnhanaeamnddaa
open Go.RowKit
set_option linter.unusedVariables false

theorem Row.cell {w : World} {O : Nat} {R : List Int} (h : Row w (some ⟨O, 0, none⟩) R) (j : Nat) (hj : j < R.length) : w.cell? ⟨O, j, none⟩ = some (.int .i64 (R.getD j 0)) := by
  rcases h with e | ⟨b, off, e, k⟩
  · subst e; simp at hj
  · cases e
    have := k j hj
    rwa [Nat.zero_add] at this

def negs (z : List Int) : List Int := z.map fun x => -x

theorem negs_getD (z : List Int) (j : Nat) (h : j < z.length) : (negs z).getD j 0 = -(z.getD j 0) := by
  simp [negs, List.getD_eq_getElem?_getD, h]

theorem negs_take (z : List Int) (k : Nat) (h : k < z.length) : negs (z.take (k + 1)) = negs (z.take k) ++ [-(z.getD k 0)] := by
  unfold negs
  rw [List.take_succ_eq_append_getElem h, List.map_append]
  simp [List.getD_eq_getElem?_getD, h]

/-- the greatest of what is turned is the least, turned -/
theorem best_turned {z : List Int} {a b : Nat} (hb : b ≤ z.length) {c : Int} (h : Best false (fun j => (negs z).getD j 0) a b c) : Best true (fun j => z.getD j 0) a b (-c) := by
  obtain ⟨⟨i, i1, i2, i3⟩, i4⟩ := h
  have e := negs_getD z i (by omega)
  have i3' : (negs z).getD i 0 = c := i3
  refine ⟨⟨i, i1, i2, ?_⟩, fun j j1 j2 => ?_⟩
  · show z.getD i 0 = -c
    omega
  · have q := i4 j j1 j2
    have e2 := negs_getD z j (by omega)
    simp only [bt, Bool.false_eq_true, if_false, decide_eq_false_iff_not] at q
    simp only [bt, if_true, decide_eq_false_iff_not]
    omega

theorem best_mem {low : Bool} {z : List Int} {a b : Nat} (hb : b ≤ z.length) {v : Int} (h : Best low (fun j => z.getD j 0) a b v) : v ∈ z := by
  obtain ⟨⟨i, _, i2, i3⟩, _⟩ := h
  have i3' : z.getD i 0 = v := i3
  rw [List.getD_eq_getElem?_getD, List.getElem?_eq_getElem (by omega)] at i3'
  rw [← i3']
  exact List.getElem_mem _

/-- what has been turned so far, as it lies -/
theorem row_owned {w : World} {base : Nat} {t : Value} {n : Nat} {R : List Int} (h : w.ownsRow base 3 1 t n (R.map (Value.int .i64))) (hn : R.length = n) : ∃ ao cap, t = .slice ao n cap ∧ Row w ao R := by
  obtain ⟨hl, ⟨e, e2⟩ | ⟨g, cap, cur, e, _, hh, _, _, _, htk⟩⟩ := h
  · subst e2
    exact ⟨none, 0, e, .inl (List.eq_nil_of_length_eq_zero hn)⟩
  · refine ⟨_, cap, e, .inr ⟨g, 0, rfl, fun j hj => ?_⟩⟩
    have : (R.map (Value.int .i64))[j]? = some (.int .i64 (R.getD j 0)) := by simp [List.getD_eq_getElem?_getD, hj]
    rw [← htk, List.getElem?_take_of_lt (by omega)] at this
    rw [Nat.zero_add]
    simp [World.cell?, hh]
    simpa using this

set_option maxHeartbeats 6400000 in
theorem windowTurned_walk (a0 : Option Addr) (cap0 : Nat) (z0 : List Int) (a1 : Int) (w : World) (h0 : Came w a0 z0) (w1 : -9223372036854775808 ≤ a1 ∧ a1 ≤ 9223372036854775807) :
    Calls Try.prog 5 #[.slice a0 z0.length cap0, .int .i64 a1] w fun e w' => e = .returned (.bool true) ∧ Below w.heap.size w w' := by
  obtain ⟨hz, hl, hfit⟩ := h0
  obtain ⟨i0, hi, hz0, hz1, hz2⟩ := info_parts Try.info3
  go_enter Try.func5, Try.ntmps5
  go_wp2_with (go_at_call 14; refine (alive_any _).mono ?_; rintro e v1 ⟨rfl, B1⟩; have r1 := hz.kept B1)
  go_loopw [5, 16] (fun t i wr => ∃ k : Nat, k ≤ z0.length ∧ i = .int .i64 k ∧ wr.ownsRow v1.heap.size 3 1 t k ((negs (z0.take k)).map (Value.int .i64)) ∧ Below v1.heap.size v1 wr ∧ ∀ j, j < k → z0.getD j 0 ≠ -9223372036854775808) (fun _ i _ => z0.length - (intOf i).toNat)
  case atStart => exact ⟨0, Nat.zero_le _, rfl, World.ownsRow_nil _ _ _ _, Below.refl _ _, fun j h => by omega⟩
  case round =>
    obtain ⟨k, hk, rfl, hown, hbel, hne⟩ := hrel
    by_cases hlt : k < z0.length
    · obtain ⟨g, off, rfl, hcells⟩ : ∃ g off, a0 = some ⟨g, off, none⟩ ∧ ∀ j, j < z0.length → v1.cell? ⟨g, off + j, none⟩ = some (.int .i64 (z0.getD j 0)) := by
        rcases r1 with e | e
        · subst e; simp at hlt
        · exact e
      have hx0 : wr.cell? ⟨g, off + k, none⟩ = some (.int .i64 (z0.getD k 0)) := (hbel.cell (p := ⟨g, off + k, none⟩) (block_lt (hcells k hlt))).trans (hcells k hlt)
      have hf := hfit (z0.getD k 0) (by rw [List.getD_eq_getElem?_getD, List.getElem?_eq_getElem hlt]; exact List.getElem_mem _)
      have htk := negs_take z0 k hlt
      by_cases hx : z0.getD k 0 = -9223372036854775808
      · rw [hx] at hx0
        clear hcells htk hx
        go_wp2
        go_ret
        exact ⟨rfl, bthen B1 hbel⟩
      · have hne' : ∀ j, j < k + 1 → z0.getD j 0 ≠ -9223372036854775808 := fun j hj => by
          by_cases e : j = k
          · subst e; exact hx
          · exact hne j (by omega)
        have hlen : (negs (z0.take k)).length = k := by simp [negs]; omega
        generalize z0.getD k 0 = x at hx0 hf htk hx
        have hxe : (x == -9223372036854775808) = false := by simpa using hx
        have hf1 : -9223372036854775807 ≤ x := by omega
        have hf2 : x ≤ 9223372036854775807 := hf.2
        have HT : Hid (negs (z0.take (k + 1)) = negs (z0.take k) ++ [-x]) := htk
        clear hcells htk hf hx
        go_wp2_with (at_builtin; refine wpList_append_own _ rfl (.tmp 22) (.tmp 25) 22 rfl v1.heap.size 3 i0 (.int .i64 0) 1 8 Try.underlying22 hi hz0 hz1 hz2 rfl (by decide) _ _ _ rfl (hown.alloc _) ⟨wr.heap.size, 0, none⟩ 1 1 [.int .i64 (-x)] rfl rfl ?c1 ?c2 ?c3 ?c4 ?c5 ?_)
        case c1 =>
          intro j u hj
          match j, hj with
          | 0, hj => simp at hj; subst hj; simp [Addr.add]
        case c2 => intro u hu; simp at hu; subst hu; rfl
        case c3 => unfold maxLen; omega
        case c4 => omega
        case c5 => have := hbel.size; simp; omega
        intro v' w3 hown' hgrow _
        have hbel' : Below v1.heap.size v1 w3 := (balloc hbel _).grown hgrow (by have := hbel.size; simp; omega) (fun q hq => by
          have := hown.lt q hq
          omega)
        have hown2 : w3.ownsRow v1.heap.size 3 1 v' (k + 1) ((negs (z0.take (k + 1))).map (Value.int .i64)) := by
          rw [HT.out, List.map_append]; exact hown'
        clear hown' hgrow hown
        go_wp2
        go_roundw
        case rel => exact ⟨k + 1, by omega, by go_num, hown2, hbel', hne'⟩
        case measure => simp [intOf]; omega
    · have e : k = z0.length := by omega
      subst e
      rw [List.take_length] at hown
      obtain ⟨ta, tc, rfl, ht⟩ := row_owned hown (by simp [negs])
      have hnl : (negs z0).length = z0.length := by simp [negs]
      have B2 := bthen B1 hbel
      have r2 := r1.kept hbel
      clear hown r1 B1 hbel
      by_cases x1 : a1 < 1
      · have d1 : decide (1 ≤ a1) = false := decide_eq_false (by omega)
        go_wp2_with (first
          | (go_at_call 9; refine (min_none _ _ _ _ _ x1).mono ?_; rintro e w' ⟨rfl, rfl⟩)
          | (go_at_call 11; refine (max_none _ _ _ _ _ x1).mono ?_; rintro e w' ⟨rfl, rfl⟩))
        go_loopw [62] (fun i wr' => i = .int .i64 0 ∧ Below w.heap.size w wr') (fun i _ => (intOf i).toNat)
        case atStart => exact ⟨rfl, B2⟩
        case round =>
          obtain ⟨rfl, B3⟩ := hrel
          go_wp2
          go_ret
          exact ⟨rfl, B3⟩
      · have y1 : 1 ≤ a1 := by omega
        have d1 : decide (1 ≤ a1) = true := decide_eq_true y1
        go_wp2_with (first
          | (go_at_call 9; refine (min_any _ _ z0 a1 _ r2 (by omega) y1 (by omega)).mono ?_; rintro e v3 ⟨R3, O3, n3, rfl, k3, g3, b3⟩; have r3 := r2.kept b3; have B3 := bthen B2 b3; have t3 := ht.kept b3; clear r2 b3 B2 ht)
          | (go_at_call 11; refine (max_any _ _ z0 a1 _ r3 (by omega) y1 (by omega)).mono ?_; rintro e v4 ⟨R4, O4, n4, rfl, k4, g4, b4⟩; have r4 := r3.kept b4; have B4 := bthen B3 b4; have t4 := t3.kept b4; have k3' := k3.kept b4; clear r3 b4 B3 t3 k3)
          | (go_at_call 11; rw [← hnl]; refine (max_any _ _ (negs z0) a1 _ t4 (by omega) y1 (by omega)).mono ?_; rintro e v5 ⟨R5, O5, n5, rfl, k5, g5, b5⟩; have r5 := r4.kept b5; have B5 := bthen B4 b5; have k3'' := k3'.kept b5; have k4' := k4.kept b5; clear r4 b5 B4 t4 k3' k4))
        have N3 : Hid (R3.length = z0.length) := n3
        have N4 : Hid (R4.length = z0.length) := n4
        have N5 : Hid (R5.length = z0.length) := n5.trans hnl
        have g5' : ∀ k, k < z0.length → Best false (fun j => (negs z0).getD j 0) (frL a1 k) (k + 1) (R5.getD k 0) := fun k hk => g5 k (by omega)
        clear n3 n4 n5 hnl g5
        go_loopw [62] (fun i wr' => ∃ k n : Nat, k ≤ z0.length ∧ i = .int .i64 k ∧ wr' = v5.drewN n) (fun i _ => z0.length - (intOf i).toNat)
        case atStart => exact ⟨0, 0, Nat.zero_le _, rfl, rfl⟩
        case round =>
          obtain ⟨k, n, hk, rfl, rfl⟩ := hrel
          by_cases hlt : k < z0.length
          · obtain ⟨g, off, rfl, hcells⟩ : ∃ g off, a0 = some ⟨g, off, none⟩ ∧ ∀ j, j < z0.length → v5.cell? ⟨g, off + j, none⟩ = some (.int .i64 (z0.getD j 0)) := by
              rcases r5 with e | e
              · subst e; simp at hlt
              · exact e
            have cl := hcells k hlt
            have ca := k3''.cell k (by have := N3.out; omega)
            have cb := k4'.cell k (by have := N4.out; omega)
            have cc := k5.cell k (by have := N5.out; omega)
            have hc : R3.getD k 0 = -(R5.getD k 0) := (g3 k hlt).uniq (best_turned (by omega) (g5' k hlt))
            have hm := hfit _ (best_mem (by omega) (g3 k hlt))
            have hfk := frL_le a1 k y1
            have hal := (g3 k hlt).2 k hfk (by omega)
            have hbl := (g4 k hlt).2 k hfk (by omega)
            simp only [bt, if_true, Bool.false_eq_true, if_false, decide_eq_false_iff_not] at hal hbl
            have hc2 : R5.getD k 0 = -(R3.getD k 0) := by omega
            rw [hc2] at cc
            generalize hxa : R3.getD k 0 = xa at ca cc hm hal
            generalize hxb : R4.getD k 0 = xb at cb hbl
            generalize hxl : z0.getD k 0 = xl at cl hal hbl
            have hwa : IntKind.i64.wrap xa = xa := wrap_in hm
            have hd1 : decide (xl < xa) = false := decide_eq_false hal
            have hd2 : decide (xb < xl) = false := decide_eq_false hbl
            clear hxa hxb hxl hc hc2 hcells
            go_wp2
            go_quiet (fail)
            go_wp2
            go_roundw
            case rel => exact ⟨k + 1, _, by omega, by go_num, rfl⟩
            case measure => simp [intOf]; omega
          · go_wp2
            go_ret
            exact ⟨rfl, below_drewN B5 n⟩

end Go.Proofs.Ytdnhanaeamnddaa
namespace Go.Proofs.Ytdnhanaeamnddaa.windowTurned
open Go.ChangeShapes Go.WideShapes Go.ChangeAt Go.RowKit
set_option linter.unusedVariables false

theorem contract (H : Type) (enc : TypeId × Value → H) (W : World) (base : Nat) (args : Array Value) (ds gs : List (DataW H)) (before : List MemPlace)
    (hval : ∀ (j : Nat) t v, Try.f5.params[j]? = some t → args[j]? = some v → Value.okWide Try.prog W .any base t v)
    (hW : DataW.Whole enc Try.prog Try.f5.params.toList Rows.windowTurnedSpec.vars false W args.toList ds gs before) (hk : Rows.uptoSmall H (ds ++ gs) = true) :
    Calls Try.prog 5 args W fun e W' => ∃ v, e = .returned v ∧ Rows.windowTurnedSpec.post enc Try.prog Try.f5 false true false false W args v W' := by
  have hW' := hW
  obtain ⟨p, q, hA0, hV, rfl, hfz, hnd⟩ := hW
  have hA : DataW.TrodAll enc Try.prog W 0 (fun _ => true) true Try.f5.params.toList args.toList ds p := hA0
  rw [Try.params5] at hA hval
  obtain ⟨v0, vs0, d0, ds0, p0, q0, hargs, rfl, rfl, h0, r0⟩ := trodAll_cons hA
  obtain ⟨v1, vs1, d1, ds1, p1, q1, rfl, rfl, rfl, h1, r1⟩ := trodAll_cons r0
  obtain ⟨rfl, rfl, rfl⟩ := trodAll_nil r1
  obtain rfl : args = #[v0, v1] := by cases args; simp_all
  obtain ⟨rfl, rfl⟩ := trodVars_none hV
  obtain ⟨a0, len0, cap0, rfl⟩ := okWide_slice Try.underlying22 (hval 0 22 v0 rfl rfl)
  have k0 := h0
  have lt0 : ∀ x ∈ p0, x.block < W.heap.size := by obtain ⟨m, hm⟩ := k0; exact DataW.trod_lt m _ _ _ hm
  obtain ⟨z0, rfl, w0⟩ := came h0 (bulk_head hk)
  obtain ⟨a1, rfl, rfl, rfl, w1⟩ := open_int Try.underlying3 (hval 1 3 v1 rfl rfl) h1
  clear hA0
  refine (windowTurned_walk a0 cap0 z0 a1 W w0 (fits w1)).mono fun e W' ⟨he, bel⟩ => ?_
  subst he
  exact ⟨_, rfl, _, _, _, [], _, [], hW', trodAll_mk1 (shut_bool Try.underlying4 _), (trodAll_cons_mk (Below.trod laidOut (by kernel_rfl) (of_decide_eq_true (by kernel_rfl)) k0 bel lt0) (trodAll_cons_mk (shut_int Try.underlying3 w1) trodAll_mk0)), rfl, bel.frame _, fun h => by cases h⟩

set_option maxRecDepth 100000 in
theorem lifted (os : Os) (started : os.Started) (H : Type) (enc : TypeId × Value → H) (F : Stop.Interp) :
    ReturnsInHanded {} Try.checked os 5 .any ((Rows.OpenSpec.upto Rows.windowTurnedSpec).pre6 enc Try.prog Try.f5 Rows.windowTurnedUptoRow.domain false) (((Rows.OpenSpec.upto Rows.windowTurnedSpec).at F).post enc Try.prog Try.f5 false true false false) := by
  refine returnsInHanded_of_cond (C := Try.checked) (s := Rows.OpenSpec.upto Rows.windowTurnedSpec) (k := Rows.uptoSmall) rfl own started (by kernel_rfl) Try.func5
    (OpenSpec.witness (enc := enc) (C := Try.checked) (s := Rows.OpenSpec.upto Rows.windowTurnedSpec) (k := Rows.uptoSmall) rfl false ⟨#[], #[.slice none 0 0, .int .i64 0], []⟩ 8 (by kernel_rfl) (by kernel_rfl) (by kernel_rfl)
      (x := ([.nil, .lit (.int .i64 0)], [], [])) (by kernel_rfl) rfl (by kernel_rfl)) ?_
  intro W base args ds gs before hval hW _ hk _
  exact contract H enc W base args ds gs before hval hW hk

theorem proved : Rows.WindowTurnedUptoSaid :=
  OpenClaim.holds_of_cond 5 Try.f5 rfl rfl rfl rfl rfl rfl rfl ⟨rfl, rfl, rfl, rfl, rfl⟩ rfl rfl rfl rfl rfl (by kernel_rfl) Try.func5 (by kernel_rfl)
    (of_decide_eq_true (by kernel_rfl)) (by unfold Func.isWrapper; first | (rw [if_pos (by decide +kernel)]; kernel_rfl) | (rw [if_neg (by decide +kernel)]; exact ⟨rfl, rfl⟩))
    (fun os started H enc _ F => lifted os started H enc F)

end Go.Proofs.Ytdnhanaeamnddaa.windowTurned
namespace Go.Proofs.Ytdnhanaeamnddaa
theorem windowTurnedUpto_holds : Rows.WindowTurnedUptoSaid := windowTurned.proved
#print axioms windowTurnedUpto_holds
end Go.Proofs.Ytdnhanaeamnddaa
