/- PROVED: what the document's own EClose answers. CONDITIONS: none beyond each theorem's own. -/
import Derived.Test.YtiefkghpmjbhiaaRefConv
import Derived.Test.YtiefkghpmjbhiaaTold
import Derived.Test.YtiefkghpmjbhiaaRest
namespace Go.Proofs.Ytiefkghpmjbhiaa
open Go.RowKit

theorem econv_n (a1 a2 : Option Addr) (c1 c2 n : Nat) (f g R : List Int) (hR : conv f g = R) (w : World) (k1 : Row w a1 f) (k2 : Row w a2 g) (e1 : f.length = n) (e2 : g.length = n) (h : n ≤ 17592186044416) :
    Calls Try.prog 13 #[.slice a1 n c1, .slice a2 n c2] w (AnsN w n R) := by
  have hc := econv_any a1 a2 c1 c2 f g w k1 k2 (by omega) (by omega)
  rw [e1, e2] at hc
  refine hc.mono fun e w' q => ?_
  unfold Ans at q
  rw [conv_len, e1, e2, Nat.min_self, hR] at q
  exact q

/-- what is read of one number -/
def readAt (w : World) (b o j : Nat) : Nat := match w.cell? ⟨b, o + j, none⟩ with
  | some (.int _ x) => x.toNat
  | _ => 0
/-- how much lies in a slice, in all -/
def weightOf (v : Value) (w : World) : Nat := match v with
  | .slice (some a) n _ => ((List.range n).map (readAt w a.block a.off)).sum
  | _ => 0
theorem weight_range (L : List Int) : weight L = ((List.range L.length).map fun j => (L.getD j 0).toNat).sum := by
  unfold weight
  congr 1
  refine List.ext_getElem (by simp) fun j h1 h2 => ?_
  simp at h1
  simp [h1]
theorem weightOf_row {w : World} {x : Option Addr} {L : List Int} {n cap : Nat} (h : Row w x L) (hn : L.length = n) : weightOf (.slice x n cap) w = weight L := by
  subst hn
  rcases h with e | ⟨b, o, rfl, k⟩
  · subst e
    cases x with
    | none => rfl
    | some a => rfl
  · rw [weight_range]
    show ((List.range L.length).map (readAt w b o)).sum = _
    congr 1
    refine List.map_congr_left fun j hj => ?_
    unfold readAt
    rw [k j (List.mem_range.1 hj)]

/-- what is closed at first -/
def st0 (F : Nat → Int) (j : Nat) : Int := if j = 0 then 0 else fit (F j)
theorem mid_start (f : List Int) (h : 0 < f.length) : Mid f (outs (st0 fun j => f.getD j 0) f.length) := by
  refine ⟨outs_len _ _, outs_getD _ _ _ h, fun t ht => ?_, fun t ht => ?_, fun t h0 ht => ?_⟩
  · rw [outs_len] at ht
    rw [outs_getD _ _ _ ht]
    unfold st0
    split
    · rfl
    · exact fit_fit _
  · rw [outs_getD _ _ _ ht]
    unfold st0
    by_cases e : t = 0
    · rw [if_pos e, e, clf_zero]; exact Int.le_refl _
    · rw [if_neg e]; exact clf_below _ _ (by omega)
  · rw [outs_getD _ _ _ ht]
    unfold st0
    rw [if_neg (by omega)]; exact Int.le_refl _
theorem mid_less {f g : List Int} (h : Mid f g) (h0 : 0 < f.length) (ne : conv g g ≠ g) : weight (conv g g) < weight g := by
  obtain ⟨h1, h2⟩ := h.conv h0
  have hl := h.len
  refine (weight_lt g (conv g g) (by rw [conv_len]; omega) (fun t ht => ?_) (fun t ht => h2 t (by omega))).2 ne
  rw [← h1.fits t (by rw [conv_len]; omega)]; exact fit_lo _

theorem eclose_none (a : Option Addr) (c : Nat) (w : World) : Calls Try.prog 17 #[.slice a 0 c] w (AnsN w 0 []) := by
  go_enter Try.func17, Try.ntmps17
  go_wp2
  go_ret
  exact ⟨none, 0, rfl, Nat.le_refl _, .inl rfl, Below.refl _ _⟩

set_option maxRecDepth 100000 in
set_option maxHeartbeats 4000000 in
theorem eclose_some (b o c n : Nat) (f : List Int) (w : World) (A : Option Addr) (hA : (if c = 1 then some (⟨b, o, none⟩ : Addr) else some ⟨b, o + 1, none⟩) = A) (k1 : Row w A (f.drop 1)) (hn : f.length = n) (h1 : n ≤ 17592186044415) (hp : 1 ≤ n) (_hc : n ≤ c) :
    Calls Try.prog 17 #[.slice (some ⟨b, o, none⟩) n c] w (AnsN w n (close f)) := by
  obtain ⟨i0, hi, hz0, hz1, hz2⟩ := info_parts Try.info3
  have hst : Gath w (.slice (some ⟨w.heap.size, 0, none⟩) 1 1) (w.alloc (.cells #[.int .i64 0] 3)) (outs (st0 fun j => f.getD j 0) (0 + 1)) :=
    ⟨⟨rfl, .inr ⟨w.heap.size, 1, #[.int .i64 0], rfl, Nat.le_refl _, (by show (w.heap.push _)[w.heap.size]? = _; simp), Nat.le_refl _, by unfold maxLen; omega, rfl, rfl⟩⟩, balloc (Below.refl _ _) _⟩
  have hm0 := mid_start f (by omega)
  rw [hn] at hm0
  have d0 : ((n : Int) == 0) = false := beq_eq_false_iff_ne.2 (by omega)
  have hmin : min (1 : Int) n = 1 := by omega
  obtain ⟨m, hm⟩ : ∃ m, n = m + 1 := ⟨n - 1, by omega⟩
  have hnm : n - 1 = m := by omega
  have hdl : (f.drop 1).length = m := by rw [List.length_drop, hn]; omega
  have hnx : Hid (∀ k, st0 (fun j => f.getD j 0) (k + 1) = fit ((f.drop 1).getD k 0)) := fun k => by unfold st0; rw [if_neg (by omega), drop_getD, Nat.add_comm]
  have HM : Hid (n = m + 1) := hm
  clear hm
  generalize hS0 : (st0 fun j => f.getD j 0) = S0 at hst hm0 hnx
  clear hS0
  generalize f.drop 1 = fd at k1 hdl hnx
  go_enter Try.func17, Try.ntmps17
  go_wp2
  go_loopw [3, 16] (fun t i wr => ∃ k : Nat, k ≤ m ∧ i = .int .i64 k ∧ Gath w t wr (outs S0 (k + 1))) (fun _ i _ => m - (intOf i).toNat)
  case atStart => exact ⟨0, Nat.zero_le _, rfl, hst⟩
  case round =>
    obtain ⟨k, hk, rfl, hG⟩ := hrel
    clear hst
    by_cases hlt : k < m
    · obtain ⟨b1, o1, hA1, e1⟩ := k1.at (by omega)
      have cx := (hG.below.cell (p := ⟨b1, o1 + k, none⟩) (block_lt (e1 k (by omega)))).trans (e1 k (by omega))
      have hx := hnx.out k
      have ho1 := hG.own
      have hRl := outs_len S0 (k + 1)
      have hki : (k : Int) < m := by omega
      generalize fd.getD k 0 = x at cx hx
      replace hx : Hid (S0 (k + 1) = fit x) := hx
      clear e1
      subst hA1
      go_wp2_with (first
        | (go_at_call 30; refine (rfit_any _ _).mono ?_; rintro e wr ⟨rfl, rfl⟩)
        | (at_builtin; refine wpList_append_own _ rfl _ _ 22 rfl w.heap.size 3 i0 (.int .i64 0) 1 8 Try.underlying22 hi hz0 hz1 hz2 rfl (by decide) _ _ _ rfl (ho1.alloc _) ⟨wr.heap.size, 0, none⟩ 1 1 [.int .i64 (fit x)] rfl rfl (cell_one_new _ _ _) (by simp [Value.oneCell']) (by unfold maxLen; omega) (by omega) (by have := hG.below.size; simp; omega) ?_; intro t' w2 hown' hgrow _; have hS := hG.next (Below.refl _ _) hx.out.symm hown' hgrow; clear hown' hgrow ho1))
      go_roundw
      case rel => exact ⟨k + 1, by omega, by go_num, hS⟩
      case measure => simp [intOf]; omega
    · obtain e : m = k := by omega
      subst e
      obtain ⟨ao, cap, rfl, hcp, hR⟩ := owned_cap hG.own
      have hB0 := hG.below
      rw [← HM.out] at hR hcp ⊢
      rw [outs_len] at hcp ⊢
      clear hG hnx hi hz0 hz1 hz2
      go_wp2
      go_loopw [3] (fun t wr => ∃ (L : List Int) (x : Option Addr) (cap : Nat), t = .slice x n cap ∧ n ≤ cap ∧ Row wr x L ∧ L.length = n ∧ Mid f L ∧ Below w.heap.size w wr) (fun t wr => weightOf t wr)
      case atStart => exact ⟨_, ao, cap, rfl, hcp, hR, outs_len _ _, hm0, hB0⟩
      case round =>
        obtain ⟨L, x, cp, rfl, hcp, hR, hL, hM, hB⟩ := hrel
        obtain ⟨hM2, hle⟩ := hM.conv (by omega)
        have hfin : Hid (conv L L = L → L = close f) := hM.done (by omega)
        have hdec : Hid (conv L L ≠ L → weight (conv L L) < weight L) := mid_less hM (by omega)
        have hw0 := weightOf_row (cap := cp) hR hL
        replace hw0 : Hid _ := hw0
        have hH : (conv L L).length = n := by rw [conv_len, hL, Nat.min_self]
        have hec := econv_n x x cp cp n L L _ rfl wr hR hR hL hL (by omega)
        generalize conv L L = H at hM2 hfin hdec hH hec
        clear hM hle hm0 hB0
        go_wp2_with (go_at_call 13; refine hec.mono ?_; rintro e v ⟨y, d, rfl, hd, rH, bH⟩; clear hec; have rL := hR.kept bH; have B := bthen hB bH; clear hR hB bH)
        go_loopw [7, 31] (fun s i u => ∃ (k q : Nat) (b : Bool), k ≤ n ∧ i = .int .i64 k ∧ s = .bool b ∧ (b = true ↔ ∀ j, j < k → L.getD j 0 = H.getD j 0) ∧ u = v.drewN q) (fun _ i _ => n - (intOf i).toNat)
        case atStart => exact ⟨0, 0, true, Nat.zero_le _, rfl, rfl, ⟨fun _ j h => by omega, fun _ => rfl⟩, rfl⟩
        case round =>
          obtain ⟨k, q, bb, hk, rfl, rfl, hbb, rfl⟩ := hrel
          by_cases hlt : k < n
          · obtain ⟨g1, p1, rfl, e1⟩ := rL.at (by omega)
            obtain ⟨g2, p2, rfl, e2⟩ := rH.at (by omega)
            have cx := e1 k (by omega)
            have cy := e2 k (by omega)
            have hki : (k : Int) < n := by omega
            cases bb with
            | true =>
              have hall := hbb.1 rfl
              by_cases heq : L.getD k 0 = H.getD k 0
              · have hnew : (true = true ↔ ∀ j, j < k + 1 → L.getD j 0 = H.getD j 0) := ⟨fun _ j hj => by
                  by_cases e : j = k
                  · subst e; exact heq
                  · exact hall j (by omega), fun _ => rfl⟩
                have dxy : (L.getD k 0 == H.getD k 0) = true := beq_iff_eq.2 heq
                replace hnew : Hid _ := hnew
                clear hall heq hbb e1 e2
                generalize L.getD k 0 = x at cx dxy
                generalize H.getD k 0 = y at cy dxy
                go_wp2
                go_quiet (fail)
                go_wp2
                go_roundw
                case rel => exact ⟨k + 1, _, true, by omega, by go_num, by simp, ⟨fun _ => hnew.out.1 trivial, fun _ => rfl⟩, rfl⟩
                case measure => simp [intOf]; omega
              · have hnew : (false = true ↔ ∀ j, j < k + 1 → L.getD j 0 = H.getD j 0) := ⟨fun h => (by cases h), fun h => absurd (h k (by omega)) heq⟩
                have dxy : (L.getD k 0 == H.getD k 0) = false := beq_eq_false_iff_ne.2 heq
                replace hnew : Hid _ := hnew
                clear hall heq hbb e1 e2
                generalize L.getD k 0 = x at cx dxy
                generalize H.getD k 0 = y at cy dxy
                go_wp2
                go_quiet (fail)
                go_wp2
                go_roundw
                case rel => exact ⟨k + 1, _, false, by omega, by go_num, by simp, hnew.out, rfl⟩
                case measure => simp [intOf]; omega
            | false =>
              have hnew : (false = true ↔ ∀ j, j < k + 1 → L.getD j 0 = H.getD j 0) := ⟨fun h => (by cases h), fun h => hbb.2 fun j hj => h j (by omega)⟩
              replace hnew : Hid _ := hnew
              clear hbb e1 e2 cx cy
              go_wp2
              go_quiet (fail)
              go_wp2
              go_roundw
              case rel => exact ⟨k + 1, _, false, by omega, by go_num, rfl, hnew.out, rfl⟩
              case measure => simp [intOf]; omega
          · obtain e : n = k := by omega
            subst e
            cases bb with
            | true =>
              have hE : L = close f := hfin.out (list_ext (by omega) fun j hj => (hbb.1 rfl j (by omega)).symm)
              replace hE : Hid (L = close f) := hE
              clear hbb hdec hfin hM2
              go_wp2
              go_ret
              exact ⟨x, cp, rfl, hcp, by rw [← hE.out]; exact rL.drewN _, below_drewN B _⟩
            | false =>
              have hne : H ≠ L := fun e => by have := hbb.2 (fun j _ => by rw [e]); cases this
              have hlt2 := hdec.out hne
              have hw1 := weightOf_row (cap := d) (rH.drewN q) hH
              rw [← hw1, ← hw0.out] at hlt2
              replace hlt2 : Hid _ := hlt2
              clear hbb hdec hfin hne hw1 hw0
              go_wp2
              go_roundw
              case rel => exact ⟨H, y, d, rfl, hd, rH.drewN _, hH, hM2, below_drewN B _⟩
              case measure => exact hlt2.out

theorem eclose_n (a : Option Addr) (c n : Nat) (f : List Int) (w : World) (k1 : Row w a f) (hn : f.length = n) (h1 : n ≤ 17592186044415) (hc : n ≤ c) : Calls Try.prog 17 #[.slice a n c] w (AnsN w n (close f)) := by
  by_cases h0 : n = 0
  · subst h0
    obtain rfl : f = [] := List.eq_nil_of_length_eq_zero hn
    exact eclose_none a c w
  · obtain ⟨b, o, rfl, _⟩ := k1.at (by omega)
    exact eclose_some b o c n f w _ rfl (k1.restAt (by omega)) hn h1 (by omega) hc

end Go.Proofs.Ytiefkghpmjbhiaa
