/- PROVED: what the document's own EConv and EOver answer. CONDITIONS: none beyond each theorem's own. -/
import Derived.Test.YtiefkghpmjbhiaaConv
namespace Go.Proofs.Ytiefkghpmjbhiaa
open Go.RowKit

set_option maxHeartbeats 4000000 in
theorem econv_any (a1 a2 : Option Addr) (c1 c2 : Nat) (f g : List Int) (w : World) (k1 : Row w a1 f) (k2 : Row w a2 g) (h1 : f.length ≤ 17592186044416) (h2 : g.length ≤ 17592186044416) :
    Calls Try.prog 13 #[.slice a1 f.length c1, .slice a2 g.length c2] w (Ans w (conv f g)) := by
  obtain ⟨m, hm⟩ : ∃ m, min f.length g.length = m := ⟨_, rfl⟩
  have hmi : min (f.length : Int) (g.length : Int) = (m : Int) := by omega
  have hm1 : m ≤ f.length := by omega
  have hm2 : m ≤ g.length := by omega
  unfold conv
  rw [hm]
  clear hm
  have hmk := run_make_row' (P := Try.prog) 22 3 (.int .i64 0) 8 Try.underlying22 Try.info3 rfl .i64 .i64 m (by omega) (by omega)
  have hst : Cells (w.alloc (.cells (madeCells #[.int .i64 0] m) 3)) w.heap.size m (fill (fun _ => 1152921504606846976) 0) := Cells.start w m _ fun j _ => rfl
  have hB0 : Below w.heap.size w (w.alloc (.cells (madeCells #[.int .i64 0] m) 3)) := balloc (Below.refl _ _) _
  go_enter Try.func13, Try.ntmps13
  go_wp2
  go_loopw [20] (fun i wr => ∃ k : Nat, k ≤ m ∧ i = .int .i64 k ∧ Cells wr w.heap.size m (fill (fun _ => 1152921504606846976) k) ∧ Below w.heap.size w wr) (fun i _ => m - (intOf i).toNat)
  case atStart => exact ⟨0, Nat.zero_le _, rfl, hst, hB0⟩
  case round =>
    obtain ⟨k, hk, rfl, hC, hB⟩ := hrel
    clear hst hB0
    by_cases hlt : k < m
    · have cc := hC.c k hlt
      have cf := hC.fz k hlt
      have hN := hC.put (V' := fill (fun _ => 1152921504606846976) (k + 1)) hlt (fill_new _ k) (fun j _ hj => fill_old _ k j hj)
      have hBN : Below w.heap.size w (wr.setCell ⟨w.heap.size, k, none⟩ (.int .i64 1152921504606846976)) := hB.setCell (p := ⟨w.heap.size, k, none⟩) (Nat.le_refl _) _
      have hltI : (k : Int) < m := by omega
      clear k1 k2 hmk hC
      go_wp2
      go_roundw
      case rel => exact ⟨k + 1, by omega, by go_num, hN, hBN⟩
      case measure => simp [intOf]; omega
    · obtain rfl : k = m := by omega
      have hC1 : Cells wr w.heap.size k (ec (fun j => f.getD j 0) (fun j => g.getD j 0) 0 0) := hC.ext fun j hj => by rw [ec_start, fill_all _ _ _ hj]
      have hdone : ∀ j, j < k → ec (fun j => f.getD j 0) (fun j => g.getD j 0) f.length 0 j = cv (fun j => f.getD j 0) (fun j => g.getD j 0) j := fun j hj => ec_done _ _ _ _ (by omega)
      replace hdone : Hid _ := hdone
      clear hC hmk
      go_wp2
      go_loopw [29] (fun i wr => ∃ s : Nat, s ≤ f.length ∧ i = .int .i64 s ∧ Cells wr w.heap.size k (ec (fun j => f.getD j 0) (fun j => g.getD j 0) s 0) ∧ Below w.heap.size w wr) (fun i _ => f.length - (intOf i).toNat)
      case atStart => exact ⟨0, Nat.zero_le _, rfl, hC1, hB⟩
      case round =>
        obtain ⟨s, hs, rfl, hC, hB⟩ := hrel
        clear hC1
        by_cases hlf : s < f.length
        · obtain ⟨b1, o1, rfl, e1⟩ := k1.at (by omega)
          have cx := cells_kept (F := fun j => f.getD j 0) e1 hB s hlf
          have hrow : Hid (∀ j, j < k → ec (fun j => f.getD j 0) (fun j => g.getD j 0) (s + 1) 0 j = ec (fun j => f.getD j 0) (fun j => g.getD j 0) s g.length j) := fun j hj => (ec_row _ _ s g.length j (by omega)).symm
          have hhere : Hid (∀ u, ec (fun j => f.getD j 0) (fun j => g.getD j 0) s (u + 1) (s + u) = min (ec (fun j => f.getD j 0) (fun j => g.getD j 0) s u (s + u)) (plus (f.getD s 0) (g.getD u 0))) := fun u => ec_here _ _ s u
          have helse : Hid (∀ u t, t ≠ s + u → ec (fun j => f.getD j 0) (fun j => g.getD j 0) s (u + 1) t = ec (fun j => f.getD j 0) (fun j => g.getD j 0) s u t) := fun u t h => ec_else _ _ s u t h
          have hltI : (s : Int) < f.length := by omega
          generalize f.getD s 0 = x at cx hhere
          generalize ec (fun j => f.getD j 0) (fun j => g.getD j 0) s = E at hrow hhere helse hC
          clear e1
          go_wp2
          go_loopw [36] (fun i wr => ∃ u : Nat, u ≤ g.length ∧ i = .int .i64 u ∧ Cells wr w.heap.size k (E u) ∧ Below w.heap.size w wr) (fun i _ => g.length - (intOf i).toNat)
          case atStart => exact ⟨0, Nat.zero_le _, rfl, hC, hB⟩
          case round =>
            obtain ⟨u, hu, rfl, hC, hB⟩ := hrel
            by_cases hlg : u < g.length
            · obtain ⟨b2, o2, rfl, e2⟩ := k2.at (by omega)
              have cy := cells_kept (F := fun j => g.getD j 0) e2 hB u hlg
              have hhu := hhere.out u
              have heu := helse.out u
              have hguI : (u : Int) < g.length := by omega
              obtain ⟨t, ht⟩ : ∃ t : Nat, s + u = t := ⟨_, rfl⟩
              have hti : (s : Int) + (u : Int) = (t : Int) := by omega
              have hwt : IntKind.i64.wrap (t : Int) = t := wrapIn (by omega)
              rw [ht] at hhu heu
              generalize g.getD u 0 = y at cy hhu
              have pl := plus_lo x y
              have ph := plus_hi x y
              by_cases htk : t < k
              · have ct := hC.c t htk
                have cf := hC.fz t htk
                have htkI : (t : Int) < k := by omega
                have d0 : decide ((t : Int) < k) = true := decide_eq_true htkI
                by_cases hp : plus x y < E u t
                · have d1 : decide (plus x y < E u t) = true := decide_eq_true hp
                  have hN := fun q => (hC.drewN q).put (V' := E (u + 1)) (v := plus x y) htk (by rw [hhu]; omega) (fun j _ hj => heu j hj)
                  have hBN := fun q => (below_drewN hB q).setCell (p := ⟨w.heap.size, t, none⟩) (Nat.le_refl _) (.int .i64 (plus x y))
                  generalize E u t = c at ct hp d1
                  clear k1 e2 hhere helse hhu heu hC ht hB
                  go_wp2
                  go_quiet ((go_at_call 27; refine (rplus_any _ _ _).mono ?_; rintro e w'' ⟨rfl, rfl⟩; exact ⟨rfl, _, rfl⟩))
                  go_wp2_with (go_at_call 27; refine (rplus_any _ _ _).mono ?_; rintro e w'' ⟨rfl, rfl⟩)
                  go_roundw
                  case rel => exact ⟨u + 1, by omega, by go_num, hN _, hBN _⟩
                  case measure => simp [intOf]; omega
                · have d1 : decide (plus x y < E u t) = false := decide_eq_false hp
                  have hN : Cells wr w.heap.size k (E (u + 1)) := hC.ext fun j hj => by
                    by_cases e : j = t
                    · subst e; rw [hhu]; omega
                    · exact heu j e
                  have hge : E u t ≤ plus x y := by omega
                  generalize E u t = c at ct hp d1 hge
                  clear k1 e2 hhere helse hhu heu hC ht
                  go_wp2
                  go_quiet ((go_at_call 27; refine (rplus_any _ _ _).mono ?_; rintro e w'' ⟨rfl, rfl⟩; exact ⟨rfl, _, rfl⟩))
                  go_wp2
                  go_roundw
                  case rel => exact ⟨u + 1, by omega, by go_num, hN.drewN _, below_drewN hB _⟩
                  case measure => simp [intOf]; omega
              · have htkI : ¬ (t : Int) < k := by omega
                have d0 : decide ((t : Int) < k) = false := decide_eq_false htkI
                have hN : Cells wr w.heap.size k (E (u + 1)) := hC.ext fun j hj => heu j (by omega)
                clear k1 e2 hhere helse hhu heu hC ht
                go_wp2
                go_quiet (fail)
                go_wp2
                go_roundw
                case rel => exact ⟨u + 1, by omega, by go_num, hN.drewN _, below_drewN hB _⟩
                case measure => simp [intOf]; omega
            · obtain e : u = g.length := by omega
              subst e
              have hN := hC.ext hrow.out
              go_wp2
              go_roundw
              case rel => exact ⟨s + 1, by omega, by go_num, hN, hB⟩
              case measure => simp [intOf]; omega
        · obtain e : s = f.length := by omega
          subst e
          go_wp2
          go_ret
          exact (hC.ext fun j hj => (hdone.out j hj).symm).done hB

set_option maxHeartbeats 4000000 in
theorem eover_any (a1 a2 : Option Addr) (c1 c2 : Nat) (f g : List Int) (w : World) (k1 : Row w a1 f) (k2 : Row w a2 g) (h1 : f.length ≤ 17592186044416) (h2 : g.length ≤ 17592186044416) :
    Calls Try.prog 15 #[.slice a1 f.length c1, .slice a2 g.length c2] w (Ans w (over f g)) := by
  unfold over
  have hmk := run_make_row' (P := Try.prog) 22 3 (.int .i64 0) 8 Try.underlying22 Try.info3 rfl .i64 .i64 f.length (by omega) (by omega)
  have hst : Cells (w.alloc (.cells (madeCells #[.int .i64 0] f.length) 3)) w.heap.size f.length (eo (fun j => f.getD j 0) (fun j => g.getD j 0) g.length 0 0) := Cells.start w f.length _ fun j _ => eo_start _ _ _ _
  have hB0 : Below w.heap.size w (w.alloc (.cells (madeCells #[.int .i64 0] f.length) 3)) := balloc (Below.refl _ _) _
  have hdone : Hid (∀ j, j < f.length → eo (fun j => f.getD j 0) (fun j => g.getD j 0) g.length f.length 0 j = ov (fun j => f.getD j 0) (fun j => g.getD j 0) f.length g.length j) := fun j hj => eo_done _ _ _ _ _
  go_enter Try.func15, Try.ntmps15
  go_wp2
  go_loopw [16] (fun i wr => ∃ s : Nat, s ≤ f.length ∧ i = .int .i64 s ∧ Cells wr w.heap.size f.length (eo (fun j => f.getD j 0) (fun j => g.getD j 0) g.length s 0) ∧ Below w.heap.size w wr) (fun i _ => f.length - (intOf i).toNat)
  case atStart => exact ⟨0, Nat.zero_le _, rfl, hst, hB0⟩
  case round =>
    obtain ⟨s, hs, rfl, hC, hB⟩ := hrel
    clear hst hB0 hmk
    by_cases hlf : s < f.length
    · obtain ⟨b1, o1, rfl, e1⟩ := k1.at (by omega)
      have cx := cells_kept (F := fun j => f.getD j 0) e1 hB s hlf
      have hrow : Hid (∀ j, j < f.length → eo (fun j => f.getD j 0) (fun j => g.getD j 0) g.length (s + 1) 0 j = eo (fun j => f.getD j 0) (fun j => g.getD j 0) g.length s g.length j) := fun j hj => (eo_row _ _ g.length s j).symm
      have hhere : Hid (∀ u, u < g.length → u ≤ s → eo (fun j => f.getD j 0) (fun j => g.getD j 0) g.length s (u + 1) (s - u) = max (eo (fun j => f.getD j 0) (fun j => g.getD j 0) g.length s u (s - u)) (less (f.getD s 0) (g.getD u 0))) := fun u hu hs => eo_here _ _ g.length s u hu hs
      have helse : Hid (∀ u t, t + u ≠ s → eo (fun j => f.getD j 0) (fun j => g.getD j 0) g.length s (u + 1) t = eo (fun j => f.getD j 0) (fun j => g.getD j 0) g.length s u t) := fun u t h => eo_else _ _ g.length s u t h
      have hltI : (s : Int) < f.length := by omega
      generalize f.getD s 0 = x at cx hhere
      generalize eo (fun j => f.getD j 0) (fun j => g.getD j 0) g.length s = E at hrow hhere helse hC
      clear e1
      go_wp2
      go_loopw [23] (fun i wr => ∃ u : Nat, u ≤ g.length ∧ i = .int .i64 u ∧ Cells wr w.heap.size f.length (E u) ∧ Below w.heap.size w wr) (fun i _ => g.length - (intOf i).toNat)
      case atStart => exact ⟨0, Nat.zero_le _, rfl, hC, hB⟩
      case round =>
        obtain ⟨u, hu, rfl, hC, hB⟩ := hrel
        by_cases hlg : u < g.length
        · obtain ⟨b2, o2, rfl, e2⟩ := k2.at (by omega)
          have cy := cells_kept (F := fun j => g.getD j 0) e2 hB u hlg
          have heu := helse.out u
          have hguI : (u : Int) < g.length := by omega
          by_cases hus : u ≤ s
          · have hhu := hhere.out u hlg hus
            obtain ⟨t, ht⟩ : ∃ t : Nat, s - u = t := ⟨_, rfl⟩
            have hti : (s : Int) - (u : Int) = (t : Int) := by omega
            have hwt : IntKind.i64.wrap (t : Int) = t := wrapIn (by omega)
            have htk : t < f.length := by omega
            rw [ht] at hhu
            generalize g.getD u 0 = y at cy hhu
            have pl := less_lo x y
            have ph := less_hi x y
            have ct := hC.c t htk
            have cf := hC.fz t htk
            have htkI : (t : Int) < f.length := by omega
            have htz : (0 : Int) ≤ t := by omega
            have d0 : decide ((0 : Int) ≤ t) = true := decide_eq_true htz
            by_cases hp : E u t < less x y
            · have d1 : decide (E u t < less x y) = true := decide_eq_true hp
              have hN := fun q => (hC.drewN q).put (V' := E (u + 1)) (v := less x y) htk (by rw [hhu]; omega) (fun j _ hj => heu j (by omega))
              have hBN := fun q => (below_drewN hB q).setCell (p := ⟨w.heap.size, t, none⟩) (Nat.le_refl _) (.int .i64 (less x y))
              generalize E u t = c at ct hp d1
              clear k1 e2 hhere helse hhu heu hC ht hB
              go_wp2
              go_quiet ((go_at_call 29; refine (rless_any _ _ _).mono ?_; rintro e w'' ⟨rfl, rfl⟩; exact ⟨rfl, _, rfl⟩))
              go_wp2_with (go_at_call 29; refine (rless_any _ _ _).mono ?_; rintro e w'' ⟨rfl, rfl⟩)
              go_roundw
              case rel => exact ⟨u + 1, by omega, by go_num, hN _, hBN _⟩
              case measure => simp [intOf]; omega
            · have d1 : decide (E u t < less x y) = false := decide_eq_false hp
              have hN : Cells wr w.heap.size f.length (E (u + 1)) := hC.ext fun j hj => by
                by_cases e : j = t
                · subst e; rw [hhu]; omega
                · exact heu j (by omega)
              have hge : less x y ≤ E u t := by omega
              generalize E u t = c at ct hp d1 hge
              clear k1 e2 hhere helse hhu heu hC ht
              go_wp2
              go_quiet ((go_at_call 29; refine (rless_any _ _ _).mono ?_; rintro e w'' ⟨rfl, rfl⟩; exact ⟨rfl, _, rfl⟩))
              go_wp2
              go_roundw
              case rel => exact ⟨u + 1, by omega, by go_num, hN.drewN _, below_drewN hB _⟩
              case measure => simp [intOf]; omega
          · obtain ⟨t, ht⟩ : ∃ t : Int, (s : Int) - (u : Int) = t := ⟨_, rfl⟩
            have htn : t < 0 := by omega
            have d0 : decide ((0 : Int) ≤ t) = false := decide_eq_false (by omega)
            have hwt : IntKind.i64.wrap t = t := wrapIn (by omega)
            have hN : Cells wr w.heap.size f.length (E (u + 1)) := hC.ext fun j hj => heu j (by omega)
            generalize g.getD u 0 = y at cy
            clear k1 e2 hhere helse heu hC
            go_wp2
            go_quiet (fail)
            go_wp2
            go_roundw
            case rel => exact ⟨u + 1, by omega, by go_num, hN.drewN _, below_drewN hB _⟩
            case measure => simp [intOf]; omega
        · obtain e : u = g.length := by omega
          subst e
          have hN := hC.ext hrow.out
          go_wp2
          go_roundw
          case rel => exact ⟨s + 1, by omega, by go_num, hN, hB⟩
          case measure => simp [intOf]; omega
    · obtain e : s = f.length := by omega
      subst e
      go_wp2
      go_ret
      exact (hC.ext fun j hj => (hdone.out j hj).symm).done hB

end Go.Proofs.Ytiefkghpmjbhiaa
