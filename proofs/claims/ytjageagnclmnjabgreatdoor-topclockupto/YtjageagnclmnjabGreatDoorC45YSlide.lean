/- PROVED: what add does to a row of rivals that lies in memory. what add does to a row of rivals, nil or not. slide, with the two kinds of begin. CONDITIONS: none beyond each theorem's own. -/
import Derived.Test.YtjageagnclmnjabGreatDoorC44YGrow
import Derived.Deep.OwnRows
import Derived.Laws.EntriesVeiled
section
namespace Go.Proofs.YtjageagnclmnjabGreatDoor.Y
set_option maxRecDepth 100000
open Go.RowKit

def bfn (_ : Bool) : Value := .func (.func 37) #[] #[]

set_option maxHeartbeats 3200000 in
theorem add_true (P g off cap : Nat) (rs : Rs) (p v : Int) (w : World)
    (h : Riv P (bfn true) w (some ⟨g, off, none⟩) cap rs) (hk : rs.length ≤ 8796093022206) :
    Calls Tryz.prog 51 #[.pointer (some ⟨P, 0, none⟩), .int .i64 p, .int .i64 v] w fun e w' => e = .returned (.tuple #[]) ∧ ∃ ao' cap', Riv P (bfn true) w' ao' cap' (addR true rs p v) ∧ Keep P w w' := by
  obtain ⟨i0, hi, hz0, hz1, hz2⟩ := info_parts Tryz.info51
  obtain ⟨hg1, hg2, hL⟩ : P + 2 ≤ g ∧ g < w.heap.size ∧ Lies w g off cap rs := by
    rcases h.row with ⟨e, _⟩ | ⟨g', off', e, h1, h2, hL⟩
    · cases e
    · cases e; exact ⟨h1, h2, hL⟩
  have hsz := h.size
  have c0 := h.b
  have c1 := h.l
  have f1 := h.f
  have hl := hL.le
  have hcm := hL.small
  unfold maxLen at hcm
  simp only [bfn] at c0
  go_enter Tryz.func51, Tryz.ntmps51
  go_wp2
  go_loopw [6] (fun t wr => ∃ s n : Nat, s ≤ rs.length ∧ t = .int .i64 s ∧ Hid (stay true rs v rs.length = stay true rs v s) ∧ wr = w.drewN n) (fun t _ => (intOf t).toNat)
  case atStart => exact ⟨rs.length, 0, Nat.le_refl _, rfl, rfl, rfl⟩
  case round =>
    obtain ⟨s, n, hs, rfl, hst, rfl⟩ := hrel
    cases s with
    | zero =>
      have hd : decide ((0 : Int) < ((0 : Nat) : Int)) = false := by simp
      have hadd : addR true rs p v = rs.take 0 ++ [(p, v)] := by unfold addR; rw [hst.out]; rfl
      have hlt : (rs.take 0).length = 0 := by simp
      go_wp2
      go_quiet ((go_at_call 37; refine (lesser_any _ _ _).mono ?_; rintro e w'' ⟨rfl, rfl⟩; exact ⟨rfl, _, rfl⟩))
      go_wp2_with (at_builtin; refine wpList_append_arg _ rfl _ _ 81 rfl 106 i0 (.agg #[.int .i64 0, .int .i64 0]) 2 16 Tryz.underlying81 hi hz0 hz1 hz2 rfl (by decide) g off (0) cap (flat (rs.take (0))) rfl ?lo ?olds ⟨w.heap.size, 0, none⟩ 1 1 [.int .i64 p, .int .i64 v] rfl rfl ?c1 ?c2 ?spare ?b1 ?b2 ?room ?grow)
      case lo => rw [flat_len, hlt]
      case olds => exact fun j u hu => (atApp_cell hg2).trans (hL.flat (0) hs j u hu)
      case c1 => exact atApp_news w _ p v
      case c2 => exact flat_one [(p, v)]
      case spare =>
        intro hr j hj
        have hj2 : j < 2 := by simpa using hj
        have := hL.room ((0) * 2 + j) (by omega)
        rw [← Nat.add_assoc] at this
        exact ⟨by rw [atApp_cell hg2]; exact this.1, by rw [atApp_frozen hg2]; exact this.2⟩
      case b1 => unfold maxLen; omega
      case b2 => omega
      case room =>
        intro hr
        have R := Riv.room h (n + nq) p v (0) hs hr
        have k1 : (World.setCells (atApp w (n + nq) p v) g (off + (0) * 2) [.int .i64 p, .int .i64 v]).cell? ⟨P, 1, none⟩ = some (.slice (some ⟨g, off, none⟩) rs.length cap) := by
          rw [World.cell?_setCells_out g _ _ _ _ (fun e => absurd e (show P ≠ g by omega)), atApp_cell (by omega)]; exact c1
        have e1 : (World.setCells (atApp w (n + nq) p v) g (off + (0) * 2) [.int .i64 p, .int .i64 v]).frozen? ⟨P, 1, none⟩ = false := by
          rw [World.frozen?_setCells, atApp_frozen (by omega)]; exact f1
        revert R k1 e1
        show _ → _ → _ → wpList _ _ _ _ _ (World.setCells (atApp w (n + nq) p v) g (off + (0) * 2) [.int .i64 p, .int .i64 v])
        generalize World.setCells (atApp w (n + nq) p v) g (off + (0) * 2) [.int .i64 p, .int .i64 v] = w2
        intro R k1 e1
        go_wp2
        go_end0
        exact ⟨rfl, _, _, hadd ▸ R.1, R.2⟩
      case grow =>
        intro hg v' w2 hown hgrow
        obtain ⟨g2, cap2, rfl⟩ : ∃ g2 cap2, v' = .slice (some ⟨g2, 0, none⟩) ((0) + 1) cap2 := by
          rcases hown.2 with ⟨_, h⟩ | ⟨g2, cap2, _, h, _⟩
          · omega
          · exact ⟨g2, cap2, h⟩
        have R := riv_grow (rs := rs.take (0)) h.size h.b c1 f1 (n + nq) p v g2 cap2 (by rw [hlt]; first | exact hown | (rw [atApp_size]; exact hown)) hgrow
        have hbel : Below w.heap.size w w2 := (atApp_below w (n + nq) p v _ (Nat.le_refl _)).grown hgrow (by rw [atApp_size]; omega) (fun k h => by cases h)
        have k1 := (hbel.cell (p := ⟨P, 1, none⟩) (show P < _ by omega)).trans c1
        have e1 := (hbel.frozen (p := ⟨P, 1, none⟩) (show P < _ by omega)).trans f1
        clear hown hgrow hbel
        rw [hlt] at R
        go_wp2
        go_end0
        exact ⟨rfl, _, _, hadd ▸ R.1, R.2⟩
    | succ s =>
      have hp := hL.v s (by omega)
      have hd : decide ((0 : Int) < ((s + 1 : Nat) : Int)) = true := by simp
      have hwr : IntKind.i64.wrap (s : Int) = s := wrap_in (by omega)
      have hs1 : s < rs.length := by omega
      by_cases hbt : bt true (rs.getD s (0, 0)).2 v = true
      · have hadd : addR true rs p v = rs.take (s + 1) ++ [(p, v)] := by unfold addR; rw [hst.out, stay_stop hbt]
        have hlt : (rs.take (s + 1)).length = s + 1 := by simp; omega
        generalize (rs.getD s (0, 0)).2 = q at hp hbt
        have hbt' : decide (q < v) = true := by simpa [bt] using hbt
        go_wp2
        go_quiet ((go_at_call 37; refine (lesser_any _ _ _).mono ?_; rintro e w'' ⟨rfl, rfl⟩; exact ⟨rfl, _, rfl⟩))
        go_wp2_with (at_builtin; refine wpList_append_arg _ rfl _ _ 81 rfl 106 i0 (.agg #[.int .i64 0, .int .i64 0]) 2 16 Tryz.underlying81 hi hz0 hz1 hz2 rfl (by decide) g off (s + 1) cap (flat (rs.take (s + 1))) rfl ?lo ?olds ⟨w.heap.size, 0, none⟩ 1 1 [.int .i64 p, .int .i64 v] rfl rfl ?c1 ?c2 ?spare ?b1 ?b2 ?room ?grow)
        case lo => rw [flat_len, hlt]
        case olds => exact fun j u hu => (atApp_cell hg2).trans (hL.flat (s + 1) hs j u hu)
        case c1 => exact atApp_news w _ p v
        case c2 => exact flat_one [(p, v)]
        case spare =>
          intro hr j hj
          have hj2 : j < 2 := by simpa using hj
          have := hL.room ((s + 1) * 2 + j) (by omega)
          rw [← Nat.add_assoc] at this
          exact ⟨by rw [atApp_cell hg2]; exact this.1, by rw [atApp_frozen hg2]; exact this.2⟩
        case b1 => unfold maxLen; omega
        case b2 => omega
        case room =>
          intro hr
          have R := Riv.room h (n + nq) p v (s + 1) hs hr
          have k1 : (World.setCells (atApp w (n + nq) p v) g (off + (s + 1) * 2) [.int .i64 p, .int .i64 v]).cell? ⟨P, 1, none⟩ = some (.slice (some ⟨g, off, none⟩) rs.length cap) := by
            rw [World.cell?_setCells_out g _ _ _ _ (fun e => absurd e (show P ≠ g by omega)), atApp_cell (by omega)]; exact c1
          have e1 : (World.setCells (atApp w (n + nq) p v) g (off + (s + 1) * 2) [.int .i64 p, .int .i64 v]).frozen? ⟨P, 1, none⟩ = false := by
            rw [World.frozen?_setCells, atApp_frozen (by omega)]; exact f1
          revert R k1 e1
          show _ → _ → _ → wpList _ _ _ _ _ (World.setCells (atApp w (n + nq) p v) g (off + (s + 1) * 2) [.int .i64 p, .int .i64 v])
          generalize World.setCells (atApp w (n + nq) p v) g (off + (s + 1) * 2) [.int .i64 p, .int .i64 v] = w2
          intro R k1 e1
          go_wp2
          go_end0
          exact ⟨rfl, _, _, hadd ▸ R.1, R.2⟩
        case grow =>
          intro hg v' w2 hown hgrow
          obtain ⟨g2, cap2, rfl⟩ : ∃ g2 cap2, v' = .slice (some ⟨g2, 0, none⟩) ((s + 1) + 1) cap2 := by
            rcases hown.2 with ⟨_, h⟩ | ⟨g2, cap2, _, h, _⟩
            · omega
            · exact ⟨g2, cap2, h⟩
          have R := riv_grow (rs := rs.take (s + 1)) h.size h.b c1 f1 (n + nq) p v g2 cap2 (by rw [hlt]; first | exact hown | (rw [atApp_size]; exact hown)) hgrow
          have hbel : Below w.heap.size w w2 := (atApp_below w (n + nq) p v _ (Nat.le_refl _)).grown hgrow (by rw [atApp_size]; omega) (fun k h => by cases h)
          have k1 := (hbel.cell (p := ⟨P, 1, none⟩) (show P < _ by omega)).trans c1
          have e1 := (hbel.frozen (p := ⟨P, 1, none⟩) (show P < _ by omega)).trans f1
          clear hown hgrow hbel
          rw [hlt] at R
          go_wp2
          go_end0
          exact ⟨rfl, _, _, hadd ▸ R.1, R.2⟩
      · have hbf : bt true (rs.getD s (0, 0)).2 v = false := by simpa using hbt
        have hst' : Hid (stay true rs v rs.length = stay true rs v s) := by rw [Hid, hst.out, stay_step hbf]
        generalize (rs.getD s (0, 0)).2 = q at hp hbt hbf
        have hbt' : decide (q < v) = false := by simpa [bt] using hbf
        go_wp2
        go_quiet ((go_at_call 37; refine (lesser_any _ _ _).mono ?_; rintro e w'' ⟨rfl, rfl⟩; exact ⟨rfl, _, rfl⟩))
        go_wp2
        go_roundw
        case rel => exact ⟨s, _, by omega, by go_num, hst', rfl⟩
        case measure => simp [intOf]

end Go.Proofs.YtjageagnclmnjabGreatDoor.Y

end

section
namespace Go.Proofs.YtjageagnclmnjabGreatDoor.Y
set_option maxRecDepth 100000
open Go.RowKit

set_option maxHeartbeats 1600000 in
theorem add_none_true (P : Nat) (p v : Int) (w : World) (h : Riv P (bfn true) w none 0 []) :
    Calls Tryz.prog 51 #[.pointer (some ⟨P, 0, none⟩), .int .i64 p, .int .i64 v] w fun e w' => e = .returned (.tuple #[]) ∧ ∃ ao' cap', Riv P (bfn true) w' ao' cap' (addR true [] p v) ∧ Keep P w w' := by
  obtain ⟨i0, hi, hz0, hz1, hz2⟩ := info_parts Tryz.info51
  have hsz := h.size
  have c0 := h.b
  have c1 := h.l
  have f1 := h.f
  simp only [List.length_nil] at c1
  simp only [bfn] at c0
  go_enter Tryz.func51, Tryz.ntmps51
  go_wp2
  go_loopw [6] (fun t wr => ∃ n : Nat, t = .int .i64 0 ∧ wr = w.drewN n) (fun t _ => (intOf t).toNat)
  case atStart => exact ⟨0, rfl, rfl⟩
  case round =>
    obtain ⟨n, rfl, rfl⟩ := hrel
    have hadd : addR true [] p v = [] ++ [(p, v)] := rfl
    go_wp2
    go_quiet ((go_at_call 37; refine (lesser_any _ _ _).mono ?_; rintro e w'' ⟨rfl, rfl⟩; exact ⟨rfl, _, rfl⟩))
    go_wp2_with (at_builtin; refine wpList_append_grows _ rfl _ _ 81 rfl 106 i0 (.agg #[.int .i64 0, .int .i64 0]) 2 16 Tryz.underlying81 hi hz0 hz1 hz2 rfl (by decide) none 0 0 [] rfl ?hn ?lo ?olds ⟨w.heap.size, 0, none⟩ 1 1 [.int .i64 p, .int .i64 v] rfl rfl ?c1 ?c2 ?full ?b1 ?b2 ?grow)
    case lo => rfl
    case olds => intro b hb; cases hb
    case c1 => exact atApp_news w _ p v
    case c2 => exact flat_one [(p, v)]
    case full => omega
    case b1 => unfold maxLen; omega
    case b2 => omega
    case grow =>
      intro v' w2 hown hgrow
      obtain ⟨g2, cap2, rfl⟩ : ∃ g2 cap2, v' = .slice (some ⟨g2, 0, none⟩) (0 + 1) cap2 := by
        rcases hown.2 with ⟨_, h⟩ | ⟨g2, cap2, _, h, _⟩
        · omega
        · exact ⟨g2, cap2, h⟩
      have R := riv_grow (rs := []) h.size h.b c1 f1 (n + nq) p v g2 cap2 (by first | exact hown | (rw [atApp_size]; exact hown)) hgrow
      have hbel : Below w.heap.size w w2 := (atApp_below w (n + nq) p v _ (Nat.le_refl _)).grown hgrow (by rw [atApp_size]; omega) (fun k h => by cases h)
      have k1 := (hbel.cell (p := ⟨P, 1, none⟩) (show P < _ by omega)).trans c1
      have e1 := (hbel.frozen (p := ⟨P, 1, none⟩) (show P < _ by omega)).trans f1
      clear hown hgrow hbel
      go_wp2
      go_end0
      exact ⟨rfl, _, _, hadd ▸ R.1, R.2⟩

theorem add_any (P : Nat) (ao : Option Addr) (cap : Nat) (rs : Rs) (p v : Int) (w : World)
    (h : Riv P (bfn true) w ao cap rs) (hk : rs.length ≤ 8796093022206) :
    Calls Tryz.prog 51 #[.pointer (some ⟨P, 0, none⟩), .int .i64 p, .int .i64 v] w fun e w' => e = .returned (.tuple #[]) ∧ ∃ ao' cap', Riv P (bfn true) w' ao' cap' (addR true rs p v) ∧ Keep P w w' := by
  rcases h.row with ⟨rfl, rfl, rfl⟩ | ⟨g, off, rfl, _⟩
  · exact add_none_true P p v w h
  · exact add_true P g off cap rs p v w h hk

end Go.Proofs.YtjageagnclmnjabGreatDoor.Y

end

section
namespace Go.Proofs.YtjageagnclmnjabGreatDoor.Y
set_option maxRecDepth 100000
open Go.RowKit

/-- the state at a round's head -/
structure St (w : World) (P n : Nat) (low : Bool) (f : Nat → Int) (fr : Nat → Nat) (k : Nat) (wr : World) (R : List Int) : Prop where
  riv : ∃ ao cap rs lo, Riv P (bfn low) wr ao cap rs ∧ Good low f lo k rs ∧ rs.length ≤ 8796093022206 ∧ ∀ j, k ≤ j → lo ≤ fr j
  out : Out wr (P + 1) n R
  len : R.length = k
  best : ∀ j, j < k → Best low f (fr j) (j + 1) (R.getD j 0)
  below : Below P w wr

theorem St.start (w : World) (n : Nat) (low : Bool) (f : Nat → Int) (fr : Nat → Nat) :
    St w w.heap.size n low f fr 0 ((w.alloc (.cells #[bfn low, .slice none 0 0] 83)).alloc (.cells (madeCells #[.int .i64 0] n) 3)) [] := by
  have hs : ((w.alloc (.cells #[bfn low, .slice none 0 0] 83)).alloc (.cells (madeCells #[.int .i64 0] n) 3)).heap.size = w.heap.size + 2 := by simp
  have h1 : (w.alloc (.cells #[bfn low, .slice none 0 0] 83)).heap.size = w.heap.size + 1 := by simp
  refine ⟨⟨none, 0, [], 0, ⟨by omega, ?_, ?_, ?_, .inl ⟨rfl, rfl, rfl⟩⟩, Good.start low f, by simp, fun _ _ => Nat.zero_le _⟩, ⟨fun j h => by simp at h, fun j hj => ?_⟩, rfl, fun j h => by omega, ?_⟩
  · rw [World.cell?_alloc_past _ _ _ (by omega), World.cell?_alloc_at _ _ _ _ rfl]; rfl
  · rw [World.cell?_alloc_past _ _ _ (by omega), World.cell?_alloc_at _ _ _ _ rfl]; rfl
  · rw [World.frozen?_alloc_past _ _ _ (by omega), World.frozen?_alloc_at _ _ _ _ rfl]
  · rw [World.cell?_alloc_at _ _ _ _ h1.symm, World.frozen?_alloc_at _ _ _ _ h1.symm]
    refine ⟨?_, rfl⟩
    rw [Array.getElem?_eq_getElem (by simp [madeCells]; exact hj)]; rfl
  · exact ((Below.refl _ _).alloc (Nat.le_refl _) _).alloc (by omega) _

theorem Riv.out {P : Nat} {bf : Value} {w : World} {ao : Option Addr} {cap : Nat} {rs : Rs} (h : Riv P bf w ao cap rs) (i : Nat) (u : Value) : Riv P bf (w.setCell ⟨P + 1, i, none⟩ u) ao cap rs := by
  refine ⟨by simpa using h.size, by rw [cell_set_other (by omega)]; exact h.b, by rw [cell_set_other (by omega)]; exact h.l, by rw [World.frozen?_setCell]; exact h.f, ?_⟩
  rcases h.row with e | ⟨g, off, e, h1, h2, hL⟩
  · exact .inl e
  · exact .inr ⟨g, off, e, h1, by simpa using h2, hL.set _ (by omega)⟩

theorem Out.keep {P n : Nat} {w w' : World} {R : List Int} (h : Out w (P + 1) n R) (k : Keep P w w') : Out w' (P + 1) n R :=
  ⟨fun j hj => by rw [(k.out j).1]; exact h.c j hj, fun j hj => by rw [(k.out j).1, (k.out j).2]; exact h.room j hj⟩

/-- one round -/
theorem St.step {w : World} {P n : Nat} {low : Bool} {f : Nat → Int} {fr : Nat → Nat} {k : Nat} {wr w1 w2 : World} {R : List Int} (h : St w P n low f fr k wr R) (hk : k < n) (hmono : ∀ j, k ≤ j → fr k ≤ fr j)
    (K1 : Keep P wr w1) {ao : Option Addr} {cap : Nat} {rs : Rs} (hR : Riv P (bfn low) w2 ao cap rs) (hG : Good low f (fr k) (k + 1) rs) (hrs : rs.length ≤ 8796093022206) (K2 : Keep P w1 w2) {v : Int} (hB : Best low f (fr k) (k + 1) v) :
    St w P n low f fr (k + 1) (w2.setCell ⟨P + 1, k, none⟩ (.int .i64 v)) (R ++ [v]) := by
  have hO := (h.out.keep K1).keep K2
  have hl := h.len
  refine ⟨⟨ao, cap, rs, fr k, hR.out k _, hG, hrs, fun j hj => hmono j (by omega)⟩, ⟨fun j hj => ?_, fun j hj => ?_⟩, by simp [hl], fun j hj => ?_, ?_⟩
  · by_cases e : j = k
    · subst e
      rw [getD_snoc_new _ _ _ hl.symm]
      obtain ⟨u, hu⟩ := Option.isSome_iff_exists.1 (hO.room j hk).1
      exact World.cell?_setCell_same _ _ _ hu
    · have hj' : j < R.length := by simp at hj; omega
      rw [getD_snoc_old _ _ _ hj', World.cell?_setCell_other _ _ _ _ (fun q => e (by injection q with _ q _; exact q.symm))]
      exact hO.c j hj'
  · rw [World.frozen?_setCell]
    refine ⟨?_, (hO.room j hj).2⟩
    by_cases e : j = k
    · subst e
      obtain ⟨u, hu⟩ := Option.isSome_iff_exists.1 (hO.room j hk).1
      rw [World.cell?_setCell_same _ _ _ hu]; rfl
    · rw [World.cell?_setCell_other _ _ _ _ (fun q => e (by injection q with _ q _; exact q.symm))]
      exact (hO.room j hj).1
  · by_cases e : j = k
    · subst e; rw [getD_snoc_new _ _ _ hl.symm]; exact hB
    · rw [getD_snoc_old _ _ _ (by omega)]; exact h.best j (by omega)
  · exact ((h.below.trans K1.below).trans K2.below).setCell (p := ⟨P + 1, k, none⟩) (by show P ≤ P + 1; omega) _

/-- where the first part that counts begins -/
def frB (u v : Int) (k : Nat) : Nat := (max ((k : Int) / u - (v - 1)) 0 * u).toNat
theorem frB_eq (u v : Int) (k : Nat) (hu : 1 ≤ u) : ((frB u v k : Nat) : Int) = max ((k : Int) / u - (v - 1)) 0 * u := by
  unfold frB
  exact Int.toNat_of_nonneg (Int.mul_nonneg (by omega) (by omega))
theorem frB_mono (u v : Int) (k j : Nat) (hu : 1 ≤ u) (h : k ≤ j) : frB u v k ≤ frB u v j := by
  have a := frB_eq u v k hu
  have b := frB_eq u v j hu
  have d : (k : Int) / u ≤ (j : Int) / u := Int.ediv_le_ediv (by omega) (by omega)
  have m : max ((k : Int) / u - (v - 1)) 0 * u ≤ max ((j : Int) / u - (v - 1)) 0 * u := Int.mul_le_mul_of_nonneg_right (by omega) (by omega)
  omega
theorem frB_le (u v : Int) (k : Nat) (hu : 1 ≤ u) (hv : 1 ≤ v) : frB u v k ≤ k := by
  have a := frB_eq u v k hu
  have q0 : 0 ≤ (k : Int) / u := Int.ediv_nonneg (by omega) (by omega)
  have q2 : (k : Int) / u * u ≤ k := Int.ediv_mul_le _ (by omega)
  have m1 : max ((k : Int) / u - (v - 1)) 0 * u ≤ (k : Int) / u * u := Int.mul_le_mul_of_nonneg_right (by omega) (by omega)
  omega
theorem parts_nat (k : Nat) (u v : Int) (b c : Nat) (w : World) (h1 : k ≤ 35184372088832) (hu : 1 ≤ u) (hu2 : u ≤ 9223372036854775807) (hv : 1 ≤ v) (hv2 : v ≤ 9223372036854775807)
    (hc : w.cell? ⟨b, 0, none⟩ = some (.int .i64 u)) (hd : w.cell? ⟨c, 0, none⟩ = some (.int .i64 v)) :
    Calls Tryz.prog 53 #[.int .i64 k, .pointer (some ⟨b, 0, none⟩), .pointer (some ⟨c, 0, none⟩)] w fun e w' => e = .returned (.int .i64 (frB u v k : Nat)) ∧ ∃ n, w' = w.drewN n :=
  (parts_any k u v b c w (by omega) (by omega) hu hu2 hv hv2 hc hd).mono fun e w' ⟨he, hw⟩ => ⟨by rw [he]; exact ret_int (frB_eq u v k hu).symm, hw⟩

theorem Riv.drewN {P : Nat} {bf : Value} {w : World} {ao : Option Addr} {cap : Nat} {rs : Rs} (h : Riv P bf w ao cap rs) (n : Nat) : Riv P bf (w.drewN n) ao cap rs :=
  ⟨h.size, h.b, h.l, h.f, by
    rcases h.row with e | ⟨g, off, e, h1, h2, hL⟩
    · exact .inl e
    · exact .inr ⟨g, off, e, h1, h2, ⟨hL.le, hL.small, hL.p, hL.v, hL.room⟩⟩⟩
theorem Keep.drewN {P : Nat} {a w : World} (h : Keep P a w) (n : Nat) : Keep P a (w.drewN n) := ⟨below_drewN h.below n, h.out⟩

/-- what slide answers -/
def Slid (w : World) (zs : List Int) (low : Bool) (fr : Nat → Nat) (e : Ending) (w' : World) : Prop :=
  ∃ R : List Int, R.length = zs.length ∧ e = .returned (.slice (some ⟨w.heap.size + 1, 0, none⟩) zs.length zs.length) ∧ Row w' (some ⟨w.heap.size + 1, 0, none⟩) R ∧
    (∀ k, k < zs.length → Best low (fun j => zs.getD j 0) (fr k) (k + 1) (R.getD k 0)) ∧ Below w.heap.size w w'

theorem St.done {w : World} {zs : List Int} {low : Bool} {fr : Nat → Nat} {wr : World} {R : List Int} (h : St w w.heap.size zs.length low (fun j => zs.getD j 0) fr zs.length wr R) :
    Slid w zs low fr (.returned (.slice (some ⟨w.heap.size + 1, 0, none⟩) zs.length zs.length)) wr :=
  ⟨R, h.len, rfl, .inr ⟨_, 0, rfl, fun j hj => by rw [Nat.zero_add]; exact h.out.c j hj⟩, h.best, h.below⟩

set_option maxHeartbeats 3200000 in
theorem slide_parts (ao : Option Addr) (cap : Nat) (zs : List Int) (u v : Int) (b c : Nat) (w : World) (hz : Row w ao zs) (hk : zs.length ≤ 35184372088832) (hsm : ∀ k, k < zs.length → k + 1 - frB u v k ≤ 8796093022206) (hb : w.cell? ⟨b, 0, none⟩ = some (.int .i64 u)) (hc : w.cell? ⟨c, 0, none⟩ = some (.int .i64 v)) (hu : 1 ≤ u) (hu2 : u ≤ 9223372036854775807) (hv : 1 ≤ v) (hv2 : v ≤ 9223372036854775807) :
    Calls Tryz.prog 36 #[.slice ao zs.length cap, bfn true, .func (.func 53) #[] #[.pointer (some ⟨b, 0, none⟩), .pointer (some ⟨c, 0, none⟩)]] w (Slid w zs true (frB u v)) := by
  have hmk := run_make_row' (P := Tryz.prog) 24 3 (.int .i64 0) 8 Tryz.underlying24 Tryz.info3 rfl .i64 .i64 zs.length (by omega) (by omega)
  have hcs := block_lt hc
  have hbs := block_lt hb
  have hst := St.start w zs.length true (fun j => zs.getD j 0) (frB u v)
  obtain ⟨q, hbf⟩ : ∃ q, bfn true = .func (.func q) #[] #[] := ⟨_, rfl⟩
  rw [hbf] at hst ⊢
  have HBF : Hid (bfn true = .func (.func q) #[] #[]) := hbf
  clear hbf
  go_enter Tryz.func36, Tryz.ntmps36
  go_wp2
  go_loopw [18] (fun i wr => ∃ k : Nat, k ≤ zs.length ∧ i = .int .i64 k ∧ ∃ R, St w w.heap.size zs.length true (fun j => zs.getD j 0) (frB u v) k wr R) (fun i _ => zs.length - (intOf i).toNat)
  case atStart => exact ⟨0, Nat.zero_le _, rfl, [], hst⟩
  case round =>
    obtain ⟨k, hkn, rfl, R, hS⟩ := hrel
    by_cases hlt : k < zs.length
    · obtain ⟨ao', cap', rs, lo, hR, hG, hrl, hlo⟩ := hS.riv
      obtain ⟨g, off, rfl, hcells⟩ : ∃ g off, ao = some ⟨g, off, none⟩ ∧ ∀ j, j < zs.length → w.cell? ⟨g, off + j, none⟩ = some (.int .i64 (zs.getD j 0)) := by
        rcases hz with e | e
        · subst e; simp at hlt
        · exact e
      have hx0 : wr.cell? ⟨g, off + k, none⟩ = some (.int .i64 (zs.getD k 0)) := (hS.below.cell (p := ⟨g, off + k, none⟩) (block_lt (hcells k hlt))).trans (hcells k hlt)
      have hGA : Good true (fun j => zs.getD j 0) lo (k + 1) (addR true rs (k : Int) (zs.getD k 0)) := hG.add
      have hlo' := hlo k (Nat.le_refl _)
      have hsk := hsm k hlt
      have hfk := frB_le u v k hu hv
      generalize zs.getD k 0 = x at hx0 hGA
      clear hcells hst hmk hsm
      go_wp2_with (first
        | (go_at_call 51; refine (add_any w.heap.size ao' cap' rs k x wr hR hrl).mono ?_; rintro e w1 ⟨rfl, ao1, cap1, hR1, hK1⟩; have hc1 := (hK1.below.cell (p := ⟨c, 0, none⟩) hcs).trans ((hS.below.cell (p := ⟨c, 0, none⟩) hcs).trans hc); have hb1 := (hK1.below.cell (p := ⟨b, 0, none⟩) hbs).trans ((hS.below.cell (p := ⟨b, 0, none⟩) hbs).trans hb))
        | (go_at_call 53; refine (parts_nat k u v b c _ (by omega) hu hu2 hv hv2 (by assumption) (by assumption)).mono ?_; rintro e w' ⟨rfl, nd, rfl⟩)
        | (go_at_call 52; refine (best_any w.heap.size (bfn true) ao1 cap1 _ true (fun j => zs.getD j 0) lo (k + 1) (frB u v k) _ (hR1.drewN _) hGA hlo' (by omega) (by omega)).mono ?_; rintro e w2 ⟨v2, rfl, hB, ao2, cap2, rs2, hR2, hG2, hK2, hn2⟩; obtain ⟨u2, hu2⟩ := Option.isSome_iff_exists.1 (((hS.out.keep (hK1.drewN nd)).keep hK2).room k hlt).1; have hf2 := (((hS.out.keep (hK1.drewN nd)).keep hK2).room k hlt).2))
      go_roundw
      case rel => exact ⟨k + 1, by omega, by go_num, _, hS.step hlt (fun j hj => frB_mono u v k j hu hj) (hK1.drewN nd) hR2 hG2 (by omega) hK2 hB⟩
      case measure => simp [intOf]; omega
    · have e : k = zs.length := by omega
      subst e
      go_wp2
      go_ret
      exact hS.done

end Go.Proofs.YtjageagnclmnjabGreatDoor.Y

end
