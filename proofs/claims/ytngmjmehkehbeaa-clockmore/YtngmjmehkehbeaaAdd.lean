/- PROVED: what add does to a row of rivals that lies in memory. CONDITIONS: none beyond each theorem's own. -/
import Derived.Test.YtngmjmehkehbeaaGrow
namespace Go.Proofs.Ytngmjmehkehbeaa
open Go.RowKit

def bfn (_ : Bool) : Value := .func (.func 23) #[] #[]

set_option maxHeartbeats 3200000 in
theorem add_true (P g off cap : Nat) (rs : Rs) (p v : Int) (w : World)
    (h : Riv P (bfn true) w (some ⟨g, off, none⟩) cap rs) (hk : rs.length ≤ 8796093022206) :
    Calls Try.prog 25 #[.pointer (some ⟨P, 0, none⟩), .int .i64 p, .int .i64 v] w fun e w' => e = .returned (.tuple #[]) ∧ ∃ ao' cap', Riv P (bfn true) w' ao' cap' (addR true rs p v) ∧ Keep P w w' := by
  obtain ⟨i0, hi, hz0, hz1, hz2⟩ := info_parts Try.info51
  obtain ⟨hg1, hg2, hL⟩ : P + 2 ≤ g ∧ g < w.heap.size ∧ Lies w g off cap rs := by
    rcases h.row with ⟨e, _⟩ | ⟨g', off', e, h1, h2, hL⟩
    · cases e
    · cases e; exact ⟨h1, h2, hL⟩
  have hsz := h.size
  have c0 := h.b
  have c1 := h.l
  have f1 := h.f
  have hl := hL.le
  have hcm := hL.small
  unfold maxLen at hcm
  simp only [bfn] at c0
  go_enter Try.func25, Try.ntmps25
  go_wp2
  go_loopw [6] (fun t wr => ∃ s n : Nat, s ≤ rs.length ∧ t = .int .i64 s ∧ Hid (stay true rs v rs.length = stay true rs v s) ∧ wr = w.drewN n) (fun t _ => (intOf t).toNat)
  case atStart => exact ⟨rs.length, 0, Nat.le_refl _, rfl, rfl, rfl⟩
  case round =>
    obtain ⟨s, n, hs, rfl, hst, rfl⟩ := hrel
    cases s with
    | zero =>
      have hd : decide ((0 : Int) < ((0 : Nat) : Int)) = false := by simp
      have hadd : addR true rs p v = rs.take 0 ++ [(p, v)] := by unfold addR; rw [hst.out]; rfl
      have hlt : (rs.take 0).length = 0 := by simp
      go_wp2
      go_quiet ((go_at_call 23; refine (lesser_any _ _ _).mono ?_; rintro e w'' ⟨rfl, rfl⟩; exact ⟨rfl, _, rfl⟩))
      go_wp2_with (at_builtin; refine wpList_append_arg _ rfl _ _ 45 rfl 51 i0 (.agg #[.int .i64 0, .int .i64 0]) 2 16 Try.underlying45 hi hz0 hz1 hz2 rfl (by decide) g off (0) cap (flat (rs.take (0))) rfl ?lo ?olds ⟨w.heap.size, 0, none⟩ 1 1 [.int .i64 p, .int .i64 v] rfl rfl ?c1 ?c2 ?spare ?b1 ?b2 ?room ?grow)
      case lo => rw [flat_len, hlt]
      case olds => exact fun j u hu => (atApp_cell hg2).trans (hL.flat (0) hs j u hu)
      case c1 => exact atApp_news w _ p v
      case c2 => exact flat_one [(p, v)]
      case spare =>
        intro hr j hj
        have hj2 : j < 2 := by simpa using hj
        have := hL.room ((0) * 2 + j) (by omega)
        rw [← Nat.add_assoc] at this
        exact ⟨by rw [atApp_cell hg2]; exact this.1, by rw [atApp_frozen hg2]; exact this.2⟩
      case b1 => unfold maxLen; omega
      case b2 => omega
      case room =>
        intro hr
        have R := Riv.room h (n + nq) p v (0) hs hr
        have k1 : (World.setCells (atApp w (n + nq) p v) g (off + (0) * 2) [.int .i64 p, .int .i64 v]).cell? ⟨P, 1, none⟩ = some (.slice (some ⟨g, off, none⟩) rs.length cap) := by
          rw [World.cell?_setCells_out g _ _ _ _ (fun e => absurd e (show P ≠ g by omega)), atApp_cell (by omega)]; exact c1
        have e1 : (World.setCells (atApp w (n + nq) p v) g (off + (0) * 2) [.int .i64 p, .int .i64 v]).frozen? ⟨P, 1, none⟩ = false := by
          rw [World.frozen?_setCells, atApp_frozen (by omega)]; exact f1
        revert R k1 e1
        show _ → _ → _ → wpList _ _ _ _ _ (World.setCells (atApp w (n + nq) p v) g (off + (0) * 2) [.int .i64 p, .int .i64 v])
        generalize World.setCells (atApp w (n + nq) p v) g (off + (0) * 2) [.int .i64 p, .int .i64 v] = w2
        intro R k1 e1
        go_wp2
        go_end0
        exact ⟨rfl, _, _, hadd ▸ R.1, R.2⟩
      case grow =>
        intro hg v' w2 hown hgrow
        obtain ⟨g2, cap2, rfl⟩ : ∃ g2 cap2, v' = .slice (some ⟨g2, 0, none⟩) ((0) + 1) cap2 := by
          rcases hown.2 with ⟨_, h⟩ | ⟨g2, cap2, _, h, _⟩
          · omega
          · exact ⟨g2, cap2, h⟩
        have R := riv_grow (rs := rs.take (0)) h.size h.b c1 f1 (n + nq) p v g2 cap2 (by rw [hlt]; first | exact hown | (rw [atApp_size]; exact hown)) hgrow
        have hbel : Below w.heap.size w w2 := (atApp_below w (n + nq) p v _ (Nat.le_refl _)).grown hgrow (by rw [atApp_size]; omega) (fun k h => by cases h)
        have k1 := (hbel.cell (p := ⟨P, 1, none⟩) (show P < _ by omega)).trans c1
        have e1 := (hbel.frozen (p := ⟨P, 1, none⟩) (show P < _ by omega)).trans f1
        clear hown hgrow hbel
        rw [hlt] at R
        go_wp2
        go_end0
        exact ⟨rfl, _, _, hadd ▸ R.1, R.2⟩
    | succ s =>
      have hp := hL.v s (by omega)
      have hd : decide ((0 : Int) < ((s + 1 : Nat) : Int)) = true := by simp
      have hwr : IntKind.i64.wrap (s : Int) = s := wrap_in (by omega)
      have hs1 : s < rs.length := by omega
      by_cases hbt : bt true (rs.getD s (0, 0)).2 v = true
      · have hadd : addR true rs p v = rs.take (s + 1) ++ [(p, v)] := by unfold addR; rw [hst.out, stay_stop hbt]
        have hlt : (rs.take (s + 1)).length = s + 1 := by simp; omega
        generalize (rs.getD s (0, 0)).2 = q at hp hbt
        have hbt' : decide (q < v) = true := by simpa [bt] using hbt
        go_wp2
        go_quiet ((go_at_call 23; refine (lesser_any _ _ _).mono ?_; rintro e w'' ⟨rfl, rfl⟩; exact ⟨rfl, _, rfl⟩))
        go_wp2_with (at_builtin; refine wpList_append_arg _ rfl _ _ 45 rfl 51 i0 (.agg #[.int .i64 0, .int .i64 0]) 2 16 Try.underlying45 hi hz0 hz1 hz2 rfl (by decide) g off (s + 1) cap (flat (rs.take (s + 1))) rfl ?lo ?olds ⟨w.heap.size, 0, none⟩ 1 1 [.int .i64 p, .int .i64 v] rfl rfl ?c1 ?c2 ?spare ?b1 ?b2 ?room ?grow)
        case lo => rw [flat_len, hlt]
        case olds => exact fun j u hu => (atApp_cell hg2).trans (hL.flat (s + 1) hs j u hu)
        case c1 => exact atApp_news w _ p v
        case c2 => exact flat_one [(p, v)]
        case spare =>
          intro hr j hj
          have hj2 : j < 2 := by simpa using hj
          have := hL.room ((s + 1) * 2 + j) (by omega)
          rw [← Nat.add_assoc] at this
          exact ⟨by rw [atApp_cell hg2]; exact this.1, by rw [atApp_frozen hg2]; exact this.2⟩
        case b1 => unfold maxLen; omega
        case b2 => omega
        case room =>
          intro hr
          have R := Riv.room h (n + nq) p v (s + 1) hs hr
          have k1 : (World.setCells (atApp w (n + nq) p v) g (off + (s + 1) * 2) [.int .i64 p, .int .i64 v]).cell? ⟨P, 1, none⟩ = some (.slice (some ⟨g, off, none⟩) rs.length cap) := by
            rw [World.cell?_setCells_out g _ _ _ _ (fun e => absurd e (show P ≠ g by omega)), atApp_cell (by omega)]; exact c1
          have e1 : (World.setCells (atApp w (n + nq) p v) g (off + (s + 1) * 2) [.int .i64 p, .int .i64 v]).frozen? ⟨P, 1, none⟩ = false := by
            rw [World.frozen?_setCells, atApp_frozen (by omega)]; exact f1
          revert R k1 e1
          show _ → _ → _ → wpList _ _ _ _ _ (World.setCells (atApp w (n + nq) p v) g (off + (s + 1) * 2) [.int .i64 p, .int .i64 v])
          generalize World.setCells (atApp w (n + nq) p v) g (off + (s + 1) * 2) [.int .i64 p, .int .i64 v] = w2
          intro R k1 e1
          go_wp2
          go_end0
          exact ⟨rfl, _, _, hadd ▸ R.1, R.2⟩
        case grow =>
          intro hg v' w2 hown hgrow
          obtain ⟨g2, cap2, rfl⟩ : ∃ g2 cap2, v' = .slice (some ⟨g2, 0, none⟩) ((s + 1) + 1) cap2 := by
            rcases hown.2 with ⟨_, h⟩ | ⟨g2, cap2, _, h, _⟩
            · omega
            · exact ⟨g2, cap2, h⟩
          have R := riv_grow (rs := rs.take (s + 1)) h.size h.b c1 f1 (n + nq) p v g2 cap2 (by rw [hlt]; first | exact hown | (rw [atApp_size]; exact hown)) hgrow
          have hbel : Below w.heap.size w w2 := (atApp_below w (n + nq) p v _ (Nat.le_refl _)).grown hgrow (by rw [atApp_size]; omega) (fun k h => by cases h)
          have k1 := (hbel.cell (p := ⟨P, 1, none⟩) (show P < _ by omega)).trans c1
          have e1 := (hbel.frozen (p := ⟨P, 1, none⟩) (show P < _ by omega)).trans f1
          clear hown hgrow hbel
          rw [hlt] at R
          go_wp2
          go_end0
          exact ⟨rfl, _, _, hadd ▸ R.1, R.2⟩
      · have hbf : bt true (rs.getD s (0, 0)).2 v = false := by simpa using hbt
        have hst' : Hid (stay true rs v rs.length = stay true rs v s) := by rw [Hid, hst.out, stay_step hbf]
        generalize (rs.getD s (0, 0)).2 = q at hp hbt hbf
        have hbt' : decide (q < v) = false := by simpa [bt] using hbf
        go_wp2
        go_quiet ((go_at_call 23; refine (lesser_any _ _ _).mono ?_; rintro e w'' ⟨rfl, rfl⟩; exact ⟨rfl, _, rfl⟩))
        go_wp2
        go_roundw
        case rel => exact ⟨s, _, by omega, by go_num, hst', rfl⟩
        case measure => simp [intOf]

end Go.Proofs.Ytngmjmehkehbeaa
