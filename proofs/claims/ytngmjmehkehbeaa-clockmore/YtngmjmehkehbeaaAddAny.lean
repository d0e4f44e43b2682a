/- PROVED: what add does to a row of rivals, nil or not. CONDITIONS: none beyond each theorem's own. -/
import Derived.Test.YtngmjmehkehbeaaAdd
namespace Go.Proofs.Ytngmjmehkehbeaa
open Go.RowKit

set_option maxHeartbeats 1600000 in
theorem add_none_true (P : Nat) (p v : Int) (w : World) (h : Riv P (bfn true) w none 0 []) :
    Calls Try.prog 25 #[.pointer (some ⟨P, 0, none⟩), .int .i64 p, .int .i64 v] w fun e w' => e = .returned (.tuple #[]) ∧ ∃ ao' cap', Riv P (bfn true) w' ao' cap' (addR true [] p v) ∧ Keep P w w' := by
  obtain ⟨i0, hi, hz0, hz1, hz2⟩ := info_parts Try.info51
  have hsz := h.size
  have c0 := h.b
  have c1 := h.l
  have f1 := h.f
  simp only [List.length_nil] at c1
  simp only [bfn] at c0
  go_enter Try.func25, Try.ntmps25
  go_wp2
  go_loopw [6] (fun t wr => ∃ n : Nat, t = .int .i64 0 ∧ wr = w.drewN n) (fun t _ => (intOf t).toNat)
  case atStart => exact ⟨0, rfl, rfl⟩
  case round =>
    obtain ⟨n, rfl, rfl⟩ := hrel
    have hadd : addR true [] p v = [] ++ [(p, v)] := rfl
    go_wp2
    go_quiet ((go_at_call 23; refine (lesser_any _ _ _).mono ?_; rintro e w'' ⟨rfl, rfl⟩; exact ⟨rfl, _, rfl⟩))
    go_wp2_with (at_builtin; refine wpList_append_grows _ rfl _ _ 45 rfl 51 i0 (.agg #[.int .i64 0, .int .i64 0]) 2 16 Try.underlying45 hi hz0 hz1 hz2 rfl (by decide) none 0 0 [] rfl ?hn ?lo ?olds ⟨w.heap.size, 0, none⟩ 1 1 [.int .i64 p, .int .i64 v] rfl rfl ?c1 ?c2 ?full ?b1 ?b2 ?grow)
    case lo => rfl
    case olds => intro b hb; cases hb
    case c1 => exact atApp_news w _ p v
    case c2 => exact flat_one [(p, v)]
    case full => omega
    case b1 => unfold maxLen; omega
    case b2 => omega
    case grow =>
      intro v' w2 hown hgrow
      obtain ⟨g2, cap2, rfl⟩ : ∃ g2 cap2, v' = .slice (some ⟨g2, 0, none⟩) (0 + 1) cap2 := by
        rcases hown.2 with ⟨_, h⟩ | ⟨g2, cap2, _, h, _⟩
        · omega
        · exact ⟨g2, cap2, h⟩
      have R := riv_grow (rs := []) h.size h.b c1 f1 (n + nq) p v g2 cap2 (by first | exact hown | (rw [atApp_size]; exact hown)) hgrow
      have hbel : Below w.heap.size w w2 := (atApp_below w (n + nq) p v _ (Nat.le_refl _)).grown hgrow (by rw [atApp_size]; omega) (fun k h => by cases h)
      have k1 := (hbel.cell (p := ⟨P, 1, none⟩) (show P < _ by omega)).trans c1
      have e1 := (hbel.frozen (p := ⟨P, 1, none⟩) (show P < _ by omega)).trans f1
      clear hown hgrow hbel
      go_wp2
      go_end0
      exact ⟨rfl, _, _, hadd ▸ R.1, R.2⟩

theorem add_any (P : Nat) (ao : Option Addr) (cap : Nat) (rs : Rs) (p v : Int) (w : World)
    (h : Riv P (bfn true) w ao cap rs) (hk : rs.length ≤ 8796093022206) :
    Calls Try.prog 25 #[.pointer (some ⟨P, 0, none⟩), .int .i64 p, .int .i64 v] w fun e w' => e = .returned (.tuple #[]) ∧ ∃ ao' cap', Riv P (bfn true) w' ao' cap' (addR true rs p v) ∧ Keep P w w' := by
  rcases h.row with ⟨rfl, rfl, rfl⟩ | ⟨g, off, rfl, _⟩
  · exact add_none_true P p v w h
  · exact add_true P g off cap rs p v w h hk

end Go.Proofs.Ytngmjmehkehbeaa
