/- PROVED: what Steps answers. CONDITIONS: none beyond each theorem's own. -/
import Derived.Test.YtedcbchelliljaaJoin
namespace Go.Proofs.Ytedcbchelliljaa
open Go.RowKit Go.Shelf

set_option maxHeartbeats 800000 in
theorem steps_none (a1 : Option Addr) (c1 : Nat) (w : World) : Calls Try.prog 13 #[.slice a1 0 c1] w (Ans w (stepsOf [])) := by
  have hj := fun a c => join_any 29 less (enters_of Try.func29 (by kernel_rfl) rfl) less_any a a1 0 0 c c1 [] [] rfl rfl (by omega) (by omega) w (.inl rfl) (.inl rfl)
  have hm : min (1 : Int) 0 = 0 := by omega
  go_enter Try.func13, Try.ntmps13
  go_wp2_with (go_at_call 28; refine (hj _ _).mono ?_; rintro e w' ⟨ao, cap, rfl, hcp, hR, hb⟩)
  all_goals
    go_ret
    exact ⟨ao, cap, rfl, hcp, hR, hb⟩

set_option maxHeartbeats 800000 in
theorem steps_one (a1 : Option Addr) (c1 : Nat) (x : Int) (w : World) (k1 : Row w a1 [x]) (_hc : 1 ≤ c1) : Calls Try.prog 13 #[.slice a1 1 c1] w (Ans w (stepsOf [x])) := by
  have hj := fun a c => join_any 29 less (enters_of Try.func29 (by kernel_rfl) rfl) less_any a a1 0 1 c c1 [] [x] rfl rfl (by omega) (by omega) w (.inl rfl) k1
  have hm : min (1 : Int) 1 = 1 := by omega
  go_enter Try.func13, Try.ntmps13
  go_wp2_with (go_at_call 28; refine (hj _ _).mono ?_; rintro e w' ⟨ao, cap, rfl, hcp, hR, hb⟩)
  all_goals
    go_ret
    exact ⟨ao, cap, rfl, hcp, hR, hb⟩

set_option maxHeartbeats 800000 in
theorem steps_more (b off n c1 : Nat) (R : List Int) (hn : 2 ≤ n) (hc : n ≤ c1) (hb : n ≤ 17592186044416) (w : World) (hj : ∀ c, Calls Try.prog 28 #[.slice (some ⟨b, off + 1, none⟩) (n - 1) c, .slice (some ⟨b, off, none⟩) n c1, .func (.func 29) #[] #[]] w (Ans w R)) :
    Calls Try.prog 13 #[.slice (some ⟨b, off, none⟩) n c1] w (Ans w R) := by
  have hm : min (1 : Int) n = 1 := by omega
  have h1 : 1 ≤ n := by omega
  have h2 : ¬ c1 = 1 := by omega
  go_enter Try.func13, Try.ntmps13
  go_wp2_with (go_at_call 28; refine (hj _).mono ?_; rintro e w' ⟨ao, cap, rfl, hcp, hR, hb⟩)
  all_goals
    go_ret
    exact ⟨ao, cap, rfl, hcp, hR, hb⟩

theorem steps_any (a1 : Option Addr) (c1 : Nat) (f : List Int) (hf : f.length ≤ 17592186044416) (hc : f.length ≤ c1) (w : World) (k1 : Row w a1 f) :
    Calls Try.prog 13 #[.slice a1 f.length c1] w (Ans w (stepsOf f)) := by
  match f, hf, hc, k1 with
  | [], _, _, _ => exact steps_none a1 c1 w
  | [x], _, hc, k1 => exact steps_one a1 c1 x w k1 hc
  | x :: y :: r, hf, hc, k1 =>
    obtain ⟨f, hfe⟩ : ∃ f, x :: y :: r = f := ⟨_, rfl⟩
    have h2 : 2 ≤ f.length := by rw [← hfe]; simp
    rw [hfe] at hf hc k1 ⊢
    obtain ⟨b, off, rfl, k1'⟩ := k1.at (by omega)
    have hk : Row w (some ⟨b, off + 1, none⟩) (f.drop 1) := .inr ⟨b, off + 1, rfl, fun j hj => by
      rw [List.length_drop] at hj
      rw [drop_getD, Nat.add_assoc]; exact k1' (1 + j) (by omega)⟩
    exact steps_more b off f.length c1 _ h2 hc hf w (fun c => join_any 29 less (enters_of Try.func29 (by kernel_rfl) rfl) less_any (some ⟨b, off + 1, none⟩) (some ⟨b, off, none⟩) (f.length - 1) f.length c c1 (f.drop 1) f (by simp) rfl (by omega) hf w hk k1)

end Go.Proofs.Ytedcbchelliljaa
