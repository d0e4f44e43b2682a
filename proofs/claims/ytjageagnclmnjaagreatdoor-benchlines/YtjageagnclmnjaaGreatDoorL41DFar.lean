/- PROVED: the walk of the law BenchLines. what is known of rules, states, pairs and rows of pairs and numbers that came in. CONDITIONS: none beyond each theorem's own. -/
import Derived.Test.YtjageagnclmnjaaGreatDoorL39Alb
import Derived.Test.YtjageagnclmnjaaGreatDoorL40Tel
import Derived.Test.YtjageagnclmnjaaGreatDoorB07Reg
import Derived.ProofKit
import Derived.OpenShut
import Derived.ShutString
import Derived.ChangeOld
import Derived.Below
import Derived.SizedLaws
import Derived.ChangeSame
import Derived.Lib.SmallJoins
namespace Go.Proofs.YtjageagnclmnjaaGreatDoor.D
set_option maxRecDepth 100000
open Go.RowKit K
set_option linter.unusedVariables false

theorem itoa0 : Lib.itoa 0 = [48] := by decide +kernel
theorem itoa1 : Lib.itoa 1 = [49] := by decide +kernel
theorem ln0 (k m : Int) : Lib.hasPrefix (ln 0 k m) [48, 32] = true := by
  unfold ln
  rw [itoa0]
  split <;> simp [Lib.hasPrefix]
theorem ln1 (k m : Int) : Lib.hasPrefix (ln 1 k m) [49, 32] = true := by
  unfold ln
  rw [itoa1]
  split <;> simp [Lib.hasPrefix]
theorem pre_is (l : List UInt8) (c : UInt8) (h : Lib.hasPrefix l [c, 32] = true) (v : World) : Calls Tryz.prog 11 #[.string ⟨l.toArray⟩, .string ⟨#[c, 32]⟩] v fun e w' => e = .returned (.bool true) ∧ w' = v := by
  have q := Tryz.strings_HasPrefix ⟨l.toArray⟩ ⟨#[c, 32]⟩ v
  rwa [show Lib.hasPrefix (ByteArray.mk l.toArray).data.toList (ByteArray.mk #[c, 32]).data.toList = true from h] at q
set_option maxHeartbeats 3200000 in
theorem lines_err (s : ByteArray) (ratio E : Int) (hE : (E != 0) = true) (w : World) (L : Lw w)
    (y : ∀ v, Lw v → Calls Tryz.prog 7 #[.string s, .int .i64 ratio] v fun e w' => e = .returned (.tuple #[.slice none 0 0, .int .i64 E]) ∧ Below v.heap.size v w') :
    Calls Tryz.prog 4 #[.string s, .int .i64 ratio] w fun e w' => e = .returned (.bool true) ∧ Below w.heap.size w w' := by
  go_enter Tryz.func4, Tryz.ntmps4
  go_wp2_with (first
    | (go_at_call 10; refine (alive21 _ L).mono ?_; rintro e v1 ⟨rfl, B⟩; replace L := L.kept B)
    | (go_at_call 7; refine (y _ L).mono ?_; clear y; rintro e v2 ⟨rfl, b⟩; replace B := bthen B b; clear b))
  go_ret
  exact ⟨rfl, B⟩
set_option maxHeartbeats 3200000 in
theorem lines_ok (s l0 l1 : ByteArray) (ratio : Int) (w : World) (L : Lw w)
    (y : ∀ v, Lw v → Calls Tryz.prog 7 #[.string s, .int .i64 ratio] v fun e w' => ∃ g cap, e = .returned (.tuple #[.slice (some ⟨g, 0, none⟩) 2 cap, .int .i64 0]) ∧ (w'.cell? ⟨g, 0, none⟩ = some (.string l0) ∧ w'.cell? ⟨g, 1, none⟩ = some (.string l1)) ∧ Below v.heap.size v w')
    (h0 : ∀ v, Calls Tryz.prog 11 #[.string l0, .string ⟨#[48, 32]⟩] v fun e w' => e = .returned (.bool true) ∧ w' = v) (h1 : ∀ v, Calls Tryz.prog 11 #[.string l1, .string ⟨#[49, 32]⟩] v fun e w' => e = .returned (.bool true) ∧ w' = v) :
    Calls Tryz.prog 4 #[.string s, .int .i64 ratio] w fun e w' => e = .returned (.bool true) ∧ Below w.heap.size w w' := by
  go_enter Tryz.func4, Tryz.ntmps4
  go_wp2_with (first
    | (go_at_call 10; refine (alive21 _ L).mono ?_; rintro e v1 ⟨rfl, B⟩; replace L := L.kept B)
    | (go_at_call 7; refine (y _ L).mono ?_; clear y; rintro e v2 ⟨g, cap, rfl, ⟨c0, c1⟩, b⟩; replace B := bthen B b; clear b)
    | (go_at_call 11; with_reducible refine (h0 _).mono ?_; clear h0; rintro e v3 ⟨rfl, rfl⟩)
    | (go_at_call 11; with_reducible refine (h1 _).mono ?_; clear h1; rintro e v3 ⟨rfl, rfl⟩))
  go_ret
  exact ⟨rfl, B⟩
theorem benchLines_go (s : ByteArray) (hs : s.size ≤ 140737488355328) (ratio : Int) (w : World) (L : Lw w) :
    Calls Tryz.prog 4 #[.string s, .int .i64 ratio] w fun e w' => e = .returned (.bool true) ∧ Below w.heap.size w w' := by
  obtain ⟨E, l0, l1, h⟩ := tl_some s.data.toList ratio
  cases hE : (E != 0)
  · have h' := h
    obtain rfl : E = 0 := by simpa using hE
    rcases h with ⟨e, _⟩ | ⟨r, hr, k0, m0, E0, k1, m1, E1, j0, j1, rfl, rfl, _⟩
    · exact absurd e (by decide)
    · refine lines_ok s ⟨(ln 0 k0 m0).toArray⟩ ⟨(ln 1 k1 m1).toArray⟩ ratio w L (fun v l => (tell_any hs h' v l).mono ?_) (pre_is _ 48 (ln0 _ _)) (pre_is _ 49 (ln1 _ _))
      rintro e w' ⟨⟨t, rfl, ⟨q, _⟩ | ⟨_, g, cap, rfl, _, hc⟩⟩, b⟩
      · exact absurd q (by decide)
      · exact ⟨g, cap, rfl, ⟨hc 0 _ rfl, hc 1 _ rfl⟩, b⟩
  · refine lines_err s ratio E hE w L (fun v l => (tell_any hs h v l).mono ?_)
    rintro e w' ⟨⟨t, rfl, ⟨_, rfl⟩ | ⟨q, _⟩⟩, b⟩
    · exact ⟨rfl, b⟩
    · rw [hE] at q; simp at q
end Go.Proofs.YtjageagnclmnjaaGreatDoor.D

namespace Go.Proofs.YtjageagnclmnjaaGreatDoor.D
open Go.ChangeShapes Go.WideShapes Go.ChangeAt Go.RowKit Go.Joins Go.Deep K
set_option maxRecDepth 100000

theorem own : ownKnob Tryz.prog.godebug = none := by kernel_rfl
theorem laidOut : laidOutB Tryz.prog = true := by kernel_rfl
theorem Tryz.cells3 : Tryz.prog.cellsOf 3 = 1 := by kernel_rfl
section
variable {H : Type} {enc : TypeId × Value → H} {W : World} {fuel : Nat} {x : DataW H × List MemPlace}
end

end Go.Proofs.YtjageagnclmnjaaGreatDoor.D
