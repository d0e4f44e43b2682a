/- PROVED: what Of, At and Right answer. what is known of a slice of integers that came in, of whatever size. the contracts with how long each row is said apart; what bucket.Keeps answers. CONDITIONS: none beyond each theorem's own. -/
import Derived.Test.YtjageagnclmnjabGreatDoorV40BAns
import Derived.ProofKit
import Derived.OpenShut
import Derived.ShutString
import Derived.ChangeOld
import Derived.Below
import Derived.SizedLaws
import Derived.Test.YtjageagnclmnjabGreatDoorV46Alt
import Derived.Test.YtjageagnclmnjabGreatDoorV43BBPass
section
namespace Go.Proofs.YtjageagnclmnjabGreatDoor.B
set_option maxRecDepth 100000
open Go.RowKit

theorem Gath.one (w : World) (x : Int) : Gath w (.slice (some ⟨w.heap.size, 0, none⟩) 1 1) (w.alloc (.cells #[.int .i64 x] 3)) [x] :=
  ⟨⟨rfl, .inr ⟨w.heap.size, 1, #[.int .i64 x], rfl, Nat.le_refl _, (by show (w.heap.push _)[w.heap.size]? = _; simp), Nat.le_refl _, by unfold maxLen; omega, rfl, rfl⟩⟩, balloc (Below.refl _ _) _⟩

set_option maxHeartbeats 1600000 in
theorem of_any (a : Option Addr) (cap : Nat) (z : List Int) (w : World) (hz : Row w a z) (hl : z.length ≤ 17592186044415) :
    Calls Tryz.prog 16 #[.slice a z.length cap] w (Ans w (of z)) := by
  obtain ⟨i0, hi, hz0, hz1, hz2⟩ := info_parts Tryz.info3
  have hst : Gath w (.slice (some ⟨w.heap.size, 0, none⟩) 1 1) (w.alloc (.cells #[.int .i64 0] 3)) (outs (psum fun j => z.getD j 0) (0 + 1)) := Gath.one w 0
  go_enter Tryz.func16, Tryz.ntmps16
  go_wp2
  go_loopw [3, 4, 11] (fun s t i wr => ∃ k : Nat, k ≤ z.length ∧ i = .int .i64 k ∧ s = .int .i64 (psum (fun j => z.getD j 0) k) ∧ Gath w t wr (outs (psum fun j => z.getD j 0) (k + 1))) (fun _ _ i _ => z.length - (intOf i).toNat)
  case atStart => exact ⟨0, Nat.zero_le _, rfl, rfl, hst⟩
  case round =>
    obtain ⟨k, hkn, rfl, rfl, hG⟩ := hrel
    by_cases hlt : k < z.length
    · obtain ⟨g, off, rfl, hcz⟩ := hz.at (by omega)
      have hx := (hG.below.cell (p := ⟨g, off + k, none⟩) (block_lt (hcz k hlt))).trans (hcz k hlt)
      have ho1 := hG.own
      have hRl := outs_len (psum fun j => z.getD j 0) (k + 1)
      have hp : Hid (psum (fun j => z.getD j 0) (k + 1) = plus (psum (fun j => z.getD j 0) k) (z.getD k 0)) := rfl
      generalize z.getD k 0 = x at hx hp
      generalize psum (fun j => z.getD j 0) k = s at hp ⊢
      clear hst hcz
      go_wp2_with (first
        | (go_at_call 32; refine (plus_any _ _ _).mono ?_; rintro e wr ⟨rfl, rfl⟩)
        | (at_builtin; refine wpList_append_own _ rfl _ _ 24 rfl w.heap.size 3 i0 (.int .i64 0) 1 8 Tryz.underlying24 hi hz0 hz1 hz2 rfl (by decide) _ _ _ rfl (ho1.alloc _) ⟨wr.heap.size, 0, none⟩ 1 1 [.int .i64 (plus s x)] rfl rfl (cell_one_new _ _ _) (by simp [Value.oneCell']) (by unfold maxLen; omega) (by omega) (by have := hG.below.size; simp; omega) ?_; intro t' w2 hown' hgrow _; have hS := hG.next (Below.refl _ _) hp.out.symm hown' hgrow; clear hown' hgrow ho1))
      go_roundw
      case rel => exact ⟨k + 1, by omega, by go_num, by rw [hp.out], hS⟩
      case measure => simp [intOf]; omega
    · have e : k = z.length := by omega
      subst e
      go_wp2
      go_ret
      exact hG.done

theorem wrapEq (x : Int) : IntKind.i64.wrap x = wrap64 x := by rw [IntKind.wrap_i64]; unfold wrap64; rfl
theorem wrap_in {x : Int} (h : -9223372036854775808 ≤ x ∧ x ≤ 9223372036854775807) : IntKind.i64.wrap x = x := by rw [wrapEq]; exact IntWalk.wrap64_in _ h

end Go.Proofs.YtjageagnclmnjabGreatDoor.B

end

section
namespace Go.Proofs.YtjageagnclmnjabGreatDoor.B
set_option maxRecDepth 100000
open Go.ChangeShapes Go.WideShapes Go.ChangeAt Go.RowKit

theorem fits {n : Int} (h : (Lit.int .i64 n).wf = true) : -9223372036854775808 ≤ n ∧ n ≤ 9223372036854775807 := by
  simpa [Lit.wf, IntKind.min, IntKind.max, IntKind.signed, IntKind.bits] using h

theorem own : ownKnob Tryz.prog.godebug = none := by kernel_rfl
theorem laidOut : laidOutB Tryz.prog = true := by kernel_rfl
theorem Tryz.bytes3 : Tryz.prog.bytesOf 3 = 8 := by kernel_rfl

/-- a slice of integers that came in, of whatever size -/
def FarIn (w : World) (ao : Option Addr) (cap : Nat) (zs : List Int) : Prop := Row w ao zs ∧ zs.length ≤ 17592186043904 ∧ zs.length ≤ cap ∧ ∀ n ∈ zs, -9223372036854775808 ≤ n ∧ n ≤ 9223372036854775807

theorem farIn {H : Type} {enc : TypeId × Value → H} {W : World} {a : Option Addr} {len cap : Nat} {d : DataW H} {p : List MemPlace}
    (h : DataW.Trod enc Tryz.prog W 0 (fun _ => true) true 24 (.slice a len cap) d p) (hb : ∀ elems spare, d = .slice elems spare → (elems.length + spare.length) * 8 ≤ 140737488351232) : ∃ zs, zs.length = len ∧ FarIn W a cap zs := by
  obtain ⟨fuel, hf⟩ := h
  rcases Go.ChangeShapes.open_ints Tryz.underlying24 Tryz.underlying3 (by kernel_rfl) hf with ⟨hcs, _⟩ | ⟨x, l, c, zs, hcs, _, hl, hm, hz, hx, hcell, hwz⟩
  · simp [Value.cells] at hcs
    obtain ⟨rfl, rfl, rfl⟩ := hcs
    exact ⟨[], rfl, .inl rfl, by simp, by simp, fun n hn => by cases hn⟩
  · simp [Value.cells] at hcs
    obtain ⟨rfl, rfl, rfl⟩ := hcs
    have hzl : zs.length = cap := by simpa using hz
    have hlt : (zs.take len).length = len := by simp; omega
    injection hx with hx _
    have hb1 := hb _ _ hx
    simp only [Go.ChangeShapes.lits, List.length_map, List.length_take, List.length_drop] at hb1
    refine ⟨zs.take len, hlt, ?_, by omega, by omega, fun n hn => fits (hwz n (List.mem_of_mem_take hn))⟩
    by_cases h0 : len = 0
    · exact .inl (List.eq_nil_of_length_eq_zero (by omega))
    · have c0 := hcell 0 (by omega)
      obtain ⟨b, o, sp⟩ := x
      have hsp : sp = none := by
        cases sp with
        | none => rfl
        | some q =>
          have : W.cell? ((⟨b, o, some q⟩ : Addr).add 0) = none := by
            show W.cell? ⟨b, o, some q⟩ = none
            simp only [World.cell?]
            split <;> simp
          rw [this] at c0; cases c0
      subst hsp
      refine .inr ⟨b, o, rfl, fun j hj => ?_⟩
      have := hcell j (by omega)
      rw [Addr.add_lit] at this
      rw [this, List.getD_eq_getElem?_getD, List.getD_eq_getElem?_getD, List.getElem?_take_of_lt (by omega)]

end Go.Proofs.YtjageagnclmnjabGreatDoor.B

end

section
namespace Go.Proofs.YtjageagnclmnjabGreatDoor.B
set_option maxRecDepth 100000
open Go.RowKit

/-- what a call answers: n numbers -/
def AnsN (w : World) (n : Nat) (R : List Int) (e : Ending) (w' : World) : Prop :=
  ∃ ao cap, e = .returned (.slice ao n cap) ∧ n ≤ cap ∧ Row w' ao R ∧ Below w.heap.size w w'
theorem Ans.told {w : World} {R S : List Int} {n : Nat} {e : Ending} {w' : World} (h : Ans w R e w') (hl : R.length = n) (hS : R = S) : AnsN w n S e w' := by
  subst hS; subst hl; exact h

theorem of_r (a : Option Addr) (c n : Nat) (f R : List Int) (hR : of f = R) (w : World) (k : Row w a f) (e1 : f.length = n) (h : n ≤ 17592186044415) :
    Calls Tryz.prog 16 #[.slice a n c] w (AnsN w (n + 1) R) := by
  subst e1
  exact (of_any a c f w k h).mono fun e w' q => q.told (of_len f) hR
end Go.Proofs.YtjageagnclmnjabGreatDoor.B

end
