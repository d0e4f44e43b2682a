/- PROVED: what queue.Delays answers; slices.Max of numbers from 0 to Most. CONDITIONS: none beyond each theorem's own. -/
import Derived.Test.YtjageagnclmnjabGreatDoorW44BTold
import Derived.Test.YtjageagnclmnjabGreatDoorW41BSame
import Derived.Deep.RegionWith
import Derived.Deep.CutRange
namespace Go.Proofs.YtjageagnclmnjabGreatDoor.B
set_option maxRecDepth 100000
open Go.RowKit

theorem count_later (x : Int) (G : Nat → Int) (t : Nat) (zs : List Int) (hz : ∀ i, i < zs.length → zs.getD i 0 = G (t + i + 1)) (hs : zs.Pairwise (· ≤ ·)) : zs.countP (· < x) = later x G t zs.length := by
  induction zs generalizing t with
  | nil => rfl
  | cons y ys ih =>
    have h0 : y = G (t + 1) := hz 0 (by simp)
    rw [List.pairwise_cons] at hs
    have h1 := ih (t + 1) (fun i hi => by
      have := hz (i + 1) (by simp; omega)
      rw [show t + 1 + i + 1 = t + (i + 1) + 1 by omega, ← this]; rfl) hs.2
    simp only [List.length_cons, later]
    by_cases c : x ≤ G (t + 1)
    · rw [if_pos c, List.countP_eq_zero]
      intro u hu
      rcases List.mem_cons.1 hu with rfl | hu
      · simp; omega
      · have := hs.1 u hu
        simp; omega
    · rw [if_neg c, List.countP_cons_of_pos (by simp; omega), h1]
theorem sorted_of {zs : List Int} (h : ∀ j, j + 1 < zs.length → zs.getD j 0 ≤ zs.getD (j + 1) 0) : zs.Pairwise (· ≤ ·) := by
  induction zs with
  | nil => exact List.Pairwise.nil
  | cons y ys ih =>
    have hs := ih fun j hj => h (j + 1) (by simp; omega)
    refine List.pairwise_cons.2 ⟨fun u hu => ?_, hs⟩
    cases ys with
    | nil => simp at hu
    | cons z zs =>
      have h0 : y ≤ z := h 0 (by simp)
      rcases List.mem_cons.1 hu with rfl | hu
      · exact h0
      · exact Int.le_trans h0 ((List.pairwise_cons.1 hs).1 u hu)
theorem drop_at (zs : List Int) (k j : Nat) : (zs.drop k).getD j 0 = zs.getD (k + j) 0 := by
  simp [List.getD_eq_getElem?_getD]

theorem search_any (b o c n t : Nat) (f : List Int) (x : Int) (G : Nat → Int) (w : World) (hr : ∀ j, j < n → w.cell? ⟨b, o + j, none⟩ = some (.int .i64 (f.getD j 0))) (hl : f.length = n) (ht : t ≤ n) (h : n ≤ 300) (hG : ∀ j, j < n → f.getD j 0 = G (j + 1)) (hs : ∀ j, j + 1 < n → G (j + 1) ≤ G (j + 1 + 1)) :
    Calls Tryz.prog 30 #[.slice (some ⟨b, o + t, none⟩) (n - t) c, .int .i64 x] w fun e w' => e = .returned (.tuple #[.int .i64 (later x G t (n - t) : Nat), .bool ((f.drop t).contains x)]) ∧ ∃ q, w' = w.drewN q := by
  have hd : (f.drop t).length = n - t := by rw [List.length_drop, hl]
  have hp : (f.drop t).Pairwise (· ≤ ·) := sorted_of fun j hj => by
    rw [hd] at hj
    rw [drop_at, drop_at, hG _ (by omega), hG _ (by omega)]
    exact hs (t + j) (by omega)
  have hc := Tryz.slices_BinarySearch_int b (o + t) (n - t) c (f.drop t) x w (by omega) (by omega) (fun j hj => by
    rw [drop_at, Nat.add_assoc]
    rw [hd] at hj
    exact hr (t + j) (by omega)) (by rw [← hd, List.take_length]; exact hp)
  rw [← hd, List.take_length, hd] at hc
  have hk := count_later x G t (f.drop t) (fun i hi => by
    rw [hd] at hi
    rw [drop_at, hG _ (by omega)]) hp
  rw [hd] at hk
  rw [hk] at hc
  exact hc

theorem outs_bright {R M Q N : Int} {s : List Int} {f : Nat → Int} (h : bright R M s) (hQ : inr Q) (hN : inr N) (hf : ∀ j, j < s.length → inr (f j)) : bright Q N (outs f s.length) :=
  ⟨hQ, hN, by rw [outs_len]; exact h.2.2.1, fun j hj => by rw [outs_len] at hj; rw [outs_getD _ _ _ hj]; exact hf j hj⟩
theorem of_outs {R M : Int} {s : List Int} {f : Nat → Int} (h : bright R M s) (hf : ∀ j, j < s.length → inr (f j)) (t : Nat) (ht : t ≤ s.length) : (of (outs f s.length)).getD t 0 = acc f t := by
  rw [of_getD (outs_bright h h.1 h.2.1 hf) t (by rw [outs_len]; exact ht)]
  exact acc_ext t fun j hj => outs_getD _ _ _ (by omega)

end Go.Proofs.YtjageagnclmnjabGreatDoor.B
