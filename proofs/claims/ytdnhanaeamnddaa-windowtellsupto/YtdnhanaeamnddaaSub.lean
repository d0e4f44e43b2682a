/- PROVED: the least and the greatest of a part of a row, by sorting and by going through; what slices.Sorted answers. CONDITIONS: none beyond each theorem's own. -/
import Derived.Test.YtdnhanaeamnddaaIter
namespace Go.Proofs.Ytdnhanaeamnddaa
open Go.RowKit

/-- n numbers of z from place f on -/
def sub (z : List Int) (f n : Nat) : List Int := (z.drop f).take n

theorem sub_len (z : List Int) (f n : Nat) (h : f + n ≤ z.length) : (sub z f n).length = n := by
  simp [sub]; omega

theorem sub_getD (z : List Int) (f n j : Nat) (hj : j < n) : (sub z f n).getD j 0 = z.getD (f + j) 0 := by
  rw [List.getD_eq_getElem?_getD, List.getD_eq_getElem?_getD, sub, List.getElem?_take_of_lt hj, List.getElem?_drop]

theorem sub_mem {z : List Int} {f n : Nat} (h : f + n ≤ z.length) {x : Int} (hx : x ∈ sub z f n) : ∃ j, f ≤ j ∧ j < f + n ∧ z.getD j 0 = x := by
  obtain ⟨j, hj, e⟩ := List.getElem_of_mem hx
  rw [sub_len z f n h] at hj
  refine ⟨f + j, by omega, by omega, ?_⟩
  rw [← sub_getD z f n j hj, List.getD_eq_getElem?_getD, List.getElem?_eq_getElem (by rw [sub_len z f n h]; exact hj)]
  exact e

theorem mem_sub {z : List Int} {f n : Nat} (h : f + n ≤ z.length) {j : Nat} (h1 : f ≤ j) (h2 : j < f + n) : z.getD j 0 ∈ sub z f n := by
  have e := sub_getD z f n (j - f) (by omega)
  rw [show f + (j - f) = j by omega] at e
  rw [← e, List.getD_eq_getElem?_getD, List.getElem?_eq_getElem (by rw [sub_len z f n h]; omega)]
  exact List.getElem_mem _

theorem best_sub {low : Bool} {z : List Int} {f n : Nat} (h : f + n ≤ z.length) {v : Int} (hv : v ∈ sub z f n) (ha : ∀ x ∈ sub z f n, bt low x v = false) : Best low (fun j => z.getD j 0) f (f + n) v := by
  obtain ⟨j, h1, h2, h3⟩ := sub_mem h hv
  exact ⟨⟨j, h1, h2, h3⟩, fun i i1 i2 => ha _ (mem_sub h i1 i2)⟩

def srt (l : List Int) : List Int := l.mergeSort fun x y => decide (x ≤ y)

theorem srt_len (l : List Int) : (srt l).length = l.length := (List.mergeSort_perm l _).length_eq
theorem srt_mem {l : List Int} {x : Int} : x ∈ srt l ↔ x ∈ l := (List.mergeSort_perm l _).mem_iff
theorem srt_up (l : List Int) : (srt l).Pairwise fun a b => decide (a ≤ b) = true :=
  List.pairwise_mergeSort (fun a b c h k => by simp at h k ⊢; omega) (fun a b => by simp; omega) l

theorem srt_le (l : List Int) (i j : Nat) (h : i ≤ j) (hj : j < l.length) : (srt l).getD i 0 ≤ (srt l).getD j 0 := by
  by_cases e : i = j
  · subst e; exact Int.le_refl _
  · have p := List.pairwise_iff_getElem.1 (srt_up l) i j (by rw [srt_len]; omega) (by rw [srt_len]; omega) (by omega)
    rw [List.getD_eq_getElem?_getD, List.getD_eq_getElem?_getD, List.getElem?_eq_getElem (by rw [srt_len]; omega), List.getElem?_eq_getElem (by rw [srt_len]; omega)]
    simpa using p

theorem srt_at (l : List Int) (i : Nat) (h : i < l.length) : (srt l).getD i 0 ∈ l := by
  rw [← srt_mem, List.getD_eq_getElem?_getD, List.getElem?_eq_getElem (by rw [srt_len]; omega)]
  exact List.getElem_mem _

theorem srt_find {l : List Int} {x : Int} (h : x ∈ l) : ∃ i, i < l.length ∧ (srt l).getD i 0 = x := by
  obtain ⟨i, hi, e⟩ := List.getElem_of_mem (srt_mem.2 h)
  rw [srt_len] at hi
  refine ⟨i, hi, ?_⟩
  rw [List.getD_eq_getElem?_getD, List.getElem?_eq_getElem (by rw [srt_len]; exact hi)]
  exact e

theorem best_first {z : List Int} {f n : Nat} (h : f + n ≤ z.length) (hn : 0 < n) : Best true (fun j => z.getD j 0) f (f + n) ((srt (sub z f n)).getD 0 0) := by
  have hl := sub_len z f n h
  refine best_sub h (srt_at _ 0 (by omega)) fun x hx => ?_
  obtain ⟨i, hi, e⟩ := srt_find hx
  have := srt_le (sub z f n) 0 i (Nat.zero_le _) hi
  simp only [bt, if_true, decide_eq_false_iff_not]
  omega

theorem best_last {z : List Int} {f n : Nat} (h : f + n ≤ z.length) (hn : 0 < n) : Best false (fun j => z.getD j 0) f (f + n) ((srt (sub z f n)).getD (n - 1) 0) := by
  have hl := sub_len z f n h
  refine best_sub h (srt_at _ (n - 1) (by omega)) fun x hx => ?_
  obtain ⟨i, hi, e⟩ := srt_find hx
  have := srt_le (sub z f n) i (n - 1) (by omega) (by omega)
  simp only [bt, Bool.false_eq_true, if_false, decide_eq_false_iff_not]
  omega

theorem fold_min (l : List Int) : ∀ a, (l.foldl min a = a ∨ l.foldl min a ∈ l) ∧ l.foldl min a ≤ a ∧ ∀ x ∈ l, l.foldl min a ≤ x := by
  induction l with
  | nil => intro a; exact ⟨.inl rfl, Int.le_refl _, fun x h => by cases h⟩
  | cons y t ih =>
    intro a
    obtain ⟨h1, h2, h3⟩ := ih (min a y)
    simp only [List.foldl_cons]
    refine ⟨?_, by omega, fun x hx => ?_⟩
    · rcases h1 with e | e
      · rw [e]
        by_cases h : a ≤ y
        · left; omega
        · right; rw [show min a y = y by omega]; exact List.mem_cons_self
      · exact .inr (List.mem_cons_of_mem _ e)
    · rcases List.mem_cons.1 hx with e | e
      · subst e; omega
      · exact h3 x e

theorem best_minOf {z : List Int} {f n : Nat} (h : f + n ≤ z.length) (hn : 0 < n) : Best true (fun j => z.getD j 0) f (f + n) (Lib.minOf (sub z f n)) := by
  have hl := sub_len z f n h
  obtain ⟨y, t, e⟩ : ∃ y t, sub z f n = y :: t := by
    cases hs : sub z f n with
    | nil => rw [hs] at hl; simp at hl; omega
    | cons y t => exact ⟨y, t, rfl⟩
  obtain ⟨h1, h2, h3⟩ := fold_min (y :: t) y
  refine best_sub h ?_ fun x hx => ?_
  · rw [e]
    show (y :: t).foldl min y ∈ _
    rcases h1 with q | q
    · rw [q]; exact List.mem_cons_self
    · exact q
  · rw [e] at hx
    have := h3 x hx
    simp only [bt, if_true, decide_eq_false_iff_not]
    rw [e]
    show ¬ x < (y :: t).foldl min y
    omega

theorem below_sorted {w : World} {B blk : Nat} {d : Array Int} (n : Nat) (os : Array Obj) (hB : B ≤ blk) (hw : B ≤ w.heap.size) : Below B w (Go.Sort.grow (Go.Sort.putRow (Value.int .i64) (Go.Sort.ahead w n) blk 0 d) os) := by
  refine ⟨rfl, rfl, rfl, ?_, fun k hk => ?_⟩
  · simp [Go.Sort.grow, Go.Sort.putRow, Go.Sort.mapBlock, Go.Sort.ahead]
  · rw [Go.Sort.heap_grow_old _ _ (by simp [Go.Sort.putRow, Go.Sort.mapBlock, Go.Sort.ahead]; omega)]
    show ((w.heap.modify blk _)[k]?) = _
    rw [Array.getElem?_modify, if_neg (by omega)]

set_option maxHeartbeats 800000 in
theorem sorted_any (Bs b off cap : Nat) (zs : List Int) (hreach : zs.length ≤ 4294967296) (w : World)
    (hc : w.cell? ⟨Bs, 0, none⟩ = some (.slice (some ⟨b, off, none⟩) zs.length cap)) (hb : b < w.heap.size) (hI : ∀ j, j < zs.length → w.cell? ⟨b, off + j, none⟩ = some (.int .i64 (zs.getD j 0))) (hne : 0 < zs.length) :
    Calls Try.prog 18 #[.func (.func 28) #[] #[.pointer (some ⟨Bs, 0, none⟩)]] w fun e W' => ∃ g cp, e = .returned (.slice (some ⟨g, 0, none⟩) zs.length cp) ∧ (∀ j, j < zs.length → W'.cell? ⟨g, j, none⟩ = some (.int .i64 ((srt zs).getD j 0))) ∧ Below w.heap.size w W' := by
  go_enter Try.func18, Try.ntmps18
  go_wp2_with (go_at_call 26; refine (collect_any Bs b off cap zs hreach w hc hb hI hne).mono ?_; rintro e w1 ⟨g, cp, rfl, hrow, hB⟩)
  have hg := hrow.lt g rfl
  have hH : Go.Sort.Holds (Value.int .i64) w1 g 0 zs.toArray := fun j hj => by
    have hj' : j < zs.length := by simpa using hj
    refine ⟨?_, hrow.frozenAt _⟩
    rw [Nat.zero_add, hrow.cellAt j (by omega)]
    simp [hj']
  have hS := Try.slices_Sort_int g 0 cp zs w1 hH hg.2 (by omega)
  have hend : ∀ n os, (∀ j, j < zs.length → (Go.Sort.grow (Go.Sort.putRow (Value.int .i64) (Go.Sort.ahead w1 n) g 0 (srt zs).toArray) os).cell? ⟨g, j, none⟩ = some (.int .i64 ((srt zs).getD j 0))) ∧ Below w.heap.size w (Go.Sort.grow (Go.Sort.putRow (Value.int .i64) (Go.Sort.ahead w1 n) g 0 (srt zs).toArray) os) := fun n os => by
    refine ⟨fun j hj => ?_, hB.trans (below_sorted n os hg.1 hB.size)⟩
    rw [Go.Sort.cell?_grow _ _ _ (by simp [Go.Sort.putRow, Go.Sort.mapBlock, Go.Sort.ahead]; exact hg.2)]
    have hp := Go.Sort.holds_putRow (Value.int .i64) (Go.Sort.ahead w1 n) g 0 zs.toArray (srt zs).toArray hH (by simp [srt_len]) j (by simp [srt_len]; exact hj)
    have h1 := hp.1
    rw [Nat.zero_add] at h1
    rw [h1]
    have hj' : j < (srt zs).length := by rw [srt_len]; exact hj
    simp [List.getD_eq_getElem?_getD, hj']
  clear hH hrow hc hI
  go_wp2_with (go_at_call 27; refine hS.mono ?_; rintro e w2 ⟨rfl, n2, os2, hw2⟩; have hE := hend n2 os2; change w2 = Go.Sort.grow (Go.Sort.putRow (Value.int .i64) (Go.Sort.ahead w1 n2) g 0 (srt zs).toArray) os2 at hw2; rw [← hw2] at hE; clear hw2 hend hS)
  go_ret
  exact ⟨g, cp, rfl, hE⟩

end Go.Proofs.Ytdnhanaeamnddaa
