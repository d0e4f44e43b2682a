/- PROVED: what the document's own answers of chapter 2 are. CONDITIONS: none beyond each theorem's own. -/
import Derived.Test.YtdnhanaeamnddaaSub
import Derived.Test.YtdnhanaeamnddaaAlive
namespace Go.Proofs.Ytdnhanaeamnddaa
open Go.RowKit

/-- which row is meant: none, or the best of each -/
def Meant (zs : List Int) (low : Bool) (fr : Nat → Nat) (ok : Bool) (R : List Int) : Prop :=
  if ok then R.length = zs.length ∧ ∀ k, k < zs.length → Best low (fun j => zs.getD j 0) (fr k) (k + 1) (R.getD k 0) else R = []

theorem Meant.uniq {zs : List Int} {low : Bool} {fr : Nat → Nat} {ok : Bool} {R S : List Int} (h : Meant zs low fr ok R) (k : Meant zs low fr ok S) : R = S := by
  cases ok with
  | false =>
    simp only [Meant, Bool.false_eq_true, if_false] at h k
    rw [h, k]
  | true =>
    simp only [Meant, if_true] at h k
    exact told_eq h.1 k.1 h.2 k.2

theorem Meant.len {zs : List Int} {low : Bool} {fr : Nat → Nat} {ok : Bool} {R : List Int} (h : Meant zs low fr ok R) : R.length ≤ zs.length := by
  cases ok with
  | false => simp only [Meant, Bool.false_eq_true, if_false] at h; rw [h]; simp
  | true => simp only [Meant, if_true] at h; omega

/-- a row is answered, and nothing old has turned -/
def Ans (w : World) (zs : List Int) (low : Bool) (fr : Nat → Nat) (ok : Bool) (e : Ending) (w' : World) : Prop :=
  ∃ R ao cap, e = .returned (.slice ao R.length cap) ∧ Row w' ao R ∧ Meant zs low fr ok R ∧ Below w.heap.size w w'

theorem ans_none {w : World} {zs : List Int} {low : Bool} {fr : Nat → Nat} {e : Ending} {w' : World} (he : e = .returned (.slice none 0 0)) (b : Below w.heap.size w w') : Ans w zs low fr false e w' :=
  ⟨[], none, 0, he, .inl rfl, rfl, b⟩

theorem ans_told {w : World} {zs : List Int} {low : Bool} {fr : Nat → Nat} {e : Ending} {w' : World} (h : Told w zs low fr e w') : Ans w zs low fr true e w' := by
  obtain ⟨R, O, h1, h2, h3, h4, h5⟩ := h
  exact ⟨R, some ⟨O, 0, none⟩, zs.length, by rw [h1]; exact h2, h3, ⟨h1, h4⟩, h5⟩

theorem min_ans (ao : Option Addr) (cap : Nat) (zs : List Int) (v : Int) (w : World) (hz : Row w ao zs) (hk : zs.length ≤ 4294967296) (hv2 : v ≤ 9223372036854775807) :
    Calls Try.prog 9 #[.slice ao zs.length cap, .int .i64 v] w (Ans w zs true (frL v) (decide (1 ≤ v))) := by
  by_cases h : 1 ≤ v
  · rw [decide_eq_true h]
    exact (min_any ao cap zs v w hz hk h hv2).mono fun e w' q => ans_told q
  · rw [decide_eq_false h]
    exact (min_none ao zs.length cap v w (by omega)).mono fun e w' ⟨a, b⟩ => ans_none a (b ▸ Below.refl _ _)
theorem max_ans (ao : Option Addr) (cap : Nat) (zs : List Int) (v : Int) (w : World) (hz : Row w ao zs) (hk : zs.length ≤ 4294967296) (hv2 : v ≤ 9223372036854775807) :
    Calls Try.prog 11 #[.slice ao zs.length cap, .int .i64 v] w (Ans w zs false (frL v) (decide (1 ≤ v))) := by
  by_cases h : 1 ≤ v
  · rw [decide_eq_true h]
    exact (max_any ao cap zs v w hz hk h hv2).mono fun e w' q => ans_told q
  · rw [decide_eq_false h]
    exact (max_none ao zs.length cap v w (by omega)).mono fun e w' ⟨a, b⟩ => ans_none a (b ▸ Below.refl _ _)
theorem base_ans (ao : Option Addr) (cap : Nat) (zs : List Int) (u v : Int) (w : World) (hz : Row w ao zs) (hk : zs.length ≤ 4294967296) (hu2 : u ≤ 9223372036854775807) (hv2 : v ≤ 9223372036854775807) :
    Calls Try.prog 12 #[.slice ao zs.length cap, .int .i64 u, .int .i64 v] w (Ans w zs true (frB u v) (decide (1 ≤ u ∧ 1 ≤ v))) := by
  by_cases h : 1 ≤ u ∧ 1 ≤ v
  · rw [decide_eq_true h]
    exact (base_any ao cap zs u v w hz hk h.1 hu2 h.2 hv2).mono fun e w' q => ans_told q
  · rw [decide_eq_false h]
    exact (base_none ao zs.length cap u v w (by omega)).mono fun e w' ⟨a, b⟩ => ans_none a (b ▸ Below.refl _ _)

theorem owned_row {w : World} {base : Nat} {t : Value} {R : List Int} (h : w.ownsRow base 3 1 t R.length (R.map (Value.int .i64))) : ∃ ao cap, t = .slice ao R.length cap ∧ Row w ao R := by
  obtain ⟨hl, ⟨e, e2⟩ | ⟨g, cap, cur, e, _, hh, _, _, _, htk⟩⟩ := h
  · have hR : R = [] := List.eq_nil_of_length_eq_zero e2
    subst hR
    exact ⟨none, 0, e, .inl rfl⟩
  · refine ⟨_, cap, e, .inr ⟨g, 0, rfl, fun j hj => ?_⟩⟩
    have : (R.map (Value.int .i64))[j]? = some (.int .i64 (R.getD j 0)) := by simp [List.getD_eq_getElem?_getD, hj]
    rw [← htk, List.getElem?_take_of_lt (by omega)] at this
    rw [Nat.zero_add]
    simp [World.cell?, hh]
    simpa using this

/-- the state at a round's head -/
structure Gathers (w : World) (zs : List Int) (low : Bool) (fr : Nat → Nat) (k : Nat) (t : Value) (wr : World) (R : List Int) : Prop where
  len : R.length = k
  own : wr.ownsRow w.heap.size 3 1 t R.length (R.map (Value.int .i64))
  best : ∀ j, j < k → Best low (fun j => zs.getD j 0) (fr j) (j + 1) (R.getD j 0)
  below : Below w.heap.size w wr

theorem Gathers.start (w : World) (zs : List Int) (low : Bool) (fr : Nat → Nat) : Gathers w zs low fr 0 (.slice none 0 0) w [] :=
  ⟨rfl, World.ownsRow_nil _ _ _ _, fun j h => by omega, Below.refl _ _⟩

theorem Gathers.step {w : World} {zs : List Int} {low : Bool} {fr : Nat → Nat} {k : Nat} {t t' : Value} {wr w1 w2 : World} {R : List Int} (h : Gathers w zs low fr k t wr R) {x : Int} (hx : Best low (fun j => zs.getD j 0) (fr k) (k + 1) x)
    (hb : Below wr.heap.size wr w1) (ho : w2.ownsRow w.heap.size 3 1 t' (R.length + 1) (R.map (Value.int .i64) ++ [.int .i64 x])) {o : Obj} (hg : (w1.alloc o).grownBy w2 t.ownBlock) : Gathers w zs low fr (k + 1) t' w2 (R ++ [x]) := by
  have hl := h.len
  refine ⟨by simp [hl], by simpa using ho, fun j hj => ?_, ?_⟩
  · by_cases e : j = k
    · subst e; rw [getD_snoc_new _ _ _ hl.symm]; exact hx
    · rw [getD_snoc_old _ _ _ (by omega)]; exact h.best j (by omega)
  · have b1 := balloc (bthen h.below hb) o
    exact b1.grown hg b1.size (fun q hq => (h.own.lt q hq).1)

theorem Gathers.done {w : World} {zs : List Int} {low : Bool} {fr : Nat → Nat} {t : Value} {wr : World} {R : List Int} (h : Gathers w zs low fr zs.length t wr R) : Ans w zs low fr true (.returned t) wr := by
  obtain ⟨ao, cap, rfl, hr⟩ := owned_row h.own
  exact ⟨R, ao, cap, rfl, hr, ⟨h.len, h.best⟩, h.below⟩

theorem own_kept {wr w1 : World} {base : Nat} {t : Value} {n : Nat} {xs : List Value} (h : wr.ownsRow base 3 1 t n xs) (b : Below wr.heap.size wr w1) : w1.ownsRow base 3 1 t n xs := by
  obtain ⟨hl, h2⟩ := h
  refine ⟨hl, ?_⟩
  rcases h2 with e | ⟨g, cap, cur, e, hg, hh, r⟩
  · exact .inl e
  · refine .inr ⟨g, cap, cur, e, hg, ?_, r⟩
    have : g < wr.heap.size := lt_of_block hh
    rw [b.block g this]; exact hh

/-- the cells of a part of a row -/
theorem part_cells {w : World} {b off f n : Nat} {z : List Int} (h : f + n ≤ z.length) (hc : ∀ j, j < z.length → w.cell? ⟨b, off + j, none⟩ = some (.int .i64 (z.getD j 0))) :
    ∀ j, j < (sub z f n).length → w.cell? ⟨b, off + f + j, none⟩ = some (.int .i64 ((sub z f n).getD j 0)) := fun j hj => by
  rw [sub_len z f n h] at hj
  rw [sub_getD z f n j hj, Nat.add_assoc]
  exact hc (f + j) (by omega)

theorem part_sorted (b off cp f n : Nat) (z : List Int) (w : World) (h : f + n ≤ z.length) (hn : 0 < n) (hl : z.length ≤ 4294967296) (hc : ∀ j, j < z.length → w.cell? ⟨b, off + j, none⟩ = some (.int .i64 (z.getD j 0))) :
    Calls Try.prog 18 #[.func (.func 28) #[] #[.pointer (some ⟨w.heap.size, 0, none⟩)]] (w.alloc (.cells #[.slice (some ⟨b, off + f, none⟩) n cp] 22)) fun e W' => ∃ g cp', e = .returned (.slice (some ⟨g, 0, none⟩) n cp') ∧ (∀ j, j < n → W'.cell? ⟨g, j, none⟩ = some (.int .i64 ((srt (sub z f n)).getD j 0))) ∧ Below w.heap.size w W' := by
  have hs := sub_len z f n h
  have hb := block_lt (hc 0 (by omega))
  have b1 : Below w.heap.size w (w.alloc (.cells #[.slice (some ⟨b, off + f, none⟩) n cp] 22)) := balloc (Below.refl _ _) _
  refine (sorted_any w.heap.size b (off + f) cp (sub z f n) (by omega) _ ?_ (by simp; exact Nat.lt_succ_of_lt hb) (fun j hj => ?_) (by omega)).mono fun e W' ⟨g, cp', h1, h2, h3⟩ => ⟨g, cp', by rw [h1, hs], fun j hj => h2 j (by omega), bthen b1 h3⟩
  · rw [World.cell?_alloc_at _ _ _ _ rfl, hs]; rfl
  · exact (b1.cell (p := ⟨b, off + f + j, none⟩) hb).trans (part_cells h hc j hj)

set_option maxHeartbeats 3200000 in
theorem bslide_true (ao : Option Addr) (cap : Nat) (zs : List Int) (v : Int) (w : World) (hz : Row w ao zs) (hcap : zs.length ≤ cap) (hcap2 : cap ≤ 4294967296) (hv : 1 ≤ v) (hv2 : v ≤ 9223372036854775807) :
    Calls Try.prog 10 #[.slice ao zs.length cap, .int .i64 v, .bool true] w (Ans w zs true (frL v) true) := by
  obtain ⟨i0, hi, hz0, hz1, hz2⟩ := info_parts Try.info3
  have hk : zs.length ≤ 4294967296 := by omega
  go_enter Try.func10, Try.ntmps10
  go_wp2
  go_loopw [7, 13] (fun t i wr => ∃ k : Nat, k ≤ zs.length ∧ i = .int .i64 k ∧ ∃ R, Gathers w zs true (frL v) k t wr R) (fun _ i _ => zs.length - (intOf i).toNat)
  case atStart => exact ⟨0, Nat.zero_le _, rfl, [], Gathers.start w zs true (frL v)⟩
  case round =>
    obtain ⟨k, hkn, rfl, R, hG⟩ := hrel
    by_cases hlt : k < zs.length
    · obtain ⟨g, off, rfl, hcells⟩ : ∃ g off, ao = some ⟨g, off, none⟩ ∧ ∀ j, j < zs.length → w.cell? ⟨g, off + j, none⟩ = some (.int .i64 (zs.getD j 0)) := by
        rcases hz with e | e
        · subst e; simp at hlt
        · exact e
      have hcw : ∀ j, j < zs.length → wr.cell? ⟨g, off + j, none⟩ = some (.int .i64 (zs.getD j 0)) := fun j hj => (hG.below.cell (p := ⟨g, off + j, none⟩) (block_lt (hcells j hj))).trans (hcells j hj)
      have hRl := hG.len
      obtain ⟨f, hf⟩ : ∃ f, f = frL v k := ⟨_, rfl⟩
      have hfk : f ≤ k := by rw [hf]; exact frL_le v k hv
      obtain ⟨m, hnn⟩ : ∃ m, k + 1 - f = m + 1 := ⟨k - f, by omega⟩
      have hfn : f + (m + 1) ≤ zs.length := by omega
      have hbest : Best true (fun j => zs.getD j 0) (frL v k) (k + 1) ((srt (sub zs f (m + 1))).getD 0 0) := by
        have := best_first hfn (Nat.succ_pos _)
        
        rw [show f + (m + 1) = k + 1 by omega] at this
        rw [← hf]; exact this
      clear hcells hz
      by_cases hkv : v ≤ (k : Int)
      · have hf2 : (k : Int) - v + 1 = (f : Int) := by rw [hf]; unfold frL; omega
        have HF : Hid (f = frL v k) := hf
        clear hf
        go_wp2_with (first
          | (go_at_call 19; refine (values_any _ _ _ _).mono ?_; rintro e w' ⟨rfl, rfl⟩)
          | (go_at_call 18; refine (part_sorted g off _ f (m + 1) zs wr hfn (Nat.succ_pos _) hk hcw).mono ?_; rintro e w1 ⟨g1, cp1, rfl, hcs, b1⟩; have cx := hcs 0 (by omega); have ho1 := own_kept hG.own b1; generalize hxx : (srt (sub zs f (m + 1))).getD 0 0 = x at cx hbest; clear hcs hxx)
          | (at_builtin; refine wpList_append_own _ rfl (.tmp 33) (.tmp 37) 22 rfl w.heap.size 3 i0 (.int .i64 0) 1 8 Try.underlying22 hi hz0 hz1 hz2 rfl (by decide) _ _ _ rfl (ho1.alloc _) ⟨w1.heap.size, 0, none⟩ 1 1 [.int .i64 x] rfl rfl (cell_one_new _ _ _) (by simp [Value.oneCell']) (by unfold maxLen; omega) (by omega) (by have := hG.below.size; have := b1.size; simp; omega) ?_; intro t' w2 hown' hgrow _; have hS := hG.step hbest b1 hown' hgrow; clear hown' hgrow ho1))
        go_roundw
        case rel => exact ⟨k + 1, by omega, by go_num, _, hS⟩
        case measure => simp [intOf]; omega
      · have hf0 : f = 0 := by rw [hf]; unfold frL; omega
        subst hf0
        obtain rfl : m = k := by omega
        clear hf hnn
        go_wp2_with (first
          | (go_at_call 19; refine (values_any _ _ _ _).mono ?_; rintro e w' ⟨rfl, rfl⟩)
          | (go_at_call 18; refine (part_sorted g off _ 0 (m + 1) zs wr hfn (Nat.succ_pos _) hk hcw).mono ?_; rintro e w1 ⟨g1, cp1, rfl, hcs, b1⟩; have cx := hcs 0 (by omega); have ho1 := own_kept hG.own b1; generalize hxx : (srt (sub zs 0 (m + 1))).getD 0 0 = x at cx hbest; clear hcs hxx)
          | (at_builtin; refine wpList_append_own _ rfl (.tmp 33) (.tmp 37) 22 rfl w.heap.size 3 i0 (.int .i64 0) 1 8 Try.underlying22 hi hz0 hz1 hz2 rfl (by decide) _ _ _ rfl (ho1.alloc _) ⟨w1.heap.size, 0, none⟩ 1 1 [.int .i64 x] rfl rfl (cell_one_new _ _ _) (by simp [Value.oneCell']) (by unfold maxLen; omega) (by omega) (by have := hG.below.size; have := b1.size; simp; omega) ?_; intro t' w2 hown' hgrow _; have hS := hG.step hbest b1 hown' hgrow; clear hown' hgrow ho1))
        go_roundw
        case rel => exact ⟨m + 1, by omega, by go_num, _, hS⟩
        case measure => simp [intOf]; omega
    · have e : k = zs.length := by omega
      subst e
      go_wp2
      go_ret
      exact hG.done

set_option maxHeartbeats 3200000 in
theorem bslide_false (ao : Option Addr) (cap : Nat) (zs : List Int) (v : Int) (w : World) (hz : Row w ao zs) (hcap : zs.length ≤ cap) (hcap2 : cap ≤ 4294967296) (hv : 1 ≤ v) (hv2 : v ≤ 9223372036854775807) :
    Calls Try.prog 10 #[.slice ao zs.length cap, .int .i64 v, .bool false] w (Ans w zs false (frL v) true) := by
  obtain ⟨i0, hi, hz0, hz1, hz2⟩ := info_parts Try.info3
  have hk : zs.length ≤ 4294967296 := by omega
  go_enter Try.func10, Try.ntmps10
  go_wp2
  go_loopw [7, 13] (fun t i wr => ∃ k : Nat, k ≤ zs.length ∧ i = .int .i64 k ∧ ∃ R, Gathers w zs false (frL v) k t wr R) (fun _ i _ => zs.length - (intOf i).toNat)
  case atStart => exact ⟨0, Nat.zero_le _, rfl, [], Gathers.start w zs false (frL v)⟩
  case round =>
    obtain ⟨k, hkn, rfl, R, hG⟩ := hrel
    by_cases hlt : k < zs.length
    · obtain ⟨g, off, rfl, hcells⟩ : ∃ g off, ao = some ⟨g, off, none⟩ ∧ ∀ j, j < zs.length → w.cell? ⟨g, off + j, none⟩ = some (.int .i64 (zs.getD j 0)) := by
        rcases hz with e | e
        · subst e; simp at hlt
        · exact e
      have hcw : ∀ j, j < zs.length → wr.cell? ⟨g, off + j, none⟩ = some (.int .i64 (zs.getD j 0)) := fun j hj => (hG.below.cell (p := ⟨g, off + j, none⟩) (block_lt (hcells j hj))).trans (hcells j hj)
      have hRl := hG.len
      obtain ⟨f, hf⟩ : ∃ f, f = frL v k := ⟨_, rfl⟩
      have hfk : f ≤ k := by rw [hf]; exact frL_le v k hv
      obtain ⟨m, hnn⟩ : ∃ m, k + 1 - f = m + 1 := ⟨k - f, by omega⟩
      have hfn : f + (m + 1) ≤ zs.length := by omega
      have hbest : Best false (fun j => zs.getD j 0) (frL v k) (k + 1) ((srt (sub zs f (m + 1))).getD m 0) := by
        have := best_last hfn (Nat.succ_pos _)
        rw [Nat.add_sub_cancel] at this
        rw [show f + (m + 1) = k + 1 by omega] at this
        rw [← hf]; exact this
      clear hcells hz
      by_cases hkv : v ≤ (k : Int)
      · have hf2 : (k : Int) - v + 1 = (f : Int) := by rw [hf]; unfold frL; omega
        have HF : Hid (f = frL v k) := hf
        clear hf
        go_wp2_with (first
          | (go_at_call 19; refine (values_any _ _ _ _).mono ?_; rintro e w' ⟨rfl, rfl⟩)
          | (go_at_call 18; refine (part_sorted g off _ f (m + 1) zs wr hfn (Nat.succ_pos _) hk hcw).mono ?_; rintro e w1 ⟨g1, cp1, rfl, hcs, b1⟩; have cx := hcs m (by omega); have ho1 := own_kept hG.own b1; generalize hxx : (srt (sub zs f (m + 1))).getD m 0 = x at cx hbest; clear hcs hxx)
          | (at_builtin; refine wpList_append_own _ rfl (.tmp 39) (.tmp 46) 22 rfl w.heap.size 3 i0 (.int .i64 0) 1 8 Try.underlying22 hi hz0 hz1 hz2 rfl (by decide) _ _ _ rfl (ho1.alloc _) ⟨w1.heap.size, 0, none⟩ 1 1 [.int .i64 x] rfl rfl (cell_one_new _ _ _) (by simp [Value.oneCell']) (by unfold maxLen; omega) (by omega) (by have := hG.below.size; have := b1.size; simp; omega) ?_; intro t' w2 hown' hgrow _; have hS := hG.step hbest b1 hown' hgrow; clear hown' hgrow ho1))
        go_roundw
        case rel => exact ⟨k + 1, by omega, by go_num, _, hS⟩
        case measure => simp [intOf]; omega
      · have hf0 : f = 0 := by rw [hf]; unfold frL; omega
        subst hf0
        obtain rfl : m = k := by omega
        clear hf hnn
        go_wp2_with (first
          | (go_at_call 19; refine (values_any _ _ _ _).mono ?_; rintro e w' ⟨rfl, rfl⟩)
          | (go_at_call 18; refine (part_sorted g off _ 0 (m + 1) zs wr hfn (Nat.succ_pos _) hk hcw).mono ?_; rintro e w1 ⟨g1, cp1, rfl, hcs, b1⟩; have cx := hcs m (by omega); have ho1 := own_kept hG.own b1; generalize hxx : (srt (sub zs 0 (m + 1))).getD m 0 = x at cx hbest; clear hcs hxx)
          | (at_builtin; refine wpList_append_own _ rfl (.tmp 39) (.tmp 46) 22 rfl w.heap.size 3 i0 (.int .i64 0) 1 8 Try.underlying22 hi hz0 hz1 hz2 rfl (by decide) _ _ _ rfl (ho1.alloc _) ⟨w1.heap.size, 0, none⟩ 1 1 [.int .i64 x] rfl rfl (cell_one_new _ _ _) (by simp [Value.oneCell']) (by unfold maxLen; omega) (by omega) (by have := hG.below.size; have := b1.size; simp; omega) ?_; intro t' w2 hown' hgrow _; have hS := hG.step hbest b1 hown' hgrow; clear hown' hgrow ho1))
        go_roundw
        case rel => exact ⟨m + 1, by omega, by go_num, _, hS⟩
        case measure => simp [intOf]; omega
    · have e : k = zs.length := by omega
      subst e
      go_wp2
      go_ret
      exact hG.done

set_option maxHeartbeats 800000 in
theorem bslide_none (ao : Option Addr) (cap : Nat) (zs : List Int) (v : Int) (low : Bool) (w : World) (hv : v < 1) :
    Calls Try.prog 10 #[.slice ao zs.length cap, .int .i64 v, .bool low] w (Ans w zs low (frL v) false) := by
  go_enter Try.func10, Try.ntmps10
  go_wp2
  go_loopw [7, 13] (fun t i wr => t = .slice none 0 0 ∧ i = .int .i64 0 ∧ wr = w) (fun _ i _ => zs.length - (intOf i).toNat)
  case atStart => exact ⟨rfl, rfl, rfl⟩
  case round =>
    obtain ⟨rfl, rfl, rfl⟩ := hrel
    by_cases hlt : 0 < zs.length
    · go_wp2
      go_ret
      exact ans_none rfl (Below.refl _ _)
    · go_wp2
      go_ret
      exact ans_none rfl (Below.refl _ _)

theorem bslide_ans (ao : Option Addr) (cap : Nat) (zs : List Int) (v : Int) (low : Bool) (w : World) (hz : Row w ao zs) (hcap : zs.length ≤ cap) (hcap2 : cap ≤ 4294967296) (hv2 : v ≤ 9223372036854775807) :
    Calls Try.prog 10 #[.slice ao zs.length cap, .int .i64 v, .bool low] w (Ans w zs low (frL v) (decide (1 ≤ v))) := by
  by_cases h : 1 ≤ v
  · rw [decide_eq_true h]
    cases low
    · exact bslide_false ao cap zs v w hz hcap hcap2 h hv2
    · exact bslide_true ao cap zs v w hz hcap hcap2 h hv2
  · rw [decide_eq_false h]
    exact bslide_none ao cap zs v low w (by omega)

theorem part_min (b off cp f n : Nat) (z : List Int) (w : World) (h : f + n ≤ z.length) (hn : 0 < n) (hl : z.length ≤ 4294967296) (hc : ∀ j, j < z.length → w.cell? ⟨b, off + j, none⟩ = some (.int .i64 (z.getD j 0))) :
    Calls Try.prog 22 #[.slice (some ⟨b, off + f, none⟩) n cp] w fun e w' => e = .returned (.int .i64 (Lib.minOf (sub z f n))) ∧ w' = w := by
  have hs := sub_len z f n h
  refine (Try.slices_Min_int b (off + f) n cp (sub z f n) w hn (by omega) (by omega) (part_cells h hc)).mono fun e w' ⟨he, hw⟩ => ⟨?_, hw⟩
  rw [he, List.take_of_length_le (by omega)]

set_option maxHeartbeats 3200000 in
theorem bbase_some (ao : Option Addr) (cap : Nat) (zs : List Int) (u v : Int) (w : World) (hz : Row w ao zs) (hcap : zs.length ≤ cap) (hcap2 : cap ≤ 4294967296) (hu : 1 ≤ u) (hu2 : u ≤ 9223372036854775807) (hv : 1 ≤ v) (hv2 : v ≤ 9223372036854775807) :
    Calls Try.prog 13 #[.slice ao zs.length cap, .int .i64 u, .int .i64 v] w (Ans w zs true (frB u v) true) := by
  obtain ⟨i0, hi, hz0, hz1, hz2⟩ := info_parts Try.info3
  have hk : zs.length ≤ 4294967296 := by omega
  have d1 : decide (u < 1) = false := decide_eq_false (by omega)
  have d2 : decide (v < 1) = false := decide_eq_false (by omega)
  go_enter Try.func13, Try.ntmps13
  go_wp2
  go_loopw [7, 13] (fun t i wr => ∃ k : Nat, k ≤ zs.length ∧ i = .int .i64 k ∧ ∃ R, Gathers w zs true (frB u v) k t wr R) (fun _ i _ => zs.length - (intOf i).toNat)
  case atStart => exact ⟨0, Nat.zero_le _, rfl, [], Gathers.start w zs true (frB u v)⟩
  case round =>
    obtain ⟨k, hkn, rfl, R, hG⟩ := hrel
    by_cases hlt : k < zs.length
    · obtain ⟨g, off, rfl, hcells⟩ : ∃ g off, ao = some ⟨g, off, none⟩ ∧ ∀ j, j < zs.length → w.cell? ⟨g, off + j, none⟩ = some (.int .i64 (zs.getD j 0)) := by
        rcases hz with e | e
        · subst e; simp at hlt
        · exact e
      have hcw : ∀ j, j < zs.length → wr.cell? ⟨g, off + j, none⟩ = some (.int .i64 (zs.getD j 0)) := fun j hj => (hG.below.cell (p := ⟨g, off + j, none⟩) (block_lt (hcells j hj))).trans (hcells j hj)
      have hRl := hG.len
      have hfe := frB_eq u v k hu
      obtain ⟨f, hf⟩ : ∃ f, f = frB u v k := ⟨_, rfl⟩
      have hfk : f ≤ k := by rw [hf]; exact frB_le u v k hu hv
      obtain ⟨m, hnn⟩ : ∃ m, k + 1 - f = m + 1 := ⟨k - f, by omega⟩
      have hfn : f + (m + 1) ≤ zs.length := by omega
      have hbest : Best true (fun j => zs.getD j 0) (frB u v k) (k + 1) (Lib.minOf (sub zs f (m + 1))) := by
        have := best_minOf hfn (Nat.succ_pos _)
        rw [show f + (m + 1) = k + 1 by omega] at this
        rw [← hf]; exact this
      have ho1 := hG.own
      rw [← hf] at hfe
      have hq0 : 0 ≤ (k : Int) / u := Int.ediv_nonneg (by omega) (by omega)
      have hq1 : (k : Int) / u ≤ k := Int.ediv_le_self _ (by omega)
      obtain ⟨q, hq⟩ : ∃ q, (k : Int) / u = q := ⟨_, rfl⟩
      rw [hq] at hfe hq0 hq1
      have hmin := fun cp => part_min g off cp f (m + 1) zs wr hfn (Nat.succ_pos _) hk hcw
      generalize Lib.minOf (sub zs f (m + 1)) = x at hbest hmin
      clear hcells hz
      by_cases hkv : v ≤ q
      · have hm : (q - v + 1) * u = (f : Int) := by rw [hfe, Int.max_eq_left (by omega), show q - (v - 1) = q - v + 1 by omega]
        have HF : Hid (f = frB u v k) := hf
        clear hf hfe
        go_wp2_with (first
          | (go_at_call 22; refine (hmin _).mono ?_; rintro e w1 ⟨rfl, rfl⟩)
          | (at_builtin; refine wpList_append_own _ rfl (.tmp 34) (.tmp 41) 22 rfl w.heap.size 3 i0 (.int .i64 0) 1 8 Try.underlying22 hi hz0 hz1 hz2 rfl (by decide) _ _ _ rfl (ho1.alloc _) ⟨w1.heap.size, 0, none⟩ 1 1 [.int .i64 x] rfl rfl (cell_one_new _ _ _) (by simp [Value.oneCell']) (by unfold maxLen; omega) (by omega) (by have := hG.below.size; simp; omega) ?_; intro t' w2 hown' hgrow _; have hS := hG.step hbest (Below.refl _ _) hown' hgrow; clear hown' hgrow ho1))
        go_roundw
        case rel => exact ⟨k + 1, by omega, by go_num, _, hS⟩
        case measure => simp [intOf]; omega
      · have hf0 : f = 0 := by
          rw [Int.max_eq_right (by omega), Int.zero_mul] at hfe
          omega
        subst hf0
        obtain rfl : m = k := by omega
        clear hf hnn hfe
        go_wp2_with (first
          | (go_at_call 22; refine (hmin _).mono ?_; rintro e w1 ⟨rfl, rfl⟩)
          | (at_builtin; refine wpList_append_own _ rfl (.tmp 34) (.tmp 41) 22 rfl w.heap.size 3 i0 (.int .i64 0) 1 8 Try.underlying22 hi hz0 hz1 hz2 rfl (by decide) _ _ _ rfl (ho1.alloc _) ⟨w1.heap.size, 0, none⟩ 1 1 [.int .i64 x] rfl rfl (cell_one_new _ _ _) (by simp [Value.oneCell']) (by unfold maxLen; omega) (by omega) (by have := hG.below.size; simp; omega) ?_; intro t' w2 hown' hgrow _; have hS := hG.step hbest (Below.refl _ _) hown' hgrow; clear hown' hgrow ho1))
        go_roundw
        case rel => exact ⟨m + 1, by omega, by go_num, _, hS⟩
        case measure => simp [intOf]; omega
    · have e : k = zs.length := by omega
      subst e
      go_wp2
      go_ret
      exact hG.done

set_option maxHeartbeats 800000 in
theorem bbase_none (ao : Option Addr) (cap : Nat) (zs : List Int) (u v : Int) (w : World) (hv : u < 1 ∨ v < 1) :
    Calls Try.prog 13 #[.slice ao zs.length cap, .int .i64 u, .int .i64 v] w (Ans w zs true (frB u v) false) := by
  by_cases hu : u < 1
  · have d1 : decide (u < 1) = true := decide_eq_true hu
    go_enter Try.func13, Try.ntmps13
    go_wp2
    go_loopw [7, 13] (fun t i wr => t = .slice none 0 0 ∧ i = .int .i64 0 ∧ wr = w) (fun _ i _ => zs.length - (intOf i).toNat)
    case atStart => exact ⟨rfl, rfl, rfl⟩
    case round =>
      obtain ⟨rfl, rfl, rfl⟩ := hrel
      by_cases hlt : 0 < zs.length
      · go_wp2
        go_ret
        exact ans_none rfl (Below.refl _ _)
      · go_wp2
        go_ret
        exact ans_none rfl (Below.refl _ _)
  · have d1 : decide (u < 1) = false := decide_eq_false hu
    have hv' : v < 1 := by omega
    have d2 : decide (v < 1) = true := decide_eq_true hv'
    go_enter Try.func13, Try.ntmps13
    go_wp2
    go_loopw [7, 13] (fun t i wr => t = .slice none 0 0 ∧ i = .int .i64 0 ∧ wr = w) (fun _ i _ => zs.length - (intOf i).toNat)
    case atStart => exact ⟨rfl, rfl, rfl⟩
    case round =>
      obtain ⟨rfl, rfl, rfl⟩ := hrel
      by_cases hlt : 0 < zs.length
      · go_wp2
        go_ret
        exact ans_none rfl (Below.refl _ _)
      · go_wp2
        go_ret
        exact ans_none rfl (Below.refl _ _)

theorem bbase_ans (ao : Option Addr) (cap : Nat) (zs : List Int) (u v : Int) (w : World) (hz : Row w ao zs) (hcap : zs.length ≤ cap) (hcap2 : cap ≤ 4294967296) (hu2 : u ≤ 9223372036854775807) (hv2 : v ≤ 9223372036854775807) :
    Calls Try.prog 13 #[.slice ao zs.length cap, .int .i64 u, .int .i64 v] w (Ans w zs true (frB u v) (decide (1 ≤ u ∧ 1 ≤ v))) := by
  by_cases h : 1 ≤ u ∧ 1 ≤ v
  · rw [decide_eq_true h]
    exact bbase_some ao cap zs u v w hz hcap hcap2 h.1 hu2 h.2 hv2
  · rw [decide_eq_false h]
    exact bbase_none ao cap zs u v w (by omega)

end Go.Proofs.Ytdnhanaeamnddaa
