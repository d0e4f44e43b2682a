/- PROVED: what mean.heaviest answers. CONDITIONS: none beyond each theorem's own. -/
import Derived.Test.YtdbpgcaodgkcjaaLo
import Derived.Maps.AppendAt
namespace Go.Proofs.Ytdbpgcaodgkcjaa
open Go.RowKit
set_option linter.unusedVariables false

theorem Pr.block {w w2 : World} {O n : Nat} {F G : Nat → Int} (h : Pr w O n F G) (e : w2.heap[O]? = w.heap[O]?) : Pr w2 O n F G :=
  ⟨fun v hv => ⟨(World.cell?_of_block (a := ⟨O, v * 2, none⟩) e).trans (h.c v hv).1, (World.cell?_of_block (a := ⟨O, v * 2 + 1, none⟩) e).trans (h.c v hv).2⟩,
   fun v hv => ⟨(World.frozen?_of_block (a := ⟨O, v * 2, none⟩) e).trans (h.fz v hv).1, (World.frozen?_of_block (a := ⟨O, v * 2 + 1, none⟩) e).trans (h.fz v hv).2⟩⟩

/-- the rows' own slices -/
def rsl (O : Nat → Nat) (n k : Nat) : List Value := (List.range k).map fun i => .slice (some ⟨O i, 0, none⟩) n n
theorem rsl_len (O : Nat → Nat) (n k : Nat) : (rsl O n k).length = k := by simp [rsl]
def adO (O : Nat → Nat) (k X : Nat) : Nat → Nat := fun i => if i = k then X else O i
theorem adO_at (O : Nat → Nat) (k X : Nat) : adO O k X k = X := if_pos rfl
theorem adO_lt (O : Nat → Nat) (k X : Nat) {i : Nat} (h : i < k) : adO O k X i = O i := if_neg (by omega)
theorem rsl_succ (O : Nat → Nat) (n k X : Nat) : rsl (adO O k X) n (k + 1) = rsl O n k ++ [.slice (some ⟨X, 0, none⟩) n n] := by
  unfold rsl
  rw [List.range_succ, List.map_append]
  simp only [List.map_cons, List.map_nil, adO_at]
  congr 1
  refine List.map_congr_left fun i hi => ?_
  rw [adO_lt O k X (List.mem_range.1 hi)]

/-- k rows, gathered in a row of the call's own -/
structure Rws (w0 : World) (es : List Eg) (n k : Nat) (O : Nat → Nat) (t : Value) (wr : World) : Prop where
  own : wr.ownsRow w0.heap.size 55 1 t k (rsl O n k)
  row : ∀ i, i < k → Er wr (O i) n (tb es i)
  ap : ∀ i, i < k → O i < wr.heap.size ∧ t.ownBlock ≠ some (O i)
  below : Below w0.heap.size w0 wr
theorem own_any {wr w1 : World} {base e s : Nat} {t : Value} {n : Nat} {xs : List Value} (h : wr.ownsRow base e s t n xs) (b : Below wr.heap.size wr w1) : w1.ownsRow base e s t n xs := by
  obtain ⟨hl, h2⟩ := h
  refine ⟨hl, ?_⟩
  rcases h2 with e | ⟨g, cap, cur, e, hg, hh, r⟩
  · exact .inl e
  · refine .inr ⟨g, cap, cur, e, hg, ?_, r⟩
    have : g < wr.heap.size := lt_of_block hh
    rw [b.block g this]; exact hh
theorem Rws.kept {w0 : World} {es : List Eg} {n k : Nat} {O : Nat → Nat} {t : Value} {wr w' : World} (h : Rws w0 es n k O t wr) (b : Below wr.heap.size wr w') : Rws w0 es n k O t w' :=
  ⟨own_any h.own b, fun i hi => (h.row i hi).kept b, fun i hi => ⟨Nat.lt_of_lt_of_le (h.ap i hi).1 b.size, (h.ap i hi).2⟩, h.below.trans (b.mono h.below.size)⟩
/-- one row more -/
theorem Rws.next {w0 : World} {es : List Eg} {n k : Nat} {O : Nat → Nat} {t t' : Value} {w1 w2 : World} {X : Nat} (h : Rws w0 es n k O t w1) (hX : X < w1.heap.size) (hE : Er w1 X n (tb es k)) (hXt : t.ownBlock ≠ some X) {o : Obj}
    (ho : w2.ownsRow w0.heap.size 55 1 t' (k + 1) (rsl O n k ++ [.slice (some ⟨X, 0, none⟩) n n])) (hg : (w1.alloc o).grownBy w2 t.ownBlock) (hat : t'.ownBlock = t.ownBlock ∨ t'.ownBlock = some (w1.alloc o).heap.size) : Rws w0 es n (k + 1) (adO O k X) t' w2 := by
  have hsz : (w1.alloc o).heap.size = w1.heap.size + 1 := by simp
  have blk : ∀ B, B < w1.heap.size → t.ownBlock ≠ some B → w2.heap[B]? = w1.heap[B]? := fun B hB hn => by
    rw [hg.block B (by omega) (fun q => hn q.symm)]
    exact (balloc (Below.refl w1.heap.size w1) o).block B hB
  have each : ∀ i, i < k + 1 → (adO O k X i < w1.heap.size ∧ t.ownBlock ≠ some (adO O k X i)) ∧ Er w1 (adO O k X i) n (tb es i) := fun i hi => by
    rcases Nat.lt_succ_iff_lt_or_eq.1 hi with hi | rfl
    · rw [adO_lt O k X hi]; exact ⟨h.ap i hi, h.row i hi⟩
    · rw [adO_at]; exact ⟨⟨hX, hXt⟩, hE⟩
  refine ⟨by rw [rsl_succ]; exact ho, fun i hi => ?_, fun i hi => ?_, ?_⟩
  · obtain ⟨⟨a1, a2⟩, a3⟩ := each i hi
    exact Pr.block a3 (blk _ a1 a2)
  · obtain ⟨⟨a1, a2⟩, a3⟩ := each i hi
    refine ⟨?_, ?_⟩
    · have := hg.size; omega
    · rcases hat with q | q
      · rw [q]; exact a2
      · rw [q]; intro q; injection q with q; omega
  · have b1 : Below w0.heap.size w0 (w1.alloc o) := h.below.alloc h.below.size o
    exact b1.grown hg b1.size (fun q hq => (h.own.lt q hq).1)

/-- all rows, to be read -/
structure Tbl (w : World) (g c n : Nat) (O : Nat → Nat) (es : List Eg) : Prop where
  cap : n + 1 ≤ c
  top : ∀ i, i ≤ n → w.cell? ⟨g, i, none⟩ = some (.slice (some ⟨O i, 0, none⟩) n n)
  row : ∀ i, i ≤ n → Er w (O i) n (tb es i)
theorem Tbl.kept {w w' : World} {g c n : Nat} {O : Nat → Nat} {es : List Eg} (h : Tbl w g c n O es) (b : Below w.heap.size w w') : Tbl w' g c n O es :=
  ⟨h.cap, fun i hi => (b.cell (p := ⟨g, i, none⟩) (block_lt (h.top i hi))).trans (h.top i hi), fun i hi => (h.row i hi).kept b⟩
theorem Tbl.alloc {w : World} {g c n : Nat} {O : Nat → Nat} {es : List Eg} (h : Tbl w g c n O es) (o : Obj) : Tbl (w.alloc o) g c n O es := h.kept (balloc (Below.refl _ _) o)
theorem Tbl.drewN {w : World} {g c n : Nat} {O : Nat → Nat} {es : List Eg} (h : Tbl w g c n O es) (q : Nat) : Tbl (w.drewN q) g c n O es := h.kept (below_drewN (Below.refl _ _) q)
theorem Rws.tbl {w0 : World} {es : List Eg} {n : Nat} {O : Nat → Nat} {t : Value} {wr : World} (h : Rws w0 es n (n + 1) O t wr) : ∃ g c, t = .slice (some ⟨g, 0, none⟩) (n + 1) c ∧ Tbl wr g c n O es := by
  obtain ⟨hl, ⟨_, e2⟩ | ⟨g, cap, cur, e, hg, hh, hc, _, _, htk⟩⟩ := h.own
  · omega
  · refine ⟨g, cap, e, hc, fun i hi => ?_, fun i hi => h.row i (by omega)⟩
    have : (rsl O n (n + 1))[i]? = some (.slice (some ⟨O i, 0, none⟩) n n) := by simp [rsl, show i < n + 1 by omega]
    rw [← htk, List.getElem?_take_of_lt (by omega)] at this
    simp [World.cell?, hh]
    simpa using this

theorem Try.info55 : (Try.prog.info? 55).map (fun i => (i.zero, i.size, i.bytes)) = some (some (.slice none 0 0), 1, 24) := by kernel_rfl

set_option maxHeartbeats 3200000 in
theorem heaviest_any (n : Nat) (es : List Eg) (hG : Gph n es) (a : Option Addr) (cap m : Nat) (hm : es.length = m) (w : World) (hE : GRow w a es) :
    Calls Try.prog 20 #[.agg #[.int .i64 n, .slice a m cap]] w fun e w' => ∃ g c O, e = .returned (.slice (some ⟨g, 0, none⟩) (n + 1 : Nat) c) ∧ Tbl w' g c n O es ∧ Below w.heap.size w w' := by
  obtain ⟨i0, hi, hz0, hz1, hz2⟩ := info_parts Try.info55
  have n3 := hG.n3
  have hmk := made_ends n n3
  have B0 : Below w.heap.size w (w.alloc (.cells #[.int .i64 n, .slice a m cap] 24)) := balloc (Below.refl _ _) _
  have K := Gb.new w n a m cap
  have hE0 := hE.kept B0
  obtain ⟨w0, hw0⟩ : ∃ w0, w.alloc (.cells #[.int .i64 n, .slice a m cap] 24) = w0 := ⟨_, rfl⟩
  rw [hw0] at B0 K hE0
  have hlon : Hid (∀ (k b : Nat) (v : World), k ≤ 300 → GRow v a es → Er v b n (tb es k) → Calls Try.prog 28 #[.agg #[.int .i64 n, .slice a m cap], .slice (some ⟨b, 0, none⟩) n n] v fun e w' => ∃ O, e = .returned (.slice (some ⟨O, 0, none⟩) n n) ∧ v.heap.size ≤ O ∧ Er w' O n (tb es (k + 1)) ∧ O < w'.heap.size ∧ Below v.heap.size v w') := fun k b v hk h1 h2 => by
    refine (longer_any n es hG (tb es k) (fun u y h => by have := tb_range hG.wgt h; omega) a cap m hm b n v h1 h2).mono ?_
    rintro e w' ⟨O, q1, q2, q3, q4, q5⟩
    refine ⟨O, q1, q2, ?_, q4, q5⟩
    rw [← hm] at q3; exact q3
  have hst : Rws w0 es n 1 (fun _ => w0.heap.size) (.slice (some ⟨w0.heap.size + 1, 0, none⟩) 1 1) ((w0.alloc (.cells (madeCells #[.int .i64 0, .int .i64 0] (n * 2)) 60)).alloc (.cells #[.slice (some ⟨w0.heap.size, 0, none⟩) n n] 55)) := by
    have s1 : (w0.alloc (.cells (madeCells #[.int .i64 0, .int .i64 0] (n * 2)) 60)).heap.size = w0.heap.size + 1 := by simp
    refine ⟨?_, fun i hi => ?_, fun i hi => ⟨by simp; omega, by simp [Value.ownBlock]⟩, balloc (balloc (Below.refl _ _) _) _⟩
    · have := World.ownsRow_lit (base := w0.heap.size) (e := 55) (size := 1) (w0.alloc (.cells (madeCells #[.int .i64 0, .int .i64 0] (n * 2)) 60)) #[.slice (some ⟨w0.heap.size, 0, none⟩) n n] 1 (by omega) (by unfold maxLen; omega) rfl
      rw [s1] at this
      exact this
    · obtain rfl : i = 0 := by omega
      exact Pr.alloc (Pr.new w0 n) _
  clear hm hG hE
  have K1 := (K.alloc (.cells (madeCells #[.int .i64 0, .int .i64 0] (n * 2)) 60)).alloc (.cells #[.slice (some ⟨w0.heap.size, 0, none⟩) n n] 55)
  obtain ⟨W1, hW1⟩ : ∃ W1, (w0.alloc (.cells (madeCells #[.int .i64 0, .int .i64 0] (n * 2)) 60)).alloc (.cells #[.slice (some ⟨w0.heap.size, 0, none⟩) n n] 55) = W1 := ⟨_, rfl⟩
  rw [hW1] at hst K1
  obtain ⟨g0, g1⟩ := id K
  obtain ⟨k0, k1⟩ := id K1
  go_enter Try.func20, Try.ntmps20
  go_wp2
  clear g0 g1 k0 k1
  go_loopw [3, 4, 12] (fun r t i wr => ∃ k : Nat, k ≤ n ∧ i = .int .i64 k ∧ ∃ O : Nat → Nat, r = .slice (some ⟨O k, 0, none⟩) n n ∧ Rws w0 es n (k + 1) O t wr) (fun _ _ i _ => n - (intOf i).toNat)
  case atStart => exact ⟨0, Nat.zero_le _, rfl, _, rfl, hst⟩
  case round =>
    obtain ⟨k, hk, rfl, O, rfl, hR⟩ := hrel
    clear hst hW1 K1 hmk
    by_cases hlt : k < n
    · have hki : (k : Int) < (n : Int) := by omega
      have E1 := hE0.kept hR.below
      have K1 := K.kept hR.below
      have hrow := hR.row k (by omega)
      generalize O k = Ok at hrow ⊢
      obtain ⟨k0, k1⟩ := id K1
      have hown := hR.own
      go_wp2_with (first
        | (go_at_call 28; refine (hlon.out k Ok _ (by omega) E1 hrow).mono ?_; rintro e v1 ⟨X, rfl, hX0, hX1, hX2, bb⟩; have hXt : u4.ownBlock ≠ some X := (fun q => by have := (hR.own.lt X q).2; omega); replace hR := hR.kept bb; clear k0 k1 hown hrow; have hown := hR.own)
        | (at_builtin; refine wpList_append_own_at _ rfl _ _ 44 rfl w0.heap.size 55 i0 (.slice none 0 0) 1 24 Try.underlying44 hi hz0 hz1 hz2 rfl (by decide) _ _ _ rfl (own_any hown (balloc (Below.refl _ _) _)) ⟨v1.heap.size, 0, none⟩ 1 1 [.slice (some ⟨X, 0, none⟩) n n] rfl rfl (cell_one_new v1 _ 55) (by simp [Value.oneCell']) (by unfold maxLen; omega) (by omega) (by have := hR.below.size; simp; omega) ?_; intro t' w2 hown' hgrow _ hat; have hS := hR.next hX2 hX1 hXt hown' hgrow hat; clear hown' hgrow hown hat))
      go_wp2
      go_roundw
      case rel => exact ⟨k + 1, by omega, by go_num, _, by rw [adO_at], hS⟩
      case measure => simp [intOf]; omega
    · obtain rfl : k = n := by omega
      obtain ⟨g, c, rfl, hT⟩ := hR.tbl
      have hB := hR.below
      clear hR
      go_wp2
      go_ret
      exact ⟨g, c, O, rfl, hT, bthen B0 hB⟩

end Go.Proofs.Ytdbpgcaodgkcjaa
