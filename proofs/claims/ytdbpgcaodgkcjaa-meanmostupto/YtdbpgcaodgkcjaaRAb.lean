/- PROVED: what the document's own RAbove answers of a right graph. CONDITIONS: none beyond each theorem's own. -/
import Derived.Test.YtdbpgcaodgkcjaaHig
import Derived.Test.YtdbpgcaodgkcjaaQMo
import Derived.Test.YtdbpgcaodgkcjaaMn
namespace Go.Proofs.Ytdbpgcaodgkcjaa
open Go.RowKit
set_option linter.unusedVariables false

/-- one edge more, in a plain region -/
theorem Hb.plain {v wr : World} {O : Nat} {N : Int} {ao : Option Addr} {cp k : Nat} {L : List Ed} (hk : L.length = k) (h : Hb v wr O N ao cp L) (hk4 : k + 1 ≤ 4800) (f t x : Int) :
    ∃ g cap w2, (appe #[22, 22] 22 #[.slice ao k cp, .slice (some ⟨wr.heap.size, 0, none⟩) 1 1]).run Try.prog (wr.alloc (.cells #[.int .i64 f, .int .i64 t, .int .i64 x] 36)) = .ok (.slice (some ⟨g, 0, none⟩) (k + 1) cap) w2
      ∧ (∃ u, w2.cell? ⟨O, 1, none⟩ = some u) ∧ w2.frozen? ⟨O, 1, none⟩ = false ∧ Hb v (w2.setCell ⟨O, 1, none⟩ (.slice (some ⟨g, 0, none⟩) (k + 1) cap)) O N (some ⟨g, 0, none⟩) cap (L ++ [⟨f, t, x⟩]) := by
  subst hk
  obtain ⟨i0, hi, hz0, hz1, hz2⟩ := info_parts Try.info37
  obtain ⟨v', w2, hrun, hown, hgrow, _⟩ := run_append_own (P := Try.prog) (wr.alloc (.cells #[.int .i64 f, .int .i64 t, .int .i64 x] 36)) (O + 1) 22 22 36 i0 _ 3 24 Try.underlying22 hi hz0 hz1 hz2 rfl (by decide) _ _ _ (h.own.alloc _) ⟨wr.heap.size, 0, none⟩ 1 1 [.int .i64 f, .int .i64 t, .int .i64 x] rfl (cell_edge_new wr f t x) (by simp [Value.oneCell']) (by unfold maxLen; omega) (by omega) (by have := h.lt; simp; omega)
  obtain ⟨g, cap, rfl⟩ := own_succ hown
  have hlt : O < (wr.alloc (.cells #[.int .i64 f, .int .i64 t, .int .i64 x] 36)).heap.size := by have := h.lt; simp; omega
  have hne : some O ≠ Value.ownBlock (.slice ao L.length cp) := fun q => by have := (h.own.lt O q.symm).1; omega
  have ho : w2.heap[O]? = (wr.alloc (.cells #[.int .i64 f, .int .i64 t, .int .i64 x] 36)).heap[O]? := hgrow.block O hlt hne
  have h3 := h.kept (balloc (Below.refl _ _) (.cells #[.int .i64 f, .int .i64 t, .int .i64 x] 36))
  have c0 : w2.cell? ⟨O, 0, none⟩ = some (.int .i64 N) := (World.cell?_of_block (a := ⟨O, 0, none⟩) ho).trans h3.g
  have c1 : w2.cell? ⟨O, 1, none⟩ = some (.slice ao L.length cp) := (World.cell?_of_block (a := ⟨O, 1, none⟩) ho).trans h3.s
  have f1 : w2.frozen? ⟨O, 1, none⟩ = false := (World.frozen?_of_block (a := ⟨O, 1, none⟩) ho).trans h3.f
  have hl2 : (L ++ [(⟨f, t, x⟩ : Ed)]).length = L.length + 1 := by simp
  refine ⟨g, cap, w2, hrun, ⟨_, c1⟩, f1, ?_, ?_, ?_, ?_, ?_, ?_⟩
  · rw [World.cell?_setCell_other _ _ _ _ (by simp)]; exact c0
  · rw [hl2]; exact World.cell?_setCell_same _ _ _ c1
  · rw [World.frozen?_setCell]; exact f1
  · rw [hl2, flatE_append]
    exact own_block hown fun g' hg' _ => Below.heap_setCell _ _ _ _ (by show g' ≠ O; omega)
  · exact Below.setCell (h3.bel.grown hgrow (Nat.le_of_lt hlt) (fun q hq => by have := (h.own.lt q hq).1; omega)) (Nat.le_refl _) _
  · have := hgrow.size
    simp only [World.setCell, Array.size_modify]
    omega

/-- the first k of these edges as they lie there -/
def tk (fs : List Eg) (k : Nat) : List Ed := (fs.take k).map upE
theorem tk_len {fs : List Eg} {k : Nat} (h : k ≤ fs.length) : (tk fs k).length = k := by simp [tk]; omega
theorem tk_succ {fs : List Eg} {k : Nat} (h : k < fs.length) : tk fs (k + 1) = tk fs k ++ [upE (eg fs k)] := by
  unfold tk eg
  rw [List.take_add_one, List.getElem?_eq_getElem h, List.map_append, List.getD_eq_getElem?_getD, List.getElem?_eq_getElem h]
  rfl
theorem tk_all (fs : List Eg) : tk fs fs.length = fs.map upE := by unfold tk; rw [List.take_length]
theorem sc_eg {es : List Eg} {a b : Int} {j : Nat} (h : j < es.length) : eg (sc es a b) j = ⟨(eg es j).f, (eg es j).t, (eg es j).x * b - a⟩ := by
  unfold eg sc
  rw [List.getD_eq_getElem?_getD, List.getElem?_map, List.getD_eq_getElem?_getD, List.getElem?_eq_getElem h]
  rfl
theorem mul_range {x b : Int} (h : -1048576 ≤ x ∧ x ≤ 1048576) (h0 : 1 ≤ b) (h1 : b ≤ 300) : -314572800 ≤ x * b ∧ x * b ≤ 314572800 := by
  have a1 := mul_le_pos h.1 (show (0 : Int) ≤ b by omega)
  have a2 := mul_le_pos h.2 (show (0 : Int) ≤ b by omega)
  omega
theorem sc_gpb {n : Nat} {es : List Eg} (hG : Gph n es) {a b : Int} (h0 : 1 ≤ b) (h1 : b ≤ 300) (ha : -314573100 ≤ a ∧ a ≤ 314572800) : Gpb n (sc es a b) := by
  refine ⟨hG.n3, by rw [sc_len]; exact hG.m4, sc_inn hG.inn a b, fun e he => ?_⟩
  obtain ⟨d, hd, rfl⟩ := List.mem_map.1 he
  have := mul_range (hG.wgt d hd) h0 h1
  show -1073741824 ≤ d.x * b - a ∧ d.x * b - a ≤ 1073741824
  omega

attribute [local go_sem ↓] appe_whole

set_option maxHeartbeats 3200000 in
theorem rabove_any (n : Nat) (es : List Eg) (hG : Gph n es) (a : Option Addr) (cap m : Nat) (hm : es.length = m) (A Bq : Int) (h0 : 1 ≤ Bq) (h1 : Bq ≤ 300) (hA : -314573100 ≤ A ∧ A ≤ 314572800) (w : World) (hE : GRow w a es) :
    Calls Try.prog 18 #[.agg #[.int .i64 n, .slice a m cap], .int .i64 A, .int .i64 Bq] w fun e w' => ∃ t : Bool, e = .returned (.bool t) ∧ (t = true ↔ Abv es A Bq) ∧ Below w.heap.size w w' := by
  have m4 : m ≤ 4800 := by rw [← hm]; exact hG.m4
  have n3 := hG.n3
  have hq : Hid (∀ v ao cp, ERow v ao (tk (sc es A Bq) m) → Calls Try.prog 27 #[.agg #[.int .i64 n, .slice ao m cp]] v fun e w' => ∃ (x : Option Addr) (q c : Nat) (t : Bool), e = .returned (.tuple #[.slice x q c, .bool t]) ∧ (t = false ↔ Abv es A Bq) ∧ Below v.heap.size v w') := fun v ao cp h => by
    have hm2 : (sc es A Bq).length = m := by rw [sc_len]; exact hm
    rw [← hm2, tk_all] at h
    have := qmost_any n (sc es A Bq) (sc_gpb hG h0 h1 hA) ao cp v h
    rw [hm2] at this
    refine this.mono fun e w' ⟨hh, hb⟩ => ?_
    rcases hh with ⟨M, c, k, he, hc, hs⟩ | ⟨he, hs⟩
    · exact ⟨some ⟨M, 0, none⟩, n, c, true, he, ⟨fun q => by simp at q, fun q => absurd (mo_mst (sc_inn hG.inn A Bq) hs).noPos ((abv_sc es A Bq).1 q)⟩, hb⟩
    · exact ⟨none, 0, 0, false, he, ⟨fun _ => (abv_sc es A Bq).2 (mo_moves (sc_inn hG.inn A Bq) hs), fun _ => rfl⟩, hb⟩
  have hgh : Hid (Gph n es) := hG
  have hlm : Hid (es.length = m) := hm
  have hbq : Hid (1 ≤ Bq ∧ Bq ≤ 300 ∧ -314573100 ≤ A ∧ A ≤ 314572800) := ⟨h0, h1, hA⟩
  have B : Below w.heap.size w (w.alloc (.cells #[.int .i64 n, .slice a m cap] 24)) := balloc (Below.refl _ _) _
  have E := hE.kept B
  have K := Gb.new w n a m cap
  obtain ⟨w0, hw0⟩ : ∃ w0, w.alloc (.cells #[.int .i64 n, .slice a m cap] 24) = w0 := ⟨_, rfl⟩
  rw [hw0] at B E K
  have hst := Hb.start w0 (n : Int)
  obtain ⟨g0, g1⟩ := id K
  obtain ⟨g2, g3⟩ := id (K.alloc (.cells #[.int .i64 n, .slice none 0 0] 24))
  clear hE hG hm
  go_enter Try.func18, Try.ntmps18
  go_wp2
  clear g0 g1 g2 g3
  go_loopw [18] (fun i wr => ∃ (j : Nat) (ao : Option Addr) (cp : Nat), j ≤ m ∧ i = .int .i64 j ∧ Hb w0 wr w0.heap.size n ao cp (tk (sc es A Bq) j)) (fun i _ => m - (intOf i).toNat)
  case atStart => exact ⟨0, none, 0, Nat.zero_le _, rfl, hst⟩
  case round =>
    obtain ⟨j, ao, cp, hj, rfl, hH⟩ := hrel
    clear hst
    have hB := hH.bel
    by_cases hlt : j < m
    · have q1 := hlm.out
      have q2 := hbq.out
      have G := hgh.out
      have hx := G.wgt _ (eg_mem (es := es) (i := j) (by omega))
      have hxb := mul_range hx q2.1 q2.2.1
      obtain ⟨b, off, rfl, e1⟩ := (E.kept hB).at (by omega)
      obtain ⟨cx1, cy1, cz1⟩ := e1 j (by omega)
      have hjI : (j : Int) < (m : Int) := by omega
      have hnx := tk_succ (fs := sc es A Bq) (k := j) (by rw [sc_len]; omega)
      rw [sc_eg (by omega)] at hnx
      have hlj := tk_len (fs := sc es A Bq) (k := j) (by rw [sc_len]; omega)
      obtain ⟨⟨f, t, x⟩, he⟩ : ∃ e, eg es j = e := ⟨_, rfl⟩
      rw [he] at cx1 cy1 cz1 hxb hnx
      simp only at cx1 cy1 cz1 hxb
      obtain ⟨X1, hX1⟩ : ∃ X1, x * Bq = X1 := ⟨_, rfl⟩
      obtain ⟨X2, hX2⟩ : ∃ X2, X1 - A = X2 := ⟨_, rfl⟩
      replace hnx : Hid (tk (sc es A Bq) (j + 1) = tk (sc es A Bq) j ++ [⟨(f : Int), (t : Int), X2⟩]) := by rw [hnx]; simp only [upE]; rw [hX1, hX2]; rfl
      rw [hX1] at hxb
      have w1 : wrap64 (x * Bq) = X1 := by rw [hX1]; exact IntWalk.wrap64_in _ (by omega)
      have w2 : wrap64 (X1 - A) = X2 := by rw [← hX2]; exact IntWalk.wrap64_in _ (by omega)
      clear e1 q1 G he hx
      have x0 : (wr.alloc (.cells #[.int .i64 (f : Int), .int .i64 (t : Int), .int .i64 x] 36)).cell? ⟨wr.heap.size, 0, none⟩ = some (.int .i64 f) := by rw [World.cell?_alloc_at _ _ _ _ rfl]; rfl
      have x1 : (wr.alloc (.cells #[.int .i64 (f : Int), .int .i64 (t : Int), .int .i64 x] 36)).cell? ⟨wr.heap.size, 1, none⟩ = some (.int .i64 t) := by rw [World.cell?_alloc_at _ _ _ _ rfl]; rfl
      have x2 : (wr.alloc (.cells #[.int .i64 (f : Int), .int .i64 (t : Int), .int .i64 x] 36)).cell? ⟨wr.heap.size, 2, none⟩ = some (.int .i64 x) := by rw [World.cell?_alloc_at _ _ _ _ rfl]; rfl
      have hH3 := hH.kept (balloc (Below.refl _ _) (.cells #[.int .i64 (f : Int), .int .i64 (t : Int), .int .i64 x] 36))
      obtain ⟨W1, hW1⟩ : ∃ W1, wr.alloc (.cells #[.int .i64 (f : Int), .int .i64 (t : Int), .int .i64 x] 36) = W1 := ⟨_, rfl⟩
      rw [hW1] at x0 x1 x2 hH3
      obtain ⟨s0, s1, s2, _, _, _⟩ := id hH3
      rw [hlj] at s1
      obtain ⟨g, cap2, w2', hrun, ⟨u, r1⟩, r2, hN⟩ := hH3.plain hlj (by omega) (f : Int) (t : Int) X2
      replace hN : Hid (Hb w0 (w2'.setCell ⟨w0.heap.size, 1, none⟩ (.slice (some ⟨g, 0, none⟩) (j + 1) cap2)) w0.heap.size n (some ⟨g, 0, none⟩) cap2 (tk (sc es A Bq) (j + 1))) := by rw [hnx.out]; exact hN
      replace hX1 : Hid _ := hX1
      replace hX2 : Hid _ := hX2
      clear hH hH3 hnx hlj hB hxb q2 h0 h1 hA
      go_wp2
      go_roundw
      case rel => exact ⟨j + 1, some ⟨g, 0, none⟩, cap2, by omega, by go_num, hN.out⟩
      case measure => simp [intOf]; omega
    · obtain rfl : j = m := by omega
      have hr := hH.row
      have hlj := tk_len (fs := sc es A Bq) (k := j) (by rw [sc_len, hlm.out]; exact Nat.le_refl _)
      obtain ⟨s0, s1, _, _, _, _⟩ := id hH
      rw [hlj] at s1
      have hBw := bthen B hB
      have cq := hq.out wr ao cp hr
      clear hq hr hH
      go_wp2_with (go_at_call 27; refine cq.mono ?_; rintro e v1 ⟨xx, qq, cc, tt, rfl, ht, bb⟩; clear cq; replace hBw := bthen hBw bb; replace ht : Hid _ := ht)
      go_ret
      exact ⟨!tt, rfl, by have := ht.out; cases tt <;> simpa using this, hBw⟩

end Go.Proofs.Ytdbpgcaodgkcjaa
